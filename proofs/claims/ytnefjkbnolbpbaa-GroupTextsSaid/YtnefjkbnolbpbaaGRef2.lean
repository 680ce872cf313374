/- The document's own functions of a group that go through lists, each by a contract. -/
import Derived.Test.YtnefjkbnolbpbaaGRef
import Derived.Test.YtnefjkbnolbpbaaGNext
namespace Go.Proofs.Ytnefjkbnolbpbaa
open Go.RowKit

set_option maxHeartbeats 1000000 in
theorem refOf_any (A : Option Addr) (c : Nat) (l : List Int) (w : World) (h : ISrc w A l) (hlen : l.length ≤ 9223372036854775807) :
    Calls Try.prog 33 #[.slice A l.length c] w (SaysOf w l) := by
  go_enter Try.func33, Try.ntmps33
  go_wp2
  go_loop [4, 5] (fun g i => ∃ k : Nat, k ≤ l.length ∧ i = .int .i64 (k : Int) ∧ g = .int .u16 (((l.take k).foldl withG 0 : Nat) : Int) ∧ ∀ j (hj : j < l.length), j < k → nodeB l[j] = true) (fun _ i => l.length - (intOf i).toNat)
  case atStart => exact ⟨0, by omega, rfl, rfl, fun j _ h => absurd h (by omega)⟩
  case round =>
    obtain ⟨k, hk, rfl, rfl, hall⟩ := hrel
    by_cases hlt : k < l.length
    · obtain ⟨b, o, rfl, hcell⟩ := h (by omega)
      have hc := hcell k hlt
      have hft := fold_take hlt
      have hgl := fold_lt (l.take k) 0 (by decide)
      have HA := Lib.hid hall
      clear hall hcell h
      cases hn : nodeB l[k]
      · have HB := Lib.hid (all_no hlt hn)
        generalize hxx : l[k] = x at *
        have HX := Lib.hid hxx
        rcases node_no hn with hx | hx
        · clear hxx hn hft
          go_wp2
          go_ret2
          exact SaysOf.bad HB.out
        · have hx0 : decide (x < 0) = false := decide_eq_false (by omega)
          clear hxx hn hft
          go_wp2
          go_ret2
          exact SaysOf.bad HB.out
      · obtain ⟨hx0, hx1⟩ := node_yes hn
        have HN := Lib.hid hn
        have HF := Lib.hid hft
        clear hn hft
        generalize hxx : l[k] = x at *
        have HX := Lib.hid hxx
        clear hxx
        go_wp2_with (go_at_call 17; refine (refWith_any _ _ _ hgl).mono ?_; rintro e w' ⟨rfl, rfl⟩)
        go_round
        case rel =>
          refine ⟨k + 1, by omega, by go_num, by rw [HF.out], fun j hj hjk => ?_⟩
          by_cases e : j = k
          · subst e; rw [HX.out]; exact HN.out
          · exact HA.out j hj (by omega)
        case measure => simp [intOf]; omega
    · have hkl : l.take k = l := List.take_of_length_le (by omega)
      have hg := SaysOf.good (w := w) (all_of fun j hj => hall j hj (by omega))
      rw [hkl]
      have HG := Lib.hid hg
      clear hg hall hkl
      go_wp2
      go_ret2
      exact HG.out

set_option maxHeartbeats 1000000 in
theorem refFirst_any (n : Int) (w : World) : Calls Try.prog 27 #[.int .i64 n] w fun e w' => e = .returned (.int .u16 ((firstG n : Nat) : Int)) ∧ w = w' := by
  go_enter Try.func27, Try.ntmps27
  go_wp2
  go_loop [3, 4] (fun g i => ∃ k : Nat, k ≤ 16 ∧ (k = 0 ∨ (k : Int) ≤ n) ∧ i = .int .i64 (k : Int) ∧ g = .int .u16 ((firstG ((k : Nat) : Int) : Nat) : Int)) (fun _ i => 16 - (intOf i).toNat)
  case atStart => exact ⟨0, by omega, .inl rfl, rfl, rfl⟩
  case round =>
    obtain ⟨k, hk, hkn, rfl, rfl⟩ := hrel
    have hfl := firstG_lt (k : Int)
    by_cases hlt : (k : Int) < n
    · by_cases h16 : k < 16
      · have hs := first_succ h16
        have HS := Lib.hid hs
        clear hs
        go_wp2_with (go_at_call 17; refine (refWith_any _ _ _ hfl).mono ?_; rintro e w' ⟨rfl, rfl⟩)
        go_round
        case rel => exact ⟨k + 1, by omega, .inr (by omega), by go_num, by rw [HS.out]⟩
        case measure => simp [intOf]; omega
      · obtain rfl : k = 16 := by omega
        have he := first_all (n := n) (by omega)
        have HE := Lib.hid he
        clear he
        have h1 : decide ((16 : Int) < n) = true := decide_eq_true (by omega)
        go_wp2
        go_ret
        exact ⟨by rw [HE.out]; rfl, rfl⟩
    · have he : firstG (k : Int) = firstG n := by
        rcases hkn with rfl | hkn
        · rw [first_none (n := n) (by omega)]; rfl
        · rw [show (k : Int) = n from by omega]
      have HE := Lib.hid he
      have h1 : decide ((k : Int) < n) = false := decide_eq_false hlt
      clear he
      go_wp2
      go_ret
      exact ⟨by rw [← HE.out]; rfl, rfl⟩

set_option maxHeartbeats 1000000 in
theorem refList_any (g : Nat) (w : World) (hg : g < 65536) : Calls Try.prog 13 #[.int .u16 (g : Int)] w (FreshI w (listI g)) := by
  have HG := Lib.hid hg
  clear hg
  obtain ⟨i0, hi, hz0, hz1, hz2⟩ := info_parts int_info
  go_enter Try.func13, Try.ntmps13
  go_wp2
  go_loopw [3, 4] (fun v i wr => ∃ k : Nat, k ≤ 16 ∧ i = .int .i64 (k : Int) ∧ wr.ownsRow w.heap.size 3 1 v (gotG g (List.range k)).length (iv (gotG g (List.range k))) ∧ Below w.heap.size w wr) (fun _ i _ => 16 - (intOf i).toNat)
  case atStart => exact ⟨0, by omega, rfl, World.ownsRow_nil _ _ _ _, Below.refl _ _⟩
  case round =>
    obtain ⟨k, hk, rfl, hrow, hbl⟩ := hrel
    by_cases hlt : k < 16
    · have hgl := gotG_length g (List.range k)
      rw [List.length_range] at hgl
      cases hh : hasG g (k : Int)
      · have HH := Lib.hid hh
        have HM := Lib.hid (gotG_miss (List.range k) hh)
        clear hh
        go_wp2_with (go_at_call 15; refine (refHas_any _ _ _ HG.out).mono ?_; rintro e w' ⟨rfl, rfl⟩; rw [HH.out])
        go_roundw
        case rel => exact ⟨k + 1, by omega, by go_num, by rw [List.range_succ, HM.out]; exact hrow, hbl⟩
        case measure => simp [intOf]; omega
      · have HH := Lib.hid hh
        have HM := Lib.hid (gotG_hit (List.range k) hh)
        clear hh
        go_wp2_with (first
          | (go_at_call 15; refine (refHas_any _ _ _ HG.out).mono ?_; rintro e w' ⟨rfl, rfl⟩; rw [HH.out])
          | (at_builtin; refine wpList_append_own _ rfl _ _ 24 rfl w.heap.size 3 i0 (.int .i64 0) 1 8 Try.underlying24 hi hz0 hz1 hz2 rfl (by decide) _ _ _ rfl (hrow.alloc _) ⟨wr.heap.size, 0, none⟩ 1 1 [.int .i64 (k : Int)] rfl rfl (cell_one_new _ _ _) (by simp [Value.oneCell']) (by unfold maxLen; omega) (by omega) (by have := hbl.size; simp; omega) ?_; intro v' w2 hown' hgrow _; have hb2 := ((Below.refl w.heap.size wr).alloc hbl.size _).grown hgrow (by have := hbl.size; simp; omega) (fun j ej => (hrow.lt j ej).1)))
        go_roundw
        case rel => exact ⟨k + 1, by omega, by go_num, by rw [List.range_succ, HM.out, iv_append, List.length_append]; exact hown', hbl.trans hb2⟩
        case measure => simp [intOf]; omega
    · obtain rfl : k = 16 := by omega
      have he : gotG g (List.range 16) = listI g := by rw [← gotG_last, fol_last]
      rw [he] at hrow
      go_wp2
      go_ret
      exact ⟨_, rfl, hrow, hbl⟩

theorem refCount_any (g : Nat) (w : World) (hg : g < 65536) : Calls Try.prog 21 #[.int .u16 (g : Int)] w fun e w' => e = .returned (.int .i64 ((countG g : Nat) : Int)) ∧ Below w.heap.size w w' := by
  rw [← listI_length]
  have HL := fun w => Lib.hid (refList_any g w hg)
  generalize listI g = l at *
  go_enter Try.func21, Try.ntmps21
  go_wp2_with (go_at_call 13; refine (HL _).out.mono ?_; rintro e w1 hf; obtain ⟨A, c, rfl, _, _, hb⟩ := hf.opened; clear hf)
  go_ret
  exact ⟨rfl, hb⟩

theorem nextG_no {g : Nat} {n : Int} (h : nodeB n = false) : nextG g n = -1 := if_neg (by rw [h]; decide)

set_option maxHeartbeats 1000000 in
theorem refNext_yes (g n : Nat) (w : World) (hg : g < 65536) (hn : n ≤ 15) : Calls Try.prog 23 #[.int .u16 (g : Int), .int .i64 (n : Int)] w fun e w' => e = .returned (.int .i64 (nextG g (n : Int))) ∧ w = w' := by
  have hf : folI (n : Int) = folG n := by rw [folI, if_pos (node_nat (by omega)), Int.toNat_natCast]
  rw [nextG_fol, hf]
  have HG := Lib.hid hg
  clear hg hf
  have h1 : decide ((n : Int) < 0) = false := decide_eq_false (by omega)
  go_enter Try.func23, Try.ntmps23
  go_wp2
  go_loop [5] (fun i => ∃ k : Nat, k ≤ 16 ∧ i = .int .i64 ((k : Int) + 1) ∧ ∀ j ∈ (folG n).take k, hasG g (j : Int) = false) (fun i => 17 - (intOf i).toNat)
  case atStart => exact ⟨0, by omega, rfl, fun j h => by simp at h⟩
  case round =>
    obtain ⟨k, hk, rfl, hno⟩ := hrel
    by_cases hlt : k < 16
    · have htk := folG_take n k hlt
      have hm : ((n : Int) + ((k : Int) + 1)) % 16 = (((n + 1 + k) % 16 : Nat) : Int) := by omega
      cases hh : hasG g (((n + 1 + k) % 16 : Nat) : Int)
      · have hno2 : ∀ j ∈ (folG n).take (k + 1), hasG g (j : Int) = false := fun j hj => by
          rw [htk] at hj
          rcases List.mem_append.1 hj with hj | hj
          · exact hno j hj
          · rw [List.mem_singleton.1 hj]; exact hh
        rw [← hm] at hh
        have HH := Lib.hid hh
        have HN := Lib.hid hno2
        clear hh hno hno2 hm htk
        go_wp2_with (go_at_call 15; refine (refHas_any _ _ _ HG.out).mono ?_; rintro e w' ⟨rfl, rfl⟩; rw [HH.out])
        go_round
        case rel => exact ⟨k + 1, by omega, by go_num, HN.out⟩
        case measure => simp [intOf]; omega
      · have hfi := findI_some (g := g) (l := folG n) (p := (folG n).take k) (i := (n + 1 + k) % 16) (by rw [← htk]; exact List.take_prefix _ _) hno hh
        rw [← hm] at hh hfi
        have HH := Lib.hid hh
        have HF := Lib.hid hfi
        clear hh hno hfi hm htk
        go_wp2_with (go_at_call 15; refine (refHas_any _ _ _ HG.out).mono ?_; rintro e w' ⟨rfl, rfl⟩; rw [HH.out])
        go_ret
        exact ⟨by rw [HF.out]; rfl, rfl⟩
    · obtain rfl : k = 16 := by omega
      have hfi := findI_none (g := g) (l := folG n) (fun i hi => hno i (by rw [List.take_of_length_le (by rw [folG_length]; exact Nat.le_refl _)]; exact hi))
      have HF := Lib.hid hfi
      clear hfi hno
      go_wp2
      go_ret
      exact ⟨by rw [HF.out]; rfl, rfl⟩

theorem refNext_any (g : Nat) (n : Int) (w : World) (hg : g < 65536) : Calls Try.prog 23 #[.int .u16 (g : Int), .int .i64 n] w fun e w' => e = .returned (.int .i64 (nextG g n)) ∧ w = w' := by
  cases h : nodeB n
  · rw [nextG_no h]
    rcases node_no h with h' | h'
    · clear h
      go_enter Try.func23, Try.ntmps23
      go_wp2
      go_ret
      exact ⟨rfl, rfl⟩
    · clear h
      have h1 : decide (n < 0) = false := decide_eq_false (by omega)
      go_enter Try.func23, Try.ntmps23
      go_wp2
      go_ret
      exact ⟨rfl, rfl⟩
  · obtain ⟨a, b⟩ := node_yes h
    obtain ⟨k, rfl⟩ := Int.eq_ofNat_of_zero_le a
    exact refNext_yes g k w hg (by omega)

end Go.Proofs.Ytnefjkbnolbpbaa
