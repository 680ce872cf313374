/- The document's Rank, Both, Less, Text and Ints of a group, each by a contract. -/
import Derived.Test.YtnefjkbnolbpbaaGRef2
import Derived.Test.YtnefjkbnolbpbaaGText
namespace Go.Proofs.Ytnefjkbnolbpbaa
open Go.RowKit

set_option maxHeartbeats 1000000 in
theorem refRank_any (g : Nat) (n : Int) (w : World) (hg : g < 65536) : Calls Try.prog 25 #[.int .u16 (g : Int), .int .i64 n] w fun e w' => e = .returned (.int .i64 ((rankG g n : Nat) : Int)) ∧ Below w.heap.size w w' := by
  rw [← belowF_list]
  have HL := fun w => Lib.hid (refList_any g w hg)
  have hll := listI_le g
  generalize listI g = l at *
  go_enter Try.func25, Try.ntmps25
  go_wp2_with (go_at_call 13; refine (HL _).out.mono ?_; rintro e w1 hf; obtain ⟨A, c, rfl, hsrc, _, hb⟩ := hf.opened; clear hf)
  clear HL
  go_loop [6, 7] (fun m i => ∃ k : Nat, k ≤ l.length ∧ i = .int .i64 (k : Int) ∧ m = .int .i64 ((belowF n (l.take k) : Nat) : Int)) (fun _ i => l.length - (intOf i).toNat)
  case atStart => exact ⟨0, by omega, rfl, rfl⟩
  case round =>
    obtain ⟨k, hk, rfl, rfl⟩ := hrel
    have hbl := belowF_le n (l.take k)
    have hbt : (l.take k).length ≤ k := List.length_take_le _ _
    by_cases hlt : k < l.length
    · obtain ⟨b, o, rfl, hcell⟩ := hsrc (by omega)
      have hc := hcell k hlt
      have hs := belowF_succ (n := n) hlt
      clear hcell hsrc
      generalize hxx : l[k] = x at *
      by_cases hx : x < n
      · rw [if_pos hx] at hs
        have HS := Lib.hid hs
        clear hxx hs
        go_wp2
        go_round
        case rel => exact ⟨k + 1, by omega, by go_num, by rw [HS.out]; go_num⟩
        case measure => simp [intOf]; omega
      · rw [if_neg hx] at hs
        have HS := Lib.hid hs
        have h1 : decide (x < n) = false := decide_eq_false hx
        clear hxx hs hx
        go_wp2
        go_round
        case rel => exact ⟨k + 1, by omega, by go_num, by rw [HS.out]; go_num⟩
        case measure => simp [intOf]; omega
    · have hkl : l.take k = l := List.take_of_length_le (by omega)
      rw [hkl]
      clear hkl hbl hbt
      go_wp2
      go_ret
      exact ⟨rfl, hb⟩

set_option maxHeartbeats 1000000 in
theorem refBoth_any (a b : Nat) (w : World) (ha : a < 65536) (hb : b < 65536) : Calls Try.prog 29 #[.int .u16 (a : Int), .int .u16 (b : Int)] w fun e w' => e = .returned (.int .u16 ((bothG a b : Nat) : Int)) ∧ Below w.heap.size w w' := by
  rw [← bothF_list ha]
  have HL := fun w => Lib.hid (refList_any a w ha)
  have hll := listI_le a
  have HB := Lib.hid hb
  clear hb
  generalize listI a = l at *
  go_enter Try.func29, Try.ntmps29
  go_wp2_with (go_at_call 13; refine (HL _).out.mono ?_; rintro e w1 hf; obtain ⟨A, c, rfl, hsrc, _, hbl⟩ := hf.opened; clear hf)
  clear HL
  go_loop [6, 7] (fun m i => ∃ k : Nat, k ≤ l.length ∧ i = .int .i64 (k : Int) ∧ m = .int .u16 ((bothF b (l.take k) : Nat) : Int)) (fun _ i => l.length - (intOf i).toNat)
  case atStart => exact ⟨0, by omega, rfl, rfl⟩
  case round =>
    obtain ⟨k, hk, rfl, rfl⟩ := hrel
    have hbt := bothF_lt b (l.take k)
    by_cases hlt : k < l.length
    · obtain ⟨bb, o, rfl, hcell⟩ := hsrc (by omega)
      have hc := hcell k hlt
      have hs := bothF_succ (b := b) hlt
      clear hcell hsrc
      generalize hxx : l[k] = x at *
      cases hx : hasG b x
      · rw [if_neg (by rw [hx]; decide)] at hs
        have HS := Lib.hid hs
        have HX := Lib.hid hx
        clear hxx hs hx
        go_wp2_with (go_at_call 15; refine (refHas_any _ _ _ HB.out).mono ?_; rintro e w' ⟨rfl, rfl⟩; rw [HX.out])
        go_round
        case rel => exact ⟨k + 1, by omega, by go_num, by rw [HS.out]⟩
        case measure => simp [intOf]; omega
      · rw [if_pos hx] at hs
        have HS := Lib.hid hs
        have HX := Lib.hid hx
        clear hxx hs hx
        go_wp2_with (first | (go_at_call 15; refine (refHas_any _ _ _ HB.out).mono ?_; rintro e w' ⟨rfl, rfl⟩; rw [HX.out]) | (go_at_call 17; refine (refWith_any _ _ _ hbt).mono ?_; rintro e w' ⟨rfl, rfl⟩))
        go_round
        case rel => exact ⟨k + 1, by omega, by go_num, by rw [HS.out]⟩
        case measure => simp [intOf]; omega
    · have hkl : l.take k = l := List.take_of_length_le (by omega)
      rw [hkl]
      clear hkl hbt
      go_wp2
      go_ret
      exact ⟨rfl, hbl⟩

set_option maxHeartbeats 1000000 in
theorem refLess_any (a b : Nat) (w : World) (ha : a < 65536) (hb : b < 65536) : Calls Try.prog 31 #[.int .u16 (a : Int), .int .u16 (b : Int)] w fun e w' => e = .returned (.int .u16 ((lessG a b : Nat) : Int)) ∧ Below w.heap.size w w' := by
  rw [← lessF_list ha hb]
  have HL := fun w => Lib.hid (refList_any b w hb)
  have hll := listI_le b
  have HA := Lib.hid ha
  clear ha
  generalize listI b = l at *
  go_enter Try.func31, Try.ntmps31
  go_wp2_with (go_at_call 13; refine (HL _).out.mono ?_; rintro e w1 hf; obtain ⟨A, c, rfl, hsrc, _, hbl⟩ := hf.opened; clear hf)
  clear HL
  go_loop [0, 6] (fun m i => ∃ k : Nat, k ≤ l.length ∧ i = .int .i64 (k : Int) ∧ m = .int .u16 ((lessF a (l.take k) : Nat) : Int)) (fun _ i => l.length - (intOf i).toNat)
  case atStart => exact ⟨0, by omega, rfl, rfl⟩
  case round =>
    obtain ⟨k, hk, rfl, rfl⟩ := hrel
    have hbt := lessF_lt HA.out (l.take k)
    by_cases hlt : k < l.length
    · obtain ⟨bb, o, rfl, hcell⟩ := hsrc (by omega)
      have hc := hcell k hlt
      have hs := lessF_succ (a := a) hlt
      clear hcell hsrc
      generalize hxx : l[k] = x at *
      have HS := Lib.hid hs
      clear hxx hs
      go_wp2_with (go_at_call 19; refine (refWithout_any _ _ _ hbt).mono ?_; rintro e w' ⟨rfl, rfl⟩)
      go_round
      case rel => exact ⟨k + 1, by omega, by go_num, by rw [HS.out]⟩
      case measure => simp [intOf]; omega
    · have hkl : l.take k = l := List.take_of_length_le (by omega)
      rw [hkl]
      clear hkl hbt
      go_wp2
      go_ret
      exact ⟨rfl, hbl⟩

/-- Are two lists the same? -/
def sameL (l m : List Int) : Bool := l == m
theorem sameL_refl (l : List Int) : sameL l l = true := by simp [sameL]
theorem sameL_of_ne {l m : List Int} (h : l.length ≠ m.length) : sameL l m = false := by
  unfold sameL
  rw [beq_eq_false_iff_ne]
  rintro rfl
  exact h rfl
theorem sameL_of_get {l m : List Int} {k : Nat} (h : k < l.length) (h' : k < m.length) (hne : l[k] ≠ m[k]) : sameL l m = false := by
  unfold sameL
  rw [beq_eq_false_iff_ne]
  rintro rfl
  exact hne rfl
theorem sameL_of_all {l m : List Int} (h : l.length = m.length) (hg : ∀ j (a : j < l.length) (b : j < m.length), l[j] = m[j]) : sameL l m = true := by
  unfold sameL
  rw [beq_iff_eq]
  exact List.ext_getElem h hg

set_option maxHeartbeats 1000000 in
theorem ints_any (A B : Option Addr) (c d : Nat) (l m : List Int) (w : World) (hA : ISrc w A l) (hB : ISrc w B m) (hl : l.length ≤ 9223372036854775807) :
    Calls Try.prog 12 #[.slice A l.length c, .slice B m.length d] w fun e w' => e = .returned (.bool (sameL l m)) ∧ ∃ n, w' = w.drewN n := by
  by_cases hlen : l.length = m.length
  · have hle : l.length ≤ m.length := by omega
    have hge : m.length ≤ l.length := by omega
    have HLen := Lib.hid hlen
    have heq : ((l.length : Int) == (m.length : Int)) = true := by rw [hlen]; simp
    clear hlen
    go_enter Try.func12, Try.ntmps12
    go_wp2
    go_loopw [5] (fun i wr => (∃ k : Nat, k ≤ l.length ∧ i = .int .i64 (k : Int) ∧ ∀ j (a : j < l.length) (b : j < m.length), j < k → l[j] = m[j]) ∧ ∃ n, wr = w.drewN n) (fun i _ => l.length - (intOf i).toNat)
    case atStart => exact ⟨⟨0, by omega, rfl, fun j _ _ h => absurd h (by omega)⟩, 0, rfl⟩
    case round =>
      obtain ⟨⟨k, hk, rfl, hall⟩, n, rfl⟩ := hrel
      by_cases hlt : k < l.length
      · have hlt' : k < m.length := by omega
        obtain ⟨b1, o1, rfl, hc1⟩ := hA (by omega)
        obtain ⟨b2, o2, rfl, hc2⟩ := hB (by omega)
        have g1 := hc1 k hlt
        have g2 := hc2 k hlt'
        have HAll := Lib.hid hall
        clear hall hc1 hc2 hA hB
        by_cases hx : l[k] = m[k]
        · have HX := Lib.hid hx
          have e1 : (l[k] == m[k]) = true := by rw [hx]; simp
          clear hx
          go_wp2
          go_quiet (fail)
          go_wp2
          go_roundw
          case rel =>
            refine ⟨⟨k + 1, by omega, by go_num, fun j a b h => ?_⟩, _, rfl⟩
            by_cases e : j = k
            · subst e; exact HX.out
            · exact HAll.out j a b (by omega)
          case measure => simp [intOf]; omega
        · have HS := Lib.hid (sameL_of_get hlt hlt' hx)
          have e1 : (l[k] == m[k]) = false := by rw [beq_eq_false_iff_ne]; exact hx
          clear hx
          go_wp2
          go_quiet (fail)
          go_wp2
          go_ret
          exact ⟨by rw [HS.out]; rfl, n + nq, by rw [World.drewN_drewN]⟩
      · have hs := sameL_of_all HLen.out (fun j a b => hall j a b (by omega))
        have HS := Lib.hid hs
        clear hs hall
        go_wp2
        go_ret
        exact ⟨by rw [HS.out]; rfl, _, rfl⟩
  · have HS := Lib.hid (sameL_of_ne hlen)
    have heq : ((l.length : Int) == (m.length : Int)) = false := by rw [beq_eq_false_iff_ne]; omega
    clear hlen
    go_enter Try.func12, Try.ntmps12
    go_wp2
    go_ret
    exact ⟨by rw [HS.out]; rfl, 0, rfl⟩

end Go.Proofs.Ytnefjkbnolbpbaa
