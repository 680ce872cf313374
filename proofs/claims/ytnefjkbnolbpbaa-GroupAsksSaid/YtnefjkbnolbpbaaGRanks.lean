/- GroupRanks, its walk. -/
import Derived.Test.YtnefjkbnolbpbaaGTexts
namespace Go.Proofs.Ytnefjkbnolbpbaa
open Go.RowKit

/-- A list that rises: as many of its numbers are below the one at a place as the place says. -/
theorem rises_below {l : List Int} (h : l.Pairwise (· < ·)) {k : Nat} (hk : k < l.length) : belowF l[k] l = k := by
  have hs : l.take k ++ l.drop k = l := List.take_append_drop k l
  have h1 : ∀ x ∈ l.take k, x < l[k] := fun x hx => by
    obtain ⟨j, hj, rfl⟩ := List.getElem_of_mem hx
    rw [List.length_take] at hj
    rw [List.getElem_take]
    exact List.pairwise_iff_getElem.1 h j k (by omega) hk (by omega)
  have h2 : ∀ x ∈ l.drop k, ¬ x < l[k] := fun x hx => by
    obtain ⟨j, hj, rfl⟩ := List.getElem_of_mem hx
    rw [List.length_drop] at hj
    rw [List.getElem_drop]
    rcases Nat.eq_zero_or_pos j with rfl | hj0
    · simp
    · have := List.pairwise_iff_getElem.1 h k (k + j) hk (by omega) (by omega)
      omega
  unfold belowF
  generalize l[k] = x at *
  rw [← hs, List.filter_append, List.length_append, List.filter_eq_self.2 (fun x hx => decide_eq_true (h1 x hx)), List.filter_eq_nil_iff.2 (fun x hx => by rw [decide_eq_true_eq]; exact h2 x hx)]
  rw [List.length_take, List.length_nil]
  omega
theorem listI_rises (g : Nat) : (listI g).Pairwise (· < ·) := by
  unfold listI listG
  rw [List.pairwise_map]
  refine List.Pairwise.filter _ ?_
  refine List.Pairwise.imp (R := (· < ·)) (fun h => by omega) ?_
  exact List.pairwise_lt_range
theorem rankG_get {g k : Nat} (hk : k < (listI g).length) : rankG g (listI g)[k] = k := by
  rw [← belowF_list]
  exact rises_below (listI_rises g) hk

theorem or_parts {a b : Nat} (ha : a < 65536) (hb : b < 65536) : bothG a b ||| lessG a b = a := by
  refine bits_ext (or_lt (bothG_lt ha) (lessG_lt ha)) ha fun i hi => ?_
  rw [Nat.testBit_or, bit_both, bit_less hb hi]
  cases a.testBit i <;> cases b.testBit i <;> rfl
theorem and_parts {a b : Nat} (ha : a < 65536) (hb : b < 65536) : bothG a b &&& lessG a b = 0 := by
  refine bits_ext (bothG_lt (bothG_lt ha)) (by decide) fun i hi => ?_
  rw [Nat.testBit_and, bit_both, bit_less hb hi, Nat.zero_testBit]
  cases a.testBit i <;> cases b.testBit i <;> rfl
theorem filter_parts {α : Type} (p q : α → Bool) (l : List α) : (l.filter fun x => p x && q x).length + (l.filter fun x => p x && !q x).length = (l.filter p).length := by
  induction l with
  | nil => rfl
  | cons x l ih =>
    simp only [List.filter_cons]
    cases hp : p x <;> cases hq : q x <;> simp [← ih] <;> omega
theorem count_parts {a b : Nat} (hb : b < 65536) : countG (bothG a b) + countG (lessG a b) = countG a := by
  unfold countG listG
  rw [← filter_parts (fun i : Nat => a.testBit i) (fun i : Nat => b.testBit i) (List.range 16)]
  congr 2
  · exact List.filter_congr fun i _ => bit_both a b i
  · exact List.filter_congr fun i hi => bit_less hb (List.mem_range.1 hi)
theorem both_comm (a b : Nat) : bothG b a = bothG a b := Nat.and_comm ..

theorem has_eq (g : Nat) (n : Int) (v : Bool) (hv : hasG g n = v) (w : World) (hg : g < 65536) : Calls Try.prog 14 #[.int .u16 (g : Int), .int .i64 n] w fun e w' => e = .returned (.bool v) ∧ w' = w := by
  subst hv
  exact (has_any g n w hg).mono fun _ _ h => ⟨h.1, h.2.symm⟩
theorem less_eq (a b : Nat) (w : World) (ha : a < 65536) (hb : b < 65536) : Calls Try.prog 30 #[.int .u16 (a : Int), .int .u16 (b : Int)] w fun e w' => e = .returned (.int .u16 ((lessG a b : Nat) : Int)) ∧ w' = w :=
  (less_any a b w ha hb).mono fun _ _ h => ⟨h.1, h.2.symm⟩
theorem rank_eq (g : Nat) (n : Int) (k : Nat) (hk : rankG g n = k) (w : World) (hg : g < 65536) : Calls Try.prog 24 #[.int .u16 (g : Int), .int .i64 n] w fun e w' => e = .returned (.int .i64 (k : Int)) ∧ ∃ m, w' = w.drewN m := by
  subst hk
  exact rank_any g n w hg

set_option maxRecDepth 100000 in
set_option maxHeartbeats 4000000 in
theorem ranks_walk (a b : Nat) (w : World) (ha : a < 65536) (hb : b < 65536) : Calls Try.prog 8 #[.int .u16 (a : Int), .int .u16 (b : Int)] w fun e w' => e = .returned (.bool true) ∧ Below w.heap.size w w' := by
  have hor : bits .or .u16 ((bothG a b : Nat) : Int) ((lessG a b : Nat) : Int) = (a : Int) := by rw [u16_or_nat _ _ (bothG_lt ha) (lessG_lt ha), or_parts ha hb]
  have hand : bits .and .u16 ((bothG a b : Nat) : Int) ((lessG a b : Nat) : Int) = 0 := by rw [u16_and_nat _ _ (bothG_lt ha) (lessG_lt ha), and_parts ha hb]; rfl
  have hcnt : countG (bothG a b) + countG (lessG a b) = (listI a).length := by rw [count_parts hb, listI_length]
  have hu := bothG_lt (b := b) ha
  have hv := lessG_lt (b := b) ha
  have c1 := countG_le (bothG a b)
  have c2 := countG_le (lessG a b)
  have RK := fun W k (hk : k < (listI a).length) => rank_eq a (listI a)[k] k (rankG_get hk) W ha
  have HL1 := fun W k (hk : k < (listI a).length) v (h : hasG b (listI a)[k] = v) => has_eq (lessG a b) (listI a)[k] (!v) (by rw [has_less hb, h, mem_listI.1 (List.getElem_mem hk), Bool.true_and]) W hv
  have HB1 := fun W k (hk : k < (listI a).length) v (h : hasG b (listI a)[k] = v) => has_eq b (listI a)[k] v h W hb
  have LS := fun W => less_eq a b W ha hb
  have BO1 := fun W => both_any a b W ha hb
  have BO2 : ∀ W, Calls Try.prog 28 #[.int .u16 (b : Int), .int .u16 (a : Int)] W fun e w' => e = .returned (.int .u16 ((bothG a b : Nat) : Int)) ∧ W = w' := fun W => by rw [← both_comm a b]; exact both_any b a W hb ha
  have CU := fun W => count_any (bothG a b) W hu
  have CV := fun W => count_any (lessG a b) W hv
  have LI := fun W => list_any a W ha
  have hll := listI_le a
  have HRK := Lib.hid RK; have HHL := Lib.hid HL1; have HHB := Lib.hid HB1; have HLS := Lib.hid LS; have HBO1 := Lib.hid BO1; have HBO2 := Lib.hid BO2
  have HCU := Lib.hid CU; have HCV := Lib.hid CV; have HLI := Lib.hid LI; have HCNT := Lib.hid hcnt; have HOR := Lib.hid hor; have HAND := Lib.hid hand
  clear RK HL1 HB1 LS BO1 BO2 CU CV LI hcnt hor hand ha hb
  generalize listI a = l at *
  generalize bothG a b = u at *
  generalize lessG a b = v at *
  go_enter Try.func8, Try.ntmps8
  go_wp2_with fail
  refine (alive_any _).mono ?_
  rintro e w0 ⟨rfl, b0⟩
  go_wp2_with fail
  refine (HLI.out _).mono ?_
  rintro e w1 hf
  obtain ⟨A, c, rfl, hsrc, _, b1⟩ := hf.opened
  clear hf
  have hb1 := b0.trans (b1.mono b0.size)
  clear b0 b1
  go_wp2_with fail
  go_loopw [15] (fun i wr => (∃ k : Nat, k ≤ l.length ∧ i = .int .i64 (k : Int)) ∧ ∃ n, wr = w1.drewN n) (fun i _ => l.length - (intOf i).toNat)
  case atStart => exact ⟨⟨0, by omega, rfl⟩, 0, rfl⟩
  case round =>
    obtain ⟨⟨k, hk, rfl⟩, hwr⟩ := hrel
    by_cases hlt : k < l.length
    · obtain ⟨bb, o, rfl, hcell⟩ := hsrc (by omega)
      have hc : wr.cell? ⟨bb, o + k, none⟩ = some (.int .i64 l[k]) := by
        obtain ⟨n, rfl⟩ := hwr
        exact hcell k hlt
      have HWR := Lib.hid hwr
      clear hwr
      have R1 := fun W => HRK.out W k hlt
      have R2 := fun W v h => HHL.out W k hlt v h
      have R3 := fun W v h => HHB.out W k hlt v h
      clear hcell hsrc
      generalize hxx : l[k] = x at *
      clear hxx
      cases hbx : hasG b x
      · have R2' := fun W => R2 W false hbx
        have R3' := fun W => R3 W false hbx
        have HR1 := Lib.hid R1; have HR2 := Lib.hid R2'; have HR3 := Lib.hid R3'
        clear R1 R2 R3 R2' R3' hbx
        go_wp2_with fail
        go_quiet ((first
          | (go_at_call 24; exact Calls.quiet_of (HR1.out _))
          | (go_at_call 30; exact Calls.quiet_of_same (HLS.out _))
          | (go_at_call 14; exact Calls.quiet_of_same (HR2.out _))
          | (go_at_call 14; exact Calls.quiet_of_same (HR3.out _))))
        go_wp2_with fail
        go_roundw
        case rel => exact ⟨⟨k + 1, by omega, by go_num⟩, by obtain ⟨n, rfl⟩ := HWR.out; exact ⟨n + nq, by rw [World.drewN_drewN]⟩⟩
        case measure => simp [intOf]; omega
      · have R2' := fun W => R2 W true hbx
        have R3' := fun W => R3 W true hbx
        have HR1 := Lib.hid R1; have HR2 := Lib.hid R2'; have HR3 := Lib.hid R3'
        clear R1 R2 R3 R2' R3' hbx
        go_wp2_with fail
        go_quiet ((first
          | (go_at_call 24; exact Calls.quiet_of (HR1.out _))
          | (go_at_call 30; exact Calls.quiet_of_same (HLS.out _))
          | (go_at_call 14; exact Calls.quiet_of_same (HR2.out _))
          | (go_at_call 14; exact Calls.quiet_of_same (HR3.out _))))
        go_wp2_with fail
        go_roundw
        case rel => exact ⟨⟨k + 1, by omega, by go_num⟩, by obtain ⟨n, rfl⟩ := HWR.out; exact ⟨n + nq, by rw [World.drewN_drewN]⟩⟩
        case measure => simp [intOf]; omega
    · have hsz : l.length ≤ k := by omega
      have hb2 : Below w.heap.size w wr := by obtain ⟨n, rfl⟩ := hwr; exact below_drewN hb1 n
      have hs2 : ISrc wr A l := by obtain ⟨n, rfl⟩ := hwr; exact hsrc
      clear hwr hb1 hsrc HHL HHB HRK
      go_wp2_with fail
      refine (HBO1.out _).mono ?_
      rintro e w' ⟨rfl, rfl⟩
      go_wp2_with fail
      refine (HLS.out _).mono ?_
      rintro e w' ⟨rfl, rfl⟩
      have hor := HOR.out
      have hand := HAND.out
      go_wp2_with fail
      refine (HCU.out _).mono ?_
      rintro e w2 ⟨rfl, n2, rfl⟩
      go_wp2_with fail
      refine (HCV.out _).mono ?_
      rintro e w3 ⟨rfl, n3, rfl⟩
      have hcnt : ((countG u : Nat) : Int) + ((countG v : Nat) : Int) = (l.length : Int) := by have := HCNT.out; omega
      go_wp2_with fail
      refine (HBO2.out _).mono ?_
      rintro e w' ⟨rfl, rfl⟩
      go_wp2_with fail
      refine (HLI.out _).mono ?_
      rintro e w4 hf
      obtain ⟨A4, c4, rfl, hs4, _, b4⟩ := hf.opened
      clear hf
      have hb3 := below_drewN hb2 (n2 + n3)
      have hb4 := hb3.trans (b4.mono hb3.size)
      have hs3 := (hs2.drewN (n2 + n3)).below b4
      clear hor hand hcnt hs2 hb2 hb3 b4
      go_wp2_with fail
      refine (ints_any _ _ _ _ l l _ hs4 hs3 (by omega)).mono ?_
      rintro e w5 ⟨rfl, n5, rfl⟩
      rw [sameL_refl]
      go_wp2_with fail
      go_ret
      exact ⟨rfl, below_drewN hb4 n5⟩

end Go.Proofs.Ytnefjkbnolbpbaa
