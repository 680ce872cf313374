/- The conditions of a draft, each asked by its own method: by contracts. -/
import Derived.Test.YteljalgfkmnamaaLLeast
namespace Go.Proofs.Yteljalgfkmnamaa
open Go.RowKit Go.Shelf

def holdB (x : Pl) (k : Nat) : Bool := decide (holdL x k)
theorem in_iff {l n m : Int} {b : Bool} (h : (l ≤ n ∧ n ≤ m) ↔ b = true) : inL l n m = b := by
  unfold inL
  cases b
  · exact decide_eq_false fun g => absurd (h.1 g) Bool.false_ne_true
  · exact decide_eq_true (h.2 rfl)
theorem in_yes {l n m : Int} (h : l ≤ n ∧ n ≤ m) : inL l n m = true := decide_eq_true h
theorem in_no {l n m : Int} (h : ¬ (l ≤ n ∧ n ≤ m)) : inL l n m = false := decide_eq_false h
/-- What is asked of one number alone. -/
theorem hold_in {x : Pl} {k : Nat} {l n m : Int} (h : holdL x k ↔ (l ≤ n ∧ n ≤ m)) : holdB x k = inL l n m := by
  unfold holdB inL
  exact decide_eq_decide.2 h
theorem within_is {n l m : Int} {b : Bool} (h : inL l n m = b) (w : World) : Calls Try.prog 67 #[.int .i64 n, .int .i64 l, .int .i64 m] w fun e w' => e = .returned (.bool b) ∧ w' = w := by
  subst h
  exact within_any n l m w

section
variable {x : Pl} {g : Nat} {t : TypeId} {w : World}

set_option maxHeartbeats 1000000 in
theorem nodesHold_any (hW : Whole w g t x.cells) :
    Calls Try.prog 51 #[.pointer (some ⟨g, 0, none⟩)] w fun e w' => e = .returned (.bool (holdB x 1)) ∧ ∃ n, w' = w.drewN n := by
  obtain ⟨⟨c0, c1, _⟩, _⟩ := l_cells hW
  clear hW
  by_cases h : 4 ≤ x.nodes ∧ x.nodes ≤ 16
  · have e0 : (x.nodes - 2).tdiv 2 = (x.nodes - 2) / 2 := Int.tdiv_eq_ediv_of_nonneg (by omega)
    have H := Lib.hid (show holdB x 1 = inL 0 x.kk ((x.nodes - 2) / 2) from hold_in (by
      show ((4 ≤ x.nodes ∧ x.nodes ≤ 16) ∧ (0 ≤ x.kk ∧ 2 * x.kk + 2 ≤ x.nodes)) ↔ _
      omega))
    have HA := Lib.hid (within_is (in_yes h))
    have HB := Lib.hid (within_any x.kk 0 ((x.nodes - 2) / 2))
    generalize inL 0 x.kk ((x.nodes - 2) / 2) = b at *
    obtain ⟨h1, h2⟩ := h
    go_enter Try.func51, Try.ntmps51
    go_wp2
    go_quiet ((first | (go_at_call 67; with_reducible exact Calls.quiet_of_same (HA.out _)) | (go_at_call 67; with_reducible exact Calls.quiet_of_same (HB.out _))))
    go_wp2
    go_ret
    exact ⟨by rw [H.out]; rfl, _, rfl⟩
  · have H := Lib.hid (show holdB x 1 = false from decide_eq_false fun k => h k.1)
    have HA := Lib.hid (within_is (in_no h))
    clear h
    go_enter Try.func51, Try.ntmps51
    go_wp2
    go_quiet ((go_at_call 67; with_reducible exact Calls.quiet_of_same (HA.out _)))
    go_wp2
    go_ret
    exact ⟨by rw [H.out]; rfl, _, rfl⟩

set_option maxHeartbeats 1000000 in
theorem delaysHold_any (hW : Whole w g t x.cells) :
    Calls Try.prog 52 #[.pointer (some ⟨g, 0, none⟩)] w fun e w' => e = .returned (.bool (holdB x 2)) ∧ ∃ n, w' = w.drewN n := by
  obtain ⟨_, ⟨_, c5, c6, c7⟩, _⟩ := l_cells hW
  clear hW
  by_cases h : 1 ≤ x.air ∧ x.air ≤ 1048576
  · have HA := Lib.hid (within_is (in_yes h))
    by_cases h2 : 0 ≤ x.dmin
    · have H := Lib.hid (show holdB x 2 = inL x.dmin x.dmax 1048576 from hold_in (by
        show ((1 ≤ x.air ∧ x.air ≤ 1048576) ∧ 0 ≤ x.dmin ∧ (x.dmin ≤ x.dmax ∧ x.dmax ≤ 1048576)) ↔ _
        omega))
      have HB := Lib.hid (within_any x.dmax x.dmin 1048576)
      generalize inL x.dmin x.dmax 1048576 = b at *
      clear h
      go_enter Try.func52, Try.ntmps52
      go_wp2
      go_quiet ((first | (go_at_call 67; with_reducible exact Calls.quiet_of_same (HA.out _)) | (go_at_call 67; with_reducible exact Calls.quiet_of_same (HB.out _))))
      go_wp2
      go_ret
      exact ⟨by rw [H.out]; rfl, _, rfl⟩
    · have H := Lib.hid (show holdB x 2 = false from decide_eq_false fun k => h2 k.2.1)
      have d2 : decide (0 ≤ x.dmin) = false := decide_eq_false h2
      clear h h2
      go_enter Try.func52, Try.ntmps52
      go_wp2
      go_quiet ((go_at_call 67; with_reducible exact Calls.quiet_of_same (HA.out _)))
      go_wp2
      go_ret
      exact ⟨by rw [H.out]; rfl, _, rfl⟩
  · have H := Lib.hid (show holdB x 2 = false from decide_eq_false fun k => h k.1)
    have HA := Lib.hid (within_is (in_no h))
    clear h
    go_enter Try.func52, Try.ntmps52
    go_wp2
    go_quiet ((go_at_call 67; with_reducible exact Calls.quiet_of_same (HA.out _)))
    go_wp2
    go_ret
    exact ⟨by rw [H.out]; rfl, _, rfl⟩

set_option maxHeartbeats 1000000 in
theorem ticksHold_any (hW : Whole w g t x.cells) :
    Calls Try.prog 53 #[.pointer (some ⟨g, 0, none⟩)] w fun e w' => e = .returned (.bool (holdB x 3)) ∧ ∃ n, w' = w.drewN n := by
  obtain ⟨⟨_, _, c2, _⟩, _, ⟨c8, _⟩, _⟩ := l_cells hW
  clear hW
  by_cases h : 1 ≤ x.slot ∧ x.slot ≤ 1048576
  · have HA := Lib.hid (within_is (in_yes h))
    have H := Lib.hid (show holdB x 3 = inL 4 x.rho 1048576 from hold_in (by
      show ((1 ≤ x.slot ∧ x.slot ≤ 1048576) ∧ (4 ≤ x.rho ∧ x.rho ≤ 1048576)) ↔ _
      omega))
    have HB := Lib.hid (within_any x.rho 4 1048576)
    generalize inL 4 x.rho 1048576 = b at *
    clear h
    go_enter Try.func53, Try.ntmps53
    go_wp2_with (first | (go_at_call 67; with_reducible refine (HA.out _).mono ?_; rintro e' w1 ⟨rfl, rfl⟩) | (go_at_call 67; with_reducible refine (HB.out _).mono ?_; rintro e' w1 ⟨rfl, rfl⟩))
    go_ret
    exact ⟨by rw [H.out]; rfl, 0, rfl⟩
  · have H := Lib.hid (show holdB x 3 = false from decide_eq_false fun k => h k.1)
    have HA := Lib.hid (within_is (in_no h))
    clear h
    go_enter Try.func53, Try.ntmps53
    go_wp2_with (go_at_call 67; with_reducible refine (HA.out _).mono ?_; rintro e' w1 ⟨rfl, rfl⟩)
    go_ret
    exact ⟨by rw [H.out]; rfl, 0, rfl⟩

set_option maxHeartbeats 1000000 in
theorem piHolds_any (T : TickL x) (hW : Whole w g t x.cells) :
    Calls Try.prog 54 #[.pointer (some ⟨g, 0, none⟩)] w fun e w' => e = .returned (.bool (holdB x 4)) ∧ ∃ n, w' = w.drewN n := by
  obtain ⟨_, _, ⟨_, c, _, _⟩, _, _⟩ := l_cells hW
  have HW := Lib.hid hW
  have H := Lib.hid (show holdB x 4 = inL (lPi x) x.pi 1048576 from hold_in Iff.rfl)
  have HL := Lib.hid (fun W (h : Whole W g t x.cells) => leastPi_any T h)
  have HA := Lib.hid (within_any x.pi (lPi x) 1048576)
  generalize inL (lPi x) x.pi 1048576 = b at *
  generalize lPi x = l at *
  clear hW
  go_enter Try.func54, Try.ntmps54
  go_wp2
  go_quiet ((first | (go_at_call 41; refine Calls.quiet_of (HL.out _ ?_); exact HW.out) | (go_at_call 67; with_reducible exact Calls.quiet_of_same (HA.out _))))
  go_wp2
  go_ret
  exact ⟨by rw [H.out]; rfl, _, rfl⟩

set_option maxHeartbeats 1000000 in
theorem windowHolds_any (T : TickL x) (p1 : 0 ≤ x.pi) (p2 : x.pi ≤ 1048576) (hW : Whole w g t x.cells) :
    Calls Try.prog 55 #[.pointer (some ⟨g, 0, none⟩)] w fun e w' => e = .returned (.bool (holdB x 5)) ∧ ∃ n, w' = w.drewN n := by
  obtain ⟨_, ⟨c, _, _, _⟩, _, _, _⟩ := l_cells hW
  have HW := Lib.hid hW
  have H := Lib.hid (show holdB x 5 = inL (lWin x) x.window 1048576 from hold_in Iff.rfl)
  have HL := Lib.hid (fun W (h : Whole W g t x.cells) => leastWin_any T p1 p2 h)
  have HA := Lib.hid (within_any x.window (lWin x) 1048576)
  generalize inL (lWin x) x.window 1048576 = b at *
  generalize lWin x = l at *
  clear hW
  go_enter Try.func55, Try.ntmps55
  go_wp2
  go_quiet ((first | (go_at_call 42; refine Calls.quiet_of (HL.out _ ?_); exact HW.out) | (go_at_call 67; with_reducible exact Calls.quiet_of_same (HA.out _))))
  go_wp2
  go_ret
  exact ⟨by rw [H.out]; rfl, _, rfl⟩

set_option maxHeartbeats 1000000 in
theorem capHolds_any (T : TickL x) (hW : Whole w g t x.cells) :
    Calls Try.prog 56 #[.pointer (some ⟨g, 0, none⟩)] w fun e w' => e = .returned (.bool (holdB x 6)) ∧ ∃ n, w' = w.drewN n := by
  obtain ⟨_, _, ⟨_, _, c, _⟩, _, _⟩ := l_cells hW
  have HW := Lib.hid hW
  have H := Lib.hid (show holdB x 6 = inL (lCap x) x.cap 1048576 from hold_in Iff.rfl)
  have HL := Lib.hid (fun W (h : Whole W g t x.cells) => leastCap_any T h)
  have HA := Lib.hid (within_any x.cap (lCap x) 1048576)
  generalize inL (lCap x) x.cap 1048576 = b at *
  generalize lCap x = l at *
  clear hW
  go_enter Try.func56, Try.ntmps56
  go_wp2
  go_quiet ((first | (go_at_call 43; refine Calls.quiet_of (HL.out _ ?_); exact HW.out) | (go_at_call 67; with_reducible exact Calls.quiet_of_same (HA.out _))))
  go_wp2
  go_ret
  exact ⟨by rw [H.out]; rfl, _, rfl⟩

set_option maxHeartbeats 1000000 in
theorem sendOffHolds_any (p1 : 0 ≤ x.pi) (p2 : x.pi ≤ 1048576) (w1 : 0 ≤ x.window) (w2 : x.window ≤ 1048576) (k1 : 0 ≤ x.cap) (k2 : x.cap ≤ 1048576) (hW : Whole w g t x.cells) :
    Calls Try.prog 57 #[.pointer (some ⟨g, 0, none⟩)] w fun e w' => e = .returned (.bool (holdB x 7)) ∧ ∃ n, w' = w.drewN n := by
  obtain ⟨⟨_, _, _, c⟩, _, _, _, _⟩ := l_cells hW
  have HW := Lib.hid hW
  have H := Lib.hid (show holdB x 7 = inL (lSend x) x.sendOff 1048576 from hold_in Iff.rfl)
  have HL := Lib.hid (fun W (h : Whole W g t x.cells) => leastSend_any p1 p2 w1 w2 k1 k2 h)
  have HA := Lib.hid (within_any x.sendOff (lSend x) 1048576)
  generalize inL (lSend x) x.sendOff 1048576 = b at *
  generalize lSend x = l at *
  clear hW
  go_enter Try.func57, Try.ntmps57
  go_wp2
  go_quiet ((first | (go_at_call 44; refine Calls.quiet_of (HL.out _ ?_); exact HW.out) | (go_at_call 67; with_reducible exact Calls.quiet_of_same (HA.out _))))
  go_wp2
  go_ret
  exact ⟨by rw [H.out]; rfl, _, rfl⟩

set_option maxHeartbeats 1000000 in
theorem slotHolds_any (T : TickL x) (p1 : 0 ≤ x.pi) (p2 : x.pi ≤ 1048576) (w1 : 0 ≤ x.window) (w2 : x.window ≤ 1048576) (k1 : 0 ≤ x.cap) (k2 : x.cap ≤ 1048576) (s1 : 0 ≤ x.sendOff) (s2 : x.sendOff ≤ 1048576) (hW : Whole w g t x.cells) :
    Calls Try.prog 58 #[.pointer (some ⟨g, 0, none⟩)] w fun e w' => e = .returned (.bool (holdB x 8)) ∧ ∃ n, w' = w.drewN n := by
  obtain ⟨⟨_, _, c2, _⟩, _⟩ := l_cells hW
  have HW := Lib.hid hW
  have H := Lib.hid (show holdB x 8 = decide (lSlot x ≤ x.slot) from rfl)
  have HL := Lib.hid (fun W (h : Whole W g t x.cells) => leastSlot_any T p1 p2 w1 w2 k1 k2 s1 s2 h)
  generalize lSlot x = l at *
  clear hW
  go_enter Try.func58, Try.ntmps58
  go_wp2
  go_quiet ((go_at_call 45; refine Calls.quiet_of (HL.out _ ?_); exact HW.out))
  go_wp2
  go_ret
  exact ⟨by rw [H.out]; rfl, _, rfl⟩

set_option maxHeartbeats 1000000 in
theorem queueHolds_any (hW : Whole w g t x.cells) :
    Calls Try.prog 59 #[.pointer (some ⟨g, 0, none⟩)] w fun e w' => e = .returned (.bool (holdB x 9)) ∧ ∃ n, w' = w.drewN n := by
  obtain ⟨_, _, _, ⟨c12, c13, c14, _⟩, _⟩ := l_cells hW
  clear hW
  by_cases h : 1 ≤ x.queue ∧ x.queue ≤ 64
  · have HA := Lib.hid (within_is (in_yes h))
    by_cases h2 : 1 ≤ x.burst ∧ x.burst ≤ 8
    · have HB := Lib.hid (within_is (in_yes h2))
      have H := Lib.hid (show holdB x 9 = inL 1 x.payload 32 from hold_in (by
        show (((1 ≤ x.queue ∧ x.queue ≤ 64) ∧ (1 ≤ x.burst ∧ x.burst ≤ 8)) ∧ (1 ≤ x.payload ∧ x.payload ≤ 32)) ↔ _
        omega))
      have HC := Lib.hid (within_any x.payload 1 32)
      generalize inL 1 x.payload 32 = b at *
      clear h h2
      go_enter Try.func59, Try.ntmps59
      go_wp2_with (first | (go_at_call 67; with_reducible refine (HA.out _).mono ?_; rintro e' w1 ⟨rfl, rfl⟩) | (go_at_call 67; with_reducible refine (HB.out _).mono ?_; rintro e' w1 ⟨rfl, rfl⟩) | (go_at_call 67; with_reducible refine (HC.out _).mono ?_; rintro e' w1 ⟨rfl, rfl⟩))
      go_ret
      exact ⟨by rw [H.out]; rfl, 0, rfl⟩
    · have HB := Lib.hid (within_is (in_no h2))
      have H := Lib.hid (show holdB x 9 = false from decide_eq_false fun k => h2 k.1.2)
      clear h h2
      go_enter Try.func59, Try.ntmps59
      go_wp2_with (first | (go_at_call 67; with_reducible refine (HA.out _).mono ?_; rintro e' w1 ⟨rfl, rfl⟩) | (go_at_call 67; with_reducible refine (HB.out _).mono ?_; rintro e' w1 ⟨rfl, rfl⟩))
      go_ret
      exact ⟨by rw [H.out]; rfl, 0, rfl⟩
  · have HA := Lib.hid (within_is (in_no h))
    have H := Lib.hid (show holdB x 9 = false from decide_eq_false fun k => h k.1.1)
    clear h
    go_enter Try.func59, Try.ntmps59
    go_wp2_with (go_at_call 67; with_reducible refine (HA.out _).mono ?_; rintro e' w1 ⟨rfl, rfl⟩)
    go_ret
    exact ⟨by rw [H.out]; rfl, 0, rfl⟩

set_option maxHeartbeats 1000000 in
theorem deltaHolds_any (T : TickL x) (h9 : holdL x 9) (p1 : 0 ≤ x.pi) (p2 : x.pi ≤ 1048576) (hW : Whole w g t x.cells) :
    Calls Try.prog 60 #[.pointer (some ⟨g, 0, none⟩)] w fun e w' => e = .returned (.bool (holdB x 10)) ∧ ∃ n, w' = w.drewN n := by
  obtain ⟨_, _, ⟨_, _, _, c11⟩, _⟩ := l_cells hW
  have HW := Lib.hid hW
  have m1 := T.m1
  have m2 := T.m2
  have H := Lib.hid (show holdB x 10 = inL (lDel x) x.delta (64 * rdL x) from hold_in Iff.rfl)
  have HL := Lib.hid (fun W (h : Whole W g t x.cells) => leastDel_any T h9 p1 p2 h)
  have HR := Lib.hid (fun W (h : Whole W g t x.cells) => round_any T h)
  have HA := Lib.hid (within_any x.delta (lDel x) (64 * rdL x))
  generalize inL (lDel x) x.delta (64 * rdL x) = b at *
  generalize lDel x = l at *
  generalize rdL x = m at *
  clear hW
  go_enter Try.func60, Try.ntmps60
  go_wp2
  go_quiet ((first
    | (go_at_call 46; refine Calls.quiet_of (HL.out _ ?_); exact HW.out)
    | (go_at_call 63; refine Calls.quiet_of (HR.out _ ?_); exact HW.out)
    | (go_at_call 67; with_reducible exact Calls.quiet_of_same (HA.out _))))
  go_wp2
  go_ret
  exact ⟨by rw [H.out]; rfl, _, rfl⟩

set_option maxHeartbeats 1000000 in
theorem horizonHolds_any (T : TickL x) (hW : Whole w g t x.cells) :
    Calls Try.prog 61 #[.pointer (some ⟨g, 0, none⟩)] w fun e w' => e = .returned (.bool (holdB x 11)) ∧ ∃ n, w' = w.drewN n := by
  obtain ⟨_, _, _, ⟨_, _, _, c⟩, _⟩ := l_cells hW
  have HW := Lib.hid hW
  have H := Lib.hid (show holdB x 11 = inL (lHor x) x.horizon 2147483648 from hold_in Iff.rfl)
  have HL := Lib.hid (fun W (h : Whole W g t x.cells) => leastHor_any T h)
  have HA := Lib.hid (within_any x.horizon (lHor x) 2147483648)
  generalize inL (lHor x) x.horizon 2147483648 = b at *
  generalize lHor x = l at *
  clear hW
  go_enter Try.func61, Try.ntmps61
  go_wp2
  go_quiet ((first | (go_at_call 47; refine Calls.quiet_of (HL.out _ ?_); exact HW.out) | (go_at_call 67; with_reducible exact Calls.quiet_of_same (HA.out _))))
  go_wp2
  go_ret
  exact ⟨by rw [H.out]; rfl, _, rfl⟩

end
end Go.Proofs.Yteljalgfkmnamaa
