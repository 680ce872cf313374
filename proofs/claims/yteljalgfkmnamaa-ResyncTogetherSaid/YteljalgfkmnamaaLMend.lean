/- raise and mend: what is too low is raised to the least that it has to be: by contracts. -/
import Derived.Test.YteljalgfkmnamaaLSpec
import Derived.Deep.RegionHeld3
namespace Go.Proofs.Yteljalgfkmnamaa
open Go.RowKit Go.Shelf

theorem set_same {cs : Array Value} {i : Nat} {u : Value} (h : cs[i]? = some u) : cs.setIfInBounds i u = cs := by
  apply Array.ext_getElem?
  intro j
  by_cases e : i = j
  · subst e
    rw [Array.getElem?_setIfInBounds_self, h]
    have := (Array.getElem?_eq_some_iff.1 h).1
    simp [this]
  · rw [Array.getElem?_setIfInBounds_ne e]

def highB (v l : Int) : Bool := decide (v < l)
def highV (v l : Int) : Int := max v l

set_option maxHeartbeats 1000000 in
theorem raise_any {w : World} {g i : Nat} {t : TypeId} {cs : Array Value} {v : Int} (l : Int) (hW : Whole w g t cs) (hi : cs[i]? = some (.int .i64 v)) :
    Calls Try.prog 40 #[.pointer (some ⟨g, i, none⟩), .int .i64 l] w fun e w' => e = .returned (.bool (highB v l)) ∧ Kept (fun j => j = g) w w' ∧ Whole w' g t (cs.setIfInBounds i (.int .i64 (highV v l))) := by
  have hc : w.cell? ⟨g, i, none⟩ = some (.int .i64 v) := (hW.cell i).trans hi
  have hf : w.frozen? ⟨g, i, none⟩ = false := hW.frozen i
  have HW := Lib.hid hW
  by_cases h : l ≤ v
  · have H1 := Lib.hid (show highB v l = false from decide_eq_false (by omega))
    have H2 := Lib.hid (show highV v l = v from by unfold highV; omega)
    have HS := Lib.hid (set_same hi)
    clear hW hi
    go_enter Try.func40, Try.ntmps40
    go_wp2
    go_ret
    exact ⟨by rw [H1.out]; rfl, Kept.refl _ _, by rw [H2.out, HS.out]; exact HW.out⟩
  · have H1 := Lib.hid (show highB v l = true from decide_eq_true (by omega))
    have H2 := Lib.hid (show highV v l = l from by unfold highV; omega)
    have d1 : decide (l ≤ v) = false := decide_eq_false h
    clear hW hi
    go_enter Try.func40, Try.ntmps40
    go_wp2
    go_ret
    exact ⟨by rw [H1.out]; rfl, Kept.setCell (S := fun j => j = g) (p := ⟨g, i, none⟩) (Kept.refl _ w) (.inl rfl) _, by rw [H2.out]; exact HW.out.set _ _⟩

section
variable {y : Pl} {g : Nat} {t : TypeId} {w : World}

set_option maxHeartbeats 2000000 in
theorem mend4 (T : TickL y) (hW : Whole w g t y.cells) :
    Calls Try.prog 37 #[.pointer (some ⟨g, 0, none⟩), .int .i64 4] w fun e w' => e = .returned (.bool (mendB y 4)) ∧ Kept (fun j => j = g) w w' ∧ Whole w' g t (mendP y 4).cells := by
  have HL := Lib.hid (fun W (h : Whole W g t y.cells) => leastPi_any T h)
  have HR := Lib.hid (fun W (h : Whole W g t y.cells) => raise_any (lPi y) h (show y.cells[9]? = some (.int .i64 y.pi) from rfl))
  have HW := Lib.hid hW
  have H1 := Lib.hid (show mendB y 4 = highB y.pi (lPi y) from rfl)
  have H2 := Lib.hid (show (mendP y 4).cells = y.cells.setIfInBounds 9 (.int .i64 (highV y.pi (lPi y))) from rfl)
  generalize highV y.pi (lPi y) = m at *
  generalize highB y.pi (lPi y) = b at *
  generalize lPi y = l at *
  clear hW
  go_enter Try.func37, Try.ntmps37
  go_wp2
  go_region_held3 (fun _ => True) (trivial) (first
    | (go_at_call 41; refine (HL.out _ (by exact HW.out)).mono ?_; rintro e wA ⟨rfl, n, rfl⟩)
    | (go_at_call 40; refine (HR.out _ (by exact HW.out)).mono ?_; rintro e wB ⟨rfl, hk, hw⟩))
  go_wp2
  go_ret
  exact ⟨by rw [H1.out]; rfl, ⟨hk.os, hk.tape, hk.output, hk.size, hk.block⟩, by rw [H2.out]; exact hw⟩

set_option maxHeartbeats 2000000 in
theorem mend5 (T : TickL y) (p1 : 0 ≤ y.pi) (p2 : y.pi ≤ 1048576) (hW : Whole w g t y.cells) :
    Calls Try.prog 37 #[.pointer (some ⟨g, 0, none⟩), .int .i64 5] w fun e w' => e = .returned (.bool (mendB y 5)) ∧ Kept (fun j => j = g) w w' ∧ Whole w' g t (mendP y 5).cells := by
  have HL := Lib.hid (fun W (h : Whole W g t y.cells) => leastWin_any T p1 p2 h)
  have HR := Lib.hid (fun W (h : Whole W g t y.cells) => raise_any (lWin y) h (show y.cells[4]? = some (.int .i64 y.window) from rfl))
  have HW := Lib.hid hW
  have H1 := Lib.hid (show mendB y 5 = highB y.window (lWin y) from rfl)
  have H2 := Lib.hid (show (mendP y 5).cells = y.cells.setIfInBounds 4 (.int .i64 (highV y.window (lWin y))) from rfl)
  generalize highV y.window (lWin y) = m at *
  generalize highB y.window (lWin y) = b at *
  generalize lWin y = l at *
  clear hW
  go_enter Try.func37, Try.ntmps37
  go_wp2
  go_region_held3 (fun _ => True) (trivial) (first
    | (go_at_call 42; refine (HL.out _ (by exact HW.out)).mono ?_; rintro e wA ⟨rfl, n, rfl⟩)
    | (go_at_call 40; refine (HR.out _ (by exact HW.out)).mono ?_; rintro e wB ⟨rfl, hk, hw⟩))
  go_wp2
  go_ret
  exact ⟨by rw [H1.out]; rfl, ⟨hk.os, hk.tape, hk.output, hk.size, hk.block⟩, by rw [H2.out]; exact hw⟩

set_option maxHeartbeats 2000000 in
theorem mend6 (T : TickL y) (hW : Whole w g t y.cells) :
    Calls Try.prog 37 #[.pointer (some ⟨g, 0, none⟩), .int .i64 6] w fun e w' => e = .returned (.bool (mendB y 6)) ∧ Kept (fun j => j = g) w w' ∧ Whole w' g t (mendP y 6).cells := by
  have HL := Lib.hid (fun W (h : Whole W g t y.cells) => leastCap_any T h)
  have HR := Lib.hid (fun W (h : Whole W g t y.cells) => raise_any (lCap y) h (show y.cells[10]? = some (.int .i64 y.cap) from rfl))
  have HW := Lib.hid hW
  have H1 := Lib.hid (show mendB y 6 = highB y.cap (lCap y) from rfl)
  have H2 := Lib.hid (show (mendP y 6).cells = y.cells.setIfInBounds 10 (.int .i64 (highV y.cap (lCap y))) from rfl)
  generalize highV y.cap (lCap y) = m at *
  generalize highB y.cap (lCap y) = b at *
  generalize lCap y = l at *
  clear hW
  go_enter Try.func37, Try.ntmps37
  go_wp2
  go_region_held3 (fun _ => True) (trivial) (first
    | (go_at_call 43; refine (HL.out _ (by exact HW.out)).mono ?_; rintro e wA ⟨rfl, n, rfl⟩)
    | (go_at_call 40; refine (HR.out _ (by exact HW.out)).mono ?_; rintro e wB ⟨rfl, hk, hw⟩))
  go_wp2
  go_ret
  exact ⟨by rw [H1.out]; rfl, ⟨hk.os, hk.tape, hk.output, hk.size, hk.block⟩, by rw [H2.out]; exact hw⟩

set_option maxHeartbeats 2000000 in
theorem mend7 (p1 : 0 ≤ y.pi) (p2 : y.pi ≤ 1048576) (w1 : 0 ≤ y.window) (w2 : y.window ≤ 1048576) (k1 : 0 ≤ y.cap) (k2 : y.cap ≤ 1048576) (hW : Whole w g t y.cells) :
    Calls Try.prog 37 #[.pointer (some ⟨g, 0, none⟩), .int .i64 7] w fun e w' => e = .returned (.bool (mendB y 7)) ∧ Kept (fun j => j = g) w w' ∧ Whole w' g t (mendP y 7).cells := by
  have HL := Lib.hid (fun W (h : Whole W g t y.cells) => leastSend_any p1 p2 w1 w2 k1 k2 h)
  have HR := Lib.hid (fun W (h : Whole W g t y.cells) => raise_any (lSend y) h (show y.cells[3]? = some (.int .i64 y.sendOff) from rfl))
  have HW := Lib.hid hW
  have H1 := Lib.hid (show mendB y 7 = highB y.sendOff (lSend y) from rfl)
  have H2 := Lib.hid (show (mendP y 7).cells = y.cells.setIfInBounds 3 (.int .i64 (highV y.sendOff (lSend y))) from rfl)
  generalize highV y.sendOff (lSend y) = m at *
  generalize highB y.sendOff (lSend y) = b at *
  generalize lSend y = l at *
  clear hW
  go_enter Try.func37, Try.ntmps37
  go_wp2
  go_region_held3 (fun _ => True) (trivial) (first
    | (go_at_call 44; refine (HL.out _ (by exact HW.out)).mono ?_; rintro e wA ⟨rfl, n, rfl⟩)
    | (go_at_call 40; refine (HR.out _ (by exact HW.out)).mono ?_; rintro e wB ⟨rfl, hk, hw⟩))
  go_wp2
  go_ret
  exact ⟨by rw [H1.out]; rfl, ⟨hk.os, hk.tape, hk.output, hk.size, hk.block⟩, by rw [H2.out]; exact hw⟩

set_option maxHeartbeats 2000000 in
theorem mend8 (T : TickL y) (p1 : 0 ≤ y.pi) (p2 : y.pi ≤ 1048576) (w1 : 0 ≤ y.window) (w2 : y.window ≤ 1048576) (k1 : 0 ≤ y.cap) (k2 : y.cap ≤ 1048576) (s1 : 0 ≤ y.sendOff) (s2 : y.sendOff ≤ 1048576) (hW : Whole w g t y.cells) :
    Calls Try.prog 37 #[.pointer (some ⟨g, 0, none⟩), .int .i64 8] w fun e w' => e = .returned (.bool (mendB y 8)) ∧ Kept (fun j => j = g) w w' ∧ Whole w' g t (mendP y 8).cells := by
  have HL := Lib.hid (fun W (h : Whole W g t y.cells) => leastSlot_any T p1 p2 w1 w2 k1 k2 s1 s2 h)
  have HR := Lib.hid (fun W (h : Whole W g t y.cells) => raise_any (lSlot y) h (show y.cells[2]? = some (.int .i64 y.slot) from rfl))
  have HW := Lib.hid hW
  have H1 := Lib.hid (show mendB y 8 = highB y.slot (lSlot y) from rfl)
  have H2 := Lib.hid (show (mendP y 8).cells = y.cells.setIfInBounds 2 (.int .i64 (highV y.slot (lSlot y))) from rfl)
  generalize highV y.slot (lSlot y) = m at *
  generalize highB y.slot (lSlot y) = b at *
  generalize lSlot y = l at *
  clear hW
  go_enter Try.func37, Try.ntmps37
  go_wp2
  go_region_held3 (fun _ => True) (trivial) (first
    | (go_at_call 45; refine (HL.out _ (by exact HW.out)).mono ?_; rintro e wA ⟨rfl, n, rfl⟩)
    | (go_at_call 40; refine (HR.out _ (by exact HW.out)).mono ?_; rintro e wB ⟨rfl, hk, hw⟩))
  go_wp2
  go_ret
  exact ⟨by rw [H1.out]; rfl, ⟨hk.os, hk.tape, hk.output, hk.size, hk.block⟩, by rw [H2.out]; exact hw⟩

set_option maxHeartbeats 2000000 in
theorem mend10 (T : TickL y) (h9 : holdL y 9) (p1 : 0 ≤ y.pi) (p2 : y.pi ≤ 1048576) (hW : Whole w g t y.cells) :
    Calls Try.prog 37 #[.pointer (some ⟨g, 0, none⟩), .int .i64 10] w fun e w' => e = .returned (.bool (mendB y 10)) ∧ Kept (fun j => j = g) w w' ∧ Whole w' g t (mendP y 10).cells := by
  have HL := Lib.hid (fun W (h : Whole W g t y.cells) => leastDel_any T h9 p1 p2 h)
  have HR := Lib.hid (fun W (h : Whole W g t y.cells) => raise_any (lDel y) h (show y.cells[11]? = some (.int .i64 y.delta) from rfl))
  have HW := Lib.hid hW
  have H1 := Lib.hid (show mendB y 10 = highB y.delta (lDel y) from rfl)
  have H2 := Lib.hid (show (mendP y 10).cells = y.cells.setIfInBounds 11 (.int .i64 (highV y.delta (lDel y))) from rfl)
  generalize highV y.delta (lDel y) = m at *
  generalize highB y.delta (lDel y) = b at *
  generalize lDel y = l at *
  clear hW
  go_enter Try.func37, Try.ntmps37
  go_wp2
  go_region_held3 (fun _ => True) (trivial) (first
    | (go_at_call 46; refine (HL.out _ (by exact HW.out)).mono ?_; rintro e wA ⟨rfl, n, rfl⟩)
    | (go_at_call 40; refine (HR.out _ (by exact HW.out)).mono ?_; rintro e wB ⟨rfl, hk, hw⟩))
  go_wp2
  go_ret
  exact ⟨by rw [H1.out]; rfl, ⟨hk.os, hk.tape, hk.output, hk.size, hk.block⟩, by rw [H2.out]; exact hw⟩

set_option maxHeartbeats 2000000 in
theorem mend11 (T : TickL y) (hW : Whole w g t y.cells) :
    Calls Try.prog 37 #[.pointer (some ⟨g, 0, none⟩), .int .i64 11] w fun e w' => e = .returned (.bool (mendB y 11)) ∧ Kept (fun j => j = g) w w' ∧ Whole w' g t (mendP y 11).cells := by
  have HL := Lib.hid (fun W (h : Whole W g t y.cells) => leastHor_any T h)
  have HR := Lib.hid (fun W (h : Whole W g t y.cells) => raise_any (lHor y) h (show y.cells[15]? = some (.int .i64 y.horizon) from rfl))
  have HW := Lib.hid hW
  have H1 := Lib.hid (show mendB y 11 = highB y.horizon (lHor y) from rfl)
  have H2 := Lib.hid (show (mendP y 11).cells = y.cells.setIfInBounds 15 (.int .i64 (highV y.horizon (lHor y))) from rfl)
  generalize highV y.horizon (lHor y) = m at *
  generalize highB y.horizon (lHor y) = b at *
  generalize lHor y = l at *
  clear hW
  go_enter Try.func37, Try.ntmps37
  go_wp2
  go_region_held3 (fun _ => True) (trivial) (first
    | (go_at_call 47; refine (HL.out _ (by exact HW.out)).mono ?_; rintro e wA ⟨rfl, n, rfl⟩)
    | (go_at_call 40; refine (HR.out _ (by exact HW.out)).mono ?_; rintro e wB ⟨rfl, hk, hw⟩))
  go_wp2
  go_ret
  exact ⟨by rw [H1.out]; rfl, ⟨hk.os, hk.tape, hk.output, hk.size, hk.block⟩, by rw [H2.out]; exact hw⟩

set_option maxHeartbeats 1000000 in
theorem mend1 (hW : Whole w g t y.cells) :
    Calls Try.prog 37 #[.pointer (some ⟨g, 0, none⟩), .int .i64 1] w fun e w' => e = .returned (.bool (mendB y 1)) ∧ Kept (fun j => j = g) w w' ∧ Whole w' g t (mendP y 1).cells := by
  have HW := Lib.hid hW
  have H1 := Lib.hid (show mendB y 1 = false from rfl)
  have H2 := Lib.hid (show mendP y 1 = y from rfl)
  clear hW
  go_enter Try.func37, Try.ntmps37
  go_wp2
  go_ret
  exact ⟨by rw [H1.out]; rfl, Kept.refl _ _, by rw [H2.out]; exact HW.out⟩

set_option maxHeartbeats 1000000 in
theorem mend2 (hW : Whole w g t y.cells) :
    Calls Try.prog 37 #[.pointer (some ⟨g, 0, none⟩), .int .i64 2] w fun e w' => e = .returned (.bool (mendB y 2)) ∧ Kept (fun j => j = g) w w' ∧ Whole w' g t (mendP y 2).cells := by
  have HW := Lib.hid hW
  have H1 := Lib.hid (show mendB y 2 = false from rfl)
  have H2 := Lib.hid (show mendP y 2 = y from rfl)
  clear hW
  go_enter Try.func37, Try.ntmps37
  go_wp2
  go_ret
  exact ⟨by rw [H1.out]; rfl, Kept.refl _ _, by rw [H2.out]; exact HW.out⟩

set_option maxHeartbeats 1000000 in
theorem mend3 (hW : Whole w g t y.cells) :
    Calls Try.prog 37 #[.pointer (some ⟨g, 0, none⟩), .int .i64 3] w fun e w' => e = .returned (.bool (mendB y 3)) ∧ Kept (fun j => j = g) w w' ∧ Whole w' g t (mendP y 3).cells := by
  have HW := Lib.hid hW
  have H1 := Lib.hid (show mendB y 3 = false from rfl)
  have H2 := Lib.hid (show mendP y 3 = y from rfl)
  clear hW
  go_enter Try.func37, Try.ntmps37
  go_wp2
  go_ret
  exact ⟨by rw [H1.out]; rfl, Kept.refl _ _, by rw [H2.out]; exact HW.out⟩

set_option maxHeartbeats 1000000 in
theorem mend9 (hW : Whole w g t y.cells) :
    Calls Try.prog 37 #[.pointer (some ⟨g, 0, none⟩), .int .i64 9] w fun e w' => e = .returned (.bool (mendB y 9)) ∧ Kept (fun j => j = g) w w' ∧ Whole w' g t (mendP y 9).cells := by
  have HW := Lib.hid hW
  have H1 := Lib.hid (show mendB y 9 = false from rfl)
  have H2 := Lib.hid (show mendP y 9 = y from rfl)
  clear hW
  go_enter Try.func37, Try.ntmps37
  go_wp2
  go_ret
  exact ⟨by rw [H1.out]; rfl, Kept.refl _ _, by rw [H2.out]; exact HW.out⟩

/-- The first condition that does not hold, mended. -/
theorem mend_any {r : Nat} (h1 : 1 ≤ r) (h2 : r ≤ 11) (hp : ∀ j, 1 ≤ j → j < r → holdL y j) (hW : Whole w g t y.cells) :
    Calls Try.prog 37 #[.pointer (some ⟨g, 0, none⟩), .int .i64 (r : Int)] w fun e w' => e = .returned (.bool (mendB y r)) ∧ Kept (fun j => j = g) w w' ∧ Whole w' g t (mendP y r).cells := by
  have hT : 3 < r → TickL y := fun h => tick_three (hp 1 (by omega) (by omega)) (hp 2 (by omega) (by omega)) (hp 3 (by omega) (by omega))
  have : r = 1 ∨ r = 2 ∨ r = 3 ∨ r = 4 ∨ r = 5 ∨ r = 6 ∨ r = 7 ∨ r = 8 ∨ r = 9 ∨ r = 10 ∨ r = 11 := by omega
  rcases this with rfl | rfl | rfl | rfl | rfl | rfl | rfl | rfl | rfl | rfl | rfl
  · exact mend1 hW
  · exact mend2 hW
  · exact mend3 hW
  · exact mend4 (hT (by omega)) hW
  · have T := hT (by omega)
    obtain ⟨p1, p2⟩ := pi_of T (hp 4 (by omega) (by omega))
    exact mend5 T p1 p2 hW
  · exact mend6 (hT (by omega)) hW
  · have T := hT (by omega)
    obtain ⟨p1, p2⟩ := pi_of T (hp 4 (by omega) (by omega))
    obtain ⟨w1, w2⟩ := win_of T (hp 4 (by omega) (by omega)) (hp 5 (by omega) (by omega))
    obtain ⟨k1, k2⟩ := cap_of T (hp 6 (by omega) (by omega))
    exact mend7 p1 p2 w1 w2 k1 k2 hW
  · have T := hT (by omega)
    obtain ⟨p1, p2⟩ := pi_of T (hp 4 (by omega) (by omega))
    obtain ⟨w1, w2⟩ := win_of T (hp 4 (by omega) (by omega)) (hp 5 (by omega) (by omega))
    obtain ⟨k1, k2⟩ := cap_of T (hp 6 (by omega) (by omega))
    obtain ⟨s1, s2⟩ := send_of T (hp 4 (by omega) (by omega)) (hp 5 (by omega) (by omega)) (hp 6 (by omega) (by omega)) (hp 7 (by omega) (by omega))
    exact mend8 T p1 p2 w1 w2 k1 k2 s1 s2 hW
  · exact mend9 hW
  · have T := hT (by omega)
    obtain ⟨p1, p2⟩ := pi_of T (hp 4 (by omega) (by omega))
    exact mend10 T (hp 9 (by omega) (by omega)) p1 p2 hW
  · exact mend11 (hT (by omega)) hW
end
end Go.Proofs.Yteljalgfkmnamaa
