/- Questions that the laws ask of lists: great, Dues, Same; by contracts. No condition. -/
import Derived.Test.YtmplidgafdobkaaUF
namespace Go.Proofs.Ytmplidgafdobkaa
open Go.RowKit Go.Shelf

def greatO (o : OpA) : Bool := decide (100 < o.raw.length) || decide (40 < o.fa.length)
def greatL (os : List OpA) : Bool := decide (40 < os.length) || os.any greatO
theorem opC_cells {w : World} {g o : Nat} {x : OpA} (h : w.rangeAt g o (opC x)) : w.cell? ⟨g, o, none⟩ = some (.int .i64 x.f) ∧ w.cell? ⟨g, o + 1, none⟩ = some (.int .i64 x.t) ∧ w.cell? ⟨g, o + 2, none⟩ = some x.rw.v ∧ w.cell? ⟨g, o + 3, none⟩ = some x.fw.v :=
  ⟨h 0 _ rfl, h 1 _ rfl, h 2 _ rfl, h 3 _ rfl⟩
theorem OpsAt.nth {w : World} {s : Sl} {os : List OpA} (h : OpsAt w s os) (k : Nat) (hk : k < s.n) : OpAt w (os.getD k default) := by
  have hl := h.row.len
  rw [List.getD_eq_getElem?_getD, List.getElem?_eq_getElem (by omega)]
  exact h.op _ (List.getElem_mem _)
set_option maxRecDepth 100000 in
set_option maxHeartbeats 2000000 in
theorem great_any (s : Sl) (os : List OpA) (w : World) (h : OpsAt w s os) : Calls Try.prog 8 #[s.v] w fun e w' => e = .returned (.bool (greatL os)) ∧ Below w.heap.size w w' := by
  have hlen := h.row.len
  have hm := Nat.le_trans h.row.cap h.row.max
  have HP := Lib.hid h
  obtain ⟨A, n, c⟩ := s
  unfold Sl.v
  dsimp only at *
  clear h
  by_cases h40 : 40 < n
  · have hF : greatL os = true := by unfold greatL; rw [decide_eq_true (by omega), Bool.true_or]
    rw [hF]
    have e1 : (40 : Int) < (n : Int) := by omega
    go_enter Try.func8, Try.ntmps8
    go_wp2
    go_ret
    exact ⟨rfl, Below.refl _ _⟩
  · have hF : greatL os = os.any greatO := by unfold greatL; rw [decide_eq_false (by omega), Bool.false_or]
    rw [hF]
    have HA := Lib.hid (fun k (hk : k < n) (h : greatO (os.getD k default) = true) => (show os.any greatO = true from List.any_eq_true.2 ⟨os.getD k default, by rw [List.getD_eq_getElem?_getD, List.getElem?_eq_getElem (by omega)]; exact List.getElem_mem _, h⟩))
    have HY := Lib.hid (fun (h : ∀ k, k < n → greatO (os.getD k default) = false) => (show os.any greatO = false from by
      rw [List.any_eq_false]
      intro x hx
      obtain ⟨k, hk, rfl⟩ := List.mem_iff_getElem.1 hx
      have := h k (by omega)
      rw [List.getD_eq_getElem?_getD, List.getElem?_eq_getElem hk] at this
      simpa using this))
    generalize os.any greatO = ans at *
    have e1 : ¬ (40 : Int) < (n : Int) := by omega
    clear hF h40 hlen
    go_enter Try.func8, Try.ntmps8
    go_wp2
    go_loopw [9] (fun iv wr => ∃ (k : Nat), k ≤ n ∧ iv = .int .i64 (k : Int) ∧ Below w.heap.size w wr ∧ ∀ j, j < k → greatO (os.getD j default) = false) (fun iv _ => n - (intOf iv).toNat)
    case atStart => exact ⟨0, Nat.zero_le _, rfl, Below.refl _ _, fun j hj => absurd hj (Nat.not_lt_zero _)⟩
    case round =>
      obtain ⟨k, hk, rfl, hwr, hall⟩ := hrel
      by_cases hlt : k < n
      · obtain ⟨g, o, hA0, hA2⟩ := (HP.out.later hwr).row.get (i := k) hlt
        dsimp only at hA0
        subst hA0
        have hop := (HP.out.later hwr).nth k hlt
        obtain ⟨x, hx⟩ : ∃ x, x = os.getD k default := ⟨_, rfl⟩
        rw [← hx] at hA2 hop
        obtain ⟨a0, a1, a2, a3⟩ := opC_cells hA2
        have l1 := hop.raw.len
        have l2 := hop.fa.len
        have e3 : (0 : Int) ≤ (k : Int) := by omega
        have e4 : (k : Int) < (n : Int) := by omega
        have HW := Lib.hid hwr
        have HX := Lib.hid (And.intro hx hall)
        obtain ⟨f, t, ⟨rA, rn, rc⟩, ⟨fA, fn, fc⟩, raw, fa⟩ := x
        unfold Sl.v at a2 a3
        dsimp only at a2 a3 l1 l2
        have HG := Lib.hid (show greatO (os.getD k default) = (decide (100 < rn) || decide (40 < fn)) from by rw [← HX.out.1]; unfold greatO; dsimp only; rw [l1, l2])
        clear hA2 hwr hx hall hop l1 l2
        by_cases q1 : 100 < rn
        · have q2 : (100 : Int) < (rn : Int) := by omega
          have HOK := Lib.hid (HA.out k hlt (by rw [HG.out, decide_eq_true q1, Bool.true_or]))
          go_wp2
          go_ret
          exact ⟨by rw [HOK.out]; rfl, HW.out⟩
        · have q2 : ¬ (100 : Int) < (rn : Int) := by omega
          by_cases q3 : 40 < fn
          · have q4 : (40 : Int) < (fn : Int) := by omega
            have HOK := Lib.hid (HA.out k hlt (by rw [HG.out, decide_eq_true q3, Bool.or_true]))
            go_wp2
            go_ret
            exact ⟨by rw [HOK.out]; rfl, HW.out⟩
          · have q4 : ¬ (40 : Int) < (fn : Int) := by omega
            have HOK := Lib.hid (show greatO (os.getD k default) = false from by rw [HG.out, decide_eq_false q1, decide_eq_false q3]; rfl)
            go_wp2
            go_roundw
            case rel =>
              refine ⟨k + 1, by omega, by go_num, HW.out, fun j hj => ?_⟩
              rcases Nat.lt_or_ge j k with h | h
              · exact HX.out.2 j h
              · obtain rfl : j = k := by omega
                exact HOK.out
            case measure => simp [intOf]; omega
      · have HE := Lib.hid (HY.out (fun j hj => hall j (by omega)))
        have HW := Lib.hid hwr
        clear hall hwr
        go_wp2
        go_ret
        exact ⟨by rw [HE.out]; rfl, HW.out⟩
end Go.Proofs.Ytmplidgafdobkaa
