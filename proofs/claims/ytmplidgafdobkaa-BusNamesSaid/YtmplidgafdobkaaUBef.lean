/- Whether fates may be those of a frame: by a contract. No condition. -/
import Derived.Test.YtmplidgafdobkaaUFun
namespace Go.Proofs.Ytmplidgafdobkaa
open Go.RowKit Go.Shelf

theorem faC_cells {w : World} {g o : Nat} {f : Fa} (h : w.rangeAt g o (faC f)) : w.cell? ⟨g, o, none⟩ = some (.int .i64 f.d) ∧ w.cell? ⟨g, o + 1, none⟩ = some (.bool f.lost) ∧ w.cell? ⟨g, o + 2, none⟩ = some (.bool f.cut) :=
  ⟨h 0 _ rfl, h 1 _ rfl, h 2 _ rfl⟩
theorem all_take_no {α : Type} [Inhabited α] {p : α → Bool} {l : List α} {k : Nat} (hk : k < l.length) (h : p (l.getD k default) = false) : l.all p = false := by
  rw [List.all_eq_false]
  refine ⟨l[k], List.getElem_mem hk, ?_⟩
  rw [List.getD_eq_getElem?_getD, List.getElem?_eq_getElem hk] at h
  simpa using h
theorem all_take_yes {α : Type} [Inhabited α] {p : α → Bool} {l : List α} (h : ∀ k, k < l.length → p (l.getD k default) = true) : l.all p = true := by
  rw [List.all_eq_true]
  intro x hx
  obtain ⟨k, hk, rfl⟩ := List.mem_iff_getElem.1 hx
  have := h k hk
  rwa [List.getD_eq_getElem?_getD, List.getElem?_eq_getElem hk] at this

set_option maxRecDepth 100000 in
set_option maxHeartbeats 2000000 in
theorem mayBefall_any (p : Pl) (hp : PlanU p) (l : Nat) (v : Value) (last opens : Int) (s : Sl) (fa : List Fa) (w : World) (hl : Whole w l 72 (lgC p v last opens)) (h : RSrc faC 3 w s fa) :
    Calls Try.prog 29 #[.pointer (some ⟨l, 0, none⟩), s.v] w fun e w' => e = .returned (.bool (fatesB p fa)) ∧ Below w.heap.size w w' := by
  have hlen := h.len
  have hm := Nat.le_trans h.cap h.max
  obtain ⟨⟨c0, _, _, c6, c7⟩, _⟩ := log_cells hl
  have n1 := hp.n1
  have n2 := hp.n2
  have HP := Lib.hid (And.intro hp (And.intro hl (And.intro h hlen)))
  obtain ⟨A, n, c⟩ := s
  unfold Sl.v
  dsimp only at *
  clear hp h
  by_cases hnn : (n : Int) ≤ 2 * p.nodes
  · have hF : fatesB p fa = fa.all (fateB p) := by
      unfold fatesB
      rw [decide_eq_true (by omega), Bool.true_and]
    rw [hF]
    have HA := Lib.hid (fun k (hk : k < n) (h : fateB p (fa.getD k default) = false) => all_take_no (p := fateB p) (l := fa) (k := k) (by omega) h)
    have HY := Lib.hid (fun (h : ∀ k, k < n → fateB p (fa.getD k default) = true) => all_take_yes (p := fateB p) (l := fa) (fun k hk => h k (by omega)))
    generalize fa.all (fateB p) = ans at *
    clear hF
    go_enter Try.func29, Try.ntmps29
    go_wp2
    clear hlen hl
    go_loopw [18] (fun iv wr => ∃ (k : Nat), k ≤ n ∧ iv = .int .i64 (k : Int) ∧ Below w.heap.size w wr ∧ ∀ j, j < k → fateB p (fa.getD j default) = true) (fun iv _ => n - (intOf iv).toNat)
    case atStart => exact ⟨0, Nat.zero_le _, rfl, Below.refl _ _, fun j hj => absurd hj (Nat.not_lt_zero _)⟩
    case round =>
      obtain ⟨k, hk, rfl, hwr, hall⟩ := hrel
      clear c0 c6 c7
      by_cases hlt : k < n
      · obtain ⟨g, o, hA0, hA2⟩ := (HP.out.2.2.1.later hwr).get (i := k) hlt
        dsimp only at hA0
        subst hA0
        obtain ⟨x, hx⟩ : ∃ x, x = fa.getD k default := ⟨_, rfl⟩
        rw [← hx] at hA2
        obtain ⟨a0, a1, a2⟩ := faC_cells hA2
        obtain ⟨⟨c0, _, _, c6, c7⟩, _⟩ := log_cells (k_later hwr HP.out.2.1)
        have bx := World.block_lt_of_cell? _ _ c0
        have hB := hwr.alloc hwr.size (.cells #[.int .i64 x.d, .bool x.lost, .bool x.cut] 47)
        have HB := Lib.hid hB
        have e1 : (0 : Int) ≤ (k : Int) := by omega
        have e2 : (k : Int) < (n : Int) := by omega
        have HW := Lib.hid hwr
        have HX := Lib.hid (And.intro hx hall)
        obtain ⟨d, lo, cu⟩ := x
        dsimp only at *
        have HAT := Lib.hid (show fateB p ⟨d, lo, cu⟩ = fateB p (fa.getD k default) by rw [hx])
        clear hA2 hwr hx hall hB
        by_cases q1 : p.dmin ≤ d
        · by_cases q2 : d ≤ p.dmax
          · have d1 : decide (d < p.dmin) = false := decide_eq_false (by omega)
            have d2 : decide (p.dmax < d) = false := decide_eq_false (by omega)
            have HOK := Lib.hid (show fateB p (fa.getD k default) = true by rw [← HAT.out]; simp [fateB]; omega)
            go_wp2
            go_quiet (fail)
            go_wp2
            go_roundw
            case rel =>
              refine ⟨k + 1, by omega, by go_num, below_drewN HB.out _, fun j hj => ?_⟩
              rcases Nat.lt_or_ge j k with h | h
              · exact HX.out.2 j h
              · obtain rfl : j = k := by omega
                exact HOK.out
            case measure => simp [intOf]; omega
          · have d1 : decide (d < p.dmin) = false := decide_eq_false (by omega)
            have d2 : decide (p.dmax < d) = true := decide_eq_true (by omega)
            have HOK := Lib.hid (HA.out k hlt (by rw [← HAT.out]; simp [fateB]; omega))
            go_wp2
            go_quiet (fail)
            go_wp2
            go_ret
            exact ⟨by rw [HOK.out]; rfl, below_drewN HB.out _⟩
        · have d1 : decide (d < p.dmin) = true := decide_eq_true (by omega)
          have HOK := Lib.hid (HA.out k hlt (by rw [← HAT.out]; simp [fateB]; omega))
          go_wp2
          go_quiet (fail)
          go_wp2
          go_ret
          exact ⟨by rw [HOK.out]; rfl, below_drewN HB.out _⟩
      · have HE := Lib.hid (HY.out (fun j hj => hall j (by omega)))
        have HW := Lib.hid hwr
        clear hall hwr
        go_wp2
        go_ret
        exact ⟨by rw [HE.out]; rfl, HW.out⟩
  · have hF : fatesB p fa = false := by
      unfold fatesB
      rw [decide_eq_false (by omega), Bool.false_and]
    rw [hF]
    go_enter Try.func29, Try.ntmps29
    go_wp2
    go_ret
    exact ⟨rfl, Below.refl _ _⟩
end Go.Proofs.Ytmplidgafdobkaa
