/- Lists of deviations, and of numbers, held against each other: contracts. No condition. -/
import Derived.Test.YtjgbgakdnapdhaaEClr
import Derived.BigQuiet
import Derived.Deep.QuietTactic
namespace Go.Proofs.Ytjgbgakdnapdhaa
open Go.RowKit Go.Shelf

theorem list_eq_of {α : Type} [Inhabited α] {xs ys : List α} (hl : xs.length = ys.length) (h : ∀ j, j < xs.length → xs.getD j default = ys.getD j default) : xs = ys := by
  apply List.ext_getElem hl
  intro i h1 h2
  have := h i h1
  rwa [List.getD_eq_getElem?_getD, List.getD_eq_getElem?_getD, List.getElem?_eq_getElem h1, List.getElem?_eq_getElem h2] at this
theorem de_same (y z : De) : decide (y = z) = (decide ((y.n : Int) = (z.n : Int)) && decide (y.v = z.v)) := by
  rw [Bool.eq_iff_iff]
  obtain ⟨a, b⟩ := y
  obtain ⟨a', b'⟩ := z
  simp only [decide_eq_true_eq, De.mk.injEq, Bool.and_eq_true]
  omega
set_option maxHeartbeats 1000000 in
theorem de_eql (x y : De) (w : World) : (binOp .eql 51 (.agg #[.int .i64 x.n, .int .i64 x.v]) (.agg #[.int .i64 y.n, .int .i64 y.v])).run Try.prog w = .ok (.bool (decide (x = y))) w := by
  have hS : Try.prog.underlying 51 = some (.struct (Try.prog.fieldsOf 51)) := by kernel_rfl
  have hp : Try.prog.stoodInHeld 51 = false := by kernel_rfl
  rw [de_same]
  rw [run_eql_struct, show (10000 : Nat) = 9999 + 1 from rfl, run_equalIn_agg w 9999 51 _ _ hS hp]
  simp only [Program.fieldsOf, Try.underlying51]
  go_simp
  by_cases h1 : (x.n : Int) = (y.n : Int) <;> by_cases h2 : x.v = y.v <;> simp [h1, h2]
theorem de_equal (x y : De) (w : World) : (Op.equalIn 10000 51 (.agg #[.int .i64 x.n, .int .i64 x.v]) (.agg #[.int .i64 y.n, .int .i64 y.v])).run Try.prog w = .ok (decide (x = y)) w := by
  have h := de_eql x y w
  rw [run_eql_struct] at h
  cases hr : (Op.equalIn 10000 51 (.agg #[.int .i64 x.n, .int .i64 x.v]) (.agg #[.int .i64 y.n, .int .i64 y.v])).run Try.prog w with
  | ok b w' =>
    rw [hr] at h
    simp [Result.andThen] at h
    rw [h.1, h.2]
  | halt x w' => rw [hr] at h; simp [Result.andThen] at h
theorem de_neq (x y : De) (w : World) : (binOp .neq 51 (.agg #[.int .i64 x.n, .int .i64 x.v]) (.agg #[.int .i64 y.n, .int .i64 y.v])).run Try.prog w = .ok (.bool (!decide (x = y))) w := by
  rw [run_neq_struct, de_equal]; rfl
theorem deC_cells {w : World} {g o : Nat} {x : De} (h : w.rangeAt g o (deC x)) : w.cell? ⟨g, o, none⟩ = some (.int .i64 x.n) ∧ w.cell? ⟨g, o + 1, none⟩ = some (.int .i64 x.v) := ⟨h 0 _ rfl, h 1 _ rfl⟩
theorem inC_cells {w : World} {g o : Nat} {x : Int} (h : w.rangeAt g o (inC x)) : w.cell? ⟨g, o, none⟩ = some (.int .i64 x) := h 0 _ rfl

set_option maxRecDepth 100000 in
set_option maxHeartbeats 2000000 in
theorem devs_any (w : World) (s t : Sl) (es fs : List De) (h1 : RSrc deC 2 w s es) (h2 : RSrc deC 2 w t fs) :
    Calls Try.prog 16 #[s.v, t.v] w fun e w' => e = .returned (.bool (decide (es = fs))) ∧ Below w.heap.size w w' := by
  have l1 := h1.len
  have l2 := h2.len
  have m1 := Nat.le_trans h1.cap h1.max
  have m2 := Nat.le_trans h2.cap h2.max
  obtain ⟨A, n, c⟩ := s
  obtain ⟨B, m, d⟩ := t
  unfold Sl.v
  dsimp only at *
  by_cases hnm : n = m
  · subst hnm
    have hl : es.length = fs.length := l1.trans l2.symm
    have H := Lib.hid (And.intro h1 (And.intro h2 (And.intro hl l1)))
    clear h1 h2 hl l1 l2
    go_enter Try.func16, Try.ntmps16
    go_wp2
    go_loopw [5] (fun iv wr => ∃ (k : Nat), k ≤ n ∧ iv = .int .i64 (k : Int) ∧ Below w.heap.size w wr ∧ ∀ j, j < k → es.getD j default = fs.getD j default) (fun iv _ => n - (intOf iv).toNat)
    case atStart => exact ⟨0, Nat.zero_le _, rfl, Below.refl _ _, fun j hj => absurd hj (Nat.not_lt_zero _)⟩
    case round =>
      obtain ⟨k, hk, rfl, hwr, hall⟩ := hrel
      by_cases hlt : k < n
      · obtain ⟨g, o, hA0, hA2⟩ := (H.out.1.later hwr).get (i := k) hlt
        obtain ⟨g', o', hB0, hB2⟩ := (H.out.2.1.later hwr).get (i := k) hlt
        dsimp only at hA0 hB0
        subst hA0 hB0
        obtain ⟨x, hx⟩ : ∃ x, x = es.getD k default := ⟨_, rfl⟩
        obtain ⟨y, hy⟩ : ∃ y, y = fs.getD k default := ⟨_, rfl⟩
        rw [← hx] at hA2
        rw [← hy] at hB2
        obtain ⟨a0, a1⟩ := deC_cells hA2
        obtain ⟨b0, b1⟩ := deC_cells hB2
        have e1 : (0 : Int) ≤ (k : Int) := by omega
        have e2 : (k : Int) < (n : Int) := by omega
        have qE := fun W => de_eql x y W
        have qN := fun W => de_neq x y W
        have qQ := fun W => de_equal x y W
        have HW := Lib.hid hwr
        have HX := Lib.hid (And.intro hx (And.intro hy hall))
        clear hA2 hB2 hwr hx hy hall
        generalize hb : decide (x = y) = b at *
        have HBB := Lib.hid hb
        clear hb
        cases b
        · have hne : decide (es = fs) = false := by
            simp only [decide_eq_false_iff_not]
            have hxy : ¬ x = y := by simpa using HBB.out
            rw [HX.out.1, HX.out.2.1] at hxy
            exact fun e => hxy (by rw [e])
          have HNE := Lib.hid hne
          clear hne
          skip
          go_wp2
          go_quiet (fail)
          go_wp2
          go_ret
          exact ⟨by rw [HNE.out]; rfl, below_drewN HW.out _⟩
        · skip
          go_wp2
          go_quiet (fail)
          go_wp2
          go_roundw
          case rel =>
            refine ⟨k + 1, by omega, by go_num, below_drewN HW.out _, fun j hj => ?_⟩
            rcases Nat.lt_or_ge j k with h | h
            · exact HX.out.2.2 j h
            · obtain rfl : j = k := by omega
              rw [← HX.out.1, ← HX.out.2.1]
              simpa using HBB.out
          case measure => simp [intOf]; omega
      · have he : decide (es = fs) = true := by
          simp only [decide_eq_true_eq]
          exact list_eq_of H.out.2.2.1 (fun j hj => hall j (by have := H.out.2.2.2; omega))
        have HE := Lib.hid he
        have HW := Lib.hid hwr
        clear he hall hwr
        go_wp2
        go_ret
        exact ⟨by rw [HE.out]; rfl, HW.out⟩
  · have hne : decide (es = fs) = false := by
      simp only [decide_eq_false_iff_not]
      intro e
      rw [← l1, ← l2, e] at hnm
      exact hnm rfl
    have HNE := Lib.hid hne
    have hnm2 : ((n : Int) == (m : Int)) = false := beq_eq_false_iff_ne.2 (by omega)
    have hnm3 : ((n : Int) != (m : Int)) = true := by simp [bne, hnm2]
    clear h1 h2 l1 l2 hne
    go_enter Try.func16, Try.ntmps16
    go_wp2
    go_ret
    exact ⟨by rw [HNE.out]; rfl, Below.refl _ _⟩

set_option maxRecDepth 100000 in
set_option maxHeartbeats 2000000 in
theorem longs_any (w : World) (s t : Sl) (es fs : List Int) (h1 : RSrc inC 1 w s es) (h2 : RSrc inC 1 w t fs) :
    Calls Try.prog 17 #[s.v, t.v] w fun e w' => e = .returned (.bool (decide (es = fs))) ∧ Below w.heap.size w w' := by
  have l1 := h1.len
  have l2 := h2.len
  have m1 := Nat.le_trans h1.cap h1.max
  have m2 := Nat.le_trans h2.cap h2.max
  obtain ⟨A, n, c⟩ := s
  obtain ⟨B, m, d⟩ := t
  unfold Sl.v
  dsimp only at *
  by_cases hnm : n = m
  · subst hnm
    have hl : es.length = fs.length := l1.trans l2.symm
    have H := Lib.hid (And.intro h1 (And.intro h2 (And.intro hl l1)))
    clear h1 h2 hl l1 l2
    go_enter Try.func17, Try.ntmps17
    go_wp2
    go_loopw [5] (fun iv wr => ∃ (k : Nat), k ≤ n ∧ iv = .int .i64 (k : Int) ∧ Below w.heap.size w wr ∧ ∀ j, j < k → es.getD j default = fs.getD j default) (fun iv _ => n - (intOf iv).toNat)
    case atStart => exact ⟨0, Nat.zero_le _, rfl, Below.refl _ _, fun j hj => absurd hj (Nat.not_lt_zero _)⟩
    case round =>
      obtain ⟨k, hk, rfl, hwr, hall⟩ := hrel
      by_cases hlt : k < n
      · obtain ⟨g, o, hA0, hA2⟩ := (H.out.1.later hwr).get (i := k) hlt
        obtain ⟨g', o', hB0, hB2⟩ := (H.out.2.1.later hwr).get (i := k) hlt
        dsimp only at hA0 hB0
        subst hA0 hB0
        obtain ⟨x, hx⟩ : ∃ x, x = es.getD k default := ⟨_, rfl⟩
        obtain ⟨y, hy⟩ : ∃ y, y = fs.getD k default := ⟨_, rfl⟩
        rw [← hx] at hA2
        rw [← hy] at hB2
        have a0 := inC_cells hA2
        have b0 := inC_cells hB2
        have e1 : (0 : Int) ≤ (k : Int) := by omega
        have e2 : (k : Int) < (n : Int) := by omega
        rw [Nat.mul_one] at a0 b0
        have HW := Lib.hid hwr
        have HX := Lib.hid (And.intro hx (And.intro hy hall))
        clear hA2 hB2 hwr hx hy hall
        obtain ⟨b, hb⟩ : ∃ b, decide (x = y) = b := ⟨_, rfl⟩
        have HBB := Lib.hid hb
        clear hb
        cases b
        · have hne : decide (es = fs) = false := by
            simp only [decide_eq_false_iff_not]
            have hxy : ¬ x = y := by simpa using HBB.out
            rw [HX.out.1, HX.out.2.1] at hxy
            exact fun e => hxy (by rw [e])
          have HNE := Lib.hid hne
          clear hne
          have hq2 : (x == y) = false := beq_eq_false_iff_ne.2 (by simpa using HBB.out)
          have hq3 : (x != y) = true := by simp [bne, hq2]
          go_wp2
          go_quiet (fail)
          go_wp2
          go_ret
          exact ⟨by rw [HNE.out]; rfl, below_drewN HW.out _⟩
        · have hq1 : x = y := by simpa using HBB.out
          have HQ := Lib.hid hq1
          have hq2 : (x == y) = true := beq_iff_eq.2 hq1
          have hq3 : (x != y) = false := by simp [bne, hq2]
          clear hq1
          go_wp2
          go_quiet (fail)
          go_wp2
          go_roundw
          case rel =>
            refine ⟨k + 1, by omega, by go_num, below_drewN HW.out _, fun j hj => ?_⟩
            rcases Nat.lt_or_ge j k with h | h
            · exact HX.out.2.2 j h
            · obtain rfl : j = k := by omega
              rw [← HX.out.1, ← HX.out.2.1]
              exact HQ.out
          case measure => simp [intOf]; omega
      · have he : decide (es = fs) = true := by
          simp only [decide_eq_true_eq]
          exact list_eq_of H.out.2.2.1 (fun j hj => hall j (by have := H.out.2.2.2; omega))
        have HE := Lib.hid he
        have HW := Lib.hid hwr
        clear he hall hwr
        go_wp2
        go_ret
        exact ⟨by rw [HE.out]; rfl, HW.out⟩
  · have hne : decide (es = fs) = false := by
      simp only [decide_eq_false_iff_not]
      intro e
      rw [← l1, ← l2, e] at hnm
      exact hnm rfl
    have HNE := Lib.hid hne
    have hnm2 : ((n : Int) == (m : Int)) = false := beq_eq_false_iff_ne.2 (by omega)
    have hnm3 : ((n : Int) != (m : Int)) = true := by simp [bne, hnm2]
    clear h1 h2 l1 l2 hne
    go_enter Try.func17, Try.ntmps17
    go_wp2
    go_ret
    exact ⟨by rw [HNE.out]; rfl, Below.refl _ _⟩
end Go.Proofs.Ytjgbgakdnapdhaa
