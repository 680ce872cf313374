/- mayBe, behind, and the document's may: by their contracts. No condition. -/
import Derived.Test.YteljalgfkmnamaaYCor
namespace Go.Proofs.Yteljalgfkmnamaa
open Go.RowKit Go.Shelf

set_option maxRecDepth 100000 in
set_option maxHeartbeats 1000000 in
theorem mayBe_any (y : Sy) (w : World) : Calls Try.prog 22 #[y.v] w fun e w' => e = .returned (.bool (mayY y)) ∧ Below w.heap.size w w' := by
  obtain ⟨r, s, t, b⟩ := y
  unfold Sy.v mayY
  dsimp only
  have HB := Lib.hid (fun o p => ((Below.refl w.heap.size w).alloc (Nat.le_refl _) o).alloc (by simp) p)
  go_enter Try.func22, Try.ntmps22
  go_wp2
  all_goals go_ret
  · exact ⟨by rw [decide_eq_true (by omega)]; rfl, HB.out _ _⟩
  · exact ⟨by rw [decide_eq_false (by omega)]; rfl, HB.out _ _⟩
  · exact ⟨by rw [decide_eq_false (by omega)]; rfl, HB.out _ _⟩
  · exact ⟨by rw [decide_eq_false (by omega)]; rfl, HB.out _ _⟩

theorem may_parts {y : Sy} (h : mayY y = true) : (0 ≤ y.r ∧ y.r ≤ 2147483647) ∧ (0 ≤ y.s ∧ y.s ≤ y.r) ∧ (-4294967296 ≤ y.t ∧ y.t ≤ 4294967296) := of_decide_eq_true h


theorem sy_info : (Try.prog.info? 25).map (·.size) = some 4 := by kernel_rfl
theorem results_sy3 {P : Program} {fn : Func} {p q r : Tmp} {ty : TypeId} (h : fn.results = #[.cell p ty, .tmp q, .tmp r]) (tmps : Array Value) (w : World) (g : Nat) (t : TypeId) (cs : Array Value) (fr : Nat × Nat) (d : TypeDesc)
    (hp : tmps.getD p undef = .pointer (some ⟨g, 0, none⟩)) {v u : Value} (hv : tmps.getD q undef = v) (hu' : tmps.getD r undef = u) (hg : w.heap[g]? = some (.cells cs t fr))
    (hu : P.underlying ty = some d) (hd : (match d with | .struct _ | .array _ _ => true | _ => false) = true) (hi : (P.info? ty).map (·.size) = some cs.size) :
    (results fn tmps).run P w = .ok (.tuple #[.agg cs, v, u]) w := by
  subst hv hu'
  have hp' : tmps[p]?.getD undef = .pointer (some ⟨g, 0, none⟩) := by simpa using hp
  simp [results, h, hp', asAddr, run_loadVar_row w g t ty cs fr d hg hu hd hi]

set_option maxRecDepth 100000 in
set_option maxHeartbeats 1000000 in
theorem behind_any (y : Sy) (by_ : Int) (hy : mayY y = true) (hl : y.b = false) (hb : -4294967296 ≤ by_ ∧ by_ ≤ 4294967296) (w : World) : Calls Try.prog 23 #[y.v, .int .i64 by_] w fun e w' => e = .returned (nextY by_ y).v ∧ Below w.heap.size w w' := by
  have hp := may_parts hy
  obtain ⟨r, s, t, b⟩ := y
  unfold Sy.v nextY oneN
  dsimp only at *
  subst hl
  clear hy
  have HB := Lib.hid (fun o p => ((Below.refl w.heap.size w).alloc (Nat.le_refl _) o).alloc (by simp) p)
  have HW := Lib.hid (fun o cs => (show Whole ((w.alloc o).alloc (.cells cs 25)) (w.heap.size + 1) 25 cs from by have := Whole.new (w.alloc o) 25 cs; rwa [World.size_alloc] at this))
  have s1 : IntKind.i64.wrap (r + 1) = r + 1 := IntWalk.i64_in _ (by omega)
  have s2 : IntKind.i64.wrap (s + 1) = s + 1 := IntWalk.i64_in _ (by omega)
  have s3 : IntKind.i64.wrap (t + by_) = t + by_ := IntWalk.i64_in _ (by omega)
  clear hp hb
  by_cases q : by_ = 0
  · subst q
    rw [if_pos rfl, Int.add_zero]
    rw [Int.add_zero] at s3 ⊢
    have s4 := s3
    have s5 : t + 0 = t := Int.add_zero t
    go_enter Try.func23, Try.ntmps23
    go_wp2
    exact bodyPost_ret (results_cell_row rfl _ _ _ 25 _ (0, 0) _ rfl (HW.out _ _) Try.underlying25 rfl sy_info) rfl ⟨rfl, HB.out _ _⟩
  · rw [if_neg q]
    have q2 : (by_ != 0) = true := by simp [bne, q]
    go_enter Try.func23, Try.ntmps23
    go_wp2
    exact bodyPost_ret (results_cell_row rfl _ _ _ 25 _ (0, 0) _ rfl (HW.out _ _) Try.underlying25 rfl sy_info) rfl ⟨rfl, HB.out _ _⟩

set_option maxRecDepth 100000 in
set_option maxHeartbeats 1000000 in
theorem refMay_any (y : Sy) (w : World) : Calls Try.prog 24 #[y.v] w fun e w' => e = .returned (.bool (mayY y)) ∧ Below w.heap.size w w' := by
  obtain ⟨r, s, t, b⟩ := y
  unfold Sy.v mayY
  dsimp only
  have HB := Lib.hid (fun o => ((Below.refl w.heap.size w).alloc (Nat.le_refl _) o))
  by_cases q : (0 ≤ r ∧ r ≤ 2147483647) ∧ (0 ≤ s ∧ s ≤ r)
  · have e1 : decide (r < 0) = false := decide_eq_false (by omega)
    have e2 : decide (2147483647 < r) = false := decide_eq_false (by omega)
    have e3 : decide (s < 0) = false := decide_eq_false (by omega)
    have e4 : decide (r < s) = false := decide_eq_false (by omega)
    by_cases q2 : t ≤ 4294967296
    · have e6 : decide (t ≤ 4294967296) = true := decide_eq_true q2
      by_cases q3 : -4294967296 ≤ t
      · have e7 : decide (-4294967296 ≤ t) = true := decide_eq_true q3
        rw [decide_eq_true (by omega)]
        clear q q2 q3
        go_enter Try.func24, Try.ntmps24
        go_wp2
        go_ret
        exact ⟨rfl, HB.out _⟩
      · have e7 : decide (-4294967296 ≤ t) = false := decide_eq_false q3
        rw [decide_eq_false (by omega)]
        clear q q2 q3
        go_enter Try.func24, Try.ntmps24
        go_wp2
        go_ret
        exact ⟨rfl, HB.out _⟩
    · have e6 : decide (t ≤ 4294967296) = false := decide_eq_false q2
      rw [decide_eq_false (by omega)]
      clear q q2
      go_enter Try.func24, Try.ntmps24
      go_wp2
      go_ret
      exact ⟨rfl, HB.out _⟩
  · rw [decide_eq_false (by omega)]
    by_cases q1 : r < 0
    · have e1 : decide (r < 0) = true := decide_eq_true q1
      clear q q1
      go_enter Try.func24, Try.ntmps24
      go_wp2
      go_ret
      exact ⟨rfl, HB.out _⟩
    · have e1 : decide (r < 0) = false := decide_eq_false q1
      by_cases q2 : 2147483647 < r
      · have e2 : decide (2147483647 < r) = true := decide_eq_true q2
        clear q q1 q2
        go_enter Try.func24, Try.ntmps24
        go_wp2
        go_ret
        exact ⟨rfl, HB.out _⟩
      · have e2 : decide (2147483647 < r) = false := decide_eq_false q2
        by_cases q3 : s < 0
        · have e3 : decide (s < 0) = true := decide_eq_true q3
          clear q q1 q2 q3
          go_enter Try.func24, Try.ntmps24
          go_wp2
          go_ret
          exact ⟨rfl, HB.out _⟩
        · have e3 : decide (s < 0) = false := decide_eq_false q3
          have e4 : decide (r < s) = true := decide_eq_true (by omega)
          clear q q1 q2 q3
          go_enter Try.func24, Try.ntmps24
          go_wp2
          go_ret
          exact ⟨rfl, HB.out _⟩
end Go.Proofs.Yteljalgfkmnamaa
