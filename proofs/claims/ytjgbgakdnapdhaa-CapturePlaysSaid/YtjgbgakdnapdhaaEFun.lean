/- Capture's small functions: isNode, isChannel, isDeviation, some, pair.has, pair.middle, by contracts. No condition. -/
import Derived.Test.YtjgbgakdnapdhaaEDef
import Derived.LoopTactic
import Derived.IntWalk
namespace Go.Proofs.Ytjgbgakdnapdhaa
open Go.RowKit Go.Shelf

set_option maxHeartbeats 1000000 in
theorem isNode_any (n : Int) (w : World) : Calls Try.prog 28 #[.int .i64 n] w fun e w' => e = .returned (.bool (nodeB n)) ∧ w' = w := by
  unfold nodeB
  by_cases h1 : 0 ≤ n <;> by_cases h2 : n < 16
  all_goals
    go_enter Try.func28, Try.ntmps28
    go_wp2
    go_ret
    simp [h1, h2]
set_option maxHeartbeats 1000000 in
theorem isChannel_any (n : Int) (w : World) : Calls Try.prog 33 #[.int .i64 n] w fun e w' => e = .returned (.bool (chanB n)) ∧ w' = w := by
  unfold chanB
  by_cases h1 : 0 ≤ n <;> by_cases h2 : n < 2
  all_goals
    go_enter Try.func33, Try.ntmps33
    go_wp2
    go_ret
    simp [h1, h2]
set_option maxHeartbeats 1000000 in
theorem isDeviation_any (n : Int) (w : World) : Calls Try.prog 34 #[.int .i64 n] w fun e w' => e = .returned (.bool (byB n)) ∧ w' = w := by
  unfold byB
  by_cases h1 : -4294967296 ≤ n <;> by_cases h2 : n ≤ 4294967296
  all_goals
    go_enter Try.func34, Try.ntmps34
    go_wp2
    go_ret
    simp [h1, h2]
set_option maxHeartbeats 1000000 in
theorem some_any (n : Int) (w : World) : Calls Try.prog 32 #[.int .i64 n] w fun e w' => e = .returned (.agg #[.int .i64 n, .bool true]) ∧ Below w.heap.size w w' := by
  have H0 := Lib.hid (And.intro (Whole.new w 26 #[.int .i64 n, .bool true]) ((Below.refl _ w).alloc (Nat.le_refl _) (.cells #[.int .i64 n, .bool true] 26)))
  go_enter Try.func32, Try.ntmps32
  go_wp2
  exact bodyPost_ret (results_cell_row rfl _ _ w.heap.size 26 _ (0, 0) _ rfl H0.out.1 Try.underlying26 rfl (by kernel_rfl)) rfl ⟨rfl, H0.out.2⟩

/-- Two values of a node's deviations, held against each other. -/
theorem maybe_equal (a b : Option Int) (d : Nat) (w : World) : (Op.equalIn (d + 2) 26 (.agg #[.int .i64 (a.getD 0), .bool a.isSome]) (.agg #[.int .i64 (b.getD 0), .bool b.isSome])).run Try.prog w = .ok (decide (a = b)) w := by
  have hS : Try.prog.underlying 26 = some (.struct (Try.prog.fieldsOf 26)) := by kernel_rfl
  have hp : Try.prog.stoodInHeld 26 = false := by kernel_rfl
  rw [run_equalIn_agg w (d + 1) 26 _ _ hS hp]
  simp only [Program.fieldsOf, Try.underlying26]
  go_simp
  cases a with
  | none => cases b <;> simp
  | some x =>
    cases b with
    | none => simp
    | some y => by_cases h : x = y <;> simp [h]
theorem pair_equal (a b a' b' : Option Int) (w : World) : (Op.equalIn 10000 28 (.agg #[.int .i64 (a.getD 0), .bool a.isSome, .int .i64 (b.getD 0), .bool b.isSome]) (.agg #[.int .i64 (a'.getD 0), .bool a'.isSome, .int .i64 (b'.getD 0), .bool b'.isSome])).run Try.prog w = .ok (decide (a = a' ∧ b = b')) w := by
  have h1 : ∀ a b : Option Int, ∀ w, (Op.equalIn 9999 26 (.agg #[.int .i64 (a.getD 0), .bool a.isSome]) (.agg #[.int .i64 (b.getD 0), .bool b.isSome])).run Try.prog w = .ok (decide (a = b)) w := fun a b w => maybe_equal a b 9997 w
  have p0 : ∀ (a b c d : Value) w, (part 26 #[a, b, c, d] 0).run Try.prog w = .ok (.agg #[a, b]) w := fun _ _ _ _ _ => by kernel_rfl
  have p1 : ∀ (a b c d : Value) w, (part 26 #[a, b, c, d] 2).run Try.prog w = .ok (.agg #[c, d]) w := fun _ _ _ _ _ => by kernel_rfl
  have s0 : ∀ w, (sizeOf 26).run Try.prog w = .ok 2 w := fun _ => by kernel_rfl
  rw [show (10000 : Nat) = 9999 + 1 from rfl]
  unfold Op.equalIn
  simp only [Sem.run_bind, run_underlying Try.underlying28, Result.andThen_ok]
  simp only [s0, Result.andThen_ok]
  simp [List.range', p0, p1, h1]
  by_cases g1 : a = a' <;> by_cases g2 : b = b' <;> simp [g1, g2]

set_option maxHeartbeats 1000000 in
theorem has_any (a b : Option Int) (w : World) : Calls Try.prog 30 #[.agg (prC a b).toArray] w fun e w' => e = .returned (.bool (devP a b).isSome) ∧ Below w.heap.size w w' := by
  have qq : ∀ W : World, (Op.equalIn 10000 28 (.agg #[.int .i64 (a.getD 0), .bool a.isSome, .int .i64 (b.getD 0), .bool b.isSome]) (.agg #[.int .i64 0, .bool false, .int .i64 0, .bool false])).run Try.prog W = .ok (!(devP a b).isSome) W := fun W => by
    have := pair_equal a b none none W
    rw [devP_isSome]
    cases a <;> cases b <;> simpa using this
  unfold prC
  have HB := Lib.hid ((Below.refl _ w).alloc (Nat.le_refl _) (.cells #[.int .i64 (a.getD 0), .bool a.isSome, .int .i64 (b.getD 0), .bool b.isSome] 28))
  generalize a.getD 0 = x at *
  generalize b.getD 0 = y at *
  generalize a.isSome = p at *
  generalize b.isSome = q at *
  generalize (devP a b).isSome = r at *
  go_enter Try.func30, Try.ntmps30
  go_wp2
  go_ret
  exact ⟨rfl, HB.out⟩

/-- A deviation, if it is one, is such. -/
def OkO (a : Option Int) : Prop := ∀ v, a = some v → -4294967296 ≤ v ∧ v ≤ 4294967296
theorem OkO.bound {a : Option Int} (h : OkO a) : -4294967296 ≤ a.getD 0 ∧ a.getD 0 ≤ 4294967296 := by
  cases a with
  | none => exact ⟨by decide, by decide⟩
  | some v => exact h v rfl
theorem dev_val (a b : Option Int) : (devP a b).getD 0 = if a.isSome && b.isSome then (a.getD 0 + b.getD 0) / 2 else a.getD 0 + b.getD 0 := by
  cases a <;> cases b <;> simp [devP]
set_option maxHeartbeats 2000000 in
theorem middle_any (a b : Option Int) (ha : OkO a) (hb : OkO b) (w : World) : Calls Try.prog 29 #[.agg (prC a b).toArray] w fun e w' => e = .returned (.int .i64 ((devP a b).getD 0)) ∧ Below w.heap.size w w' := by
  have b1 := ha.bound
  have b2 := hb.bound
  rw [dev_val]
  unfold prC
  have hbw := ((Below.refl _ w).alloc (Nat.le_refl _) (.cells #[.int .i64 (a.getD 0), .bool a.isSome, .int .i64 (b.getD 0), .bool b.isSome] 28))
  generalize a.getD 0 = x at *
  generalize b.getD 0 = y at *
  generalize a.isSome = p at *
  generalize b.isSome = q at *
  have i0 : ∀ W : World, (Instr.index 28 (.agg #[.int .i64 x, .bool p, .int .i64 y, .bool q]) (.int .i64 0)).run Try.prog W = .ok (.agg #[.int .i64 x, .bool p]) W := fun W => by kernel_rfl
  have i1 : ∀ W : World, (Instr.index 28 (.agg #[.int .i64 x, .bool p, .int .i64 y, .bool q]) (.int .i64 1)).run Try.prog W = .ok (.agg #[.int .i64 y, .bool q]) W := fun W => by kernel_rfl
  have HB := Lib.hid hbw
  clear ha hb hbw
  go_enter Try.func29, Try.ntmps29
  go_wp2
  go_loopw [3, 4, 8] (fun sv bv iv wr => Below w.heap.size w wr ∧ ((iv = .int .i64 0 ∧ sv = .int .i64 0 ∧ bv = .bool true) ∨ (iv = .int .i64 1 ∧ sv = .int .i64 x ∧ bv = .bool p) ∨ (iv = .int .i64 2 ∧ sv = .int .i64 (x + y) ∧ bv = .bool (p && q)))) (fun _ _ iv _ => 3 - (intOf iv).toNat)
  case atStart => exact ⟨HB.out, .inl ⟨rfl, rfl, rfl⟩⟩
  case round =>
    obtain ⟨hw, (⟨rfl, rfl, rfl⟩ | ⟨rfl, rfl, rfl⟩ | ⟨rfl, rfl, rfl⟩)⟩ := hrel
    · have HW := Lib.hid (hw.alloc hw.size (.cells #[.int .i64 x, .bool p] 26))
      clear hw
      go_wp2
      go_roundw
      case rel => exact ⟨HW.out, .inr (.inl ⟨rfl, rfl, rfl⟩)⟩
      case measure => decide
    · have HW := Lib.hid (hw.alloc hw.size (.cells #[.int .i64 y, .bool q] 26))
      clear hw
      cases p
      all_goals
        go_wp2
        go_roundw
        case rel => exact ⟨HW.out, .inr (.inr ⟨rfl, rfl, rfl⟩)⟩
        case measure => decide
    · have HW := Lib.hid hw
      clear hw
      cases p <;> cases q
      all_goals
        go_wp2
        go_ret
        exact ⟨rfl, HW.out⟩
end Go.Proofs.Ytjgbgakdnapdhaa
