/- CstateNames, its walk. -/
import Derived.Test.YtnpjldolppikfaaCAlive
import Derived.Test.YtnpjldolppikfaaCSteps
import Derived.Test.YtnpjldolppikfaaCAsks
import Derived.Test.YtnpjldolppikfaaCBackD
import Derived.Lib.ConvBytes
namespace Go.Proofs.Ytnpjldolppikfaa
open Go.RowKit

theorem enc_not (r s m : Int) (h : okC r s m = false) (w : World) : Calls Try.prog 12 #[.agg #[.int .i64 r, .int .i64 s, .int .i64 m, .int .u16 0]] w fun e w' => ∃ (A : Option Addr) (c : Nat), e = .returned (.tuple #[.slice A 0 c, .int .i64 40]) ∧ Below w.heap.size w w' := by
  refine (encode_any r s m 0 w (by decide)).mono fun e w' hf => ?_
  rw [show encV r s m 0 = [] from by simp [encV, h], show chkC r s m = 40 from chk_not h] at hf
  obtain ⟨A, c, rfl, _, _, _, _, hb⟩ := hf.opened
  exact ⟨A, c, rfl, hb⟩
theorem dec_not (l : List UInt8) (h : decB l = false) (A : Option Addr) (n c : Nat) (w : World) (hs : Src w A n l) (hz : A = none → c = 0) (hn : n ≤ 100) : Calls Try.prog 14 #[.slice A n c] w fun e w' => e = .returned (.tuple #[.agg #[.int .i64 0, .int .i64 0, .int .i64 0, .int .u16 0], .int .i64 40]) ∧ Below w.heap.size w w' := by
  refine (decode_any A n c l w hs hz (by omega)).mono fun e w' hf => ?_
  obtain ⟨rfl, hb⟩ := hf
  rw [decT_no h]
  exact ⟨rfl, hb⟩
theorem suc_val (r s n r' s' e' : Int) (h : sucR r s 0 n = r' ∧ sucS r s 0 n = s' ∧ sucM r s 0 n = 0 ∧ sucV r s 0 n 0 = 0 ∧ sucE r s 0 n = e') (w : World) : Calls Try.prog 18 #[.agg #[.int .i64 r, .int .i64 s, .int .i64 0, .int .u16 0], .int .i64 n] w fun e w' => e = .returned (.tuple #[.agg #[.int .i64 r', .int .i64 s', .int .i64 0, .int .u16 0], .int .i64 e']) ∧ Below w.heap.size w w' := by
  obtain ⟨rfl, rfl, h3, h4, rfl⟩ := h
  refine (suc_b r s 0 0 n w).mono fun e w' hf => ?_
  rw [h3, h4] at hf
  exact hf
theorem ago_val (r s n k a b e' : Int) (h : agoR r s 0 n k = a ∧ agoS r s 0 n k = b ∧ agoE r s 0 n k = e') (w : World) : Calls Try.prog 20 #[.agg #[.int .i64 r, .int .i64 s, .int .i64 0, .int .u16 0], .int .i64 n, .int .i64 k] w fun e w' => e = .returned (.tuple #[.int .i64 a, .int .i64 b, .int .i64 e']) ∧ Below w.heap.size w w' := by
  obtain ⟨rfl, rfl, rfl⟩ := h
  exact ago_b r s 0 0 n k w

theorem below_bytes (X : World) (e : TypeId) (s : ByteArray) : Below X.heap.size X (Lib.bytesWorld X e s) :=
  ⟨rfl, rfl, rfl, by rw [Lib.bytesWorld_size]; omega, fun j hj => Lib.bytesWorld_at_old X e s j hj⟩
theorem src_bytes (X : World) (s : ByteArray) (g : Nat) (hg : g = X.heap.size) (n : Nat) (hn : s.size = n) : Src (Lib.bytesWorld X 5 s) (some ⟨g, 0, none⟩) n s.data.toList := by
  subst hg
  subst hn
  refine ⟨by simp, fun _ => ⟨_, _, rfl, fun i hi => ?_⟩⟩
  have hi' : i < s.size := by simpa using hi
  rw [Nat.zero_add, Lib.bytesWorld_cell X 5 s i hi']
  simp [List.getD, List.getElem?_eq_getElem hi]

theorem field3 (a b c d : Int) (W : World) : (Instr.field 25 (.agg #[.int .i64 a, .int .i64 b, .int .i64 c, .int .u16 d]) 3).run Try.prog W = .ok (.int .u16 d) W := by kernel_rfl

section
variable (w : World)
theorem apart_lit1 : Calls Try.prog 22 #[.agg #[.int .i64 1, .int .i64 0, .int .i64 0, .int .u16 5], .agg #[.int .i64 1, .int .i64 0, .int .i64 0, .int .u16 6]] w fun e w' => e = .returned (.tuple #[.int .u16 3, .bool true]) ∧ Below w.heap.size w w' := by
  have h := apart_any 1 0 0 1 0 0 5 6 w (by decide) (by decide)
  unfold ApartAt at h
  rw [show apG 5 6 = 3 from by decide +kernel, show sameC 1 0 0 1 0 0 = true from by decide +kernel] at h
  exact h
theorem apart_lit2 : Calls Try.prog 22 #[.agg #[.int .i64 1, .int .i64 0, .int .i64 0, .int .u16 0], .agg #[.int .i64 1, .int .i64 1, .int .i64 0, .int .u16 0]] w fun e w' => e = .returned (.tuple #[.int .u16 0, .bool false]) ∧ Below w.heap.size w w' := by
  have h := apart_any 1 0 0 1 1 0 0 0 w (by decide) (by decide)
  unfold ApartAt at h
  rw [show apG 0 0 = 0 from by decide +kernel, show sameC 1 0 0 1 1 0 = false from by decide +kernel] at h
  exact h
theorem cmp_lit1 : Calls Try.prog 24 #[.agg #[.int .i64 1, .int .i64 5, .int .i64 0, .int .u16 0], .agg #[.int .i64 2, .int .i64 0, .int .i64 0, .int .u16 0]] w fun e w' => e = .returned (.int .i64 (-1)) ∧ Below w.heap.size w w' := by
  have h := compare_any 1 5 0 0 2 0 0 0 w
  rw [show cmpC 1 5 2 0 = -1 from by decide +kernel] at h
  exact h
theorem cmp_lit2 : Calls Try.prog 24 #[.agg #[.int .i64 2, .int .i64 1, .int .i64 0, .int .u16 0], .agg #[.int .i64 2, .int .i64 0, .int .i64 0, .int .u16 0]] w fun e w' => e = .returned (.int .i64 1) ∧ Below w.heap.size w w' := by
  have h := compare_any 2 1 0 0 2 0 0 0 w
  rw [show cmpC 2 1 2 0 = 1 from by decide +kernel] at h
  exact h
theorem seen_lit1 : Calls Try.prog 26 #[.agg #[.int .i64 1, .int .i64 1, .int .i64 0, .int .u16 0], .int .i64 3, .bool true] w fun e w' => e = .returned (.agg #[.int .i64 1, .int .i64 1, .int .i64 0, .int .u16 8]) ∧ Below w.heap.size w w' := by
  have h := seen_true 1 1 0 3 0 w (by decide)
  rw [show seenG 0 3 true = 8 from by decide +kernel] at h
  exact h
theorem seen_lit2 : Calls Try.prog 26 #[.agg #[.int .i64 0, .int .i64 0, .int .i64 0, .int .u16 8], .int .i64 3, .bool false] w fun e w' => e = .returned (.agg #[.int .i64 0, .int .i64 0, .int .i64 0, .int .u16 0]) ∧ Below w.heap.size w w' := by
  have h := seen_false 0 0 0 3 8 w (by decide)
  rw [show seenG 8 3 false = 0 from by decide +kernel] at h
  exact h
theorem seen_lit3 : Calls Try.prog 26 #[.agg #[.int .i64 1, .int .i64 1, .int .i64 0, .int .u16 0], .int .i64 16, .bool true] w fun e w' => e = .returned (.agg #[.int .i64 1, .int .i64 1, .int .i64 0, .int .u16 0]) ∧ Below w.heap.size w w' := by
  have h := seen_true 1 1 0 16 0 w (by decide)
  rw [show seenG 0 16 true = 0 from by decide +kernel] at h
  exact h
end

set_option maxRecDepth 100000 in
set_option maxHeartbeats 8000000 in
theorem names_walk (w : World) : Calls Try.prog 6 #[] w fun e w' => e = .returned (.bool true) ∧ Below w.heap.size w w' := by
  have hS := Whole.new w 25 #[.int .i64 (-1), .int .i64 0, .int .i64 0, .int .u16 0, .int .i64 2147483648, .int .i64 0, .int .i64 0, .int .u16 0, .int .i64 0, .int .i64 (-1), .int .i64 0, .int .u16 0, .int .i64 0, .int .i64 16, .int .i64 0, .int .u16 0, .int .i64 0, .int .i64 0, .int .i64 (-1), .int .u16 0, .int .i64 0, .int .i64 0, .int .i64 8, .int .u16 0]
  have hb := (Below.refl _ w).alloc (Nat.le_refl _) (.cells #[.int .i64 (-1), .int .i64 0, .int .i64 0, .int .u16 0, .int .i64 2147483648, .int .i64 0, .int .i64 0, .int .u16 0, .int .i64 0, .int .i64 (-1), .int .i64 0, .int .u16 0, .int .i64 0, .int .i64 16, .int .i64 0, .int .u16 0, .int .i64 0, .int .i64 0, .int .i64 (-1), .int .u16 0, .int .i64 0, .int .i64 0, .int .i64 8, .int .u16 0] 25)
  have hfd := field3
  go_enter Try.func6, Try.ntmps6
  go_wp2
  generalize w.alloc (.cells #[.int .i64 (-1), .int .i64 0, .int .i64 0, .int .u16 0, .int .i64 2147483648, .int .i64 0, .int .i64 0, .int .u16 0, .int .i64 0, .int .i64 (-1), .int .i64 0, .int .u16 0, .int .i64 0, .int .i64 16, .int .i64 0, .int .u16 0, .int .i64 0, .int .i64 0, .int .i64 (-1), .int .u16 0, .int .i64 0, .int .i64 0, .int .i64 8, .int .u16 0] 25) = V at *
  refine wp_loop_rounds 7 ?_
  rw [rounds_succ]
  have q0 : V.cell? ⟨w.heap.size, 0, none⟩ = some (.int .i64 (-1)) := hS.cell 0
  have q1 : V.cell? ⟨w.heap.size, 1, none⟩ = some (.int .i64 0) := hS.cell 1
  have q2 : V.cell? ⟨w.heap.size, 2, none⟩ = some (.int .i64 0) := hS.cell 2
  have q3 : V.cell? ⟨w.heap.size, 3, none⟩ = some (.int .u16 0) := hS.cell 3
  go_wp2_with fail
  refine (enc_not (-1) 0 0 (by decide +kernel) _).mono ?_
  rintro e V0a ⟨A, c, rfl, k1⟩
  have hb1 := below_then k1 (hb.alloc hb.size (.cells #[.int .i64 (-1), .int .i64 0, .int .i64 0, .int .u16 0] 25))
  have hS1 := whole_later k1 (hS.alloc (.cells #[.int .i64 (-1), .int .i64 0, .int .i64 0, .int .u16 0] 25))
  have hC1 := whole_later k1 (Whole.new V 25 #[.int .i64 (-1), .int .i64 0, .int .i64 0, .int .u16 0])
  obtain ⟨c0, c1, c2, c3, _⟩ := hC1.four
  clear q0 q1 q2 q3 hb hS k1
  go_wp2_with fail
  refine (check_any (-1) 0 0 0 _).mono ?_
  rintro e V0b ⟨rfl, k2⟩
  rw [show chkC (-1) 0 0 = 40 from by decide +kernel]
  have hb := below_then k2 hb1
  have hS := whole_later k2 hS1
  clear c0 c1 c2 c3 hC1 hb1 hS1 k2
  go_wp2_with fail
  rw [rounds_succ]
  have q0 : V0b.cell? ⟨w.heap.size, 4, none⟩ = some (.int .i64 2147483648) := hS.cell 4
  have q1 : V0b.cell? ⟨w.heap.size, 5, none⟩ = some (.int .i64 0) := hS.cell 5
  have q2 : V0b.cell? ⟨w.heap.size, 6, none⟩ = some (.int .i64 0) := hS.cell 6
  have q3 : V0b.cell? ⟨w.heap.size, 7, none⟩ = some (.int .u16 0) := hS.cell 7
  go_wp2_with fail
  refine (enc_not 2147483648 0 0 (by decide +kernel) _).mono ?_
  rintro e V1a ⟨A, c, rfl, k1⟩
  have hb1 := below_then k1 (hb.alloc hb.size (.cells #[.int .i64 2147483648, .int .i64 0, .int .i64 0, .int .u16 0] 25))
  have hS1 := whole_later k1 (hS.alloc (.cells #[.int .i64 2147483648, .int .i64 0, .int .i64 0, .int .u16 0] 25))
  have hC1 := whole_later k1 (Whole.new V0b 25 #[.int .i64 2147483648, .int .i64 0, .int .i64 0, .int .u16 0])
  obtain ⟨c0, c1, c2, c3, _⟩ := hC1.four
  clear q0 q1 q2 q3 hb hS k1
  go_wp2_with fail
  refine (check_any 2147483648 0 0 0 _).mono ?_
  rintro e V1b ⟨rfl, k2⟩
  rw [show chkC 2147483648 0 0 = 40 from by decide +kernel]
  have hb := below_then k2 hb1
  have hS := whole_later k2 hS1
  clear c0 c1 c2 c3 hC1 hb1 hS1 k2
  go_wp2_with fail
  rw [rounds_succ]
  have q0 : V1b.cell? ⟨w.heap.size, 8, none⟩ = some (.int .i64 0) := hS.cell 8
  have q1 : V1b.cell? ⟨w.heap.size, 9, none⟩ = some (.int .i64 (-1)) := hS.cell 9
  have q2 : V1b.cell? ⟨w.heap.size, 10, none⟩ = some (.int .i64 0) := hS.cell 10
  have q3 : V1b.cell? ⟨w.heap.size, 11, none⟩ = some (.int .u16 0) := hS.cell 11
  go_wp2_with fail
  refine (enc_not 0 (-1) 0 (by decide +kernel) _).mono ?_
  rintro e V2a ⟨A, c, rfl, k1⟩
  have hb1 := below_then k1 (hb.alloc hb.size (.cells #[.int .i64 0, .int .i64 (-1), .int .i64 0, .int .u16 0] 25))
  have hS1 := whole_later k1 (hS.alloc (.cells #[.int .i64 0, .int .i64 (-1), .int .i64 0, .int .u16 0] 25))
  have hC1 := whole_later k1 (Whole.new V1b 25 #[.int .i64 0, .int .i64 (-1), .int .i64 0, .int .u16 0])
  obtain ⟨c0, c1, c2, c3, _⟩ := hC1.four
  clear q0 q1 q2 q3 hb hS k1
  go_wp2_with fail
  refine (check_any 0 (-1) 0 0 _).mono ?_
  rintro e V2b ⟨rfl, k2⟩
  rw [show chkC 0 (-1) 0 = 40 from by decide +kernel]
  have hb := below_then k2 hb1
  have hS := whole_later k2 hS1
  clear c0 c1 c2 c3 hC1 hb1 hS1 k2
  go_wp2_with fail
  rw [rounds_succ]
  have q0 : V2b.cell? ⟨w.heap.size, 12, none⟩ = some (.int .i64 0) := hS.cell 12
  have q1 : V2b.cell? ⟨w.heap.size, 13, none⟩ = some (.int .i64 16) := hS.cell 13
  have q2 : V2b.cell? ⟨w.heap.size, 14, none⟩ = some (.int .i64 0) := hS.cell 14
  have q3 : V2b.cell? ⟨w.heap.size, 15, none⟩ = some (.int .u16 0) := hS.cell 15
  go_wp2_with fail
  refine (enc_not 0 16 0 (by decide +kernel) _).mono ?_
  rintro e V3a ⟨A, c, rfl, k1⟩
  have hb1 := below_then k1 (hb.alloc hb.size (.cells #[.int .i64 0, .int .i64 16, .int .i64 0, .int .u16 0] 25))
  have hS1 := whole_later k1 (hS.alloc (.cells #[.int .i64 0, .int .i64 16, .int .i64 0, .int .u16 0] 25))
  have hC1 := whole_later k1 (Whole.new V2b 25 #[.int .i64 0, .int .i64 16, .int .i64 0, .int .u16 0])
  obtain ⟨c0, c1, c2, c3, _⟩ := hC1.four
  clear q0 q1 q2 q3 hb hS k1
  go_wp2_with fail
  refine (check_any 0 16 0 0 _).mono ?_
  rintro e V3b ⟨rfl, k2⟩
  rw [show chkC 0 16 0 = 40 from by decide +kernel]
  have hb := below_then k2 hb1
  have hS := whole_later k2 hS1
  clear c0 c1 c2 c3 hC1 hb1 hS1 k2
  go_wp2_with fail
  rw [rounds_succ]
  have q0 : V3b.cell? ⟨w.heap.size, 16, none⟩ = some (.int .i64 0) := hS.cell 16
  have q1 : V3b.cell? ⟨w.heap.size, 17, none⟩ = some (.int .i64 0) := hS.cell 17
  have q2 : V3b.cell? ⟨w.heap.size, 18, none⟩ = some (.int .i64 (-1)) := hS.cell 18
  have q3 : V3b.cell? ⟨w.heap.size, 19, none⟩ = some (.int .u16 0) := hS.cell 19
  go_wp2_with fail
  refine (enc_not 0 0 (-1) (by decide +kernel) _).mono ?_
  rintro e V4a ⟨A, c, rfl, k1⟩
  have hb1 := below_then k1 (hb.alloc hb.size (.cells #[.int .i64 0, .int .i64 0, .int .i64 (-1), .int .u16 0] 25))
  have hS1 := whole_later k1 (hS.alloc (.cells #[.int .i64 0, .int .i64 0, .int .i64 (-1), .int .u16 0] 25))
  have hC1 := whole_later k1 (Whole.new V3b 25 #[.int .i64 0, .int .i64 0, .int .i64 (-1), .int .u16 0])
  obtain ⟨c0, c1, c2, c3, _⟩ := hC1.four
  clear q0 q1 q2 q3 hb hS k1
  go_wp2_with fail
  refine (check_any 0 0 (-1) 0 _).mono ?_
  rintro e V4b ⟨rfl, k2⟩
  rw [show chkC 0 0 (-1) = 40 from by decide +kernel]
  have hb := below_then k2 hb1
  have hS := whole_later k2 hS1
  clear c0 c1 c2 c3 hC1 hb1 hS1 k2
  go_wp2_with fail
  rw [rounds_succ]
  have q0 : V4b.cell? ⟨w.heap.size, 20, none⟩ = some (.int .i64 0) := hS.cell 20
  have q1 : V4b.cell? ⟨w.heap.size, 21, none⟩ = some (.int .i64 0) := hS.cell 21
  have q2 : V4b.cell? ⟨w.heap.size, 22, none⟩ = some (.int .i64 8) := hS.cell 22
  have q3 : V4b.cell? ⟨w.heap.size, 23, none⟩ = some (.int .u16 0) := hS.cell 23
  go_wp2_with fail
  refine (enc_not 0 0 8 (by decide +kernel) _).mono ?_
  rintro e V5a ⟨A, c, rfl, k1⟩
  have hb1 := below_then k1 (hb.alloc hb.size (.cells #[.int .i64 0, .int .i64 0, .int .i64 8, .int .u16 0] 25))
  have hS1 := whole_later k1 (hS.alloc (.cells #[.int .i64 0, .int .i64 0, .int .i64 8, .int .u16 0] 25))
  have hC1 := whole_later k1 (Whole.new V4b 25 #[.int .i64 0, .int .i64 0, .int .i64 8, .int .u16 0])
  obtain ⟨c0, c1, c2, c3, _⟩ := hC1.four
  clear q0 q1 q2 q3 hb hS k1
  go_wp2_with fail
  refine (check_any 0 0 8 0 _).mono ?_
  rintro e V5b ⟨rfl, k2⟩
  rw [show chkC 0 0 8 = 40 from by decide +kernel]
  have hb := below_then k2 hb1
  have hS := whole_later k2 hS1
  clear c0 c1 c2 c3 hC1 hb1 hS1 k2
  go_wp2_with fail
  rw [rounds_succ]
  have hb9 := hb.alloc hb.size (.cells #[.string ⟨#[]⟩, .string ⟨#[0, 0, 0, 0, 0, 0, 0]⟩, .string ⟨#[0, 0, 0, 0, 0, 0, 0, 0, 0]⟩, .string ⟨#[128, 0, 0, 0, 0, 0, 0, 0]⟩, .string ⟨#[0, 0, 0, 0, 16, 0, 0, 0]⟩, .string ⟨#[0, 0, 0, 0, 0, 8, 0, 0]⟩] 9)
  have hT := Whole.new V5b 9 #[.string ⟨#[]⟩, .string ⟨#[0, 0, 0, 0, 0, 0, 0]⟩, .string ⟨#[0, 0, 0, 0, 0, 0, 0, 0, 0]⟩, .string ⟨#[128, 0, 0, 0, 0, 0, 0, 0]⟩, .string ⟨#[0, 0, 0, 0, 16, 0, 0, 0]⟩, .string ⟨#[0, 0, 0, 0, 0, 8, 0, 0]⟩]
  clear hb hS
  go_wp2_with fail
  generalize V5b.heap.size = gT at *
  generalize V5b.alloc (.cells #[.string ⟨#[]⟩, .string ⟨#[0, 0, 0, 0, 0, 0, 0]⟩, .string ⟨#[0, 0, 0, 0, 0, 0, 0, 0, 0]⟩, .string ⟨#[128, 0, 0, 0, 0, 0, 0, 0]⟩, .string ⟨#[0, 0, 0, 0, 16, 0, 0, 0]⟩, .string ⟨#[0, 0, 0, 0, 0, 8, 0, 0]⟩] 9) = X0 at *
  refine wp_loop_rounds 7 ?_
  rw [rounds_succ]
  have q0 : X0.cell? ⟨gT, 0, none⟩ = some (.string ⟨#[]⟩) := hT.cell 0
  have zq : gT < X0.heap.size := hT.lt
  have kc : ∀ W : World, (convert 9 26 (.string ⟨#[]⟩)).run Try.prog W = .ok (.slice (some ⟨W.heap.size, 0, none⟩) 0 (grownCap W 0 0 5)) (Lib.bytesWorld W 5 ⟨#[]⟩) := fun W => Lib.run_convert_string_bytes W 9 26 5 ⟨#[]⟩ Try.underlying9 Try.underlying26 Try.underlying5
  go_wp2_with fail
  refine (dec_not [] (by decide +kernel) _ 0 _ _ (src_bytes _ _ _ (by simp) _ rfl) (fun h => by cases h) (by decide)).mono ?_
  rintro e X1 ⟨rfl, k1⟩
  have hbn := below_then k1 (below_then (below_bytes _ _ _) hb9)
  have hTn := whole_later k1 (whole_later (below_bytes _ _ _) hT)
  clear q0 zq kc hb9 hT k1
  have hT := hTn
  have hb9 := hbn.alloc hbn.size (.cells #[.int .i64 0, .int .i64 0, .int .i64 0, .int .u16 0] 25)
  clear hTn hbn
  go_wp2_with fail
  rw [rounds_succ]
  have q0 : X1.cell? ⟨gT, 1, none⟩ = some (.string ⟨#[0, 0, 0, 0, 0, 0, 0]⟩) := hT.cell 1
  have zq : gT < X1.heap.size := hT.lt
  have kc : ∀ W : World, (convert 9 26 (.string ⟨#[0, 0, 0, 0, 0, 0, 0]⟩)).run Try.prog W = .ok (.slice (some ⟨W.heap.size, 0, none⟩) 7 (grownCap W 7 0 5)) (Lib.bytesWorld W 5 ⟨#[0, 0, 0, 0, 0, 0, 0]⟩) := fun W => Lib.run_convert_string_bytes W 9 26 5 ⟨#[0, 0, 0, 0, 0, 0, 0]⟩ Try.underlying9 Try.underlying26 Try.underlying5
  go_wp2_with fail
  refine (dec_not [0, 0, 0, 0, 0, 0, 0] (by decide +kernel) _ 7 _ _ (src_bytes _ _ _ (by simp) _ rfl) (fun h => by cases h) (by decide)).mono ?_
  rintro e X2 ⟨rfl, k1⟩
  have hbn := below_then k1 (below_then (below_bytes _ _ _) hb9)
  have hTn := whole_later k1 (whole_later (below_bytes _ _ _) (hT.alloc (.cells #[.int .i64 0, .int .i64 0, .int .i64 0, .int .u16 0] 25)))
  clear q0 zq kc hb9 hT k1
  have hT := hTn
  have hb9 := hbn.alloc hbn.size (.cells #[.int .i64 0, .int .i64 0, .int .i64 0, .int .u16 0] 25)
  clear hTn hbn
  go_wp2_with fail
  rw [rounds_succ]
  have q0 : X2.cell? ⟨gT, 2, none⟩ = some (.string ⟨#[0, 0, 0, 0, 0, 0, 0, 0, 0]⟩) := hT.cell 2
  have zq : gT < X2.heap.size := hT.lt
  have kc : ∀ W : World, (convert 9 26 (.string ⟨#[0, 0, 0, 0, 0, 0, 0, 0, 0]⟩)).run Try.prog W = .ok (.slice (some ⟨W.heap.size, 0, none⟩) 9 (grownCap W 9 0 5)) (Lib.bytesWorld W 5 ⟨#[0, 0, 0, 0, 0, 0, 0, 0, 0]⟩) := fun W => Lib.run_convert_string_bytes W 9 26 5 ⟨#[0, 0, 0, 0, 0, 0, 0, 0, 0]⟩ Try.underlying9 Try.underlying26 Try.underlying5
  go_wp2_with fail
  refine (dec_not [0, 0, 0, 0, 0, 0, 0, 0, 0] (by decide +kernel) _ 9 _ _ (src_bytes _ _ _ (by simp) _ rfl) (fun h => by cases h) (by decide)).mono ?_
  rintro e X3 ⟨rfl, k1⟩
  have hbn := below_then k1 (below_then (below_bytes _ _ _) hb9)
  have hTn := whole_later k1 (whole_later (below_bytes _ _ _) (hT.alloc (.cells #[.int .i64 0, .int .i64 0, .int .i64 0, .int .u16 0] 25)))
  clear q0 zq kc hb9 hT k1
  have hT := hTn
  have hb9 := hbn.alloc hbn.size (.cells #[.int .i64 0, .int .i64 0, .int .i64 0, .int .u16 0] 25)
  clear hTn hbn
  go_wp2_with fail
  rw [rounds_succ]
  have q0 : X3.cell? ⟨gT, 3, none⟩ = some (.string ⟨#[128, 0, 0, 0, 0, 0, 0, 0]⟩) := hT.cell 3
  have zq : gT < X3.heap.size := hT.lt
  have kc : ∀ W : World, (convert 9 26 (.string ⟨#[128, 0, 0, 0, 0, 0, 0, 0]⟩)).run Try.prog W = .ok (.slice (some ⟨W.heap.size, 0, none⟩) 8 (grownCap W 8 0 5)) (Lib.bytesWorld W 5 ⟨#[128, 0, 0, 0, 0, 0, 0, 0]⟩) := fun W => Lib.run_convert_string_bytes W 9 26 5 ⟨#[128, 0, 0, 0, 0, 0, 0, 0]⟩ Try.underlying9 Try.underlying26 Try.underlying5
  go_wp2_with fail
  refine (dec_not [128, 0, 0, 0, 0, 0, 0, 0] (by decide +kernel) _ 8 _ _ (src_bytes _ _ _ (by simp) _ rfl) (fun h => by cases h) (by decide)).mono ?_
  rintro e X4 ⟨rfl, k1⟩
  have hbn := below_then k1 (below_then (below_bytes _ _ _) hb9)
  have hTn := whole_later k1 (whole_later (below_bytes _ _ _) (hT.alloc (.cells #[.int .i64 0, .int .i64 0, .int .i64 0, .int .u16 0] 25)))
  clear q0 zq kc hb9 hT k1
  have hT := hTn
  have hb9 := hbn.alloc hbn.size (.cells #[.int .i64 0, .int .i64 0, .int .i64 0, .int .u16 0] 25)
  clear hTn hbn
  go_wp2_with fail
  rw [rounds_succ]
  have q0 : X4.cell? ⟨gT, 4, none⟩ = some (.string ⟨#[0, 0, 0, 0, 16, 0, 0, 0]⟩) := hT.cell 4
  have zq : gT < X4.heap.size := hT.lt
  have kc : ∀ W : World, (convert 9 26 (.string ⟨#[0, 0, 0, 0, 16, 0, 0, 0]⟩)).run Try.prog W = .ok (.slice (some ⟨W.heap.size, 0, none⟩) 8 (grownCap W 8 0 5)) (Lib.bytesWorld W 5 ⟨#[0, 0, 0, 0, 16, 0, 0, 0]⟩) := fun W => Lib.run_convert_string_bytes W 9 26 5 ⟨#[0, 0, 0, 0, 16, 0, 0, 0]⟩ Try.underlying9 Try.underlying26 Try.underlying5
  go_wp2_with fail
  refine (dec_not [0, 0, 0, 0, 16, 0, 0, 0] (by decide +kernel) _ 8 _ _ (src_bytes _ _ _ (by simp) _ rfl) (fun h => by cases h) (by decide)).mono ?_
  rintro e X5 ⟨rfl, k1⟩
  have hbn := below_then k1 (below_then (below_bytes _ _ _) hb9)
  have hTn := whole_later k1 (whole_later (below_bytes _ _ _) (hT.alloc (.cells #[.int .i64 0, .int .i64 0, .int .i64 0, .int .u16 0] 25)))
  clear q0 zq kc hb9 hT k1
  have hT := hTn
  have hb9 := hbn.alloc hbn.size (.cells #[.int .i64 0, .int .i64 0, .int .i64 0, .int .u16 0] 25)
  clear hTn hbn
  go_wp2_with fail
  rw [rounds_succ]
  have q0 : X5.cell? ⟨gT, 5, none⟩ = some (.string ⟨#[0, 0, 0, 0, 0, 8, 0, 0]⟩) := hT.cell 5
  have zq : gT < X5.heap.size := hT.lt
  have kc : ∀ W : World, (convert 9 26 (.string ⟨#[0, 0, 0, 0, 0, 8, 0, 0]⟩)).run Try.prog W = .ok (.slice (some ⟨W.heap.size, 0, none⟩) 8 (grownCap W 8 0 5)) (Lib.bytesWorld W 5 ⟨#[0, 0, 0, 0, 0, 8, 0, 0]⟩) := fun W => Lib.run_convert_string_bytes W 9 26 5 ⟨#[0, 0, 0, 0, 0, 8, 0, 0]⟩ Try.underlying9 Try.underlying26 Try.underlying5
  go_wp2_with fail
  refine (dec_not [0, 0, 0, 0, 0, 8, 0, 0] (by decide +kernel) _ 8 _ _ (src_bytes _ _ _ (by simp) _ rfl) (fun h => by cases h) (by decide)).mono ?_
  rintro e X6 ⟨rfl, k1⟩
  have hbn := below_then k1 (below_then (below_bytes _ _ _) hb9)
  have hTn := whole_later k1 (whole_later (below_bytes _ _ _) (hT.alloc (.cells #[.int .i64 0, .int .i64 0, .int .i64 0, .int .u16 0] 25)))
  clear q0 zq kc hb9 hT k1
  have hT := hTn
  have hb9 := hbn.alloc hbn.size (.cells #[.int .i64 0, .int .i64 0, .int .i64 0, .int .u16 0] 25)
  clear hTn hbn
  go_wp2_with fail
  rw [rounds_succ]
  clear hT
  go_wp2_with fail
  refine (at_any 5 3 _).mono ?_
  rintro e Y1 ⟨rfl, k1⟩
  have hbn := below_then k1 hb9
  clear hb9 k1
  have hb9 := hbn
  clear hbn
  go_wp2_with fail
  refine (suc_val 5 3 5 5 4 0 (by decide +kernel) _).mono ?_
  rintro e Y2 ⟨rfl, k1⟩
  have hbn := below_then k1 hb9
  clear hb9 k1
  have hb9 := hbn
  clear hbn
  have hbn := hb9.alloc hb9.size (.cells #[.int .i64 5, .int .i64 4, .int .i64 0, .int .u16 0] 25)
  clear hb9
  have hb9 := hbn
  clear hbn
  have hA := Whole.new Y2 25 #[.int .i64 5, .int .i64 4, .int .i64 0, .int .u16 0]
  go_wp2_with fail
  refine (at_any 5 3 _).mono ?_
  rintro e Y3 ⟨rfl, k1⟩
  have hbn := below_then k1 hb9
  have hAn := whole_later k1 hA
  clear hb9 k1 hA
  have hb9 := hbn
  clear hbn
  have hA := hAn
  clear hAn
  go_wp2_with fail
  refine (suc_val 5 3 3 0 0 40 (by decide +kernel) _).mono ?_
  rintro e Y4 ⟨rfl, k1⟩
  have hbn := below_then k1 hb9
  have hAn := whole_later k1 hA
  clear hb9 k1 hA
  have hb9 := hbn
  clear hbn
  have hA := hAn
  clear hAn
  have hbn := hb9.alloc hb9.size (.cells #[.int .i64 0, .int .i64 0, .int .i64 0, .int .u16 0] 25)
  have hAn := hA.alloc (.cells #[.int .i64 0, .int .i64 0, .int .i64 0, .int .u16 0] 25)
  clear hb9 hA
  have hb9 := hbn
  clear hbn
  have hA := hAn
  clear hAn
  go_wp2_with fail
  refine (at_any 2147483647 3 _).mono ?_
  rintro e Y5 ⟨rfl, k1⟩
  have hbn := below_then k1 hb9
  have hAn := whole_later k1 hA
  clear hb9 k1 hA
  have hb9 := hbn
  clear hbn
  have hA := hAn
  clear hAn
  go_wp2_with fail
  refine (suc_val 2147483647 3 4 0 0 40 (by decide +kernel) _).mono ?_
  rintro e Y6 ⟨rfl, k1⟩
  have hbn := below_then k1 hb9
  have hAn := whole_later k1 hA
  clear hb9 k1 hA
  have hb9 := hbn
  clear hbn
  have hA := hAn
  clear hAn
  have hbn := hb9.alloc hb9.size (.cells #[.int .i64 0, .int .i64 0, .int .i64 0, .int .u16 0] 25)
  have hAn := hA.alloc (.cells #[.int .i64 0, .int .i64 0, .int .i64 0, .int .u16 0] 25)
  clear hb9 hA
  have hb9 := hbn
  clear hbn
  have hA := hAn
  clear hAn
  go_wp2_with fail
  refine (at_any 2147483647 2 _).mono ?_
  rintro e Y7 ⟨rfl, k1⟩
  have hbn := below_then k1 hb9
  have hAn := whole_later k1 hA
  clear hb9 k1 hA
  have hb9 := hbn
  clear hbn
  have hA := hAn
  clear hAn
  go_wp2_with fail
  refine (suc_val 2147483647 2 4 2147483647 3 0 (by decide +kernel) _).mono ?_
  rintro e Y8 ⟨rfl, k1⟩
  have hbn := below_then k1 hb9
  have hAn := whole_later k1 hA
  clear hb9 k1 hA
  have hb9 := hbn
  clear hbn
  have hA := hAn
  clear hAn
  have hbn := hb9.alloc hb9.size (.cells #[.int .i64 2147483647, .int .i64 3, .int .i64 0, .int .u16 0] 25)
  have hAn := hA.alloc (.cells #[.int .i64 2147483647, .int .i64 3, .int .i64 0, .int .u16 0] 25)
  clear hb9 hA
  have hb9 := hbn
  clear hbn
  have hA := hAn
  clear hAn
  have hB := Whole.new Y8 25 #[.int .i64 2147483647, .int .i64 3, .int .i64 0, .int .u16 0]
  go_wp2_with fail
  refine (at_any 0 0 _).mono ?_
  rintro e Y9 ⟨rfl, k1⟩
  have hbn := below_then k1 hb9
  have hAn := whole_later k1 hA
  have hBn := whole_later k1 hB
  clear hb9 k1 hA hB
  have hb9 := hbn
  clear hbn
  have hA := hAn
  clear hAn
  have hB := hBn
  clear hBn
  go_wp2_with fail
  refine (suc_val 0 0 0 0 0 40 (by decide +kernel) _).mono ?_
  rintro e Y10 ⟨rfl, k1⟩
  have hbn := below_then k1 hb9
  have hAn := whole_later k1 hA
  have hBn := whole_later k1 hB
  clear hb9 k1 hA hB
  have hb9 := hbn
  clear hbn
  have hA := hAn
  clear hAn
  have hB := hBn
  clear hBn
  have hbn := hb9.alloc hb9.size (.cells #[.int .i64 0, .int .i64 0, .int .i64 0, .int .u16 0] 25)
  have hAn := hA.alloc (.cells #[.int .i64 0, .int .i64 0, .int .i64 0, .int .u16 0] 25)
  have hBn := hB.alloc (.cells #[.int .i64 0, .int .i64 0, .int .i64 0, .int .u16 0] 25)
  clear hb9 hA hB
  have hb9 := hbn
  clear hbn
  have hA := hAn
  clear hAn
  have hB := hBn
  clear hBn
  go_wp2_with fail
  refine (at_any 0 0 _).mono ?_
  rintro e Y11 ⟨rfl, k1⟩
  have hbn := below_then k1 hb9
  have hAn := whole_later k1 hA
  have hBn := whole_later k1 hB
  clear hb9 k1 hA hB
  have hb9 := hbn
  clear hbn
  have hA := hAn
  clear hAn
  have hB := hBn
  clear hBn
  go_wp2_with fail
  refine (suc_val 0 0 17 0 0 40 (by decide +kernel) _).mono ?_
  rintro e Y12 ⟨rfl, k1⟩
  have hbn := below_then k1 hb9
  have hAn := whole_later k1 hA
  have hBn := whole_later k1 hB
  clear hb9 k1 hA hB
  have hb9 := hbn
  clear hbn
  have hA := hAn
  clear hAn
  have hB := hBn
  clear hBn
  have hbn := hb9.alloc hb9.size (.cells #[.int .i64 0, .int .i64 0, .int .i64 0, .int .u16 0] 25)
  have hAn := hA.alloc (.cells #[.int .i64 0, .int .i64 0, .int .i64 0, .int .u16 0] 25)
  have hBn := hB.alloc (.cells #[.int .i64 0, .int .i64 0, .int .i64 0, .int .u16 0] 25)
  clear hb9 hA hB
  have hb9 := hbn
  clear hbn
  have hA := hAn
  clear hAn
  have hB := hBn
  clear hBn
  go_wp2_with fail
  obtain ⟨a0, a1, a2, a3, _⟩ := hA.four
  obtain ⟨_, b1, _, _, _⟩ := hB.four
  generalize Y12.alloc (.cells #[.int .i64 0, .int .i64 0, .int .i64 0, .int .u16 0] 25) = Vq at *
  have ia0 := fun y : Later Vq => y.cell a0
  have ia1 := fun y : Later Vq => y.cell a1
  have ia2 := fun y : Later Vq => y.cell a2
  have ia3 := fun y : Later Vq => y.cell a3
  have ib1 := fun y : Later Vq => y.cell b1
  have HAt := Lib.hid (fun W => at_any 5 4 W)
  clear a0 a1 a2 a3 b1 hA hB
  refine wp_region_later (by kernel_rfl) (by kernel_rfl) ?_
  repeat (go_big_quiet_step ((go_at_call 28; exact later_of _ HAt.out)))
  refine wpQuiet_nil ?_
  intro _ hw'
  obtain ⟨q, hw''⟩ := hw'
  subst hw''
  have hbn := below_then q.below hb9
  clear ia0 ia1 ia2 ia3 ib1 HAt hb9
  have hb9 := hbn
  clear hbn
  generalize q.at_ = Vr at *
  go_wp2_with fail
  refine (at_any 5 1 _).mono ?_
  rintro e Y13 ⟨rfl, k1⟩
  have hbn := below_then k1 hb9
  clear hb9 k1
  have hb9 := hbn
  clear hbn
  go_wp2_with fail
  refine (ago_val 5 1 4 6 3 3 0 (by decide +kernel) _).mono ?_
  rintro e Y14 ⟨rfl, k1⟩
  have hbn := below_then k1 hb9
  clear hb9 k1
  have hb9 := hbn
  clear hbn
  go_wp2_with fail
  refine (at_any 5 1 _).mono ?_
  rintro e Y15 ⟨rfl, k1⟩
  have hbn := below_then k1 hb9
  clear hb9 k1
  have hb9 := hbn
  clear hbn
  go_wp2_with fail
  refine (ago_val 5 1 4 22 0 0 40 (by decide +kernel) _).mono ?_
  rintro e Y16 ⟨rfl, k1⟩
  have hbn := below_then k1 hb9
  clear hb9 k1
  have hb9 := hbn
  clear hbn
  go_wp2_with fail
  refine (at_any 5 1 _).mono ?_
  rintro e Y17 ⟨rfl, k1⟩
  have hbn := below_then k1 hb9
  clear hb9 k1
  have hb9 := hbn
  clear hbn
  go_wp2_with fail
  refine (ago_val 5 1 4 21 0 0 0 (by decide +kernel) _).mono ?_
  rintro e Y18 ⟨rfl, k1⟩
  have hbn := below_then k1 hb9
  clear hb9 k1
  have hb9 := hbn
  clear hbn
  go_wp2_with fail
  refine (at_any 5 1 _).mono ?_
  rintro e Y19 ⟨rfl, k1⟩
  have hbn := below_then k1 hb9
  clear hb9 k1
  have hb9 := hbn
  clear hbn
  go_wp2_with fail
  refine (ago_val 5 1 4 (-1) 0 0 40 (by decide +kernel) _).mono ?_
  rintro e Y20 ⟨rfl, k1⟩
  have hbn := below_then k1 hb9
  clear hb9 k1
  have hb9 := hbn
  clear hbn
  go_wp2_with fail
  refine (at_any 7 0 _).mono ?_
  rintro e Y21 ⟨rfl, k1⟩
  have hbn := below_then k1 hb9
  clear hb9 k1
  have hb9 := hbn
  clear hbn
  go_wp2_with fail
  refine (ago_val 7 0 1 7 0 0 0 (by decide +kernel) _).mono ?_
  rintro e Y22 ⟨rfl, k1⟩
  have hbn := below_then k1 hb9
  clear hb9 k1
  have hb9 := hbn
  clear hbn
  go_wp2_with fail
  refine (apart_lit1 _).mono ?_
  rintro e Y23 ⟨rfl, k1⟩
  have hbn := below_then k1 hb9
  clear hb9 k1
  have hb9 := hbn
  clear hbn
  go_wp2_with fail
  refine (at_any 1 0 _).mono ?_
  rintro e Y24 ⟨rfl, k1⟩
  have hbn := below_then k1 hb9
  clear hb9 k1
  have hb9 := hbn
  clear hbn
  go_wp2_with fail
  refine (at_any 1 1 _).mono ?_
  rintro e Y25 ⟨rfl, k1⟩
  have hbn := below_then k1 hb9
  clear hb9 k1
  have hb9 := hbn
  clear hbn
  go_wp2_with fail
  refine (apart_lit2 _).mono ?_
  rintro e Y26 ⟨rfl, k1⟩
  have hbn := below_then k1 hb9
  clear hb9 k1
  have hb9 := hbn
  clear hbn
  go_wp2_with fail
  refine (alive4_any _).mono ?_
  rintro e Y27 ⟨rfl, k1⟩
  have hbn := below_then k1 hb9
  clear hb9 k1
  have hb9 := hbn
  clear hbn
  go_wp2_with fail
  refine (at_any 1 5 _).mono ?_
  rintro e Y28 ⟨rfl, k1⟩
  have hbn := below_then k1 hb9
  clear hb9 k1
  have hb9 := hbn
  clear hbn
  go_wp2_with fail
  refine (at_any 2 0 _).mono ?_
  rintro e Y29 ⟨rfl, k1⟩
  have hbn := below_then k1 hb9
  clear hb9 k1
  have hb9 := hbn
  clear hbn
  go_wp2_with fail
  refine (cmp_lit1 _).mono ?_
  rintro e Y30 ⟨rfl, k1⟩
  have hbn := below_then k1 hb9
  clear hb9 k1
  have hb9 := hbn
  clear hbn
  go_wp2_with fail
  refine (at_any 2 1 _).mono ?_
  rintro e Y31 ⟨rfl, k1⟩
  have hbn := below_then k1 hb9
  clear hb9 k1
  have hb9 := hbn
  clear hbn
  go_wp2_with fail
  refine (at_any 2 0 _).mono ?_
  rintro e Y32 ⟨rfl, k1⟩
  have hbn := below_then k1 hb9
  clear hb9 k1
  have hb9 := hbn
  clear hbn
  go_wp2_with fail
  refine (cmp_lit2 _).mono ?_
  rintro e Y33 ⟨rfl, k1⟩
  have hbn := below_then k1 hb9
  clear hb9 k1
  have hb9 := hbn
  clear hbn
  go_wp2_with fail
  refine (at_any 1 1 _).mono ?_
  rintro e Y34 ⟨rfl, k1⟩
  have hbn := below_then k1 hb9
  clear hb9 k1
  have hb9 := hbn
  clear hbn
  go_wp2_with fail
  refine (seen_lit1 _).mono ?_
  rintro e Y35 ⟨rfl, k1⟩
  have hbn := below_then k1 hb9
  clear hb9 k1
  have hb9 := hbn
  clear hbn
  go_wp2_with fail
  refine (seen_lit2 _).mono ?_
  rintro e Y36 ⟨rfl, k1⟩
  have hbn := below_then k1 hb9
  clear hb9 k1
  have hb9 := hbn
  clear hbn
  go_wp2_with fail
  refine (at_any 1 1 _).mono ?_
  rintro e Y37 ⟨rfl, k1⟩
  have hbn := below_then k1 hb9
  clear hb9 k1
  have hb9 := hbn
  clear hbn
  go_wp2_with fail
  refine (seen_lit3 _).mono ?_
  rintro e Y38 ⟨rfl, k1⟩
  have hbn := below_then k1 hb9
  clear hb9 k1
  have hb9 := hbn
  clear hbn
  go_wp2_with fail
  refine (at_any 1 1 _).mono ?_
  rintro e Y39 ⟨rfl, k1⟩
  have hbn := below_then k1 hb9
  clear hb9 k1
  have hb9 := hbn
  clear hbn
  go_wp2
  go_ret
  exact ⟨rfl, hb9⟩

end Go.Proofs.Ytnpjldolppikfaa
