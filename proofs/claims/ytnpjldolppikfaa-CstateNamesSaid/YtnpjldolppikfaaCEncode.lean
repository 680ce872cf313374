/- The bytes of a C-state, or the error: the program's and the document's, each by a contract. -/
import Derived.Test.YtnpjldolppikfaaCEnc
import Derived.Test.YtnpjldolppikfaaCSeen
namespace Go.Proofs.Ytnpjldolppikfaa
open Go.RowKit

/-- New bytes beside a number. -/
def FreshE (w : World) (l : List UInt8) (k : Int) (e : Ending) (w' : World) : Prop :=
  ∃ v, e = .returned (.tuple #[v, .int .i64 k]) ∧ w'.ownsRow w.heap.size 5 1 v l.length (bv l) ∧ Below w.heap.size w w'
theorem FreshE.nil_ {w w' : World} {k : Int} (hb : Below w.heap.size w w') : FreshE w [] k (.returned (.tuple #[.slice none 0 0, .int .i64 k])) w' := ⟨_, rfl, World.ownsRow_nil _ _ _ _, hb⟩

set_option maxHeartbeats 1000000 in
theorem encode_no (r s m : Int) (g : Nat) (w : World) (h : okC r s m = false) : Calls Try.prog 12 #[.agg #[.int .i64 r, .int .i64 s, .int .i64 m, .int .u16 (g : Int)]] w (FreshE w (encV r s m g) (chkC r s m)) := by
  have hb : Below w.heap.size w (w.alloc (.cells #[.int .i64 r, .int .i64 s, .int .i64 m, .int .u16 (g : Int)] 25)) := (Below.refl _ _).alloc (Nat.le_refl _) _
  have e1 : chkC r s m = 40 := chk_not h
  have e2 : encV r s m g = [] := by simp [encV, h]
  rw [e2, e1]
  have HE := Lib.hid e1
  clear e1 e2 h
  go_enter Try.func12, Try.ntmps12
  go_wp2_with (go_at_call 16; refine (check_any _ _ _ _ _).mono ?_; rintro e w' ⟨rfl, hb2⟩; rw [HE.out]; have hb3 := below_then hb2 hb)
  go_ret2
  exact FreshE.nil_ hb3

set_option maxHeartbeats 1000000 in
theorem refEncode_no (r s m : Int) (g : Nat) (w : World) (h : okC r s m = false) : Calls Try.prog 13 #[.agg #[.int .i64 r, .int .i64 s, .int .i64 m, .int .u16 (g : Int)]] w (FreshE w (encV r s m g) (chkC r s m)) := by
  have hb : Below w.heap.size w (w.alloc (.cells #[.int .i64 r, .int .i64 s, .int .i64 m, .int .u16 (g : Int)] 25)) := (Below.refl _ _).alloc (Nat.le_refl _) _
  have e1 : chkC r s m = 40 := chk_not h
  have e2 : encV r s m g = [] := by simp [encV, h]
  rw [e2, e1]
  have HE := Lib.hid e1
  clear e1 e2 h
  go_enter Try.func13, Try.ntmps13
  go_wp2_with (go_at_call 17; refine (refCheck_any _ _ _ _ _).mono ?_; rintro e w' ⟨rfl, hb2⟩; rw [HE.out]; have hb3 := below_then hb2 hb)
  go_ret2
  exact FreshE.nil_ hb3

set_option maxHeartbeats 1000000 in
theorem encode_yes (R S M g : Nat) (w : World) (hR : R ≤ 2147483647) (hS : S ≤ 15) (hM : M ≤ 7) (hg : g < 65536) : Calls Try.prog 12 #[.agg #[.int .i64 (R : Int), .int .i64 (S : Int), .int .i64 (M : Int), .int .u16 (g : Int)]] w (FreshE w (encL R S M g) 0) := by
  have hb : Below w.heap.size w (w.alloc (.cells #[.int .i64 (R : Int), .int .i64 (S : Int), .int .i64 (M : Int), .int .u16 (g : Int)] 25)) := (Below.refl _ _).alloc (Nat.le_refl _) _
  have hW1 := Whole.new w 25 #[.int .i64 (R : Int), .int .i64 (S : Int), .int .i64 (M : Int), .int .u16 (g : Int)]
  have e1 : chkC (R : Int) (S : Int) (M : Int) = 0 := by
    have := okC_mk (r := (R : Int)) (s := (S : Int)) (m := (M : Int)) (by omega)
    simp [chkC, this]
  have HE := Lib.hid e1
  have HR := Lib.hid hR
  have HS := Lib.hid hS
  have HM := Lib.hid hM
  have HG := Lib.hid hg
  have hl := encL_length R S M g
  generalize hL : encL R S M g = L at *
  have HL := Lib.hid hL
  have HLL := Lib.hid hl
  clear e1 hL hl hR hS hM hg
  go_enter Try.func12, Try.ntmps12
  have hmk := hmf
  go_wp2_with fail
  refine (check_any _ _ _ _ _).mono ?_
  rintro e w1 ⟨rfl, k1⟩
  rw [HE.out]
  have hb1 := below_then k1 hb
  have hW2 := whole_later k1 hW1
  have hz := hW2.lt
  obtain ⟨c0, c1, c2, c3, cf⟩ := hW2.four
  have o0 := OutAt.new w1
  have hb2 := hb1.alloc hb1.size (.cells #[.pointer none, .int .i64 0, .bool false] 66)
  clear hb hW1 hW2 k1
  go_wp2_with fail
  refine (write4_any R S M g _ _ _ o0 HR.out HS.out HM.out HG.out).mono ?_
  rintro e w2 ⟨rfl, o1, k2⟩
  rw [HL.out] at o1
  have hb3 := k2.on hb2 (fun i hi => by have : i = w1.heap.size := hi; omega) (by simp; omega)
  clear o0 hb2 k2
  revert o1
  generalize Grow _ _ w2 = T
  intro o1
  have HA := Lib.hid (all_any w2 T _ _ o1 (by simp [HLL.out]))
  clear o1
  go_wp2_with fail
  refine HA.out.mono ?_
  rintro e w3 ⟨v, rfl, hown, k3⟩
  go_wp2
  go_ret2
  exact ⟨v, rfl, ownsRow_base hown hb3.size, hb3.trans (k3.mono hb3.size)⟩

theorem encode_any (r s m : Int) (g : Nat) (w : World) (hg : g < 65536) : Calls Try.prog 12 #[.agg #[.int .i64 r, .int .i64 s, .int .i64 m, .int .u16 (g : Int)]] w (FreshE w (encV r s m g) (chkC r s m)) := by
  cases h : okC r s m
  · exact encode_no r s m g w h
  · obtain ⟨⟨r1, r2⟩, ⟨s1, s2⟩, ⟨m1, m2⟩⟩ := okC_yes h
    rw [show encV r s m g = encL r.toNat s.toNat m.toNat g from by simp [encV, h], show chkC r s m = 0 from by simp [chkC, h]]
    obtain ⟨R, rfl⟩ := Int.eq_ofNat_of_zero_le r1
    obtain ⟨S, rfl⟩ := Int.eq_ofNat_of_zero_le s1
    obtain ⟨M, rfl⟩ := Int.eq_ofNat_of_zero_le m1
    exact encode_yes R S M g w (by omega) (by omega) (by omega) hg

end Go.Proofs.Ytnpjldolppikfaa
