/- nodeOf: a digit's node, by the library's own search, by a contract. -/
import Derived.Test.YtnefjkbnolbpbaaGText
import Derived.Lib.Strings
import Derived.Lib.Slices
import Derived.Lib.Walk
import Derived.Lib.Bytealg
import Derived.Laws.Runes
namespace Go.Proofs.Ytnefjkbnolbpbaa
open Go.RowKit

set_option maxHeartbeats 1000000 in
set_option maxRecDepth 100000 in
theorem litIndexByte (s : ByteArray) (c : Int) (w : World) :
    Calls Try.prog 51 #[.string s, .int .u8 c] w fun e w' => e = .returned (.int .i64 (Lib.indexByte s.data.toList c.toNat.toUInt8)) ∧ w = w' := by
  go_enter Try.func51, Try.ntmps51
  go_wp2
  rw [run_callFunc_extern Try.func52 (by kernel_rfl) (by kernel_rfl) (by kernel_rfl) (e := Extern.BytealgIndexByte.indexByte) (by kernel_rfl), Lib.run_indexByteString]
  simp only [Result.andThen]
  rw [Oper.upon_value]
  go_wp2
  go_ret
  exact ⟨rfl, rfl⟩

theorem indexByte_any (s : ByteArray) (c : Int) (w : World) :
    Calls Try.prog 47 #[.string s, .int .u8 c] w fun e w' => e = .returned (.int .i64 (Lib.indexByte s.data.toList c.toNat.toUInt8)) ∧ w = w' := by
  go_enter Try.func47, Try.ntmps47
  go_wp2_with (go_at_call 51; refine (litIndexByte _ _ _).mono ?_; rintro e w' ⟨rfl, rfl⟩)
  go_ret
  exact ⟨rfl, rfl⟩

/-- The digits, as a string. -/
abbrev digsB : ByteArray := ⟨#[48, 49, 50, 51, 52, 53, 54, 55, 56, 57, 97, 98, 99, 100, 101, 102]⟩

/-- The node of a sign's code; -1, if it is no digit. -/
def nodeI (r : Int) : Int := if r < 128 then Lib.indexByte digsL r.toNat.toUInt8 else -1

set_option maxHeartbeats 1000000 in
set_option maxRecDepth 100000 in
theorem indexRune_ascii (r : Int) (w : World) (h0 : 0 ≤ r) (h1 : r < 128) :
    Calls Try.prog 46 #[.string digsB, .int .i32 r] w fun e w' => e = .returned (.int .i64 (Lib.indexByte digsL r.toNat.toUInt8)) ∧ w = w' := by
  go_enter Try.func46, Try.ntmps46
  go_wp2_with (go_at_call 47; refine (indexByte_any _ _ _).mono ?_; rintro e w' ⟨rfl, rfl⟩)
  go_ret
  exact ⟨rfl, rfl⟩

theorem validRune_any (r : Int) (w : World) (h : 128 ≤ r) : Calls Try.prog 48 #[.int .i32 r] w fun e w' => e = .returned (.bool (validRune r)) ∧ w = w' := by
  have hc : r < 55296 ∨ (55296 ≤ r ∧ r ≤ 57343) ∨ (57343 < r ∧ r ≤ 1114111) ∨ 1114111 < r := by omega
  rcases hc with h' | h' | h' | h'
  · rw [show validRune r = true from decide_eq_true (.inl (by omega))]
    go_enter Try.func48, Try.ntmps48
    go_wp2
    go_ret
    exact ⟨rfl, rfl⟩
  · obtain ⟨a, b⟩ := h'
    rw [show validRune r = false from decide_eq_false (by omega)]
    have h1 : decide (57343 < r) = false := decide_eq_false (by omega)
    go_enter Try.func48, Try.ntmps48
    go_wp2
    go_ret
    exact ⟨rfl, rfl⟩
  · obtain ⟨a, b⟩ := h'
    rw [show validRune r = true from decide_eq_true (.inr (by omega))]
    go_enter Try.func48, Try.ntmps48
    go_wp2
    go_ret
    exact ⟨rfl, rfl⟩
  · rw [show validRune r = false from decide_eq_false (by omega)]
    have h1 : decide (r ≤ 1114111) = false := decide_eq_false (by omega)
    go_enter Try.func48, Try.ntmps48
    go_wp2
    go_ret
    exact ⟨rfl, rfl⟩

set_option maxHeartbeats 1000000 in
set_option maxRecDepth 100000 in
theorem indexRune_invalid (r : Int) (w : World) (h0 : 128 ≤ r) (h1 : validRune r = false) :
    Calls Try.prog 46 #[.string digsB, .int .i32 r] w fun e w' => e = .returned (.int .i64 (-1)) ∧ w = w' := by
  have hne : (r == 65533) = false := by
    rw [beq_eq_false_iff_ne]
    rintro rfl
    revert h1
    decide
  have hd : decide (r < 128) = false := decide_eq_false (by omega)
  have H := Lib.hid h1
  clear h1
  go_enter Try.func46, Try.ntmps46
  go_wp2_with (go_at_call 48; refine (validRune_any _ _ h0).mono ?_; rintro e w' ⟨rfl, rfl⟩; rw [H.out])
  go_ret
  exact ⟨rfl, rfl⟩

end Go.Proofs.Ytnefjkbnolbpbaa
