/- alive: the chapter's first example answers true, and writes nothing that was there. -/
import Derived.Test.YtnefjkbnolbpbaaGRefT
namespace Go.Proofs.Ytnefjkbnolbpbaa
open Go.RowKit

theorem next_lit (n r : Int) (h : nextG 32786 n = r) (w : World) : Calls Try.prog 22 #[.int .u16 32786, .int .i64 n] w fun e w' => e = .returned (.int .i64 r) ∧ Below w.heap.size w w' := by
  rw [← h]
  exact next_any 32786 n w (by decide)
theorem text_lit (w : World) : Calls Try.prog 36 #[.int .u16 32786] w fun e w' => e = .returned (.string ⟨#[49, 52, 102]⟩) ∧ Below w.heap.size w w' := by
  refine (text_any 32786 w (by decide)).mono ?_
  rintro e w' ⟨rfl, h⟩
  rw [show textG 32786 = [49, 52, 102] from by decide +kernel]
  exact ⟨rfl, h⟩
theorem of_lit (w : World) (b : Nat) (h : w.heap[b]? = some (.cells #[.int .i64 1, .int .i64 4, .int .i64 15] 3 (0, 0))) : Calls Try.prog 32 #[.slice (some ⟨b, 0, none⟩) 3 3] w fun e w' => e = .returned (.tuple #[.int .u16 32786, .int .i64 0]) ∧ w = w' := by
  have hsrc : ISrc w (some ⟨b, 0, none⟩) [1, 4, 15] := fun _ => ⟨b, 0, rfl, fun i hi => by
    rw [cell_of_row w b (0 + i) _ _ _ h]
    match i, hi with
    | 0, _ => rfl
    | 1, _ => rfl
    | 2, _ => rfl⟩
  refine (of_any (some ⟨b, 0, none⟩) 3 [1, 4, 15] w hsrc (by decide)).mono ?_
  rintro e w' ⟨rfl, rfl⟩
  rw [show ofV [1, 4, 15] = 32786 from by decide +kernel, show ofE [1, 4, 15] = 0 from by decide +kernel]
  exact ⟨rfl, rfl⟩

set_option maxHeartbeats 1000000 in
theorem alive_any (w : World) : Calls Try.prog 38 #[] w fun e w' => e = .returned (.bool true) ∧ Below w.heap.size w w' := by
  have n1 := next_lit 4 15 (by decide +kernel)
  have n2 := next_lit 15 1 (by decide +kernel)
  have n3 := next_lit 0 1 (by decide +kernel)
  have hb0 : Below w.heap.size w (w.alloc (.cells #[.int .i64 1, .int .i64 4, .int .i64 15] 3)) := (Below.refl _ _).alloc (Nat.le_refl _) _
  have ho := of_lit (w.alloc (.cells #[.int .i64 1, .int .i64 4, .int .i64 15] 3)) w.heap.size (heap_alloc_new w _)
  go_enter Try.func38, Try.ntmps38
  go_wp2_with fail
  refine ho.mono ?_
  rintro e w' ⟨rfl, rfl⟩
  go_wp2_with fail
  refine (text_lit _).mono ?_
  rintro e w1 ⟨rfl, b1⟩
  have hb1 := hb0.trans (b1.mono hb0.size)
  go_wp2_with fail
  refine (n1 _).mono ?_
  rintro e w2 ⟨rfl, b2⟩
  have hb2 := hb1.trans (b2.mono hb1.size)
  go_wp2_with fail
  refine (n2 _).mono ?_
  rintro e w3 ⟨rfl, b3⟩
  have hb3 := hb2.trans (b3.mono hb2.size)
  go_wp2_with fail
  refine (n3 _).mono ?_
  rintro e w4 ⟨rfl, b4⟩
  have hb4 := hb3.trans (b4.mono hb3.size)
  go_wp2
  go_ret
  exact ⟨rfl, hb4⟩

end Go.Proofs.Ytnefjkbnolbpbaa
