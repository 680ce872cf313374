/- New, by contracts. No condition. -/
import Derived.Test.YtmplidgafdobkaaUSend
namespace Go.Proofs.Ytmplidgafdobkaa
open Go.RowKit Go.Shelf

/-- A new bus, in new memory. -/
def Made (w : World) (p : Pl) (b : Nat) (w' : World) : Prop := ∃ S l, BusAt w' S b l (.slice none 0 0) [] ⟨p, [], 0, 0⟩ ∧ Below w.heap.size w w' ∧ w.heap.size ≤ b ∧ ∀ k, S k → w.heap.size ≤ k

set_option maxRecDepth 100000 in
set_option maxHeartbeats 4000000 in
theorem new_yes (p : Pl) (w : World) (h : failsL p 11 = 0) : Calls Try.prog 9 #[.agg p.cells] w fun e w' => ∃ b, e = .returned (.tuple #[.pointer (some ⟨b, 0, none⟩), .int .i64 0]) ∧ Made w p b w' := by
  have HC := Lib.hid (fun W => Check_any p W)
  rw [show chkL p = 0 from if_pos h] at HC
  have HS := Lib.hid p.cellsL
  have HB := Lib.hid ((Below.refl w.heap.size w).alloc (Nat.le_refl _) (.cells p.cells 23))
  have HR := Lib.hid (Whole.new w 23 p.cells)
  clear h
  obtain ⟨p0, p1, p2, p3, p4, p5, p6, p7, p8, p9, p10, p11, p12, p13, p14, p15⟩ := p
  unfold Pl.cells at *
  dsimp only at *
  go_enter Try.func9, Try.ntmps9
  go_wp2_with (first
    | (refine wpList_load_row rfl 23 (.tmp 1) rfl w.heap.size rfl 23 _ (0, 0) _ HR.out Try.underlying23 rfl HS.out.plan ?_)
    | (go_at_call 24; refine (HC.out _).mono ?_; rintro e w1 ⟨rfl, hb1⟩; have HB1 := Lib.hid (k_then hb1 HB.out); have hr1 := k_later hb1 HR.out; clear HR; have HR := Lib.hid hr1; clear hr1 hb1))
  go_ret2
  have z := HB1.out.size
  refine ⟨w1.heap.size + 1, rfl, fun k => k = w1.heap.size, w1.heap.size, ⟨?_, ?_, World.ownsRow_nil _ _ _ _, rfl, (fun _ ha => by cases ha), by omega, rfl, (fun k e => by simp [Value.ownBlock] at e), fun k e => by have e : k = w1.heap.size := e; simp; omega⟩, (HB1.out.alloc z _).alloc (by simp; omega) _, by omega, fun k e => by have e : k = w1.heap.size := e; omega⟩
  · have := Whole.new (w1.alloc (.cells #[.int .i64 p0, .int .i64 p1, .int .i64 p2, .int .i64 p3, .int .i64 p4, .int .i64 p5, .int .i64 p6, .int .i64 p7, .int .i64 p8, .int .i64 p9, .int .i64 p10, .int .i64 p11, .int .i64 p12, .int .i64 p13, .int .i64 p14, .int .i64 p15, .slice none 0 0, .int .i64 0, .int .i64 0] 72)) 60 #[.pointer (some ⟨w1.heap.size, 0, none⟩)]
    simpa using this
  · exact (Whole.new w1 72 _).alloc _
set_option maxRecDepth 100000 in
set_option maxHeartbeats 4000000 in
theorem new_no (p : Pl) (w : World) (h : failsL p 11 ≠ 0) : Calls Try.prog 9 #[.agg p.cells] w fun e w' => e = .returned (.tuple #[.pointer none, .int .i64 120]) ∧ Below w.heap.size w w' := by
  have HC := Lib.hid (fun W => Check_any p W)
  rw [show chkL p = 70 from if_neg h] at HC
  have HS := Lib.hid p.cellsL
  have HB := Lib.hid ((Below.refl w.heap.size w).alloc (Nat.le_refl _) (.cells p.cells 23))
  have HR := Lib.hid (Whole.new w 23 p.cells)
  clear h
  generalize p.cells = cs at *
  go_enter Try.func9, Try.ntmps9
  go_wp2_with (first
    | (refine wpList_load_row rfl 23 (.tmp 1) rfl w.heap.size rfl 23 _ (0, 0) _ HR.out Try.underlying23 rfl HS.out.plan ?_)
    | (go_at_call 24; refine (HC.out _).mono ?_; rintro e w1 ⟨rfl, hb1⟩; have HB1 := Lib.hid (k_then hb1 HB.out); clear hb1))
  go_ret2
  exact ⟨rfl, HB1.out⟩
/-- A new bus beside blocks that it does not touch. -/
theorem new_f {F : Nat → Prop} (p : Pl) (w : World) (h : failsL p 11 = 0) (hB : Bnd F w) : Calls Try.prog 9 #[.agg p.cells] w fun e w' => ∃ b, e = .returned (.tuple #[.pointer (some ⟨b, 0, none⟩), .int .i64 0]) ∧ BusF F b ⟨p, [], 0, 0⟩ w' ∧ Below w.heap.size w w' := by
  refine (new_yes p w h).mono ?_
  rintro e w' ⟨b, rfl, S, l, h1, h2, h3, h4⟩
  exact ⟨b, rfl, ⟨S, l, _, [], h1, okG_new h, (fun k hk hs => by have := hB k hk; have := h4 k hs; omega), (fun e => by have := hB b e; omega), fun a ha => by cases ha⟩, h2⟩
end Go.Proofs.Ytmplidgafdobkaa
