/- Encode, by a contract; scripts, bytes and boxes that lie beside one another. No condition. -/
import Derived.Test.YtljcaigaofalbaaQZ
import Derived.Test.YtljcaigaofalbaaQV
namespace Go.Proofs.Ytljcaigaofalbaa
open Go.RowKit Go.Shelf

set_option maxRecDepth 100000 in
set_option maxHeartbeats 4000000 in
theorem encode_no (x : Pl) (V : ScV) (s : ScA) (w : World) (h : ScAt w V s) (hm : mayS x s.sc = false) :
    Calls Try.prog 13 #[.agg x.cells, .agg V.cells] w fun e w' => e = .returned (.tuple #[.slice none 0 0, .int .i64 110]) ∧ Below w.heap.size w w' := by
  have hX := held_new (held_new (held_start w) 23 x.cells) 29 V.cells
  simp only [List.nil_append, List.cons_append, World.size_alloc] at hX
  have HX := Lib.hid hX
  have HC := Lib.hid (fun W (hW : Below w.heap.size w W) => CheckS_any x V s W (h.later hW))
  rw [hm] at HC
  unfold errS at HC
  rw [if_neg (by decide)] at HC
  have HS := Lib.hid x.cellsL
  have HV := Lib.hid (show (Try.prog.info? 29).map (·.size) = some V.cells.size by show _ = some 5; kernel_rfl)
  clear hX h hm
  go_enter Try.func13, Try.ntmps13
  go_wp2_with (first
    | (refine wpList_load_row rfl 23 _ rfl w.heap.size rfl 23 x.cells (0, 0) _ (held1 HX.out) Try.underlying23 rfl HS.out.plan ?_)
    | (refine wpList_load_row rfl 29 _ rfl (w.heap.size + 1) rfl 29 V.cells (0, 0) _ (held2 HX.out) Try.underlying29 rfl HV.out ?_)
    | (go_at_call 18; refine (HC.out _ HX.out.1).mono ?_; rintro e w1 ⟨rfl, hb1⟩; have HB1 := Lib.hid hb1; clear hb1))
  go_ret2
  exact ⟨rfl, k_then HB1.out HX.out.1⟩
/-- Encode's bytes, read. -/
theorem Encode_sc (x : Pl) (V : ScV) (s : ScA) (w : World) (h : ScAt w V s) (hm : mayS x s.sc = true) (L : List UInt8) (hL : encS x s.sc = L) :
    Calls Try.prog 13 #[.agg x.cells, .agg V.cells] w fun e w' => ∃ (A : Option Addr) (c : Nat), e = .returned (.tuple #[.slice A L.length c, .int .i64 0]) ∧ Src w' A L.length L ∧ (A = none → c = 0) ∧ Below w.heap.size w w' := by
  subst hL
  refine (encode_yes x V s w h hm).mono fun e w' k => ?_
  obtain ⟨v, rfl, hown, hb⟩ := k
  obtain ⟨A, c, rfl, _, hs, _, hz⟩ := Src.of_own hown
  exact ⟨A, c, rfl, hs, fun e => (hz e).2, hb⟩

/-- Boxes, scripts and bytes that lie there, and all that was in w. -/
structure BK (w W : World) (l : List (Nat × TypeId × Array Value)) (ss : List (ScV × ScA)) (bs : List (Option Addr × List UInt8)) : Prop where
  held : Held w l W
  sc : ∀ y ∈ ss, ScAt W y.1 y.2
  src : ∀ y ∈ bs, Src W y.1 y.2.length y.2
section
variable {w W W' : World} {l : List (Nat × TypeId × Array Value)} {ss : List (ScV × ScA)} {bs : List (Option Addr × List UInt8)}
theorem BK.later (h : BK w W l ss bs) (hb : Below W.heap.size W W') : BK w W' l ss bs := ⟨held_later hb h.held, fun y hy => (h.sc y hy).later hb, fun y hy => (h.src y hy).below hb⟩
theorem BK.box (h : BK w W l ss bs) (t : TypeId) (cs : Array Value) : BK w (W.alloc (.cells cs t)) (l ++ [(W.heap.size, t, cs)]) ss bs := by
  have hb : Below W.heap.size W (W.alloc (.cells cs t)) := (Below.refl _ _).alloc (Nat.le_refl _) _
  exact ⟨held_new h.held t cs, fun y hy => (h.sc y hy).later hb, fun y hy => (h.src y hy).below hb⟩
theorem BK.script (h : BK w W l ss bs) {V : ScV} {s : ScA} (hs : ScAt W V s) : BK w W l (ss ++ [(V, s)]) bs := ⟨h.held, fun y hy => by
  rcases List.mem_append.1 hy with hy | hy
  · exact h.sc y hy
  · rw [List.mem_singleton] at hy
    subst hy
    exact hs, h.src⟩
theorem BK.bytes (h : BK w W l ss bs) {A : Option Addr} {b : List UInt8} (hs : Src W A b.length b) : BK w W l ss (bs ++ [(A, b)]) := ⟨h.held, h.sc, fun y hy => by
  rcases List.mem_append.1 hy with hy | hy
  · exact h.src y hy
  · rw [List.mem_singleton] at hy
    subst hy
    exact hs⟩
theorem BK.whole {y : Nat × TypeId × Array Value} (h : BK w W l ss bs) (hy : y ∈ l) : Whole W y.1 y.2.1 y.2.2 := h.held.2 y hy
theorem BK.below (h : BK w W l ss bs) : Below w.heap.size w W := h.held.1
end
end Go.Proofs.Ytljcaigaofalbaa
