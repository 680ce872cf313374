/- The document's agenda: First. No condition. -/
import Derived.Test.YtchfponnajednaaALOrdD
namespace Go.Proofs.Ytchfponnajednaa
open Go.RowKit Go.Shelf

/-- The document's agenda at a block: its list reads as es. -/
structure RefAt (w : World) (rr : Nat) (A : Option Addr) (c : Nat) (es : List Ev) : Prop where
  whole : Whole w rr 31 #[.slice A es.length c]
  src : VSrc w A es.length es
  cap : es.length ≤ c
  nil : A = none → c = 0
  apart : ¬ blk A rr
  lt : ∀ k, blk A k → k < w.heap.size
theorem RefAt.kept {S : Nat → Prop} {w w' : World} {rr : Nat} {A : Option Addr} {c : Nat} {es : List Ev} (h : RefAt w rr A c es) (hk : Kept S w w') (h1 : ¬ S rr) (h2 : ∀ k, blk A k → ¬ S k) : RefAt w' rr A c es :=
  ⟨h.whole.kept hk h1, h.src.kept hk (fun ad e => h2 _ ⟨ad, e, rfl⟩), h.cap, h.nil, h.apart, fun k hb => Nat.lt_of_lt_of_le (h.lt k hb) hk.size⟩
theorem RefAt.later {w w' : World} {rr : Nat} {A : Option Addr} {c : Nat} {es : List Ev} (h : RefAt w rr A c es) (hb : Below w.heap.size w w') : RefAt w' rr A c es :=
  h.kept (Kept.of_below hb Empty) (fun h => h) (fun _ _ h => h)
/-- .. its list laid anew. -/
theorem RefAt.store {w : World} {rr : Nat} {A A' : Option Addr} {c c' : Nat} {es es' : List Ev} (h : RefAt w rr A c es) (hs : VSrc w A' es'.length es') (hc : es'.length ≤ c') (hn : A' = none → c' = 0) (hb : ∀ k, blk A' k → k ≠ rr ∧ k < w.heap.size) :
    RefAt (w.setCell ⟨rr, 0, none⟩ (.slice A' es'.length c')) rr A' c' es' ∧ Kept (fun k => k = rr) w (w.setCell ⟨rr, 0, none⟩ (.slice A' es'.length c')) := by
  have k : Kept (fun k => k = rr) w (w.setCell ⟨rr, 0, none⟩ (.slice A' es'.length c')) := Kept.setCell (S := fun k => k = rr) (Kept.refl _ w) (p := ⟨rr, 0, none⟩) (.inl rfl) _
  exact ⟨⟨h.whole.set 0 _, hs.kept k (fun ad e he => (hb _ ⟨ad, e, rfl⟩).1 he), hc, hn, fun hbr => (hb _ hbr).1 rfl, fun j hj => Nat.lt_of_lt_of_le (hb j hj).2 k.size⟩, k⟩
theorem kept_five {S : Nat → Prop} {a b : World} {z : Nat} (h : Kept S a b) (hz : S z ∨ a.heap.size ≤ z) (v0 v1 v2 v3 v4 : Value) :
    Kept S a (((((b.setCell ⟨z, 0, none⟩ v0).setCell ⟨z, 1, none⟩ v1).setCell ⟨z, 2, none⟩ v2).setCell ⟨z, 3, none⟩ v3).setCell ⟨z, 4, none⟩ v4) :=
  Kept.setCell (S := S) (Kept.setCell (S := S) (Kept.setCell (S := S) (Kept.setCell (S := S) (Kept.setCell (S := S) h (p := ⟨z, 0, none⟩) hz _) (p := ⟨z, 1, none⟩) hz _) (p := ⟨z, 2, none⟩) hz _) (p := ⟨z, 3, none⟩) hz _) (p := ⟨z, 4, none⟩) hz _
/-- What the head of a list is. -/
def headE (es : List Ev) : Ev := es.headD ⟨0, 0, 0, 0, 0⟩
set_option maxRecDepth 100000 in
set_option maxHeartbeats 2000000 in
theorem refFirst_any (w : World) (rr : Nat) (A : Option Addr) (c : Nat) (es : List Ev) (h : RefAt w rr A c es) :
    Calls Try.prog 12 #[.pointer (some ⟨rr, 0, none⟩)] w fun e w' => e = .returned (.tuple #[evV (headE es), .bool (!es.isEmpty)]) ∧ Below w.heap.size w w' := by
  have hb0 : Below w.heap.size w (w.alloc (.cells #[.int .i64 0, .int .i64 0, .int .i64 0, .int .i64 0, .int .i64 0] 36)) := (Below.refl _ _).alloc (Nat.le_refl _) _
  have hW0 : Whole (w.alloc (.cells #[.int .i64 0, .int .i64 0, .int .i64 0, .int .i64 0, .int .i64 0] 36)) w.heap.size 36 #[.int .i64 0, .int .i64 0, .int .i64 0, .int .i64 0, .int .i64 0] := Whole.new w _ _
  have h0 := h.later hb0
  have hr := h0.whole.cell 0
  simp at hr
  have hfr := hW0.frozen
  obtain ⟨c0, c1, c2, c3, c4⟩ := five_whole hW0
  have HB0 := Lib.hid hb0
  cases es with
  | nil =>
    clear h h0 hb0 hW0
    go_enter Try.func12, Try.ntmps12
    go_wp2
    refine bodyPost_ret (v := .tuple #[.agg #[.int .i64 0, .int .i64 0, .int .i64 0, .int .i64 0, .int .i64 0], .bool false]) (by simp [results, Try.results12, go_sem, c0, c1, c2, c3, c4]) rfl ⟨rfl, ?_⟩
    exact HB0.out
  | cons x es =>
    obtain ⟨g, o, rfl, hc⟩ := h0.src.at_ (i := 0) (by simp)
    rw [Nat.zero_mul, Nat.add_zero, List.getD_cons_zero] at hc
    obtain ⟨d0, d1, d2, d3, d4⟩ := five_of hc
    have e1 : ¬ (es.length : Int) + 1 = 0 := by omega
    have e2 : (0 : Int) < (es.length : Int) + 1 := by omega
    clear h h0 hb0 hW0 hc
    go_enter Try.func12, Try.ntmps12
    go_wp2
    refine bodyPost_ret (v := .tuple #[.agg #[.int .i64 x.t, .int .i64 x.k, .int .i64 x.n, .int .i64 x.m, .int .i64 x.v], .bool true]) (by simp [results, Try.results12, go_sem]) rfl ⟨rfl, ?_⟩
    exact (Below.refl _ _).alloc (Nat.le_refl _) _
end Go.Proofs.Ytchfponnajednaa
