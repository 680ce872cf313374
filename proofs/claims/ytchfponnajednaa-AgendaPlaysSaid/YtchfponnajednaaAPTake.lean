/- The document's agenda: Take. No condition. -/
import Derived.Test.YtchfponnajednaaAPRef
namespace Go.Proofs.Ytchfponnajednaa
open Go.RowKit Go.Shelf

/-- What a call of the document's agenda leaves. -/
def RefTo (w : World) (rr : Nat) (A : Option Addr) (es : List Ev) (w' : World) : Prop :=
  ∃ A' c', RefAt w' rr A' c' es ∧ Kept (fun k => k = rr) w w' ∧ ∀ k, blk A' k → blk A k ∨ w.heap.size ≤ k
theorem RefAt.to {w w' : World} {rr : Nat} {A : Option Addr} {c : Nat} {es : List Ev} (h : RefAt w rr A c es) (hb : Below w.heap.size w w') : RefTo w rr A es w' :=
  ⟨A, c, h.later hb, Kept.of_below hb _, fun _ h => .inl h⟩
set_option maxRecDepth 100000 in
set_option maxHeartbeats 2000000 in
theorem refTake_any (w : World) (rr : Nat) (A : Option Addr) (c : Nat) (es : List Ev) (h : RefAt w rr A c es) (hl : es.length ≤ 1000000) :
    Calls Try.prog 24 #[.pointer (some ⟨rr, 0, none⟩)] w fun e w' => e = .returned (.tuple #[evV (headE es), .bool (!es.isEmpty)]) ∧ RefTo w rr A es.tail w' := by
  have hb0 : Below w.heap.size w (w.alloc (.cells #[.int .i64 0, .int .i64 0, .int .i64 0, .int .i64 0, .int .i64 0] 36)) := (Below.refl _ _).alloc (Nat.le_refl _) _
  have hW0 : Whole (w.alloc (.cells #[.int .i64 0, .int .i64 0, .int .i64 0, .int .i64 0, .int .i64 0] 36)) w.heap.size 36 #[.int .i64 0, .int .i64 0, .int .i64 0, .int .i64 0, .int .i64 0] := Whole.new w _ _
  have HFI := Lib.hid (refFirst_any _ rr A c es (h.later hb0))
  have HB0 := Lib.hid hb0
  have HW0 := Lib.hid hW0
  have H := Lib.hid h
  clear hb0 hW0 h
  go_enter Try.func24, Try.ntmps24
  go_wp2_with fail
  refine HFI.out.mono ?_
  rintro e w1 ⟨rfl, hb1⟩
  have hbx : Below w1.heap.size w1 (w1.alloc (.cells #[.int .i64 (headE es).t, .int .i64 (headE es).k, .int .i64 (headE es).n, .int .i64 (headE es).m, .int .i64 (headE es).v] 36)) := (Below.refl _ _).alloc (Nat.le_refl _) _
  have HB2 := Lib.hid (k_then hbx (k_then hb1 HB0.out))
  have HW2 := Lib.hid (k_later hbx (k_later hb1 HW0.out))
  have HX2 := Lib.hid (Whole.new w1 36 #[.int .i64 (headE es).t, .int .i64 (headE es).k, .int .i64 (headE es).n, .int .i64 (headE es).m, .int .i64 (headE es).v])
  have HZ := Lib.hid (k_then hb1 HB0.out).size
  clear hb1 hbx HB0 HW0 HFI
  obtain ⟨x, hx⟩ : ∃ x, x = headE es := ⟨_, rfl⟩
  rw [← hx] at HB2 HW2 HX2 ⊢
  have HXE := Lib.hid hx
  clear hx
  cases es with
  | nil =>
    obtain ⟨c0, c1, c2, c3, c4⟩ := five_whole HW2.out
    have hfr := HW2.out.frozen
    obtain ⟨d0, d1, d2, d3, d4⟩ := five_whole HX2.out
    go_wp2
    refine bodyPost_ret (v := .tuple #[.agg #[.int .i64 x.t, .int .i64 x.k, .int .i64 x.n, .int .i64 x.m, .int .i64 x.v], .bool false]) (by simp [results, Try.results24, go_sem, c0, c1, c2, c3, c4]) rfl ⟨by rw [← HXE.out]; rfl, ?_⟩
    exact H.out.to (((((HB2.out.setCell (p := ⟨w.heap.size, 0, none⟩) (Nat.le_refl _) _).setCell (p := ⟨w.heap.size, 1, none⟩) (Nat.le_refl _) _).setCell (p := ⟨w.heap.size, 2, none⟩) (Nat.le_refl _) _).setCell (p := ⟨w.heap.size, 3, none⟩) (Nat.le_refl _) _).setCell (p := ⟨w.heap.size, 4, none⟩) (Nat.le_refl _) _)
  | cons y es =>
    obtain ⟨g, o, rfl, hc⟩ := H.out.src.at_ (i := 0) (by simp)
    have H2 := Lib.hid (H.out.later HB2.out)
    have hr := H2.out.whole.cell 0
    have hrf := H2.out.whole.frozen 0
    simp at hr
    have hrl := H.out.whole.lt
    have hz := HZ.out
    have hn1 : ¬ w.heap.size = rr := by omega
    have hn2 : ¬ w1.heap.size = rr := by omega
    have hn3 : ¬ rr = w.heap.size := by omega
    have hn4 : ¬ rr = w1.heap.size := by omega
    have hcap := H.out.cap
    simp only [List.length_cons] at hcap hl
    have e1 : (1 : Int) ≤ (es.length : Int) + 1 := by omega
    have e2 : (es.length : Int) + 1 ≤ (c : Int) := by omega
    have e3 : ¬ c = 0 := by omega
    obtain ⟨c0, c1, c2, c3, c4⟩ := five_whole HW2.out
    have hfr := HW2.out.frozen
    obtain ⟨d0, d1, d2, d3, d4⟩ := five_whole HX2.out
    clear hc hrl hz hcap
    have hsrc := VSrc.tail (show VSrc _ (some ⟨g, o, none⟩) (es.length + 1) (y :: es) from H2.out.src)
    have hbl : ∀ o' k, blk (some ⟨g, o', none⟩) k → k ≠ rr ∧ k < (w1.alloc (.cells #[.int .i64 x.t, .int .i64 x.k, .int .i64 x.n, .int .i64 x.m, .int .i64 x.v] 36)).heap.size := fun o' k hk => by
      obtain ⟨ad, e, rfl⟩ := hk
      injection e with e
      subst e
      exact ⟨fun e => H2.out.apart ⟨_, rfl, e.symm⟩, H2.out.lt _ ⟨_, rfl, rfl⟩⟩
    have HSR := Lib.hid (And.intro hsrc hbl)
    clear hsrc hbl
    by_cases hc1 : c = 1
    · subst hc1
      obtain rfl : es = [] := List.eq_nil_of_length_eq_zero (by omega)
      go_wp2
      refine bodyPost_ret (v := .tuple #[.agg #[.int .i64 x.t, .int .i64 x.k, .int .i64 x.n, .int .i64 x.m, .int .i64 x.v], .bool true]) (by simp [results, Try.results24, go_sem, c0, c1, c2, c3, c4]) rfl ⟨by rw [← HXE.out]; rfl, ?_⟩
      obtain ⟨hr1, hk1⟩ := H2.out.store (A' := some ⟨g, o, none⟩) (c' := 0) (es' := []) (VSrc.zero _ _) (Nat.le_refl _) (fun h => by cases h) (HSR.out.2 o)
      exact ⟨_, _, hr1.kept (kept_five (S := fun k => k = w.heap.size) (Kept.refl _ _) (.inl rfl) _ _ _ _ _) hn3 (fun k hk e => by
        obtain ⟨ad, e', rfl⟩ := hk
        injection e' with e'
        subst e'
        have h1 : g < w.heap.size := H.out.lt _ ⟨_, rfl, rfl⟩
        have h2 : g = w.heap.size := e
        omega), kept_five ((Kept.of_below HB2.out _).trans hk1 (fun _ _ h => h)) (.inr (Nat.le_refl _)) _ _ _ _ _, fun k hk => .inl (by obtain ⟨ad, e', rfl⟩ := hk; injection e' with e'; subst e'; exact ⟨_, rfl, rfl⟩)⟩
    · have hc2 : ¬ 1 = c := fun h => hc1 h.symm
      go_wp2
      refine bodyPost_ret (v := .tuple #[.agg #[.int .i64 x.t, .int .i64 x.k, .int .i64 x.n, .int .i64 x.m, .int .i64 x.v], .bool true]) (by simp [results, Try.results24, go_sem, c0, c1, c2, c3, c4]) rfl ⟨by rw [← HXE.out]; rfl, ?_⟩
      obtain ⟨hr1, hk1⟩ := H2.out.store (A' := some ⟨g, o + 5, none⟩) (c' := c - 1) (es' := es) HSR.out.1 (by omega) (fun h => by cases h) (HSR.out.2 (o + 5))
      exact ⟨_, _, hr1.kept (kept_five (S := fun k => k = w.heap.size) (Kept.refl _ _) (.inl rfl) _ _ _ _ _) hn3 (fun k hk e => by
        obtain ⟨ad, e', rfl⟩ := hk
        injection e' with e'
        subst e'
        have h1 : g < w.heap.size := H.out.lt _ ⟨_, rfl, rfl⟩
        have h2 : g = w.heap.size := e
        omega), kept_five ((Kept.of_below HB2.out _).trans hk1 (fun _ _ h => h)) (.inr (Nat.le_refl _)) _ _ _ _ _, fun k hk => .inl (by obtain ⟨ad, e', rfl⟩ := hk; injection e' with e'; subst e'; exact ⟨_, rfl, rfl⟩)⟩
end Go.Proofs.Ytchfponnajednaa
