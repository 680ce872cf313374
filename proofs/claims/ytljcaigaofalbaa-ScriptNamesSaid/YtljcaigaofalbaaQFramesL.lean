/- What ScriptFrames goes by: memory whose numbers change, and nothing else. No condition. | ScriptFrames, of two scripts that are read. No condition. -/
import Derived.Test.YtljcaigaofalbaaQRc
import Derived.Test.YtljcaigaofalbaaQRs
import Derived.Test.YtljcaigaofalbaaQSameL
import Derived.Test.YtljcaigaofalbaaQRf
namespace Go.Proofs.Ytljcaigaofalbaa
open Go.RowKit Go.Shelf

/-- Where a number lay lies a number of its kind; all else is as it was. -/
structure SS (A W : World) : Prop where
  ints : ∀ p k m, A.cell? p = some (.int k m) → ∃ m', W.cell? p = some (.int k m')
  rest : ∀ p u, A.cell? p = some u → (∀ k m, u ≠ .int k m) → W.cell? p = some u
  fr : ∀ p, A.frozen? p = false → W.frozen? p = false
theorem SS.refl (A : World) : SS A A := ⟨fun _ _ m h => ⟨m, h⟩, fun _ _ h _ => h, fun _ h => h⟩
theorem SS.set {A W : World} (h : SS A W) {q : Addr} {k : IntKind} {m : Int} (hc : W.cell? q = some (.int k m)) (m' : Int) : SS A (W.setCell q (.int k m')) := by
  refine ⟨fun p k2 m2 hp => ?_, fun p u hp hu => ?_, fun p hp => by rw [World.frozen?_setCell]; exact h.fr p hp⟩
  · obtain ⟨m3, h3⟩ := h.ints p k2 m2 hp
    by_cases e : q = p
    · subst e
      rw [hc] at h3
      cases h3
      exact ⟨m', World.cell?_setCell_same _ _ _ hc⟩
    · exact ⟨m3, (World.cell?_setCell_other _ _ _ _ e).trans h3⟩
  · have h3 := h.rest p u hp hu
    have e : q ≠ p := fun e => by
      subst e
      rw [hc] at h3
      exact hu k m (Option.some.inj h3).symm
    exact (World.cell?_setCell_other _ _ _ _ e).trans h3
/-- The copy's numbers change; what lay below it is as it was. -/
structure MB (wc A W : World) : Prop where
  ss : SS A W
  below : Below wc.heap.size wc W
theorem MB.set {wc A W : World} (h : MB wc A W) {q : Addr} {k : IntKind} {m : Int} (hc : W.cell? q = some (.int k m)) (hq : wc.heap.size ≤ q.block) (m' : Int) : MB wc A (W.setCell q (.int k m')) := ⟨h.ss.set hc m', h.below.setCell hq _⟩
theorem MB.cell {wc A W : World} (h : MB wc A W) {p : Addr} {P : Option Addr} {n c : Nat} (hc : A.cell? p = some (.slice P n c)) : W.cell? p = some (.slice P n c) := h.ss.rest p _ hc (fun _ _ e => by cases e)
theorem own_at {α : Type} {cells : α → List Value} {k : Nat} (hc : ∀ a, (cells a).length = k) {w : World} {b n c : Nat} {p : Option Addr} {e : TypeId} {xs : List α} (h : w.ownsRow b e k (.slice p n c) xs.length (xs.flatMap cells)) :
    xs.length = n ∧ ∀ i, i < n → ∃ g o x, xs[i]? = some x ∧ p = some ⟨g, o, none⟩ ∧ b ≤ g ∧ ∀ j u, (cells x)[j]? = some u → w.cell? ⟨g, o + i * k + j, none⟩ = some u ∧ w.frozen? ⟨g, o + i * k + j, none⟩ = false := by
  obtain ⟨s, e1, h1, _⟩ := rsrc_of_own hc rfl h
  cases e1
  refine ⟨h1.len, fun i hi => ?_⟩
  have hil : i < xs.length := by have := h1.len; omega
  have hx : xs[i]? = some xs[i] := List.getElem?_eq_getElem hil
  obtain ⟨g, o, e2, h2⟩ := h1.spot hx
  obtain ⟨hb, cur, hcur⟩ := own_typed h (g := g) (by rw [e2]; rfl)
  exact ⟨g, o, _, hx, e2, hb, fun j u hu => ⟨h2 j u hu, Whole.frozen (t := e) (cs := cur) hcur _⟩⟩
theorem refcopy5 (V : ScV) (s : ScA) (W : World) (h : ScAt W V s) (hm : Small V) (hpl : ∀ y ∈ s.haps, y.pl.length ≤ 1000000) :
    Calls Try.prog 11 #[.agg V.cells] W fun e w' => ∃ (S : ScV) (s' : ScA), e = .returned (.agg S.cells) ∧ ScAt w' S s' ∧ s'.sc = s.sc ∧ Below W.heap.size W w' := by
  refine (refCopy_any V s W h hm hpl).mono fun e w' k => ?_
  obtain ⟨V', s', B, b0, rfl, hsb, hsc, hb⟩ := k
  obtain ⟨S, e1, e2, _⟩ := hsb.sc
  exact ⟨S, s', by rw [e1], e2, hsc, hb⟩
/-- The copy's rows and payloads: their blocks are new, their numbers may be changed. -/
structure CpW (b0 : Nat) (W : World) (S : ScV) (s : ScA) : Prop where
  r0 : W.ownsRow b0 52 2 S.r.v s.rates.length (s.rates.flatMap rateC)
  r2 : W.ownsRow b0 2 1 S.d.v s.delays.length (s.delays.flatMap numC)
  r3 : W.ownsRow b0 47 4 S.h.v s.haps.length (s.haps.flatMap hapC)
  r4 : W.ownsRow b0 54 5 S.f.v s.faults.length (s.faults.flatMap ftC)
  pl : ∀ y ∈ s.haps, PlAt W y ∧ ∀ ad, y.A = some ad → b0 ≤ ad.block ∧ UB W ad.block
theorem CpW.later {b0 : Nat} {W W' : World} {S : ScV} {s : ScA} (h : CpW b0 W S s) (hb : Below W.heap.size W W') : CpW b0 W' S s :=
  ⟨ownsRow_kept h.r0 (Kept.of_below hb Empty) (fun _ _ h => h), ownsRow_kept h.r2 (Kept.of_below hb Empty) (fun _ _ h => h), ownsRow_kept h.r3 (Kept.of_below hb Empty) (fun _ _ h => h), ownsRow_kept h.r4 (Kept.of_below hb Empty) (fun _ _ h => h), fun y hy => ⟨(h.pl y hy).1.later hb, fun ad e => ⟨((h.pl y hy).2 ad e).1, ((h.pl y hy).2 ad e).2.kept (Kept.of_below hb Empty) (fun h => h)⟩⟩⟩
theorem copyw (V : ScV) (s : ScA) (W : World) (h : ScAt W V s) (hm : Small V) (hpl : ∀ y ∈ s.haps, y.pl.length ≤ 1000000) :
    Calls Try.prog 25 #[.agg V.cells] W fun e w' => ∃ (S : ScV) (s' : ScA), e = .returned (.agg S.cells) ∧ ScAt w' S s' ∧ CpW W.heap.size w' S s' ∧ s'.sc = s.sc ∧ Below W.heap.size W w' := by
  refine (Copy_any V s W h hm hpl).mono fun e w' k => ?_
  obtain ⟨V', s', B, rfl, hsb, hsc, hb⟩ := k
  obtain ⟨S, e1, e2, _⟩ := hsb.sc
  have hV := congrArg (fun a : Array Value => a.toList) e1
  simp only [Vs.cells, ScV.cells, List.cons.injEq, and_true] at hV
  obtain ⟨x0, x1, x2, x3, x4⟩ := hV
  exact ⟨S, s', by rw [e1], e2, ⟨x0 ▸ hsb.r0, x2 ▸ hsb.r2, x3 ▸ hsb.r3, x4 ▸ hsb.r4, hsb.pl⟩, hsc, hb⟩
end Go.Proofs.Ytljcaigaofalbaa

namespace Go.Proofs.Ytljcaigaofalbaa
open Go.RowKit Go.Shelf

end Go.Proofs.Ytljcaigaofalbaa
