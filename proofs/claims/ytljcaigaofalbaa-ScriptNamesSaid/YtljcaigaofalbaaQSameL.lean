/- ScriptSame, of two scripts that are read. No condition. -/
import Derived.Test.YtljcaigaofalbaaQEx
import Derived.Test.YtljcaigaofalbaaQY
import Derived.Test.YtljcaigaofalbaaQCp
namespace Go.Proofs.Ytljcaigaofalbaa
open Go.RowKit Go.Shelf

theorem same5 (V U : ScV) (s t : ScA) (W : World) (h1 : ScAt W V s) (h2 : ScAt W U t) : Calls Try.prog 24 #[.agg #[.slice V.r.A V.r.n V.r.c, .slice V.o.A V.o.n V.o.c, .slice V.d.A V.d.n V.d.c, .slice V.h.A V.h.n V.h.c, .slice V.f.A V.f.n V.f.c], .agg #[.slice U.r.A U.r.n U.r.c, .slice U.o.A U.o.n U.o.c, .slice U.d.A U.d.n U.d.c, .slice U.h.A U.h.n U.h.c, .slice U.f.A U.f.n U.f.c]] W fun e w' => e = .returned (.bool (decide (s.sc = t.sc))) ∧ Below W.heap.size W w' := Same_any V U s t W h1 h2
theorem copy5 (V : ScV) (s : ScA) (W : World) (h : ScAt W V s) (hm : Small V) (hpl : ∀ y ∈ s.haps, y.pl.length ≤ 1000000) :
    Calls Try.prog 25 #[.agg #[.slice V.r.A V.r.n V.r.c, .slice V.o.A V.o.n V.o.c, .slice V.d.A V.d.n V.d.c, .slice V.h.A V.h.n V.h.c, .slice V.f.A V.f.n V.f.c]] W fun e w' => ∃ (p0 p1 p2 p3 p4 : Option Addr) (q0 q1 q2 q3 q4 z0 z1 z2 z3 z4 : Nat) (s' : ScA), e = .returned (.agg #[.slice p0 q0 z0, .slice p1 q1 z1, .slice p2 q2 z2, .slice p3 q3 z3, .slice p4 q4 z4]) ∧ ScAt w' ⟨⟨p0, q0, z0⟩, ⟨p1, q1, z1⟩, ⟨p2, q2, z2⟩, ⟨p3, q3, z3⟩, ⟨p4, q4, z4⟩⟩ s' ∧ s'.sc = s.sc ∧ Below W.heap.size W w' := by
  refine (Copy_any V s W h hm hpl).mono fun e w' k => ?_
  obtain ⟨V', s', B, rfl, hsb, hsc, hb⟩ := k
  obtain ⟨⟨⟨p0, q0, z0⟩, ⟨p1, q1, z1⟩, ⟨p2, q2, z2⟩, ⟨p3, q3, z3⟩, ⟨p4, q4, z4⟩⟩, e1, e2, _⟩ := hsb.sc
  exact ⟨p0, p1, p2, p3, p4, q0, q1, q2, q3, q4, z0, z1, z2, z3, z4, s', by rw [e1]; rfl, e2, hsc, hb⟩
theorem small_of {V : ScV} {s : ScA} {W : World} (h : ScAt W V s) (hg : greatI s = 0) : Small V ∧ ∀ y ∈ s.haps, y.pl.length ≤ 1000000 := by
  have hs : smallB s = true := by
    unfold greatI at hg
    split at hg
    · assumption
    · omega
  obtain ⟨a, b, c, d, e, f⟩ := smallB_iff.1 hs
  have l0 := h.r.len
  have l1 := h.o.len
  have l2 := h.d.len
  have l3 := h.h.row.len
  have l4 := h.f.len
  exact ⟨⟨⟨by omega, by omega⟩, ⟨by omega, by omega⟩, by omega⟩, fun y hy => by have := f y hy; omega⟩
theorem great_one {s : ScA} (hg : ¬ greatI s = 0) : greatI s = 1 := by
  unfold greatI at hg ⊢
  split at hg
  · exact absurd rfl hg
  · rename_i hh
    rw [if_neg hh]

end Go.Proofs.Ytljcaigaofalbaa
