/- What Copy goes by: rows of its own, one behind the other, and the box that takes them. No condition. | Copy, by a contract. No condition. -/
import Derived.Test.YtljcaigaofalbaaQT
import Derived.Test.YtljcaigaofalbaaQK
namespace Go.Proofs.Ytljcaigaofalbaa
open Go.RowKit Go.Shelf

theorem ownsRow_set {w : World} {b k n : Nat} {e : TypeId} {v : Value} {xs : List Value} (h : w.ownsRow b e k v n xs) {g : Nat} (hg : v.ownBlock = some g) (i : Nat) (u : Value) : (w.setCell ⟨g, i, none⟩ u).ownsRow b e k v n (xs.set i u) := by
  obtain ⟨h1, h2⟩ := h
  refine ⟨by rw [List.length_set]; exact h1, ?_⟩
  rcases h2 with ⟨rfl, _⟩ | ⟨g', cap, cur, rfl, hb, hh, hn, hm, hs, ht⟩
  · cases hg
  · obtain rfl : g' = g := by simpa [Value.ownBlock] using hg
    refine .inr ⟨g', cap, cur.setIfInBounds i u, rfl, hb, ?_, hn, hm, by rw [Array.size_setIfInBounds]; exact hs, ?_⟩
    · simp [World.setCell, Array.getElem?_modify, hh]
    · rw [Array.toList_setIfInBounds, List.take_set, ht]

/-- A row of one's own: its type, an element's cells, its value, its length, its cells. -/
structure Rw where
  e : TypeId
  k : Nat
  v : Value
  n : Nat
  xs : List Value
/-- The rows made so far, none of them another's block; the script that is copied; a box that is made, or not. -/
structure CP (w W : World) (bs : Nat) (V : ScV) (s : ScA) (rs : List Rw) (B : Option Nat) : Prop where
  below : Below w.heap.size w W
  script : Whole W bs 29 V.cells
  sc : ScAt W V s
  rows : ∀ y ∈ rs, W.ownsRow w.heap.size y.e y.k y.v y.n y.xs
  apart : rs.Pairwise (fun y z => ∀ g, y.v.ownBlock = some g → z.v.ownBlock ≠ some g)
  box : ∀ b, B = some b → w.heap.size ≤ b ∧ Whole W b 29 #[.slice none 0 0, .slice none 0 0, .slice none 0 0, .slice none 0 0, .slice none 0 0]
section
variable {w W W' : World} {bs : Nat} {V : ScV} {s : ScA} {rs : List Rw} {B : Option Nat}
theorem CP.later (h : CP w W bs V s rs B) (hb : Below W.heap.size W W') : CP w W' bs V s rs B :=
  ⟨k_then hb h.below, k_later hb h.script, h.sc.later hb, fun y hy => ownsRow_kept (h.rows y hy) (Kept.of_below hb Empty) (fun _ _ h => h), h.apart, fun b e => ⟨(h.box b e).1, k_later hb (h.box b e).2⟩⟩
theorem CP.drew (h : CP w W bs V s rs B) : CP w W.drew bs V s rs B := h.later (Below.refl _ _).drew
theorem CP.alloc (h : CP w W bs V s rs none) : CP w (W.alloc (.cells #[.slice none 0 0, .slice none 0 0, .slice none 0 0, .slice none 0 0, .slice none 0 0] 29)) bs V s rs (some W.heap.size) := by
  have h2 := h.later ((Below.refl _ W).alloc (Nat.le_refl _) (.cells #[.slice none 0 0, .slice none 0 0, .slice none 0 0, .slice none 0 0, .slice none 0 0] 29))
  exact ⟨h2.below, h2.script, h2.sc, h2.rows, h2.apart, fun b e => by cases e; exact ⟨h.below.size, Whole.new W _ _⟩⟩
theorem CP.add (h : CP w W bs V s rs B) (hb : Below W.heap.size W W') {e : TypeId} {k n : Nat} {v : Value} {xs : List Value} (ho : W'.ownsRow W.heap.size e k v n xs) : CP w W' bs V s (rs ++ [⟨e, k, v, n, xs⟩]) B := by
  have h2 := h.later hb
  refine ⟨h2.below, h2.script, h2.sc, fun y hy => ?_, ?_, h2.box⟩
  · rcases List.mem_append.1 hy with hy | hy
    · exact h2.rows y hy
    · rw [List.mem_singleton] at hy
      subst hy
      exact ownsRow_base ho h.below.size
  · rw [List.pairwise_append]
    refine ⟨h.apart, List.pairwise_singleton _ _, fun y hy z hz g hg hg2 => ?_⟩
    rw [List.mem_singleton] at hz
    subst hz
    obtain ⟨_, cur, hc⟩ := own_typed (h.rows y hy) hg
    have h3 := (Array.getElem?_eq_some_iff.1 hc).1
    have h4 := (own_typed ho hg2).1
    omega
theorem sc5 {g : Nat} (h : Whole W g 29 V.cells) : W.cell? ⟨g, 0, none⟩ = some (.slice V.r.A V.r.n V.r.c) ∧ W.cell? ⟨g, 1, none⟩ = some (.slice V.o.A V.o.n V.o.c) ∧ W.cell? ⟨g, 2, none⟩ = some (.slice V.d.A V.d.n V.d.c) ∧ W.cell? ⟨g, 3, none⟩ = some (.slice V.h.A V.h.n V.h.c) ∧ W.cell? ⟨g, 4, none⟩ = some (.slice V.f.A V.f.n V.f.c) := sc_cells h
/-- No more than a law goes through. -/
def Small (V : ScV) : Prop := (V.r.n ≤ 1000000 ∧ V.o.n ≤ 1000000) ∧ (V.d.n ≤ 1000000 ∧ V.h.n ≤ 1000000) ∧ V.f.n ≤ 1000000
theorem cl_rate (hm : Small V) (h : CP w W bs V s rs B) : Calls Try.prog 72 #[.slice V.r.A V.r.n V.r.c] W fun e w' => ∃ (p : Option Addr) (q z : Nat), e = .returned (.slice p q z) ∧ CP w w' bs V s (rs ++ [⟨52, 2, .slice p q z, s.rates.length, s.rates.flatMap rateC⟩]) B := by
  refine (clone_rate W V.r s.rates h.sc.r hm.1.1).mono fun e w' k => ?_
  obtain ⟨v, rfl, ho, hb⟩ := k
  obtain ⟨p, q, z, rfl⟩ := own_val ho
  exact ⟨p, q, z, rfl, h.add hb ho⟩
theorem cl_on (hm : Small V) (h : CP w W bs V s rs B) : Calls Try.prog 73 #[.slice V.o.A V.o.n V.o.c] W fun e w' => ∃ (p : Option Addr) (q z : Nat), e = .returned (.slice p q z) ∧ CP w w' bs V s (rs ++ [⟨2, 1, .slice p q z, s.on.length, s.on.flatMap numC⟩]) B := by
  refine (clone_int W V.o s.on h.sc.o hm.1.2).mono fun e w' k => ?_
  obtain ⟨v, rfl, ho, hb⟩ := k
  obtain ⟨p, q, z, rfl⟩ := own_val ho
  exact ⟨p, q, z, rfl, h.add hb ho⟩
theorem cl_del (hm : Small V) (h : CP w W bs V s rs B) : Calls Try.prog 73 #[.slice V.d.A V.d.n V.d.c] W fun e w' => ∃ (p : Option Addr) (q z : Nat), e = .returned (.slice p q z) ∧ CP w w' bs V s (rs ++ [⟨2, 1, .slice p q z, s.delays.length, s.delays.flatMap numC⟩]) B := by
  refine (clone_int W V.d s.delays h.sc.d hm.2.1.1).mono fun e w' k => ?_
  obtain ⟨v, rfl, ho, hb⟩ := k
  obtain ⟨p, q, z, rfl⟩ := own_val ho
  exact ⟨p, q, z, rfl, h.add hb ho⟩
theorem cl_hap (hm : Small V) (h : CP w W bs V s rs B) : Calls Try.prog 74 #[.slice V.h.A V.h.n V.h.c] W fun e w' => ∃ (p : Option Addr) (q z : Nat), e = .returned (.slice p q z) ∧ CP w w' bs V s (rs ++ [⟨47, 4, .slice p q z, s.haps.length, s.haps.flatMap hapC⟩]) B := by
  refine (clone_hap W V.h s.haps h.sc.h.row hm.2.1.2).mono fun e w' k => ?_
  obtain ⟨v, rfl, ho, hb⟩ := k
  obtain ⟨p, q, z, rfl⟩ := own_val ho
  exact ⟨p, q, z, rfl, h.add hb ho⟩
theorem cl_ft (hm : Small V) (h : CP w W bs V s rs B) : Calls Try.prog 75 #[.slice V.f.A V.f.n V.f.c] W fun e w' => ∃ (p : Option Addr) (q z : Nat), e = .returned (.slice p q z) ∧ CP w w' bs V s (rs ++ [⟨54, 5, .slice p q z, s.faults.length, s.faults.flatMap ftC⟩]) B := by
  refine (clone_ft W V.f s.faults h.sc.f hm.2.2).mono fun e w' k => ?_
  obtain ⟨v, rfl, ho, hb⟩ := k
  obtain ⟨p, q, z, rfl⟩ := own_val ho
  exact ⟨p, q, z, rfl, h.add hb ho⟩
end
/-- The copy: its box, its rows; what was there is as it was. -/
structure SX (w W : World) (B : Nat) (V : Vs) (s : ScA) : Prop where
  box : Whole W B 29 V.cells
  new : w.heap.size ≤ B
  r0 : W.ownsRow w.heap.size 52 2 V.v0 s.rates.length (s.rates.flatMap rateC)
  r1 : W.ownsRow w.heap.size 2 1 V.v1 s.on.length (s.on.flatMap numC)
  r2 : W.ownsRow w.heap.size 2 1 V.v2 s.delays.length (s.delays.flatMap numC)
  r3 : W.ownsRow w.heap.size 47 4 V.v3 s.haps.length (s.haps.flatMap hapC)
  r4 : W.ownsRow w.heap.size 54 5 V.v4 s.faults.length (s.faults.flatMap ftC)
  far : ∀ g, V.v1.ownBlock = some g → V.v2.ownBlock ≠ some g
  below : Below w.heap.size w W
/-- .. behind the first statement. -/
def SXR (w : World) (s : ScA) (s3 : Value) (W : World) : Prop := ∃ (B : Nat) (p0 p1 p2 p3 p4 : Option Addr) (q0 q1 q2 q3 q4 z0 z1 z2 z3 z4 : Nat), s3 = .pointer (some ⟨B, 0, none⟩) ∧ SX w W B ⟨.slice p0 q0 z0, .slice p1 q1 z1, .slice p2 q2 z2, .slice p3 q3 z3, .slice p4 q4 z4⟩ s
section
variable {w W W' : World} {bs : Nat} {V : ScV} {s : ScA} {p0 p1 p2 p3 p4 : Option Addr} {q0 q1 q2 q3 q4 z0 z1 z2 z3 z4 : Nat}
theorem CP.far {B : Option Nat} (h : CP w W bs V s [⟨52, 2, .slice p0 q0 z0, s.rates.length, s.rates.flatMap rateC⟩, ⟨2, 1, .slice p1 q1 z1, s.on.length, s.on.flatMap numC⟩, ⟨2, 1, .slice p2 q2 z2, s.delays.length, s.delays.flatMap numC⟩, ⟨47, 4, .slice p3 q3 z3, s.haps.length, s.haps.flatMap hapC⟩, ⟨54, 5, .slice p4 q4 z4, s.faults.length, s.faults.flatMap ftC⟩] B) : ∀ g, (Value.slice p1 q1 z1).ownBlock = some g → (Value.slice p2 q2 z2).ownBlock ≠ some g := by
  have := h.apart
  simp only [List.pairwise_cons, List.mem_cons, List.not_mem_nil, or_false, forall_eq_or_imp] at this
  exact this.2.1.1
theorem sx_new (h : CP w W bs V s [⟨52, 2, .slice p0 q0 z0, s.rates.length, s.rates.flatMap rateC⟩, ⟨2, 1, .slice p1 q1 z1, s.on.length, s.on.flatMap numC⟩, ⟨2, 1, .slice p2 q2 z2, s.delays.length, s.delays.flatMap numC⟩, ⟨47, 4, .slice p3 q3 z3, s.haps.length, s.haps.flatMap hapC⟩, ⟨54, 5, .slice p4 q4 z4, s.faults.length, s.faults.flatMap ftC⟩] none) : SXR w s (.pointer (some ⟨W.heap.size, 0, none⟩)) (W.alloc (.cells #[.slice p0 q0 z0, .slice p1 q1 z1, .slice p2 q2 z2, .slice p3 q3 z3, .slice p4 q4 z4] 29)) := by
  have hb : Below W.heap.size W (W.alloc (.cells #[.slice p0 q0 z0, .slice p1 q1 z1, .slice p2 q2 z2, .slice p3 q3 z3, .slice p4 q4 z4] 29)) := (Below.refl _ _).alloc (Nat.le_refl _) _
  have h2 := h.later hb
  exact ⟨W.heap.size, p0, p1, p2, p3, p4, q0, q1, q2, q3, q4, z0, z1, z2, z3, z4, rfl, Whole.new W _ _, h.below.size, h2.rows ⟨52, 2, .slice p0 q0 z0, s.rates.length, s.rates.flatMap rateC⟩ (by simp), h2.rows ⟨2, 1, .slice p1 q1 z1, s.on.length, s.on.flatMap numC⟩ (by simp), h2.rows ⟨2, 1, .slice p2 q2 z2, s.delays.length, s.delays.flatMap numC⟩ (by simp), h2.rows ⟨47, 4, .slice p3 q3 z3, s.haps.length, s.haps.flatMap hapC⟩ (by simp), h2.rows ⟨54, 5, .slice p4 q4 z4, s.faults.length, s.faults.flatMap ftC⟩ (by simp), h.far, h2.below⟩
theorem sx_set {b : Nat} (h : CP w W bs V s [⟨52, 2, .slice p0 q0 z0, s.rates.length, s.rates.flatMap rateC⟩, ⟨2, 1, .slice p1 q1 z1, s.on.length, s.on.flatMap numC⟩, ⟨2, 1, .slice p2 q2 z2, s.delays.length, s.delays.flatMap numC⟩, ⟨47, 4, .slice p3 q3 z3, s.haps.length, s.haps.flatMap hapC⟩, ⟨54, 5, .slice p4 q4 z4, s.faults.length, s.faults.flatMap ftC⟩] (some b)) : SXR w s (.pointer (some ⟨b, 0, none⟩)) (((((W.setCell ⟨b, 0, none⟩ (.slice p0 q0 z0)).setCell ⟨b, 1, none⟩ (.slice p1 q1 z1)).setCell ⟨b, 2, none⟩ (.slice p2 q2 z2)).setCell ⟨b, 3, none⟩ (.slice p3 q3 z3)).setCell ⟨b, 4, none⟩ (.slice p4 q4 z4)) := by
  obtain ⟨hb, hw⟩ := h.box b rfl
  have k : Kept (fun i => i = b) W (((((W.setCell ⟨b, 0, none⟩ (.slice p0 q0 z0)).setCell ⟨b, 1, none⟩ (.slice p1 q1 z1)).setCell ⟨b, 2, none⟩ (.slice p2 q2 z2)).setCell ⟨b, 3, none⟩ (.slice p3 q3 z3)).setCell ⟨b, 4, none⟩ (.slice p4 q4 z4)) := ((((Kept.setCell (S := fun i => i = b) (Kept.refl _ W) (p := ⟨b, 0, none⟩) (.inl rfl) _).setCell (p := ⟨b, 1, none⟩) (.inl rfl) _).setCell (p := ⟨b, 2, none⟩) (.inl rfl) _).setCell (p := ⟨b, 3, none⟩) (.inl rfl) _).setCell (p := ⟨b, 4, none⟩) (.inl rfl) _
  have row : ∀ {e : TypeId} {kk n : Nat} {v : Value} {xs : List Value}, W.ownsRow w.heap.size e kk v n xs → e ≠ 29 → ((((((W.setCell ⟨b, 0, none⟩ (.slice p0 q0 z0)).setCell ⟨b, 1, none⟩ (.slice p1 q1 z1)).setCell ⟨b, 2, none⟩ (.slice p2 q2 z2)).setCell ⟨b, 3, none⟩ (.slice p3 q3 z3)).setCell ⟨b, 4, none⟩ (.slice p4 q4 z4)) : World).ownsRow w.heap.size e kk v n xs := fun {e kk n v xs} ho hne => ownsRow_kept ho k (fun g hg e9 => by
    have e9 : g = b := e9
    obtain ⟨_, cur, hc⟩ := own_typed ho hg
    exact typed_apart hc (show W.heap[b]? = _ from hw) hne e9)
  exact ⟨b, p0, p1, p2, p3, p4, q0, q1, q2, q3, q4, z0, z1, z2, z3, z4, rfl, ((((hw.set 0 _).set 1 _).set 2 _).set 3 _).set 4 _, hb, row (h.rows ⟨52, 2, .slice p0 q0 z0, s.rates.length, s.rates.flatMap rateC⟩ (by simp)) (by decide), row (h.rows ⟨2, 1, .slice p1 q1 z1, s.on.length, s.on.flatMap numC⟩ (by simp)) (by decide), row (h.rows ⟨2, 1, .slice p2 q2 z2, s.delays.length, s.delays.flatMap numC⟩ (by simp)) (by decide), row (h.rows ⟨47, 4, .slice p3 q3 z3, s.haps.length, s.haps.flatMap hapC⟩ (by simp)) (by decide), row (h.rows ⟨54, 5, .slice p4 q4 z4, s.faults.length, s.faults.flatMap ftC⟩ (by simp)) (by decide), h.far,
    ((Kept.of_below h.below Empty).trans (k.mono (T := fun i => w.heap.size ≤ i) fun i e => by have e : i = b := e; omega) (T := fun i => w.heap.size ≤ i) (fun i hi hn => by have hn : w.heap.size ≤ i := hn; omega)).below (fun _ _ h => h)⟩
end
end Go.Proofs.Ytljcaigaofalbaa

namespace Go.Proofs.Ytljcaigaofalbaa
open Go.RowKit Go.Shelf

theorem cp_set {w W : World} {bs b : Nat} {V : ScV} {s : ScA} {rs : List Rw} (h : CP w W bs V s rs (some b)) (hbs : bs < w.heap.size) {v0 v1 v2 v3 v4 : Value} : Whole (((((W.setCell ⟨b, 0, none⟩ v0).setCell ⟨b, 1, none⟩ v1).setCell ⟨b, 2, none⟩ v2).setCell ⟨b, 3, none⟩ v3).setCell ⟨b, 4, none⟩ v4) bs 29 V.cells := by
  have hne : bs ≠ b := by have := (h.box b rfl).1; omega
  exact ((((h.script.far hne _).far hne _).far hne _).far hne _).far hne _

theorem own_some {w : World} {b k n : Nat} {e : TypeId} {v : Value} {xs : List Value} (h : w.ownsRow b e k v n xs) (hn : 0 < n) : ∃ g c, v = .slice (some ⟨g, 0, none⟩) n c ∧ b ≤ g := by
  rcases h.2 with ⟨_, rfl⟩ | ⟨g, cap, cur, rfl, hb, _⟩
  · omega
  · exact ⟨g, cap, rfl, hb⟩
theorem flat_set : ∀ (hs : List HpA) (k : Nat) (y z : HpA), hs[k]? = some y → z.k = y.k → z.n = y.n → z.t = y.t → (hs.flatMap hapC).set (k * 4 + 3) (.slice z.A z.pl.length z.c) = (hs.set k z).flatMap hapC
  | [], k, y, z, h, _, _, _ => by simp at h
  | h0 :: hs, 0, y, z, h, e1, e2, e3 => by
    simp only [List.getElem?_cons_zero, Option.some.injEq] at h
    subst h
    simp [hapC, e1, e2, e3]
  | h0 :: hs, k + 1, y, z, h, e1, e2, e3 => by
    have h' : hs[k]? = some y := by simpa using h
    have ih := flat_set hs k y z h' e1 e2 e3
    simp only [List.flatMap_cons, List.set_cons_succ]
    rw [← ih, List.set_append_right _ _ (by simp [hapC]; omega)]
    congr 2
    simp [hapC]
    omega
theorem SX.keep {w W W' : World} {B : Nat} {V : Vs} {s : ScA} (h : SX w W B V s) (hb : Below W.heap.size W W') : SX w W' B V s :=
  ⟨k_later hb h.box, h.new, ownsRow_kept h.r0 (Kept.of_below hb Empty) (fun _ _ h => h), ownsRow_kept h.r1 (Kept.of_below hb Empty) (fun _ _ h => h), ownsRow_kept h.r2 (Kept.of_below hb Empty) (fun _ _ h => h), ownsRow_kept h.r3 (Kept.of_below hb Empty) (fun _ _ h => h), ownsRow_kept h.r4 (Kept.of_below hb Empty) (fun _ _ h => h), h.far, k_then hb h.below⟩
theorem SX.set {w W : World} {B : Nat} {V : Vs} {s : ScA} (h : SX w W B V s) {g k : Nat} (hg : V.v3.ownBlock = some g) {y z : HpA} (hk : s.haps[k]? = some y) (e1 : z.k = y.k) (e2 : z.n = y.n) (e3 : z.t = y.t) :
    SX w (W.setCell ⟨g, k * 4 + 3, none⟩ (.slice z.A z.pl.length z.c)) B V { s with haps := s.haps.set k z } := by
  have kk : Kept (fun i => i = g) W (W.setCell ⟨g, k * 4 + 3, none⟩ (.slice z.A z.pl.length z.c)) := Kept.setCell (S := fun i => i = g) (Kept.refl _ W) (p := ⟨g, k * 4 + 3, none⟩) (.inl rfl) _
  obtain ⟨hb, cur, hc⟩ := own_typed h.r3 hg
  have row : ∀ {e : TypeId} {q n : Nat} {v : Value} {xs : List Value}, W.ownsRow w.heap.size e q v n xs → e ≠ 47 → (W.setCell ⟨g, k * 4 + 3, none⟩ (.slice z.A z.pl.length z.c)).ownsRow w.heap.size e q v n xs := fun {e q n v xs} ho hne => ownsRow_kept ho kk (fun _ hj e9 => by
    have e9 : _ = g := e9
    obtain ⟨_, cur2, hc2⟩ := own_typed ho hj
    exact typed_apart hc2 hc hne e9)
  refine ⟨h.box.kept kk (fun e9 => ?_), h.new, row h.r0 (by decide), row h.r1 (by decide), row h.r2 (by decide), ?_, row h.r4 (by decide), h.far, ?_⟩
  · have e9 : B = g := e9
    exact typed_apart (show W.heap[B]? = _ from h.box) hc (by decide) e9
  · have h3 := ownsRow_set h.r3 hg (k * 4 + 3) (.slice z.A z.pl.length z.c)
    rw [flat_set s.haps k y z hk e1 e2 e3] at h3
    show (W.setCell ⟨g, k * 4 + 3, none⟩ (.slice z.A z.pl.length z.c)).ownsRow _ _ _ _ (s.haps.set k z).length _
    rw [List.length_set]
    exact h3
  · exact ((Kept.of_below h.below Empty).trans (kk.mono (T := fun i => w.heap.size ≤ i) fun i e => by have e : i = g := e; omega) (T := fun i => w.heap.size ≤ i) (fun i hi hn => by have hn : w.heap.size ≤ i := hn; omega)).below (fun _ _ h => h)
/-- The happenings so far: those up to k with payloads of their own. -/
structure CpR (w W : World) (s : ScA) (hs : List HpA) (k : Nat) : Prop where
  same : hs.map HpA.hp = s.haps.map HpA.hp
  pl : ∀ j y, hs[j]? = some y → PlAt W y ∧ (j < k → ∀ ad, y.A = some ad → w.heap.size ≤ ad.block ∧ UB W ad.block) ∧ (k ≤ j → s.haps[j]? = some y)
theorem CpR.start {w : World} {s : ScA} {V : ScV} {W : World} (h : ScAt W V s) : CpR w W s s.haps 0 := ⟨rfl, fun _ y hj => ⟨h.h.pl y (List.mem_of_getElem? hj), (fun hk => absurd hk (Nat.not_lt_zero _)), fun _ => hj⟩⟩
theorem CpR.keep {w W W' : World} {s : ScA} {hs : List HpA} {k : Nat} (h : CpR w W s hs k) (hb : Below W.heap.size W W') : CpR w W' s hs k :=
  ⟨h.same, fun j y hj => ⟨(h.pl j y hj).1.later hb, (fun hk ad e => ⟨((h.pl j y hj).2.1 hk ad e).1, ((h.pl j y hj).2.1 hk ad e).2.kept (Kept.of_below hb Empty) (fun h => h)⟩), (h.pl j y hj).2.2⟩⟩
theorem PlAt.far {w w' : World} {h : HpA} {S : Nat → Prop} (p : PlAt w h) (hk : Kept S w w') (hS : 0 < h.pl.length → ∀ ad, h.A = some ad → ¬ S ad.block) : PlAt w' h := by
  refine ⟨⟨p.src.1, fun h0 => ?_⟩, p.cap, p.max, p.no⟩
  obtain ⟨b, o, e, hc⟩ := p.src.2 h0
  exact ⟨b, o, e, fun i hi => hk.cell (hc i hi) (hS h0 ⟨b, o, none⟩ e)⟩
theorem CpR.set {w W : World} {s : ScA} {V : ScV} {hs : List HpA} {k g : Nat} {u : Value} {cur : Array Value} (h : CpR w W s hs k) (hw : ScAt w V s) (hg : w.heap.size ≤ g) (hty : W.heap[g]? = some (.cells cur 47 (0, 0))) {y z : HpA} (hk : hs[k]? = some y) (hz : z.hp = y.hp) (hp : PlAt W z) (hu : ∀ ad, z.A = some ad → w.heap.size ≤ ad.block ∧ UB W ad.block) (i : Nat) :
    CpR w (W.setCell ⟨g, i, none⟩ u) s (hs.set k z) (k + 1) := by
  have kk : Kept (fun j => j = g) W (W.setCell ⟨g, i, none⟩ u) := Kept.setCell (S := fun j => j = g) (Kept.refl _ W) (p := ⟨g, i, none⟩) (.inl rfl) _
  have ub : ∀ b, UB W b → b ≠ g := fun b hb e => by
    obtain ⟨c2, hc2⟩ := hb
    exact typed_apart hc2 hty (by decide) e
  have hkl := (List.getElem?_eq_some_iff.1 hk).1
  refine ⟨?_, fun j q hj => ?_⟩
  · rw [← h.same]
    apply List.ext_getElem?
    intro j
    rw [List.getElem?_map, List.getElem?_map, List.getElem?_set]
    by_cases e : k = j
    · subst e
      rw [if_pos rfl, if_pos hkl, hk]
      simp [hz]
    · rw [if_neg e]
  · rw [List.getElem?_set] at hj
    by_cases e : k = j
    · subst e
      rw [if_pos rfl, if_pos hkl] at hj
      cases hj
      refine ⟨hp.kept kk (fun ad e9 => ub _ (hu ad e9).2), (fun _ ad e9 => ⟨(hu ad e9).1, (hu ad e9).2.kept kk (ub _ (hu ad e9).2)⟩), fun h9 => by omega⟩
    · rw [if_neg e] at hj
      obtain ⟨a1, a2, a3⟩ := h.pl j q hj
      by_cases hjk : j < k
      · exact ⟨a1.kept kk (fun ad e9 => ub _ (a2 hjk ad e9).2), (fun _ ad e9 => ⟨(a2 hjk ad e9).1, (a2 hjk ad e9).2.kept kk (ub _ (a2 hjk ad e9).2)⟩), fun h9 => by omega⟩
      · have hq := a3 (by omega)
        refine ⟨a1.far kk (fun h0 ad e9 e8 => ?_), (fun h9 => by omega), fun _ => hq⟩
        have hpw := hw.h.pl q (List.mem_of_getElem? hq)
        obtain ⟨b, o, e7, hc⟩ := hpw.src.2 h0
        rw [e9] at e7
        cases e7
        have := World.block_lt_of_cell? w _ (hc 0 h0)
        have e8 : b = g := e8
        simp only at this
        omega
theorem own_cap9 {w : World} {b k n c : Nat} {e : TypeId} {p : Option Addr} {xs : List Value} (h : w.ownsRow b e k (.slice p n c) n xs) : c ≤ 9223372036854775807 := by
  rcases h.2 with ⟨e1, _⟩ | ⟨g, cap, cur, e1, _, _, _, hm, _⟩
  · simp at e1
    omega
  · simp at e1
    simp only [maxLen] at hm
    omega
theorem kept_row {S : Nat → Prop} {a w : World} (h : Kept S a w) {g : Nat} (hg : S g ∨ a.heap.size ≤ g) (cs : Array Value) : Kept S a (w.setRow g cs) := by
  refine ⟨h.os, h.tape, h.output, by rw [size_setRow]; exact h.size, fun k hk hn => ?_⟩
  refine Eq.trans ?_ (h.block k hk hn)
  simp only [World.setRow, Array.getElem?_modify]
  rw [if_neg (by
    rintro rfl
    rcases hg with hg | hg
    · exact hn hg
    · omega)]
theorem r_row_whole {w : World} {g : Nat} {t : TypeId} {cs ds : Array Value} (h : Whole w g t ds) : Whole (w.setRow g cs) g t cs := setRow_heap _ _ _ _ _ _ h
/-- The copy handed back: all of it new. -/
theorem SX.sb {w W0 W : World} {B R q : Nat} {V : Vs} {s : ScA} {hs : List HpA} {cs : Array Value} (h : SX W0 W B V { s with haps := hs }) (hr : CpR W0 W s hs q) (hq : hs.length ≤ q) (hb : Below w.heap.size w W0) (hR : w.heap.size ≤ R) (hR0 : R < W0.heap.size) :
    SB (W.setRow R cs) (fun i => w.heap.size ≤ i) w.heap.size B V { s with haps := hs } ∧ Below w.heap.size w (W.setRow R cs) := by
  have kk : Kept (fun i => i = R) W (W.setRow R cs) := kept_row (S := fun i => i = R) (Kept.refl _ W) (.inl rfl) cs
  have hz := hb.size
  have row : ∀ {e : TypeId} {k n : Nat} {v : Value} {xs : List Value}, W.ownsRow W0.heap.size e k v n xs → (W.setRow R cs).ownsRow w.heap.size e k v n xs := fun {e k n v xs} ho => ownsRow_kept (ownsRow_base ho hz) kk (fun g hg e9 => by
    have e9 : g = R := e9
    have := (own_typed ho hg).1
    omega)
  have low : ∀ {e : TypeId} {k n : Nat} {v : Value} {xs : List Value}, W.ownsRow W0.heap.size e k v n xs → ∀ g, v.ownBlock = some g → w.heap.size ≤ g := fun {e k n v xs} ho g hg => by
    have := (own_typed ho hg).1
    omega
  have hn := h.new
  refine ⟨⟨h.box.kept kk (fun e9 => by have e9 : B = R := e9; omega), (show w.heap.size ≤ B by omega), row h.r0, low h.r0, row h.r1, low h.r1, row h.r2, low h.r2, row h.r3, low h.r3, row h.r4, low h.r4, h.far, fun a ha => ?_⟩, ?_⟩
  · obtain ⟨j, hj, rfl⟩ := List.mem_iff_getElem.1 ha
    obtain ⟨a1, a2, _⟩ := hr.pl j hs[j] (List.getElem?_eq_getElem hj)
    have a3 := a2 (Nat.lt_of_lt_of_le hj hq)
    exact ⟨a1.kept kk (fun ad e9 e8 => by have := (a3 ad e9).1; have e8 : ad.block = R := e8; omega), fun ad e9 => ⟨by have := (a3 ad e9).1; show w.heap.size ≤ ad.block; omega, (a3 ad e9).2.kept kk (fun e8 => by have := (a3 ad e9).1; have e8 : ad.block = R := e8; omega)⟩⟩
  · exact ((Kept.of_below (k_then h.below hb) Empty).trans (kk.mono (T := fun i => w.heap.size ≤ i) fun i e => by have e : i = R := e; omega) (T := fun i => w.heap.size ≤ i) (fun i hi hn => by have hn : w.heap.size ≤ i := hn; omega)).below (fun _ _ h => h)
theorem r_results0 {P : Program} {fn : Func} {p : Tmp} {ty : TypeId} (h : fn.results = #[.cell p ty]) (tmps : Array Value) (w : World) (g : Nat) (t : TypeId) (cs : Array Value) (fr : Nat × Nat) (d : TypeDesc)
    (hp : tmps.getD p undef = .pointer (some ⟨g, 0, none⟩)) (hg : w.heap[g]? = some (.cells cs t fr)) (hu : P.underlying ty = some d) (hd : (match d with | .struct _ | .array _ _ => true | _ => false) = true) (hi : (P.info? ty).map (·.size) = some cs.size) :
    (results fn tmps).run P w = .ok (.agg cs) w := by
  have hp' : tmps[p]?.getD undef = .pointer (some ⟨g, 0, none⟩) := by simpa using hp
  simp [results, h, hp', asAddr, run_loadVar_row w g t ty cs fr d hg hu hd hi]

set_option maxRecDepth 100000 in
set_option maxHeartbeats 8000000 in
theorem Copy_any (V : ScV) (s : ScA) (w : World) (h : ScAt w V s) (hm : Small V) (hpl : ∀ y ∈ s.haps, y.pl.length ≤ 1000000) :
    Calls Try.prog 25 #[.agg V.cells] w fun e w' => ∃ (V' : Vs) (s' : ScA) (B : Nat), e = .returned (.agg V'.cells) ∧ SB w' (fun i => w.heap.size ≤ i) w.heap.size B V' s' ∧ s'.sc = s.sc ∧ Below w.heap.size w w' := by
  obtain ⟨W0, hW0⟩ : ∃ W0, W0 = (w.alloc (.cells V.cells 29)).alloc (.cells #[.slice none 0 0, .slice none 0 0, .slice none 0 0, .slice none 0 0, .slice none 0 0] 29) := ⟨_, rfl⟩
  have hb0 : Below w.heap.size w W0 := by rw [hW0]; exact ((Below.refl _ _).alloc (Nat.le_refl _) _).alloc (by simp) _
  have hV0 : Whole W0 w.heap.size 29 V.cells := by rw [hW0]; exact (Whole.new w _ _).alloc _
  have hZ0 : Whole W0 (w.heap.size + 1) 29 #[.slice none 0 0, .slice none 0 0, .slice none 0 0, .slice none 0 0, .slice none 0 0] := by
    rw [hW0]
    have := Whole.new (w.alloc (.cells V.cells 29)) 29 #[.slice none 0 0, .slice none 0 0, .slice none 0 0, .slice none 0 0, .slice none 0 0]
    simpa using this
  have P := Lib.hid (show CP W0 W0 w.heap.size V s [] none from ⟨Below.refl _ _, hV0, h.later hb0, (fun _ h => by cases h), List.Pairwise.nil, (fun _ e => by cases e)⟩)
  have HBS := Lib.hid (hV0.lt)
  have HZ0 := Lib.hid hZ0
  have HB0 := Lib.hid hb0
  have HW0 := Lib.hid hW0
  have HSM := Lib.hid hm
  have HSC := Lib.hid h
  have HPL := Lib.hid hpl
  clear hW0 hb0 hV0 hZ0 h hm hpl
  go_enter Try.func25, Try.ntmps25
  go_upto_region 1 with fail
  have e0 : (w.alloc (.cells V.cells 29)).alloc (.cells #[.slice none 0 0, .slice none 0 0, .slice none 0 0, .slice none 0 0, .slice none 0 0] 29) = W0 := HW0.out.symm
  rw [e0]
  clear e0
  go_cut [3] (fun s3 wx => SXR W0 s s3 wx)
  case first =>
    have P0 := Lib.hid P.out.drew
    have P0a := Lib.hid (CP.alloc P.out).drew
    go_region_held3 (fun W => W.cell? ⟨w.heap.size, 0, none⟩ = some (.slice V.r.A V.r.n V.r.c) ∧ W.cell? ⟨w.heap.size, 1, none⟩ = some (.slice V.o.A V.o.n V.o.c) ∧ W.cell? ⟨w.heap.size, 2, none⟩ = some (.slice V.d.A V.d.n V.d.c) ∧ W.cell? ⟨w.heap.size, 3, none⟩ = some (.slice V.h.A V.h.n V.h.c) ∧ W.cell? ⟨w.heap.size, 4, none⟩ = some (.slice V.f.A V.f.n V.f.c)) (first | with_reducible exact sc5 P0.out.script | with_reducible exact sc5 P0a.out.script | with_reducible exact sc5 P5.out.script | with_reducible exact sc5 (CP.alloc P5.out).script | with_reducible exact sc5 P4.out.script | with_reducible exact sc5 (CP.alloc P4.out).script | with_reducible exact sc5 P3.out.script | with_reducible exact sc5 (CP.alloc P3.out).script | with_reducible exact sc5 P2.out.script | with_reducible exact sc5 (CP.alloc P2.out).script | with_reducible exact sc5 P1.out.script | with_reducible exact sc5 (CP.alloc P1.out).script | with_reducible exact sc5 (Whole.alloc P5.out.script _) | with_reducible exact sc5 (cp_set P5.out HBS.out)) (first
      | (go_at_call 72; (first | (with_reducible refine (cl_rate HSM.out P0.out).mono ?_) | (with_reducible refine (cl_rate HSM.out P0a.out).mono ?_)); rintro e w1 ⟨p0, q0, z0, rfl, p⟩; have P1 := Lib.hid p; clear p)
      | (go_at_call 73; (first | (with_reducible refine (cl_on HSM.out P1.out).mono ?_) | (with_reducible refine (cl_on HSM.out (CP.alloc P1.out)).mono ?_)); rintro e w2 ⟨p1, q1, z1, rfl, p⟩; have P2 := Lib.hid p; clear p)
      | (go_at_call 73; (first | (with_reducible refine (cl_del HSM.out P2.out).mono ?_) | (with_reducible refine (cl_del HSM.out (CP.alloc P2.out)).mono ?_)); rintro e w3 ⟨p2, q2, z2, rfl, p⟩; have P3 := Lib.hid p; clear p)
      | (go_at_call 74; (first | (with_reducible refine (cl_hap HSM.out P3.out).mono ?_) | (with_reducible refine (cl_hap HSM.out (CP.alloc P3.out)).mono ?_)); rintro e w4 ⟨p3, q3, z3, rfl, p⟩; have P4 := Lib.hid p; clear p)
      | (go_at_call 75; (first | (with_reducible refine (cl_ft HSM.out P4.out).mono ?_) | (with_reducible refine (cl_ft HSM.out (CP.alloc P4.out)).mono ?_)); rintro e w5 ⟨p4, q4, z4, rfl, p⟩; have P5 := Lib.hid p; (first | (have bz := (p.box _ rfl).2; have y0 := bz.cell 0; have y1 := bz.cell 1; have y2 := bz.cell 2; have y3 := bz.cell 3; have y4 := bz.cell 4; have f0 := bz.frozen 0; have f1 := bz.frozen 1; have f2 := bz.frozen 2; have f3 := bz.frozen 3; have f4 := bz.frozen 4; simp at y0 y1 y2 y3 y4; clear bz) | skip); clear p))
    all_goals (go_wp2_with fail; go_meet)
    all_goals first
      | with_reducible exact sx_new P5.out
      | with_reducible exact sx_set P5.out
  case rest =>
    obtain ⟨B, p0, p1, p2, p3, p4, q0, q1, q2, q3, q4, z0, z1, z2, z3, z4, rfl, hX⟩ := hcut
    have hq3 : s.haps.length = q3 := by
      obtain ⟨p', c', e⟩ := own_len hX.r3
      simp at e
      exact e.2.1.symm
    have hq : q3 ≤ 1000000 := by
      have h1 := HSC.out.h.row.len
      have h2 := HSM.out.2.1.2
      omega
    have b3 : wc.cell? ⟨B, 3, none⟩ = some (.slice p3 q3 z3) := hX.box.cell 3
    have HR := Lib.hid (CpR.start (w := W0) (W := wc) (HSC.out.later (k_then hX.below HB0.out)))
    have HX1 := Lib.hid hX
    have HQ := Lib.hid hq3
    have HSC0 := Lib.hid (HSC.out.later HB0.out)
    clear hX hq3
    obtain ⟨VV, hVV⟩ : ∃ VV : Vs, VV = ⟨.slice p0 q0 z0, .slice p1 q1 z1, .slice p2 q2 z2, .slice p3 q3 z3, .slice p4 q4 z4⟩ := ⟨_, rfl⟩
    rw [← hVV] at HX1
    have HVV := Lib.hid hVV
    clear hVV
    go_wp2
    clear b3
    go_loopw [25] (fun iv wr => ∃ (k : Nat) (hs : List HpA), k ≤ q3 ∧ iv = .int .i64 (k : Int) ∧ SX W0 wr B VV { s with haps := hs } ∧ CpR W0 wr s hs k) (fun iv _ => q3 - (intOf iv).toNat)
    case atStart => exact ⟨0, s.haps, by omega, rfl, HX1.out, HR.out⟩
    case round =>
      obtain ⟨k, hs, hk, rfl, hX, hR⟩ := hrel
      have hhl : hs.length = q3 := by
        have := congrArg List.length hR.same
        rw [List.length_map, List.length_map, HQ.out] at this
        exact this
      have HXk := Lib.hid hX
      have HRk := Lib.hid hR
      have HHL := Lib.hid hhl
      clear HX1 HR
      by_cases hlt : k < q3
      · have hv3 : VV.v3 = .slice p3 q3 z3 := by rw [HVV.out]
        obtain ⟨g3, c3, e3, hg3⟩ := own_some hX.r3 (show 0 < hs.length by omega)
        rw [hv3] at e3
        obtain ⟨sl, es, hrs, _⟩ := rsrc_of_own (cells := hapC) (fun _ => rfl) rfl hX.r3
        have hkl : k < hs.length := by omega
        obtain ⟨y, hy⟩ : ∃ y, hs[k]? = some y := ⟨_, List.getElem?_eq_getElem hkl⟩
        obtain ⟨g9, o3, eA, hcells⟩ := hrs.spot hy
        obtain ⟨sA, sn, sc9⟩ := sl
        unfold Sl.v at es
        dsimp only at es eA
        subst eA
        rw [hv3] at es
        simp only [Value.slice.injEq] at e3 es
        obtain ⟨rfl, rfl, rfl⟩ := es
        have e3' : (⟨g9, o3, none⟩ : Addr) = ⟨g3, 0, none⟩ := by simpa using e3.1
        obtain ⟨rfl, rfl⟩ : g9 = g3 ∧ o3 = 0 := by simpa using e3'
        rw [Nat.zero_add] at hcells
        obtain ⟨ty1, cur, hcur⟩ := own_typed hX.r3 (show VV.v3.ownBlock = some g9 from by rw [hv3]; rfl)
        obtain ⟨pa, _, pc⟩ := hR.pl k y hy
        obtain ⟨yk, yn, yt, yA, yc, yl⟩ := y
        obtain ⟨r0, r1, r2, r3⟩ := hapC_cells hcells
        dsimp only at r0 r1 r2 r3
        have hyl : yl.length ≤ 9223372036854775807 := Nat.le_trans pa.cap pa.max
        have f1 : (0 : Int) ≤ (k : Int) := by omega
        have f2 : (k : Int) < (q3 : Int) := by omega
        have hcw : Whole wr g9 47 cur := hcur
        have hbox3 : wr.cell? ⟨B, 3, none⟩ = some (.slice (some ⟨g9, 0, none⟩) q3 z3) := by
          have := hX.box.cell 3
          rw [this]
          show some VV.v3 = _
          rw [hv3]
        have hBg : B ≠ g9 := fun e9 => typed_apart (show wr.heap[B]? = _ from hX.box) hcur (by decide) e9
        obtain ⟨W1, hW1⟩ : ∃ W1, W1 = wr.alloc (.cells #[.int .i64 yk, .int .i64 yn, .int .i64 yt, .slice yA yl.length yc] 47) := ⟨_, rfl⟩
        have hb1 : Below wr.heap.size wr W1 := by rw [hW1]; exact (Below.refl _ _).alloc (Nat.le_refl _) _
        have hbx : W1.cell? ⟨wr.heap.size, 3, none⟩ = some (.slice yA yl.length yc) := by rw [hW1]; exact (Whole.new wr 47 #[.int .i64 yk, .int .i64 yn, .int .i64 yt, .slice yA yl.length yc]).cell 3
        have hbg : wr.heap.size ≠ g9 := by have := hcw.lt; omega
        have HW1 := Lib.hid hW1
        have KF0 := Lib.hid (show W1.drew.cell? ⟨B, 3, none⟩ = some (.slice (some ⟨g9, 0, none⟩) q3 z3) ∧ W1.drew.cell? ⟨wr.heap.size, 3, none⟩ = some (.slice yA yl.length yc) from ⟨k_cell hb1 hbox3, hbx⟩)
        have HPA := Lib.hid (show Src W1.drew yA yl.length yl from (pa.later hb1).src)
        have HPZ := Lib.hid (And.intro pa.no hyl)
        have HCW := Lib.hid (show Whole W1.drew g9 47 cur from k_later hb1.drew hcw)
        have HR3 := Lib.hid (show W1.drew.cell? ⟨g9, k * 4 + 3, none⟩ = some (.slice yA yl.length yc) from k_cell hb1 r3)
        have HB1 := Lib.hid (show Below wr.heap.size wr W1.drew from hb1.drew)
        have HGB := Lib.hid (And.intro hBg hbg)
        have HY := Lib.hid hy
        have HHH := Lib.hid (And.intro hg3 (And.intro hkl (And.intro hv3 ty1)))
        have hyl2 : yl.length ≤ 1000000 := HPL.out ⟨yk, yn, yt, yA, yc, yl⟩ (List.mem_of_getElem? (pc (Nat.le_refl k)))

        clear hX hR hcells hrs hcur hcw hbox3 hBg hW1 hb1 hbx hbg pa pc hyl hy e3 ty1 hv3
        go_upto_region 5 with fail
        rw [← HW1.out]
        generalize hbxx : wr.heap.size = bx at KF0 HGB ⊢
        have HBX := Lib.hid hbxx
        clear hbxx
        go_region_held3 (fun W => W.cell? ⟨B, 3, none⟩ = some (.slice (some ⟨g9, 0, none⟩) q3 z3) ∧ W.cell? ⟨bx, 3, none⟩ = some (.slice yA yl.length yc)) (first | with_reducible exact KF0.out | with_reducible exact KF2.out | with_reducible exact KF3.out) ((go_at_call 76; refine (clone_any yA yl.length yc yl _ HPA.out HPZ.out.1 (by omega)).mono ?_; rintro e w2 ⟨v, rfl, hown, hb2⟩; obtain ⟨pv, qv, rfl, hle, hsrc, hlow, hnone⟩ := Src.of_own hown; have KF2 := Lib.hid (And.intro (k_cell hb2 KF0.out.1) (k_cell hb2 KF0.out.2)); have c0 := k_cell hb2 HR3.out; have f0 := (k_later hb2 HCW.out).frozen (k * 4 + 3); have kk := Kept.setCell (S := fun i => i = g9) (Kept.refl _ w2) (p := ⟨g9, k * 4 + 3, none⟩) (.inl rfl) (.slice pv yl.length qv); have KF3 := Lib.hid (And.intro (kk.cell KF2.out.1 HGB.out.1) (kk.cell KF2.out.2 HGB.out.2)); have HV := Lib.hid (And.intro hown (And.intro hle (And.intro hsrc (And.intro hlow (And.intro hnone hb2))))); clear hown hle hsrc hlow hnone hb2 kk))
        have hbw := k_then HV.out.2.2.2.2.2 HB1.out
        have hset := (HXk.out.keep hbw).set (g := g9) (k := k) (y := ⟨yk, yn, yt, yA, yc, yl⟩) (z := ⟨yk, yn, yt, pv, qv, yl⟩) (by rw [HHH.out.2.2.1]; rfl) HY.out rfl rfl rfl
        have hcp := CpR.set (g := g9) (u := .slice pv yl.length qv) (HRk.out.keep hbw) HSC0.out HHH.out.1 (show w2.heap[g9]? = some (.cells cur 47 (0, 0)) from k_later HV.out.2.2.2.2.2 HCW.out) HY.out (z := ⟨yk, yn, yt, pv, qv, yl⟩) rfl ⟨HV.out.2.2.1, HV.out.2.1, own_cap9 HV.out.1, fun e => (HV.out.2.2.2.2.1 e).2⟩ (fun ad e => by
          have e : pv = some ad := e
          obtain ⟨_, h2⟩ := HV.out.2.2.2.1 ad e
          have h3 := HB1.out.size
          have h4 := HXk.out.below.size
          have h5 := HV.out.1
          rw [e] at h5
          exact ⟨by omega, own_UB h5⟩) (k * 4 + 3)
        have HSC9 := Lib.hid (And.intro hset hcp)
        clear hbw hset hcp c0 f0 KF0 KF2 KF3
        go_wp2
        go_roundw
        case rel => exact ⟨k + 1, hs.set k ⟨yk, yn, yt, pv, qv, yl⟩, by omega, by go_num, HSC9.out⟩
        case measure => simp [intOf]; omega
      · have hZr : Whole wr (w.heap.size + 1) 29 #[.slice none 0 0, .slice none 0 0, .slice none 0 0, .slice none 0 0, .slice none 0 0] := k_later hX.below HZ0.out
        have hinfo : (Try.prog.info? 29).map (·.size) = some VV.cells.size := by show _ = some 5; kernel_rfl
        have hone : VV.cells.all (·.oneCell') = true := by rw [HVV.out]; simp [Vs.cells, Value.oneCell']
        have hfin := hX.sb (w := w) (R := w.heap.size + 1) (cs := VV.cells) hR (by omega) HB0.out (by omega) HZ0.out.lt
        have HFIN := Lib.hid (And.intro hfin hR.same)
        have HZr := Lib.hid hZr
        have HIN := Lib.hid hinfo
        have HON := Lib.hid hone
        have HBO := Lib.hid hX.box
        clear hX hR hZr hinfo hone hfin hhl
        go_wp2_with (first
          | (refine wpList_load_row rfl 29 (.tmp 3) rfl B rfl 29 VV.cells (0, 0) _ HBO.out Try.underlying29 rfl HIN.out ?_)
          | (refine wpList_store_row rfl 29 (.tmp 2) (.tmp 39) rfl (w.heap.size + 1) VV.cells rfl rfl 29 #[.slice none 0 0, .slice none 0 0, .slice none 0 0, .slice none 0 0, .slice none 0 0] HZr.out HIN.out rfl HON.out ?_))
        refine bodyPost_ret (v := .agg VV.cells) (r_results0 rfl _ _ (w.heap.size + 1) 29 VV.cells (0, 0) _ rfl (r_row_whole HZr.out) Try.underlying29 rfl HIN.out) rfl ⟨VV, { s with haps := hs }, B, rfl, HFIN.out.1.1, ?_, HFIN.out.1.2⟩
        show (⟨s.rates, s.on, s.delays, hs.map HpA.hp, s.faults⟩ : Sc) = ⟨s.rates, s.on, s.delays, s.haps.map HpA.hp, s.faults⟩
        rw [HFIN.out.2]
end Go.Proofs.Ytljcaigaofalbaa
