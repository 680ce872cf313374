/- A script that is made up row by row, in memory. No condition. | What Decode goes by: the reader beside the script that is made up. No condition. | The entries told, into the script: what each round keeps. No condition. | slices.Clone of rates, of numbers, of happenings and of faults, by contracts. No condition. -/
import Derived.Deep.RegionLaw
import Derived.Maps.OwnIn
import Derived.Test.YtljcaigaofalbaaQS
import Derived.Test.YtljcaigaofalbaaQK
namespace Go.Proofs.Ytljcaigaofalbaa
open Go.RowKit Go.Shelf

theorem own_typed {w : World} {b k n : Nat} {e : TypeId} {v : Value} {xs : List Value} (h : w.ownsRow b e k v n xs) {g : Nat} (hg : v.ownBlock = some g) : b ≤ g ∧ ∃ cur, w.heap[g]? = some (.cells cur e (0, 0)) := by
  rcases h.2 with ⟨rfl, _⟩ | ⟨g', cap, cur, rfl, hb, hh, _⟩
  · cases hg
  · cases hg; exact ⟨hb, cur, hh⟩
theorem typed_apart {w : World} {g g' : Nat} {e e' : TypeId} {c c' : Array Value} (h : w.heap[g]? = some (.cells c e (0, 0))) (h' : w.heap[g']? = some (.cells c' e' (0, 0))) (hne : e ≠ e') : g ≠ g' := by
  rintro rfl
  have := h.symm.trans h'
  simp at this
  exact hne this.2
theorem flat_len {α : Type} {cells : α → List Value} {k : Nat} (hc : ∀ a, (cells a).length = k) : ∀ xs : List α, (xs.flatMap cells).length = xs.length * k
  | [] => by simp
  | a :: xs => by rw [List.flatMap_cons, List.length_append, hc, flat_len hc xs, List.length_cons, Nat.succ_mul, Nat.add_comm]
theorem flat_get {α : Type} {cells : α → List Value} {k : Nat} (hc : ∀ a, (cells a).length = k) : ∀ (xs : List α) (i : Nat) (x : α) (j : Nat), xs[i]? = some x → j < k → (xs.flatMap cells)[i * k + j]? = (cells x)[j]?
  | [], i, x, j, h, _ => by simp at h
  | y :: xs, 0, x, j, h, hj => by
    obtain rfl : y = x := by simpa using h
    rw [List.flatMap_cons, Nat.zero_mul, Nat.zero_add, List.getElem?_append_left (by rw [hc]; exact hj)]
  | y :: xs, i + 1, x, j, h, hj => by
    rw [List.flatMap_cons, List.getElem?_append_right (by rw [hc, Nat.succ_mul]; omega), hc, show (i + 1) * k + j - k = i * k + j by rw [Nat.succ_mul]; omega]
    exact flat_get hc xs i x j (by simpa using h) hj
/-- A row of one's own reads as a slice. -/
theorem rsrc_of_own {α : Type} {cells : α → List Value} {k : Nat} (hc : ∀ a, (cells a).length = k) {w : World} {b n : Nat} {e : TypeId} {v : Value} {xs : List α} (hn : n = xs.length) (h : w.ownsRow b e k v n (xs.flatMap cells)) : ∃ s : Sl, v = s.v ∧ RSrc cells k w s xs ∧ s.A.map (·.block) = v.ownBlock := by
  subst hn
  rcases h.2 with ⟨rfl, h0⟩ | ⟨g, cap, cur, rfl, _, hg, hnc, hcm, hsz, htk⟩
  · obtain rfl : xs = [] := List.eq_nil_of_length_eq_zero h0
    exact ⟨nilS, rfl, RSrc.nil w, rfl⟩
  · refine ⟨⟨some ⟨g, 0, none⟩, xs.length, cap⟩, rfl, ⟨rfl, hnc, by simpa only [maxLen] using hcm, fun e => absurd e (by simp), fun _ => ⟨g, 0, rfl, fun i x hx j u hu => ?_⟩⟩, rfl⟩
    have hj : j < k := by have := (List.getElem?_eq_some_iff.1 hu).1; rwa [hc] at this
    have := h.cells (g := g) rfl (i * k + j) u (by rw [flat_get hc xs i x j hx hj]; exact hu)
    rw [plain_add] at this
    rw [Nat.zero_add, ← Nat.zero_add (i * k + j)]
    exact this

/-- Five slices. -/
structure Vs where
  v0 : Value
  v1 : Value
  v2 : Value
  v3 : Value
  v4 : Value
def Vs.cells (V : Vs) : Array Value := #[V.v0, V.v1, V.v2, V.v3, V.v4]
def Vs.zero : Vs := ⟨.slice none 0 0, .slice none 0 0, .slice none 0 0, .slice none 0 0, .slice none 0 0⟩
/-- A script's box at block B, and its rows, all of them G's blocks. -/
structure SB (A : World) (G : Nat → Prop) (b0 B : Nat) (V : Vs) (s : ScA) : Prop where
  box : Whole A B 29 V.cells
  gbox : G B

  r0 : A.ownsRow b0 52 2 V.v0 s.rates.length (s.rates.flatMap rateC)
  g0 : ∀ g, V.v0.ownBlock = some g → G g
  r1 : A.ownsRow b0 2 1 V.v1 s.on.length (s.on.flatMap numC)
  g1 : ∀ g, V.v1.ownBlock = some g → G g
  r2 : A.ownsRow b0 2 1 V.v2 s.delays.length (s.delays.flatMap numC)
  g2 : ∀ g, V.v2.ownBlock = some g → G g
  r3 : A.ownsRow b0 47 4 V.v3 s.haps.length (s.haps.flatMap hapC)
  g3 : ∀ g, V.v3.ownBlock = some g → G g
  r4 : A.ownsRow b0 54 5 V.v4 s.faults.length (s.faults.flatMap ftC)
  g4 : ∀ g, V.v4.ownBlock = some g → G g
  far : ∀ g, V.v1.ownBlock = some g → V.v2.ownBlock ≠ some g
  pl : ∀ a ∈ s.haps, PlAt A a ∧ ∀ ad, a.A = some ad → G ad.block ∧ UB A ad.block
section
variable {A A' : World} {G : Nat → Prop} {b0 B : Nat} {V : Vs} {s : ScA}
theorem SB.same (h : SB A G b0 B V s) (hk : Kept (fun i => ¬ G i) A A') : SB A' G b0 B V s :=
  ⟨h.box.kept hk (fun hn => hn h.gbox), h.gbox, ownsRow_kept h.r0 hk (fun g e hn => hn (h.g0 g e)), h.g0, ownsRow_kept h.r1 hk (fun g e hn => hn (h.g1 g e)), h.g1, ownsRow_kept h.r2 hk (fun g e hn => hn (h.g2 g e)), h.g2, ownsRow_kept h.r3 hk (fun g e hn => hn (h.g3 g e)), h.g3, ownsRow_kept h.r4 hk (fun g e hn => hn (h.g4 g e)), h.g4, h.far, fun a ha => ⟨(h.pl a ha).1.kept hk (fun ad e hn => hn ((h.pl a ha).2 ad e).1), fun ad e => ⟨((h.pl a ha).2 ad e).1, ((h.pl a ha).2 ad e).2.kept hk (fun hn => hn ((h.pl a ha).2 ad e).1)⟩⟩⟩
theorem SB.more {G' : Nat → Prop} (h : SB A G b0 B V s) (hG : ∀ i, G i → G' i) : SB A G' b0 B V s :=
  ⟨h.box, hG _ h.gbox, h.r0, fun g e => hG g (h.g0 g e), h.r1, fun g e => hG g (h.g1 g e), h.r2, fun g e => hG g (h.g2 g e), h.r3, fun g e => hG g (h.g3 g e), h.r4, fun g e => hG g (h.g4 g e), h.far, fun a ha => ⟨(h.pl a ha).1, fun ad e => ⟨hG _ ((h.pl a ha).2 ad e).1, ((h.pl a ha).2 ad e).2⟩⟩⟩
theorem SB.start (A : World) (G : Nat → Prop) (b0 B : Nat) (h : Whole A B 29 Vs.zero.cells) (hB : G B) : SB A G b0 B Vs.zero ⟨[], [], [], [], []⟩ :=
  ⟨h, hB, ⟨rfl, .inl ⟨rfl, rfl⟩⟩, (fun _ e => by cases e), ⟨rfl, .inl ⟨rfl, rfl⟩⟩, (fun _ e => by cases e), ⟨rfl, .inl ⟨rfl, rfl⟩⟩, (fun _ e => by cases e), ⟨rfl, .inl ⟨rfl, rfl⟩⟩, (fun _ e => by cases e), ⟨rfl, .inl ⟨rfl, rfl⟩⟩, (fun _ e => by cases e), (fun _ e => by cases e), fun _ h => by cases h⟩
/-- What is read of it. -/
theorem SB.sc (h : SB A G b0 B V s) : ∃ S : ScV, V.cells = S.cells ∧ ScAt A S s ∧ (S.h.A.map (·.block) = V.v3.ownBlock) := by
  obtain ⟨s0, e0, q0, _⟩ := rsrc_of_own (cells := rateC) (fun _ => rfl) rfl h.r0
  obtain ⟨s1, e1, q1, _⟩ := rsrc_of_own (cells := numC) (fun _ => rfl) rfl h.r1
  obtain ⟨s2, e2, q2, _⟩ := rsrc_of_own (cells := numC) (fun _ => rfl) rfl h.r2
  obtain ⟨s3, e3, q3, b3⟩ := rsrc_of_own (cells := hapC) (fun _ => rfl) rfl h.r3
  obtain ⟨s4, e4, q4, _⟩ := rsrc_of_own (cells := ftC) (fun _ => rfl) rfl h.r4
  refine ⟨⟨s0, s1, s2, s3, s4⟩, by simp [Vs.cells, ScV.cells, e0, e1, e2, e3, e4], ⟨q0, q1, q2, ⟨q3, fun a ha => (h.pl a ha).1⟩, q4⟩, b3⟩

theorem SB.add0 {A1 A2 : World} {v' : Value} (y : Int × Int) (h : SB A G b0 B V s) (hb : Below A.heap.size A A1) (h1 : A2.ownsRow b0 52 2 v' (s.rates.length + 1) (s.rates.flatMap rateC ++ rateC y)) (h2 : A1.grownBy A2 V.v0.ownBlock) (h3 : v'.ownBlock = V.v0.ownBlock ∨ v'.ownBlock = some A1.heap.size) :
    SB (A2.setCell ⟨B, 0, none⟩ v') (fun j => (G j ∨ (j < A2.heap.size ∧ A1.heap.size ≤ j))) b0 B { V with v0 := v' } { s with rates := s.rates ++ [y] } ∧ Kept (fun j => G j) A (A2.setCell ⟨B, 0, none⟩ v') := by
  have hA1 : SB A1 G b0 B V s := h.same (Kept.of_below hb _)
  have hsz := h2.size
  have hz1 := hb.size
  have hBlt := h.box.lt
  have kg : Kept (fun j => some j = V.v0.ownBlock) A1 A2 := (Kept.refl _ A1).grown h2 (fun j hj => .inl hj.symm)
  have kB : Kept (fun j => j = B) A2 (A2.setCell ⟨B, 0, none⟩ v') := Kept.setCell (S := fun j => j = B) (Kept.refl _ A2) (p := ⟨B, 0, none⟩) (.inl rfl) _
  have boxne : some B ≠ V.v0.ownBlock := hA1.box.not_row (by decide) hA1.r0
  have hbox2 := hA1.box.grown h2 boxne
  have nb : ∀ g, v'.ownBlock = some g → g ≠ B ∧ (G g ∨ (g < A2.heap.size ∧ A1.heap.size ≤ g)) := fun g hg => by
    rcases h3 with e | e
    · rw [e] at hg
      exact ⟨fun e2 => boxne (by rw [hg, e2]), .inl (h.g0 g hg)⟩
    · rw [e] at hg; cases hg
      obtain ⟨_, cur, hc⟩ := own_typed h1 e
      exact ⟨by omega, .inr ⟨(Array.getElem?_eq_some_iff.1 hc).1, Nat.le_refl _⟩⟩

  refine ⟨⟨hbox2.set 0 v', .inl h.gbox, (by show (A2.setCell _ _).ownsRow _ _ _ v' (s.rates ++ [y]).length ((s.rates ++ [y]).flatMap rateC); rw [List.length_append, List.flatMap_append, List.flatMap_singleton]; exact ownsRow_kept h1 kB (fun g hg e => (nb g hg).1 e)), (fun g hg => (nb g hg).2), (ownsRow_kept (ownsRow_kept hA1.r1 kg (fun g hg => (fun e3 => by obtain ⟨_, c1, p1⟩ := own_typed hA1.r1 hg; obtain ⟨_, c2, p2⟩ := own_typed hA1.r0 e3.symm; exact typed_apart p1 p2 (by decide) rfl))) kB (fun g hg => (fun e3 => by obtain ⟨_, c1, p1⟩ := own_typed hA1.r1 hg; exact typed_apart p1 (show A1.heap[g]? = _ from e3 ▸ hA1.box) (by decide) rfl))), (fun g hg => .inl (h.g1 g hg)), (ownsRow_kept (ownsRow_kept hA1.r2 kg (fun g hg => (fun e3 => by obtain ⟨_, c1, p1⟩ := own_typed hA1.r2 hg; obtain ⟨_, c2, p2⟩ := own_typed hA1.r0 e3.symm; exact typed_apart p1 p2 (by decide) rfl))) kB (fun g hg => (fun e3 => by obtain ⟨_, c1, p1⟩ := own_typed hA1.r2 hg; exact typed_apart p1 (show A1.heap[g]? = _ from e3 ▸ hA1.box) (by decide) rfl))), (fun g hg => .inl (h.g2 g hg)), (ownsRow_kept (ownsRow_kept hA1.r3 kg (fun g hg => (fun e3 => by obtain ⟨_, c1, p1⟩ := own_typed hA1.r3 hg; obtain ⟨_, c2, p2⟩ := own_typed hA1.r0 e3.symm; exact typed_apart p1 p2 (by decide) rfl))) kB (fun g hg => (fun e3 => by obtain ⟨_, c1, p1⟩ := own_typed hA1.r3 hg; exact typed_apart p1 (show A1.heap[g]? = _ from e3 ▸ hA1.box) (by decide) rfl))), (fun g hg => .inl (h.g3 g hg)), (ownsRow_kept (ownsRow_kept hA1.r4 kg (fun g hg => (fun e3 => by obtain ⟨_, c1, p1⟩ := own_typed hA1.r4 hg; obtain ⟨_, c2, p2⟩ := own_typed hA1.r0 e3.symm; exact typed_apart p1 p2 (by decide) rfl))) kB (fun g hg => (fun e3 => by obtain ⟨_, c1, p1⟩ := own_typed hA1.r4 hg; exact typed_apart p1 (show A1.heap[g]? = _ from e3 ▸ hA1.box) (by decide) rfl))), (fun g hg => .inl (h.g4 g hg)), h.far, fun a ha => ?_⟩, ?_⟩
  · have hpa := hA1.pl a ha
    have d1 : ∀ ad, a.A = some ad → some ad.block ≠ V.v0.ownBlock := fun ad e e3 => by
      obtain ⟨_, c1, p1⟩ := own_typed hA1.r0 e3.symm
      obtain ⟨c2, p2⟩ := (hpa.2 ad e).2
      exact typed_apart p2 p1 (by decide) rfl
    have d2 : ∀ ad, a.A = some ad → ad.block ≠ B := fun ad e e3 => by
      obtain ⟨c2, p2⟩ := (hpa.2 ad e).2
      exact typed_apart p2 (show A1.heap[ad.block]? = _ from e3 ▸ hA1.box) (by decide) rfl
    exact ⟨(hpa.1.kept kg (fun ad e => d1 ad e)).kept kB (fun ad e => d2 ad e), fun ad e => ⟨.inl (hpa.2 ad e).1, ((hpa.2 ad e).2.kept kg (d1 ad e)).kept kB (d2 ad e)⟩⟩
  · refine ((Kept.of_below hb _).trans (kg.mono (fun j hj => h.g0 j hj.symm)) (fun _ _ h => h)).trans kB (fun j _ e => ?_)
    have e : j = B := e
    exact e ▸ h.gbox
theorem SB.add1 {A1 A2 : World} {v' : Value} (y : Int) (h : SB A G b0 B V s) (hb : Below A.heap.size A A1) (h1 : A2.ownsRow b0 2 1 v' (s.on.length + 1) (s.on.flatMap numC ++ numC y)) (h2 : A1.grownBy A2 V.v1.ownBlock) (h3 : v'.ownBlock = V.v1.ownBlock ∨ v'.ownBlock = some A1.heap.size) :
    SB (A2.setCell ⟨B, 1, none⟩ v') (fun j => (G j ∨ (j < A2.heap.size ∧ A1.heap.size ≤ j))) b0 B { V with v1 := v' } { s with on := s.on ++ [y] } ∧ Kept (fun j => G j) A (A2.setCell ⟨B, 1, none⟩ v') := by
  have hA1 : SB A1 G b0 B V s := h.same (Kept.of_below hb _)
  have hsz := h2.size
  have hz1 := hb.size
  have hBlt := h.box.lt
  have kg : Kept (fun j => some j = V.v1.ownBlock) A1 A2 := (Kept.refl _ A1).grown h2 (fun j hj => .inl hj.symm)
  have kB : Kept (fun j => j = B) A2 (A2.setCell ⟨B, 1, none⟩ v') := Kept.setCell (S := fun j => j = B) (Kept.refl _ A2) (p := ⟨B, 1, none⟩) (.inl rfl) _
  have boxne : some B ≠ V.v1.ownBlock := hA1.box.not_row (by decide) hA1.r1
  have hbox2 := hA1.box.grown h2 boxne
  have nb : ∀ g, v'.ownBlock = some g → g ≠ B ∧ (G g ∨ (g < A2.heap.size ∧ A1.heap.size ≤ g)) := fun g hg => by
    rcases h3 with e | e
    · rw [e] at hg
      exact ⟨fun e2 => boxne (by rw [hg, e2]), .inl (h.g1 g hg)⟩
    · rw [e] at hg; cases hg
      obtain ⟨_, cur, hc⟩ := own_typed h1 e
      exact ⟨by omega, .inr ⟨(Array.getElem?_eq_some_iff.1 hc).1, Nat.le_refl _⟩⟩

  refine ⟨⟨hbox2.set 1 v', .inl h.gbox, (ownsRow_kept (ownsRow_kept hA1.r0 kg (fun g hg => (fun e3 => by obtain ⟨_, c1, p1⟩ := own_typed hA1.r0 hg; obtain ⟨_, c2, p2⟩ := own_typed hA1.r1 e3.symm; exact typed_apart p1 p2 (by decide) rfl))) kB (fun g hg => (fun e3 => by obtain ⟨_, c1, p1⟩ := own_typed hA1.r0 hg; exact typed_apart p1 (show A1.heap[g]? = _ from e3 ▸ hA1.box) (by decide) rfl))), (fun g hg => .inl (h.g0 g hg)), (by show (A2.setCell _ _).ownsRow _ _ _ v' (s.on ++ [y]).length ((s.on ++ [y]).flatMap numC); rw [List.length_append, List.flatMap_append, List.flatMap_singleton]; exact ownsRow_kept h1 kB (fun g hg e => (nb g hg).1 e)), (fun g hg => (nb g hg).2), (ownsRow_kept (ownsRow_kept hA1.r2 kg (fun g hg => (fun e3 => h.far g (by rw [← e3]) hg))) kB (fun g hg => (fun e3 => by obtain ⟨_, c1, p1⟩ := own_typed hA1.r2 hg; exact typed_apart p1 (show A1.heap[g]? = _ from e3 ▸ hA1.box) (by decide) rfl))), (fun g hg => .inl (h.g2 g hg)), (ownsRow_kept (ownsRow_kept hA1.r3 kg (fun g hg => (fun e3 => by obtain ⟨_, c1, p1⟩ := own_typed hA1.r3 hg; obtain ⟨_, c2, p2⟩ := own_typed hA1.r1 e3.symm; exact typed_apart p1 p2 (by decide) rfl))) kB (fun g hg => (fun e3 => by obtain ⟨_, c1, p1⟩ := own_typed hA1.r3 hg; exact typed_apart p1 (show A1.heap[g]? = _ from e3 ▸ hA1.box) (by decide) rfl))), (fun g hg => .inl (h.g3 g hg)), (ownsRow_kept (ownsRow_kept hA1.r4 kg (fun g hg => (fun e3 => by obtain ⟨_, c1, p1⟩ := own_typed hA1.r4 hg; obtain ⟨_, c2, p2⟩ := own_typed hA1.r1 e3.symm; exact typed_apart p1 p2 (by decide) rfl))) kB (fun g hg => (fun e3 => by obtain ⟨_, c1, p1⟩ := own_typed hA1.r4 hg; exact typed_apart p1 (show A1.heap[g]? = _ from e3 ▸ hA1.box) (by decide) rfl))), (fun g hg => .inl (h.g4 g hg)), (fun g hg e => by
    rcases h3 with q | q
    · exact h.far g (q ▸ hg) e
    · have hg : v'.ownBlock = some g := hg
      rw [q] at hg; cases hg
      obtain ⟨_, cur, hc⟩ := own_typed hA1.r2 e
      have := (Array.getElem?_eq_some_iff.1 hc).1; omega), fun a ha => ?_⟩, ?_⟩
  · have hpa := hA1.pl a ha
    have d1 : ∀ ad, a.A = some ad → some ad.block ≠ V.v1.ownBlock := fun ad e e3 => by
      obtain ⟨_, c1, p1⟩ := own_typed hA1.r1 e3.symm
      obtain ⟨c2, p2⟩ := (hpa.2 ad e).2
      exact typed_apart p2 p1 (by decide) rfl
    have d2 : ∀ ad, a.A = some ad → ad.block ≠ B := fun ad e e3 => by
      obtain ⟨c2, p2⟩ := (hpa.2 ad e).2
      exact typed_apart p2 (show A1.heap[ad.block]? = _ from e3 ▸ hA1.box) (by decide) rfl
    exact ⟨(hpa.1.kept kg (fun ad e => d1 ad e)).kept kB (fun ad e => d2 ad e), fun ad e => ⟨.inl (hpa.2 ad e).1, ((hpa.2 ad e).2.kept kg (d1 ad e)).kept kB (d2 ad e)⟩⟩
  · refine ((Kept.of_below hb _).trans (kg.mono (fun j hj => h.g1 j hj.symm)) (fun _ _ h => h)).trans kB (fun j _ e => ?_)
    have e : j = B := e
    exact e ▸ h.gbox
theorem SB.add2 {A1 A2 : World} {v' : Value} (y : Int) (h : SB A G b0 B V s) (hb : Below A.heap.size A A1) (h1 : A2.ownsRow b0 2 1 v' (s.delays.length + 1) (s.delays.flatMap numC ++ numC y)) (h2 : A1.grownBy A2 V.v2.ownBlock) (h3 : v'.ownBlock = V.v2.ownBlock ∨ v'.ownBlock = some A1.heap.size) :
    SB (A2.setCell ⟨B, 2, none⟩ v') (fun j => (G j ∨ (j < A2.heap.size ∧ A1.heap.size ≤ j))) b0 B { V with v2 := v' } { s with delays := s.delays ++ [y] } ∧ Kept (fun j => G j) A (A2.setCell ⟨B, 2, none⟩ v') := by
  have hA1 : SB A1 G b0 B V s := h.same (Kept.of_below hb _)
  have hsz := h2.size
  have hz1 := hb.size
  have hBlt := h.box.lt
  have kg : Kept (fun j => some j = V.v2.ownBlock) A1 A2 := (Kept.refl _ A1).grown h2 (fun j hj => .inl hj.symm)
  have kB : Kept (fun j => j = B) A2 (A2.setCell ⟨B, 2, none⟩ v') := Kept.setCell (S := fun j => j = B) (Kept.refl _ A2) (p := ⟨B, 2, none⟩) (.inl rfl) _
  have boxne : some B ≠ V.v2.ownBlock := hA1.box.not_row (by decide) hA1.r2
  have hbox2 := hA1.box.grown h2 boxne
  have nb : ∀ g, v'.ownBlock = some g → g ≠ B ∧ (G g ∨ (g < A2.heap.size ∧ A1.heap.size ≤ g)) := fun g hg => by
    rcases h3 with e | e
    · rw [e] at hg
      exact ⟨fun e2 => boxne (by rw [hg, e2]), .inl (h.g2 g hg)⟩
    · rw [e] at hg; cases hg
      obtain ⟨_, cur, hc⟩ := own_typed h1 e
      exact ⟨by omega, .inr ⟨(Array.getElem?_eq_some_iff.1 hc).1, Nat.le_refl _⟩⟩

  refine ⟨⟨hbox2.set 2 v', .inl h.gbox, (ownsRow_kept (ownsRow_kept hA1.r0 kg (fun g hg => (fun e3 => by obtain ⟨_, c1, p1⟩ := own_typed hA1.r0 hg; obtain ⟨_, c2, p2⟩ := own_typed hA1.r2 e3.symm; exact typed_apart p1 p2 (by decide) rfl))) kB (fun g hg => (fun e3 => by obtain ⟨_, c1, p1⟩ := own_typed hA1.r0 hg; exact typed_apart p1 (show A1.heap[g]? = _ from e3 ▸ hA1.box) (by decide) rfl))), (fun g hg => .inl (h.g0 g hg)), (ownsRow_kept (ownsRow_kept hA1.r1 kg (fun g hg => (fun e3 => h.far g hg (by rw [← e3])))) kB (fun g hg => (fun e3 => by obtain ⟨_, c1, p1⟩ := own_typed hA1.r1 hg; exact typed_apart p1 (show A1.heap[g]? = _ from e3 ▸ hA1.box) (by decide) rfl))), (fun g hg => .inl (h.g1 g hg)), (by show (A2.setCell _ _).ownsRow _ _ _ v' (s.delays ++ [y]).length ((s.delays ++ [y]).flatMap numC); rw [List.length_append, List.flatMap_append, List.flatMap_singleton]; exact ownsRow_kept h1 kB (fun g hg e => (nb g hg).1 e)), (fun g hg => (nb g hg).2), (ownsRow_kept (ownsRow_kept hA1.r3 kg (fun g hg => (fun e3 => by obtain ⟨_, c1, p1⟩ := own_typed hA1.r3 hg; obtain ⟨_, c2, p2⟩ := own_typed hA1.r2 e3.symm; exact typed_apart p1 p2 (by decide) rfl))) kB (fun g hg => (fun e3 => by obtain ⟨_, c1, p1⟩ := own_typed hA1.r3 hg; exact typed_apart p1 (show A1.heap[g]? = _ from e3 ▸ hA1.box) (by decide) rfl))), (fun g hg => .inl (h.g3 g hg)), (ownsRow_kept (ownsRow_kept hA1.r4 kg (fun g hg => (fun e3 => by obtain ⟨_, c1, p1⟩ := own_typed hA1.r4 hg; obtain ⟨_, c2, p2⟩ := own_typed hA1.r2 e3.symm; exact typed_apart p1 p2 (by decide) rfl))) kB (fun g hg => (fun e3 => by obtain ⟨_, c1, p1⟩ := own_typed hA1.r4 hg; exact typed_apart p1 (show A1.heap[g]? = _ from e3 ▸ hA1.box) (by decide) rfl))), (fun g hg => .inl (h.g4 g hg)), (fun g hg e => by
    rcases h3 with q | q
    · exact h.far g hg (q ▸ e)
    · have e : v'.ownBlock = some g := e
      rw [q] at e; cases e
      obtain ⟨_, cur, hc⟩ := own_typed hA1.r1 hg
      have := (Array.getElem?_eq_some_iff.1 hc).1; omega), fun a ha => ?_⟩, ?_⟩
  · have hpa := hA1.pl a ha
    have d1 : ∀ ad, a.A = some ad → some ad.block ≠ V.v2.ownBlock := fun ad e e3 => by
      obtain ⟨_, c1, p1⟩ := own_typed hA1.r2 e3.symm
      obtain ⟨c2, p2⟩ := (hpa.2 ad e).2
      exact typed_apart p2 p1 (by decide) rfl
    have d2 : ∀ ad, a.A = some ad → ad.block ≠ B := fun ad e e3 => by
      obtain ⟨c2, p2⟩ := (hpa.2 ad e).2
      exact typed_apart p2 (show A1.heap[ad.block]? = _ from e3 ▸ hA1.box) (by decide) rfl
    exact ⟨(hpa.1.kept kg (fun ad e => d1 ad e)).kept kB (fun ad e => d2 ad e), fun ad e => ⟨.inl (hpa.2 ad e).1, ((hpa.2 ad e).2.kept kg (d1 ad e)).kept kB (d2 ad e)⟩⟩
  · refine ((Kept.of_below hb _).trans (kg.mono (fun j hj => h.g2 j hj.symm)) (fun _ _ h => h)).trans kB (fun j _ e => ?_)
    have e : j = B := e
    exact e ▸ h.gbox
theorem SB.add3 {A1 A2 : World} {v' : Value} {F : Nat → Prop} (y : HpA) (h : SB A G b0 B V s) (hb : Below A.heap.size A A1) (h1 : A2.ownsRow b0 47 4 v' (s.haps.length + 1) (s.haps.flatMap hapC ++ hapC y)) (h2 : A1.grownBy A2 V.v3.ownBlock) (h3 : v'.ownBlock = V.v3.ownBlock ∨ v'.ownBlock = some A1.heap.size) (hy : PlAt A2 y ∧ ∀ ad, y.A = some ad → ad.block < A2.heap.size ∧ ¬ F ad.block ∧ UB A2 ad.block ∧ ad.block ≠ B ∧ some ad.block ≠ v'.ownBlock) :
    SB (A2.setCell ⟨B, 3, none⟩ v') (fun j => (G j ∨ (j < A2.heap.size ∧ A1.heap.size ≤ j)) ∨ ∃ ad, y.A = some ad ∧ j = ad.block) b0 B { V with v3 := v' } { s with haps := s.haps ++ [y] } ∧ Kept (fun j => G j) A (A2.setCell ⟨B, 3, none⟩ v') := by
  have hA1 : SB A1 G b0 B V s := h.same (Kept.of_below hb _)
  have hsz := h2.size
  have hz1 := hb.size
  have hBlt := h.box.lt
  have kg : Kept (fun j => some j = V.v3.ownBlock) A1 A2 := (Kept.refl _ A1).grown h2 (fun j hj => .inl hj.symm)
  have kB : Kept (fun j => j = B) A2 (A2.setCell ⟨B, 3, none⟩ v') := Kept.setCell (S := fun j => j = B) (Kept.refl _ A2) (p := ⟨B, 3, none⟩) (.inl rfl) _
  have boxne : some B ≠ V.v3.ownBlock := hA1.box.not_row (by decide) hA1.r3
  have hbox2 := hA1.box.grown h2 boxne
  have nb : ∀ g, v'.ownBlock = some g → g ≠ B ∧ (G g ∨ (g < A2.heap.size ∧ A1.heap.size ≤ g)) := fun g hg => by
    rcases h3 with e | e
    · rw [e] at hg
      exact ⟨fun e2 => boxne (by rw [hg, e2]), .inl (h.g3 g hg)⟩
    · rw [e] at hg; cases hg
      obtain ⟨_, cur, hc⟩ := own_typed h1 e
      exact ⟨by omega, .inr ⟨(Array.getElem?_eq_some_iff.1 hc).1, Nat.le_refl _⟩⟩

  refine ⟨⟨hbox2.set 3 v', .inl (.inl h.gbox), (ownsRow_kept (ownsRow_kept hA1.r0 kg (fun g hg => (fun e3 => by obtain ⟨_, c1, p1⟩ := own_typed hA1.r0 hg; obtain ⟨_, c2, p2⟩ := own_typed hA1.r3 e3.symm; exact typed_apart p1 p2 (by decide) rfl))) kB (fun g hg => (fun e3 => by obtain ⟨_, c1, p1⟩ := own_typed hA1.r0 hg; exact typed_apart p1 (show A1.heap[g]? = _ from e3 ▸ hA1.box) (by decide) rfl))), (fun g hg => .inl (.inl (h.g0 g hg))), (ownsRow_kept (ownsRow_kept hA1.r1 kg (fun g hg => (fun e3 => by obtain ⟨_, c1, p1⟩ := own_typed hA1.r1 hg; obtain ⟨_, c2, p2⟩ := own_typed hA1.r3 e3.symm; exact typed_apart p1 p2 (by decide) rfl))) kB (fun g hg => (fun e3 => by obtain ⟨_, c1, p1⟩ := own_typed hA1.r1 hg; exact typed_apart p1 (show A1.heap[g]? = _ from e3 ▸ hA1.box) (by decide) rfl))), (fun g hg => .inl (.inl (h.g1 g hg))), (ownsRow_kept (ownsRow_kept hA1.r2 kg (fun g hg => (fun e3 => by obtain ⟨_, c1, p1⟩ := own_typed hA1.r2 hg; obtain ⟨_, c2, p2⟩ := own_typed hA1.r3 e3.symm; exact typed_apart p1 p2 (by decide) rfl))) kB (fun g hg => (fun e3 => by obtain ⟨_, c1, p1⟩ := own_typed hA1.r2 hg; exact typed_apart p1 (show A1.heap[g]? = _ from e3 ▸ hA1.box) (by decide) rfl))), (fun g hg => .inl (.inl (h.g2 g hg))), (by show (A2.setCell _ _).ownsRow _ _ _ v' (s.haps ++ [y]).length ((s.haps ++ [y]).flatMap hapC); rw [List.length_append, List.flatMap_append, List.flatMap_singleton]; exact ownsRow_kept h1 kB (fun g hg e => (nb g hg).1 e)), (fun g hg => .inl (nb g hg).2), (ownsRow_kept (ownsRow_kept hA1.r4 kg (fun g hg => (fun e3 => by obtain ⟨_, c1, p1⟩ := own_typed hA1.r4 hg; obtain ⟨_, c2, p2⟩ := own_typed hA1.r3 e3.symm; exact typed_apart p1 p2 (by decide) rfl))) kB (fun g hg => (fun e3 => by obtain ⟨_, c1, p1⟩ := own_typed hA1.r4 hg; exact typed_apart p1 (show A1.heap[g]? = _ from e3 ▸ hA1.box) (by decide) rfl))), (fun g hg => .inl (.inl (h.g4 g hg))), h.far, fun a ha => ?_⟩, ?_⟩
  · rcases List.mem_append.1 (show a ∈ s.haps ++ [y] from ha) with ha | ha
    · have hpa := hA1.pl a ha
      have d1 : ∀ ad, a.A = some ad → some ad.block ≠ V.v3.ownBlock := fun ad e e3 => by
        obtain ⟨_, c1, p1⟩ := own_typed hA1.r3 e3.symm
        obtain ⟨c2, p2⟩ := (hpa.2 ad e).2
        exact typed_apart p2 p1 (by decide) rfl
      have d2 : ∀ ad, a.A = some ad → ad.block ≠ B := fun ad e e3 => by
        obtain ⟨c2, p2⟩ := (hpa.2 ad e).2
        exact typed_apart p2 (show A1.heap[ad.block]? = _ from e3 ▸ hA1.box) (by decide) rfl
      exact ⟨(hpa.1.kept kg (fun ad e => d1 ad e)).kept kB (fun ad e => d2 ad e), fun ad e => ⟨.inl (.inl (hpa.2 ad e).1), ((hpa.2 ad e).2.kept kg (d1 ad e)).kept kB (d2 ad e)⟩⟩
    · obtain rfl : a = y := by simpa using ha
      exact ⟨hy.1.kept kB (fun ad e => (hy.2 ad e).2.2.2.1), fun ad e => ⟨.inr ⟨ad, e, rfl⟩, (hy.2 ad e).2.2.1.kept kB (hy.2 ad e).2.2.2.1⟩⟩
  · refine ((Kept.of_below hb _).trans (kg.mono (fun j hj => h.g3 j hj.symm)) (fun _ _ h => h)).trans kB (fun j _ e => ?_)
    have e : j = B := e
    exact e ▸ h.gbox
theorem SB.add4 {A1 A2 : World} {v' : Value} (y : Ft) (h : SB A G b0 B V s) (hb : Below A.heap.size A A1) (h1 : A2.ownsRow b0 54 5 v' (s.faults.length + 1) (s.faults.flatMap ftC ++ ftC y)) (h2 : A1.grownBy A2 V.v4.ownBlock) (h3 : v'.ownBlock = V.v4.ownBlock ∨ v'.ownBlock = some A1.heap.size) :
    SB (A2.setCell ⟨B, 4, none⟩ v') (fun j => (G j ∨ (j < A2.heap.size ∧ A1.heap.size ≤ j))) b0 B { V with v4 := v' } { s with faults := s.faults ++ [y] } ∧ Kept (fun j => G j) A (A2.setCell ⟨B, 4, none⟩ v') := by
  have hA1 : SB A1 G b0 B V s := h.same (Kept.of_below hb _)
  have hsz := h2.size
  have hz1 := hb.size
  have hBlt := h.box.lt
  have kg : Kept (fun j => some j = V.v4.ownBlock) A1 A2 := (Kept.refl _ A1).grown h2 (fun j hj => .inl hj.symm)
  have kB : Kept (fun j => j = B) A2 (A2.setCell ⟨B, 4, none⟩ v') := Kept.setCell (S := fun j => j = B) (Kept.refl _ A2) (p := ⟨B, 4, none⟩) (.inl rfl) _
  have boxne : some B ≠ V.v4.ownBlock := hA1.box.not_row (by decide) hA1.r4
  have hbox2 := hA1.box.grown h2 boxne
  have nb : ∀ g, v'.ownBlock = some g → g ≠ B ∧ (G g ∨ (g < A2.heap.size ∧ A1.heap.size ≤ g)) := fun g hg => by
    rcases h3 with e | e
    · rw [e] at hg
      exact ⟨fun e2 => boxne (by rw [hg, e2]), .inl (h.g4 g hg)⟩
    · rw [e] at hg; cases hg
      obtain ⟨_, cur, hc⟩ := own_typed h1 e
      exact ⟨by omega, .inr ⟨(Array.getElem?_eq_some_iff.1 hc).1, Nat.le_refl _⟩⟩

  refine ⟨⟨hbox2.set 4 v', .inl h.gbox, (ownsRow_kept (ownsRow_kept hA1.r0 kg (fun g hg => (fun e3 => by obtain ⟨_, c1, p1⟩ := own_typed hA1.r0 hg; obtain ⟨_, c2, p2⟩ := own_typed hA1.r4 e3.symm; exact typed_apart p1 p2 (by decide) rfl))) kB (fun g hg => (fun e3 => by obtain ⟨_, c1, p1⟩ := own_typed hA1.r0 hg; exact typed_apart p1 (show A1.heap[g]? = _ from e3 ▸ hA1.box) (by decide) rfl))), (fun g hg => .inl (h.g0 g hg)), (ownsRow_kept (ownsRow_kept hA1.r1 kg (fun g hg => (fun e3 => by obtain ⟨_, c1, p1⟩ := own_typed hA1.r1 hg; obtain ⟨_, c2, p2⟩ := own_typed hA1.r4 e3.symm; exact typed_apart p1 p2 (by decide) rfl))) kB (fun g hg => (fun e3 => by obtain ⟨_, c1, p1⟩ := own_typed hA1.r1 hg; exact typed_apart p1 (show A1.heap[g]? = _ from e3 ▸ hA1.box) (by decide) rfl))), (fun g hg => .inl (h.g1 g hg)), (ownsRow_kept (ownsRow_kept hA1.r2 kg (fun g hg => (fun e3 => by obtain ⟨_, c1, p1⟩ := own_typed hA1.r2 hg; obtain ⟨_, c2, p2⟩ := own_typed hA1.r4 e3.symm; exact typed_apart p1 p2 (by decide) rfl))) kB (fun g hg => (fun e3 => by obtain ⟨_, c1, p1⟩ := own_typed hA1.r2 hg; exact typed_apart p1 (show A1.heap[g]? = _ from e3 ▸ hA1.box) (by decide) rfl))), (fun g hg => .inl (h.g2 g hg)), (ownsRow_kept (ownsRow_kept hA1.r3 kg (fun g hg => (fun e3 => by obtain ⟨_, c1, p1⟩ := own_typed hA1.r3 hg; obtain ⟨_, c2, p2⟩ := own_typed hA1.r4 e3.symm; exact typed_apart p1 p2 (by decide) rfl))) kB (fun g hg => (fun e3 => by obtain ⟨_, c1, p1⟩ := own_typed hA1.r3 hg; exact typed_apart p1 (show A1.heap[g]? = _ from e3 ▸ hA1.box) (by decide) rfl))), (fun g hg => .inl (h.g3 g hg)), (by show (A2.setCell _ _).ownsRow _ _ _ v' (s.faults ++ [y]).length ((s.faults ++ [y]).flatMap ftC); rw [List.length_append, List.flatMap_append, List.flatMap_singleton]; exact ownsRow_kept h1 kB (fun g hg e => (nb g hg).1 e)), (fun g hg => (nb g hg).2), h.far, fun a ha => ?_⟩, ?_⟩
  · have hpa := hA1.pl a ha
    have d1 : ∀ ad, a.A = some ad → some ad.block ≠ V.v4.ownBlock := fun ad e e3 => by
      obtain ⟨_, c1, p1⟩ := own_typed hA1.r4 e3.symm
      obtain ⟨c2, p2⟩ := (hpa.2 ad e).2
      exact typed_apart p2 p1 (by decide) rfl
    have d2 : ∀ ad, a.A = some ad → ad.block ≠ B := fun ad e e3 => by
      obtain ⟨c2, p2⟩ := (hpa.2 ad e).2
      exact typed_apart p2 (show A1.heap[ad.block]? = _ from e3 ▸ hA1.box) (by decide) rfl
    exact ⟨(hpa.1.kept kg (fun ad e => d1 ad e)).kept kB (fun ad e => d2 ad e), fun ad e => ⟨.inl (hpa.2 ad e).1, ((hpa.2 ad e).2.kept kg (d1 ad e)).kept kB (d2 ad e)⟩⟩
  · refine ((Kept.of_below hb _).trans (kg.mono (fun j hj => h.g4 j hj.symm)) (fun _ _ h => h)).trans kB (fun j _ e => ?_)
    have e : j = B := e
    exact e ▸ h.gbox
end
end Go.Proofs.Ytljcaigaofalbaa

namespace Go.Proofs.Ytljcaigaofalbaa
open Go.RowKit Go.Shelf

theorem step_callv {P : Program} {ops : Array Oper} {o : Oper} {a : Act} {w : World} {K : Act → World → Prop} {Q : Exit → Act → World → Prop} {E : Prop} (hgd : o.guard = none) (c : Operand) (f : FuncId) (cap : Array Value) (xs : List Operand) (ts : Array TypeId)
    (ho : o.op = .call { callee := .value c, args := xs.toArray, argTypes := ts }) (hc : a.eval c = .func (.func f) #[] cap) (hen : ∀ args W, (callFunc f args).run P W = .ok (.enter f args) W) (vs : List Value) (hv : xs.map a.eval = vs) (us : Array Value) (hu : vs.toArray ++ cap = us)
    (h : Calls P f us w fun e w' => ∃ v, e = .returned v ∧ K (a.put o.dst v) w') : if Region.wanted o (yielded ops a.tmps) = true then Oper.wp P o a w K Q else E := by
  have hw : Region.wanted o (yielded ops a.tmps) = true := by simp [Region.wanted, hgd]
  rw [if_pos hw]
  subst hu
  unfold Oper.wp execOp
  simp only [ho, resolve, invoke, Sem.run_bind, Oper.upon, hc]
  have hv' : Array.map a.eval xs.toArray = vs.toArray := by rw [List.map_toArray, hv]
  rw [hv']
  simp only [Deferred.ofValue, Sem.run_pure, Result.andThen_ok, Array.empty_append, hen]
  refine h.mono ?_
  rintro _ _ ⟨v, rfl, hk⟩
  exact hk

/-- append onto a row of the call's own: at a step of a region that draws its order. -/
theorem step_append_own {P : Program} {ops : Array Oper} {o : Oper} {a : Act} {w : World} {K : Act → World → Prop} {Q : Exit → Act → World → Prop} {E : Prop} (hgd : o.guard = none) (s x : Operand) (t : TypeId)
    (ho : o.op = .call { callee := .builtin .append, args := #[s, x], argTypes := #[t, t] })
    (base : Nat) (e : TypeId) (i : TypeInfo) (z : Value) (size bytes : Nat) (ht : P.underlying t = some (.slice e)) (hi : P.info? e = some i) (hz : i.zero = some z)
    (hsize : i.size = size) (hby : i.bytes = bytes) (hzs : z.cells.size = size) (hsz : 0 < size)
    (v : Value) (n : Nat) (xs : List Value) (hs : a.eval s = v) (hown : w.ownsRow base e size v n xs)
    (ad : Addr) (m c : Nat) (news : List Value) (hx : a.eval x = .slice (some ad) m c) (hl : news.length = m * size) (hnews : ∀ j u, news[j]? = some u → w.cell? (ad.add j) = some u) (h1 : ∀ u ∈ news, u.oneCell' = true)
    (h63 : n + m ≤ maxLen) (hbytes : (n + m) * bytes ≤ 140737488355328) (hbase : base ≤ w.heap.size)
    (h : ∀ v' w', w'.ownsRow base e size v' (n + m) (xs ++ news) → w.grownBy w' v.ownBlock → (v'.ownBlock = v.ownBlock ∨ v'.ownBlock = some w.heap.size) → K (a.put o.dst v') w') :
    if Region.wanted o (yielded ops a.tmps) = true then Oper.wp P o a w K Q else E := by
  have hw : Region.wanted o (yielded ops a.tmps) = true := by simp [Region.wanted, hgd]
  rw [if_pos hw]
  obtain ⟨v', w', hr, h2, h3, _, h4⟩ := run_append_own_at (P := P) w base t o.type e i z size bytes ht hi hz hsize hby hzs hsz v n xs hown ad m c news hl hnews h1 h63 hbytes hbase
  unfold Oper.wp execOp
  simp only [ho, resolve, invoke, builtin, Sem.run_bind, Sem.run_pure, Result.andThen_ok, List.map_toArray, List.map_cons, List.map_nil, hs, hx, hr]
  exact h v' w' h2 h3 h4

/-- The reader with l left, its spans and its closure; beside them the script that is made up; all of it newer than w0. -/
structure DS (w0 W : World) (S : Nat → Prop) (r : Nat) (l : List UInt8) (bF g B4 : Nat) (x : Pl) (G : Nat → Prop) (B : Nat) (V : Vs) (s : ScA) : Prop where
  rd : RdW W S W S r l [(bF, 85, #[.pointer (some ⟨r, 0, none⟩)]), (g, 80, spansC x), (B4, 29, ScV.zero.cells)]
  sb : SB W G w0.heap.size B V s
  far : ∀ i, G i → i < W.heap.size ∧ ¬ S i ∧ i ≠ bF ∧ i ≠ g ∧ i ≠ B4
  new : (∀ i, S i → w0.heap.size ≤ i) ∧ (∀ i, G i → w0.heap.size ≤ i)
  kept : Below w0.heap.size w0 W
section
variable {w0 W W' : World} {S : Nat → Prop} {r : Nat} {l l' : List UInt8} {bF g B4 : Nat} {x : Pl} {G G' : Nat → Prop} {B : Nat} {V V' : Vs} {s s' : ScA}
/-- Something was read. -/
theorem DS.red {v : Value} {e : Ending} (h : DS w0 W S r l bF g B4 x G B V s) (hr : Red W S r v l' e W') : e = .returned v ∧ DS w0 W' (Grow S W W') r l' bF g B4 x G B V s ∧ Kept S W W' := by
  obtain ⟨he, h1⟩ := h.rd.called hr
  obtain ⟨_, _, hk⟩ := hr
  have hz := hk.size
  refine ⟨he, ⟨⟨h1.rd, h1.held, h1.nodup, Kept.refl _ _, fun _ h => .inl h⟩, h.sb.same (hk.mono fun i hs hg => (h.far i hg).2.1 hs), fun i hg => ?_, ⟨fun i hs => ?_, h.new.2⟩, ?_⟩, hk⟩
  · have := h.far i hg
    exact ⟨by omega, fun hs => by
      rcases hs with hs | hs
      · exact this.2.1 hs
      · omega, this.2.2⟩
  · rcases hs with hs | hs
    · exact h.new.1 i hs
    · have := h.kept.size; omega
  · exact ((Kept.of_below h.kept Empty).trans (hk.mono fun i hs => h.new.1 i hs) (T := fun i => w0.heap.size ≤ i) (fun i hi hn => by have hn : w0.heap.size ≤ i := hn; omega)).below (fun _ _ h => h)
/-- The script was turned. -/
theorem DS.turned (h : DS w0 W S r l bF g B4 x G B V s) (hs : SB W' G' w0.heap.size B V' s') (hk : Kept (fun j => G j) W W') (hG : ∀ i, G' i → G i ∨ (i < W'.heap.size ∧ W.heap.size ≤ i)) : DS w0 W' S r l bF g B4 x G' B V' s' := by
  have hz := hk.size
  have hz0 := h.kept.size
  have e1 : ¬ G bF := fun hg => (h.far _ hg).2.2.1 rfl
  have e2 : ¬ G g := fun hg => (h.far _ hg).2.2.2.1 rfl
  have e3 : ¬ G B4 := fun hg => (h.far _ hg).2.2.2.2 rfl
  have l1 := (h.rd.whole (y := (bF, 85, #[.pointer (some ⟨r, 0, none⟩)])) (by simp)).lt
  have l2 := (h.rd.whole (y := (g, 80, spansC x)) (by simp)).lt
  have l3 := (h.rd.whole (y := (B4, 29, ScV.zero.cells)) (by simp)).lt
  simp only at l1 l2 l3
  refine ⟨⟨h.rd.rd.kept hk (fun i hs' hg => (h.far i hg).2.1 hs'), fun y hy => ⟨(h.rd.held y hy).1.kept hk (fun hg => ?_), (h.rd.held y hy).2⟩, h.rd.nodup, Kept.refl _ _, fun _ h => .inl h⟩, hs, fun i hg => ?_, ⟨h.new.1, fun i hg => ?_⟩, ?_⟩
  · simp only [List.mem_cons, List.not_mem_nil, or_false] at hy
    rcases hy with rfl | rfl | rfl
    · exact e1 hg
    · exact e2 hg
    · exact e3 hg
  · rcases hG i hg with hg | hg
    · have := h.far i hg; exact ⟨by omega, this.2⟩
    · exact ⟨hg.1, fun hs' => by have := h.rd.rd.lt i hs'; omega, by omega, by omega, by omega⟩
  · rcases hG i hg with hg | hg
    · exact h.new.2 i hg
    · omega
  · exact ((Kept.of_below h.kept Empty).trans (hk.mono fun i hs => h.new.2 i hs) (T := fun i => w0.heap.size ≤ i) (fun i hi hn => by have hn : w0.heap.size ≤ i := hn; omega)).below (fun _ _ h => h)
theorem DS.drew (h : DS w0 W S r l bF g B4 x G B V s) : DS w0 W.drew S r l bF g B4 x G B V s :=
  h.turned (h.sb.same ((Kept.refl _ W).drew)) ((Kept.refl _ W).drew) (fun _ h => .inl h)
theorem DS.spans (h : DS w0 W S r l bF g B4 x G B V s) : SpAt W g x := h.rd.whole (y := (g, 80, spansC x)) (by simp)
/-- The closure called. -/
theorem fold_d (h : DS w0 W S r l bF g B4 x G B V s) (wd : Nat) (lo hi : Int) (l' : List UInt8) (q : Int) (hl' : l.drop wd = l') (hq : lo + num wd (hi - lo + 1) l = q)
    (hwd : isW (wd : Int) = true) (h4 : wd ≤ 4) (hll : l.length ≤ 1000000000) (hlo : -1000000 ≤ lo) (hle : lo ≤ hi) (hhi : hi ≤ 3000000000) :
    Calls Try.prog 87 #[.agg #[.int .i64 (wd : Int), .int .i64 lo, .int .i64 hi], .pointer (some ⟨bF, 0, none⟩)] W fun e W' => e = .returned (.int .i64 q) ∧ ∃ S', DS w0 W' S' r l' bF g B4 x G B V s ∧ Kept S W W' := by
  subst hl' hq
  have hb := h.rd.held (bF, 85, #[.pointer (some ⟨r, 0, none⟩)]) (by simp)
  exact (fold_any W S r bF l wd lo hi h.rd.rd (hb.1.cell 0) hb.2 hwd h4 hll hlo hle hhi).mono fun _ _ k => ⟨(h.red k).1, _, (h.red k).2.1, (h.red k).2.2⟩
end
theorem own_val {w : World} {b k n : Nat} {e : TypeId} {v : Value} {xs : List Value} (h : w.ownsRow b e k v n xs) : ∃ p z c, v = .slice p z c := by
  rcases h.2 with ⟨rfl, _⟩ | ⟨g, cap, cur, rfl, _⟩
  · exact ⟨_, _, _, rfl⟩
  · exact ⟨_, _, _, rfl⟩
theorem rate_infos : (Try.prog.info? 52).map (fun i => (i.zero, i.size, i.bytes)) = some (some (.agg #[.int .i64 0, .int .i64 0]), 2, 16) := by kernel_rfl
theorem i64_infos : (Try.prog.info? 2).map (fun i => (i.zero, i.size, i.bytes)) = some (some (.int .i64 0), 1, 8) := by kernel_rfl
theorem hap_infos : (Try.prog.info? 47).map (fun i => (i.zero, i.size, i.bytes)) = some (some (.agg #[.int .i64 0, .int .i64 0, .int .i64 0, .slice none 0 0]), 4, 48) := by kernel_rfl
theorem ft_infos : (Try.prog.info? 54).map (fun i => (i.zero, i.size, i.bytes)) = some (some (.agg #[.int .i64 0, .int .i64 0, .int .i64 0, .int .i64 0, .bool false]), 5, 40) := by kernel_rfl
theorem rateC_one (y : Int × Int) : ∀ u ∈ rateC y, u.oneCell' = true := by intro u hu; simp only [rateC, List.mem_cons, List.not_mem_nil, or_false] at hu; rcases hu with rfl | rfl <;> rfl
theorem numC_one (y : Int) : ∀ u ∈ numC y, u.oneCell' = true := by intro u hu; simp only [numC, List.mem_cons, List.not_mem_nil, or_false] at hu; rcases hu with rfl; rfl
theorem hapC_one (y : HpA) : ∀ u ∈ hapC y, u.oneCell' = true := by intro u hu; simp only [hapC, List.mem_cons, List.not_mem_nil, or_false] at hu; rcases hu with rfl | rfl | rfl | rfl <;> rfl
theorem ftC_one (y : Ft) : ∀ u ∈ ftC y, u.oneCell' = true := by intro u hu; simp only [ftC, List.mem_cons, List.not_mem_nil, or_false] at hu; rcases hu with rfl | rfl | rfl | rfl | rfl <;> rfl
end Go.Proofs.Ytljcaigaofalbaa

namespace Go.Proofs.Ytljcaigaofalbaa
open Go.RowKit Go.Shelf

theorem own_len {w : World} {b k n : Nat} {e : TypeId} {v : Value} {xs : List Value} (h : w.ownsRow b e k v n xs) : ∃ p c, v = .slice p n c := by
  rcases h.2 with ⟨rfl, h0⟩ | ⟨g, cap, cur, rfl, _⟩
  · subst h0; exact ⟨_, _, rfl⟩
  · exact ⟨_, _, rfl⟩
theorem take_snoc {α : Type} (l : List α) (x : α) (n m : Nat) (hm : (l.take n).length = m) : (m < n → (l ++ [x]).take n = l.take n ++ [x]) ∧ (¬ m < n → (l ++ [x]).take n = l.take n) := by
  rw [List.length_take] at hm
  refine ⟨fun h => ?_, fun h => ?_⟩
  · rw [List.take_of_length_le (by rw [List.length_append, List.length_singleton]; omega), List.take_of_length_le (by omega)]
  · rw [List.take_append_of_le_length (by omega)]
theorem of_take {es : List (Sum Hp Ft)} {k : Nat} {z : Sum Hp Ft} (hz : es[k]? = some z) : hapsOf (es.take (k + 1)) = hapsOf (es.take k) ++ hapsOf [z] ∧ faultsOf (es.take (k + 1)) = faultsOf (es.take k) ++ faultsOf [z] := by
  rw [List.take_add_one, hz]
  exact ⟨List.filterMap_append .., List.filterMap_append ..⟩
theorem hap_round {es : List (Sum Hp Ft)} {k m : Nat} {h : Hp} (hz : es[k]? = some (.inl h)) (hm : ((hapsOf (es.take k)).take 64).length = m) :
    (m < 64 → (hapsOf (es.take (k + 1))).take 64 = (hapsOf (es.take k)).take 64 ++ [h]) ∧ (¬ m < 64 → (hapsOf (es.take (k + 1))).take 64 = (hapsOf (es.take k)).take 64) ∧ (faultsOf (es.take (k + 1))).take 64 = (faultsOf (es.take k)).take 64 := by
  obtain ⟨e1, e2⟩ := of_take hz
  have t := take_snoc (hapsOf (es.take k)) h 64 m hm
  rw [e1, e2]
  exact ⟨t.1, t.2, by rw [show faultsOf [Sum.inl h] = [] from rfl, List.append_nil]⟩
theorem ft_round {es : List (Sum Hp Ft)} {k m : Nat} {f : Ft} (hz : es[k]? = some (.inr f)) (hm : ((faultsOf (es.take k)).take 64).length = m) :
    (m < 64 → (faultsOf (es.take (k + 1))).take 64 = (faultsOf (es.take k)).take 64 ++ [f]) ∧ (¬ m < 64 → (faultsOf (es.take (k + 1))).take 64 = (faultsOf (es.take k)).take 64) ∧ (hapsOf (es.take (k + 1))).take 64 = (hapsOf (es.take k)).take 64 := by
  obtain ⟨e1, e2⟩ := of_take hz
  have t := take_snoc (faultsOf (es.take k)) f 64 m hm
  rw [e1, e2]
  exact ⟨t.1, t.2, by rw [show hapsOf [Sum.inr f] = [] from rfl, List.append_nil]⟩
/-- Once full, more does not matter. -/
theorem full_take (es : List (Sum Hp Ft)) (k : Nat) (h1 : ((hapsOf (es.take k)).take 64).length = 64) (h2 : ((faultsOf (es.take k)).take 64).length = 64) : (hapsOf (es.take k)).take 64 = (hapsOf es).take 64 ∧ (faultsOf (es.take k)).take 64 = (faultsOf es).take 64 := by
  have e1 : hapsOf es = hapsOf (es.take k) ++ hapsOf (es.drop k) := by unfold hapsOf; rw [← List.filterMap_append, List.take_append_drop]
  have e2 : faultsOf es = faultsOf (es.take k) ++ faultsOf (es.drop k) := by unfold faultsOf; rw [← List.filterMap_append, List.take_append_drop]
  rw [List.length_take] at h1 h2
  rw [e1, e2]
  exact ⟨(List.take_append_of_le_length (by omega)).symm, (List.take_append_of_le_length (by omega)).symm⟩

/-- The script at B with k entries told; G' are its blocks G, the answer's box B4, and all that was there before. -/
structure BodS (w0 A : World) (B4 B : Nat) (rs : List (Int × Int)) (os ds : List Int) (es : List (Sum Hp Ft)) (k : Nat) (G' G : Nat → Prop) (V : Vs) (s : ScA) : Prop where
  iff : ∀ i, G' i ↔ (G i ∨ i = B4 ∨ i < w0.heap.size)
  n4 : ¬ G B4
  l4 : w0.heap.size ≤ B4
  lo : ∀ i, G i → w0.heap.size ≤ i
  sb : SB A G w0.heap.size B V s
  b4 : Whole A B4 29 ScV.zero.cells
  bel : Below w0.heap.size w0 A
  er : s.rates = rs
  eo : s.on = os
  ed : s.delays = ds
  eh : s.haps.map HpA.hp = (hapsOf (es.take k)).take 64
  ef : s.faults = (faultsOf (es.take k)).take 64
def Bod (w0 : World) (B4 B : Nat) (rs : List (Int × Int)) (os ds : List Int) (es : List (Sum Hp Ft)) (k : Nat) (G' : Nat → Prop) (A : World) : Prop := ∃ G V s, BodS w0 A B4 B rs os ds es k G' G V s
section
variable {w0 A A' : World} {B4 B : Nat} {rs : List (Int × Int)} {os ds : List Int} {es : List (Sum Hp Ft)} {k : Nat} {G' G : Nat → Prop} {V : Vs} {s : ScA}
theorem BodS.kept (h : BodS w0 A B4 B rs os ds es k G' G V s) (hk : Kept (fun i => ¬ G' i) A A') : BodS w0 A' B4 B rs os ds es k G' G V s :=
  ⟨h.iff, h.n4, h.l4, h.lo, h.sb.same (hk.mono fun i hn hg => hn ((h.iff i).2 (.inl hg))), h.b4.kept hk (fun hn => hn ((h.iff _).2 (.inr (.inl rfl)))),
    ((Kept.of_below h.bel Empty).trans (hk.mono (T := fun i => w0.heap.size ≤ i) fun i hn => by rcases Nat.lt_or_ge i w0.heap.size with h' | h'; exact absurd ((h.iff i).2 (.inr (.inr h'))) hn; exact h') (T := fun i => w0.heap.size ≤ i) (fun i hi hn => by have hn : w0.heap.size ≤ i := hn; omega)).below (fun _ _ h => h), h.er, h.eo, h.ed, h.eh, h.ef⟩
theorem BodS.lens (h : BodS w0 A B4 B rs os ds es k G' G V s) : ((hapsOf (es.take k)).take 64).length = s.haps.length ∧ ((faultsOf (es.take k)).take 64).length = s.faults.length := by
  rw [← h.eh, ← h.ef, List.length_map]
  exact ⟨rfl, rfl⟩
theorem BodS.stay (h : BodS w0 A B4 B rs os ds es k G' G V s) (e1 : (hapsOf (es.take (k + 1))).take 64 = (hapsOf (es.take k)).take 64) (e2 : (faultsOf (es.take (k + 1))).take 64 = (faultsOf (es.take k)).take 64) : BodS w0 A B4 B rs os ds es (k + 1) G' G V s :=
  ⟨h.iff, h.n4, h.l4, h.lo, h.sb, h.b4, h.bel, h.er, h.eo, h.ed, h.eh.trans e1.symm, h.ef.trans e2.symm⟩

theorem BodS.add3 {A1 A2 : World} {v' : Value} {F : Nat → Prop} {D : Nat} (y : HpA) (h : BodS w0 A B4 B rs os ds es k G' G V s) (hb : Below A.heap.size A A1) (h1 : A2.ownsRow w0.heap.size 47 4 v' (s.haps.length + 1) (s.haps.flatMap hapC ++ hapC y)) (h2 : A1.grownBy A2 V.v3.ownBlock) (h3 : v'.ownBlock = V.v3.ownBlock ∨ v'.ownBlock = some A1.heap.size)
    (hp : PlAt A y) (hy : ∀ ad, y.A = some ad → ¬ F ad.block ∧ ad.block < A.heap.size ∧ UB A ad.block ∧ w0.heap.size ≤ ad.block)
    (hG : ∀ i, G' i → i < A.heap.size ∧ ¬ F i ∧ i ≠ D ∧ i ≠ D + 1) (hF : ∀ i, F i → i < A.heap.size) (hD : D + 2 ≤ A.heap.size) (hT : ∀ i, (i = D ∨ i = D + 1) → ∀ cs t p, A.heap[i]? ≠ some (.cells cs t p))
    (e1 : (hapsOf (es.take (k + 1))).take 64 = (hapsOf (es.take k)).take 64 ++ [y.hp]) (e2 : (faultsOf (es.take (k + 1))).take 64 = (faultsOf (es.take k)).take 64) :
    ∃ G'', Kept G' A (A2.setCell ⟨B, 3, none⟩ v') ∧ (∀ i, G'' i → i < (A2.setCell ⟨B, 3, none⟩ v').heap.size ∧ ¬ F i ∧ i ≠ D ∧ i ≠ D + 1) ∧ ∃ G V s, BodS w0 (A2.setCell ⟨B, 3, none⟩ v') B4 B rs os ds es (k + 1) G'' G V s := by
  have z0 := h.bel.size
  have z1 := hb.size
  have z2 := h2.size
  have z3 : (A2.setCell ⟨B, 3, none⟩ v').heap.size = A2.heap.size := by simp [World.setCell]
  have l4 := h.b4.lt
  have kg : Kept (fun j => some j = V.v3.ownBlock) A A2 := (Kept.of_below hb _).grown h2 (fun j hj => .inl hj.symm)
  have d1 : ∀ ad, y.A = some ad → some ad.block ≠ V.v3.ownBlock := fun ad e e3 => by
    obtain ⟨_, c1, p1⟩ := own_typed h.sb.r3 e3.symm
    obtain ⟨c2, p2⟩ := (hy ad e).2.2.1
    exact typed_apart p2 p1 (by decide) rfl
  obtain ⟨hs, hk⟩ := h.sb.add3 y (F := F) hb h1 h2 h3 ⟨hp.kept kg (fun ad e => d1 ad e), fun ad e => ⟨by have := (hy ad e).2.1; omega, (hy ad e).1, (hy ad e).2.2.1.kept kg (d1 ad e), fun e3 => by
      obtain ⟨c2, p2⟩ := (hy ad e).2.2.1
      exact typed_apart p2 (show A.heap[ad.block]? = _ from e3 ▸ h.sb.box) (by decide) rfl, fun e3 => by
      obtain ⟨_, c1, p1⟩ := own_typed h1 e3.symm
      obtain ⟨c2, p2⟩ := (hy ad e).2.2.1.kept kg (d1 ad e)
      exact typed_apart p2 p1 (by decide) rfl⟩⟩
  have hcase : ∀ i, ((G i ∨ (i < A2.heap.size ∧ A1.heap.size ≤ i)) ∨ ∃ ad, y.A = some ad ∧ i = ad.block) → G' i ∨ (A1.heap.size ≤ i ∧ i < A2.heap.size) ∨ ∃ ad, y.A = some ad ∧ i = ad.block := fun i hi => by
    rcases hi with (hi | hi) | hi
    · exact .inl ((h.iff i).2 (.inl hi))
    · exact .inr (.inl ⟨hi.2, hi.1⟩)
    · exact .inr (.inr hi)
  refine ⟨fun i => ((G i ∨ (i < A2.heap.size ∧ A1.heap.size ≤ i)) ∨ ∃ ad, y.A = some ad ∧ i = ad.block) ∨ i = B4 ∨ i < w0.heap.size, hk.mono (fun i hi => (h.iff i).2 (.inl hi)), fun i hi => ?_, _, _, _, ⟨fun i => Iff.rfl, fun hi => ?_, h.l4, fun i hi => ?_, hs, h.b4.kept hk h.n4, ?_, h.er, h.eo, h.ed, ?_, ?_⟩⟩
  · have hi : G' i ∨ (A1.heap.size ≤ i ∧ i < A2.heap.size) ∨ ∃ ad, y.A = some ad ∧ i = ad.block := by
      rcases hi with hi | hi
      · exact hcase i hi
      · exact .inl ((h.iff i).2 (.inr hi))
    rcases hi with hi | hi | ⟨ad, e, rfl⟩
    · have := hG i hi
      exact ⟨by omega, this.2⟩
    · exact ⟨by omega, fun hf => by have := hF i hf; omega, by omega, by omega⟩
    · obtain ⟨c2, p2⟩ := (hy ad e).2.2.1
      exact ⟨by have := (hy ad e).2.1; omega, (hy ad e).1, fun e3 => hT _ (.inl e3) _ _ _ p2, fun e3 => hT _ (.inr e3) _ _ _ p2⟩
  · rcases hi with (hi | hi) | ⟨ad, e, hi⟩
    · exact h.n4 hi
    · omega
    · obtain ⟨c2, p2⟩ := (hy ad e).2.2.1
      exact typed_apart p2 (show A.heap[ad.block]? = _ from hi ▸ h.b4) (by decide) rfl
  · rcases hi with (hi | hi) | ⟨ad, e, rfl⟩
    · exact h.lo i hi
    · omega
    · exact (hy ad e).2.2.2
  · exact ((Kept.of_below h.bel Empty).trans (hk.mono fun i hs => h.lo i hs) (T := fun i => w0.heap.size ≤ i) (fun i hi hn => by have hn : w0.heap.size ≤ i := hn; omega)).below (fun _ _ h => h)
  · show (s.haps ++ [y]).map HpA.hp = _
    rw [List.map_append, List.map_singleton, h.eh, e1]
  · rw [e2]; exact h.ef
theorem BodS.add4 {A1 A2 : World} {v' : Value} {F : Nat → Prop} {D : Nat} (y : Ft) (h : BodS w0 A B4 B rs os ds es k G' G V s) (hb : Below A.heap.size A A1) (h1 : A2.ownsRow w0.heap.size 54 5 v' (s.faults.length + 1) (s.faults.flatMap ftC ++ ftC y)) (h2 : A1.grownBy A2 V.v4.ownBlock) (h3 : v'.ownBlock = V.v4.ownBlock ∨ v'.ownBlock = some A1.heap.size)
    (hG : ∀ i, G' i → i < A.heap.size ∧ ¬ F i ∧ i ≠ D ∧ i ≠ D + 1) (hF : ∀ i, F i → i < A.heap.size) (hD : D + 2 ≤ A.heap.size)
    (e1 : (hapsOf (es.take (k + 1))).take 64 = (hapsOf (es.take k)).take 64) (e2 : (faultsOf (es.take (k + 1))).take 64 = (faultsOf (es.take k)).take 64 ++ [y]) :
    ∃ G'', Kept G' A (A2.setCell ⟨B, 4, none⟩ v') ∧ (∀ i, G'' i → i < (A2.setCell ⟨B, 4, none⟩ v').heap.size ∧ ¬ F i ∧ i ≠ D ∧ i ≠ D + 1) ∧ ∃ G V s, BodS w0 (A2.setCell ⟨B, 4, none⟩ v') B4 B rs os ds es (k + 1) G'' G V s := by
  have z0 := h.bel.size
  have z1 := hb.size
  have z2 := h2.size
  have z3 : (A2.setCell ⟨B, 4, none⟩ v').heap.size = A2.heap.size := by simp [World.setCell]
  have l4 := h.b4.lt
  obtain ⟨hs, hk⟩ := h.sb.add4 y hb h1 h2 h3
  refine ⟨fun i => (G i ∨ (i < A2.heap.size ∧ A1.heap.size ≤ i)) ∨ i = B4 ∨ i < w0.heap.size, hk.mono (fun i hi => (h.iff i).2 (.inl hi)), fun i hi => ?_, _, _, _, ⟨fun i => Iff.rfl, fun hi => ?_, h.l4, fun i hi => ?_, hs, h.b4.kept hk h.n4, ?_, h.er, h.eo, h.ed, ?_, ?_⟩⟩
  · have hi : G' i ∨ (A1.heap.size ≤ i ∧ i < A2.heap.size) := by
      rcases hi with (hi | hi) | hi
      · exact .inl ((h.iff i).2 (.inl hi))
      · exact .inr ⟨hi.2, hi.1⟩
      · exact .inl ((h.iff i).2 (.inr hi))
    rcases hi with hi | hi
    · have := hG i hi
      exact ⟨by omega, this.2⟩
    · exact ⟨by omega, fun hf => by have := hF i hf; omega, by omega, by omega⟩
  · rcases hi with hi | hi
    · exact h.n4 hi
    · omega
  · rcases hi with hi | hi
    · exact h.lo i hi
    · omega
  · exact ((Kept.of_below h.bel Empty).trans (hk.mono fun i hs => h.lo i hs) (T := fun i => w0.heap.size ≤ i) (fun i hi hn => by have hn : w0.heap.size ≤ i := hn; omega)).below (fun _ _ h => h)
  · rw [e1]; exact h.eh
  · show s.faults ++ [y] = _
    rw [h.ef, e2]
end
/-- What the range starts from. -/
theorem DS.start {w0 W W' : World} {S : Nat → Prop} {r : Nat} {l : List UInt8} {bF g B4 : Nat} {x : Pl} {G : Nat → Prop} {B : Nat} {V : Vs} {rs : List (Int × Int)} {os ds : List Int} (es : List (Sum Hp Ft)) (h : DS w0 W S r l bF g B4 x G B V ⟨rs, os, ds, [], []⟩) (hg : w0.heap.size ≤ g) (h4 : w0.heap.size ≤ B4)
    (hW : W' = (W.alloc (.cells #[.pointer (some ⟨r, 0, none⟩)] 85)).alloc (.cells #[.pointer (some ⟨g, 0, none⟩)] 77)) :
    RdW W' S W' S r l [(W.heap.size, 85, #[.pointer (some ⟨r, 0, none⟩)]), (W.heap.size + 1, 77, #[.pointer (some ⟨g, 0, none⟩)]), (g, 80, spansC x)] ∧
      (∀ i, entF S W.heap.size W.heap.size (W.heap.size + 1) g i → i < W'.heap.size) ∧ (∀ i, (G i ∨ i = B4 ∨ i < w0.heap.size) → i < W'.heap.size ∧ ¬ entF S W.heap.size W.heap.size (W.heap.size + 1) g i) ∧
      BodS w0 W' B4 B rs os ds es 0 (fun i => G i ∨ i = B4 ∨ i < w0.heap.size) G V ⟨rs, os, ds, [], []⟩ ∧ w0.heap.size ≤ W'.heap.size := by
  have hb : Below W.heap.size W W' := by rw [hW]; exact ((Below.refl _ _).alloc (Nat.le_refl _) _).alloc (by simp) _
  have hz : W'.heap.size = W.heap.size + 2 := by rw [hW]; simp
  have hz0 := h.kept.size
  have hgW := h.rd.held (g, 80, spansC x) (by simp)
  have h4W := h.rd.held (B4, 29, ScV.zero.cells) (by simp)
  have lg := hgW.1.lt
  have l4 := h4W.1.lt
  simp only at lg l4
  have nd := h.rd.nodup
  simp only [List.map_cons, List.map_nil, List.nodup_cons, List.mem_cons, List.not_mem_nil, or_false, not_or, not_false_eq_true, List.nodup_nil, and_true] at nd
  have hB1 : Whole W' W.heap.size 85 #[.pointer (some ⟨r, 0, none⟩)] := by rw [hW]; exact (Whole.new W _ _).alloc _
  have hB2 : Whole W' (W.heap.size + 1) 77 #[.pointer (some ⟨g, 0, none⟩)] := by
    rw [hW]
    have := Whole.new (W.alloc (.cells #[.pointer (some ⟨r, 0, none⟩)] 85)) 77 #[.pointer (some ⟨g, 0, none⟩)]
    simp only [World.size_alloc] at this
    exact this
  refine ⟨⟨h.rd.rd.later hb, fun y hy => ?_, ?_, Kept.refl _ _, fun _ h => .inl h⟩, fun i hi => ?_, fun i hi => ?_, ⟨fun _ => Iff.rfl, fun hg' => (h.far _ hg').2.2.2.2 rfl, h4, h.new.2, h.sb.same (Kept.of_below hb _), k_later hb h4W.1, k_then hb h.kept, rfl, rfl, rfl, by simp [hapsOf], by simp [faultsOf]⟩, by omega⟩
  · simp only [List.mem_cons, List.not_mem_nil, or_false] at hy
    rcases hy with rfl | rfl | rfl
    · exact ⟨hB1, fun hs => by have := h.rd.rd.lt _ hs; simp only at this; omega⟩
    · exact ⟨hB2, fun hs => by have := h.rd.rd.lt _ hs; simp only at this; omega⟩
    · exact ⟨k_later hb hgW.1, hgW.2⟩
  · simp only [List.map_cons, List.map_nil, List.nodup_cons, List.mem_cons, List.not_mem_nil, or_false, not_or, not_false_eq_true, List.nodup_nil, and_true]
    omega
  · rcases hi with hi | rfl | rfl | rfl | rfl
    · have := h.rd.rd.lt i hi; omega
    all_goals omega
  · rcases hi with hi | rfl | hi
    · have h1 := h.far i hi
      refine ⟨by omega, fun hf => ?_⟩
      rcases hf with a | a | a | a | a
      · exact h1.2.1 a
      · omega
      · omega
      · omega
      · exact h1.2.2.2.1 a
    · refine ⟨by omega, fun hf => ?_⟩
      rcases hf with a | a | a | a | a
      · exact h4W.2 a
      all_goals omega
    · refine ⟨by omega, fun hf => ?_⟩
      rcases hf with a | a | a | a | a
      · have := h.new.1 i a; omega
      all_goals omega
theorem act_named {P : Program} {n : Nat} {Q : Exit → Act → World → Prop} {w : World} {c : Code} {a : Act} (h : ∀ T, T = a.tmps → c.wpIn Fence.wide n P Q a w) : c.wpIn Fence.wide n P Q a w := h _ rfl
/-- The entry's own block, at a round. -/
def AxE (N D : Nat) (es : List (Sum Hp Ft)) (T : Array Value) (k : Nat) (F : Nat → Prop) (a2 : Act) (A : World) : Prop :=
  ∃ y z E, es[k - 1]? = some z ∧ EntAt N A F y z ∧ Whole A E 96 (entC y) ∧ D + 2 ≤ E ∧ (∀ h, y = .inl h → ∀ ad, h.A = some ad → ad.block ≠ D + 1) ∧ a2 = { tmps := (T.setIfInBounds 81 (.agg (entC y))).setIfInBounds 10 (.pointer (some ⟨E, 0, none⟩)), defers := [] }
theorem EntAt.kept {N : Nat} {A A' : World} {F S : Nat → Prop} {y : Sum HpA Ft} {z : Sum Hp Ft} (h : EntAt N A F y z) (hk : Kept S A A') (hS : ∀ h, y = .inl h → ∀ ad, h.A = some ad → ¬ S ad.block) : EntAt N A' F y z := by
  have hz := hk.size
  cases y with
  | inl y => cases z with
    | inl z => exact ⟨h.1, h.2.1, h.2.2.1.kept hk (hS y rfl), fun ad e => ⟨(h.2.2.2 ad e).1, by have := (h.2.2.2 ad e).2.1; omega, (h.2.2.2 ad e).2.2.1.kept hk (hS y rfl ad e), (h.2.2.2 ad e).2.2.2⟩⟩
    | inr z => exact h.elim
  | inr y => cases z with
    | inl z => exact h.elim
    | inr z => exact h
theorem BodS.fin {w0 W W2 : World} {B4 B D : Nat} {rs : List (Int × Int)} {os ds : List Int} {es : List (Sum Hp Ft)} {k : Nat} {G' G : Nat → Prop} {V : Vs} {s : ScA} {sc : Sc} (h : BodS w0 W B4 B rs os ds es k G' G V s) (hk : Kept (fun i => i = B4 ∨ i = D) W W2) (hD : ∀ i, G' i → i ≠ D) (hD0 : w0.heap.size ≤ D)
    (hc : (hapsOf (es.take k)).take 64 = (hapsOf es).take 64 ∧ (faultsOf (es.take k)).take 64 = (faultsOf es).take 64) (hsc : (⟨rs, os, ds, (hapsOf es).take 64, (faultsOf es).take 64⟩ : Sc) = sc) :
    ∃ s G B, SB W2 G w0.heap.size B V s ∧ (∀ i, G i → w0.heap.size ≤ i) ∧ s.sc = sc ∧ Below w0.heap.size w0 W2 := by
  refine ⟨s, G, B, h.sb.same (hk.mono ?_), h.lo, ?_, ?_⟩
  · rintro i (rfl | rfl) hg
    · exact h.n4 hg
    · exact hD _ ((h.iff _).2 (.inl hg)) rfl
  · rw [← hsc, ← hc.1, ← hc.2, ← h.eh, ← h.ef, ← h.er, ← h.eo, ← h.ed]
    rfl
  · have l4 := h.l4
    exact ((Kept.of_below h.bel Empty).trans (hk.mono (T := fun i => w0.heap.size ≤ i) fun i hn => by rcases hn with rfl | rfl <;> omega) (T := fun i => w0.heap.size ≤ i) (fun i hi hn => by have hn : w0.heap.size ≤ i := hn; omega)).below (fun _ _ h => h)
theorem EntAt.apart {N D : Nat} {A : World} {F : Nat → Prop} {y : Sum HpA Ft} {z : Sum Hp Ft} (h : EntAt N A F y z) (hT : ∀ i, (i = D ∨ i = D + 1) → ∀ cs t p, A.heap[i]? ≠ some (.cells cs t p)) : ∀ h, y = .inl h → ∀ ad, h.A = some ad → ad.block ≠ D + 1 := by
  rintro y' rfl ad ea e2
  cases z with
  | inl z =>
    obtain ⟨cur, hc⟩ := (h.2.2.2 ad ea).2.2.1
    exact hT _ (.inr e2) _ _ _ hc
  | inr z => exact h.elim
theorem AxE.kept {N D : Nat} {es : List (Sum Hp Ft)} {T : Array Value} {k : Nat} {F : Nat → Prop} {a2 : Act} {A A' : World} (h : AxE N D es T k F a2 A) (hk : Kept (fun i => i = D + 1) A A') : AxE N D es T k F a2 A' := by
  obtain ⟨y, z, E, h1, h2, h3, h4, h5, h6⟩ := h
  exact ⟨y, z, E, h1, h2.kept hk (fun h e ad ea e2 => h5 h e ad ea e2), h3.kept hk (fun e => by have e : E = D + 1 := e; omega), h4, h5, h6⟩
end Go.Proofs.Ytljcaigaofalbaa

namespace Go.Proofs.Ytljcaigaofalbaa
open Go.RowKit Go.Shelf

theorem rsrc_news {α : Type} {cells : α → List Value} {k : Nat} {w : World} {s : Sl} {xs : List α} (hc : ∀ a, (cells a).length = k) (hk : 0 < k) (h : RSrc cells k w s xs) {ad : Addr} (hA : s.A = some ad) :
    ∀ j u, (xs.flatMap cells)[j]? = some u → w.cell? (ad.add j) = some u := by
  intro j u hj
  have hlt : j < xs.length * k := by
    have := (List.getElem?_eq_some_iff.1 hj).1
    rwa [flat_len hc] at this
  have hi : j / k < xs.length := (Nat.div_lt_iff_lt_mul hk).2 hlt
  have hr : j % k < k := Nat.mod_lt _ hk
  have e : j / k * k + j % k = j := Nat.div_add_mod' j k
  have hx : xs[j / k]? = some xs[j / k] := List.getElem?_eq_getElem hi
  obtain ⟨g, o, hg, hcells⟩ := h.spot hx
  rw [hA] at hg
  cases hg
  rw [plain_add]
  have h2 := flat_get hc xs (j / k) _ (j % k) hx hr
  rw [e, hj] at h2
  have := hcells (j % k) u h2.symm
  rwa [Nat.add_assoc, e] at this
theorem flat_one {α : Type} {cells : α → List Value} (h1 : ∀ a, ∀ u ∈ cells a, u.oneCell' = true) : ∀ xs : List α, ∀ u ∈ xs.flatMap cells, u.oneCell' = true := by
  intro xs u hu
  obtain ⟨a, _, ha⟩ := List.mem_flatMap.1 hu
  exact h1 a u ha
theorem c1_rate (y : Int × Int) : ∀ u ∈ rateC y, u.oneCell' = true := by intro u hu; simp only [rateC, List.mem_cons, List.not_mem_nil, or_false] at hu; rcases hu with rfl | rfl <;> rfl
theorem c1_int (y : Int) : ∀ u ∈ numC y, u.oneCell' = true := by intro u hu; simp only [numC, List.mem_cons, List.not_mem_nil, or_false] at hu; rcases hu with rfl; rfl
theorem c1_hap (y : HpA) : ∀ u ∈ hapC y, u.oneCell' = true := by intro u hu; simp only [hapC, List.mem_cons, List.not_mem_nil, or_false] at hu; rcases hu with rfl | rfl | rfl | rfl <;> rfl
theorem c1_ft (y : Ft) : ∀ u ∈ ftC y, u.oneCell' = true := by intro u hu; simp only [ftC, List.mem_cons, List.not_mem_nil, or_false] at hu; rcases hu with rfl | rfl | rfl | rfl | rfl <;> rfl
theorem i_rate : (Try.prog.info? 52).map (fun i => (i.zero, i.size, i.bytes)) = some (some (.agg #[.int .i64 0, .int .i64 0]), 2, 16) := by kernel_rfl
theorem i_int : (Try.prog.info? 2).map (fun i => (i.zero, i.size, i.bytes)) = some (some (.int .i64 0), 1, 8) := by kernel_rfl
theorem i_hap : (Try.prog.info? 47).map (fun i => (i.zero, i.size, i.bytes)) = some (some (.agg #[.int .i64 0, .int .i64 0, .int .i64 0, .slice none 0 0]), 4, 48) := by kernel_rfl
theorem i_ft : (Try.prog.info? 54).map (fun i => (i.zero, i.size, i.bytes)) = some (some (.agg #[.int .i64 0, .int .i64 0, .int .i64 0, .int .i64 0, .bool false]), 5, 40) := by kernel_rfl

set_option maxRecDepth 100000 in
set_option maxHeartbeats 1000000 in
theorem clone_rate (w : World) (s : Sl) (xs : List (Int × Int)) (h : RSrc rateC 2 w s xs) (hm : s.n ≤ 1000000) :
    Calls Try.prog 72 #[s.v] w fun e w' => ∃ v, e = .returned v ∧ w'.ownsRow w.heap.size 52 2 v xs.length (xs.flatMap rateC) ∧ Below w.heap.size w w' := by
  obtain ⟨i0, hi, hz0, hz1, hz2⟩ := info_parts i_rate
  have hl := h.len
  have hlf := flat_len (cells := rateC) (k := 2) (fun _ => rfl) xs
  have hnw := fun ad (hA : s.A = some ad) => rsrc_news (cells := rateC) (fun _ => rfl) (by decide) h hA
  have hone := flat_one c1_rate xs
  have hno := h.no
  have hcap := h.cap
  obtain ⟨A, n, c⟩ := s
  unfold Sl.v
  dsimp only at *
  clear h
  rw [hl] at hlf ⊢
  cases A with
  | none =>
    obtain rfl := hno rfl
    obtain rfl : n = 0 := by omega
    obtain rfl : xs = [] := List.eq_nil_of_length_eq_zero hl
    have hq := fun (W : World) => Lib.run_eql_slice_nil (P := Try.prog) W 24 52 none 0 0 0 0 Try.underlying24
    clear hnw hone hlf
    go_enter Try.func72, Try.ntmps72
    go_wp2
    go_ret
    exact ⟨_, rfl, World.ownsRow_nil _ _ _ _, Below.refl _ _⟩
  | some ad =>
    have hq := fun (W : World) => Lib.run_eql_slice_nil (P := Try.prog) W 24 52 (some ad) n c 0 0 Try.underlying24
    have hnw2 := hnw ad rfl
    clear hnw
    generalize xs.flatMap rateC = news at *
    have hb : Below w.heap.size w (w.alloc (.cells #[] 52)) := (Below.refl _ _).alloc (Nat.le_refl _) _
    have HN := Lib.hid (fun j u hj => k_cell hb (hnw2 j u hj))
    have HB := Lib.hid hb
    have HO := Lib.hid (And.intro hone hlf)
    clear hnw2 hb hone hlf hl hno hcap
    go_enter Try.func72, Try.ntmps72
    go_wp2_with (at_builtin; refine wpList_append_own _ rfl (.tmp 5) (.tmp 6) 24 rfl w.heap.size 52 i0 (.agg #[.int .i64 0, .int .i64 0]) 2 16 Try.underlying24 hi hz0 hz1 hz2 rfl (by decide) (.slice (some ⟨w.heap.size, 0, none⟩) 0 0) 0 [] rfl (World.ownsRow_made w #[] 0 (Nat.le_refl _) (by simp [maxLen]) rfl) ad n c news rfl HO.out.2 HN.out HO.out.1 (by simp only [maxLen]; omega) (by omega) (by simp) ?_; intro v w1 h1 h2 h3)
    go_ret
    refine ⟨v, rfl, by simpa using h1, HB.out.grown h2 (by simp) (fun k hk => ?_)⟩
    simp [Value.ownBlock] at hk
    omega

set_option maxRecDepth 100000 in
set_option maxHeartbeats 1000000 in
theorem clone_int (w : World) (s : Sl) (xs : List (Int)) (h : RSrc numC 1 w s xs) (hm : s.n ≤ 1000000) :
    Calls Try.prog 73 #[s.v] w fun e w' => ∃ v, e = .returned v ∧ w'.ownsRow w.heap.size 2 1 v xs.length (xs.flatMap numC) ∧ Below w.heap.size w w' := by
  obtain ⟨i0, hi, hz0, hz1, hz2⟩ := info_parts i_int
  have hl := h.len
  have hlf := flat_len (cells := numC) (k := 1) (fun _ => rfl) xs
  have hnw := fun ad (hA : s.A = some ad) => rsrc_news (cells := numC) (fun _ => rfl) (by decide) h hA
  have hone := flat_one c1_int xs
  have hno := h.no
  have hcap := h.cap
  obtain ⟨A, n, c⟩ := s
  unfold Sl.v
  dsimp only at *
  clear h
  rw [hl] at hlf ⊢
  cases A with
  | none =>
    obtain rfl := hno rfl
    obtain rfl : n = 0 := by omega
    obtain rfl : xs = [] := List.eq_nil_of_length_eq_zero hl
    have hq := fun (W : World) => Lib.run_eql_slice_nil (P := Try.prog) W 25 2 none 0 0 0 0 Try.underlying25
    clear hnw hone hlf
    go_enter Try.func73, Try.ntmps73
    go_wp2
    go_ret
    exact ⟨_, rfl, World.ownsRow_nil _ _ _ _, Below.refl _ _⟩
  | some ad =>
    have hq := fun (W : World) => Lib.run_eql_slice_nil (P := Try.prog) W 25 2 (some ad) n c 0 0 Try.underlying25
    have hnw2 := hnw ad rfl
    clear hnw
    generalize xs.flatMap numC = news at *
    have hb : Below w.heap.size w (w.alloc (.cells #[] 2)) := (Below.refl _ _).alloc (Nat.le_refl _) _
    have HN := Lib.hid (fun j u hj => k_cell hb (hnw2 j u hj))
    have HB := Lib.hid hb
    have HO := Lib.hid (And.intro hone hlf)
    clear hnw2 hb hone hlf hl hno hcap
    go_enter Try.func73, Try.ntmps73
    go_wp2_with (at_builtin; refine wpList_append_own _ rfl (.tmp 5) (.tmp 6) 25 rfl w.heap.size 2 i0 (.int .i64 0) 1 8 Try.underlying25 hi hz0 hz1 hz2 rfl (by decide) (.slice (some ⟨w.heap.size, 0, none⟩) 0 0) 0 [] rfl (World.ownsRow_made w #[] 0 (Nat.le_refl _) (by simp [maxLen]) rfl) ad n c news rfl HO.out.2 HN.out HO.out.1 (by simp only [maxLen]; omega) (by omega) (by simp) ?_; intro v w1 h1 h2 h3)
    go_ret
    refine ⟨v, rfl, by simpa using h1, HB.out.grown h2 (by simp) (fun k hk => ?_)⟩
    simp [Value.ownBlock] at hk
    omega

set_option maxRecDepth 100000 in
set_option maxHeartbeats 1000000 in
theorem clone_hap (w : World) (s : Sl) (xs : List (HpA)) (h : RSrc hapC 4 w s xs) (hm : s.n ≤ 1000000) :
    Calls Try.prog 74 #[s.v] w fun e w' => ∃ v, e = .returned v ∧ w'.ownsRow w.heap.size 47 4 v xs.length (xs.flatMap hapC) ∧ Below w.heap.size w w' := by
  obtain ⟨i0, hi, hz0, hz1, hz2⟩ := info_parts i_hap
  have hl := h.len
  have hlf := flat_len (cells := hapC) (k := 4) (fun _ => rfl) xs
  have hnw := fun ad (hA : s.A = some ad) => rsrc_news (cells := hapC) (fun _ => rfl) (by decide) h hA
  have hone := flat_one c1_hap xs
  have hno := h.no
  have hcap := h.cap
  obtain ⟨A, n, c⟩ := s
  unfold Sl.v
  dsimp only at *
  clear h
  rw [hl] at hlf ⊢
  cases A with
  | none =>
    obtain rfl := hno rfl
    obtain rfl : n = 0 := by omega
    obtain rfl : xs = [] := List.eq_nil_of_length_eq_zero hl
    have hq := fun (W : World) => Lib.run_eql_slice_nil (P := Try.prog) W 26 47 none 0 0 0 0 Try.underlying26
    clear hnw hone hlf
    go_enter Try.func74, Try.ntmps74
    go_wp2
    go_ret
    exact ⟨_, rfl, World.ownsRow_nil _ _ _ _, Below.refl _ _⟩
  | some ad =>
    have hq := fun (W : World) => Lib.run_eql_slice_nil (P := Try.prog) W 26 47 (some ad) n c 0 0 Try.underlying26
    have hnw2 := hnw ad rfl
    clear hnw
    generalize xs.flatMap hapC = news at *
    have hb : Below w.heap.size w (w.alloc (.cells #[] 47)) := (Below.refl _ _).alloc (Nat.le_refl _) _
    have HN := Lib.hid (fun j u hj => k_cell hb (hnw2 j u hj))
    have HB := Lib.hid hb
    have HO := Lib.hid (And.intro hone hlf)
    clear hnw2 hb hone hlf hl hno hcap
    go_enter Try.func74, Try.ntmps74
    go_wp2_with (at_builtin; refine wpList_append_own _ rfl (.tmp 5) (.tmp 6) 26 rfl w.heap.size 47 i0 (.agg #[.int .i64 0, .int .i64 0, .int .i64 0, .slice none 0 0]) 4 48 Try.underlying26 hi hz0 hz1 hz2 rfl (by decide) (.slice (some ⟨w.heap.size, 0, none⟩) 0 0) 0 [] rfl (World.ownsRow_made w #[] 0 (Nat.le_refl _) (by simp [maxLen]) rfl) ad n c news rfl HO.out.2 HN.out HO.out.1 (by simp only [maxLen]; omega) (by omega) (by simp) ?_; intro v w1 h1 h2 h3)
    go_ret
    refine ⟨v, rfl, by simpa using h1, HB.out.grown h2 (by simp) (fun k hk => ?_)⟩
    simp [Value.ownBlock] at hk
    omega

set_option maxRecDepth 100000 in
set_option maxHeartbeats 1000000 in
theorem clone_ft (w : World) (s : Sl) (xs : List (Ft)) (h : RSrc ftC 5 w s xs) (hm : s.n ≤ 1000000) :
    Calls Try.prog 75 #[s.v] w fun e w' => ∃ v, e = .returned v ∧ w'.ownsRow w.heap.size 54 5 v xs.length (xs.flatMap ftC) ∧ Below w.heap.size w w' := by
  obtain ⟨i0, hi, hz0, hz1, hz2⟩ := info_parts i_ft
  have hl := h.len
  have hlf := flat_len (cells := ftC) (k := 5) (fun _ => rfl) xs
  have hnw := fun ad (hA : s.A = some ad) => rsrc_news (cells := ftC) (fun _ => rfl) (by decide) h hA
  have hone := flat_one c1_ft xs
  have hno := h.no
  have hcap := h.cap
  obtain ⟨A, n, c⟩ := s
  unfold Sl.v
  dsimp only at *
  clear h
  rw [hl] at hlf ⊢
  cases A with
  | none =>
    obtain rfl := hno rfl
    obtain rfl : n = 0 := by omega
    obtain rfl : xs = [] := List.eq_nil_of_length_eq_zero hl
    have hq := fun (W : World) => Lib.run_eql_slice_nil (P := Try.prog) W 27 54 none 0 0 0 0 Try.underlying27
    clear hnw hone hlf
    go_enter Try.func75, Try.ntmps75
    go_wp2
    go_ret
    exact ⟨_, rfl, World.ownsRow_nil _ _ _ _, Below.refl _ _⟩
  | some ad =>
    have hq := fun (W : World) => Lib.run_eql_slice_nil (P := Try.prog) W 27 54 (some ad) n c 0 0 Try.underlying27
    have hnw2 := hnw ad rfl
    clear hnw
    generalize xs.flatMap ftC = news at *
    have hb : Below w.heap.size w (w.alloc (.cells #[] 54)) := (Below.refl _ _).alloc (Nat.le_refl _) _
    have HN := Lib.hid (fun j u hj => k_cell hb (hnw2 j u hj))
    have HB := Lib.hid hb
    have HO := Lib.hid (And.intro hone hlf)
    clear hnw2 hb hone hlf hl hno hcap
    go_enter Try.func75, Try.ntmps75
    go_wp2_with (at_builtin; refine wpList_append_own _ rfl (.tmp 5) (.tmp 6) 27 rfl w.heap.size 54 i0 (.agg #[.int .i64 0, .int .i64 0, .int .i64 0, .int .i64 0, .bool false]) 5 40 Try.underlying27 hi hz0 hz1 hz2 rfl (by decide) (.slice (some ⟨w.heap.size, 0, none⟩) 0 0) 0 [] rfl (World.ownsRow_made w #[] 0 (Nat.le_refl _) (by simp [maxLen]) rfl) ad n c news rfl HO.out.2 HN.out HO.out.1 (by simp only [maxLen]; omega) (by omega) (by simp) ?_; intro v w1 h1 h2 h3)
    go_ret
    refine ⟨v, rfl, by simpa using h1, HB.out.grown h2 (by simp) (fun k hk => ?_)⟩
    simp [Value.ownBlock] at hk
    omega
end Go.Proofs.Ytljcaigaofalbaa
