/- Next of a group, by a contract. -/
import Derived.Test.YtnpjldolppikfaaGList
namespace Go.Proofs.Ytnpjldolppikfaa
open Go.RowKit Go.Shelf
attribute [local go_sem] Oper.semAt_some

theorem folG_lt {m i : Nat} (h : i ∈ folG m) : i < 16 := by
  simp [folG] at h
  omega
theorem find_same {α : Type} {p q : α → Bool} {l : List α} (h : ∀ x ∈ l, p x = q x) : l.find? p = l.find? q := by
  induction l with
  | nil => rfl
  | cons a l ih => rw [List.find?_cons, List.find?_cons, h a (List.mem_cons_self ..), ih fun x hx => h x (List.mem_cons_of_mem _ hx)]
theorem wpIn_scope_any {n : Nat} {P : Program} {c : Code} {Q : Exit → Act → World → Prop} {a : Act} {w : World} (h : c.wpIn Fence.wide n P (Exit.noGoto Q) a w) : (Code.scope c).wpIn Fence.wide n P Q a w :=
  wpIn_wide.2 (wp_scope_straight (wpIn_wide.1 h))
/-- The first of the nodes that came that is in the group; -1, if none is. -/
def findI (g : Nat) (l : List Nat) : Int := match l.find? (fun i : Nat => hasG g (i : Int)) with | some i => (i : Int) | none => -1
theorem nextG_fol (g : Nat) (n : Int) : nextG g n = findI g (folI n) := by
  unfold nextG findI folI
  split
  · rename_i h
    rw [find_same fun i hi => (hasG_nat (g := g) (folG_lt hi)).symm]
    rfl
  · rfl
theorem findI_none {g : Nat} {l : List Nat} (h : ∀ i ∈ l, hasG g (i : Int) = false) : findI g l = -1 := by
  unfold findI
  rw [List.find?_eq_none.2 (fun i hi => by rw [h i hi]; decide)]
theorem findI_some {g : Nat} {l p : List Nat} {i : Nat} (hl : p ++ [i] <+: l) (h : ∀ j ∈ p, hasG g (j : Int) = false) (hi : hasG g (i : Int) = true) : findI g l = (i : Int) := by
  obtain ⟨r, rfl⟩ := hl
  unfold findI
  rw [List.append_assoc, List.find?_append, List.find?_eq_none.2 (fun j hj => by rw [h j hj]; decide), Option.none_or]
  simp [hi]

/-- What holds between two rounds: none of those that came is in the group. -/
def NextI (g : Nat) (w : World) (pre : List Nat) (W : World) : Prop :=
  (Boxed W (w.heap.size + 1) 3 (.int .i64 (-1)) ∧ Boxed W w.heap.size 23 (.int .u16 (g : Int)) ∧ Below w.heap.size w W) ∧ ∀ i ∈ pre, hasG g (i : Int) = false
/-- What holds where a round has left. -/
def NextX (g : Nat) (w : World) (pre : List Nat) (W : World) : Prop :=
  ∃ (p : List Nat) (i : Nat), pre = p ++ [i] ∧ (∀ j ∈ p, hasG g (j : Int) = false) ∧ hasG g (i : Int) = true ∧ Boxed W (w.heap.size + 1) 3 (.int .i64 (i : Int)) ∧ Below w.heap.size w W

theorem boxed_from {W W' : World} {row : Option Nat} {B b : Nat} {t : TypeId} {v : Value} (h : Boxed W b t v) (hg : W.grownBy W' row) (hr : ∀ r, row = some r → B ≤ r ∧ ∃ o : Obj, W.heap[r]? = some o ∧ o.isCells = false) : Boxed W' b t v :=
  h.kept hg (fun e => by obtain ⟨_, o, ho, hc⟩ := hr b e.symm; rw [show W.heap[b]? = _ from h] at ho; cases ho; cases hc)

theorem NextI.own (g : Nat) (w : World) {B : Nat} (hB : w.heap.size ≤ B) : OwnFrom B (NextI g w) := fun pre W W' row hs hg hr =>
  ⟨⟨boxed_from hs.1.1 hg hr, boxed_from hs.1.2.1 hg hr, (ownFrom_below (Nat.le_refl _) hB) pre W W' row hs.1.2.2 hg hr⟩, hs.2⟩
theorem NextX.own (g : Nat) (w : World) {B : Nat} (hB : w.heap.size ≤ B) : OwnFrom B (NextX g w) := fun pre W W' row hs hg hr => by
  obtain ⟨p, i, e, h1, h2, h3, h4⟩ := hs
  exact ⟨p, i, e, h1, h2, boxed_from h3 hg hr, (ownFrom_below (Nat.le_refl _) hB) pre W W' row h4 hg hr⟩

end Go.Proofs.Ytnpjldolppikfaa
