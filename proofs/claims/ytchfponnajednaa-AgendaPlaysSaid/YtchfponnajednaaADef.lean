/- Events with their turns, and lists of them: the order, heaps, what is first. Plain; no condition. -/
import Derived.Test.YtchfponnajednaaKMem
namespace Go.Proofs.Ytchfponnajednaa
open Go.RowKit

/-- An event: time, kind, node, number, value. -/
structure Ev where
  t : Int
  k : Int
  n : Int
  m : Int
  v : Int
deriving DecidableEq
/-- An event, and its turn. -/
structure En where
  e : Ev
  u : Nat
deriving DecidableEq
instance : Inhabited Ev := ⟨⟨0, 0, 0, 0, 0⟩⟩
instance : Inhabited En := ⟨⟨default, 0⟩⟩
def Ev.cells (x : Ev) : List Value := [.int .i64 x.t, .int .i64 x.k, .int .i64 x.n, .int .i64 x.m, .int .i64 x.v]
def En.cells (x : En) : List Value := [.int .i64 x.e.t, .int .i64 x.e.k, .int .i64 x.e.n, .int .i64 x.e.m, .int .i64 x.e.v, .int .u64 (x.u : Int)]
theorem En.cells_length (x : En) : x.cells.length = 6 := rfl
theorem Ev.cells_length (x : Ev) : x.cells.length = 5 := rfl

/-- Does x stand ahead of y, by time, kind, node, number? -/
def aheadP (x y : Ev) : Prop := x.t < y.t ∨ (x.t = y.t ∧ (x.k < y.k ∨ (x.k = y.k ∧ (x.n < y.n ∨ (x.n = y.n ∧ x.m < y.m)))))
def sameP (x y : Ev) : Prop := x.t = y.t ∧ x.k = y.k ∧ x.n = y.n ∧ x.m = y.m
/-- Does an entry stand ahead of another one? -/
def lessP (x y : En) : Prop := aheadP x.e y.e ∨ (sameP x.e y.e ∧ x.u < y.u)
instance (x y : Ev) : Decidable (aheadP x y) := by unfold aheadP; infer_instance
instance (x y : Ev) : Decidable (sameP x y) := by unfold sameP; infer_instance
instance (x y : En) : Decidable (lessP x y) := by unfold lessP; infer_instance
def lessB (x y : En) : Bool := decide (lessP x y)
def leP (x y : En) : Prop := ¬ lessP y x
theorem less_iff {x y : En} : lessB x y = true ↔ lessP x y := by simp [lessB]
theorem less_no {x y : En} : lessB x y = false ↔ leP y x := by simp [lessB, leP]
theorem less_irrefl (x : En) : ¬ lessP x x := by unfold lessP aheadP sameP; omega
theorem less_asymm {x y : En} (h : lessP x y) : ¬ lessP y x := by unfold lessP aheadP sameP at *; omega
theorem less_le {x y : En} (h : lessP x y) : leP x y := less_asymm h
theorem le_refl (x : En) : leP x x := less_irrefl x
theorem le_trans {x y z : En} (h : leP x y) (k : leP y z) : leP x z := by unfold leP lessP aheadP sameP at *; omega
theorem less_of_le {x y z : En} (h : leP x y) (k : lessP y z) : lessP x z := by unfold leP lessP aheadP sameP at *; omega
theorem less_trans {x y z : En} (h : lessP x y) (k : lessP y z) : lessP x z := less_of_le (less_le h) k
theorem le_total (x y : En) : leP x y ∨ leP y x := by unfold leP lessP aheadP sameP; omega

/-- Two of a list exchanged. -/
def swapL (l : List En) (i j : Nat) : List En := (l.set i (l.getD j default)).set j (l.getD i default)
theorem swapL_length (l : List En) (i j : Nat) : (swapL l i j).length = l.length := by simp [swapL]
theorem swapL_get (l : List En) (i j k : Nat) (hi : i < l.length) (hj : j < l.length) : (swapL l i j).getD k default = if k = j then l.getD i default else if k = i then l.getD j default else l.getD k default := by
  unfold swapL
  by_cases h1 : k = j
  · subst h1; simp [List.getD_eq_getElem?_getD, hj]
  · by_cases h2 : k = i
    · subst h2; simp [List.getD_eq_getElem?_getD, h1, Ne.symm h1, hi]
    · simp [List.getD_eq_getElem?_getD, h1, h2, Ne.symm h1, Ne.symm h2]
theorem set_perm (l : List En) (i : Nat) (x : En) (hi : i < l.length) : (l.getD i default :: l.set i x).Perm (x :: l) := by
  induction l generalizing i with
  | nil => simp at hi
  | cons a l ih =>
    cases i with
    | zero => simp; exact List.Perm.swap ..
    | succ i =>
      simp only [List.getD_cons_succ, List.set_cons_succ]
      exact (List.Perm.swap ..).trans (((ih i (by simpa using hi)).cons a).trans (List.Perm.swap ..))
theorem swapL_perm (l : List En) (i j : Nat) (hi : i < l.length) (hj : j < l.length) : (swapL l i j).Perm l := by
  have h1 := set_perm l i (l.getD j default) hi
  have h2 := set_perm (l.set i (l.getD j default)) j (l.getD i default) (by simpa using hj)
  by_cases hij : i = j
  · subst hij
    have : swapL l i i = l := by
      unfold swapL
      simp only [List.set_set]
      apply List.ext_getElem?
      intro k
      by_cases hk : i = k
      · subst hk; simp [hi, List.getD_eq_getElem?_getD]
      · simp [hk]
    rw [this]
  · have e : (l.set i (l.getD j default)).getD j default = l.getD j default := by simp [List.getD_eq_getElem?_getD, hij]
    rw [e] at h2
    have h3 : (l.getD j default :: swapL l i j).Perm (l.getD j default :: l) := h2.trans h1
    exact h3.cons_inv

/-- The first n of l are a heap, from the parents a on. -/
def HeapFrom (a n : Nat) (l : List En) : Prop := ∀ c, 0 < c → c < n → a ≤ (c - 1) / 2 → leP (l.getD ((c - 1) / 2) default) (l.getD c default)
def Heap (l : List En) : Prop := HeapFrom 0 l.length l
theorem HeapFrom.first {n : Nat} {l : List En} (h : HeapFrom 0 n l) : ∀ c, c < n → leP (l.getD 0 default) (l.getD c default) := by
  intro c
  induction c using Nat.strongRecOn with
  | ind c ih =>
    intro hc
    rcases Nat.eq_zero_or_pos c with rfl | h0
    · exact le_refl _
    · exact le_trans (ih ((c - 1) / 2) (by omega) (by omega)) (h c h0 hc (Nat.zero_le _))

/-- In the midst of 'up': all stand well but j and its parent; j's children stand well below j's parent. -/
def UpAt (j : Nat) (l : List En) : Prop :=
  (∀ c, 0 < c → c < l.length → c ≠ j → leP (l.getD ((c - 1) / 2) default) (l.getD c default)) ∧
  (0 < j → ∀ c, 0 < c → c < l.length → (c - 1) / 2 = j → leP (l.getD ((j - 1) / 2) default) (l.getD c default))
theorem UpAt.done {j : Nat} {l : List En} (h : UpAt j l) (hj : j = 0 ∨ leP (l.getD ((j - 1) / 2) default) (l.getD j default)) : Heap l := by
  intro c h0 hc _
  by_cases e : c = j
  · subst e
    rcases hj with hj | hj
    · omega
    · exact hj
  · exact h.1 c h0 hc e
theorem UpAt.step {j : Nat} {l : List En} (h : UpAt j l) (h0 : 0 < j) (hj : j < l.length) (hl : lessP (l.getD j default) (l.getD ((j - 1) / 2) default)) : UpAt ((j - 1) / 2) (swapL l ((j - 1) / 2) j) := by
  have hi : (j - 1) / 2 < l.length := by omega
  have hij : (j - 1) / 2 ≠ j := by omega
  refine ⟨fun c c0 hc hne => ?_, fun hp c c0 hc hpc => ?_⟩
  · rw [swapL_length] at hc
    rw [swapL_get l _ j c hi hj, swapL_get l _ j ((c - 1) / 2) hi hj]
    by_cases e1 : c = j
    · subst e1
      rw [if_pos rfl, if_neg (by omega), if_pos rfl]
      exact less_le hl
    · rw [if_neg e1, if_neg hne]
      by_cases e2 : (c - 1) / 2 = j
      · rw [if_pos e2]
        exact h.2 h0 c c0 hc e2
      · rw [if_neg e2]
        by_cases e3 : (c - 1) / 2 = (j - 1) / 2
        · rw [if_pos e3]
          exact le_trans (less_le hl) (e3 ▸ h.1 c c0 hc e1)
        · rw [if_neg e3]
          exact h.1 c c0 hc e1
  · rw [swapL_length] at hc
    rw [swapL_get l _ j c hi hj, swapL_get l _ j _ hi hj, if_neg (by omega), if_neg (by omega)]
    have hpp : leP (l.getD (((j - 1) / 2 - 1) / 2) default) (l.getD ((j - 1) / 2) default) := h.1 _ hp hi hij
    by_cases e1 : c = j
    · rw [if_pos e1]
      exact hpp
    · rw [if_neg e1, if_neg (by omega)]
      exact le_trans hpp (hpc ▸ h.1 c c0 hc e1)

/-- In the midst of 'down', from the parents a on: all stand well but i and its children; i's children stand well below i's parent. -/
def DownAt (a n i : Nat) (l : List En) : Prop :=
  (∀ c, 0 < c → c < n → a ≤ (c - 1) / 2 → (c - 1) / 2 ≠ i → leP (l.getD ((c - 1) / 2) default) (l.getD c default)) ∧
  (0 < i → a ≤ (i - 1) / 2 → ∀ c, 0 < c → c < n → (c - 1) / 2 = i → leP (l.getD ((i - 1) / 2) default) (l.getD c default))
theorem DownAt.start {a n : Nat} {l : List En} (h : HeapFrom (a + 1) n l) : DownAt a n a l :=
  ⟨fun c h0 hc ha hne => h c h0 hc (by omega), fun h0 ha => by omega⟩
theorem DownAt.leaf {a n i : Nat} {l : List En} (h : DownAt a n i l) (hi : n ≤ 2 * i + 1) : HeapFrom a n l := fun c h0 hc ha => h.1 c h0 hc ha (by omega)
theorem DownAt.done {a n i j : Nat} {l : List En} (h : DownAt a n i l) (hmin : ∀ c, c < n → c = 2 * i + 1 ∨ c = 2 * i + 2 → leP (l.getD j default) (l.getD c default)) (hl : leP (l.getD i default) (l.getD j default)) : HeapFrom a n l := fun c h0 hc ha => by
  by_cases e : (c - 1) / 2 = i
  · rw [e]
    exact le_trans hl (hmin c hc (by omega))
  · exact h.1 c h0 hc ha e
theorem DownAt.step {a n i j : Nat} {l : List En} (h : DownAt a n i l) (hai : a ≤ i) (hj : j = 2 * i + 1 ∨ j = 2 * i + 2) (hjn : j < n) (hn : n ≤ l.length)
    (hmin : ∀ c, c < n → c = 2 * i + 1 ∨ c = 2 * i + 2 → leP (l.getD j default) (l.getD c default)) (hl : lessP (l.getD j default) (l.getD i default)) : DownAt a n j (swapL l i j) := by
  have hi : i < l.length := by omega
  have hjl : j < l.length := by omega
  have hpj : (j - 1) / 2 = i := by omega
  refine ⟨fun c c0 hc ha hne => ?_, fun _ _ c c0 hc hpc => ?_⟩
  · rw [swapL_get l i j c hi hjl, swapL_get l i j ((c - 1) / 2) hi hjl, if_neg hne]
    by_cases e1 : c = j
    · subst e1
      rw [if_pos rfl, if_pos hpj]
      exact less_le hl
    · rw [if_neg e1]
      by_cases e2 : c = i
      · subst e2
        rw [if_pos rfl, if_neg (by omega)]
        exact h.2 c0 ha j (by omega) hjn hpj
      · rw [if_neg e2]
        by_cases e3 : (c - 1) / 2 = i
        · rw [if_pos e3]
          exact hmin c hc (by omega)
        · rw [if_neg e3]
          exact h.1 c c0 hc ha e3
  · rw [swapL_get l i j c hi hjl, swapL_get l i j _ hi hjl, hpj, if_neg (by omega), if_pos rfl, if_neg (by omega), if_neg (by omega)]
    have := h.1 c c0 hc (by omega) (by omega)
    rw [hpc] at this
    exact this

end Go.Proofs.Ytchfponnajednaa
