/- What is noted, in order: it is noted again, or from behind, likewise. No condition. -/
import Derived.Test.YtjgbgakdnapdhaaEValM
namespace Go.Proofs.Ytjgbgakdnapdhaa
open Go.RowKit Go.Shelf

/-- What a list of calls has noted. -/
def look (D : List Oe) : Ca := fun n c => (D.find? fun o => decide (o.n = (n : Int)) && decide (o.c = (c : Int))).map Oe.v
def validE (o : Oe) : Prop := nodeB o.n = true ∧ chanB o.c = true ∧ byB o.v = true
/-- Each may be noted, and no two of one node and channel. -/
structure GoodD (D : List Oe) : Prop where
  valid : ∀ o ∈ D, validE o
  apart : D.Pairwise fun x y => ¬ (x.n = y.n ∧ x.c = y.c)
theorem look_none {D : List Oe} {n c : Nat} : look D n c = none ↔ ∀ o ∈ D, ¬ (o.n = (n : Int) ∧ o.c = (c : Int)) := by
  unfold look
  rw [Option.map_eq_none_iff, List.find?_eq_none]
  constructor
  · intro h o ho hk
    have := h o ho
    simp [hk.1, hk.2] at this
  · intro h o ho
    have := h o ho
    simpa using this
theorem okB_iff {f : Ca} {n c v : Int} : okB f n c v = true ↔ nodeB n = true ∧ chanB c = true ∧ byB v = true ∧ f n.toNat c.toNat = none := by
  unfold okB
  simp only [Bool.and_eq_true, Bool.not_eq_true', Option.isSome_eq_false_iff, Option.isNone_iff_eq_none]
  constructor
  · rintro ⟨⟨⟨a, b⟩, c⟩, d⟩; exact ⟨a, b, c, d⟩
  · rintro ⟨a, b, c, d⟩; exact ⟨⟨⟨a, b⟩, c⟩, d⟩
theorem note_ok {f : Ca} {n c v : Int} (h : okB f n c v = true) : noteE f n c v = 0 ∧ noteF f n c v = putC f n.toNat c.toNat v := by
  unfold noteE noteF
  rw [h]
  exact ⟨rfl, rfl⟩
theorem note_no {f : Ca} {n c v : Int} (h : okB f n c v = false) : noteE f n c v = 130 ∧ noteF f n c v = f := by
  unfold noteE noteF
  rw [h]
  exact ⟨rfl, rfl⟩
theorem toNat_of {n : Int} (h : nodeB n = true) : ((n.toNat : Nat) : Int) = n := by
  obtain ⟨k, _, rfl⟩ := nodeB_iff.1 h
  rw [Int.toNat_natCast]
theorem toNat_of' {n : Int} (h : chanB n = true) : ((n.toNat : Nat) : Int) = n := by
  obtain ⟨k, _, rfl⟩ := chanB_iff.1 h
  rw [Int.toNat_natCast]
theorem look_cons {D : List Oe} {o : Oe} (h1 : nodeB o.n = true) (h2 : chanB o.c = true) : look (o :: D) = putC (look D) o.n.toNat o.c.toNat o.v := by
  funext n c
  have e1 := toNat_of h1
  have e2 := toNat_of' h2
  unfold look putC
  rw [List.find?_cons]
  by_cases hk : n = o.n.toNat ∧ c = o.c.toNat
  · rw [if_pos hk]
    have : (decide (o.n = (n : Int)) && decide (o.c = (c : Int))) = true := by rw [hk.1, hk.2, e1, e2]; simp
    rw [this]
    rfl
  · rw [if_neg hk]
    have : (decide (o.n = (n : Int)) && decide (o.c = (c : Int))) = false := by
      rw [Bool.eq_false_iff]
      intro h
      simp only [Bool.and_eq_true, decide_eq_true_eq] at h
      exact hk ⟨by omega, by omega⟩
    rw [this]
theorem look_snoc {D : List Oe} {o : Oe} (h1 : nodeB o.n = true) (h2 : chanB o.c = true) (h : look D o.n.toNat o.c.toNat = none) : look (D ++ [o]) = putC (look D) o.n.toNat o.c.toNat o.v := by
  funext n c
  have e1 := toNat_of h1
  have e2 := toNat_of' h2
  unfold putC
  by_cases hk : n = o.n.toNat ∧ c = o.c.toNat
  · rw [if_pos hk, hk.1, hk.2]
    unfold look at h ⊢
    rw [Option.map_eq_none_iff] at h
    rw [List.find?_append, h, e1, e2]
    simp
  · rw [if_neg hk]
    unfold look
    rw [List.find?_append]
    have : [o].find? (fun o => decide (o.n = (n : Int)) && decide (o.c = (c : Int))) = none := by
      rw [List.find?_eq_none]
      intro o' ho'
      rw [List.mem_singleton.1 ho']
      simp only [Bool.and_eq_true, decide_eq_true_eq]
      intro h
      exact hk ⟨by omega, by omega⟩
    rw [this, Option.or_none]
theorem good_nil : GoodD [] := ⟨fun _ h => (by cases h), List.Pairwise.nil⟩
theorem look_nil : look [] = noCa := rfl
theorem good_snoc {D : List Oe} {o : Oe} (h : GoodD D) (hok : okB (look D) o.n o.c o.v = true) : GoodD (D ++ [o]) ∧ noteF (look D) o.n o.c o.v = look (D ++ [o]) := by
  obtain ⟨h1, h2, h3, h4⟩ := okB_iff.1 hok
  refine ⟨⟨fun x hx => ?_, ?_⟩, ?_⟩
  · rcases List.mem_append.1 hx with hx | hx
    · exact h.valid x hx
    · rw [List.mem_singleton.1 hx]
      exact ⟨h1, h2, h3⟩
  · rw [List.pairwise_append]
    refine ⟨h.apart, List.pairwise_singleton _ _, fun x hx y hy => ?_⟩
    rw [List.mem_singleton.1 hy]
    have := look_none.1 h4 x hx
    rw [toNat_of h1, toNat_of' h2] at this
    exact this
  · rw [(note_ok hok).2, look_snoc h1 h2 h4]
theorem ok_snoc {D : List Oe} {o : Oe} (h : GoodD (D ++ [o])) : okB (look D) o.n o.c o.v = true := by
  obtain ⟨h1, h2, h3⟩ := h.valid o (by simp)
  refine okB_iff.2 ⟨h1, h2, h3, look_none.2 fun x hx => ?_⟩
  rw [toNat_of h1, toNat_of' h2]
  exact (List.pairwise_append.1 h.apart).2.2 x hx o (by simp)
theorem good_take {D : List Oe} (h : GoodD D) (k : Nat) : GoodD (D.take k) := ⟨fun o ho => h.valid o (List.mem_of_mem_take ho), h.apart.sublist (List.take_sublist _ _)⟩
theorem good_drop {D : List Oe} (h : GoodD D) (k : Nat) : GoodD (D.drop k) := ⟨fun o ho => h.valid o (List.mem_of_mem_drop ho), h.apart.sublist (List.drop_sublist _ _)⟩
theorem take_more {D : List Oe} {k : Nat} (hk : k < D.length) : D.take (k + 1) = D.take k ++ [D.getD k default] := by
  rw [List.take_add_one, List.getD_eq_getElem?_getD, List.getElem?_eq_getElem hk]
  rfl
theorem drop_more {D : List Oe} {k : Nat} (hk : k < D.length) : D.drop k = D.getD k default :: D.drop (k + 1) := by
  rw [List.drop_eq_getElem_cons hk, List.getD_eq_getElem?_getD, List.getElem?_eq_getElem hk]
  rfl
/-- Noted in order. -/
theorem again_step {D : List Oe} (h : GoodD D) {k : Nat} (hk : k < D.length) : noteE (look (D.take k)) (D.getD k default).n (D.getD k default).c (D.getD k default).v = 0 ∧ noteF (look (D.take k)) (D.getD k default).n (D.getD k default).c (D.getD k default).v = look (D.take (k + 1)) := by
  have h1 := good_take h (k + 1)
  rw [take_more hk] at h1 ⊢
  have hok := ok_snoc h1
  exact ⟨(note_ok hok).1, (good_snoc (good_take h k) hok).2⟩
/-- Noted from behind. -/
theorem behind_step {D : List Oe} (h : GoodD D) {k : Nat} (hk : k < D.length) : noteE (look (D.drop (k + 1))) (D.getD k default).n (D.getD k default).c (D.getD k default).v = 0 ∧ noteF (look (D.drop (k + 1))) (D.getD k default).n (D.getD k default).c (D.getD k default).v = look (D.drop k) := by
  have h1 := good_drop h k
  rw [drop_more hk] at h1
  obtain ⟨v1, v2, v3⟩ := h1.valid (D.getD k default) (by simp)
  have hok : okB (look (D.drop (k + 1))) (D.getD k default).n (D.getD k default).c (D.getD k default).v = true := by
    refine okB_iff.2 ⟨v1, v2, v3, look_none.2 fun x hx e => ?_⟩
    rw [toNat_of v1, toNat_of' v2] at e
    exact (List.pairwise_cons.1 h1.apart).1 x hx ⟨e.1.symm, e.2.symm⟩
  refine ⟨(note_ok hok).1, ?_⟩
  rw [(note_ok hok).2, ← look_cons v1 v2, ← drop_more hk]

/-! Forgotten, node by node. -/
theorem listTo_rise (f : Ca) : ∀ k, (listTo f k).Pairwise fun x y => x.n < y.n
  | 0 => List.Pairwise.nil
  | k + 1 => by
    rw [listTo_succ, List.pairwise_append]
    refine ⟨listTo_rise f k, by split <;> simp, fun x hx y hy => ?_⟩
    have h1 := (mem_listTo.1 hx).1
    split at hy
    · rw [List.mem_singleton.1 hy]
      exact h1
    · cases hy
/-- The first k of f's nodes are forgotten. -/
def DropTo (f g : Ca) (k : Nat) : Prop := ∀ n, n < 16 → if (∃ j, j < k ∧ ((listC f).getD j default).n = n) then g n 0 = none ∧ g n 1 = none else g n 0 = f n 0 ∧ g n 1 = f n 1
theorem drop_start (f : Ca) : DropTo f f 0 := fun n _ => by rw [if_neg (by rintro ⟨j, hj, _⟩; omega)]; exact ⟨rfl, rfl⟩
theorem list_at {f : Ca} {k : Nat} (hk : k < (listC f).length) : ((listC f).getD k default).n < 16 ∧ devF f ((listC f).getD k default).n = some ((listC f).getD k default).v := by
  have : (listC f).getD k default ∈ listC f := by rw [List.getD_eq_getElem?_getD, List.getElem?_eq_getElem hk]; exact List.getElem_mem _
  exact mem_listTo.1 this
theorem list_apart {f : Ca} {j k : Nat} (hjk : j < k) (hk : k < (listC f).length) : ((listC f).getD j default).n < ((listC f).getD k default).n := by
  have := List.pairwise_iff_getElem.1 (listTo_rise f 16) j k (by show j < (listC f).length; omega) hk hjk
  rw [List.getD_eq_getElem?_getD, List.getD_eq_getElem?_getD, List.getElem?_eq_getElem hk, List.getElem?_eq_getElem (by omega : j < (listC f).length)]
  exact this
theorem drop_step {f g : Ca} {k : Nat} (h : DropTo f g k) (hk : k < (listC f).length) :
    (ofC g (((listC f).getD k default).n : Int)).isSome = true ∧ ofC (dropC g (((listC f).getD k default).n : Int)) (((listC f).getD k default).n : Int) = none ∧ DropTo f (dropC g (((listC f).getD k default).n : Int)) (k + 1) := by
  obtain ⟨h1, h2⟩ := list_at hk
  have hnB := nodeB_iff.2 ⟨_, h1, rfl⟩
  have hd : dropC g (((listC f).getD k default).n : Int) = setN g ((listC f).getD k default).n none none := by
    unfold dropC
    rw [if_pos hnB, Int.toNat_natCast]
  have hno : ¬ ∃ j, j < k ∧ ((listC f).getD j default).n = ((listC f).getD k default).n := by
    rintro ⟨j, hj, e⟩
    have := list_apart hj hk
    omega
  have hg := h _ h1
  rw [if_neg hno] at hg
  refine ⟨?_, ?_, fun n hn => ?_⟩
  · unfold ofC
    rw [if_pos hnB, Int.toNat_natCast]
    have : devF g ((listC f).getD k default).n = devF f ((listC f).getD k default).n := by unfold devF; rw [hg.1, hg.2]
    rw [this, h2]
    rfl
  · unfold ofC
    rw [if_pos hnB, Int.toNat_natCast, hd, dev_set, if_pos rfl]
    rfl
  · rw [hd]
    by_cases e : n = ((listC f).getD k default).n
    · rw [if_pos ⟨k, Nat.lt_succ_self _, e.symm⟩, e]
      exact set_at g _ none none
    · rw [set_far g none none e, set_far g none none e]
      have q := h n hn
      by_cases hx : ∃ j, j < k ∧ ((listC f).getD j default).n = n
      · rw [if_pos hx] at q
        obtain ⟨j, hj, hje⟩ := hx
        rw [if_pos ⟨j, by omega, hje⟩]
        exact q
      · rw [if_neg hx] at q
        rw [if_neg (by
          rintro ⟨j, hj, hje⟩
          rcases Nat.lt_or_ge j k with h4 | h4
          · exact hx ⟨j, h4, hje⟩
          · obtain rfl : j = k := by omega
            exact e hje.symm)]
        exact q
theorem drop_all {f g : Ca} (h : DropTo f g (listC f).length) : EqC g noCa := by
  intro n hn
  have q := h n hn
  split at q
  · exact q
  · rename_i hx
    cases hd : devF f n with
    | none =>
      obtain ⟨h0, h1⟩ := devP_none.1 hd
      exact ⟨q.1.trans h0, q.2.trans h1⟩
    | some v =>
      exfalso
      have hm : (⟨n, v⟩ : De) ∈ listC f := mem_listTo.2 ⟨hn, hd⟩
      obtain ⟨j, hj, e⟩ := List.mem_iff_getElem.1 hm
      refine hx ⟨j, hj, ?_⟩
      rw [List.getD_eq_getElem?_getD, List.getElem?_eq_getElem hj, Option.getD_some, e]
end Go.Proofs.Ytjgbgakdnapdhaa
