/- GroupBack, its walk. -/
import Derived.Test.YtnefjkbnolbpbaaGParse
import Derived.Test.YtnefjkbnolbpbaaGRound
namespace Go.Proofs.Ytnefjkbnolbpbaa
open Go.RowKit

/-- Two lists that rise and have the same numbers are the same. -/
theorem rises_ext : ∀ {l m : List Int}, l.Pairwise (· < ·) → m.Pairwise (· < ·) → (∀ x, x ∈ l ↔ x ∈ m) → l = m := by
  intro l
  induction l with
  | nil =>
    intro m _ _ h
    cases m with
    | nil => rfl
    | cons y m => exact absurd ((h y).2 (List.mem_cons_self ..)) (by simp)
  | cons x l ih =>
    intro m hl hm h
    cases m with
    | nil => exact absurd ((h x).1 (List.mem_cons_self ..)) (by simp)
    | cons y m =>
      rw [List.pairwise_cons] at hl hm
      have hxy : x = y := by
        rcases List.mem_cons.1 ((h x).1 (List.mem_cons_self ..)) with e | e
        · exact e
        · rcases List.mem_cons.1 ((h y).2 (List.mem_cons_self ..)) with e' | e'
          · exact e'.symm
          · have a := hm.1 x e
            have b := hl.1 y e'
            omega
      subst hxy
      rw [ih hl.2 hm.2 fun z => ?_]
      constructor
      · intro hz
        rcases List.mem_cons.1 ((h z).1 (List.mem_cons_of_mem _ hz)) with e | e
        · have := hl.1 z hz
          omega
        · exact e
      · intro hz
        rcases List.mem_cons.1 ((h z).2 (List.mem_cons_of_mem _ hz)) with e | e
        · have := hm.1 z hz
          omega
        · exact e

theorem nodeI_digOf {x : Int} (h : 0 ≤ x ∧ x ≤ 15) : nodeI ((digOf x).toNat : Int) = x := by
  have key : ∀ a : Fin 16, nodeI ((digOf (a.val : Int)).toNat : Int) = (a.val : Int) := by decide +kernel
  obtain ⟨k, rfl⟩ := Int.eq_ofNat_of_zero_le h.1
  exact key ⟨k, by omega⟩
theorem digOf_nodeI {b : UInt8} (h : 0 ≤ nodeI (b.toNat : Int)) : digOf (nodeI (b.toNat : Int)) = b := by
  have key : ∀ c : Fin 256, 0 ≤ nodeI ((UInt8.ofNat c.val).toNat : Int) → digOf (nodeI ((UInt8.ofNat c.val).toNat : Int)) = UInt8.ofNat c.val := by decide +kernel
  have k := key ⟨b.toNat, UInt8.toNat_lt _⟩
  rw [show UInt8.ofNat b.toNat = b from UInt8.ofNat_toNat] at k
  exact k h

/-- A rising list's digits are read one by one. -/
theorem parseL_map : ∀ {l : List Int} {g : Nat} {before : Int}, l.Pairwise (· < ·) → (∀ x ∈ l, before < x ∧ 0 ≤ x ∧ x ≤ 15) → parseL (l.map digOf) g before = some (l.foldl withG g) := by
  intro l
  induction l with
  | nil => intro g before _ _; rfl
  | cons x l ih =>
    intro g before hl h
    rw [List.pairwise_cons] at hl
    have hx := h x (List.mem_cons_self ..)
    rw [List.map_cons, parseL, nodeI_digOf hx.2, if_neg (by omega), ih hl.2 fun y hy => ⟨hl.1 y hy, (h y (List.mem_cons_of_mem _ hy)).2⟩]
    rfl
theorem parse_text {g : Nat} (hg : g < 65536) : parseG (textG g) = some g := by
  by_cases h0 : g = 0
  · subst h0
    rfl
  · have ht : textG g = (listI g).map digOf := if_neg h0
    have hne : textG g ≠ [] := fun h => by
      rw [ht, List.map_eq_nil_iff, listI_nil hg] at h
      exact h0 h
    rw [parseG, if_neg hne, if_neg (fun h => h0 (textG_none.1 h)), ht, parseL_map (listI_rises g) fun x hx => ?_]
    · rw [fold_same hg (listI_all g) fun x => mem_listI]
    · have := listI_mem x hx
      exact ⟨by omega, this⟩

/-- A node beyond all of a group, put in, stands at the list's end. -/
theorem listI_with {g : Nat} {n : Int} (hn : 0 ≤ n ∧ n ≤ 15) (h : ∀ x, hasG g x = true → x < n) : listI (withG g n) = listI g ++ [n] := by
  refine rises_ext (listI_rises _) ?_ fun x => ?_
  · rw [List.pairwise_append]
    refine ⟨listI_rises g, List.pairwise_singleton _ _, fun a ha b hb => ?_⟩
    rw [List.mem_singleton.1 hb]
    exact h a (mem_listI.1 ha)
  · rw [mem_listI, has_with, List.mem_append, mem_listI, List.mem_singleton, Bool.or_eq_true, node_mk hn, Bool.true_and, decide_eq_true_eq]
    constructor
    · rintro (h | h)
      · exact .inl h
      · exact .inr h.symm
    · rintro (h | h)
      · exact .inl h
      · exact .inr h.symm
/-- What is read has just these bytes. -/
theorem parseL_back : ∀ {l : List UInt8} {g c : Nat} {before : Int}, g < 65536 → -1 ≤ before → (∀ x, hasG g x = true → x ≤ before) → parseL l g before = some c →
    c < 65536 ∧ (listI c).map digOf = (listI g).map digOf ++ l := by
  intro l
  induction l with
  | nil =>
    intro g c before hg _ _ h
    rw [parseL, Option.some.injEq] at h
    subst h
    exact ⟨hg, by simp⟩
  | cons b l ih =>
    intro g c before hg hb h hp
    rw [parseL] at hp
    split at hp
    · cases hp
    · rename_i hlt
      have hn := nodeI_bounds (b.toNat : Int)
      have h0 : 0 ≤ nodeI (b.toNat : Int) := by omega
      have hd := digOf_nodeI h0
      generalize nodeI (b.toNat : Int) = n at *
      have hmem : ∀ x, hasG (withG g n) x = true → x ≤ n := fun x hx => by
        rw [has_with, Bool.or_eq_true, Bool.and_eq_true, decide_eq_true_eq] at hx
        rcases hx with hx | hx
        · have := h x hx
          omega
        · omega
      obtain ⟨hc, e⟩ := ih (withG_lt n hg) (by omega) hmem hp
      refine ⟨hc, ?_⟩
      rw [e, listI_with ⟨h0, hn.2⟩ fun x hx => by have := h x hx; omega, List.map_append, List.map_cons, List.map_nil, hd, List.append_assoc]
      rfl
theorem parse_back {l : List UInt8} {c : Nat} (h : parseG l = some c) : c < 65536 ∧ textG c = l := by
  unfold parseG at h
  split at h
  · cases h
  · rename_i hne
    split at h
    · rename_i h45
      rw [Option.some.injEq] at h
      subst h
      exact ⟨by decide, h45.symm⟩
    · have h0 : ∀ x, hasG 0 x = true → x ≤ -1 := fun x hx => by
        unfold hasG at hx
        rw [Nat.zero_testBit, Bool.and_false] at hx
        cases hx
      obtain ⟨hc, e⟩ := parseL_back (by decide) (by decide) h0 h
      rw [show listI 0 = [] from rfl, List.map_nil, List.nil_append] at e
      refine ⟨hc, ?_⟩
      rw [textG, if_neg, e]
      rintro rfl
      exact hne (by rw [← e]; rfl)

theorem with_same {g : Nat} {n : Int} (hg : g < 65536) (hn : nodeB n = true) : (((withG g n : Nat) : Int) == (g : Int)) = hasG g n := by
  rw [int_beq]
  cases h : hasG g n
  · rw [decide_eq_false]
    intro e
    have := has_with g n n
    rw [e, h, hn] at this
    simp at this
  · rw [with_has hg h, decide_eq_true rfl]
theorem without_same {g : Nat} {n : Int} (hg : g < 65536) (hn : nodeB n = true) : (((withoutG g n : Nat) : Int) == (g : Int)) = !hasG g n := by
  rw [int_beq]
  cases h : hasG g n
  · rw [without_has hg h, decide_eq_true rfl]
    rfl
  · rw [decide_eq_false]
    · rfl
    intro e
    have := has_without g n n
    rw [e, h, hn] at this
    simp at this
theorem count_one {g : Nat} {n : Int} (hg : g < 65536) (hn : nodeB n = true) : countG (withG g n) = countG (withoutG g n) + 1 := by
  have ho := onlyG_lt n
  have h1 : bothG (withG g n) (onlyG n) = onlyG n := by
    refine bits_ext (bothG_lt (withG_lt n hg)) ho fun i _ => ?_
    rw [bit_both, bit_with, bit_only]
    cases g.testBit i <;> cases (nodeB n && decide (n.toNat = i)) <;> rfl
  have h2 : lessG (withG g n) (onlyG n) = withoutG g n := by
    refine bits_ext (lessG_lt (withG_lt n hg)) (withoutG_lt n hg) fun i hi => ?_
    rw [bit_less ho hi, bit_with, bit_only, bit_without g n hi]
    cases g.testBit i <;> cases (nodeB n && decide (n.toNat = i)) <;> rfl
  have h3 : countG (onlyG n) = 1 := by
    obtain ⟨a, b⟩ := node_yes hn
    obtain ⟨k, rfl⟩ := Int.eq_ofNat_of_zero_le a
    have key : ∀ k : Fin 16, countG (onlyG (k.val : Int)) = 1 := by decide +kernel
    exact key ⟨k, by omega⟩
  have := count_parts (a := withG g n) ho
  rw [h1, h2, h3] at this
  omega

end Go.Proofs.Ytnefjkbnolbpbaa
