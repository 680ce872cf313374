/- What is told of values: how many, and between what. No condition. -/
import Derived.Test.YtjgbgakdnapdhaaEBetL
namespace Go.Proofs.Ytjgbgakdnapdhaa
open Go.RowKit Go.Shelf

/-- All that is noted lies between lo and hi, and so does 0. -/
structure Betw (f : Ca) (lo hi : Int) : Prop where
  low : lo ≤ 0
  high : 0 ≤ hi
  l2 : -4294967296 ≤ lo
  h2 : hi ≤ 4294967296
  all : ∀ n c v, f n c = some v → lo ≤ v ∧ v ≤ hi
theorem betw_no : Betw noCa 0 0 := ⟨Int.le_refl _, Int.le_refl _, by decide, by decide, fun _ _ _ h => by cases h⟩
theorem dev_betw {f : Ca} {lo hi : Int} (h : Betw f lo hi) {n : Nat} {v : Int} (e : devF f n = some v) : lo ≤ v ∧ v ≤ hi := by
  unfold devF at e
  cases h0 : f n 0 with
  | none =>
    cases h1 : f n 1 with
    | none => rw [h0, h1] at e; cases e
    | some y => rw [h0, h1] at e; cases e; exact h.all n 1 _ h1
  | some x =>
    have := h.all n 0 _ h0
    cases h1 : f n 1 with
    | none => rw [h0, h1] at e; cases e; exact this
    | some y =>
      rw [h0, h1] at e
      have h3 := h.all n 1 _ h1
      simp only [devP, Option.some.injEq] at e
      omega
theorem dev_set (f : Ca) (n i : Nat) (a b : Option Int) : devF (setN f n a b) i = if i = n then devP a b else devF f i := by
  unfold devF
  split
  · rename_i e
    subst e
    rw [(set_at f i a b).1, (set_at f i a b).2]
  · rename_i e
    rw [set_far f a b e, set_far f a b e]
theorem val_betw {f : Ca} {lo hi : Int} (h : Betw f lo hi) (own : Int) {x : Int} (hx : x ∈ valC f own) : lo ≤ x ∧ x ≤ hi := by
  unfold valC at hx
  obtain ⟨d, hd, rfl⟩ := List.mem_map.1 hx
  have hd2 := (mem_listTo.1 hd).2
  unfold ownC at hd2
  split at hd2
  · rw [dev_set] at hd2
    split at hd2
    · have e : (0 : Int) = d.v := by simpa [devP] using hd2
      rw [← e]
      exact ⟨h.low, h.high⟩
    · exact dev_betw h hd2
  · exact dev_betw h hd2
theorem len_set (f : Ca) (n : Nat) : ∀ k, (listTo (setN f n (some 0) none) k).length = (listTo f k).length + (if n < k ∧ devF f n = none then 1 else 0)
  | 0 => by simp [listTo]
  | k + 1 => by
    rw [listTo_succ, listTo_succ, List.length_append, List.length_append, len_set f n k, dev_set]
    by_cases hk : k = n
    · subst hk
      rw [if_pos rfl, if_neg (by omega)]
      cases h : devF f k <;> simp [devP]
    · rw [if_neg hk]
      have e : (n < k ∧ devF f n = none) ↔ (n < k + 1 ∧ devF f n = none) := by constructor <;> rintro ⟨h1, h2⟩ <;> exact ⟨by omega, h2⟩
      simp only [e]
      omega
theorem val_len (f : Ca) {n : Nat} (hn : n < 16) : (valC f (n : Int)).length = (listC f).length + (if devF f n = none then 1 else 0) := by
  unfold valC ownC
  rw [List.length_map, nodeB_iff.2 ⟨n, hn, rfl⟩, if_pos rfl, Int.toNat_natCast]
  have := len_set f n 16
  simp only [hn, true_and] at this
  exact this
theorem val_len99 (f : Ca) : (valC f 99).length = (listC f).length := by
  unfold valC ownC
  rw [List.length_map, show nodeB 99 = false from by decide]
  rfl
theorem note_parts (f : Ca) (n c v : Int) : (noteE f n c v = 130 ∧ noteF f n c v = f ∧ okB f n c v = false) ∨ ∃ i j : Nat, n = (i : Int) ∧ c = (j : Int) ∧ i < 16 ∧ j < 2 ∧ (-4294967296 ≤ v ∧ v ≤ 4294967296) ∧ f i j = none ∧ noteE f n c v = 0 ∧ noteF f n c v = putC f i j v := by
  unfold noteE noteF
  cases h : okB f n c v
  · exact .inl ⟨rfl, rfl, rfl⟩
  · right
    unfold okB at h
    simp only [Bool.and_eq_true, Bool.not_eq_true'] at h
    obtain ⟨⟨⟨h1, h2⟩, h3⟩, h4⟩ := h
    obtain ⟨i, hi, rfl⟩ := nodeB_iff.1 h1
    obtain ⟨j, hj, rfl⟩ := chanB_iff.1 h2
    rw [Int.toNat_natCast, Int.toNat_natCast] at *
    exact ⟨i, j, rfl, rfl, hi, hj, byB_iff.1 h3, by simpa using h4, rfl, rfl⟩
theorem betw_put {f : Ca} {lo hi : Int} (h : Betw f lo hi) (i j : Nat) {v lo' hi' : Int} (hv : -4294967296 ≤ v ∧ v ≤ 4294967296) (h1 : lo' ≤ lo ∧ lo' ≤ v ∧ (lo' = lo ∨ lo' = v)) (h2 : hi ≤ hi' ∧ v ≤ hi' ∧ (hi' = hi ∨ hi' = v)) : Betw (putC f i j v) lo' hi' := by
  have a1 := h.low
  have a2 := h.high
  have a3 := h.l2
  have a4 := h.h2
  refine ⟨by omega, by omega, by omega, by omega, fun n c x hx => ?_⟩
  unfold putC at hx
  split at hx
  · cases hx; omega
  · have := h.all n c x hx
    omega
end Go.Proofs.Ytjgbgakdnapdhaa
