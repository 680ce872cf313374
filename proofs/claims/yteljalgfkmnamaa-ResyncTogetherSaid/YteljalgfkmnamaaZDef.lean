/- The fault-tolerant midpoint in plain words: values in order, what is left of them, and each value by how many are less. No condition. -/
import Derived.Test.YteljalgfkmnamaaRow
namespace Go.Proofs.Yteljalgfkmnamaa

/-- In order. -/
def srt (l : List Int) : List Int := l.mergeSort fun x y => decide (x ≤ y)
theorem srt_len (l : List Int) : (srt l).length = l.length := List.length_mergeSort l
theorem srt_perm (l : List Int) : (srt l).Perm l := List.mergeSort_perm l _
theorem srt_up (l : List Int) : (srt l).Pairwise (· ≤ ·) := by
  have h := List.pairwise_mergeSort (le := fun x y : Int => decide (x ≤ y)) (fun a b c h1 h2 => by simp only [decide_eq_true_eq] at *; omega) (fun a b => by simp only [Bool.or_eq_true, decide_eq_true_eq]; omega) l
  exact h.imp (fun h => by simpa using h)
theorem srt_same {l m : List Int} (h : l.Perm m) : srt l = srt m :=
  List.Perm.eq_of_pairwise (le := (· ≤ ·)) (fun a b _ _ h1 h2 => by omega) (srt_up l) (srt_up m) (((srt_perm l).trans h).trans (srt_perm m).symm)
theorem getD_lt {l : List Int} {i : Nat} (h : i < l.length) : l.getD i 0 = l[i] := by rw [List.getD_eq_getElem?_getD, List.getElem?_eq_getElem h]; rfl
theorem getD_mem {l : List Int} {i : Nat} (h : i < l.length) : l.getD i 0 ∈ l := by rw [getD_lt h]; exact List.getElem_mem h
theorem up_at {S : List Int} (h : S.Pairwise (· ≤ ·)) {i j : Nat} (hij : i ≤ j) (hj : j < S.length) : S.getD i 0 ≤ S.getD j 0 := by
  rw [getD_lt hj, getD_lt (by omega)]
  rcases Nat.lt_or_ge i j with hlt | hge
  · exact List.pairwise_iff_getElem.1 h i j (by omega) hj hlt
  · obtain rfl : i = j := by omega
    exact Int.le_refl _
theorem srt_at (l : List Int) {i j : Nat} (hij : i ≤ j) (hj : j < l.length) : (srt l).getD i 0 ≤ (srt l).getD j 0 := up_at (srt_up l) hij (by rw [srt_len]; exact hj)
theorem srt_mem {l : List Int} {i : Nat} (h : i < l.length) : (srt l).getD i 0 ∈ l := (srt_perm l).subset (getD_mem (by rw [srt_len]; exact h))

/-! How many are less, or no more. -/
def lessN (l : List Int) (v : Int) : Nat := l.countP fun x => decide (x < v)
def upN (l : List Int) (v : Int) : Nat := l.countP fun x => decide (x ≤ v)
def eqN (l : List Int) (v : Int) : Nat := l.countP fun x => decide (x = v)
theorem upN_split (l : List Int) (v : Int) : upN l v = lessN l v + eqN l v := by
  induction l with
  | nil => rfl
  | cons a l ih =>
    unfold upN lessN eqN at *
    rw [List.countP_cons, List.countP_cons, List.countP_cons, ih]
    by_cases h1 : a < v
    · have h2 : a ≤ v := by omega
      have h3 : ¬ a = v := by omega
      simp [h1, h2, h3]; omega
    · by_cases h3 : a = v
      · simp [h3]; omega
      · have h2 : ¬ a ≤ v := by omega
        simp [h1, h2, h3]
theorem lessN_mono (l : List Int) {u v : Int} (h : u ≤ v) : lessN l u ≤ lessN l v := List.countP_mono_left fun x _ hx => by simp only [decide_eq_true_eq] at *; omega
theorem upN_mono (l : List Int) {u v : Int} (h : u ≤ v) : upN l u ≤ upN l v := List.countP_mono_left fun x _ hx => by simp only [decide_eq_true_eq] at *; omega
theorem up_less (l : List Int) {u v : Int} (h : u < v) : upN l u ≤ lessN l v := List.countP_mono_left fun x _ hx => by simp only [decide_eq_true_eq] at *; omega
/-- v is at place p, when they are in order. -/
def Spot (l : List Int) (p : Nat) (v : Int) : Prop := lessN l v ≤ p ∧ p < upN l v
theorem spot_one {l : List Int} {p : Nat} {u v : Int} (h : Spot l p u) (k : Spot l p v) : u = v := by
  obtain ⟨h1, h2⟩ := h
  obtain ⟨k1, k2⟩ := k
  rcases Int.lt_trichotomy u v with e | e | e
  · have := up_less l e; omega
  · exact e
  · have := up_less l e; omega
theorem spot_up {S : List Int} (h : S.Pairwise (· ≤ ·)) {p : Nat} (hp : p < S.length) : Spot S p (S.getD p 0) := by
  rw [getD_lt hp]
  have hs := List.pairwise_iff_getElem.1 h
  constructor
  · have e : lessN S S[p] = lessN (S.take p) S[p] + lessN (S.drop p) S[p] := by
      unfold lessN
      rw [← List.countP_append, List.take_append_drop]
    have h0 : lessN (S.drop p) S[p] = 0 := by
      unfold lessN
      rw [List.countP_eq_zero]
      intro x hx
      obtain ⟨i, hi, rfl⟩ := List.mem_iff_getElem.1 hx
      rw [List.getElem_drop]
      simp only [decide_eq_true_eq]
      rcases Nat.eq_zero_or_pos i with rfl | h1
      · simp
      · have := hs p (p + i) hp (by simp at hi; omega) (by omega); omega
    have h1 : lessN (S.take p) S[p] ≤ (S.take p).length := List.countP_le_length
    have h2 : (S.take p).length = p := by simp; omega
    omega
  · have e : upN S S[p] = upN (S.take (p + 1)) S[p] + upN (S.drop (p + 1)) S[p] := by
      unfold upN
      rw [← List.countP_append, List.take_append_drop]
    have h1 : upN (S.take (p + 1)) S[p] = (S.take (p + 1)).length := by
      unfold upN
      rw [List.countP_eq_length]
      intro x hx
      obtain ⟨i, hi, rfl⟩ := List.mem_iff_getElem.1 hx
      rw [List.getElem_take]
      simp only [decide_eq_true_eq]
      have hi' : i < p + 1 := by simp at hi; omega
      rcases Nat.lt_or_ge i p with h1 | h1
      · exact hs i p (by omega) hp h1
      · obtain rfl : i = p := by omega
        exact Int.le_refl _
    have h2 : (S.take (p + 1)).length = p + 1 := by simp; omega
    omega
theorem spot_srt (l : List Int) {p : Nat} (hp : p < l.length) : Spot l p ((srt l).getD p 0) := by
  have h := spot_up (srt_up l) (p := p) (by rw [srt_len]; exact hp)
  unfold Spot lessN upN at *
  rwa [(srt_perm l).countP_eq, (srt_perm l).countP_eq] at h
theorem srt_spot {l : List Int} {p : Nat} {v : Int} (hp : p < l.length) (h : Spot l p v) : (srt l).getD p 0 = v := spot_one (spot_srt l hp) h

/-! The document's way: by how many stand ahead. -/
/-- How many of the first k stand ahead of number i, when they are sorted. -/
def aheadTo (l : List Int) (i : Nat) : Nat → Nat
  | 0 => 0
  | k + 1 => aheadTo l i k + if l.getD k 0 < l.getD i 0 ∨ (l.getD k 0 = l.getD i 0 ∧ k < i) then 1 else 0
theorem ahead_counts (l : List Int) (i : Nat) : ∀ k, k ≤ l.length → aheadTo l i k = lessN (l.take k) (l.getD i 0) + eqN (l.take (min k i)) (l.getD i 0)
  | 0, _ => by simp [aheadTo, lessN, eqN]
  | k + 1, hk => by
    have ih := ahead_counts l i k (by omega)
    have t1 : l.take (k + 1) = l.take k ++ [l.getD k 0] := by rw [List.take_add_one, List.getElem?_eq_getElem (by omega), getD_lt (by omega)]; rfl
    unfold aheadTo
    rw [ih, t1]
    have e1 : lessN (l.take k ++ [l.getD k 0]) (l.getD i 0) = lessN (l.take k) (l.getD i 0) + if l.getD k 0 < l.getD i 0 then 1 else 0 := by
      unfold lessN
      rw [List.countP_append, List.countP_singleton]
      simp
    rw [e1]
    rcases Nat.lt_or_ge k i with hki | hki
    · rw [show min (k + 1) i = k + 1 by omega, show min k i = k by omega, t1]
      have e2 : eqN (l.take k ++ [l.getD k 0]) (l.getD i 0) = eqN (l.take k) (l.getD i 0) + if l.getD k 0 = l.getD i 0 then 1 else 0 := by
        unfold eqN
        rw [List.countP_append, List.countP_singleton]
        simp
      rw [e2]
      by_cases a : l.getD k 0 < l.getD i 0
      · have b : ¬ l.getD k 0 = l.getD i 0 := by omega
        rw [if_pos (.inl a), if_pos a, if_neg b]; omega
      · by_cases b : l.getD k 0 = l.getD i 0
        · rw [if_pos (.inr ⟨b, hki⟩), if_neg a, if_pos b]; omega
        · rw [if_neg (by omega), if_neg a, if_neg b]; omega
    · rw [show min (k + 1) i = i by omega, show min k i = i by omega]
      by_cases a : l.getD k 0 < l.getD i 0
      · rw [if_pos (.inl a), if_pos a]; omega
      · rw [if_neg (by omega), if_neg a]; omega
theorem ahead_all (l : List Int) {i : Nat} (hi : i < l.length) : aheadTo l i l.length = lessN l (l.getD i 0) + eqN (l.take i) (l.getD i 0) := by
  rw [ahead_counts l i l.length (Nat.le_refl _), List.take_length, show min l.length i = i by omega]
theorem ahead_spot (l : List Int) {i : Nat} (hi : i < l.length) : Spot l (aheadTo l i l.length) (l.getD i 0) := by
  rw [ahead_all l hi]
  refine ⟨by omega, ?_⟩
  rw [upN_split]
  have e : eqN l (l.getD i 0) = eqN (l.take i) (l.getD i 0) + eqN (l.drop i) (l.getD i 0) := by
    unfold eqN
    rw [← List.countP_append, List.take_append_drop]
  have h : 0 < eqN (l.drop i) (l.getD i 0) := by
    unfold eqN
    rw [List.countP_pos_iff]
    exact ⟨l[i], by rw [List.drop_eq_getElem_cons hi]; exact List.mem_cons_self, by rw [getD_lt hi]; simp⟩
  omega
theorem nth_eq (v : Int) : ∀ (l : List Int) (m : Nat), m < eqN l v → ∃ i, i < l.length ∧ l.getD i 0 = v ∧ eqN (l.take i) v = m
  | [], m, h => by simp [eqN] at h
  | a :: l, m, h => by
    have e : eqN (a :: l) v = eqN l v + if a = v then 1 else 0 := by unfold eqN; rw [List.countP_cons]; simp
    by_cases ha : a = v
    · rcases m with _ | m
      · exact ⟨0, by simp, by simpa using ha, by simp [eqN]⟩
      · obtain ⟨i, h1, h2, h3⟩ := nth_eq v l m (by rw [e, if_pos ha] at h; omega)
        refine ⟨i + 1, by simpa using h1, by simpa using h2, ?_⟩
        rw [List.take_succ_cons]
        unfold eqN at *
        rw [List.countP_cons, h3]
        simp [ha]
    · obtain ⟨i, h1, h2, h3⟩ := nth_eq v l m (by rw [e, if_neg ha] at h; omega)
      refine ⟨i + 1, by simpa using h1, by simpa using h2, ?_⟩
      rw [List.take_succ_cons]
      unfold eqN at *
      rw [List.countP_cons, h3]
      simp [ha]
theorem ahead_some (l : List Int) {p : Nat} (hp : p < l.length) : ∃ i, i < l.length ∧ aheadTo l i l.length = p := by
  obtain ⟨h1, h2⟩ := spot_srt l hp
  rw [upN_split] at h2
  obtain ⟨i, k1, k2, k3⟩ := nth_eq ((srt l).getD p 0) l (p - lessN l ((srt l).getD p 0)) (by omega)
  refine ⟨i, k1, ?_⟩
  rw [ahead_all l k1, k2, k3]
  omega
/-- What is found at place p. -/
theorem ahead_is (l : List Int) {i p : Nat} (hi : i < l.length) (h : aheadTo l i l.length = p) (hp : p < l.length) : l.getD i 0 = (srt l).getD p 0 := by
  subst h
  exact (srt_spot hp (ahead_spot l hi)).symm

theorem ahead_le (l : List Int) (i : Nat) : ∀ k, aheadTo l i k ≤ k
  | 0 => Nat.le_refl _
  | k + 1 => by
    have := ahead_le l i k
    unfold aheadTo
    split <;> omega

/-! What may be, and what is told. -/
def okV (l : List Int) : Bool := l.all fun x => decide (-4294967296 ≤ x) && decide (x ≤ 4294967296)
def okN (n : Nat) (k : Int) : Bool := decide (0 ≤ k) && decide (2 * k + 1 ≤ (n : Int))
def okM (l : List Int) (k : Int) : Bool := okV l && okN l.length k
theorem okV_iff {l : List Int} : okV l = true ↔ ∀ x ∈ l, -4294967296 ≤ x ∧ x ≤ 4294967296 := by
  unfold okV
  simp only [List.all_eq_true, Bool.and_eq_true, decide_eq_true_eq]
theorem okN_iff {n : Nat} {k : Int} : okN n k = true ↔ ∃ m : Nat, k = (m : Int) ∧ 2 * m + 1 ≤ n := by
  unfold okN
  simp only [Bool.and_eq_true, decide_eq_true_eq]
  constructor
  · rintro ⟨h1, h2⟩
    exact ⟨k.toNat, by omega, by omega⟩
  · rintro ⟨m, rfl, h⟩
    omega
/-- What is left. -/
def trimL (l : List Int) (k : Nat) : List Int := ((srt l).drop k).take (l.length - 2 * k)
def loM (l : List Int) (k : Nat) : Int := (srt l).getD k 0
def hiM (l : List Int) (k : Nat) : Int := (srt l).getD (l.length - 1 - k) 0
theorem trim_len {l : List Int} {k : Nat} (h : 2 * k + 1 ≤ l.length) : (trimL l k).length = l.length - 2 * k := by
  unfold trimL
  rw [List.length_take, List.length_drop, srt_len]
  omega
theorem trim_at {l : List Int} {k i : Nat} (h : 2 * k + 1 ≤ l.length) (hi : i < l.length - 2 * k) : (trimL l k).getD i 0 = (srt l).getD (k + i) 0 := by
  have hs := srt_len l
  rw [getD_lt (by rw [trim_len h]; exact hi), getD_lt (by omega)]
  unfold trimL
  rw [List.getElem_take, List.getElem_drop]
theorem trim_take {l : List Int} {k i : Nat} (h : 2 * k + 1 ≤ l.length) (hi : i < l.length - 2 * k) : (trimL l k).take (i + 1) = (trimL l k).take i ++ [(srt l).getD (k + i) 0] := by
  rw [List.take_add_one, List.getElem?_eq_getElem (by rw [trim_len h]; exact hi), ← trim_at h hi, getD_lt (by rw [trim_len h]; exact hi)]
  rfl
theorem trim_up (l : List Int) (k : Nat) : (trimL l k).Pairwise (· ≤ ·) := ((srt_up l).sublist (List.drop_sublist _ _)).sublist (List.take_sublist _ _)
theorem trim_mem {l : List Int} {k : Nat} {x : Int} (h : x ∈ trimL l k) : x ∈ l := (srt_perm l).subset (List.mem_of_mem_drop (List.mem_of_mem_take h))

/-! The least and the greatest one, found one by one. -/
def leastL : List Int → Int
  | [] => 0
  | a :: l => l.foldl min a
def mostL : List Int → Int
  | [] => 0
  | a :: l => l.foldl max a
theorem least_step {l : List Int} {x : Int} (h : l ≠ []) : leastL (l ++ [x]) = min (leastL l) x := by
  match l, h with
  | a :: l, _ => simp [leastL, List.foldl_append]
theorem most_step {l : List Int} {x : Int} (h : l ≠ []) : mostL (l ++ [x]) = max (mostL l) x := by
  match l, h with
  | a :: l, _ => simp [mostL, List.foldl_append]
theorem foldl_min (l : List Int) : ∀ a : Int, (l.foldl min a = a ∨ l.foldl min a ∈ l) ∧ l.foldl min a ≤ a ∧ ∀ x ∈ l, l.foldl min a ≤ x := by
  induction l with
  | nil => intro a; simp
  | cons b l ih =>
    intro a
    obtain ⟨h1, h2, h3⟩ := ih (min a b)
    rw [List.foldl_cons]
    refine ⟨?_, by omega, fun x hx => ?_⟩
    · rcases h1 with h | h
      · rw [h]
        rcases Int.le_total a b with k | k
        · left; omega
        · right; rw [show min a b = b by omega]; exact List.mem_cons_self
      · exact .inr (List.mem_cons_of_mem _ h)
    · rcases List.mem_cons.1 hx with rfl | hx
      · omega
      · exact h3 x hx
theorem foldl_max (l : List Int) : ∀ a : Int, (l.foldl max a = a ∨ l.foldl max a ∈ l) ∧ a ≤ l.foldl max a ∧ ∀ x ∈ l, x ≤ l.foldl max a := by
  induction l with
  | nil => intro a; simp
  | cons b l ih =>
    intro a
    obtain ⟨h1, h2, h3⟩ := ih (max a b)
    rw [List.foldl_cons]
    refine ⟨?_, by omega, fun x hx => ?_⟩
    · rcases h1 with h | h
      · rw [h]
        rcases Int.le_total a b with k | k
        · right; rw [show max a b = b by omega]; exact List.mem_cons_self
        · left; omega
      · exact .inr (List.mem_cons_of_mem _ h)
    · rcases List.mem_cons.1 hx with rfl | hx
      · omega
      · exact h3 x hx
theorem least_is {l : List Int} (h : l ≠ []) : leastL l ∈ l ∧ ∀ x ∈ l, leastL l ≤ x := by
  match l, h with
  | a :: l, _ =>
    obtain ⟨h1, h2, h3⟩ := foldl_min l a
    refine ⟨?_, fun x hx => ?_⟩
    · rcases h1 with h | h
      · show l.foldl min a ∈ _; rw [h]; exact List.mem_cons_self
      · exact List.mem_cons_of_mem _ h
    · rcases List.mem_cons.1 hx with rfl | hx
      · exact h2
      · exact h3 x hx
theorem most_is {l : List Int} (h : l ≠ []) : mostL l ∈ l ∧ ∀ x ∈ l, x ≤ mostL l := by
  match l, h with
  | a :: l, _ =>
    obtain ⟨h1, h2, h3⟩ := foldl_max l a
    refine ⟨?_, fun x hx => ?_⟩
    · rcases h1 with h | h
      · show l.foldl max a ∈ _; rw [h]; exact List.mem_cons_self
      · exact List.mem_cons_of_mem _ h
    · rcases List.mem_cons.1 hx with rfl | hx
      · exact h2
      · exact h3 x hx
theorem okV_ends (l : List Int) : okV l = (decide (-4294967296 ≤ leastL l) && decide (mostL l ≤ 4294967296)) := by
  rw [Bool.eq_iff_iff, okV_iff]
  simp only [Bool.and_eq_true, decide_eq_true_eq]
  rcases Classical.em (l = []) with rfl | h
  · simp [leastL, mostL]
  · obtain ⟨h1, h2⟩ := least_is h
    obtain ⟨k1, k2⟩ := most_is h
    constructor
    · intro hx
      exact ⟨(hx _ h1).1, (hx _ k1).2⟩
    · rintro ⟨a, b⟩ x hx
      have := h2 x hx
      have := k2 x hx
      omega
theorem trim_ends {l : List Int} {k : Nat} (h : 2 * k + 1 ≤ l.length) : leastL (trimL l k) = loM l k ∧ mostL (trimL l k) = hiM l k := by
  have hl := trim_len h
  have hne : trimL l k ≠ [] := by intro e; rw [e] at hl; simp at hl; omega
  have up := trim_up l k
  obtain ⟨h1, h2⟩ := least_is hne
  obtain ⟨k1, k2⟩ := most_is hne
  have e0 := trim_at h (i := 0) (by omega)
  have e9 := trim_at h (i := l.length - 2 * k - 1) (by omega)
  rw [Nat.add_zero] at e0
  rw [show k + (l.length - 2 * k - 1) = l.length - 1 - k by omega] at e9
  have m0 := getD_mem (l := trimL l k) (i := 0) (by omega)
  have m9 := getD_mem (l := trimL l k) (i := l.length - 2 * k - 1) (by omega)
  unfold loM hiM
  rw [← e0, ← e9]
  constructor
  · obtain ⟨j, hj, e⟩ := List.mem_iff_getElem.1 h1
    have a := up_at up (i := 0) (j := j) (by omega) hj
    rw [getD_lt hj, e] at a
    have := h2 _ m0
    omega
  · obtain ⟨j, hj, e⟩ := List.mem_iff_getElem.1 k1
    have a := up_at up (i := j) (j := l.length - 2 * k - 1) (by omega) (by omega)
    rw [getD_lt hj, e] at a
    have := k2 _ m9
    omega
/-- The midpoint. -/
def midM (l : List Int) (k : Nat) : Int := (loM l k + hiM l k) / 2
def sprM (l : List Int) (k : Nat) : Int := hiM l k - loM l k
theorem lo_hi {l : List Int} {k : Nat} (h : 2 * k + 1 ≤ l.length) : loM l k ≤ hiM l k := srt_at l (by omega) (by omega)
theorem lo_ok {l : List Int} {k : Nat} (hv : okV l = true) (h : 2 * k + 1 ≤ l.length) : -4294967296 ≤ loM l k ∧ loM l k ≤ 4294967296 := okV_iff.1 hv _ (srt_mem (by omega))
theorem hi_ok {l : List Int} {k : Nat} (hv : okV l = true) (h : 2 * k + 1 ≤ l.length) : -4294967296 ≤ hiM l k ∧ hiM l k ≤ 4294967296 := okV_iff.1 hv _ (srt_mem (by omega))
end Go.Proofs.Yteljalgfkmnamaa
