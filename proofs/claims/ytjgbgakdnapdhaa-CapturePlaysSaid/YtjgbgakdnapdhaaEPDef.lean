/- What the document's capture holds, in order: its answers in numbers. No condition. -/
import Derived.Test.YtjgbgakdnapdhaaEAgM
namespace Go.Proofs.Ytjgbgakdnapdhaa
open Go.RowKit Go.Shelf

/-- What was noted: three cells. -/
def onC (o : Oe) : List Value := [.int .i64 o.n, .int .i64 o.c, .int .i64 o.v]
theorem onC_cells {w : World} {g o : Nat} {x : Oe} (h : w.rangeAt g o (onC x)) : w.cell? ⟨g, o, none⟩ = some (.int .i64 x.n) ∧ w.cell? ⟨g, o + 1, none⟩ = some (.int .i64 x.c) ∧ w.cell? ⟨g, o + 2, none⟩ = some (.int .i64 x.v) := ⟨h 0 _ rfl, h 1 _ rfl, h 2 _ rfl⟩
theorem onC_one : ∀ (d : Oe), ∀ u ∈ onC d, u.oneCell' = true := by
  intro d u hu
  simp only [onC, List.mem_cons, List.not_mem_nil, or_false] at hu
  rcases hu with rfl | rfl | rfl <;> rfl
/-- The sum and the number of a node's. -/
def sumD (n : Int) : List Oe → Int
  | [] => 0
  | o :: D => (if o.n = n then o.v else 0) + sumD n D
def cntD (n : Int) : List Oe → Int
  | [] => 0
  | o :: D => (if o.n = n then 1 else 0) + cntD n D
theorem sumD_snoc (n : Int) (o : Oe) : ∀ D, sumD n (D ++ [o]) = sumD n D + (if o.n = n then o.v else 0)
  | [] => by simp [sumD]
  | x :: D => by
    rw [List.cons_append, sumD, sumD, sumD_snoc n o D]
    omega
theorem cntD_snoc (n : Int) (o : Oe) : ∀ D, cntD n (D ++ [o]) = cntD n D + (if o.n = n then 1 else 0)
  | [] => by simp [cntD]
  | x :: D => by
    rw [List.cons_append, cntD, cntD, cntD_snoc n o D]
    omega
theorem cnt_bound (n : Int) : ∀ D : List Oe, 0 ≤ cntD n D ∧ cntD n D ≤ (D.length : Int)
  | [] => by simp [cntD]
  | x :: D => by
    have := cnt_bound n D
    rw [cntD, List.length_cons]
    split <;> omega
theorem sum_bound (n : Int) : ∀ D : List Oe, (∀ o ∈ D, validE o) → -4294967296 * (D.length : Int) ≤ sumD n D ∧ sumD n D ≤ 4294967296 * (D.length : Int)
  | [], _ => by simp [sumD]
  | x :: D, h => by
    have := sum_bound n D (fun o ho => h o (List.mem_cons_of_mem _ ho))
    have hb := byB_iff.1 (h x (by simp)).2.2
    rw [sumD, List.length_cons]
    split <;> omega
theorem good_tail {o : Oe} {D : List Oe} (h : GoodD (o :: D)) : GoodD D := ⟨fun x hx => h.valid x (List.mem_cons_of_mem _ hx), (List.pairwise_cons.1 h.apart).2⟩
theorem putC_at (f : Ca) (n c : Nat) (v : Int) : putC f n c v n c = some v := by unfold putC; simp
theorem putC_chan (f : Ca) (n c d : Nat) (v : Int) (h : d ≠ c) : putC f n c v n d = f n d := by unfold putC; simp [h]
theorem putC_node (f : Ca) (n c i d : Nat) (v : Int) (h : i ≠ n) : putC f n c v i d = f i d := by unfold putC; simp [h]
/-- A node's sum and number, by what was noted of its channels. -/
theorem sums_are {n : Nat} : ∀ {D : List Oe}, GoodD D → sumD (n : Int) D = (look D n 0).getD 0 + (look D n 1).getD 0 ∧ cntD (n : Int) D = (if (look D n 0).isSome then 1 else 0) + (if (look D n 1).isSome then 1 else 0)
  | [], _ => by rw [look_nil]; exact ⟨rfl, rfl⟩
  | o :: D, h => by
    obtain ⟨i1, i2⟩ := sums_are (n := n) (good_tail h)
    obtain ⟨v1, v2, _⟩ := h.valid o (by simp)
    have e1 := toNat_of v1
    have e2 := toNat_of' v2
    have hno : look D o.n.toNat o.c.toNat = none := look_none.2 fun x hx e => by
      rw [e1, e2] at e
      exact (List.pairwise_cons.1 h.apart).1 x hx ⟨e.1.symm, e.2.symm⟩
    rw [sumD, cntD, i1, i2, look_cons v1 v2]
    by_cases hn : o.n = (n : Int)
    · have hnn : o.n.toNat = n := by omega
      rw [hnn] at hno ⊢
      rw [if_pos hn, if_pos hn]
      obtain ⟨j, hj, hc⟩ := chanB_iff.1 v2
      have hcc : o.c.toNat = j := by omega
      rw [hcc] at hno ⊢
      rcases (show j = 0 ∨ j = 1 by omega) with rfl | rfl
      · rw [putC_at, putC_chan _ _ _ _ _ (by decide), hno]
        refine ⟨?_, ?_⟩
        · show o.v + (0 + _) = o.v + _
          omega
        · simp
      · rw [putC_at, putC_chan _ _ _ _ _ (by decide), hno]
        refine ⟨?_, ?_⟩
        · show o.v + (_ + 0) = _ + o.v
          omega
        · simp; omega
    · have hnn : n ≠ o.n.toNat := by omega
      rw [if_neg hn, if_neg hn, putC_node _ _ _ _ _ _ hnn, putC_node _ _ _ _ _ _ hnn]
      exact ⟨by omega, by omega⟩
theorem sums_none {n : Int} (hn : nodeB n = false) : ∀ {D : List Oe}, GoodD D → cntD n D = 0
  | [], _ => rfl
  | o :: D, h => by
    have := sums_none hn (good_tail h)
    rw [cntD, this, if_neg]
    · rfl
    · intro e
      have := (h.valid o (by simp)).1
      rw [e, hn] at this
      cases this
/-- What Of of the document answers. -/
theorem of_three {D : List Oe} (h : GoodD D) (n : Int) : (cntD n D = 0 ∧ ofC (look D) n = none) ∨ (cntD n D = 1 ∧ ofC (look D) n = some (sumD n D)) ∨ (cntD n D = 2 ∧ ofC (look D) n = some (sumD n D / 2)) := by
  cases hn : nodeB n
  · left
    refine ⟨sums_none hn h, ?_⟩
    unfold ofC
    rw [hn]
    rfl
  · obtain ⟨k, hk, rfl⟩ := nodeB_iff.1 hn
    obtain ⟨h1, h2⟩ := sums_are (n := k) h
    unfold ofC devF
    rw [if_pos hn, Int.toNat_natCast, h1, h2]
    cases look D k 0 <;> cases look D k 1 <;> simp [devP]
/-- What is there behind the document's Note, and Forget. -/
def noteD (D : List Oe) (n c v : Int) : List Oe := if okB (look D) n c v then D ++ [⟨0, n, c, v⟩] else D
def dropD (D : List Oe) (n : Int) : List Oe := D.filter fun o => !decide (o.n = n)
theorem noteD_good {D : List Oe} (h : GoodD D) (n c v : Int) : GoodD (noteD D n c v) ∧ noteF (look D) n c v = look (noteD D n c v) := by
  unfold noteD
  cases hok : okB (look D) n c v
  · exact ⟨h, (note_no hok).2⟩
  · exact good_snoc (o := ⟨0, n, c, v⟩) h hok
theorem noteD_len (D : List Oe) (n c v : Int) : (noteD D n c v).length ≤ D.length + 1 := by
  unfold noteD
  split <;> simp
theorem dropD_len (D : List Oe) (n : Int) : (dropD D n).length ≤ D.length := List.length_filter_le _ _
theorem dropD_good {D : List Oe} (h : GoodD D) (n : Int) : GoodD (dropD D n) := ⟨fun o ho => h.valid o (List.mem_filter.1 ho).1, h.apart.sublist List.filter_sublist⟩
theorem look_dropD (D : List Oe) (n : Int) : EqC (dropC (look D) n) (look (dropD D n)) := by
  have key : ∀ i c : Nat, look (dropD D n) i c = if (i : Int) = n then none else look D i c := by
    intro i c
    split
    · rename_i e
      refine look_none.2 fun o ho hk => ?_
      have := (List.mem_filter.1 ho).2
      simp only [Bool.not_eq_true', decide_eq_false_iff_not] at this
      exact this (hk.1.trans e)
    · rename_i e
      unfold look dropD
      rw [List.find?_filter]
      congr 1
      congr 1
      funext o
      by_cases h1 : o.n = (i : Int)
      · simp [h1, e]
      · simp [h1]
  intro i hi
  rw [key, key]
  unfold dropC
  cases hn : nodeB n
  · have : ¬ (i : Int) = n := fun e => by
      rw [← e, nodeB_iff.2 ⟨i, hi, rfl⟩] at hn
      cases hn
    rw [if_neg this, if_neg this]
    exact ⟨rfl, rfl⟩
  · obtain ⟨k, hk, rfl⟩ := nodeB_iff.1 hn
    rw [if_pos rfl, Int.toNat_natCast]
    by_cases e : i = k
    · subst e
      rw [if_pos rfl, if_pos rfl]
      exact set_at _ _ _ _
    · have e2 : ¬ (i : Int) = (k : Int) := by omega
      rw [if_neg e2, if_neg e2, set_far _ _ _ e, set_far _ _ _ e]
      exact ⟨rfl, rfl⟩
theorem noteF_congr {f g : Ca} (h : EqC f g) (n c v : Int) : noteE f n c v = noteE g n c v ∧ EqC (noteF f n c v) (noteF g n c v) := by
  have hok : okB f n c v = okB g n c v := by
    unfold okB
    cases hn : nodeB n
    · rfl
    · cases hc : chanB c
      · rfl
      · obtain ⟨k, hk, rfl⟩ := nodeB_iff.1 hn
        obtain ⟨j, hj, rfl⟩ := chanB_iff.1 hc
        rw [Int.toNat_natCast, Int.toNat_natCast]
        rcases (show j = 0 ∨ j = 1 by omega) with rfl | rfl
        · rw [(h k hk).1]
        · rw [(h k hk).2]
  unfold noteE noteF
  rw [hok]
  refine ⟨rfl, ?_⟩
  split
  · intro i hi
    unfold putC
    rw [(h i hi).1, (h i hi).2]
    exact ⟨rfl, rfl⟩
  · exact h
theorem ofC_congr {f g : Ca} (h : EqC f g) (n : Int) : ofC f n = ofC g n := by
  unfold ofC
  cases hn : nodeB n
  · rfl
  · obtain ⟨k, hk, rfl⟩ := nodeB_iff.1 hn
    rw [if_pos rfl, if_pos rfl, Int.toNat_natCast, dev_congr h hk]
theorem valC_congr {f g : Ca} (h : EqC f g) (own : Int) : valC f own = valC g own := by
  unfold valC
  congr 1
  apply listC_congr
  unfold ownC
  split
  · intro i hi
    by_cases e : i = own.toNat
    · rw [e]
      exact ⟨(set_at f _ _ _).1.trans (set_at g _ _ _).1.symm, (set_at f _ _ _).2.trans (set_at g _ _ _).2.symm⟩
    · rw [set_far f _ _ e, set_far g _ _ e, set_far f _ _ e, set_far g _ _ e]
      exact h i hi
  · exact h
theorem dropC_congr {f g : Ca} (h : EqC f g) (n : Int) : EqC (dropC f n) (dropC g n) := by
  unfold dropC
  split
  · intro i hi
    by_cases e : i = n.toNat
    · rw [e]
      exact ⟨(set_at f _ _ _).1.trans (set_at g _ _ _).1.symm, (set_at f _ _ _).2.trans (set_at g _ _ _).2.symm⟩
    · rw [set_far f _ _ e, set_far g _ _ e, set_far f _ _ e, set_far g _ _ e]
      exact h i hi
  · exact h
/-- The document's values, node by node. -/
def vlTo (f : Ca) (own : Int) (k : Nat) : List Int := (listTo (ownC f own) k).map De.v
theorem vlTo_succ (f : Ca) (own : Int) (k : Nat) (hk : k < 16) : vlTo f own (k + 1) = if (k : Int) = own then vlTo f own k ++ [0] else match devF f k with | some v => vlTo f own k ++ [v] | none => vlTo f own k := by
  unfold vlTo
  rw [listTo_succ, List.map_append]
  unfold ownC
  cases hn : nodeB own
  · have : ¬ (k : Int) = own := fun e => by
      rw [← e, nodeB_iff.2 ⟨k, hk, rfl⟩] at hn
      cases hn
    rw [if_neg this, if_neg (by decide)]
    cases devF f k <;> simp
  · obtain ⟨m, hm, rfl⟩ := nodeB_iff.1 hn
    rw [if_pos rfl, Int.toNat_natCast, dev_set]
    by_cases e : k = m
    · subst e
      rw [if_pos rfl, if_pos rfl]
      rfl
    · have e2 : ¬ (k : Int) = (m : Int) := by omega
      rw [if_neg e, if_neg e2]
      cases devF f k <;> simp
theorem vlTo_len (f : Ca) (own : Int) (k : Nat) : (vlTo f own k).length ≤ k := by
  unfold vlTo
  rw [List.length_map]
  exact listTo_len _ _
end Go.Proofs.Ytjgbgakdnapdhaa
