/- Groups as numbers: what the document's own functions reckon. Plain facts. -/
import Derived.Test.YtnpjldolppikfaaGOf
namespace Go.Proofs.Ytnpjldolppikfaa

theorem or_add_17 (x y : BitVec 17) (h : x &&& y = 0#17) : (x ||| y).toNat = (x.toNat + y.toNat) % 2 ^ 17 := by
  rw [← BitVec.add_eq_or_of_and_eq_zero x y h, BitVec.toNat_add]
theorem or_add {a b : Nat} (ha : a < 65536) (hb : b < 65536) (h : a &&& b = 0) : a ||| b = a + b := by
  have hx : (BitVec.ofNat 17 a).toNat = a := by rw [BitVec.toNat_ofNat]; exact Nat.mod_eq_of_lt (by omega)
  have hy : (BitVec.ofNat 17 b).toNat = b := by rw [BitVec.toNat_ofNat]; exact Nat.mod_eq_of_lt (by omega)
  have h0 : BitVec.ofNat 17 a &&& BitVec.ofNat 17 b = 0#17 := by
    apply BitVec.eq_of_toNat_eq
    rw [BitVec.toNat_and, hx, hy, h]
    rfl
  have := or_add_17 _ _ h0
  rw [BitVec.toNat_or, hx, hy] at this
  omega

theorem with_has {g : Nat} {n : Int} (hg : g < 65536) (h : hasG g n = true) : withG g n = g := by
  have hn := hasG_node h
  have hb : g.testBit n.toNat = true := by simpa [hasG, hn] using h
  refine bits_ext (withG_lt n hg) hg fun i _ => ?_
  rw [bit_with, hn, Bool.true_and]
  by_cases e : n.toNat = i
  · subst e; simp [hb]
  · simp [e]
theorem without_has {g : Nat} {n : Int} (hg : g < 65536) (h : hasG g n = false) : withoutG g n = g := by
  refine bits_ext (withoutG_lt n hg) hg fun i hi => ?_
  rw [bit_without g n hi]
  cases hn : nodeB n
  · simp
  · by_cases e : n.toNat = i
    · subst e
      have hb : g.testBit n.toNat = false := by simpa [hasG, hn] using h
      simp [hb]
    · simp [e]
theorem and_only {g : Nat} {n : Int} (h : hasG g n = false) : g &&& onlyG n = 0 := by
  have := hasG_and g n
  rw [h] at this
  have e : ((bothG g (onlyG n) : Nat) : Int) = 0 := by simpa using this
  unfold bothG at e
  omega
theorem with_add {g : Nat} {n : Int} (hg : g < 65536) (h : hasG g n = false) : withG g n = g + onlyG n :=
  or_add hg (onlyG_lt n) (and_only h)
theorem has_with (g : Nat) (n m : Int) : hasG (withG g n) m = (hasG g m || (nodeB n && decide (n = m))) := by
  unfold hasG
  rw [bit_with]
  cases hm : nodeB m
  · cases hn : nodeB n
    · simp
    · have : n ≠ m := by rintro rfl; rw [hm] at hn; cases hn
      simp [this]
  · cases hn : nodeB n
    · simp
    · have a := node_yes hm
      have b := node_yes hn
      have : decide (n.toNat = m.toNat) = decide (n = m) := by
        congr 1
        rw [eq_iff_iff]
        omega
      simp [this]
theorem has_without (g : Nat) (n m : Int) : hasG (withoutG g n) m = (hasG g m && !(nodeB n && decide (n = m))) := by
  unfold hasG
  cases hm : nodeB m
  · simp
  · have a := node_yes hm
    rw [bit_without g n (by omega)]
    cases hn : nodeB n
    · simp
    · have b := node_yes hn
      have : decide (n.toNat = m.toNat) = decide (n = m) := by
        congr 1
        rw [eq_iff_iff]
        omega
      simp [this]
theorem without_sub {g : Nat} {n : Int} (hg : g < 65536) (h : hasG g n = true) : withoutG g n + onlyG n = g := by
  have hn := hasG_node h
  have h0 : hasG (withoutG g n) n = false := by rw [has_without, hn]; simp
  rw [← with_add (withoutG_lt n hg) h0]
  have hb : g.testBit n.toNat = true := by simpa [hasG, hn] using h
  refine bits_ext (withG_lt n (withoutG_lt n hg)) hg fun i hi => ?_
  rw [bit_with, bit_without g n hi, hn, Bool.true_and]
  by_cases e : n.toNat = i
  · subst e; simp [hb]
  · simp [e]

theorem first_succ {k : Nat} (h : k < 16) : withG (firstG (k : Int)) (k : Int) = firstG ((k + 1 : Nat) : Int) := by
  refine bits_ext (withG_lt _ (firstG_lt _)) (firstG_lt _) fun i hi => ?_
  rw [bit_with, bit_first _ hi, bit_first _ hi, node_nat h, Bool.true_and, Int.toNat_natCast, Bool.eq_iff_iff]
  simp
  omega
theorem first_zero : firstG ((0 : Nat) : Int) = 0 := by decide
theorem first_none {n : Int} (h : n ≤ 0) : firstG n = 0 := if_pos h
theorem first_all {n : Int} (h : 16 ≤ n) : firstG n = firstG ((16 : Nat) : Int) := by
  unfold firstG
  rw [if_neg (by omega), if_pos h]
  rfl

/-- How a list's nodes are put in. -/
theorem bit_fold {l : List Int} (h : l.all nodeB = true) : ∀ (g i : Nat), i < 16 → (l.foldl withG g).testBit i = (g.testBit i || decide ((i : Int) ∈ l)) := by
  induction l with
  | nil => intro g i _; simp
  | cons x l ih =>
    intro g i hi
    rw [List.all_cons, Bool.and_eq_true] at h
    rw [List.foldl_cons, ih h.2 _ i hi, bit_with, h.1, Bool.true_and, Bool.or_assoc]
    congr 1
    have a := node_yes h.1
    rw [Bool.eq_iff_iff]
    simp only [Bool.or_eq_true, decide_eq_true_eq, List.mem_cons]
    constructor
    · rintro (h | h)
      · exact .inl (by omega)
      · exact .inr h
    · rintro (h | h)
      · exact .inl (by omega)
      · exact .inr h
theorem mem_listI {g : Nat} {x : Int} : x ∈ listI g ↔ hasG g x = true := by
  unfold listI
  rw [List.mem_map]
  constructor
  · rintro ⟨i, hi, rfl⟩
    rw [mem_listG] at hi
    rw [hasG_nat hi.1]
    exact hi.2
  · intro h
    obtain ⟨a, b⟩ := node_yes (hasG_node h)
    obtain ⟨k, rfl⟩ := Int.eq_ofNat_of_zero_le a
    refine ⟨k, mem_listG.2 ⟨by omega, ?_⟩, rfl⟩
    rwa [hasG_nat (by omega)] at h
theorem listI_all (g : Nat) : (listI g).all nodeB = true := by
  rw [List.all_eq_true]
  intro x hx
  exact hasG_node (mem_listI.1 hx)
theorem fold_same {l : List Int} {g : Nat} (hg : g < 65536) (hall : l.all nodeB = true) (h : ∀ x, x ∈ l ↔ hasG g x = true) : l.foldl withG 0 = g := by
  refine bits_ext (fold_lt l 0 (by decide)) hg fun i hi => ?_
  rw [bit_fold hall 0 i hi, Nat.zero_testBit, Bool.false_or, Bool.eq_iff_iff, decide_eq_true_eq, h, hasG_nat hi]
theorem ofV_list {g : Nat} (hg : g < 65536) : ofV (listI g) = g := by
  unfold ofV
  rw [if_pos (listI_all g)]
  exact fold_same hg (listI_all g) fun x => mem_listI
theorem ofE_list (g : Nat) : ofE (listI g) = 0 := if_pos (listI_all g)

/-- The document's Both, as it goes through a list. -/
def bothF (b : Nat) (l : List Int) : Nat := l.foldl (fun out x => if hasG b x = true then withG out x else out) 0
def lessF (a : Nat) (l : List Int) : Nat := l.foldl withoutG a
theorem bothF_filter (b : Nat) (l : List Int) : ∀ g, l.foldl (fun out x => if hasG b x = true then withG out x else out) g = (l.filter (hasG b)).foldl withG g := by
  induction l with
  | nil => intro g; rfl
  | cons x l ih =>
    intro g
    rw [List.foldl_cons, ih, List.filter_cons]
    split
    · rfl
    · rfl
theorem has_both (a b : Nat) (x : Int) : hasG (bothG a b) x = (hasG a x && hasG b x) := by
  unfold hasG
  rw [bit_both]
  cases nodeB x <;> simp
theorem has_less {a b : Nat} (hb : b < 65536) (x : Int) : hasG (lessG a b) x = (hasG a x && !hasG b x) := by
  unfold hasG
  cases h : nodeB x
  · simp
  · have := node_yes h
    rw [bit_less hb (by omega)]
    simp
theorem bothF_list {a b : Nat} (ha : a < 65536) : bothF b (listI a) = bothG a b := by
  unfold bothF
  rw [bothF_filter]
  have hall : ((listI a).filter (hasG b)).all nodeB = true := by
    rw [List.all_eq_true]
    intro x hx
    exact hasG_node (mem_listI.1 (List.mem_filter.1 hx).1)
  exact fold_same (bothG_lt ha) hall fun x => by rw [List.mem_filter, mem_listI, has_both, Bool.and_eq_true]
theorem bothF_lt (b : Nat) (l : List Int) : bothF b l < 65536 := by
  unfold bothF
  rw [bothF_filter]
  exact fold_lt _ 0 (by decide)
theorem bothF_succ {b : Nat} {l : List Int} {k : Nat} (h : k < l.length) : bothF b (l.take (k + 1)) = if hasG b l[k] = true then withG (bothF b (l.take k)) l[k] else bothF b (l.take k) := by
  unfold bothF
  rw [List.take_succ_eq_append_getElem h, List.foldl_append]
  rfl
theorem lessF_lt {a : Nat} (ha : a < 65536) (l : List Int) : lessF a l < 65536 := by
  unfold lessF
  induction l generalizing a with
  | nil => exact ha
  | cons x l ih => exact ih (withoutG_lt x ha)
theorem lessF_has (l : List Int) : ∀ a x, hasG (lessF a l) x = (hasG a x && !(nodeB x && decide (x ∈ l))) := by
  unfold lessF
  induction l with
  | nil => intro a x; simp
  | cons y l ih =>
    intro a x
    rw [List.foldl_cons, ih, has_without]
    cases hx : nodeB x
    · have : (nodeB y && decide (y = x)) = false := by
        by_cases e : y = x
        · subst e; simp [hx]
        · simp [e]
      simp [this]
    · by_cases e : y = x
      · subst e; simp [hx]
      · have e' : ¬ x = y := fun h => e h.symm
        simp [e, e']
theorem group_ext {a b : Nat} (ha : a < 65536) (hb : b < 65536) (h : ∀ x, hasG a x = hasG b x) : a = b :=
  bits_ext ha hb fun i hi => by rw [← hasG_nat hi, ← hasG_nat hi]; exact h _
theorem lessF_list {a b : Nat} (ha : a < 65536) (hb : b < 65536) : lessF a (listI b) = lessG a b := by
  refine group_ext (lessF_lt ha _) (lessG_lt ha) fun x => ?_
  rw [lessF_has, has_less hb]
  congr 2
  cases hx : nodeB x
  · rw [hasG_no hx]; simp
  · rw [Bool.true_and, Bool.eq_iff_iff, decide_eq_true_eq, mem_listI]
theorem lessF_succ {a : Nat} {l : List Int} {k : Nat} (h : k < l.length) : lessF a (l.take (k + 1)) = withoutG (lessF a (l.take k)) l[k] := by
  unfold lessF
  rw [List.take_succ_eq_append_getElem h, List.foldl_append]
  rfl

/-- How many of a list's numbers are below n. -/
def belowF (n : Int) (l : List Int) : Nat := (l.filter fun x => decide (x < n)).length
theorem belowF_le (n : Int) (l : List Int) : belowF n l ≤ l.length := List.length_filter_le _ _
theorem belowF_list (g : Nat) (n : Int) : belowF n (listI g) = rankG g n := by
  unfold belowF rankG listI
  rw [List.filter_map, List.length_map]
  rfl
theorem belowF_succ {n : Int} {l : List Int} {k : Nat} (h : k < l.length) : belowF n (l.take (k + 1)) = belowF n (l.take k) + if l[k] < n then 1 else 0 := by
  unfold belowF
  rw [List.take_succ_eq_append_getElem h, List.filter_append, List.length_append]
  congr 1
  by_cases e : l[k] < n <;> simp [e]

/-- A group, shifted k times; the group of a node alone. -/
def qG (g k : Nat) : Nat := g / 2 ^ k
def pG (k : Nat) : Nat := 2 ^ k
theorem qG_zero (g : Nat) : qG g 0 = g := by simp [qG]
theorem qG_lt {g : Nat} (k : Nat) (h : g < 65536) : qG g k < 65536 := Nat.lt_of_le_of_lt (Nat.div_le_self _ _) h
theorem qG_succ (g k : Nat) : ((qG g (k + 1) : Nat) : Int) = (qG g k : Int) / 2 := by
  have : qG g (k + 1) = qG g k / 2 := by
    unfold qG
    rw [Nat.div_div_eq_div_mul, Nat.pow_succ]
  rw [this]
  omega
theorem qG_has {g k : Nat} (h : k < 16) : (((qG g k : Int) % 2) == 1) = hasG g (k : Int) := by
  rw [hasG_nat h, Nat.testBit_eq_decide_div_mod_eq, Bool.eq_iff_iff, beq_iff_eq, decide_eq_true_eq]
  unfold qG
  omega
theorem pG_zero : pG 0 = 1 := rfl
theorem pG_succ (k : Nat) : ((pG (k + 1) : Nat) : Int) = 2 * (pG k : Int) := by
  unfold pG
  rw [Nat.pow_succ]
  omega
theorem pG_le {k : Nat} (h : k < 15) : pG k ≤ 16384 := Nat.pow_le_pow_right (i := k) (j := 14) (by decide) (by omega)
theorem pG_only {k : Nat} (h : k < 16) : pG k = onlyG (k : Int) := by
  unfold onlyG pG
  rw [if_pos (node_nat h), Int.toNat_natCast]

end Go.Proofs.Ytnpjldolppikfaa
