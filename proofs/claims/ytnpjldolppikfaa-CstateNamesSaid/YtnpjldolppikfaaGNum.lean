/- Groups of sixteen as numbers: plain facts. No condition. -/
import Derived.Test.YtnpjldolppikfaaMem
namespace Go.Proofs.Ytnpjldolppikfaa

/-- Is n a node? -/
def nodeB (n : Int) : Bool := decide (0 ≤ n) && decide (n ≤ 15)
/-- The group of one node. -/
def onlyG (n : Int) : Nat := if nodeB n = true then 2 ^ n.toNat else 0
def bothG (a b : Nat) : Nat := a &&& b
def lessG (a b : Nat) : Nat := a &&& (65535 - b)
def withG (g : Nat) (n : Int) : Nat := g ||| onlyG n
def withoutG (g : Nat) (n : Int) : Nat := lessG g (onlyG n)
def hasG (g : Nat) (n : Int) : Bool := nodeB n && g.testBit n.toNat
def listG (g : Nat) : List Nat := (List.range 16).filter fun i => g.testBit i
def countG (g : Nat) : Nat := (listG g).length
def firstG (n : Int) : Nat := if n ≤ 0 then 0 else if 16 ≤ n then 65535 else 2 ^ n.toNat - 1
def rankG (g : Nat) (n : Int) : Nat := ((listG g).filter fun i : Nat => decide ((i : Int) < n)).length
def folG (n : Nat) : List Nat := (List.range 16).map fun k => (n + 1 + k) % 16
def nextG (g : Nat) (n : Int) : Int := if nodeB n = true then (match (folG n.toNat).find? (fun i => g.testBit i) with | some i => (i : Int) | none => -1) else -1

theorem node_no {n : Int} (h : nodeB n = false) : n < 0 ∨ 15 < n := by
  simp [nodeB] at h
  omega
theorem node_yes {n : Int} (h : nodeB n = true) : 0 ≤ n ∧ n ≤ 15 := by
  simp [nodeB] at h
  exact h
theorem node_mk {n : Int} (h : 0 ≤ n ∧ n ≤ 15) : nodeB n = true := by simp [nodeB, h]
theorem node_nat {i : Nat} (h : i < 16) : nodeB (i : Int) = true := node_mk (by omega)
theorem node_not {n : Int} (h : n < 0 ∨ 15 < n) : nodeB n = false := by
  rw [← Bool.not_eq_true]
  intro k
  have := node_yes k
  omega

theorem onlyG_lt (n : Int) : onlyG n < 65536 := by
  unfold onlyG
  split
  · rename_i h
    have := node_yes h
    exact Nat.pow_lt_pow_right (a := 2) (by decide) (show n.toNat < 16 by omega)
  · decide
theorem bothG_lt {a b : Nat} (h : a < 65536) : bothG a b < 65536 := Nat.lt_of_le_of_lt Nat.and_le_left h
theorem lessG_lt {a b : Nat} (h : a < 65536) : lessG a b < 65536 := Nat.lt_of_le_of_lt Nat.and_le_left h
theorem or_lt {a b : Nat} (h : a < 65536) (k : b < 65536) : a ||| b < 65536 := Nat.or_lt_two_pow (n := 16) h k
theorem withG_lt {a : Nat} (n : Int) (h : a < 65536) : withG a n < 65536 := or_lt h (onlyG_lt n)
theorem withoutG_lt {a : Nat} (n : Int) (h : a < 65536) : withoutG a n < 65536 := lessG_lt h
theorem firstG_lt (n : Int) : firstG n < 65536 := by
  unfold firstG
  split
  · decide
  · split
    · decide
    · have : 2 ^ n.toNat < 2 ^ 16 := Nat.pow_lt_pow_right (by decide) (by omega)
      omega

theorem bit_high {g i : Nat} (h : g < 65536) (hi : 16 ≤ i) : g.testBit i = false :=
  Nat.testBit_lt_two_pow (Nat.lt_of_lt_of_le (show g < 2 ^ 16 from h) (Nat.pow_le_pow_right (by decide) hi))
/-- Two groups are the same just if their bits are. -/
theorem bits_ext {a b : Nat} (ha : a < 65536) (hb : b < 65536) (h : ∀ i, i < 16 → a.testBit i = b.testBit i) : a = b := by
  apply Nat.eq_of_testBit_eq
  intro i
  by_cases hi : i < 16
  · exact h i hi
  · rw [bit_high ha (by omega), bit_high hb (by omega)]

theorem bit_only (n : Int) (i : Nat) : (onlyG n).testBit i = (nodeB n && decide (n.toNat = i)) := by
  unfold onlyG
  split
  · rename_i h
    rw [Nat.testBit_two_pow, h, Bool.true_and]
  · rename_i h
    rw [Nat.zero_testBit, (by simpa using h : nodeB n = false), Bool.false_and]
theorem bit_both (a b i : Nat) : (bothG a b).testBit i = (a.testBit i && b.testBit i) := Nat.testBit_and ..
theorem bit_less {a b i : Nat} (hb : b < 65536) (hi : i < 16) : (lessG a b).testBit i = (a.testBit i && !b.testBit i) := by
  unfold lessG
  rw [Nat.testBit_and, show 65535 - b = 2 ^ 16 - (b + 1) from by omega, Nat.testBit_two_pow_sub_succ (show b < 2 ^ 16 from hb), decide_eq_true hi, Bool.true_and]
theorem bit_with (g : Nat) (n : Int) (i : Nat) : (withG g n).testBit i = (g.testBit i || (nodeB n && decide (n.toNat = i))) := by
  unfold withG
  rw [Nat.testBit_or, bit_only]
theorem bit_without (g : Nat) (n : Int) {i : Nat} (hi : i < 16) : (withoutG g n).testBit i = (g.testBit i && !(nodeB n && decide (n.toNat = i))) := by
  unfold withoutG
  rw [bit_less (onlyG_lt n) hi, bit_only]
theorem bit_first (n : Int) {i : Nat} (hi : i < 16) : (firstG n).testBit i = decide ((i : Int) < n) := by
  unfold firstG
  split
  · rw [Nat.zero_testBit, decide_eq_false (by omega)]
  · split
    · rw [show (65535 : Nat) = 2 ^ 16 - 1 from rfl, Nat.testBit_two_pow_sub_one, decide_eq_true hi, decide_eq_true (by omega)]
    · rw [Nat.testBit_two_pow_sub_one]
      congr 1
      rw [eq_iff_iff]
      omega

theorem hasG_nat {g i : Nat} (hi : i < 16) : hasG g (i : Int) = g.testBit i := by
  unfold hasG
  rw [node_nat hi, Bool.true_and, Int.toNat_natCast]
theorem hasG_no {g : Nat} {n : Int} (h : nodeB n = false) : hasG g n = false := by simp [hasG, h]
theorem hasG_node {g : Nat} {n : Int} (h : hasG g n = true) : nodeB n = true := by
  unfold hasG at h
  cases hn : nodeB n
  · rw [hn] at h; simp at h
  · rfl
/-- Having n is being more than nothing with n alone. -/
theorem hasG_and (g : Nat) (n : Int) : hasG g n = !((((bothG g (onlyG n) : Nat) : Int)) == 0) := by
  have e : ((((bothG g (onlyG n) : Nat) : Int)) == 0) = decide (bothG g (onlyG n) = 0) := by
    rw [Bool.eq_iff_iff, beq_iff_eq, decide_eq_true_eq]
    omega
  rw [e]
  cases h : hasG g n
  · have h0 : bothG g (onlyG n) = 0 := by
      apply Nat.eq_of_testBit_eq
      intro i
      rw [bit_both, bit_only, Nat.zero_testBit]
      unfold hasG at h
      cases hn : nodeB n
      · simp
      · rw [hn, Bool.true_and] at h
        by_cases hi : n.toNat = i
        · subst hi; simp [h]
        · simp [hi]
    simp [h0]
  · have hne : bothG g (onlyG n) ≠ 0 := by
      intro h0
      have hb : (bothG g (onlyG n)).testBit n.toNat = false := by rw [h0, Nat.zero_testBit]
      rw [bit_both, bit_only] at hb
      unfold hasG at h
      cases hn : nodeB n
      · rw [hn] at h; simp at h
      · rw [hn, Bool.true_and] at h
        simp [hn, h] at hb
    simp [hne]

/-- What a list of places under 16 holds. -/
theorem mem_listG {g i : Nat} : i ∈ listG g ↔ i < 16 ∧ g.testBit i = true := by simp [listG]
theorem listG_lt {g i : Nat} (h : i ∈ listG g) : i < 16 := (mem_listG.1 h).1
theorem listG_get_lt {g k : Nat} (h : k < (listG g).length) : (listG g)[k] < 16 := listG_lt (List.getElem_mem h)
theorem countG_le (g : Nat) : countG g ≤ 16 := by
  unfold countG listG
  exact Nat.le_trans (List.length_filter_le _ _) (by simp)
theorem listG_length_le (g : Nat) : (listG g).length ≤ 16 := countG_le g
theorem listG_eq_iff {a b : Nat} (ha : a < 65536) (hb : b < 65536) : listG a = listG b ↔ a = b := by
  constructor
  · intro h
    refine bits_ext ha hb fun i hi => ?_
    have e : i ∈ listG a ↔ i ∈ listG b := by rw [h]
    rw [mem_listG, mem_listG] at e
    rw [Bool.eq_iff_iff]
    exact ⟨fun hx => (e.1 ⟨hi, hx⟩).2, fun hx => (e.2 ⟨hi, hx⟩).2⟩
  · rintro rfl; rfl
theorem listG_zero : listG 0 = [] := by decide
theorem listG_nil {g : Nat} (h : g < 65536) : listG g = [] ↔ g = 0 := by
  rw [← listG_zero, listG_eq_iff h (by decide)]
theorem listG_congr {a b : Nat} (h : ∀ i, i < 16 → a.testBit i = b.testBit i) : listG a = listG b := by
  unfold listG
  exact List.filter_congr fun i hi => h i (List.mem_range.1 hi)
theorem rankG_eq (g : Nat) (n : Int) : rankG g n = countG (bothG g (firstG n)) := by
  unfold rankG countG listG
  rw [List.filter_filter]
  congr 1
  apply List.filter_congr
  intro i hi
  rw [bit_both, bit_first n (List.mem_range.1 hi), Bool.and_comm]

/-- How many of eight bits are 1. -/
def cnt8 (x : Nat) : Nat := ((List.range 8).filter fun i => x.testBit i).length
theorem cnt8_le (x : Nat) : cnt8 x ≤ 8 := Nat.le_trans (List.length_filter_le _ _) (by simp)
theorem countG_halves (g : Nat) : countG g = cnt8 (g / 256) + cnt8 (g % 256) := by
  unfold countG listG cnt8
  rw [show List.range 16 = List.range 8 ++ (List.range 8).map (8 + ·) from by decide, List.filter_append, List.length_append, Nat.add_comm, List.filter_map, List.length_map]
  congr 2
  · apply List.filter_congr
    intro i hi
    show g.testBit (8 + i) = _
    rw [show g / 256 = g / 2 ^ 8 from rfl, Nat.testBit_div_two_pow, Nat.add_comm]
  · apply List.filter_congr
    intro i hi
    rw [show g % 256 = g % 2 ^ 8 from rfl, Nat.testBit_mod_two_pow, decide_eq_true (List.mem_range.1 hi), Bool.true_and]

end Go.Proofs.Ytnpjldolppikfaa
