/- Those in whom two groups differ, turned in the one, make it the other: plain facts. -/
import Derived.Test.YtnpjldolppikfaaCApartR
import Derived.Test.YtnpjldolppikfaaCSeen
import Derived.Test.YtnpjldolppikfaaGPure
namespace Go.Proofs.Ytnpjldolppikfaa
open Go.RowKit

/-- A node of v is turned to what it is in h. -/
def turnG (h v : Nat) (n : Int) : Nat := seenG v n (hasG h n)
theorem turnG_lt (h : Nat) {v : Nat} (n : Int) (hv : v < 65536) : turnG h v n < 65536 := seenG_lt n _ hv
theorem turnAll_lt (h : Nat) : ∀ (l : List Int) (v : Nat), v < 65536 → l.foldl (turnG h) v < 65536
  | [], _, hv => hv
  | x :: l, v, hv => turnAll_lt h l (turnG h v x) (turnG_lt h x hv)
theorem turn_bit (h v : Nat) (n : Int) (hn : nodeB n = true) {i : Nat} (hi : i < 16) : (turnG h v n).testBit i = if n.toNat = i then h.testBit i else v.testBit i := by
  unfold turnG seenG hasG
  rw [hn, Bool.true_and]
  cases e : h.testBit n.toNat
  · simp only [Bool.false_eq_true, if_false]
    rw [bit_without v n hi, hn, Bool.true_and]
    by_cases ei : n.toNat = i
    · rw [if_pos ei, ← ei, e]; simp
    · rw [if_neg ei]; simp [ei]
  · simp only [if_true]
    rw [bit_with, hn, Bool.true_and]
    by_cases ei : n.toNat = i
    · rw [if_pos ei, ← ei, e]; simp
    · rw [if_neg ei]; simp [ei]
theorem turnAll_bit (h : Nat) {i : Nat} (hi : i < 16) : ∀ (l : List Int) (v : Nat), (∀ x ∈ l, nodeB x = true) → (l.foldl (turnG h) v).testBit i = if (∃ x ∈ l, x.toNat = i) then h.testBit i else v.testBit i
  | [], v, _ => by simp
  | x :: l, v, hl => by
    rw [List.foldl_cons, turnAll_bit h hi l _ (fun y hy => hl y (List.mem_cons_of_mem _ hy)), turn_bit h v x (hl x List.mem_cons_self) hi]
    by_cases e : x.toNat = i
    · rw [if_pos e]
      have hc : ∃ y ∈ x :: l, y.toNat = i := ⟨x, List.mem_cons_self, e⟩
      rw [if_pos hc]
      split <;> rfl
    · rw [if_neg e]
      by_cases k : ∃ y ∈ l, y.toNat = i
      · obtain ⟨y, hy, ey⟩ := k
        have hc : ∃ y ∈ x :: l, y.toNat = i := ⟨y, List.mem_cons_of_mem _ hy, ey⟩
        have hc2 : ∃ y ∈ l, y.toNat = i := ⟨y, hy, ey⟩
        rw [if_pos hc, if_pos hc2]
      · rw [if_neg k, if_neg]
        rintro ⟨y, hy, ey⟩
        rcases List.mem_cons.1 hy with rfl | hy
        · exact e ey
        · exact k ⟨y, hy, ey⟩
theorem apG_bit {g h : Nat} (hg : g < 65536) (hh : h < 65536) {i : Nat} (hi : i < 16) : (apG g h).testBit i = (g.testBit i != h.testBit i) := by
  unfold apG
  rw [Nat.testBit_or, bit_less hh hi, bit_less hg hi]
  cases g.testBit i <;> cases h.testBit i <;> rfl
theorem apG_swap (g h : Nat) : apG h g = apG g h := Nat.or_comm ..
theorem sameC_swap (r s m r' s' m' : Int) : sameC r' s' m' r s m = sameC r s m r' s' m' := by
  unfold sameC
  rw [show decide (r' = r) = decide (r = r') from decide_eq_decide.2 eq_comm, show decide (s' = s) = decide (s = s') from decide_eq_decide.2 eq_comm, show decide (m' = m) = decide (m = m') from decide_eq_decide.2 eq_comm]
theorem sameC_self (r s m : Int) : sameC r s m r s m = true := by simp [sameC]

/-- Turned in those in whom they differ, one is the other one. -/
theorem turnAll_ap {g h : Nat} (hg : g < 65536) (hh : h < 65536) : (listI (apG g h)).foldl (turnG h) g = h := by
  have hnode : ∀ x ∈ listI (apG g h), nodeB x = true := fun x hx => by
    have := mem_listI.1 hx
    simp only [hasG, Bool.and_eq_true] at this
    exact this.1
  refine bits_ext (turnAll_lt h _ g hg) hh fun i hi => ?_
  rw [turnAll_bit h hi _ g hnode]
  split
  · rfl
  · rename_i k
    have hb : (apG g h).testBit i = false := by
      cases e : (apG g h).testBit i
      · rfl
      · exfalso
        refine k ⟨(i : Int), mem_listI.2 ?_, by simp⟩
        simp only [hasG, node_nat hi, Bool.true_and]
        simpa using e
    rw [apG_bit hg hh hi] at hb
    simpa using hb
theorem turn_take (h : Nat) {l : List Int} {k : Nat} (hk : k < l.length) (v : Nat) : (l.take (k + 1)).foldl (turnG h) v = turnG h ((l.take k).foldl (turnG h) v) l[k] := by
  rw [List.take_succ_eq_append_getElem hk, List.foldl_append]
  rfl
theorem seen_has {g n : Nat} (hn : n < 16) : hasG (seenG g (n : Int) true) (n : Int) = true := by
  simp only [hasG, node_nat hn, Bool.true_and, seenG, if_true]
  rw [bit_with, node_nat hn]
  simp
theorem seen_hasnt {g n : Nat} (hn : n < 16) : hasG (seenG g (n : Int) false) (n : Int) = false := by
  simp only [hasG, node_nat hn, Bool.true_and, seenG, Bool.false_eq_true, if_false]
  rw [bit_without g _ (by simpa using hn), node_nat hn]
  simp

end Go.Proofs.Ytnpjldolppikfaa
