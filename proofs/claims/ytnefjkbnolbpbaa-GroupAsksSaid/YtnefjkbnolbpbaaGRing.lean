/- From Next to Next one comes to all: plain facts. -/
import Derived.Test.YtnefjkbnolbpbaaGRanks
namespace Go.Proofs.Ytnefjkbnolbpbaa

theorem range_parts : ∀ n : Fin 16, List.range 16 = List.range n.val ++ ([n.val] ++ List.range' (n.val + 1) (15 - n.val)) := by decide +kernel
theorem folG_parts : ∀ n : Fin 16, folG n.val = List.range' (n.val + 1) (15 - n.val) ++ (List.range n.val ++ [n.val]) := by decide +kernel

/-- The one that follows stands at the place of the node's own rank, or at the next one, round about. -/
theorem next_place {g n : Nat} (hn : n < 16) (hpos : 0 < (listG g).length) :
    (listG g)[(rankG g (n : Int) + if g.testBit n = true then 1 else 0) % (listG g).length]? = (folG n).find? (fun i => g.testBit i) := by
  have hr := range_parts ⟨n, hn⟩
  have hf := folG_parts ⟨n, hn⟩
  simp only at hr hf
  have hl : listG g = (List.range n).filter (fun i => g.testBit i) ++ (([n].filter fun i => g.testBit i) ++ (List.range' (n + 1) (15 - n)).filter fun i => g.testBit i) := by
    unfold listG
    rw [hr, List.filter_append, List.filter_append]
  have hrk : rankG g (n : Int) = ((List.range n).filter fun i => g.testBit i).length := by
    have f1 : ((List.range n).filter fun i => g.testBit i).filter (fun i : Nat => decide ((i : Int) < (n : Int))) = (List.range n).filter fun i => g.testBit i :=
      List.filter_eq_self.2 fun x hx => by
        have := List.mem_range.1 (List.mem_filter.1 hx).1
        simp
        omega
    have f2 : ([n].filter fun i => g.testBit i).filter (fun i : Nat => decide ((i : Int) < (n : Int))) = [] :=
      List.filter_eq_nil_iff.2 fun x hx => by
        have := (List.mem_filter.1 hx).1
        rw [List.mem_singleton] at this
        simp [this]
    have f3 : ((List.range' (n + 1) (15 - n)).filter fun i => g.testBit i).filter (fun i : Nat => decide ((i : Int) < (n : Int))) = [] :=
      List.filter_eq_nil_iff.2 fun x hx => by
        have := List.mem_range'_1.1 (List.mem_filter.1 hx).1
        simp
        omega
    unfold rankG
    rw [hl, List.filter_append, List.filter_append, f1, f2, f3]
    simp
  have hb : (if g.testBit n = true then 1 else 0) = ([n].filter fun i => g.testBit i).length := by
    by_cases h : g.testBit n = true <;> simp [h]
  rw [hrk, hb, hf, ← List.head?_filter, List.filter_append, List.filter_append]
  rw [hl] at hpos ⊢
  generalize (List.range n).filter (fun i => g.testBit i) = A at *
  generalize ([n].filter fun i => g.testBit i) = B at *
  generalize (List.range' (n + 1) (15 - n)).filter (fun i => g.testBit i) = C at *
  cases C with
  | nil =>
    simp only [List.append_nil, List.nil_append, List.length_append] at *
    rw [Nat.mod_self, List.head?_eq_getElem?]
  | cons c C =>
    simp only [List.length_append, List.length_cons] at *
    rw [Nat.mod_eq_of_lt (by omega), List.getElem?_append_right (by omega), List.getElem?_append_right (by omega)]
    simp

/-- The node at a place of the ring that begins at place r. -/
def ringI (g r k : Nat) : Int := (listI g).getD ((r + k) % countG g) 0
/-- The first k of the ring. -/
def seenI (g r k : Nat) : List Int := (List.range k).map (ringI g r)

section
variable {g : Nat} (hpos : 0 < countG g)
include hpos
theorem ring_get (r k : Nat) : ∃ h : (r + k) % countG g < (listI g).length, ringI g r k = (listI g)[(r + k) % countG g] := by
  have h : (r + k) % countG g < (listI g).length := by rw [listI_length]; exact Nat.mod_lt _ hpos
  refine ⟨h, ?_⟩
  unfold ringI
  rw [List.getD_eq_getElem?_getD, List.getElem?_eq_getElem h, Option.getD_some]
theorem ring_has (r k : Nat) : hasG g (ringI g r k) = true := by
  obtain ⟨h, e⟩ := ring_get hpos r k
  rw [e]
  exact mem_listI.1 (List.getElem_mem h)
theorem next_at {n : Nat} (hn : n < 16) : nextG g (n : Int) = (listI g).getD ((rankG g (n : Int) + if hasG g (n : Int) = true then 1 else 0) % countG g) 0 := by
  have hp := next_place (g := g) hn hpos
  rw [hasG_nat hn]
  unfold nextG
  rw [if_pos (node_nat hn), Int.toNat_natCast, ← hp, show (listG g).length = countG g from rfl]
  have h : (rankG g (n : Int) + if g.testBit n = true then 1 else 0) % countG g < (listG g).length := Nat.mod_lt _ hpos
  unfold listI
  rw [List.getD_eq_getElem?_getD, List.getElem?_map, List.getElem?_eq_getElem h]
  rfl
theorem next_first {n : Nat} (hn : n < 16) : ∃ r, r < countG g ∧ nextG g (n : Int) = ringI g r 0 := by
  refine ⟨(rankG g (n : Int) + if hasG g (n : Int) = true then 1 else 0) % countG g, Nat.mod_lt _ hpos, ?_⟩
  rw [next_at hpos hn]
  unfold ringI
  rw [Nat.add_zero, Nat.mod_mod]
theorem next_ring (r k : Nat) : nextG g (ringI g r k) = ringI g r (k + 1) := by
  obtain ⟨h, e⟩ := ring_get hpos r k
  have hh := ring_has hpos r k
  have hrk := rankG_get h
  rw [← e] at hrk
  obtain ⟨a, b⟩ := node_yes (hasG_node hh)
  generalize ringI g r k = x at *
  obtain ⟨m, rfl⟩ := Int.eq_ofNat_of_zero_le a
  rw [next_at hpos (by omega), hh, if_pos rfl, hrk]
  unfold ringI
  rw [← Nat.add_assoc, Nat.mod_add_mod]
theorem seen_all (r k : Nat) : (seenI g r k).all nodeB = true := by
  rw [List.all_eq_true]
  intro x hx
  obtain ⟨j, _, rfl⟩ := List.mem_map.1 hx
  exact hasG_node (ring_has hpos r j)
theorem seen_mem (r : Nat) (x : Int) : x ∈ seenI g r (countG g) ↔ hasG g x = true := by
  constructor
  · intro hx
    obtain ⟨j, _, rfl⟩ := List.mem_map.1 hx
    exact ring_has hpos r j
  · intro hx
    obtain ⟨i, hi, rfl⟩ := List.getElem_of_mem (mem_listI.2 hx)
    rw [listI_length] at hi
    refine List.mem_map.2 ⟨(i + (countG g - r % countG g)) % countG g, List.mem_range.2 (Nat.mod_lt _ hpos), ?_⟩
    have hr := Nat.mod_lt r hpos
    have e : (r + (i + (countG g - r % countG g)) % countG g) % countG g = i := by
      rw [Nat.add_mod_mod, ← Nat.mod_add_mod, show r % countG g + (i + (countG g - r % countG g)) = i + countG g from by omega, Nat.add_mod_right, Nat.mod_eq_of_lt hi]
    obtain ⟨h, e2⟩ := ring_get hpos r ((i + (countG g - r % countG g)) % countG g)
    rw [e2]
    congr 1
end
theorem ring_round (g r : Nat) : ringI g r (countG g) = ringI g r 0 := by
  unfold ringI
  rw [Nat.add_zero, Nat.add_mod_right]
theorem seen_succ (g r k : Nat) : seenI g r (k + 1) = seenI g r k ++ [ringI g r k] := by
  unfold seenI
  rw [List.range_succ, List.map_append]
  rfl
theorem seen_length (g r k : Nat) : (seenI g r k).length = k := by simp [seenI]
theorem seen_of {g : Nat} (hg : g < 65536) (hpos : 0 < countG g) (r : Nat) : ofV (seenI g r (countG g)) = g ∧ ofE (seenI g r (countG g)) = 0 := by
  have hall := seen_all hpos r (countG g)
  refine ⟨?_, if_pos hall⟩
  unfold ofV
  rw [if_pos hall]
  exact fold_same hg hall (seen_mem hpos r)

end Go.Proofs.Ytnefjkbnolbpbaa
