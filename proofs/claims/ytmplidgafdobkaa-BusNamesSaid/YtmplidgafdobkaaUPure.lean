/- What stays so of each bus that was made. Plain; no condition. -/
import Derived.Test.YtmplidgafdobkaaUDef
namespace Go.Proofs.Ytmplidgafdobkaa
open Go.RowKit

theorem fateB_iff {p : Pl} {f : Fa} : fateB p f = true ↔ p.dmin ≤ f.d ∧ f.d ≤ p.dmax := by simp [fateB]
theorem spreadL_length (p : Pl) (told : List Fa) (f : Int) (c : Nat) : (spreadL p told f c).length = p.nodes.toNat := by simp [spreadL]
theorem spreadL_get (p : Pl) (told : List Fa) (f : Int) (c n : Nat) (h : n < p.nodes.toNat) : (spreadL p told f c).getD n default = fateL p told f c n := by
  rw [List.getD_eq_getElem?_getD]
  simp [spreadL, h]
theorem fateL_in {p : Pl} (hp : PlanU p) {told : List Fa} (ht : told.all (fateB p) = true) (f : Int) (c n : Nat) : p.dmin ≤ (fateL p told f c n).d ∧ (fateL p told f c n).d ≤ p.dmax := by
  show p.dmin ≤ (told.getD _ _).d ∧ (told.getD _ _).d ≤ p.dmax
  rw [List.getD_eq_getElem?_getD]
  rcases Nat.lt_or_ge (c * p.nodes.toNat + n) told.length with h | h
  · rw [List.getElem?_eq_getElem h]
    exact fateB_iff.1 (List.all_eq_true.1 ht _ (List.getElem_mem h))
  · rw [List.getElem?_eq_none h]
    exact ⟨Int.le_refl _, hp.d2⟩
theorem spreadL_in {p : Pl} (hp : PlanU p) {told : List Fa} (ht : told.all (fateB p) = true) (f : Int) (c : Nat) : ∀ x ∈ spreadL p told f c, p.dmin ≤ x.d ∧ x.d ≤ p.dmax := by
  intro x hx
  obtain ⟨n, _, rfl⟩ := List.mem_map.1 hx
  exact fateL_in hp ht f c n
theorem okB_iff {g : Lg} {f t : Int} {fa : List Fa} : okB g f t fa = true ↔ ((0 ≤ f ∧ f < g.p.nodes) ∧ (g.last ≤ t ∧ t ≤ 4294967296)) ∧ ((fa.length : Int) ≤ 2 * g.p.nodes ∧ fa.all (fateB g.p) = true) := by
  simp [okB, hasB, comeB, fatesB]
theorem keptS_t (g : Lg) (f t : Int) (raw : List UInt8) (fa : List Fa) : (keptS g f t raw fa).t = t := by unfold keptS; split <;> rfl
theorem keptS_f (g : Lg) (f t : Int) (raw : List UInt8) (fa : List Fa) : (keptS g f t raw fa).f = f := by unfold keptS; split <;> rfl
theorem okG_send {g : Lg} (h : OkG g) (f t : Int) (raw : List UInt8) (fa : List Fa) (hr : raw.length ≤ 1000000) : OkG (sendG g f t raw fa) := by
  unfold sendG
  split
  · rename_i ho
    obtain ⟨⟨⟨o1, o2⟩, o3, o4⟩, o5, o6⟩ := okB_iff.1 ho
    have hp := planU_of h.plan
    have l1 := h.last.1
    have s1 := hp.s1
    have s2 := hp.s2
    have d1 := hp.d1
    have d2 := hp.d2
    have a1 := hp.a1
    have hc : ∀ c, (keptS g f t raw fa).ch c = [] ∨ (keptS g f t raw fa).ch c = spreadL g.p fa f 0 ∨ (keptS g f t raw fa).ch c = spreadL g.p fa f 1 := fun c => by
      unfold keptS Sd.ch
      split <;> split <;> simp
    refine ⟨h.plan, ?_, ?_, ?_, ?_, ?_, ?_, ?_⟩
    · show 0 ≤ (keptS g f t raw fa).t ∧ (keptS g f t raw fa).t ≤ 4294967296
      rw [keptS_t]; omega
    · show 0 ≤ (if passB g t then (keptS g f t raw fa).t + g.p.slot / 2 else g.opens) ∧ (if passB g t then (keptS g f t raw fa).t + g.p.slot / 2 else g.opens) ≤ 4300000000
      rw [keptS_t]
      split
      · omega
      · exact h.opens
    · refine List.pairwise_append.2 ⟨h.order, List.pairwise_singleton _ _, fun a ha b hb => ?_⟩
      obtain rfl : b = keptS g f t raw fa := by simpa using hb
      have := (h.up a ha).2
      rw [keptS_t]; omega
    · intro s hs
      show 0 ≤ s.t ∧ s.t ≤ (keptS g f t raw fa).t
      rw [keptS_t]
      rcases List.mem_append.1 hs with hs | hs
      · have := h.up s hs; omega
      · obtain rfl : s = keptS g f t raw fa := by simpa using hs
        rw [keptS_t]; omega
    · intro s hs c x hx
      rcases List.mem_append.1 hs with hs | hs
      · exact h.fates s hs c x hx
      · obtain rfl : s = keptS g f t raw fa := by simpa using hs
        rcases hc c with e | e | e
        · rw [e] at hx; cases hx
        · rw [e] at hx; exact spreadL_in hp o6 f 0 x hx
        · rw [e] at hx; exact spreadL_in hp o6 f 1 x hx
    · intro s hs c
      rcases List.mem_append.1 hs with hs | hs
      · exact h.long s hs c
      · obtain rfl : s = keptS g f t raw fa := by simpa using hs
        have n1 := hp.n1
        rcases hc c with e | e | e
        · exact .inl e
        · rw [e, spreadL_length]; exact .inr (by show ((g.p.nodes.toNat : Nat) : Int) = g.p.nodes; omega)
        · rw [e, spreadL_length]; exact .inr (by show ((g.p.nodes.toNat : Nat) : Int) = g.p.nodes; omega)
    · intro s hs
      rcases List.mem_append.1 hs with hs | hs
      · exact h.raws s hs
      · obtain rfl : s = keptS g f t raw fa := by simpa using hs
        unfold keptS
        split
        · exact hr
        · exact Nat.zero_le _
  · exact h
theorem okG_new {p : Pl} (h : failsL p 11 = 0) : OkG ⟨p, [], 0, 0⟩ := ⟨h, (by show (0 : Int) ≤ 0 ∧ (0 : Int) ≤ 4294967296; decide), (by show (0 : Int) ≤ 0 ∧ (0 : Int) ≤ 4300000000; decide), List.Pairwise.nil, (fun _ hs => by cases hs), (fun _ hs => by cases hs), (fun _ hs => by cases hs), (fun _ hs => by cases hs)⟩
end Go.Proofs.Ytmplidgafdobkaa
