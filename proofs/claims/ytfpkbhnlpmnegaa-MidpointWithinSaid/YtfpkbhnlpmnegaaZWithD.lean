/- MidpointWithin: the law's values, and what follows of them. No condition. -/
import Derived.Test.YtfpkbhnlpmnegaaZLawM
namespace Go.Proofs.Ytfpkbhnlpmnegaa

def clampI (lo hi z : Int) : Int := max lo (min z hi)
/-- What the law has laid behind i rounds. -/
def allTo (wl : List Int) (lo hi : Int) (L : List Int) : Nat → List Int
  | 0 => []
  | i + 1 => allTo wl lo hi L i ++ (if i < wl.length then [(wl.getD i 0).tmod 2147483648] else []) ++ [clampI lo hi (L.getD i 0)]
section
variable (wl : List Int) (lo hi : Int) (L : List Int)
theorem allTo_succ (i : Nat) : allTo wl lo hi L (i + 1) = allTo wl lo hi L i ++ (if i < wl.length then [(wl.getD i 0).tmod 2147483648] else []) ++ [max lo (min (L.getD i 0) hi)] := rfl
theorem allTo_len : ∀ i, (allTo wl lo hi L i).length = i + min i wl.length
  | 0 => by simp [allTo]
  | i + 1 => by
    unfold allTo
    rw [List.length_append, List.length_append, allTo_len i]
    split <;> simp <;> omega
theorem allTo_less : ∀ i, lessN (allTo wl lo hi L i) lo ≤ min i wl.length
  | 0 => by simp [allTo, lessN]
  | i + 1 => by
    have ih := allTo_less i
    have hc : ¬ clampI lo hi (L.getD i 0) < lo := by unfold clampI; omega
    unfold allTo lessN
    unfold lessN at ih
    rw [List.countP_append, List.countP_append, List.countP_singleton]
    simp only [decide_eq_true_eq, hc, if_false]
    split
    · have h1 : List.countP (fun x => decide (x < lo)) [(wl.getD i 0).tmod 2147483648] ≤ 1 := List.countP_le_length
      omega
    · simp only [List.countP_nil]; omega
theorem allTo_up (h : lo ≤ hi) : ∀ i, i ≤ upN (allTo wl lo hi L i) hi
  | 0 => Nat.zero_le _
  | i + 1 => by
    have ih := allTo_up h i
    have hc : clampI lo hi (L.getD i 0) ≤ hi := by unfold clampI; omega
    unfold allTo upN
    unfold upN at ih
    rw [List.countP_append, List.countP_append, List.countP_singleton]
    simp only [decide_eq_true_eq, hc, if_true]
    omega
theorem allTo_ok (h1 : -2147483648 ≤ lo ∧ lo ≤ 2147483648) (h2 : -2147483648 ≤ hi ∧ hi ≤ 2147483648) : ∀ i, ∀ x ∈ allTo wl lo hi L i, -2147483648 ≤ x ∧ x ≤ 2147483648
  | 0, x, hx => by simp [allTo] at hx
  | i + 1, x, hx => by
    unfold allTo at hx
    rcases List.mem_append.1 hx with hx | hx
    · rcases List.mem_append.1 hx with hx | hx
      · exact allTo_ok h1 h2 i x hx
      · split at hx
        · obtain rfl := List.mem_singleton.1 hx
          have := some_ok (wl.getD i 0)
          omega
        · cases hx
    · obtain rfl := List.mem_singleton.1 hx
      unfold clampI
      omega
end
/-- THE LAW's facts: the values' ends lie between the numbers. -/
theorem with_facts {wl L : List Int} {lo hi : Int} (h : lo ≤ hi) (hl : wl.length + 1 ≤ L.length) (h1 : -2147483648 ≤ lo ∧ lo ≤ 2147483648) (h2 : -2147483648 ≤ hi ∧ hi ≤ 2147483648) :
    errT (allTo wl lo hi L L.length) (wl.length : Int) = 0 ∧ (lo ≤ midT (allTo wl lo hi L L.length) (wl.length : Int) ∧ midT (allTo wl lo hi L L.length) (wl.length : Int) ≤ hi) ∧
      0 ≤ sprT (allTo wl lo hi L L.length) (wl.length : Int) ∧ sprT (allTo wl lo hi L L.length) (wl.length : Int) ≤ hi - lo := by
  have hn := allTo_len wl lo hi L L.length
  have hle := allTo_less wl lo hi L L.length
  have hup := allTo_up wl lo hi L h L.length
  have hall := allTo_ok wl lo hi L h1 h2 L.length
  generalize allTo wl lo hi L L.length = M at *
  have hN : M.length = L.length + wl.length := by omega
  have hok : okM M (wl.length : Int) = true := by
    unfold okM
    rw [okV_iff.2 (fun x hx => by have := hall x hx; omega), okN_iff.2 ⟨wl.length, rfl, by omega⟩]
    rfl
  have e1 : loT M (wl.length : Int) = (srt M).getD wl.length 0 := by unfold loT loM; rw [if_pos hok, Int.toNat_natCast]
  have e2 : hiT M (wl.length : Int) = (srt M).getD (M.length - 1 - wl.length) 0 := by unfold hiT hiM; rw [if_pos hok, Int.toNat_natCast]
  have s1 := spot_srt M (p := wl.length) (by omega)
  have s2 := spot_srt M (p := M.length - 1 - wl.length) (by omega)
  have s3 := srt_at M (i := wl.length) (j := M.length - 1 - wl.length) (by omega) (by omega)
  rw [(midT_is _ _).1, (midT_is _ _).2, e1, e2, errT_ok hok]
  generalize (srt M).getD wl.length 0 = x at *
  generalize (srt M).getD (M.length - 1 - wl.length) 0 = y at *
  have k1 : lo ≤ x := by
    rcases Int.lt_or_le x lo with q | q
    · have := up_less M q
      have := s1.2
      omega
    · exact q
  have k2 : y ≤ hi := by
    rcases Int.lt_or_le hi y with q | q
    · have := up_less M q
      have := s2.1
      omega
    · exact q
  refine ⟨rfl, ⟨by omega, by omega⟩, by omega, by omega⟩
end Go.Proofs.Ytfpkbhnlpmnegaa
