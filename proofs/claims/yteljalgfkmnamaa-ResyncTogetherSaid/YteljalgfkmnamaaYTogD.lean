/- ResyncTogether: clocks that set themselves, and what follows of their midpoints. No condition. -/
import Derived.Test.YteljalgfkmnamaaZMoveD
import Derived.Test.YteljalgfkmnamaaYSome
namespace Go.Proofs.Yteljalgfkmnamaa
open Go.RowKit Go.Shelf

/-- The reading error of clock i at clock k. -/
def offT (er : List Int) (d : Int) (n i k : Nat) : Int := if k ≠ i ∧ i * n + k < er.length then (er.getD (i * n + k) 0).tmod (d + 1) else 0
theorem offT_ok (er : List Int) {d : Int} (hd : 0 ≤ d) (n i k : Nat) : -d ≤ offT er d n i k ∧ offT er d n i k ≤ d := by
  unfold offT
  split
  · have h1 := Int.lt_tmod_of_pos (er.getD (i * n + k) 0) (b := d + 1) (by omega)
    have h2 := Int.tmod_lt_of_pos (er.getD (i * n + k) 0) (b := d + 1) (by omega)
    omega
  · omega
/-- What clock i sees of clock k. -/
def seenT (l er : List Int) (d : Int) (n i k : Nat) : Int := l.getD i 0 - l.getD k 0 + offT er d n i k
def rowT (l er : List Int) (d : Int) (n i : Nat) : List Int := mapTo (seenT l er d n i) n
/-- Where clock i is, when it has set itself. -/
def setT (x : Pl) (l er : List Int) (d : Int) (n i : Nat) : Int := l.getD i 0 + corB x (rowT l er d n i)
theorem seen_ok {l er : List Int} {d : Int} {n i k : Nat} (hd : 0 ≤ d ∧ d ≤ 1048576) (h1 : -1073741824 ≤ l.getD i 0 ∧ l.getD i 0 ≤ 1073741824) (h2 : -1073741824 ≤ l.getD k 0 ∧ l.getD k 0 ≤ 1073741824) :
    -4294967296 ≤ seenT l er d n i k ∧ seenT l er d n i k ≤ 4294967296 := by
  have := offT_ok er hd.1 n i k
  unfold seenT
  omega
theorem cor_zero' {x : Pl} {l : List Int} (h : corE x l = 0) : planB x = true ∧ corB x l = wantC x l := by
  unfold corE at h
  unfold corB
  cases hp : planB x
  · rw [hp] at h; simp at h
  · cases hv : okV l
    · rw [hp, hv] at h; simp at h
    · rw [hp, hv] at h
      cases ho : overB x l
      · exact ⟨rfl, rfl⟩
      · rw [ho] at h; simp at h
/-- The correction of such a row is the midpoint, its sign turned, unless sync is lost. -/
theorem tog_cor {x : Pl} {l er : List Int} {d : Int} {n i : Nat} (hp : planB x = true) (hn : 2 * x.kk + 1 ≤ (n : Int)) (hd : 0 ≤ d ∧ d ≤ 1048576) (hl : ∀ j, j < n → -1073741824 ≤ l.getD j 0 ∧ l.getD j 0 ≤ 1073741824) (hi : i < n) :
    (corE x (rowT l er d n i) = 0 ∨ corE x (rowT l er d n i) = 151) ∧ (corE x (rowT l er d n i) = 0 → corB x (rowT l er d n i) = -(midT (rowT l er d n i) x.kk)) := by
  have hv : okV (rowT l er d n i) = true := okV_iff.2 (fun y hy => by
    obtain ⟨k, hk, rfl⟩ := mapTo_mem hy
    exact seen_ok hd (hl i hi) (hl k hk))
  have hw : wantC x (rowT l er d n i) = -(midT (rowT l er d n i) x.kk) := by
    unfold wantC enoughB
    rw [hp, Bool.true_and, if_pos]
    rw [decide_eq_true_eq]
    unfold rowT
    rw [mapTo_len]
    exact hn
  constructor
  · unfold corE
    rw [hp, hv]
    cases overB x (rowT l er d n i)
    · exact .inl rfl
    · exact .inr rfl
  · intro h
    rw [(cor_zero' h).2, hw]
/-- THE STAGE'S THEOREM, in plain numbers. -/
theorem tog_facts {l er : List Int} {d lo hi : Int} {n m : Nat} (hm : 2 * m + 1 ≤ n) (hd : 0 ≤ d ∧ d ≤ 1048576) (hl : ∀ j, j < n → -1073741824 ≤ l.getD j 0 ∧ l.getD j 0 ≤ 1073741824) (hb : ∀ j, j < n → lo ≤ l.getD j 0 ∧ l.getD j 0 ≤ hi) :
    (∀ i, i < n → lo - d ≤ l.getD i 0 - midT (rowT l er d n i) (m : Int) ∧ l.getD i 0 - midT (rowT l er d n i) (m : Int) ≤ hi + d) ∧
    ∀ i k, i < n → k < n → (l.getD i 0 - midT (rowT l er d n i) (m : Int)) - (l.getD k 0 - midT (rowT l er d n k) (m : Int)) ≤ 2 * d := by
  have mid : ∀ i, i < n → midT (rowT l er d n i) (m : Int) = ((srt (rowT l er d n i)).getD m 0 + (srt (rowT l er d n i)).getD (n - 1 - m) 0) / 2 := fun i hi' => (told_map (f := seenT l er d n i) hm (fun k hk => seen_ok hd (hl i hi') (hl k hk))).2
  have rng : ∀ i p, i < n → p < n → l.getD i 0 - hi - d ≤ (srt (rowT l er d n i)).getD p 0 ∧ (srt (rowT l er d n i)).getD p 0 ≤ l.getD i 0 - lo + d := fun i p hi' hp => by
    have hmem := srt_mem (l := rowT l er d n i) (i := p) (by unfold rowT; rw [mapTo_len]; exact hp)
    unfold rowT at hmem
    obtain ⟨k, hk, e⟩ := mapTo_mem hmem
    have e' : (srt (rowT l er d n i)).getD p 0 = seenT l er d n i k := e
    have h1 := hb k hk
    have h2 := offT_ok er hd.1 n i k
    rw [e']
    unfold seenT
    omega
  refine ⟨fun i hi' => ?_, fun i k hi' hk => ?_⟩
  · have h1 := rng i m hi' (by omega)
    have h2 := rng i (n - 1 - m) hi' (by omega)
    rw [mid i hi']
    generalize (srt (rowT l er d n i)).getD m 0 = a at *
    generalize (srt (rowT l er d n i)).getD (n - 1 - m) 0 = b at *
    omega
  · have mv : ∀ p, p < n → (srt (rowT l er d n k)).getD p 0 ≤ (srt (rowT l er d n i)).getD p 0 + (l.getD k 0 - l.getD i 0 + 2 * d) := fun p hp => move_le (f := seenT l er d n i) (g := seenT l er d n k) hp (fun j hj => by
      have h1 := offT_ok er hd.1 n i j
      have h2 := offT_ok er hd.1 n k j
      unfold seenT
      omega)
    have h1 := mv m (by omega)
    have h2 := mv (n - 1 - m) (by omega)
    rw [mid i hi', mid k hk]
    generalize (srt (rowT l er d n i)).getD m 0 = a at *
    generalize (srt (rowT l er d n i)).getD (n - 1 - m) 0 = b at *
    generalize (srt (rowT l er d n k)).getD m 0 = a' at *
    generalize (srt (rowT l er d n k)).getD (n - 1 - m) 0 = b' at *
    omega
end Go.Proofs.Yteljalgfkmnamaa
