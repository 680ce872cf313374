/- Contracts of midpoint's small functions: areEnough, ends, areValues. No condition. -/
import Derived.Test.YteljalgfkmnamaaLong
import Derived.Test.YteljalgfkmnamaaZDef
import Derived.IntWalk
namespace Go.Proofs.Yteljalgfkmnamaa
open Go.RowKit Go.Shelf

set_option maxRecDepth 100000 in
theorem enough_any (n : Nat) (k : Int) (hn : n ≤ 1000) (w : World) : Calls Try.prog 65 #[.int .i64 (n : Int), .int .i64 k] w fun e w' => e = .returned (.bool (okN n k)) ∧ w' = w := by
  have s1 : IntKind.i64.wrap ((n : Int) + 1) = (n : Int) + 1 := IntWalk.i64_in _ (by omega)
  have s2 : ((n : Int) + 1).tdiv 2 = ((n + 1) / 2 : Nat) := by rw [Int.tdiv_eq_ediv_of_nonneg (by omega)]; omega
  obtain ⟨q, hq⟩ : ∃ q, q = (n + 1) / 2 := ⟨_, rfl⟩
  rw [← hq] at s2
  have s3 : IntKind.i64.wrap (q : Int) = (q : Int) := IntWalk.i64_in _ (by omega)
  by_cases h0 : 0 ≤ k
  · by_cases h1 : k < (q : Int)
    · have hok : okN n k = true := by unfold okN; simp only [Bool.and_eq_true, decide_eq_true_eq]; omega
      rw [hok]
      clear hok hq
      go_enter Try.func65, Try.ntmps65
      go_wp2
      go_ret
      exact ⟨rfl, rfl⟩
    · have hok : okN n k = false := by unfold okN; simp only [Bool.and_eq_false_iff, decide_eq_false_iff_not]; omega
      rw [hok]
      clear hok hq
      go_enter Try.func65, Try.ntmps65
      go_wp2
      go_ret
      exact ⟨rfl, rfl⟩
  · have hok : okN n k = false := by unfold okN; simp only [Bool.and_eq_false_iff, decide_eq_false_iff_not]; omega
    rw [hok]
    clear hok hq
    go_enter Try.func65, Try.ntmps65
    go_wp2
    go_ret
    exact ⟨rfl, rfl⟩

theorem ends_step {l : List Int} {k : Nat} (h : k < l.length) : leastL (l.take (k + 1)) = (if k = 0 then l.getD k 0 else min (leastL (l.take k)) (l.getD k 0)) ∧ mostL (l.take (k + 1)) = (if k = 0 then l.getD k 0 else max (mostL (l.take k)) (l.getD k 0)) := by
  have t1 : l.take (k + 1) = l.take k ++ [l.getD k 0] := by rw [List.take_add_one, List.getElem?_eq_getElem h, getD_lt h]; rfl
  rcases Nat.eq_zero_or_pos k with rfl | h0
  · rw [t1]
    exact ⟨rfl, rfl⟩
  · have hne : l.take k ≠ [] := by
      intro e
      have := congrArg List.length e
      rw [List.length_take, List.length_nil] at this
      omega
    rw [t1, least_step hne, most_step hne, if_neg (by omega), if_neg (by omega)]
    exact ⟨rfl, rfl⟩

set_option maxRecDepth 100000 in
set_option maxHeartbeats 2000000 in
theorem ends_any (w : World) (s : Sl) (l : List Int) (h : RSrc inC 1 w s l) :
    Calls Try.prog 49 #[s.v] w fun e w' => e = .returned (.tuple #[.int .i64 (leastL l), .int .i64 (mostL l)]) ∧ w' = w := by
  have hl := h.len
  have hmx := Nat.le_trans h.cap h.max
  have H := Lib.hid h
  have HL := Lib.hid hl
  obtain ⟨A, n, c⟩ := s
  unfold Sl.v
  dsimp only at *
  clear h hl
  go_enter Try.func49, Try.ntmps49
  go_wp2
  go_loopw [2, 3, 8] (fun a b iv wr => ∃ k : Nat, k ≤ n ∧ iv = .int .i64 (k : Int) ∧ a = .int .i64 (leastL (l.take k)) ∧ b = .int .i64 (mostL (l.take k)) ∧ wr = w) (fun _ _ iv _ => n - (intOf iv).toNat)
  case atStart => exact ⟨0, Nat.zero_le _, rfl, rfl, rfl, rfl⟩
  case round =>
    obtain ⟨k, hk, rfl, rfl, rfl, rfl⟩ := hrel
    by_cases hlt : k < n
    · obtain ⟨g, o, hA0, hA2⟩ := H.out.get (i := k) hlt
      dsimp only at hA0
      subst hA0
      have he := ends_step (l := l) (k := k) (by have := HL.out; omega)
      obtain ⟨x, hx⟩ : ∃ x, x = l.getD k default := ⟨_, rfl⟩
      rw [← hx] at hA2
      have hx2 : l.getD k 0 = x := hx.symm
      rw [hx2] at he
      have a0 := inC_cells hA2
      rw [Nat.mul_one] at a0
      obtain ⟨u, hu⟩ : ∃ u, u = leastL (l.take k) := ⟨_, rfl⟩
      obtain ⟨v, hv⟩ : ∃ v, v = mostL (l.take k) := ⟨_, rfl⟩
      rw [← hu, ← hv] at he ⊢
      have HE := Lib.hid he
      have e1 : (0 : Int) ≤ (k : Int) := by omega
      have e2 : (k : Int) < (n : Int) := by omega
      clear hA2 hx hx2 hu hv he
      by_cases hk0 : k = 0
      · subst hk0
        rw [Nat.add_zero] at a0
        go_wp2
        go_roundw
        case rel => exact ⟨1, by omega, by go_num, by rw [HE.out.1]; rfl, by rw [HE.out.2]; rfl, trivial⟩
        case measure => simp [intOf]; omega
      · have hk1 : ¬ (k : Int) = 0 := by omega
        go_wp2
        refine ⟨⟨k + 1, by omega, by go_num, ?_, ?_, trivial⟩, by simp [intOf]; omega⟩
        · rw [HE.out.1, if_neg hk0]
          congr 1
          split <;> omega
        · rw [HE.out.2, if_neg hk0]
          congr 1
          split <;> omega
    · have hkn : k = n := by omega
      have hlk : l.take k = l := List.take_of_length_le (by have := HL.out; omega)
      rw [hlk]
      go_wp2
      go_ret2
      exact ⟨rfl, rfl⟩

set_option maxRecDepth 100000 in
theorem areValues_any (w : World) (s : Sl) (l : List Int) (h : RSrc inC 1 w s l) : Calls Try.prog 64 #[s.v] w fun e w' => e = .returned (.bool (okV l)) ∧ w' = w := by
  have HE := Lib.hid (ends_any w s l h)
  have ho := okV_ends l
  obtain ⟨u, hu⟩ : ∃ u, u = leastL l := ⟨_, rfl⟩
  obtain ⟨v, hv⟩ : ∃ v, v = mostL l := ⟨_, rfl⟩
  rw [← hu, ← hv] at HE ho
  rw [ho]
  clear ho hu hv h
  obtain ⟨A, n, c⟩ := s
  unfold Sl.v at *
  dsimp only at *
  by_cases h1 : -4294967296 ≤ u
  · by_cases h2 : v ≤ 4294967296
    · rw [decide_eq_true h1, decide_eq_true h2]
      go_enter Try.func64, Try.ntmps64
      go_wp2_with (go_at_call 49; refine HE.out.mono ?_; rintro e w1 ⟨rfl, rfl⟩)
      go_ret
      exact ⟨rfl, rfl⟩
    · have h3 : decide (v ≤ 4294967296) = false := decide_eq_false h2
      rw [decide_eq_true h1, h3]
      go_enter Try.func64, Try.ntmps64
      go_wp2_with (go_at_call 49; refine HE.out.mono ?_; rintro e w1 ⟨rfl, rfl⟩)
      go_ret
      exact ⟨by rw [← h3]; rfl, rfl⟩
  · rw [decide_eq_false h1]
    go_enter Try.func64, Try.ntmps64
    go_wp2_with (go_at_call 49; refine HE.out.mono ?_; rintro e w1 ⟨rfl, rfl⟩)
    go_ret
    exact ⟨rfl, rfl⟩
end Go.Proofs.Yteljalgfkmnamaa
