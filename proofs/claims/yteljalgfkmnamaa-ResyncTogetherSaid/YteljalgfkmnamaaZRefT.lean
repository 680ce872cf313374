/- The document's Trim, Of and Spread, by their contracts. No condition. -/
import Derived.Test.YteljalgfkmnamaaZRef
import Derived.OwnWalk
namespace Go.Proofs.Yteljalgfkmnamaa
open Go.RowKit Go.Shelf

theorem errT_ok {l : List Int} {k : Int} (h : okM l k = true) : errT l k = 0 := by unfold errT; rw [if_pos h]
theorem errT_no {l : List Int} {k : Int} (h : ¬ okM l k = true) : errT l k = 140 := by unfold errT; rw [if_neg h]
theorem outT_no {l : List Int} {k : Int} (h : ¬ okM l k = true) : outT l k = [] := by unfold outT; rw [if_neg h]

set_option maxRecDepth 100000 in
set_option maxHeartbeats 4000000 in
theorem refOf_any (w : World) (s : Sl) (l : List Int) (k : Int) (h : RSrc inC 1 w s l) (hn : s.n ≤ 1000) : Calls Try.prog 21 #[s.v, .int .i64 k] w fun e w' => e = .returned (.tuple #[.int .i64 (midT l k), .int .i64 (errT l k)]) ∧ Below w.heap.size w w' := by
  have hl := h.len
  have HC := Lib.hid (refCheckZ_any w s l k h hn)
  obtain ⟨o1, o2⟩ := ends_ok l k
  rw [(midT_is l k).1]
  by_cases hok : okM l k = true
  · obtain ⟨_, m, rfl, hm⟩ := okM_parts hok
    rw [errT_ok hok] at HC ⊢
    have h1 : loT l (m : Int) = (srt l).getD m 0 := by unfold loT loM; rw [if_pos hok, Int.toNat_natCast]
    have h2 : hiT l (m : Int) = (srt l).getD (l.length - 1 - m) 0 := by unfold hiT hiM; rw [if_pos hok, Int.toNat_natCast]
    have HA := Lib.hid (fun W (hb : Below w.heap.size w W) => refAt_any W s l m (h.later hb) hn (by omega))
    have HB := Lib.hid (fun W (hb : Below w.heap.size w W) => refAt_any W s l (l.length - 1 - m) (h.later hb) hn (by omega))
    rw [← h1] at HA
    rw [← h2] at HB
    obtain ⟨x, hx⟩ : ∃ x, x = loT l (m : Int) := ⟨_, rfl⟩
    obtain ⟨y, hy⟩ : ∃ y, y = hiT l (m : Int) := ⟨_, rfl⟩
    rw [← hx] at o1 HA ⊢
    rw [← hy] at o2 HB ⊢
    rw [hl] at hm HB
    obtain ⟨A, n, c⟩ := s
    unfold Sl.v at *
    dsimp only at *
    obtain ⟨q, hq⟩ : ∃ q, q = n - 1 - m := ⟨_, rfl⟩
    rw [← hq] at HB
    have e1 : IntKind.i64.wrap ((n : Int) - 1) = (n : Int) - 1 := IntWalk.i64_in _ (by omega)
    have e2 : IntKind.i64.wrap ((n : Int) - 1 - (m : Int)) = (q : Int) := by rw [IntWalk.i64_in _ (by omega)]; omega
    have e3 : IntKind.i64.wrap (x + y) = x + y := IntWalk.i64_in _ (by omega)
    obtain ⟨t, ht⟩ : ∃ t, t = (x + y).tdiv 2 := ⟨_, rfl⟩
    have hta : (0 ≤ x + y → (x + y).tdiv 2 = (x + y) / 2) := fun hh => Int.tdiv_eq_ediv_of_nonneg hh
    have htb : (x + y < 0 → (x + y).tdiv 2 = -(-(x + y) / 2)) := fun hh => by
      have := Int.neg_tdiv (x + y) 2
      rw [Int.tdiv_eq_ediv_of_nonneg (by omega)] at this
      omega
    rw [← ht] at hta htb
    have e4 : (x + y).tdiv 2 = t := ht.symm
    have e5 : IntKind.i64.wrap t = t := IntWalk.i64_in _ (by omega)
    have e6 : IntKind.i64.wrap (2 * t) = 2 * t := IntWalk.i64_in _ (by omega)
    have e7 : IntKind.i64.wrap (t - 1) = t - 1 := IntWalk.i64_in _ (by omega)
    obtain ⟨z, hz⟩ : ∃ z, z = (x + y) / 2 := ⟨_, rfl⟩
    rw [← hz]
    have HZ := Lib.hid (show (x + y < 2 * t → z = t - 1) ∧ (¬ x + y < 2 * t → z = t) from by omega)
    clear h hl hok hx hy hq ht hta htb hz h1 h2
    by_cases q1 : x + y < 2 * t
    · have hzt := HZ.out.1 q1
      rw [hzt]
      clear hzt
      go_enter Try.func21, Try.ntmps21
      go_wp2_with (first
        | (go_at_call 30; refine HC.out.mono ?_; rintro e w1 ⟨rfl, hb⟩; have H1 := Lib.hid hb; clear hb)
        | (go_at_call 31; with_reducible refine (HA.out _ H1.out).mono ?_; (rintro e w2 ⟨rfl, hb⟩; have H2 := Lib.hid (k_then hb H1.out); clear hb HA))
        | (go_at_call 31; with_reducible refine (HB.out _ H2.out).mono ?_; (rintro e w3 ⟨rfl, hb⟩; have H3 := Lib.hid (k_then hb H2.out); clear hb HB)))
      go_ret2
      exact ⟨rfl, H3.out⟩
    · have hzt := HZ.out.2 q1
      rw [hzt]
      clear hzt
      go_enter Try.func21, Try.ntmps21
      go_wp2_with (first
        | (go_at_call 30; refine HC.out.mono ?_; rintro e w1 ⟨rfl, hb⟩; have H1 := Lib.hid hb; clear hb)
        | (go_at_call 31; with_reducible refine (HA.out _ H1.out).mono ?_; (rintro e w2 ⟨rfl, hb⟩; have H2 := Lib.hid (k_then hb H1.out); clear hb HA))
        | (go_at_call 31; with_reducible refine (HB.out _ H2.out).mono ?_; (rintro e w3 ⟨rfl, hb⟩; have H3 := Lib.hid (k_then hb H2.out); clear hb HB)))
      go_ret2
      exact ⟨rfl, H3.out⟩
  · have h1 : loT l k = 0 := by unfold loT; rw [if_neg hok]
    have h2 : hiT l k = 0 := by unfold hiT; rw [if_neg hok]
    rw [errT_no hok] at HC ⊢
    rw [h1, h2]
    obtain ⟨A, n, c⟩ := s
    unfold Sl.v at *
    dsimp only at *
    clear h hl hok h1 h2 o1 o2
    go_enter Try.func21, Try.ntmps21
    go_wp2_with (go_at_call 30; refine HC.out.mono ?_; rintro e w1 ⟨rfl, hb⟩; have H1 := Lib.hid hb; clear hb)
    go_ret2
    exact ⟨rfl, H1.out⟩

end Go.Proofs.Yteljalgfkmnamaa
