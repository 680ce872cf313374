/- The document's Trim, Of and Spread, by their contracts. No condition. -/
import Derived.Test.YtfpkbhnlpmnegaaZRef
import Derived.OwnWalk
namespace Go.Proofs.Ytfpkbhnlpmnegaa
open Go.RowKit Go.Shelf

theorem errT_ok {l : List Int} {k : Int} (h : okM l k = true) : errT l k = 0 := by unfold errT; rw [if_pos h]
theorem errT_no {l : List Int} {k : Int} (h : ¬ okM l k = true) : errT l k = 140 := by unfold errT; rw [if_neg h]
theorem outT_no {l : List Int} {k : Int} (h : ¬ okM l k = true) : outT l k = [] := by unfold outT; rw [if_neg h]

set_option maxRecDepth 100000 in
set_option maxHeartbeats 4000000 in
theorem refTrim_any (w : World) (s : Sl) (l : List Int) (k : Int) (h : RSrc inC 1 w s l) (hn : s.n ≤ 1000) : Calls Try.prog 10 #[s.v, .int .i64 k] w (TrimD l k w) := by
  have hl := h.len
  have HC := Lib.hid (refCheck_any w s l k h hn)
  have H := Lib.hid h
  have HL := Lib.hid hl
  unfold TrimD
  by_cases hok : okM l k = true
  · obtain ⟨_, m, rfl, hm⟩ := okM_parts hok
    rw [errT_ok hok] at HC ⊢
    have ho : outT l (m : Int) = trimL l m := by unfold outT; rw [if_pos hok, Int.toNat_natCast]
    rw [ho]
    have HAT := Lib.hid (fun W (hb : Below w.heap.size w W) (p : Nat) (hp : p < l.length) => refAt_any W s l p (h.later hb) hn hp)
    have htl : (trimL l m).length = l.length - 2 * m := trim_len hm
    have HTL := Lib.hid htl
    have HX0 := Lib.hid (fun j (hj : j < l.length - 2 * m) => trim_at (l := l) (k := m) hm hj)
    rw [hl] at hm
    obtain ⟨L, hLL⟩ : ∃ L, L = trimL l m := ⟨_, rfl⟩
    rw [← hLL] at HTL HX0 htl ⊢
    rw [hl] at htl HTL HX0 HAT
    obtain ⟨A, n, c⟩ := s
    unfold Sl.v at *
    dsimp only at *
    have e1 : IntKind.i64.wrap ((n : Int) - (m : Int)) = (n : Int) - (m : Int) := IntWalk.i64_in _ (by omega)
    clear h hl hok ho hLL
    go_enter Try.func10, Try.ntmps10
    go_wp2_with (go_at_call 22; refine HC.out.mono ?_; rintro e w1 ⟨rfl, hb⟩; have HB := Lib.hid hb; clear hb)
    obtain ⟨i0, hi, hy0, hy1, hy2⟩ := info_parts i_i64
    go_loopw [6, 7] (fun v iv wr => ∃ j : Nat, j ≤ n - 2 * m ∧ iv = .int .i64 ((m + j : Nat) : Int) ∧ wr.ownsRow w.heap.size 2 1 v j ((L.take j).flatMap inC) ∧ Below w.heap.size w wr) (fun _ iv _ => n - (intOf iv).toNat)
    case atStart => exact ⟨0, Nat.zero_le _, rfl, ⟨rfl, .inl ⟨rfl, rfl⟩⟩, HB.out⟩
    case round =>
      obtain ⟨j, hj, rfl, hrow, hwr⟩ := hrel
      have HR := Lib.hid (And.intro hrow hwr)
      clear hrow hwr
      by_cases hlt : j < n - 2 * m
      · have e2 : ((m + j : Nat) : Int) < (n : Int) - (m : Int) := by omega
        obtain ⟨p, hp⟩ : ∃ p, p = m + j := ⟨_, rfl⟩
        have ha := HAT.out wr HR.out.2 (m + j) (by omega)
        rw [← hp] at ha e2 ⊢
        obtain ⟨x, hx⟩ : ∃ x, x = (srt l).getD p 0 := ⟨_, rfl⟩
        rw [← hx] at ha
        have hxL : x = L.getD j 0 := by rw [hx, hp, HX0.out j hlt]
        have HA := Lib.hid ha
        have HX := Lib.hid (And.intro hxL hp)
        have hpb : p ≤ 2000 := by omega
        have hjb : j ≤ 1000 := by omega
        have hpp : m + (j + 1) = p + 1 := by omega
        have HPP := Lib.hid hpp
        clear ha hx hxL hp hpp HX0
        go_wp2_with (first
          | (go_at_call 23; refine HA.out.mono ?_; rintro e w2 ⟨rfl, hb⟩; have HR2 := Lib.hid (And.intro (own_kept HR.out.1 (Kept.of_below hb Empty) (fun _ _ h => h)) (k_then hb HR.out.2)); clear hb)
          | (at_builtin; refine wpList_append_own _ rfl (.tmp 21) (.tmp 25) 22 rfl w.heap.size 2 i0 _ 1 8 u_ints hi hy0 hy1 hy2 rfl (by decide) u6 j ((L.take j).flatMap inC) rfl (HR2.out.1.alloc _) ⟨w2.heap.size, 0, none⟩ 1 1 (inC x) rfl rfl (fun j u hu => World.news_of_block (Whole.new w2 _ _) j u hu) (inC_ones x) (by simp only [maxLen]; omega) (by omega) (by have := HR2.out.2.size; simp; omega) ?_; intro v' w5 h1 h2 _; have HG := Lib.hid (And.intro h1 h2); obtain ⟨g', cap', rfl⟩ := ownsRow_succ h1; clear h1 h2))
        refine ⟨⟨j + 1, by omega, by rw [HPP.out]; go_num, ?_, ?_⟩, by simp [intOf]; have := HX.out.2; omega⟩
        · have e : (L.take (j + 1)).flatMap inC = (L.take j).flatMap inC ++ inC x := by
            rw [HX.out.1, List.take_add_one, List.flatMap_append, List.getElem?_eq_getElem (by rw [HTL.out]; exact hlt), getD_lt (by rw [HTL.out]; exact hlt)]
            simp
          rw [e]
          exact HG.out.1
        · exact (HR2.out.2.alloc HR2.out.2.size _).grown HG.out.2 (by have := HR2.out.2.size; simp; omega) (fun i hi => (own_typed HR2.out.1 hi).1)
      · obtain rfl : j = n - 2 * m := by omega
        have e2 : ((m + (n - 2 * m) : Nat) : Int) = (n : Int) - (m : Int) := by omega
        rw [e2]
        have hrr := HR.out.1
        rw [← htl, List.take_length] at hrr
        have HRR := Lib.hid hrr
        clear e2 hrr HX0
        go_wp2
        go_ret2
        exact ⟨u6, rfl, HRR.out, HR.out.2⟩
  · have ho := outT_no hok
    rw [errT_no hok] at HC ⊢
    rw [ho]
    obtain ⟨A, n, c⟩ := s
    unfold Sl.v at *
    dsimp only at *
    clear h hl hok ho
    go_enter Try.func10, Try.ntmps10
    go_wp2_with (go_at_call 22; refine HC.out.mono ?_; rintro e w1 ⟨rfl, hb⟩; have HB := Lib.hid hb; clear hb)
    go_ret2
    exact ⟨_, rfl, ⟨rfl, .inl ⟨rfl, rfl⟩⟩, HB.out⟩

set_option maxRecDepth 100000 in
set_option maxHeartbeats 4000000 in
theorem refOf_any (w : World) (s : Sl) (l : List Int) (k : Int) (h : RSrc inC 1 w s l) (hn : s.n ≤ 1000) : Calls Try.prog 12 #[s.v, .int .i64 k] w fun e w' => e = .returned (.tuple #[.int .i64 (midT l k), .int .i64 (errT l k)]) ∧ Below w.heap.size w w' := by
  have hl := h.len
  have HC := Lib.hid (refCheck_any w s l k h hn)
  obtain ⟨o1, o2⟩ := ends_ok l k
  rw [(midT_is l k).1]
  by_cases hok : okM l k = true
  · obtain ⟨_, m, rfl, hm⟩ := okM_parts hok
    rw [errT_ok hok] at HC ⊢
    have h1 : loT l (m : Int) = (srt l).getD m 0 := by unfold loT loM; rw [if_pos hok, Int.toNat_natCast]
    have h2 : hiT l (m : Int) = (srt l).getD (l.length - 1 - m) 0 := by unfold hiT hiM; rw [if_pos hok, Int.toNat_natCast]
    have HA := Lib.hid (fun W (hb : Below w.heap.size w W) => refAt_any W s l m (h.later hb) hn (by omega))
    have HB := Lib.hid (fun W (hb : Below w.heap.size w W) => refAt_any W s l (l.length - 1 - m) (h.later hb) hn (by omega))
    rw [← h1] at HA
    rw [← h2] at HB
    obtain ⟨x, hx⟩ : ∃ x, x = loT l (m : Int) := ⟨_, rfl⟩
    obtain ⟨y, hy⟩ : ∃ y, y = hiT l (m : Int) := ⟨_, rfl⟩
    rw [← hx] at o1 HA ⊢
    rw [← hy] at o2 HB ⊢
    rw [hl] at hm HB
    obtain ⟨A, n, c⟩ := s
    unfold Sl.v at *
    dsimp only at *
    obtain ⟨q, hq⟩ : ∃ q, q = n - 1 - m := ⟨_, rfl⟩
    rw [← hq] at HB
    have e1 : IntKind.i64.wrap ((n : Int) - 1) = (n : Int) - 1 := IntWalk.i64_in _ (by omega)
    have e2 : IntKind.i64.wrap ((n : Int) - 1 - (m : Int)) = (q : Int) := by rw [IntWalk.i64_in _ (by omega)]; omega
    have e3 : IntKind.i64.wrap (x + y) = x + y := IntWalk.i64_in _ (by omega)
    obtain ⟨t, ht⟩ : ∃ t, t = (x + y).tdiv 2 := ⟨_, rfl⟩
    have hta : (0 ≤ x + y → (x + y).tdiv 2 = (x + y) / 2) := fun hh => Int.tdiv_eq_ediv_of_nonneg hh
    have htb : (x + y < 0 → (x + y).tdiv 2 = -(-(x + y) / 2)) := fun hh => by
      have := Int.neg_tdiv (x + y) 2
      rw [Int.tdiv_eq_ediv_of_nonneg (by omega)] at this
      omega
    rw [← ht] at hta htb
    have e4 : (x + y).tdiv 2 = t := ht.symm
    have e5 : IntKind.i64.wrap t = t := IntWalk.i64_in _ (by omega)
    have e6 : IntKind.i64.wrap (2 * t) = 2 * t := IntWalk.i64_in _ (by omega)
    have e7 : IntKind.i64.wrap (t - 1) = t - 1 := IntWalk.i64_in _ (by omega)
    obtain ⟨z, hz⟩ : ∃ z, z = (x + y) / 2 := ⟨_, rfl⟩
    rw [← hz]
    have HZ := Lib.hid (show (x + y < 2 * t → z = t - 1) ∧ (¬ x + y < 2 * t → z = t) from by omega)
    clear h hl hok hx hy hq ht hta htb hz h1 h2
    by_cases q1 : x + y < 2 * t
    · have hzt := HZ.out.1 q1
      rw [hzt]
      clear hzt
      go_enter Try.func12, Try.ntmps12
      go_wp2_with (first
        | (go_at_call 22; refine HC.out.mono ?_; rintro e w1 ⟨rfl, hb⟩; have H1 := Lib.hid hb; clear hb)
        | (go_at_call 23; with_reducible refine (HA.out _ H1.out).mono ?_; (rintro e w2 ⟨rfl, hb⟩; have H2 := Lib.hid (k_then hb H1.out); clear hb HA))
        | (go_at_call 23; with_reducible refine (HB.out _ H2.out).mono ?_; (rintro e w3 ⟨rfl, hb⟩; have H3 := Lib.hid (k_then hb H2.out); clear hb HB)))
      go_ret2
      exact ⟨rfl, H3.out⟩
    · have hzt := HZ.out.2 q1
      rw [hzt]
      clear hzt
      go_enter Try.func12, Try.ntmps12
      go_wp2_with (first
        | (go_at_call 22; refine HC.out.mono ?_; rintro e w1 ⟨rfl, hb⟩; have H1 := Lib.hid hb; clear hb)
        | (go_at_call 23; with_reducible refine (HA.out _ H1.out).mono ?_; (rintro e w2 ⟨rfl, hb⟩; have H2 := Lib.hid (k_then hb H1.out); clear hb HA))
        | (go_at_call 23; with_reducible refine (HB.out _ H2.out).mono ?_; (rintro e w3 ⟨rfl, hb⟩; have H3 := Lib.hid (k_then hb H2.out); clear hb HB)))
      go_ret2
      exact ⟨rfl, H3.out⟩
  · have h1 : loT l k = 0 := by unfold loT; rw [if_neg hok]
    have h2 : hiT l k = 0 := by unfold hiT; rw [if_neg hok]
    rw [errT_no hok] at HC ⊢
    rw [h1, h2]
    obtain ⟨A, n, c⟩ := s
    unfold Sl.v at *
    dsimp only at *
    clear h hl hok h1 h2 o1 o2
    go_enter Try.func12, Try.ntmps12
    go_wp2_with (go_at_call 22; refine HC.out.mono ?_; rintro e w1 ⟨rfl, hb⟩; have H1 := Lib.hid hb; clear hb)
    go_ret2
    exact ⟨rfl, H1.out⟩

set_option maxRecDepth 100000 in
set_option maxHeartbeats 4000000 in
theorem refSpread_any (w : World) (s : Sl) (l : List Int) (k : Int) (h : RSrc inC 1 w s l) (hn : s.n ≤ 1000) : Calls Try.prog 14 #[s.v, .int .i64 k] w fun e w' => e = .returned (.tuple #[.int .i64 (sprT l k), .int .i64 (errT l k)]) ∧ Below w.heap.size w w' := by
  have hl := h.len
  have HC := Lib.hid (refCheck_any w s l k h hn)
  obtain ⟨o1, o2⟩ := ends_ok l k
  rw [(midT_is l k).2]
  by_cases hok : okM l k = true
  · obtain ⟨_, m, rfl, hm⟩ := okM_parts hok
    rw [errT_ok hok] at HC ⊢
    have h1 : loT l (m : Int) = (srt l).getD m 0 := by unfold loT loM; rw [if_pos hok, Int.toNat_natCast]
    have h2 : hiT l (m : Int) = (srt l).getD (l.length - 1 - m) 0 := by unfold hiT hiM; rw [if_pos hok, Int.toNat_natCast]
    have HA := Lib.hid (fun W (hb : Below w.heap.size w W) => refAt_any W s l m (h.later hb) hn (by omega))
    have HB := Lib.hid (fun W (hb : Below w.heap.size w W) => refAt_any W s l (l.length - 1 - m) (h.later hb) hn (by omega))
    rw [← h1] at HA
    rw [← h2] at HB
    obtain ⟨x, hx⟩ : ∃ x, x = loT l (m : Int) := ⟨_, rfl⟩
    obtain ⟨y, hy⟩ : ∃ y, y = hiT l (m : Int) := ⟨_, rfl⟩
    rw [← hx] at o1 HA ⊢
    rw [← hy] at o2 HB ⊢
    rw [hl] at hm HB
    obtain ⟨A, n, c⟩ := s
    unfold Sl.v at *
    dsimp only at *
    obtain ⟨q, hq⟩ : ∃ q, q = n - 1 - m := ⟨_, rfl⟩
    rw [← hq] at HB
    have e1 : IntKind.i64.wrap ((n : Int) - 1) = (n : Int) - 1 := IntWalk.i64_in _ (by omega)
    have e2 : IntKind.i64.wrap ((n : Int) - 1 - (m : Int)) = (q : Int) := by rw [IntWalk.i64_in _ (by omega)]; omega
    have e3 : IntKind.i64.wrap (y - x) = y - x := IntWalk.i64_in _ (by omega)
    clear h hl hok hx hy hq h1 h2
    go_enter Try.func14, Try.ntmps14
    go_wp2_with (first
      | (go_at_call 22; refine HC.out.mono ?_; rintro e w1 ⟨rfl, hb⟩; have H1 := Lib.hid hb; clear hb)
      | (go_at_call 23; with_reducible refine (HB.out _ H1.out).mono ?_; (rintro e w2 ⟨rfl, hb⟩; have H2 := Lib.hid (k_then hb H1.out); clear hb HB))
      | (go_at_call 23; with_reducible refine (HA.out _ H2.out).mono ?_; (rintro e w3 ⟨rfl, hb⟩; have H3 := Lib.hid (k_then hb H2.out); clear hb HA)))
    go_ret2
    exact ⟨rfl, H3.out⟩
  · have h1 : loT l k = 0 := by unfold loT; rw [if_neg hok]
    have h2 : hiT l k = 0 := by unfold hiT; rw [if_neg hok]
    rw [errT_no hok] at HC ⊢
    rw [h1, h2]
    obtain ⟨A, n, c⟩ := s
    unfold Sl.v at *
    dsimp only at *
    clear h hl hok h1 h2 o1 o2
    go_enter Try.func14, Try.ntmps14
    go_wp2_with (go_at_call 22; refine HC.out.mono ?_; rintro e w1 ⟨rfl, hb⟩; have H1 := Lib.hid hb; clear hb)
    go_ret2
    exact ⟨rfl, H1.out⟩
end Go.Proofs.Ytfpkbhnlpmnegaa
