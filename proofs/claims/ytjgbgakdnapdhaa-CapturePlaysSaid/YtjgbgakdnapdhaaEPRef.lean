/- The document's capture in memory; its Of, List and Values, by contracts. No condition. -/
import Derived.Test.YtjgbgakdnapdhaaEPDef
import Derived.Test.YtjgbgakdnapdhaaEAgW
namespace Go.Proofs.Ytjgbgakdnapdhaa
open Go.RowKit Go.Shelf

theorem i_on : (Try.prog.info? 65).map (fun i => (i.zero, i.size, i.bytes)) = some (some (.agg #[.int .i64 0, .int .i64 0, .int .i64 0]), 3, 24) := by kernel_rfl
/-- The document's capture lies in block rr; what it holds in a row that was made since b. -/
structure RefE (b : Nat) (W : World) (rr : Nat) (v : Value) (D : List Oe) : Prop where
  box : Whole W rr 35 #[v]
  row : W.ownsRow b 65 3 v D.length (D.flatMap onC)
theorem RefE.later {b : Nat} {W W' : World} {rr : Nat} {v : Value} {D : List Oe} (h : RefE b W rr v D) (hb : Below W.heap.size W W') : RefE b W' rr v D := ⟨k_later hb h.box, own_kept h.row (Kept.of_below hb Empty) (fun _ _ h => h)⟩
theorem RefE.slice {b : Nat} {W : World} {rr : Nat} {v : Value} {D : List Oe} (h : RefE b W rr v D) : ∃ A c, v = .slice A D.length c ∧ RSrc onC 3 W ⟨A, D.length, c⟩ D := by
  obtain ⟨⟨A, n, c⟩, rfl, hs, _⟩ := rsrc_of_own (cells := onC) (k := 3) (fun _ => rfl) rfl h.row
  have hn : D.length = n := hs.len
  subst hn
  exact ⟨A, c, rfl, hs⟩
theorem tdiv_two (S : Int) : (0 ≤ S → S.tdiv 2 = S / 2) ∧ (S < 0 → S.tdiv 2 = -((-S) / 2)) := by
  refine ⟨fun h => Int.tdiv_eq_ediv_of_nonneg h, fun h => ?_⟩
  have : S.tdiv 2 = -((-S).tdiv 2) := by rw [Int.neg_tdiv, Int.neg_neg]
  rw [this, Int.tdiv_eq_ediv_of_nonneg (by omega)]
theorem takeO_more {D : List Oe} {k : Nat} (hk : k < D.length) : D.take (k + 1) = D.take k ++ [D.getD k default] := take_more hk

set_option maxRecDepth 100000 in
set_option maxHeartbeats 4000000 in
theorem refOf_any {b : Nat} {w : World} {rr : Nat} {v : Value} {D : List Oe} (h : RefE b w rr v D) (hg : GoodD D) (hl : D.length ≤ 1000) (n : Int) : Calls Try.prog 11 #[.pointer (some ⟨rr, 0, none⟩), .int .i64 n] w fun e w' => e = .returned (ofV (ofC (look D) n)) ∧ w' = w := by
  obtain ⟨A, c, rfl, hs⟩ := h.slice
  have c0 := h.box.cell 0
  simp at c0
  have HS := Lib.hid hs
  have HG := Lib.hid hg
  obtain ⟨M, hM⟩ : ∃ M, M = D.length := ⟨_, rfl⟩
  rw [← hM] at c0 hl
  have HM := Lib.hid hM
  clear h hs hg hM
  go_enter Try.func11, Try.ntmps11
  go_wp2
  go_loopw [6, 7, 8] (fun sv mv iv wr => ∃ (k : Nat), k ≤ M ∧ iv = .int .i64 (k : Int) ∧ sv = .int .i64 (sumD n (D.take k)) ∧ mv = .int .i64 (cntD n (D.take k)) ∧ wr = w) (fun _ _ iv _ => M - (intOf iv).toNat)
  case atStart => exact ⟨0, Nat.zero_le _, rfl, rfl, rfl, rfl⟩
  case round =>
    obtain ⟨k, hk, rfl, rfl, rfl, rfl⟩ := hrel
    by_cases hlt : k < M
    · obtain ⟨g, o, hA0, hA2⟩ := HS.out.get (i := k) (by show k < D.length; have := HM.out; omega)
      dsimp only at hA0
      subst hA0
      have htk := take_more (D := D) (k := k) (by have := HM.out; omega)
      have hb1 := sum_bound n (D.take k) (fun o ho => HG.out.valid o (List.mem_of_mem_take ho))
      have hb2 := cnt_bound n (D.take k)
      have hlk : (D.take k).length = k := by rw [List.length_take]; have := HM.out; omega
      rw [hlk] at hb1 hb2
      have hmem : D.getD k default ∈ D := by rw [List.getD_eq_getElem?_getD, List.getElem?_eq_getElem (by have := HM.out; omega)]; exact List.getElem_mem _
      have hvb := byB_iff.1 (HG.out.valid _ hmem).2.2
      obtain ⟨x, hx⟩ : ∃ o, o = D.getD k default := ⟨_, rfl⟩
      rw [← hx] at hA2 htk hvb
      have hs1 := sumD_snoc n x (D.take k)
      have hc1 := cntD_snoc n x (D.take k)
      rw [← htk] at hs1 hc1
      obtain ⟨ok, on, oc, ov⟩ := x
      obtain ⟨q0, q1, q2⟩ := onC_cells hA2
      dsimp only at q0 q1 q2 hs1 hc1 hvb
      obtain ⟨v1, v2⟩ := hvb
      have e1 : (0 : Int) ≤ (k : Int) := by omega
      have e2 : (k : Int) < (M : Int) := by omega
      have HSC := Lib.hid (And.intro hs1 hc1)
      obtain ⟨S, hS⟩ : ∃ S, S = sumD n (D.take k) := ⟨_, rfl⟩
      obtain ⟨C, hC⟩ : ∃ C, C = cntD n (D.take k) := ⟨_, rfl⟩
      rw [← hS, ← hC] at HSC
      rw [← hS] at hb1
      rw [← hC] at hb2
      rw [← hS, ← hC]
      obtain ⟨b1, b2⟩ := hb1
      obtain ⟨b3, b4⟩ := hb2
      clear hS hC hs1 hc1 htk hx hA2 hmem hlk
      by_cases hon : on = n
      · subst hon
        have w1 : IntKind.i64.wrap (S + ov) = S + ov := IntWalk.i64_in _ (by omega)
        go_wp2
        go_roundw
        case rel => exact ⟨k + 1, by omega, by go_num, by rw [HSC.out.1, if_pos rfl], by rw [HSC.out.2, if_pos rfl], by trivial⟩
        case measure => simp [intOf]; omega
      · have hon2 : (on == n) = false := beq_eq_false_iff_ne.2 hon
        have HON := Lib.hid hon
        clear hon
        go_wp2
        go_roundw
        case rel => exact ⟨k + 1, by omega, by go_num, by rw [HSC.out.1, if_neg HON.out, Int.add_zero], by rw [HSC.out.2, if_neg HON.out, Int.add_zero], by trivial⟩
        case measure => simp [intOf]; omega
    · have htk : D.take k = D := List.take_of_length_le (by have := HM.out; omega)
      rw [htk]
      have hb1 := sum_bound n D HG.out.valid
      rw [← HM.out] at hb1
      have HT := Lib.hid (of_three HG.out n)
      obtain ⟨S, hS⟩ : ∃ S, S = sumD n D := ⟨_, rfl⟩
      obtain ⟨C, hC⟩ : ∃ C, C = cntD n D := ⟨_, rfl⟩
      rw [← hS, ← hC] at HT
      rw [← hS] at hb1
      rw [← hS, ← hC]
      obtain ⟨b1, b2⟩ := hb1
      clear hS hC htk
      rcases HT.out with ⟨rfl, ho⟩ | ⟨rfl, ho⟩ | ⟨rfl, ho⟩
      · have HO := Lib.hid ho
        clear ho HT
        go_wp2
        go_ret2
        exact ⟨by rw [HO.out]; rfl, rfl⟩
      · have HO := Lib.hid ho
        have t1 : S.tdiv 1 = S := Int.tdiv_one S
        have w1 : IntKind.i64.wrap S = S := IntWalk.i64_in _ (by omega)
        clear ho HT
        go_wp2
        go_ret2
        exact ⟨by rw [HO.out]; rfl, rfl⟩
      · have HO := Lib.hid ho
        clear ho HT
        obtain ⟨q, hq⟩ : ∃ q, q = S.tdiv 2 := ⟨_, rfl⟩
        have t1 : S.tdiv 2 = q := hq.symm
        have hq0 := tdiv_two S
        rw [t1] at hq0
        have w1 : IntKind.i64.wrap q = q := IntWalk.i64_in _ (by omega)
        have w2 : IntKind.i64.wrap (q * 2) = q * 2 := IntWalk.i64_in _ (by omega)
        by_cases hgt : S < q * 2
        · have w3 : IntKind.i64.wrap (q - 1) = q - 1 := IntWalk.i64_in _ (by omega)
          have HF := Lib.hid (show q - 1 = S / 2 from by omega)
          clear hq hq0
          go_wp2
          go_ret2
          exact ⟨by rw [HO.out, ← HF.out]; rfl, rfl⟩
        · have HF := Lib.hid (show q = S / 2 from by omega)
          clear hq hq0
          go_wp2
          go_ret2
          exact ⟨by rw [HO.out, ← HF.out]; rfl, rfl⟩
end Go.Proofs.Ytjgbgakdnapdhaa
