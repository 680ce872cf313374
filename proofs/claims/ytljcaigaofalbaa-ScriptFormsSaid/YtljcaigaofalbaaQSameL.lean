/- ScriptSame, of two scripts that are read. No condition. -/
import Derived.Test.YtljcaigaofalbaaQEx
import Derived.Test.YtljcaigaofalbaaQY
import Derived.Test.YtljcaigaofalbaaQCp
namespace Go.Proofs.Ytljcaigaofalbaa
open Go.RowKit Go.Shelf

theorem same5 (V U : ScV) (s t : ScA) (W : World) (h1 : ScAt W V s) (h2 : ScAt W U t) : Calls Try.prog 24 #[.agg #[.slice V.r.A V.r.n V.r.c, .slice V.o.A V.o.n V.o.c, .slice V.d.A V.d.n V.d.c, .slice V.h.A V.h.n V.h.c, .slice V.f.A V.f.n V.f.c], .agg #[.slice U.r.A U.r.n U.r.c, .slice U.o.A U.o.n U.o.c, .slice U.d.A U.d.n U.d.c, .slice U.h.A U.h.n U.h.c, .slice U.f.A U.f.n U.f.c]] W fun e w' => e = .returned (.bool (decide (s.sc = t.sc))) ∧ Below W.heap.size W w' := Same_any V U s t W h1 h2
theorem copy5 (V : ScV) (s : ScA) (W : World) (h : ScAt W V s) (hm : Small V) (hpl : ∀ y ∈ s.haps, y.pl.length ≤ 1000000) :
    Calls Try.prog 25 #[.agg #[.slice V.r.A V.r.n V.r.c, .slice V.o.A V.o.n V.o.c, .slice V.d.A V.d.n V.d.c, .slice V.h.A V.h.n V.h.c, .slice V.f.A V.f.n V.f.c]] W fun e w' => ∃ (p0 p1 p2 p3 p4 : Option Addr) (q0 q1 q2 q3 q4 z0 z1 z2 z3 z4 : Nat) (s' : ScA), e = .returned (.agg #[.slice p0 q0 z0, .slice p1 q1 z1, .slice p2 q2 z2, .slice p3 q3 z3, .slice p4 q4 z4]) ∧ ScAt w' ⟨⟨p0, q0, z0⟩, ⟨p1, q1, z1⟩, ⟨p2, q2, z2⟩, ⟨p3, q3, z3⟩, ⟨p4, q4, z4⟩⟩ s' ∧ s'.sc = s.sc ∧ Below W.heap.size W w' := by
  refine (Copy_any V s W h hm hpl).mono fun e w' k => ?_
  obtain ⟨V', s', B, rfl, hsb, hsc, hb⟩ := k
  obtain ⟨⟨⟨p0, q0, z0⟩, ⟨p1, q1, z1⟩, ⟨p2, q2, z2⟩, ⟨p3, q3, z3⟩, ⟨p4, q4, z4⟩⟩, e1, e2, _⟩ := hsb.sc
  exact ⟨p0, p1, p2, p3, p4, q0, q1, q2, q3, q4, z0, z1, z2, z3, z4, s', by rw [e1]; rfl, e2, hsc, hb⟩
theorem small_of {V : ScV} {s : ScA} {W : World} (h : ScAt W V s) (hg : greatI s = 0) : Small V ∧ ∀ y ∈ s.haps, y.pl.length ≤ 1000000 := by
  have hs : smallB s = true := by
    unfold greatI at hg
    split at hg
    · assumption
    · omega
  obtain ⟨a, b, c, d, e, f⟩ := smallB_iff.1 hs
  have l0 := h.r.len
  have l1 := h.o.len
  have l2 := h.d.len
  have l3 := h.h.row.len
  have l4 := h.f.len
  exact ⟨⟨⟨by omega, by omega⟩, ⟨by omega, by omega⟩, by omega⟩, fun y hy => by have := f y hy; omega⟩
theorem great_one {s : ScA} (hg : ¬ greatI s = 0) : greatI s = 1 := by
  unfold greatI at hg ⊢
  split at hg
  · exact absurd rfl hg
  · rename_i hh
    rw [if_neg hh]

set_option maxRecDepth 100000 in
set_option maxHeartbeats 8000000 in
theorem sameLaw_any (x : Pl) (V U : ScV) (s t : ScA) (w : World) (h1 : ScAt w V s) (h2 : ScAt w U t) :
    Calls Try.prog 9 #[.agg x.cells, .agg V.cells, .agg U.cells] w fun e w' => e = .returned (.bool true) ∧ Below w.heap.size w w' := by
  have hX := held_new (held_new (held_new (held_start w) 23 x.cells) 29 V.cells) 29 U.cells
  simp only [List.nil_append, List.cons_append, World.size_alloc] at hX
  have HB0 := Lib.hid (show BK w (((w.alloc (.cells x.cells 23)).alloc (.cells V.cells 29)).alloc (.cells U.cells 29)) [(w.heap.size, 23, x.cells), (w.heap.size + 1, 29, V.cells), (w.heap.size + 2, 29, U.cells)] [(V, s), (U, t)] [] from ⟨hX, fun y hy => by
    simp only [List.mem_cons, List.not_mem_nil, or_false] at hy
    rcases hy with rfl | rfl
    · exact h1.later hX.1
    · exact h2.later hX.1, fun y hy => by cases hy⟩)
  have HS := Lib.hid x.cellsL
  have HV := Lib.hid V.info
  have HU := Lib.hid U.info
  have HA := Lib.hid (fun W => aliveS_any W)
  have HG := Lib.hid (fun W hW => great_any W V s hW)
  have HG2 := Lib.hid (fun W hW => great_any W U t hW)
  have HSM := Lib.hid (fun hg => small_of h1 hg)
  clear hX h1 h2
  by_cases hg : greatI s = 0
  case neg =>
    rw [great_one hg] at HG
    clear hg
    go_enter Try.func9, Try.ntmps9
    go_wp2_with (first
      | (go_at_call 43; refine (HA.out _).mono ?_; rintro e w1 ⟨rfl, hb1⟩; have HB1 := Lib.hid (HB0.out.later hb1); clear hb1)
      | (refine wpList_load_row rfl 29 (.tmp 4) rfl (w.heap.size + 1) rfl 29 V.cells (0, 0) _ (HB1.out.whole (y := (w.heap.size + 1, 29, V.cells)) (by simp)) Try.underlying29 rfl HV.out ?_)
      | (go_at_call 10; with_reducible refine (HG.out _ (HB1.out.sc (V, s) (by simp))).mono ?_; rintro e w2 ⟨rfl, hb2⟩; have HB2 := Lib.hid (HB1.out.later hb2); clear hb2))
    go_ret
    exact ⟨rfl, HB2.out.below⟩
  rw [hg] at HG
  by_cases hg2 : greatI t = 0
  case neg =>
    rw [great_one hg2] at HG2
    clear hg hg2
    go_enter Try.func9, Try.ntmps9
    go_wp2_with (first
      | (go_at_call 43; refine (HA.out _).mono ?_; rintro e w1 ⟨rfl, hb1⟩; have HB1 := Lib.hid (HB0.out.later hb1); clear hb1)
      | (refine wpList_load_row rfl 29 (.tmp 4) rfl (w.heap.size + 1) rfl 29 V.cells (0, 0) _ (HB1.out.whole (y := (w.heap.size + 1, 29, V.cells)) (by simp)) Try.underlying29 rfl HV.out ?_)
      | (go_at_call 10; with_reducible refine (HG.out _ (HB1.out.sc (V, s) (by simp))).mono ?_; rintro e w2 ⟨rfl, hb2⟩; have HB2 := Lib.hid (HB1.out.later hb2); clear hb2)
      | (refine wpList_load_want (by kernel_rfl) 29 (.tmp 5) rfl (w.heap.size + 2) rfl 29 U.cells (0, 0) _ (HB2.out.whole (y := (w.heap.size + 2, 29, U.cells)) (by simp)) Try.underlying29 rfl HU.out ?_)
      | (go_at_call 10; with_reducible refine (HG2.out _ (HB2.out.sc (U, t) (by simp))).mono ?_; rintro e w3 ⟨rfl, hb3⟩; have HB3 := Lib.hid (HB2.out.later hb3); clear hb3))
    go_ret
    exact ⟨rfl, HB3.out.below⟩
  rw [hg2] at HG2
  have HSm := Lib.hid (HSM.out hg)
  clear hg hg2 HSM
  cases hm1 : mayS x s.sc with
  | false =>
    have HM1 := Lib.hid hm1
    clear hm1
    cases hm2 : mayS x t.sc with
    | false =>
      have HM2 := Lib.hid hm2
      clear hm2
      go_enter Try.func9, Try.ntmps9
      go_upto_region 4 with (first
        | (go_at_call 43; refine (HA.out _).mono ?_; rintro e w1 ⟨rfl, hb1⟩; have HB1 := Lib.hid (HB0.out.later hb1); clear hb1)
        | (refine wpList_load_row rfl 29 (.tmp 4) rfl (w.heap.size + 1) rfl 29 V.cells (0, 0) _ (HB1.out.whole (y := (w.heap.size + 1, 29, V.cells)) (by simp)) Try.underlying29 rfl HV.out ?_)
        | (go_at_call 10; with_reducible refine (HG.out _ (HB1.out.sc (V, s) (by simp))).mono ?_; rintro e w2 ⟨rfl, hb2⟩; have HB2 := Lib.hid (HB1.out.later hb2); clear hb2)
        | (refine wpList_load_want (by kernel_rfl) 29 (.tmp 5) rfl (w.heap.size + 2) rfl 29 U.cells (0, 0) _ (HB2.out.whole (y := (w.heap.size + 2, 29, U.cells)) (by simp)) Try.underlying29 rfl HU.out ?_)
        | (go_at_call 10; with_reducible refine (HG2.out _ (HB2.out.sc (U, t) (by simp))).mono ?_; rintro e w3 ⟨rfl, hb3⟩; have HB3 := Lib.hid (HB2.out.later hb3); clear hb3))
      clear HA HG HG2 HB0 HB1 HB2
      go_upto_region 5 with (first
        | (refine wpList_load_row rfl 23 _ rfl w.heap.size rfl 23 x.cells (0, 0) _ (HB3.out.whole (y := (w.heap.size, 23, x.cells)) (by simp)) Try.underlying23 rfl HS.out.plan ?_)
        | (refine wpList_load_row rfl 29 (.tmp 4) rfl (w.heap.size + 1) rfl 29 V.cells (0, 0) _ (HB3.out.whole (y := (w.heap.size + 1, 29, V.cells)) (by simp)) Try.underlying29 rfl HV.out ?_)
        | (go_at_call 13; with_reducible refine (encode_no x V s _ (HB3.out.sc (V, s) (by simp)) HM1.out).mono ?_; rintro e w4 ⟨rfl, hb⟩; have HB4 := Lib.hid (HB3.out.later hb); clear hb))
      clear HB3
      go_upto_region 6 with (first
        | (refine wpList_load_row rfl 23 _ rfl w.heap.size rfl 23 x.cells (0, 0) _ (HB4.out.whole (y := (w.heap.size, 23, x.cells)) (by simp)) Try.underlying23 rfl HS.out.plan ?_)
        | (refine wpList_load_row rfl 29 (.tmp 5) rfl (w.heap.size + 2) rfl 29 U.cells (0, 0) _ (HB4.out.whole (y := (w.heap.size + 2, 29, U.cells)) (by simp)) Try.underlying29 rfl HU.out ?_)
        | (go_at_call 13; with_reducible refine (encode_no x U t _ (HB4.out.sc (U, t) (by simp)) HM2.out).mono ?_; rintro e w5 ⟨rfl, hb⟩; have HB5 := Lib.hid (HB4.out.later hb); clear hb))
      clear HB4
      go_wp2
      go_ret
      exact ⟨rfl, HB5.out.below⟩
    | true =>
      have HM2 := Lib.hid hm2
      clear hm2
      obtain ⟨L2, hL2⟩ : ∃ L2, L2 = encS x t.sc := ⟨_, rfl⟩
      have HL2 := Lib.hid hL2
      clear hL2
      go_enter Try.func9, Try.ntmps9
      go_upto_region 4 with (first
        | (go_at_call 43; refine (HA.out _).mono ?_; rintro e w1 ⟨rfl, hb1⟩; have HB1 := Lib.hid (HB0.out.later hb1); clear hb1)
        | (refine wpList_load_row rfl 29 (.tmp 4) rfl (w.heap.size + 1) rfl 29 V.cells (0, 0) _ (HB1.out.whole (y := (w.heap.size + 1, 29, V.cells)) (by simp)) Try.underlying29 rfl HV.out ?_)
        | (go_at_call 10; with_reducible refine (HG.out _ (HB1.out.sc (V, s) (by simp))).mono ?_; rintro e w2 ⟨rfl, hb2⟩; have HB2 := Lib.hid (HB1.out.later hb2); clear hb2)
        | (refine wpList_load_want (by kernel_rfl) 29 (.tmp 5) rfl (w.heap.size + 2) rfl 29 U.cells (0, 0) _ (HB2.out.whole (y := (w.heap.size + 2, 29, U.cells)) (by simp)) Try.underlying29 rfl HU.out ?_)
        | (go_at_call 10; with_reducible refine (HG2.out _ (HB2.out.sc (U, t) (by simp))).mono ?_; rintro e w3 ⟨rfl, hb3⟩; have HB3 := Lib.hid (HB2.out.later hb3); clear hb3))
      clear HA HG HG2 HB0 HB1 HB2
      go_upto_region 5 with (first
        | (refine wpList_load_row rfl 23 _ rfl w.heap.size rfl 23 x.cells (0, 0) _ (HB3.out.whole (y := (w.heap.size, 23, x.cells)) (by simp)) Try.underlying23 rfl HS.out.plan ?_)
        | (refine wpList_load_row rfl 29 (.tmp 4) rfl (w.heap.size + 1) rfl 29 V.cells (0, 0) _ (HB3.out.whole (y := (w.heap.size + 1, 29, V.cells)) (by simp)) Try.underlying29 rfl HV.out ?_)
        | (go_at_call 13; with_reducible refine (encode_no x V s _ (HB3.out.sc (V, s) (by simp)) HM1.out).mono ?_; rintro e w4 ⟨rfl, hb⟩; have HB4 := Lib.hid (HB3.out.later hb); clear hb))
      clear HB3
      go_upto_region 6 with (first
        | (refine wpList_load_row rfl 23 _ rfl w.heap.size rfl 23 x.cells (0, 0) _ (HB4.out.whole (y := (w.heap.size, 23, x.cells)) (by simp)) Try.underlying23 rfl HS.out.plan ?_)
        | (refine wpList_load_row rfl 29 (.tmp 5) rfl (w.heap.size + 2) rfl 29 U.cells (0, 0) _ (HB4.out.whole (y := (w.heap.size + 2, 29, U.cells)) (by simp)) Try.underlying29 rfl HU.out ?_)
        | (go_at_call 13; with_reducible refine (Encode_sc x U t _ (HB4.out.sc (U, t) (by simp)) HM2.out L2 HL2.out.symm).mono ?_; rintro e w5 ⟨A2, c2, rfl, hsr, hz1, hb⟩; have HB5 := Lib.hid ((HB4.out.later hb).bytes hsr); clear hb hsr hz1))
      clear HB4
      go_wp2
      go_ret
      exact ⟨rfl, HB5.out.below⟩
  | true =>
    have HM1 := Lib.hid hm1
    clear hm1
    cases hm2 : mayS x t.sc with
    | false =>
      have HM2 := Lib.hid hm2
      clear hm2
      obtain ⟨L1, hL1⟩ : ∃ L1, L1 = encS x s.sc := ⟨_, rfl⟩
      have HL1 := Lib.hid hL1
      clear hL1
      go_enter Try.func9, Try.ntmps9
      go_upto_region 4 with (first
        | (go_at_call 43; refine (HA.out _).mono ?_; rintro e w1 ⟨rfl, hb1⟩; have HB1 := Lib.hid (HB0.out.later hb1); clear hb1)
        | (refine wpList_load_row rfl 29 (.tmp 4) rfl (w.heap.size + 1) rfl 29 V.cells (0, 0) _ (HB1.out.whole (y := (w.heap.size + 1, 29, V.cells)) (by simp)) Try.underlying29 rfl HV.out ?_)
        | (go_at_call 10; with_reducible refine (HG.out _ (HB1.out.sc (V, s) (by simp))).mono ?_; rintro e w2 ⟨rfl, hb2⟩; have HB2 := Lib.hid (HB1.out.later hb2); clear hb2)
        | (refine wpList_load_want (by kernel_rfl) 29 (.tmp 5) rfl (w.heap.size + 2) rfl 29 U.cells (0, 0) _ (HB2.out.whole (y := (w.heap.size + 2, 29, U.cells)) (by simp)) Try.underlying29 rfl HU.out ?_)
        | (go_at_call 10; with_reducible refine (HG2.out _ (HB2.out.sc (U, t) (by simp))).mono ?_; rintro e w3 ⟨rfl, hb3⟩; have HB3 := Lib.hid (HB2.out.later hb3); clear hb3))
      clear HA HG HG2 HB0 HB1 HB2
      go_upto_region 5 with (first
        | (refine wpList_load_row rfl 23 _ rfl w.heap.size rfl 23 x.cells (0, 0) _ (HB3.out.whole (y := (w.heap.size, 23, x.cells)) (by simp)) Try.underlying23 rfl HS.out.plan ?_)
        | (refine wpList_load_row rfl 29 (.tmp 4) rfl (w.heap.size + 1) rfl 29 V.cells (0, 0) _ (HB3.out.whole (y := (w.heap.size + 1, 29, V.cells)) (by simp)) Try.underlying29 rfl HV.out ?_)
        | (go_at_call 13; with_reducible refine (Encode_sc x V s _ (HB3.out.sc (V, s) (by simp)) HM1.out L1 HL1.out.symm).mono ?_; rintro e w4 ⟨A1, c1, rfl, hsr, hz1, hb⟩; have HB4 := Lib.hid ((HB3.out.later hb).bytes hsr); clear hb hsr hz1))
      clear HB3
      go_upto_region 6 with (first
        | (refine wpList_load_row rfl 23 _ rfl w.heap.size rfl 23 x.cells (0, 0) _ (HB4.out.whole (y := (w.heap.size, 23, x.cells)) (by simp)) Try.underlying23 rfl HS.out.plan ?_)
        | (refine wpList_load_row rfl 29 (.tmp 5) rfl (w.heap.size + 2) rfl 29 U.cells (0, 0) _ (HB4.out.whole (y := (w.heap.size + 2, 29, U.cells)) (by simp)) Try.underlying29 rfl HU.out ?_)
        | (go_at_call 13; with_reducible refine (encode_no x U t _ (HB4.out.sc (U, t) (by simp)) HM2.out).mono ?_; rintro e w5 ⟨rfl, hb⟩; have HB5 := Lib.hid (HB4.out.later hb); clear hb))
      clear HB4
      go_wp2
      go_ret
      exact ⟨rfl, HB5.out.below⟩
    | true =>
      have HM2 := Lib.hid hm2
      clear hm2
      obtain ⟨L1, hL1⟩ : ∃ L1, L1 = encS x s.sc := ⟨_, rfl⟩
      have HL1 := Lib.hid hL1
      clear hL1
      obtain ⟨L2, hL2⟩ : ∃ L2, L2 = encS x t.sc := ⟨_, rfl⟩
      have HL2 := Lib.hid hL2
      clear hL2
      go_enter Try.func9, Try.ntmps9
      go_upto_region 4 with (first
        | (go_at_call 43; refine (HA.out _).mono ?_; rintro e w1 ⟨rfl, hb1⟩; have HB1 := Lib.hid (HB0.out.later hb1); clear hb1)
        | (refine wpList_load_row rfl 29 (.tmp 4) rfl (w.heap.size + 1) rfl 29 V.cells (0, 0) _ (HB1.out.whole (y := (w.heap.size + 1, 29, V.cells)) (by simp)) Try.underlying29 rfl HV.out ?_)
        | (go_at_call 10; with_reducible refine (HG.out _ (HB1.out.sc (V, s) (by simp))).mono ?_; rintro e w2 ⟨rfl, hb2⟩; have HB2 := Lib.hid (HB1.out.later hb2); clear hb2)
        | (refine wpList_load_want (by kernel_rfl) 29 (.tmp 5) rfl (w.heap.size + 2) rfl 29 U.cells (0, 0) _ (HB2.out.whole (y := (w.heap.size + 2, 29, U.cells)) (by simp)) Try.underlying29 rfl HU.out ?_)
        | (go_at_call 10; with_reducible refine (HG2.out _ (HB2.out.sc (U, t) (by simp))).mono ?_; rintro e w3 ⟨rfl, hb3⟩; have HB3 := Lib.hid (HB2.out.later hb3); clear hb3))
      clear HA HG HG2 HB0 HB1 HB2
      go_upto_region 5 with (first
        | (refine wpList_load_row rfl 23 _ rfl w.heap.size rfl 23 x.cells (0, 0) _ (HB3.out.whole (y := (w.heap.size, 23, x.cells)) (by simp)) Try.underlying23 rfl HS.out.plan ?_)
        | (refine wpList_load_row rfl 29 (.tmp 4) rfl (w.heap.size + 1) rfl 29 V.cells (0, 0) _ (HB3.out.whole (y := (w.heap.size + 1, 29, V.cells)) (by simp)) Try.underlying29 rfl HV.out ?_)
        | (go_at_call 13; with_reducible refine (Encode_sc x V s _ (HB3.out.sc (V, s) (by simp)) HM1.out L1 HL1.out.symm).mono ?_; rintro e w4 ⟨A1, c1, rfl, hsr, hz1, hb⟩; have HB4 := Lib.hid ((HB3.out.later hb).bytes hsr); clear hb hsr hz1))
      clear HB3
      go_upto_region 6 with (first
        | (refine wpList_load_row rfl 23 _ rfl w.heap.size rfl 23 x.cells (0, 0) _ (HB4.out.whole (y := (w.heap.size, 23, x.cells)) (by simp)) Try.underlying23 rfl HS.out.plan ?_)
        | (refine wpList_load_row rfl 29 (.tmp 5) rfl (w.heap.size + 2) rfl 29 U.cells (0, 0) _ (HB4.out.whole (y := (w.heap.size + 2, 29, U.cells)) (by simp)) Try.underlying29 rfl HU.out ?_)
        | (go_at_call 13; with_reducible refine (Encode_sc x U t _ (HB4.out.sc (U, t) (by simp)) HM2.out L2 HL2.out.symm).mono ?_; rintro e w5 ⟨A2, c2, rfl, hsr, hz1, hb⟩; have HB5 := Lib.hid ((HB4.out.later hb).bytes hsr); clear hb hsr hz1))
      clear HB4
      go_upto_region 8 with fail
      have hok : failsL x 11 = 0 ∧ okS x s.sc = true ∧ okS x t.sc = true := by
        have a := HM1.out
        have b := HM2.out
        unfold mayS at a b
        rw [Bool.and_eq_true, decide_eq_true_eq] at a b
        exact ⟨a.1, a.2, b.2⟩
      have hinj := enc_inj (okp_of hok.1) hok.2.1 hok.2.2
      rw [← HL1.out, ← HL2.out] at hinj
      have hz : decide (L1 = L2) = decide (s.sc = t.sc) := by rw [Bool.eq_iff_iff, decide_eq_true_eq, decide_eq_true_eq]; exact hinj
      have hbq := str_beq L1 L2
      rw [hz] at hbq
      have hz2 : decide (t.sc = s.sc) = decide (s.sc = t.sc) := by rw [Bool.eq_iff_iff, decide_eq_true_eq, decide_eq_true_eq]; exact eq_comm
      have CS := Lib.hid (fun W (h : BK w W [(w.heap.size, 23, x.cells), (w.heap.size + 1, 29, V.cells), (w.heap.size + 2, 29, U.cells)] [(V, s), (U, t)] [(A1, L1), (A2, L2)]) => same5 V U s t W (h.sc (V, s) (by simp)) (h.sc (U, t) (by simp)))
      have CT := Lib.hid (fun W (h : BK w W [(w.heap.size, 23, x.cells), (w.heap.size + 1, 29, V.cells), (w.heap.size + 2, 29, U.cells)] [(V, s), (U, t)] [(A1, L1), (A2, L2)]) => same5 U V t s W (h.sc (U, t) (by simp)) (h.sc (V, s) (by simp)))
      rw [hz2] at CT
      obtain ⟨z, hzz⟩ : ∃ z, z = decide (s.sc = t.sc) := ⟨_, rfl⟩
      rw [← hzz] at CS CT hbq
      have CC := Lib.hid (fun W (h : BK w W [(w.heap.size, 23, x.cells), (w.heap.size + 1, 29, V.cells), (w.heap.size + 2, 29, U.cells)] [(V, s), (U, t)] [(A1, L1), (A2, L2)]) => copy5 V s W (h.sc (V, s) (by simp)) HSm.out.1 HSm.out.2)
      have CX := Lib.hid (fun W (p0 p1 p2 p3 p4 : Option Addr) (q0 q1 q2 q3 q4 z0 z1 z2 z3 z4 : Nat) (s' : ScA) (h : BK w W [(w.heap.size, 23, x.cells), (w.heap.size + 1, 29, V.cells), (w.heap.size + 2, 29, U.cells)] [(V, s), (U, t)] [(A1, L1), (A2, L2)]) (hs : ScAt W ⟨⟨p0, q0, z0⟩, ⟨p1, q1, z1⟩, ⟨p2, q2, z2⟩, ⟨p3, q3, z3⟩, ⟨p4, q4, z4⟩⟩ s') (e : s'.sc = s.sc) => (show Calls Try.prog 24 #[.agg #[.slice V.r.A V.r.n V.r.c, .slice V.o.A V.o.n V.o.c, .slice V.d.A V.d.n V.d.c, .slice V.h.A V.h.n V.h.c, .slice V.f.A V.f.n V.f.c], .agg #[.slice p0 q0 z0, .slice p1 q1 z1, .slice p2 q2 z2, .slice p3 q3 z3, .slice p4 q4 z4]] W fun e w' => e = .returned (.bool true) ∧ Below W.heap.size W w' from by
        have := same5 V ⟨⟨p0, q0, z0⟩, ⟨p1, q1, z1⟩, ⟨p2, q2, z2⟩, ⟨p3, q3, z3⟩, ⟨p4, q4, z4⟩⟩ s s' W (h.sc (V, s) (by simp)) hs
        rw [e, decide_eq_true rfl] at this
        exact this))
      obtain ⟨x1, hx1⟩ : ∃ x1 : ByteArray, x1 = ⟨L1.toArray⟩ := ⟨_, rfl⟩
      obtain ⟨x2, hx2⟩ : ∃ x2 : ByteArray, x2 = ⟨L2.toArray⟩ := ⟨_, rfl⟩
      rw [← hx1, ← hx2] at hbq
      have KS := Lib.hid (fun W (h : BK w W [(w.heap.size, 23, x.cells), (w.heap.size + 1, 29, V.cells), (w.heap.size + 2, 29, U.cells)] [(V, s), (U, t)] [(A1, L1), (A2, L2)]) => (show (W.cell? ⟨w.heap.size + 1, 0, none⟩ = some (.slice V.r.A V.r.n V.r.c) ∧ W.cell? ⟨w.heap.size + 1, 1, none⟩ = some (.slice V.o.A V.o.n V.o.c) ∧ W.cell? ⟨w.heap.size + 1, 2, none⟩ = some (.slice V.d.A V.d.n V.d.c) ∧ W.cell? ⟨w.heap.size + 1, 3, none⟩ = some (.slice V.h.A V.h.n V.h.c) ∧ W.cell? ⟨w.heap.size + 1, 4, none⟩ = some (.slice V.f.A V.f.n V.f.c)) ∧ (W.cell? ⟨w.heap.size + 2, 0, none⟩ = some (.slice U.r.A U.r.n U.r.c) ∧ W.cell? ⟨w.heap.size + 2, 1, none⟩ = some (.slice U.o.A U.o.n U.o.c) ∧ W.cell? ⟨w.heap.size + 2, 2, none⟩ = some (.slice U.d.A U.d.n U.d.c) ∧ W.cell? ⟨w.heap.size + 2, 3, none⟩ = some (.slice U.h.A U.h.n U.h.c) ∧ W.cell? ⟨w.heap.size + 2, 4, none⟩ = some (.slice U.f.A U.f.n U.f.c)) ∧ (convert 30 9 (.slice A1 L1.length c1)).run Try.prog W = .ok (.string x1) W ∧ (convert 30 9 (.slice A2 L2.length c2)).run Try.prog W = .ok (.string x2) W from by
        rw [hx1, hx2]
        exact ⟨sc5 (h.whole (y := (w.heap.size + 1, 29, V.cells)) (by simp)), sc5 (h.whole (y := (w.heap.size + 2, 29, U.cells)) (by simp)),
          (h.src (A1, L1) (by simp)).convert (P := Try.prog) c1 30 5 9 Try.underlying30 Try.underlying5 Try.underlying9,
          (h.src (A2, L2) (by simp)).convert (P := Try.prog) c2 30 5 9 Try.underlying30 Try.underlying5 Try.underlying9⟩))
      have KB0 := Lib.hid (show BK w w5.drew [(w.heap.size, 23, x.cells), (w.heap.size + 1, 29, V.cells), (w.heap.size + 2, 29, U.cells)] [(V, s), (U, t)] [(A1, L1), (A2, L2)] from HB5.out.later (Below.refl _ _).drew)
      clear hok hinj hz hz2 hzz hx1 hx2 HB5
      go_region_held3 (fun W => (W.cell? ⟨w.heap.size + 1, 0, none⟩ = some (.slice V.r.A V.r.n V.r.c) ∧ W.cell? ⟨w.heap.size + 1, 1, none⟩ = some (.slice V.o.A V.o.n V.o.c) ∧ W.cell? ⟨w.heap.size + 1, 2, none⟩ = some (.slice V.d.A V.d.n V.d.c) ∧ W.cell? ⟨w.heap.size + 1, 3, none⟩ = some (.slice V.h.A V.h.n V.h.c) ∧ W.cell? ⟨w.heap.size + 1, 4, none⟩ = some (.slice V.f.A V.f.n V.f.c)) ∧ (W.cell? ⟨w.heap.size + 2, 0, none⟩ = some (.slice U.r.A U.r.n U.r.c) ∧ W.cell? ⟨w.heap.size + 2, 1, none⟩ = some (.slice U.o.A U.o.n U.o.c) ∧ W.cell? ⟨w.heap.size + 2, 2, none⟩ = some (.slice U.d.A U.d.n U.d.c) ∧ W.cell? ⟨w.heap.size + 2, 3, none⟩ = some (.slice U.h.A U.h.n U.h.c) ∧ W.cell? ⟨w.heap.size + 2, 4, none⟩ = some (.slice U.f.A U.f.n U.f.c)) ∧ (convert 30 9 (.slice A1 L1.length c1)).run Try.prog W = .ok (.string x1) W ∧ (convert 30 9 (.slice A2 L2.length c2)).run Try.prog W = .ok (.string x2) W) (first | with_reducible exact KS.out _ KB5.out | with_reducible exact KS.out _ KB4.out | with_reducible exact KS.out _ KB3.out | with_reducible exact KS.out _ KB2.out | with_reducible exact KS.out _ KB1.out | with_reducible exact KS.out _ KB0.out) (first
        | (go_at_call 24; with_reducible refine (CS.out _ KB0.out).mono ?_; rintro e v1 ⟨rfl, hb⟩; have KB1 := Lib.hid (KB0.out.later hb); clear hb)
        | (go_at_call 25; with_reducible refine (CC.out _ KB1.out).mono ?_; rintro e v2 ⟨p0, p1, p2, p3, p4, q0, q1, q2, q3, q4, z0, z1, z2, z3, z4, s', rfl, hs', he', hb⟩; have KB2 := Lib.hid (KB1.out.later hb); have HSC' := Lib.hid (And.intro hs' he'); clear hb hs' he')
        | (go_at_call 24; with_reducible refine (CX.out _ p0 p1 p2 p3 p4 q0 q1 q2 q3 q4 z0 z1 z2 z3 z4 s' KB2.out HSC'.out.1 HSC'.out.2).mono ?_; rintro e v3 ⟨rfl, hb⟩; have KB3 := Lib.hid (KB2.out.later hb); clear hb)
        | (go_at_call 24; with_reducible refine (CT.out _ KB3.out).mono ?_; rintro e v4 ⟨rfl, hb⟩; have KB4 := Lib.hid (KB3.out.later hb); clear hb)
        | (go_at_call 24; with_reducible refine (CS.out _ KB4.out).mono ?_; rintro e v5 ⟨rfl, hb⟩; have KB5 := Lib.hid (KB4.out.later hb); clear hb))
      go_wp2
      go_ret
      exact ⟨rfl, KB5.out.below⟩
end Go.Proofs.Ytljcaigaofalbaa
