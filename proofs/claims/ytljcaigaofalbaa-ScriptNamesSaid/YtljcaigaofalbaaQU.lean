/- Decode of a script, by a contract. No condition. -/
import Derived.Test.YtljcaigaofalbaaQT
namespace Go.Proofs.Ytljcaigaofalbaa
open Go.RowKit Go.Shelf
attribute [local go_sem] Oper.semAt_some

/-- What Decode answers. -/
def DecD (x : Pl) (b : List UInt8) (w : World) (e : Ending) (w' : World) : Prop :=
  ∃ (V : Vs) (s : ScA) (G : Nat → Prop) (B : Nat), e = .returned (.tuple #[.agg V.cells, .int .i64 0]) ∧ SB w' G w.heap.size B V s ∧ (∀ i, G i → w.heap.size ≤ i) ∧ s.sc = decS x b ∧ Below w.heap.size w w'
theorem chk_yes {x : Pl} (hf : failsL x 11 = 0) (W : World) : Calls Try.prog 44 #[.agg x.cells] W fun e w' => e = .returned (.int .i64 0) ∧ Below W.heap.size W w' := by
  have := Check_any x W
  unfold chkL at this
  rwa [if_pos hf] at this

set_option maxRecDepth 100000 in
set_option maxHeartbeats 8000000 in
theorem decode_walk (x : Pl) (hf : failsL x 11 = 0) (A : Option Addr) (n c : Nat) (b : List UInt8) (w : World) (hs : Src w A n b) (hz : A = none → c = 0) (hn : n ≤ 65536) :
    Calls Try.prog 15 #[.agg x.cells, .slice A n c] w (DecD x b w) := by
  have hx := okp_of hf
  have HX := Lib.hid hx
  have hlen : b.length = n := hs.1
  obtain ⟨w0, hw0⟩ : ∃ w0, w0 = (w.alloc (.cells x.cells 23)).alloc (.cells ScV.zero.cells 29) := ⟨_, rfl⟩
  have hb0 : Below w.heap.size w w0 := by rw [hw0]; exact ((Below.refl _ _).alloc (Nat.le_refl _) _).alloc (by simp) _
  have hP0 : Whole w0 w.heap.size 23 x.cells := by rw [hw0]; exact (Whole.new w _ _).alloc _
  have hR0 : Whole w0 (w.heap.size + 1) 29 ScV.zero.cells := by
    rw [hw0]
    have := Whole.new (w.alloc (.cells x.cells 23)) 29 ScV.zero.cells
    simpa using this
  have HS := Lib.hid x.cellsL
  have HC := Lib.hid (chk_yes hf)
  have HSP := Lib.hid (fun W => spansOf_any x W hf)
  have H0 := Lib.hid (And.intro hb0 (And.intro hP0 hR0))
  have HSrc := Lib.hid (And.intro hs hz)
  have HW0 := Lib.hid hw0
  have HL := Lib.hid hlen
  have hn2 : (n : Int) ≤ 65536 := by omega
  clear hw0 hb0 hP0 hR0 hs hz hlen hx
  refine (callsIn_wide (n := 5)).1 ?_
  refine callsIn_of_wp_marks Try.func15 rfl trivial ?_ rfl
  simp only [Try.ntmps15, List.size_toArray, List.length_cons, List.length_nil, Nat.reduceAdd, Nat.reduceSub, Array.replicate_succ, Array.replicate_zero, List.push_toArray, List.append_toArray, List.nil_append, List.cons_append]
  refine wpIn_wide.2 ?_
  go_wp2
  refine wp_scope_straight ?_
  have e0 : (w.alloc (.cells x.cells 23)).alloc (.cells #[.slice none 0 0, .slice none 0 0, .slice none 0 0, .slice none 0 0, .slice none 0 0] 29) = w0 := HW0.out.symm
  rw [e0]
  clear e0
  go_upto_region 4 with (first
    | (refine wpList_load_row rfl 23 _ rfl w.heap.size rfl 23 x.cells (0, 0) _ H0.out.2.1 Try.underlying23 rfl HS.out.plan ?_)
    | (go_at_call 44; refine (HC.out _).mono ?_; rintro e w1 ⟨rfl, hb1⟩; have HB1 := Lib.hid hb1; clear hb1)
    | (go_at_call 53; refine (from_any A n c b (HSrc.out.1.below (k_then HB1.out H0.out.1)) HSrc.out.2 (by omega)).mono ?_; rintro e w2 ⟨i, T, rfl, hin, hT, hb2⟩; have HI := Lib.hid (And.intro hin (And.intro hT hb2)); clear hin hT hb2))
  obtain ⟨W3, hW3⟩ : ∃ W3, W3 = w2.alloc (.cells #[.pointer (some ⟨i, 0, none⟩)] 89) := ⟨_, rfl⟩
  have hb3 : Below w2.heap.size w2 W3 := by rw [hW3]; exact (Below.refl _ _).alloc (Nat.le_refl _) _
  have hb13 := k_then (k_then hb3 HI.out.2.2) HB1.out
  have hP3 := k_later hb13 H0.out.2.1
  have hR3 := k_later hb13 H0.out.2.2
  have hz2 := (k_then HI.out.2.2 HB1.out).size
  have hz0 := H0.out.1.size
  have hlt0 := H0.out.2.2.lt
  have hz3 : W3.heap.size = w2.heap.size + 1 := by rw [hW3]; simp
  have hRd3 : RdAt W3 (fun k => T k ∨ k = w2.heap.size) w2.heap.size b := by
    refine ⟨⟨i, T, by rw [hW3]; exact Whole.new w2 _ _, HI.out.1.keep (Kept.of_below hb3 Empty) (fun _ _ h => h), fun hT => by have := HI.out.1.lt _ hT; omega, fun k hk => .inl hk⟩, .inr rfl, fun k hk => ?_⟩
    rcases hk with hk | hk
    · have := HI.out.1.lt k hk; omega
    · omega
  have hTlo : ∀ k, (T k ∨ k = w2.heap.size) → w.heap.size + 1 < k ∧ k < W3.heap.size := fun k hk => by
    refine ⟨?_, hRd3.lt k hk⟩
    rcases hk with hk | hk
    · have := HI.out.2.1 k hk; have := HB1.out.size; omega
    · omega
  rw [← hW3]
  have HP3 := Lib.hid hP3
  have H3 := Lib.hid (And.intro hR3 (And.intro hRd3 (And.intro hTlo (And.intro (k_then hb13 H0.out.1) hlt0))))
  clear hP3 hR3 hRd3 hTlo hb3 hb13 hW3 hz2 hz0 hz3 hlt0 HI HB1
  go_upto_region 6 with (first
    | (refine wpList_load_row rfl 23 _ rfl w.heap.size rfl 23 x.cells (0, 0) _ HP3.out Try.underlying23 rfl HS.out.plan ?_)
    | (go_at_call 47; refine (HSP.out _).mono ?_; rintro e w4 ⟨g, rfl, hg0, hg, hb4⟩; have HG := Lib.hid (And.intro hg0 (And.intro hg hb4)); clear hg0 hg hb4)
    | (go_at_call 54; refine (folding_any _ _).mono ?_; rintro e w5 ⟨rfl, hw5⟩; have HW5 := Lib.hid hw5; clear hw5))
  rw [HW5.out]
  simp only [World.size_alloc]
  obtain ⟨W6, hW6⟩ : ∃ W6, W6 = (w4.alloc (.cells #[.pointer (some ⟨w2.heap.size, 0, none⟩)] 85)).alloc (.cells #[.slice none 0 0, .slice none 0 0, .slice none 0 0, .slice none 0 0, .slice none 0 0] 29) := ⟨_, rfl⟩
  have hD : DS w W6 (fun k => T k ∨ k = w2.heap.size) w2.heap.size b w4.heap.size g (w.heap.size + 1) x (fun k => k = w4.heap.size + 1) (w4.heap.size + 1) Vs.zero ⟨[], [], [], [], []⟩ := by
    obtain ⟨hR3, hRd3, hTlo, hbW3, hlt0⟩ := H3.out
    obtain ⟨hg0, hg, hb4⟩ := HG.out
    have hz4 := hb4.size
    have glt := hg.lt
    have hb6 : Below w4.heap.size w4 W6 := by rw [hW6]; exact ((Below.refl _ _).alloc (Nat.le_refl _) _).alloc (by simp) _
    have hz6 : W6.heap.size = w4.heap.size + 2 := by rw [hW6]; simp
    have hbF : Whole W6 w4.heap.size 85 #[.pointer (some ⟨w2.heap.size, 0, none⟩)] := by rw [hW6]; exact (Whole.new w4 _ _).alloc _
    have hB9 : Whole W6 (w4.heap.size + 1) 29 Vs.zero.cells := by
      rw [hW6]
      have := Whole.new (w4.alloc (.cells #[.pointer (some ⟨w2.heap.size, 0, none⟩)] 85)) 29 Vs.zero.cells
      simp only [World.size_alloc] at this
      exact this
    have hlt4 : w.heap.size + 1 < W3.heap.size := (hR3).lt
    have hz3 := hbW3.size
    refine ⟨⟨(hRd3.later hb4).later hb6, fun y hy => ?_, ?_, Kept.refl _ _, fun _ h => .inl h⟩, SB.start W6 _ _ _ hB9 rfl, fun k hk => ?_, ⟨fun k hk => by have := hTlo k hk; omega, fun k hk => by omega⟩, k_then (k_then hb6 hb4) hbW3⟩
    · simp only [List.mem_cons, List.not_mem_nil, or_false] at hy
      rcases hy with rfl | rfl | rfl
      · exact ⟨hbF, fun hk => by have := (hTlo _ hk).2; simp only at this; omega⟩
      · exact ⟨k_later hb6 hg, fun hk => by have := (hTlo _ hk).2; simp only at this; omega⟩
      · exact ⟨(k_later hb6 (k_later hb4 hR3)), fun hk => by have := (hTlo _ hk).1; simp only at this; omega⟩
    · simp only [List.map_cons, List.map_nil, List.nodup_cons, List.mem_cons, List.not_mem_nil, or_false, not_or, not_false_eq_true, List.nodup_nil, and_true]
      omega
    · have hk : k = w4.heap.size + 1 := hk
      exact ⟨by omega, fun hs => by have := (hTlo _ hs).2; omega, by omega, by omega, by omega⟩
  rw [← hW6]
  clear hW6
  generalize w2.heap.size = r at *
  generalize w4.heap.size = bF at *
  obtain ⟨S, hS⟩ : ∃ S : Nat → Prop, S = (fun k => T k ∨ k = r) := ⟨_, rfl⟩
  obtain ⟨B, hB⟩ : ∃ B, B = bF + 1 := ⟨_, rfl⟩
  obtain ⟨B4, hB4⟩ : ∃ B4, B4 = w.heap.size + 1 := ⟨_, rfl⟩
  obtain ⟨G, hG⟩ : ∃ G : Nat → Prop, G = (fun k => k = bF + 1) := ⟨_, rfl⟩
  rw [← hS, ← hG, ← hB, ← hB4] at hD
  rw [← hB, ← hB4]
  have HGL := Lib.hid (show w.heap.size ≤ g ∧ w.heap.size ≤ B4 from by have := HG.out.1; have := H3.out.2.2.2.1.size; omega)
  clear hS hB hG HP3 H3 HG HW5 hB4
  have HFE := Lib.hid k87
  have hx := HX.out
  have n1 := hx.n1
  have n2 := hx.n2
  have HDr := Lib.hid hx.drift
  have HRd := Lib.hid hx.round
  have HDd := Lib.hid (show 0 ≤ x.dmax - x.dmin ∧ x.dmax - x.dmin ≤ 3000000000 from by have := hx.d1; have := hx.d2; have := hx.d3; omega)
  obtain ⟨ir, hir, zr0, zr1, zr2⟩ := info_parts rate_infos
  obtain ⟨ii, hii, zi0, zi1, zi2⟩ := info_parts i64_infos
  obtain ⟨jf, hjf, zf0, zf1, zf2⟩ := info_parts ft_infos
  obtain ⟨jh, hjh, zh0, zh1, zh2⟩ := info_parts hap_infos
  have hbl : b.length ≤ 65536 := by have := HL.out; omega
  clear hx hf H0 HW0 HSP HC
  have c0 := sp_nodes hD.spans
  have HD := Lib.hid hD
  clear hD
  go_wp2
  clear c0
  go_loopw [32] (fun iv wr => ∃ (k : Nat) (S G : Nat → Prop) (V : Vs), (k : Int) ≤ x.nodes ∧ iv = .int .i64 (k : Int) ∧ DS w wr S r (b.drop (8 * k)) bF g B4 x G B V ⟨(List.range k).map (rateD x b), (List.range k).map (onD x b), [], [], []⟩) (fun iv _ => x.nodes.toNat - (intOf iv).toNat)
  case atStart => exact ⟨0, S, G, Vs.zero, by omega, rfl, HD.out⟩
  case round =>
    clear HD
    obtain ⟨k, S, G, V, hk, rfl, hD⟩ := hrel
    by_cases hlt : (k : Int) < x.nodes
    · have hDd := hD.drew
      obtain ⟨s1, s2, s3⟩ := sp_rate hDd.spans
      have c0 := hDd.sb.box.cell 0
      simp [Vs.cells] at c0
      have hll : (b.drop (8 * k)).length ≤ 1000000000 := by rw [List.length_drop]; omega
      have hFD := fold_d hDd 4 (65536 - drL x) (65536 + drL x) (b.drop (8 * k + 4)) ((rateD x b k).1) (by rw [List.drop_drop]) (by unfold rateD; rw [show 65536 + drL x - (65536 - drL x) + 1 = 2 * drL x + 1 by omega]) rfl (by decide) hll (by have := HDr.out; omega) (by have := HDr.out; omega) (by have := HDr.out; omega)
      obtain ⟨q, hq⟩ : ∃ q, q = (rateD x b k).1 := ⟨_, rfl⟩
      rw [← hq] at hFD
      have HQ := Lib.hid hq
      have HFD := Lib.hid hFD
      have HD := Lib.hid hDd
      have HRW := Lib.hid (fun (w7 : World) (S7 : Nat → Prop) (h : DS w w7 S7 r (b.drop (8 * k + 4)) bF g B4 x G B V ⟨(List.range k).map (rateD x b), (List.range k).map (onD x b), [], [], []⟩) (o : Obj) => (show (w7.alloc o).ownsRow w.heap.size 52 2 V.v0 k (((List.range k).map (rateD x b)).flatMap rateC) ∧ w.heap.size ≤ (w7.alloc o).heap.size from by
        refine ⟨?_, by have := h.kept.size; simp; omega⟩
        have hh := h.sb.r0.alloc o
        simp only [List.length_map, List.length_range] at hh
        exact hh))
      clear hD hDd hll hFD hq
      go_upto_region 8 with fail
      refine wp_region_noPanic ?_
      go_region_law (first
        | (refine step_callv (by rfl) (.tmp 36) 87 #[.pointer (some ⟨bF, 0, none⟩)] [.tmp 40] #[72] (by rfl) (by rfl) HFE.out [.agg #[.int .i64 4, .int .i64 (65536 - drL x), .int .i64 (65536 + drL x)]] (by rfl) #[.agg #[.int .i64 4, .int .i64 (65536 - drL x), .int .i64 (65536 + drL x)], .pointer (some ⟨bF, 0, none⟩)] (by rfl) ?_; refine HFD.out.mono ?_; rintro e w7 ⟨rfl, S7, hD7, hk7⟩; refine ⟨.int .i64 q, rfl, ?_⟩; have c7 := hD7.sb.box.cell 0; simp [Vs.cells] at c7; have c7b := (hD7.sb.box.alloc (.cells #[.int .i64 q, .int .i64 65536] 52)).cell 0; simp [Vs.cells] at c7b; have HD7 := Lib.hid hD7; clear hD7 hk7)
        | (refine step_append_own (by rfl) (.tmp 35) (.tmp 43) 24 (by rfl) w.heap.size 52 ir _ 2 16 Try.underlying24 hir zr0 zr1 zr2 (by rfl) (by decide) V.v0 k (((List.range k).map (rateD x b)).flatMap rateC) (by rfl) (HRW.out w7 S7 HD7.out _).1 ⟨w7.heap.size, 0, none⟩ 1 1 (rateC ((q, 65536) : Int × Int)) (by rfl) (by rfl) (fun j u hu => World.news_of_block (Whole.new w7 _ _) j u hu) (rateC_one _) (by simp only [maxLen]; omega) (by omega) (HRW.out w7 S7 HD7.out _).2 ?_; intro v' w9 h1 h2 h3; obtain ⟨p9, z9, n9, rfl⟩ := own_val h1; have hB9 := (HD7.out.sb.box.alloc (.cells #[.int .i64 q, .int .i64 65536] 52)).grown h2 (HD7.out.sb.box.not_row (by decide) HD7.out.sb.r0); have c9 := hB9.cell 0; have f9 := hB9.frozen 0; simp [Vs.cells] at c9; have HR9 := Lib.hid (And.intro h1 (And.intro h2 h3)); clear h1 h2 h3 hB9))
      all_goals
        refine NoPanic.normal ?_
        obtain ⟨W9, hW9⟩ : ∃ W9 : World, W9 = w9.setCell ⟨B, 0, none⟩ (.slice p9 z9 n9) := ⟨_, rfl⟩
        have hadd := HD7.out.sb.add0 (A1 := w7.alloc (.cells #[.int .i64 q, .int .i64 65536] 52)) (y := ((q, 65536) : Int × Int)) ((Below.refl _ _).alloc (Nat.le_refl _) _) (by simp only [List.length_map, List.length_range]; exact HR9.out.1) HR9.out.2.1 HR9.out.2.2
        have hD := HD7.out.turned (W' := W9) (by rw [hW9]; exact hadd.1) (by rw [hW9]; exact hadd.2) (fun j hj => by
          have hz : (w7.alloc (.cells #[.int .i64 q, .int .i64 65536] 52)).heap.size = w7.heap.size + 1 := by simp
          have hz2 : W9.heap.size = w9.heap.size := by rw [hW9]; simp [World.setCell]
          rcases hj with hj | hj
          · exact .inl hj
          · exact .inr ⟨by omega, by omega⟩)
        have hD : DS w W9 S7 r (b.drop (8 * k + 4)) bF g B4 x (fun j => G j ∨ (j < w9.heap.size ∧ (w7.alloc (.cells #[.int .i64 q, .int .i64 65536] 52)).heap.size ≤ j)) B { V with v0 := .slice p9 z9 n9 } ⟨(List.range k).map (rateD x b) ++ [rateD x b k], (List.range k).map (onD x b), [], [], []⟩ := by
          have hq2 : rateD x b k = (q, 65536) := by rw [HQ.out]; rfl
          rw [hq2]
          exact hD
        rw [← hW9]
        clear hadd hW9 HR9 HD7 HRW HFD HQ c7 c9 f9
        obtain ⟨V0, hV0⟩ : ∃ V0 : Vs, V0 = { V with v0 := .slice p9 z9 n9 } := ⟨_, rfl⟩
        obtain ⟨G0, hG0⟩ : ∃ G0 : Nat → Prop, G0 = (fun j => G j ∨ (j < w9.heap.size ∧ (w7.alloc (.cells #[.int .i64 q, .int .i64 65536] 52)).heap.size ≤ j)) := ⟨_, rfl⟩
        rw [← hV0, ← hG0] at hD
        clear hV0 hG0 c7b
        generalize S7 = S at hD
        generalize W9 = W8 at *
        have hDd := hD.drew
        obtain ⟨s1, s2, s3⟩ := sp_on hDd.spans
        have c0 := hDd.sb.box.cell 1
        simp [Vs.cells] at c0
        have hll : (b.drop (8 * k + 4)).length ≤ 1000000000 := by rw [List.length_drop]; omega
        have hFD := fold_d hDd 4 (-1) (lateL x) (b.drop (8 * (k + 1))) (onD x b k) (by rw [List.drop_drop, show 8 * k + 4 + 4 = 8 * (k + 1) by omega]) (by unfold onD; rw [show lateL x - -1 + 1 = lateL x + 2 by omega]; omega) rfl (by decide) hll (by omega) (by have := HRd.out; unfold lateL; omega) (by have := HRd.out; unfold lateL; omega)
        obtain ⟨q, hq⟩ : ∃ q, q = onD x b k := ⟨_, rfl⟩
        rw [← hq] at hFD
        have HQ := Lib.hid hq
        have HFD := Lib.hid hFD
        have HD := Lib.hid hDd
        have HRW := Lib.hid (fun (w7 : World) (S7 : Nat → Prop) (h : DS w w7 S7 r (b.drop (8 * (k + 1))) bF g B4 x G0 B V0 ⟨(List.range k).map (rateD x b) ++ [rateD x b k], (List.range k).map (onD x b), [], [], []⟩) (o : Obj) => (show (w7.alloc o).ownsRow w.heap.size 2 1 V0.v1 k (((List.range k).map (onD x b)).flatMap numC) ∧ w.heap.size ≤ (w7.alloc o).heap.size from by
          refine ⟨?_, by have := h.kept.size; simp; omega⟩
          have hh := h.sb.r1.alloc o
          simp only [List.length_map, List.length_range] at hh
          exact hh))
        clear hD hDd hll hFD hq
        go_upto_region 9 with fail
        refine wp_region_noPanic ?_
        go_region_law (first
          | (refine step_callv (by rfl) (.tmp 48) 87 #[.pointer (some ⟨bF, 0, none⟩)] [.tmp 52] #[72] (by rfl) (by rfl) HFE.out [.agg #[.int .i64 4, .int .i64 (-1), .int .i64 (lateL x)]] (by rfl) #[.agg #[.int .i64 4, .int .i64 (-1), .int .i64 (lateL x)], .pointer (some ⟨bF, 0, none⟩)] (by rfl) ?_; refine HFD.out.mono ?_; rintro e w7 ⟨rfl, S7, hD7, hk7⟩; refine ⟨.int .i64 q, rfl, ?_⟩; have c7 := hD7.sb.box.cell 1; simp [Vs.cells] at c7; have c7b := (hD7.sb.box.alloc (.cells #[.int .i64 q] 2)).cell 1; simp [Vs.cells] at c7b; have HD7 := Lib.hid hD7; clear hD7 hk7)
          | (refine step_append_own (by rfl) (.tmp 47) (.tmp 54) 25 (by rfl) w.heap.size 2 ii _ 1 8 Try.underlying25 hii zi0 zi1 zi2 (by rfl) (by decide) V0.v1 k (((List.range k).map (onD x b)).flatMap numC) (by rfl) (HRW.out w7 S7 HD7.out _).1 ⟨w7.heap.size, 0, none⟩ 1 1 (numC q) (by rfl) (by rfl) (fun j u hu => World.news_of_block (Whole.new w7 _ _) j u hu) (numC_one _) (by simp only [maxLen]; omega) (by omega) (HRW.out w7 S7 HD7.out _).2 ?_; intro v' w9 h1 h2 h3; obtain ⟨p9, z9, n9, rfl⟩ := own_val h1; have hB9 := (HD7.out.sb.box.alloc (.cells #[.int .i64 q] 2)).grown h2 (HD7.out.sb.box.not_row (by decide) HD7.out.sb.r1); have c9 := hB9.cell 1; have f9 := hB9.frozen 1; simp [Vs.cells] at c9; have HR9 := Lib.hid (And.intro h1 (And.intro h2 h3)); clear h1 h2 h3 hB9))
        all_goals
          refine NoPanic.normal ?_
          obtain ⟨W9, hW9⟩ : ∃ W9 : World, W9 = w9.setCell ⟨B, 1, none⟩ (.slice p9 z9 n9) := ⟨_, rfl⟩
          have hadd := HD7.out.sb.add1 (A1 := w7.alloc (.cells #[.int .i64 q] 2)) (y := q) ((Below.refl _ _).alloc (Nat.le_refl _) _) (by simp only [List.length_map, List.length_range]; exact HR9.out.1) HR9.out.2.1 HR9.out.2.2
          have hD := HD7.out.turned (W' := W9) (by rw [hW9]; exact hadd.1) (by rw [hW9]; exact hadd.2) (fun j hj => by
            have hz : (w7.alloc (.cells #[.int .i64 q] 2)).heap.size = w7.heap.size + 1 := by simp
            have hz2 : W9.heap.size = w9.heap.size := by rw [hW9]; simp [World.setCell]
            rcases hj with hj | hj
            · exact .inl hj
            · exact .inr ⟨by omega, by omega⟩)
          have hD : DS w W9 S7 r (b.drop (8 * (k + 1))) bF g B4 x (fun j => G0 j ∨ (j < w9.heap.size ∧ (w7.alloc (.cells #[.int .i64 q] 2)).heap.size ≤ j)) B { V0 with v1 := .slice p9 z9 n9 } ⟨(List.range k).map (rateD x b) ++ [rateD x b k], (List.range k).map (onD x b) ++ [onD x b k], [], [], []⟩ := by
            have hq2 : onD x b k = q := HQ.out.symm
            rw [hq2]
            exact hD
          rw [← hW9]
          clear hadd hW9 HR9 HD7 HRW HFD HQ c7 c9 f9
          clear c7b
          simp only [← List.map_singleton, ← List.map_append, ← List.range_succ] at hD
          have HD := Lib.hid hD
          clear hD
          go_wp2
          go_roundw
          case rel => exact ⟨k + 1, S7, _, _, by omega, rfl, HD.out⟩
          case measure => simp only [intOf]; omega
    · have HN := Lib.hid (show x.nodes.toNat = k by omega)
      generalize k = N at *
      obtain ⟨rs, hrs⟩ : ∃ rs, rs = (List.range N).map (rateD x b) := ⟨_, rfl⟩
      obtain ⟨os, hos⟩ : ∃ os, os = (List.range N).map (onD x b) := ⟨_, rfl⟩
      rw [← hrs, ← hos] at hD
      have HRO := Lib.hid (And.intro hrs hos)
      obtain ⟨K, hK⟩ : ∃ K, K = manyD x b := ⟨_, rfl⟩
      have hK7 : 0 + num 2 (256 - 0 + 1) (b.drop (8 * N)) = (K : Int) := by
        rw [hK]
        unfold manyD
        rw [HN.out]
        have := (num_lt (w := 2) (m := 257) (l := b.drop (8 * N)) (by omega)).1
        rw [show (256 : Int) - 0 + 1 = 257 by omega]
        omega
      have hKl : K ≤ 256 := by
        have := (num_lt (w := 2) (m := 257) (l := b.drop (8 * N)) (by omega)).2
        rw [show (256 : Int) - 0 + 1 = 257 by omega] at hK7
        omega
      obtain ⟨s1, s2, s3⟩ := sp_delays hD.spans
      have hFD := fold_d hD 2 0 256 (b.drop (8 * N + 2)) K (by rw [List.drop_drop]) hK7 rfl (by decide) (by rw [List.length_drop]; omega) (by omega) (by omega) (by omega)
      have HFD := Lib.hid hFD
      have HK := Lib.hid hK
      have HHk := Lib.hid hk
      clear hFD hK hK7 hD hrs hos hk
      go_wp2_with (go_at_call 87; refine HFD.out.mono ?_; rintro e w7 ⟨rfl, S7, hD7, hk7⟩; have HD7 := Lib.hid hD7; clear hD7 hk7)
      clear HFD s1 s2 s3 hlt
      go_loopw [64] (fun iv wr => ∃ (k : Nat) (S G : Nat → Prop) (V : Vs), k ≤ K ∧ iv = .int .i64 (k : Int) ∧ DS w wr S r (b.drop (8 * N + 2 + 4 * k)) bF g B4 x G B V ⟨rs, os, (List.range k).map (delD x b), [], []⟩) (fun iv _ => K - (intOf iv).toNat)
      case atStart => exact ⟨0, S7, _, _, by omega, rfl, HD7.out⟩
      case round =>
        clear HD7
        obtain ⟨k, S, G, V, hk, rfl, hD⟩ := hrel
        by_cases hlt : (k : Int) < (K : Int)
        · have hDd := hD.drew
          obtain ⟨s1, s2, s3⟩ := sp_delay hDd.spans
          have c0 := hDd.sb.box.cell 2
          simp [Vs.cells] at c0
          have hll : (b.drop (8 * N + 2 + 4 * k)).length ≤ 1000000000 := by rw [List.length_drop]; omega
          have hFD := fold_d hDd 4 (0) (x.dmax - x.dmin) (b.drop (8 * N + 2 + 4 * (k + 1))) (delD x b k) (by rw [List.drop_drop, show 8 * N + 2 + 4 * k + 4 = 8 * N + 2 + 4 * (k + 1) by omega]) (by unfold delD; rw [HN.out, show x.dmax - x.dmin - 0 + 1 = x.dmax - x.dmin + 1 by omega, Int.zero_add]) rfl (by decide) hll (by omega) (by have := HDd.out; omega) (by have := HDd.out; omega)
          obtain ⟨q, hq⟩ : ∃ q, q = delD x b k := ⟨_, rfl⟩
          rw [← hq] at hFD
          have HQ := Lib.hid hq
          have HFD := Lib.hid hFD
          have HD := Lib.hid hDd
          have HRW := Lib.hid (fun (w7 : World) (S7 : Nat → Prop) (h : DS w w7 S7 r (b.drop (8 * N + 2 + 4 * (k + 1))) bF g B4 x G B V ⟨rs, os, (List.range k).map (delD x b), [], []⟩) (o : Obj) => (show (w7.alloc o).ownsRow w.heap.size 2 1 V.v2 k (((List.range k).map (delD x b)).flatMap numC) ∧ w.heap.size ≤ (w7.alloc o).heap.size from by
            refine ⟨?_, by have := h.kept.size; simp; omega⟩
            have hh := h.sb.r2.alloc o
            simp only [List.length_map, List.length_range] at hh
            exact hh))
          clear hD hDd hll hFD hq
          go_upto_region 13 with fail
          refine wp_region_noPanic ?_
          go_region_law (first
            | (refine step_callv (by rfl) (.tmp 68) 87 #[.pointer (some ⟨bF, 0, none⟩)] [.tmp 72] #[72] (by rfl) (by rfl) HFE.out [.agg #[.int .i64 4, .int .i64 (0), .int .i64 (x.dmax - x.dmin)]] (by rfl) #[.agg #[.int .i64 4, .int .i64 (0), .int .i64 (x.dmax - x.dmin)], .pointer (some ⟨bF, 0, none⟩)] (by rfl) ?_; refine HFD.out.mono ?_; rintro e w7 ⟨rfl, S7, hD7, hk7⟩; refine ⟨.int .i64 q, rfl, ?_⟩; have c7 := hD7.sb.box.cell 2; simp [Vs.cells] at c7; have c7b := (hD7.sb.box.alloc (.cells #[.int .i64 q] 2)).cell 2; simp [Vs.cells] at c7b; have HD7 := Lib.hid hD7; clear hD7 hk7)
            | (refine step_append_own (by rfl) (.tmp 67) (.tmp 74) 25 (by rfl) w.heap.size 2 ii _ 1 8 Try.underlying25 hii zi0 zi1 zi2 (by rfl) (by decide) V.v2 k (((List.range k).map (delD x b)).flatMap numC) (by rfl) (HRW.out w7 S7 HD7.out _).1 ⟨w7.heap.size, 0, none⟩ 1 1 (numC q) (by rfl) (by rfl) (fun j u hu => World.news_of_block (Whole.new w7 _ _) j u hu) (numC_one _) (by simp only [maxLen]; omega) (by omega) (HRW.out w7 S7 HD7.out _).2 ?_; intro v' w9 h1 h2 h3; obtain ⟨p9, z9, n9, rfl⟩ := own_val h1; have hB9 := (HD7.out.sb.box.alloc (.cells #[.int .i64 q] 2)).grown h2 (HD7.out.sb.box.not_row (by decide) HD7.out.sb.r2); have c9 := hB9.cell 2; have f9 := hB9.frozen 2; simp [Vs.cells] at c9; have HR9 := Lib.hid (And.intro h1 (And.intro h2 h3)); clear h1 h2 h3 hB9))
          all_goals
            refine NoPanic.normal ?_
            obtain ⟨W9, hW9⟩ : ∃ W9 : World, W9 = w9.setCell ⟨B, 2, none⟩ (.slice p9 z9 n9) := ⟨_, rfl⟩
            have hadd := HD7.out.sb.add2 (A1 := w7.alloc (.cells #[.int .i64 q] 2)) (y := q) ((Below.refl _ _).alloc (Nat.le_refl _) _) (by simp only [List.length_map, List.length_range]; exact HR9.out.1) HR9.out.2.1 HR9.out.2.2
            have hD := HD7.out.turned (W' := W9) (by rw [hW9]; exact hadd.1) (by rw [hW9]; exact hadd.2) (fun j hj => by
              have hz : (w7.alloc (.cells #[.int .i64 q] 2)).heap.size = w7.heap.size + 1 := by simp
              have hz2 : W9.heap.size = w9.heap.size := by rw [hW9]; simp [World.setCell]
              rcases hj with hj | hj
              · exact .inl hj
              · exact .inr ⟨by omega, by omega⟩)
            have hD : DS w W9 S7 r (b.drop (8 * N + 2 + 4 * (k + 1))) bF g B4 x (fun j => G j ∨ (j < w9.heap.size ∧ (w7.alloc (.cells #[.int .i64 q] 2)).heap.size ≤ j)) B { V with v2 := .slice p9 z9 n9 } ⟨rs, os, (List.range k).map (delD x b) ++ [delD x b k], [], []⟩ := by
              have hq2 : delD x b k = q := HQ.out.symm
              rw [hq2]
              exact hD
            rw [← hW9]
            clear hadd hW9 HR9 HD7 HRW HFD HQ c7 c9 f9
            clear c7b
            simp only [← List.map_singleton, ← List.map_append, ← List.range_succ] at hD
            have HD := Lib.hid hD
            clear hD
            go_wp2
            go_roundw
            case rel => exact ⟨k + 1, S7, _, _, by omega, rfl, HD.out⟩
            case measure => simp only [intOf]; omega
        · have hkK : k = K := by omega
          subst hkK
          obtain ⟨ds, hds⟩ : ∃ ds, ds = (List.range k).map (delD x b) := ⟨_, rfl⟩
          obtain ⟨l0, hl0⟩ : ∃ l0, l0 = b.drop (8 * N + 2 + 4 * k) := ⟨_, rfl⟩
          have hll : l0.length ≤ 1000000000 := by rw [hl0, List.length_drop]; omega
          rw [← hds, ← hl0] at hD
          have HDS := Lib.hid (And.intro hds hl0)
          have HD := Lib.hid hD
          clear hds hl0 hD
          go_wp2
          refine wp_label ?_
          go_wp2_with (go_at_call 55; refine (callsIn_wide.1 (entries_in 5 _ _ _)).mono ?_; rintro e w' ⟨rfl, hw'⟩; have HW' := Lib.hid hw'; clear hw')
          clear hlt
          obtain ⟨es, hes⟩ : ∃ es, es = entsL x l0 := ⟨_, rfl⟩
          have HES := Lib.hid hes
          obtain ⟨hRW, hF0, hG0, hB0, hwz⟩ := HD.out.start es HGL.out.1 HGL.out.2 HW'.out
          have hSQ := entries_any 4 (by omega) x HX.out r g wr.heap.size (wr.heap.size + 1) S l0 hll w' hRW
          rw [← hes] at hSQ
          have HSQ := Lib.hid hSQ
          have HR0 := Lib.hid (And.intro hF0 (And.intro hG0 (And.intro hB0 hwz)))
          obtain ⟨F0, hF⟩ : ∃ F0, F0 = entF S wr.heap.size wr.heap.size (wr.heap.size + 1) g := ⟨_, rfl⟩
          rw [← hF] at HSQ HR0
          generalize wr.heap.size = B1 at *
          have hsc : (⟨rs, os, ds, (hapsOf es).take 64, (faultsOf es).take 64⟩ : Sc) = decS x b := by
            unfold decS restD
            rw [HN.out, ← HK.out, ← HRO.out.1, ← HRO.out.2, ← HDS.out.1, ← HDS.out.2, ← HES.out]
          have HSC := Lib.hid hsc
          clear hsc hSQ hRW hF0 hG0 hB0 hF HD HW' hes hll hKl
          refine (wpIn_wide (n := 5)).1 ?_
          refine act_named fun T hT => ?_
          refine wpIn_share (F0 := F0) (G0 := fun i => G i ∨ i = B4 ∨ i < w.heap.size) HR0.out.1 HR0.out.2.1 (by omega) (gf := 89) (lb := #[.pointer (some ⟨B1, 0, none⟩), .pointer (some ⟨B1 + 1, 0, none⟩)]) (by rfl)
            (enters_of Try.func89 (by kernel_rfl) rfl) (Enc := EncE w'.heap.size es) (M := es.length) (fun k args F A h => by obtain ⟨_, _, rfl, _⟩ := h; rfl) HSQ.out
            (Bod w B4 B rs os ds es) (fun c k G' A => c = .exit 4 ∧ ∃ G V s, BodS w A B4 B rs os ds es k G' G V s ∧ s.haps.length = 64 ∧ s.faults.length = 64)
            (AxE w'.heap.size w'.heap.size es T) ?hI ?hX ?hAx ?h0 ?assign ?body ?done ?stop
          case hI =>
            intro k G' A A' h _ hk
            obtain ⟨G, V, s, h⟩ := h
            exact ⟨G, V, s, h.kept hk⟩
          case hX =>
            intro c k G' A A' h _ hk
            obtain ⟨hc, G, V, s, h, h1, h2⟩ := h
            exact ⟨hc, G, V, s, h.kept hk, h1, h2⟩
          case hAx => exact fun k F a2 A A' hk h => h.kept hk
          case h0 => exact ⟨_, _, _, HR0.out.2.2.1⟩
          case assign =>
            rintro lp k args F A K' hAz ⟨y, z, rfl, hz, hent⟩ hFl hF1 hT2 hK
            have HA := Lib.hid (And.intro hz (And.intro hent (And.intro hT2 hK)))
            clear hz hent hFl hF1 hT2 hK
            cases y with
            | inl y =>
              obtain ⟨yk, yn, yt, yA, yc, ypl⟩ := y
              unfold entC
              dsimp only
              gi_wp2
              exact HA.out.2.2.2 _ _ ((Below.refl _ A).alloc (Nat.le_refl _) _) ⟨.inl ⟨yk, yn, yt, yA, yc, ypl⟩, z, A.heap.size, HA.out.1, HA.out.2.1.kept ((Kept.refl (fun _ => False) A).alloc _) (fun _ _ _ _ h => h), Whole.new A _ _, hAz, HA.out.2.1.apart HA.out.2.2.1, by rw [hT]; rfl⟩
            | inr y =>
              obtain ⟨fs, fn, fr, fc, fb⟩ := y
              unfold entC
              dsimp only
              gi_wp2
              exact HA.out.2.2.2 _ _ ((Below.refl _ A).alloc (Nat.le_refl _) _) ⟨.inr ⟨fs, fn, fr, fc, fb⟩, z, A.heap.size, HA.out.1, HA.out.2.1.kept ((Kept.refl (fun _ => False) A).alloc _) (fun _ _ _ _ h => h), Whole.new A _ _, hAz, HA.out.2.1.apart HA.out.2.2.1, by rw [hT]; rfl⟩
          case body =>
            rintro lp k F G' A a2 hkM hAz ⟨G, V, s, hB⟩ hG hFl hT2 ⟨y, z, E, hz, hent, hE, hEz, hsep, rfl⟩
            rw [Nat.add_sub_cancel] at hz
            obtain ⟨m3, m4⟩ := hB.lens
            obtain ⟨v0, v1, v2, v3, v4⟩ := V
            have r3 : A.ownsRow w.heap.size 47 4 v3 s.haps.length (s.haps.flatMap hapC) := hB.sb.r3
            have r4 : A.ownsRow w.heap.size 54 5 v4 s.faults.length (s.faults.flatMap ftC) := hB.sb.r4
            obtain ⟨p3, c3, rfl⟩ := own_len r3
            obtain ⟨p4, c4, rfl⟩ := own_len r4
            have b3 := hB.sb.box.cell 3
            have b4 := hB.sb.box.cell 4
            simp [Vs.cells] at b3 b4
            have hz0 := hB.bel.size
            have hEB : E ≠ B := typed_apart hE hB.sb.box (by decide)
            obtain ⟨n3, hn3⟩ : ∃ n3, n3 = s.haps.length := ⟨_, rfl⟩
            obtain ⟨n4, hn4⟩ : ∃ n4, n4 = s.faults.length := ⟨_, rfl⟩
            rw [← hn3] at b3 m3
            rw [← hn4] at b4 m4
            have l3 : n3 ≤ 64 := by rw [← m3, List.length_take]; omega
            have l4 : n4 ≤ 64 := by rw [← m4, List.length_take]; omega
            rw [← hn3, ← hn4] at hB
            have HB := Lib.hid hB
            have HN := Lib.hid (And.intro hn3 hn4)
            have HBF := Lib.hid (And.intro hG (And.intro hFl (And.intro hT2 hsep)))
            have HEN := Lib.hid hent
            have HEE := Lib.hid hE
            have HZ := Lib.hid hz
            rw [← hn3] at r3
            rw [← hn4] at r4
            have HR := Lib.hid (And.intro r3 r4)
            clear hB hn3 hn4 hG hFl hT2 hsep hent hz r3 r4
            rw [hT]
            cases y with
            | inl y =>
              cases z with
              | inr z => exact HEN.out.elim
              | inl z =>
              obtain ⟨yk, yn, yt, yA, yc, ypl⟩ := y
              obtain rfl : HpA.hp ⟨yk, yn, yt, yA, yc, ypl⟩ = z := HEN.out.1
              have hk3 : ¬ yk = 3 := HEN.out.2.1
              have hrd := hap_round HZ.out m3
              have HRD := Lib.hid (And.intro hrd (And.intro m3 m4))
              unfold entC at hE ⊢
              dsimp only at hE ⊢
              have e0 := hE.cell 0
              have e5 := hE.cell 1
              have e6 := hE.cell 2
              have e7 := hE.cell 3
              have e8 := hE.cell 4
              simp at e0 e5 e6 e7 e8
              clear hE m3 m4 hrd
              by_cases h4 : n3 < 64
              · have h4i : (n3 : Int) < 64 := by omega
                gi_wp2_with (gi_at_builtin; go_loud (refine Go.wpListIn_append_own_at _ rfl (.tmp 110) (.tmp 113) 26 rfl w.heap.size 47 jh _ 4 48 Try.underlying26 hjh zh0 zh1 zh2 rfl (by decide) (.slice p3 n3 c3) n3 (s.haps.flatMap hapC) rfl ((HR.out.1).alloc _) ⟨A.heap.size, 0, none⟩ 1 1 (hapC ⟨yk, yn, yt, yA, yc, ypl⟩) rfl rfl (fun j u hu => World.news_of_block (Whole.new A _ _) j u hu) (hapC_one _) (by simp only [maxLen]; omega) (by omega) (by simp; omega) ?_; intro v' w5 h1 h2 _ h3; obtain ⟨p9, c9, rfl⟩ := own_len h1; have hB9 := (HB.out.sb.box.alloc (.cells (hapC ⟨yk, yn, yt, yA, yc, ypl⟩).toArray 47)).grown h2 (HB.out.sb.box.not_row (by decide) HR.out.1); have hE9 := (HEE.out.alloc (.cells (hapC ⟨yk, yn, yt, yA, yc, ypl⟩).toArray 47)).grown h2 (HEE.out.not_row (by decide) HR.out.1); have x3 := hB9.cell 3; have x4 := hB9.cell 4; have xf := hB9.frozen 3; have y0 := hE9.cell 0; simp [Vs.cells] at x3 x4; simp [entC] at y0; have HAp := Lib.hid (And.intro h1 (And.intro h2 h3)); clear h1 h2 h3 hB9 hE9))
                obtain ⟨G9, k1, k2, k3⟩ := HB.out.add3 (A2 := w5) (A1 := A.alloc (.cells #[.int .i64 yk, .int .i64 yn, .int .i64 yt, .slice yA ypl.length yc] 47)) (F := F) (D := w'.heap.size) ⟨yk, yn, yt, yA, yc, ypl⟩ ((Below.refl _ A).alloc (Nat.le_refl _) _) (by rw [← HN.out.1]; exact HAp.out.1) HAp.out.2.1 HAp.out.2.2 HEN.out.2.2.1 (fun ad e => ⟨(HEN.out.2.2.2 ad e).1, (HEN.out.2.2.2 ad e).2.1, (HEN.out.2.2.2 ad e).2.2.1, by have := (HEN.out.2.2.2 ad e).2.2.2; have := HR0.out.2.2.2; omega⟩) HBF.out.1 HBF.out.2.1 hAz HBF.out.2.2.1 (HRD.out.1.1 h4) HRD.out.1.2.2
                exact ⟨G9, k1, k2, k3⟩
              · have h4e : n3 = 64 := by omega
                have hst := HB.out.stay (HRD.out.1.2.1 h4) HRD.out.1.2.2
                have HST := Lib.hid hst
                clear hst
                by_cases h3 : n4 = 64
                · subst h3 h4e
                  gi_wp2
                  exact ⟨G', Kept.refl _ _, HBF.out.1, rfl, _, _, _, HST.out, HN.out.1.symm, HN.out.2.symm⟩
                · subst h4e
                  have h3i : ¬ (n4 : Int) = 64 := by omega
                  gi_wp2
                  exact ⟨G', Kept.refl _ _, HBF.out.1, _, _, _, HST.out⟩
            | inr y =>
              obtain rfl : z = .inr y := by
                cases z with
                | inl z => exact HEN.out.elim
                | inr z => exact congrArg Sum.inr HEN.out.symm
              have hrd := ft_round HZ.out m4
              have HRD := Lib.hid (And.intro hrd (And.intro m3 m4))
              obtain ⟨fs, fn, fr, fc, fb⟩ := y
              unfold entC at hE ⊢
              dsimp only at hE ⊢
              have e0 := hE.cell 0
              have e5 := hE.cell 5
              have e6 := hE.cell 6
              have e7 := hE.cell 7
              have e8 := hE.cell 8
              have e9 := hE.cell 9
              simp at e0 e5 e6 e7 e8 e9
              clear hE m3 m4 hrd
              by_cases h4 : n4 < 64
              · have h4i : (n4 : Int) < 64 := by omega
                gi_wp2_with (gi_at_builtin; go_loud (refine Go.wpListIn_append_own_at _ rfl (.tmp 93) (.tmp 96) 27 rfl w.heap.size 54 jf _ 5 40 Try.underlying27 hjf zf0 zf1 zf2 rfl (by decide) (.slice p4 n4 c4) n4 (s.faults.flatMap ftC) rfl ((HR.out.2).alloc _) ⟨A.heap.size, 0, none⟩ 1 1 (ftC ⟨fs, fn, fr, fc, fb⟩) rfl rfl (fun j u hu => World.news_of_block (Whole.new A _ _) j u hu) (ftC_one _) (by simp only [maxLen]; omega) (by omega) (by simp; omega) ?_; intro v' w5 h1 h2 _ h3; obtain ⟨p9, c9, rfl⟩ := own_len h1; have hB9 := (HB.out.sb.box.alloc (.cells (ftC ⟨fs, fn, fr, fc, fb⟩).toArray 54)).grown h2 (HB.out.sb.box.not_row (by decide) HR.out.2); have hE9 := (HEE.out.alloc (.cells (ftC ⟨fs, fn, fr, fc, fb⟩).toArray 54)).grown h2 (HEE.out.not_row (by decide) HR.out.2); have x3 := hB9.cell 3; have x4 := hB9.cell 4; have xf := hB9.frozen 4; have y0 := hE9.cell 0; simp [Vs.cells] at x3 x4; simp [entC] at y0; have HAp := Lib.hid (And.intro h1 (And.intro h2 h3)); clear h1 h2 h3 hB9 hE9))
                obtain ⟨G9, k1, k2, k3⟩ := HB.out.add4 (A2 := w5) (A1 := A.alloc (.cells #[.int .i64 fs, .int .i64 fn, .int .i64 fr, .int .i64 fc, .bool fb] 54)) (F := F) (D := w'.heap.size) ⟨fs, fn, fr, fc, fb⟩ ((Below.refl _ A).alloc (Nat.le_refl _) _) (by rw [← HN.out.2]; exact HAp.out.1) HAp.out.2.1 HAp.out.2.2 HBF.out.1 HBF.out.2.1 hAz HRD.out.1.2.2 (HRD.out.1.1 h4)
                exact ⟨G9, k1, k2, k3⟩
              · have h4e : n4 = 64 := by omega
                have hst := HB.out.stay HRD.out.1.2.2 (HRD.out.1.2.1 h4)
                have HST := Lib.hid hst
                clear hst
                by_cases h3 : n3 = 64
                · subst h3 h4e
                  gi_wp2
                  exact ⟨G', Kept.refl _ _, HBF.out.1, rfl, _, _, _, HST.out, HN.out.1.symm, HN.out.2.symm⟩
                · subst h4e
                  have h3i : ¬ (n3 : Int) = 64 := by omega
                  gi_wp2
                  exact ⟨G', Kept.refl _ _, HBF.out.1, _, _, _, HST.out⟩
          case done =>
            rintro D W G' hD ⟨G, V, s, hB⟩ hE hK
            obtain ⟨v0, v1, v2, v3, v4⟩ := V
            have r0 : W.ownsRow w.heap.size 52 2 v0 s.rates.length (s.rates.flatMap rateC) := hB.sb.r0
            have r1 : W.ownsRow w.heap.size 2 1 v1 s.on.length (s.on.flatMap numC) := hB.sb.r1
            have r2 : W.ownsRow w.heap.size 2 1 v2 s.delays.length (s.delays.flatMap numC) := hB.sb.r2
            have r3 : W.ownsRow w.heap.size 47 4 v3 s.haps.length (s.haps.flatMap hapC) := hB.sb.r3
            have r4 : W.ownsRow w.heap.size 54 5 v4 s.faults.length (s.faults.flatMap ftC) := hB.sb.r4
            obtain ⟨p0, q0, z0, rfl⟩ := own_val r0
            obtain ⟨p1, q1, z1, rfl⟩ := own_val r1
            obtain ⟨p2, q2, z2, rfl⟩ := own_val r2
            obtain ⟨p3, q3, z3, rfl⟩ := own_val r3
            obtain ⟨p4, q4, z4, rfl⟩ := own_val r4
            have x0 := hB.sb.box.cell 0
            have x1 := hB.sb.box.cell 1
            have x2 := hB.sb.box.cell 2
            have x3 := hB.sb.box.cell 3
            have x4 := hB.sb.box.cell 4
            simp [Vs.cells] at x0 x1 x2 x3 x4
            have f0 := hB.b4.frozen 0
            have f1 := hB.b4.frozen 1
            have f2 := hB.b4.frozen 2
            have f3 := hB.b4.frozen 3
            have f4 := hB.b4.frozen 4
            have y0 := hB.b4.cell 0
            have y1 := hB.b4.cell 1
            have y2 := hB.b4.cell 2
            have y3 := hB.b4.cell 3
            have y4 := hB.b4.cell 4
            simp [ScV.cells, ScV.zero] at y0 y1 y2 y3 y4
            have hDB : B4 ≠ D := (hE B4 ((hB.iff B4).2 (.inr (.inl rfl)))).2
            have l4 := hB.l4
            have HB := Lib.hid hB
            have HFU := Lib.hid (show (hapsOf (es.take es.length)).take 64 = (hapsOf es).take 64 ∧ (faultsOf (es.take es.length)).take 64 = (faultsOf es).take 64 by rw [List.take_length]; exact ⟨rfl, rfl⟩)
            have HE := Lib.hid (And.intro hE hK)
            clear r0 r1 r2 r3 r4 hB hE hK
            go_wp2
            have hDl : D < W.heap.size := (Array.getElem?_eq_some_iff.1 HE.out.2).1
            obtain ⟨W2, hW2⟩ : ∃ W2, W2 = (((((W.setCell ⟨B4, 0, none⟩ (.slice p0 q0 z0)).setCell ⟨B4, 1, none⟩ (.slice p1 q1 z1)).setCell ⟨B4, 2, none⟩ (.slice p2 q2 z2)).setCell ⟨B4, 3, none⟩ (.slice p3 q3 z3)).setCell ⟨B4, 4, none⟩ (.slice p4 q4 z4)) := ⟨_, rfl⟩
            rw [← hW2]
            have hk2 : Kept (fun i => i = B4) W W2 := by rw [hW2]; exact (((((Kept.setCell (S := fun i => i = B4) (Kept.refl _ W) (p := ⟨B4, 0, none⟩) (.inl rfl) _).setCell (p := ⟨B4, 1, none⟩) (.inl rfl) _).setCell (p := ⟨B4, 2, none⟩) (.inl rfl) _).setCell (p := ⟨B4, 3, none⟩) (.inl rfl) _).setCell (p := ⟨B4, 4, none⟩) (.inl rfl) _)
            have hw2 : Whole W2 B4 29 #[.slice p0 q0 z0, .slice p1 q1 z1, .slice p2 q2 z2, .slice p3 q3 z3, .slice p4 q4 z4] := by rw [hW2]; exact ((((HB.out.b4.set 0 _).set 1 _).set 2 _).set 3 _).set 4 _
            have hK2 : W2.heap[D]? = some (.deferred (some [])) := (hk2.block D hDl (fun e => hDB e.symm)).trans HE.out.2
            have hfin := HB.out.fin (W2 := W2.putObj D (.deferred none)) (D := D) ((hk2.mono (fun i h => .inl h)).trans (kept_putObj (T := fun i => i = D) rfl _) (fun i _ h => .inr h)) (fun i hi => (HE.out.1 i hi).2) (by have := HR0.out.2.2.2; omega) HFU.out HSC.out
            refine ⟨by simp, .inl ⟨_, _, rfl, run_takeDeferred hK2, ?_⟩⟩
            obtain ⟨s', G9, B9, t1, t2, t3, t4⟩ := hfin
            exact ⟨_, results_cell_tmp rfl _ _ B4 29 #[.slice p0 q0 z0, .slice p1 q1 z1, .slice p2 q2 z2, .slice p3 q3 z3, .slice p4 q4 z4] (0, 0) _ rfl rfl (hw2.kept (kept_putObj (T := fun i => i = D) rfl _) (fun e => hDB e)) Try.underlying29 rfl (by kernel_rfl), ⟨_, s', G9, B9, rfl, t1, t2, t3, t4⟩⟩
          case stop =>
            rintro D c9 k9 W G' hD hk1 hkM ⟨rfl, G, V, s, hB, hl1, hl2⟩ hE hK
            have hful := full_take es k9 (hB.lens.1.trans hl1) (hB.lens.2.trans hl2)
            obtain ⟨v0, v1, v2, v3, v4⟩ := V
            have r0 : W.ownsRow w.heap.size 52 2 v0 s.rates.length (s.rates.flatMap rateC) := hB.sb.r0
            have r1 : W.ownsRow w.heap.size 2 1 v1 s.on.length (s.on.flatMap numC) := hB.sb.r1
            have r2 : W.ownsRow w.heap.size 2 1 v2 s.delays.length (s.delays.flatMap numC) := hB.sb.r2
            have r3 : W.ownsRow w.heap.size 47 4 v3 s.haps.length (s.haps.flatMap hapC) := hB.sb.r3
            have r4 : W.ownsRow w.heap.size 54 5 v4 s.faults.length (s.faults.flatMap ftC) := hB.sb.r4
            obtain ⟨p0, q0, z0, rfl⟩ := own_val r0
            obtain ⟨p1, q1, z1, rfl⟩ := own_val r1
            obtain ⟨p2, q2, z2, rfl⟩ := own_val r2
            obtain ⟨p3, q3, z3, rfl⟩ := own_val r3
            obtain ⟨p4, q4, z4, rfl⟩ := own_val r4
            have x0 := hB.sb.box.cell 0
            have x1 := hB.sb.box.cell 1
            have x2 := hB.sb.box.cell 2
            have x3 := hB.sb.box.cell 3
            have x4 := hB.sb.box.cell 4
            simp [Vs.cells] at x0 x1 x2 x3 x4
            have f0 := hB.b4.frozen 0
            have f1 := hB.b4.frozen 1
            have f2 := hB.b4.frozen 2
            have f3 := hB.b4.frozen 3
            have f4 := hB.b4.frozen 4
            have y0 := hB.b4.cell 0
            have y1 := hB.b4.cell 1
            have y2 := hB.b4.cell 2
            have y3 := hB.b4.cell 3
            have y4 := hB.b4.cell 4
            simp [ScV.cells, ScV.zero] at y0 y1 y2 y3 y4
            have hDB : B4 ≠ D := (hE B4 ((hB.iff B4).2 (.inr (.inl rfl)))).2
            have l4 := hB.l4
            have HB := Lib.hid hB
            have HFU := Lib.hid hful
            have HE := Lib.hid (And.intro hE hK)
            clear r0 r1 r2 r3 r4 hB hE hK hful hl1 hl2 hk1 hkM
            refine wpIn_wide.2 ?_
            go_wp2
            have hDl : D < W.heap.size := (Array.getElem?_eq_some_iff.1 HE.out.2).1
            obtain ⟨W2, hW2⟩ : ∃ W2, W2 = (((((W.setCell ⟨B4, 0, none⟩ (.slice p0 q0 z0)).setCell ⟨B4, 1, none⟩ (.slice p1 q1 z1)).setCell ⟨B4, 2, none⟩ (.slice p2 q2 z2)).setCell ⟨B4, 3, none⟩ (.slice p3 q3 z3)).setCell ⟨B4, 4, none⟩ (.slice p4 q4 z4)) := ⟨_, rfl⟩
            rw [← hW2]
            have hk2 : Kept (fun i => i = B4) W W2 := by rw [hW2]; exact (((((Kept.setCell (S := fun i => i = B4) (Kept.refl _ W) (p := ⟨B4, 0, none⟩) (.inl rfl) _).setCell (p := ⟨B4, 1, none⟩) (.inl rfl) _).setCell (p := ⟨B4, 2, none⟩) (.inl rfl) _).setCell (p := ⟨B4, 3, none⟩) (.inl rfl) _).setCell (p := ⟨B4, 4, none⟩) (.inl rfl) _)
            have hw2 : Whole W2 B4 29 #[.slice p0 q0 z0, .slice p1 q1 z1, .slice p2 q2 z2, .slice p3 q3 z3, .slice p4 q4 z4] := by rw [hW2]; exact ((((HB.out.b4.set 0 _).set 1 _).set 2 _).set 3 _).set 4 _
            have hK2 : W2.heap[D]? = some (.deferred (some [])) := (hk2.block D hDl (fun e => hDB e.symm)).trans HE.out.2
            have hfin := HB.out.fin (W2 := W2.putObj D (.deferred none)) (D := D) ((hk2.mono (fun i h => .inl h)).trans (kept_putObj (T := fun i => i = D) rfl _) (fun i _ h => .inr h)) (fun i hi => (HE.out.1 i hi).2) (by have := HR0.out.2.2.2; omega) HFU.out HSC.out
            refine ⟨by simp, .inl ⟨_, _, rfl, run_takeDeferred hK2, ?_⟩⟩
            obtain ⟨s', G9, B9, t1, t2, t3, t4⟩ := hfin
            exact ⟨_, results_cell_tmp rfl _ _ B4 29 #[.slice p0 q0 z0, .slice p1 q1 z1, .slice p2 q2 z2, .slice p3 q3 z3, .slice p4 q4 z4] (0, 0) _ rfl rfl (hw2.kept (kept_putObj (T := fun i => i = D) rfl _) (fun e => hDB e)) Try.underlying29 rfl (by kernel_rfl), ⟨_, s', G9, B9, rfl, t1, t2, t3, t4⟩⟩
        
end Go.Proofs.Ytljcaigaofalbaa
