/- A capture's Values, by its contract. No condition. -/
import Derived.Test.YtjgbgakdnapdhaaEList
namespace Go.Proofs.Ytjgbgakdnapdhaa
open Go.RowKit Go.Shelf
attribute [local go_sem] Oper.semAt_some

theorem i_i64 : (Try.prog.info? 2).map (fun i => (i.zero, i.size, i.bytes)) = some (some (.int .i64 0), 1, 8) := by kernel_rfl
theorem inC_one : ∀ (d : De), ∀ u ∈ inC d.v, u.oneCell' = true := by
  intro d u hu
  simp only [inC, List.mem_cons, List.not_mem_nil, or_false] at hu
  rw [hu]
  rfl
theorem vals_flat (L : List De) : L.flatMap (fun d => inC d.v) = (L.map De.v).flatMap inC := by
  induction L with
  | nil => rfl
  | cons d L ih => rw [List.flatMap_cons, List.map_cons, List.flatMap_cons, ih]

set_option maxRecDepth 100000 in
set_option maxHeartbeats 4000000 in
theorem valuesNode_any {w : World} {a : Nat} {f : Ca} (h : CapAt w a f) (own : Nat) (ho : own < 16) : Calls Try.prog 13 #[.pointer (some ⟨a, 0, none⟩), .int .i64 (own : Int)] w (NewRow inC 1 2 (valC f (own : Int)) w) := by
  have hn : nodeB (own : Int) = true := nodeB_iff.2 ⟨own, ho, rfl⟩
  have HN := Lib.hid (fun W => isNode_any (own : Int) W)
  rw [hn] at HN
  have HCP := Lib.hid (copy_any h)
  have HS0 := Lib.hid (fun W => some_any 0 W)
  obtain ⟨L, hL⟩ : ∃ L, L = listC (ownC f (own : Int)) := ⟨_, rfl⟩
  have hoc : ownC f (own : Int) = setN f own (some 0) none := by unfold ownC; rw [if_pos hn, Int.toNat_natCast]
  have e1 : (0 : Int) ≤ (own : Int) := by omega
  have e2 : (own : Int) < 16 := by omega
  have hle : L.length ≤ 16 := by rw [hL]; exact listTo_len _ 16
  have HE := Lib.hid (fun W1 W (h1 : CapAt W1 w.heap.size f) (hW : Below W1.heap.size W1 W) => ca_set4 (x := some 0) (y := none) h1 hW ho (fun v e => by cases e; decide) oko_none)
  have KX := Lib.hid (fun (W : World) (q : CapAt W w.heap.size f) => (show (∃ u, W.cell? ⟨w.heap.size, own * 4, none⟩ = some u) ∧ (∃ u, W.cell? ⟨w.heap.size, own * 4 + 1, none⟩ = some u) ∧ (∃ u, W.cell? ⟨w.heap.size, own * 4 + 2, none⟩ = some u) ∧ (∃ u, W.cell? ⟨w.heap.size, own * 4 + 3, none⟩ = some u) ∧ (∀ i, W.frozen? ⟨w.heap.size, i, none⟩ = false) from by
    obtain ⟨c0, c1, c2, c3⟩ := q.cells ho
    exact ⟨⟨_, c0⟩, ⟨_, c1⟩, ⟨_, c2⟩, ⟨_, c3⟩, q.whole.frozen⟩))
  have HL := Lib.hid (show L = listC (setN f own (some 0) none) from by rw [hL, hoc])
  unfold valC
  rw [← hL]
  clear h hn ho hL hoc
  refine (callsIn_wide (n := 5)).1 ?_
  refine callsIn_of_wp_marks Try.func13 rfl trivial ?_ rfl
  simp only [Try.ntmps13, List.size_toArray, List.length_cons, List.length_nil, Nat.reduceAdd, Nat.reduceSub, Array.replicate_succ, Array.replicate_zero, List.push_toArray, List.append_toArray, List.nil_append, List.cons_append]
  refine wpIn_wide.2 ?_
  go_upto_region 3 with (first
    | (go_at_call 20; refine HCP.out.mono ?_; rintro e w1 ⟨rfl, hca, hb⟩; have H1 := Lib.hid (And.intro hca hb); clear hca hb)
    | (go_at_call 28; refine (HN.out _).mono ?_; rintro e w2 ⟨rfl, hw2⟩; obtain rfl := hw2.symm))
  have K0 := Lib.hid (show (fun W : World => True) w1.drew from trivial)
  go_region_held3 (fun W : World => True) (first | exact trivial) (first
    | (go_at_call 32; refine (HS0.out _).mono ?_; rintro e w5 ⟨rfl, hb⟩; have hb := Below.trans (show Below w1.heap.size w1 w1.drew from (Below.refl _ w1).drew) hb; obtain ⟨⟨u0, q0⟩, ⟨u1, q1⟩, ⟨u2, q2⟩, ⟨u3, q3⟩, qf⟩ := KX.out w5 (H1.out.1.later hb); have HE5 := Lib.hid (HE.out w1 w5 H1.out.1 hb); clear hb))
  obtain ⟨V, hV⟩ : ∃ V, V = ((((w5.setCell ⟨w.heap.size, own * 4, none⟩ (.int .i64 0)).setCell ⟨w.heap.size, own * 4 + 1, none⟩ (.bool true)).setCell ⟨w.heap.size, own * 4 + 2, none⟩ (.int .i64 0)).setCell ⟨w.heap.size, own * 4 + 3, none⟩ (.bool false)) := ⟨_, rfl⟩
  rw [← hV]
  have HV := Lib.hid (show Below w.heap.size w V ∧ SrcE V (some ⟨w.heap.size, 0, none⟩) L from by rw [hV]; exact ⟨below_on H1.out.2 HE5.out.2 (fun i e => by have e : i = w.heap.size := e; omega) H1.out.2.size, .inr ⟨w.heap.size, _, rfl, HE5.out.1, HL.out⟩⟩)
  clear q0 q1 q2 q3 qf HE5
  have hzv := HV.out.1.size
  obtain ⟨B, hB⟩ : ∃ B, B = V.heap.size := ⟨_, rfl⟩
  obtain ⟨w3, hw3⟩ : ∃ w3, w3 = V.alloc (.cells #[.slice none 0 0] 45) := ⟨_, rfl⟩
  have hb3 : Below V.heap.size V w3 := by rw [hw3]; exact (Below.refl _ _).alloc (Nat.le_refl _) _
  have hW3 : Whole w3 B 45 #[.slice none 0 0] := by rw [hw3, hB]; exact Whole.new _ _ _
  have hz3 : w3.heap.size = B + 1 := by rw [hw3, hB]; simp
  obtain ⟨w4, hw4⟩ : ∃ w4, w4 = w3.alloc (.cells #[.pointer (some ⟨w.heap.size, 0, none⟩)] 24) := ⟨_, rfl⟩
  have hb4 : Below w3.heap.size w3 w4 := by rw [hw4]; exact (Below.refl _ _).alloc (Nat.le_refl _) _
  have hW4 : Whole w4 w3.heap.size 24 #[.pointer (some ⟨w.heap.size, 0, none⟩)] := by rw [hw4]; exact Whole.new _ _ _
  have hz4 : w4.heap.size = w3.heap.size + 1 := by rw [hw4]; simp
  have hs4 := HV.out.2.later (k_then hb4 hb3)
  have htl := turnsD 4 (by omega) w3.heap.size (some ⟨w.heap.size, 0, none⟩) L w4 (hW4.cell 0) hs4
  rw [hz3] at htl
  have HT := Lib.hid htl
  have HB := Lib.hid (And.intro (k_then (k_then hb4 hb3) HV.out.1) (k_later hb4 hW3))
  have HW3 := Lib.hid hw3
  have HW4 := Lib.hid hw4
  have HBB := Lib.hid hB
  have hwB : w.heap.size ≤ B := by omega
  clear hw3 hb3 hW3 hw4 hb4 hW4 hs4 htl hV hB hzv
  go_wp2_with (go_at_call 31; refine (callsIn_wide.1 (noted_in 5 _ _)).mono ?_; rintro e w' ⟨rfl, hw'⟩; rw [← HW3.out, ← HW4.out] at hw'; have HW5 := Lib.hid hw'; clear hw')
  rw [HW5.out]
  try rw [← HBB.out]
  obtain ⟨i0, hi, hy0, hy1, hy2⟩ := info_parts i_i64
  refine (wpIn_wide (n := 5)).1 ?_
  refine wpIn_turns (S := fun i => i = B) (T := Nothing) (K := Nothing) (fun i h => by omega) (fun i h => h.elim) (fun i h => h.elim) (by omega) (gf := 35) (lb := #[.pointer (some ⟨B + 1, 0, none⟩)]) rfl
    (enters_of Try.func35 (by kernel_rfl) rfl) (encs := encD L) (M := L.length) (fun _ => rfl) (E := fun _ _ => True) (fun _ _ _ _ h => h) HT.out
    (Listed (fun d : De => inC d.v) 1 2 45 B (w4.heap.size + 2) L) (fun _ _ _ => False)
    (fun k a2 W => a2 = { tmps := #[.pointer (some ⟨a, 0, none⟩), .int .i64 (own : Int), undef, undef, .slice none 0 0, .pointer (some ⟨w.heap.size, 0, none⟩), .pointer (some ⟨B, 0, none⟩), undef, .int .i64 (L.getD (k - 1) default).v, .pointer (some ⟨a, 0, none⟩), .pointer (some ⟨w.heap.size, 0, none⟩), .pointer (some ⟨w.heap.size, 0, none⟩), .bool true, .bool true, .int .i64 (own : Int), .bool true, .bool true, .pointer (some ⟨w.heap.size, 0, none⟩), .int .i64 (own : Int), .agg #[.int .i64 0, .bool true], .agg #[.int .i64 0, .bool true, .int .i64 0, .bool false], .pointer (some ⟨w.heap.size, 0, none⟩), .pointer (some ⟨w.heap.size, 0, none⟩), .pointer (some ⟨w.heap.size, own * 4, none⟩), .pointer (some ⟨w.heap.size, 0, none⟩), .func (.func 35) #[] #[.pointer (some ⟨B + 1, 0, none⟩)], .int .i64 ((L.getD (k - 1) default).n : Int), .int .i64 (L.getD (k - 1) default).v, undef, undef, undef, undef, undef], defers := [] })
    ?hI ?hX ?hAx ?h0 ?assign ?body ?done ?stop
  case hI =>
    intro k A B hk hT
    exact hT.kept hk (by rintro (e | e | e); exact e.elim; omega; omega) (by
      rintro i hi (e | e | e)
      · exact e.elim
      · omega
      · omega)
  case hX => exact fun _ _ _ _ _ h => h
  case hAx => exact fun _ _ _ _ _ h => h
  case h0 => exact ⟨_, HB.out.2, ⟨rfl, .inl ⟨rfl, rfl⟩⟩⟩
  case assign =>
    intro lp k W K hWz hK
    unfold encD
    gi_wp2
    exact hK _ _ (Below.refl _ W) rfl
  case body =>
    rintro lp k W a2 hkM hWz hKT ⟨vd, hDw, hrow⟩ rfl
    rw [Nat.add_sub_cancel]
    obtain ⟨x, hx⟩ : ∃ x, x = L.getD k default := ⟨_, rfl⟩
    rw [← hx]
    have hd0 := hDw.cell 0
    have hdf := hDw.frozen 0
    have hdl := hDw.lt
    simp at hd0
    have HI := Lib.hid (And.intro hDw hrow)
    have HX := Lib.hid hx
    have hkl : k ≤ 16 := by omega
    clear hDw hKT hx HT
    gi_wp2_with (gi_at_builtin; refine wpListIn_append_own _ rfl (.tmp 28) (.tmp 30) 45 rfl (w4.heap.size + 2) 2 i0 _ 1 8 Try.underlying45 hi hy0 hy1 hy2 rfl (by decide) vd k ((L.take k).flatMap (fun d : De => inC d.v)) rfl (hrow.alloc _) ⟨W.heap.size, 0, none⟩ 1 1 (inC x.v) rfl rfl (fun j u hu => World.news_of_block (Whole.new W _ _) j u hu) (inC_one x) (by simp only [maxLen]; omega) (by omega) (by simp; omega) ?_; intro v' w5 h1 h2 _; have hD5 : Whole w5 B 45 #[vd] := (HI.out.1.alloc _).grown h2 (HI.out.1.not_row (by decide) hrow); have hc5 := hD5.cell 0; have hf5 := hD5.frozen 0; simp at hc5; have HG := Lib.hid (And.intro h1 (And.intro h2 hD5)); obtain ⟨g', cap', rfl⟩ := ownsRow_succ h1; clear h1 h2 hD5)
    exact listed_more HX.out hkM (by omega) hWz (by omega) HI.out.2 HG.out.1 HG.out.2.1 HG.out.2.2
  case done =>
    rintro D W hD hKT ⟨vd, hDw, hrow⟩ _ hDD
    have hc := hDw.cell 0
    simp at hc
    have HF := Lib.hid (show Below w.heap.size w (W.putObj D (.deferred none)) from below_on HB.out.1 (hKT.putObj hD (.deferred none)).kept (fun i e => by rcases e with e | e; omega; exact e.elim) HB.out.1.size)
    have HR := Lib.hid (own_low (b' := w.heap.size) (ownsRow_putObj (o := .deferred none) hrow hDD (fun _ _ _ e => by cases e)) (by omega))
    clear hDw hrow hKT HT
    go_wp2
    refine ⟨by simp, .inl ⟨_, _, rfl, run_takeDeferred hDD, ?_⟩⟩
    refine ⟨_, results_tmp rfl _ _ _, vd, rfl, ?_, HF.out⟩
    have := HR.out
    rw [List.take_length, vals_flat] at this
    rw [List.length_map]
    exact this
  case stop =>
    rintro D cc k W hD hk1 hkM hKT hX
    exact hX.elim
set_option maxRecDepth 100000 in
set_option maxHeartbeats 4000000 in
theorem valuesNo_any {w : World} {a : Nat} {f : Ca} (h : CapAt w a f) (own : Int) (hn : nodeB own = false) : Calls Try.prog 13 #[.pointer (some ⟨a, 0, none⟩), .int .i64 own] w (NewRow inC 1 2 (valC f own) w) := by
  have HN := Lib.hid (fun W => isNode_any own W)
  rw [hn] at HN
  have HCP := Lib.hid (copy_any h)
  obtain ⟨L, hL⟩ : ∃ L, L = listC (ownC f own) := ⟨_, rfl⟩
  have hoc : ownC f own = f := by unfold ownC; rw [hn]; rfl
  have hle : L.length ≤ 16 := by rw [hL]; exact listTo_len _ 16
  have HL := Lib.hid (show L = listC f from by rw [hL, hoc])
  unfold valC
  rw [← hL]
  clear h hn hL hoc
  refine (callsIn_wide (n := 5)).1 ?_
  refine callsIn_of_wp_marks Try.func13 rfl trivial ?_ rfl
  simp only [Try.ntmps13, List.size_toArray, List.length_cons, List.length_nil, Nat.reduceAdd, Nat.reduceSub, Array.replicate_succ, Array.replicate_zero, List.push_toArray, List.append_toArray, List.nil_append, List.cons_append]
  refine wpIn_wide.2 ?_
  go_upto_region 4 with (first
    | (go_at_call 20; refine HCP.out.mono ?_; rintro e w1 ⟨rfl, hca, hb⟩; have H1 := Lib.hid (And.intro hca hb); clear hca hb)
    | (go_at_call 28; refine (HN.out _).mono ?_; rintro e w2 ⟨rfl, hw2⟩; obtain rfl := hw2.symm))
  obtain ⟨V, hV⟩ : ∃ V, V = w1 := ⟨_, rfl⟩
  rw [← hV]
  have HV := Lib.hid (show Below w.heap.size w V ∧ SrcE V (some ⟨w.heap.size, 0, none⟩) L from by rw [hV]; exact ⟨H1.out.2, .inr ⟨w.heap.size, _, rfl, H1.out.1, HL.out⟩⟩)
  clear HN
  have hzv := HV.out.1.size
  obtain ⟨B, hB⟩ : ∃ B, B = V.heap.size := ⟨_, rfl⟩
  obtain ⟨w3, hw3⟩ : ∃ w3, w3 = V.alloc (.cells #[.slice none 0 0] 45) := ⟨_, rfl⟩
  have hb3 : Below V.heap.size V w3 := by rw [hw3]; exact (Below.refl _ _).alloc (Nat.le_refl _) _
  have hW3 : Whole w3 B 45 #[.slice none 0 0] := by rw [hw3, hB]; exact Whole.new _ _ _
  have hz3 : w3.heap.size = B + 1 := by rw [hw3, hB]; simp
  obtain ⟨w4, hw4⟩ : ∃ w4, w4 = w3.alloc (.cells #[.pointer (some ⟨w.heap.size, 0, none⟩)] 24) := ⟨_, rfl⟩
  have hb4 : Below w3.heap.size w3 w4 := by rw [hw4]; exact (Below.refl _ _).alloc (Nat.le_refl _) _
  have hW4 : Whole w4 w3.heap.size 24 #[.pointer (some ⟨w.heap.size, 0, none⟩)] := by rw [hw4]; exact Whole.new _ _ _
  have hz4 : w4.heap.size = w3.heap.size + 1 := by rw [hw4]; simp
  have hs4 := HV.out.2.later (k_then hb4 hb3)
  have htl := turnsD 4 (by omega) w3.heap.size (some ⟨w.heap.size, 0, none⟩) L w4 (hW4.cell 0) hs4
  rw [hz3] at htl
  have HT := Lib.hid htl
  have HB := Lib.hid (And.intro (k_then (k_then hb4 hb3) HV.out.1) (k_later hb4 hW3))
  have HW3 := Lib.hid hw3
  have HW4 := Lib.hid hw4
  have HBB := Lib.hid hB
  have hwB : w.heap.size ≤ B := by omega
  clear hw3 hb3 hW3 hw4 hb4 hW4 hs4 htl hV hB hzv
  go_wp2_with (go_at_call 31; refine (callsIn_wide.1 (noted_in 5 _ _)).mono ?_; rintro e w' ⟨rfl, hw'⟩; rw [← HW3.out, ← HW4.out] at hw'; have HW5 := Lib.hid hw'; clear hw')
  rw [HW5.out]
  try rw [← HBB.out]
  obtain ⟨i0, hi, hy0, hy1, hy2⟩ := info_parts i_i64
  refine (wpIn_wide (n := 5)).1 ?_
  refine wpIn_turns (S := fun i => i = B) (T := Nothing) (K := Nothing) (fun i h => by omega) (fun i h => h.elim) (fun i h => h.elim) (by omega) (gf := 35) (lb := #[.pointer (some ⟨B + 1, 0, none⟩)]) rfl
    (enters_of Try.func35 (by kernel_rfl) rfl) (encs := encD L) (M := L.length) (fun _ => rfl) (E := fun _ _ => True) (fun _ _ _ _ h => h) HT.out
    (Listed (fun d : De => inC d.v) 1 2 45 B (w4.heap.size + 2) L) (fun _ _ _ => False)
    (fun k a2 W => a2 = { tmps := #[.pointer (some ⟨a, 0, none⟩), .int .i64 own, undef, undef, .slice none 0 0, .pointer (some ⟨w.heap.size, 0, none⟩), .pointer (some ⟨B, 0, none⟩), undef, .int .i64 (L.getD (k - 1) default).v, .pointer (some ⟨a, 0, none⟩), .pointer (some ⟨w.heap.size, 0, none⟩), .pointer (some ⟨w.heap.size, 0, none⟩), .bool true, .bool true, .int .i64 own, .bool false, .bool false, undef, undef, undef, undef, undef, undef, undef, .pointer (some ⟨w.heap.size, 0, none⟩), .func (.func 35) #[] #[.pointer (some ⟨B + 1, 0, none⟩)], .int .i64 ((L.getD (k - 1) default).n : Int), .int .i64 (L.getD (k - 1) default).v, undef, undef, undef, undef, undef], defers := [] })
    ?hI ?hX ?hAx ?h0 ?assign ?body ?done ?stop
  case hI =>
    intro k A B hk hT
    exact hT.kept hk (by rintro (e | e | e); exact e.elim; omega; omega) (by
      rintro i hi (e | e | e)
      · exact e.elim
      · omega
      · omega)
  case hX => exact fun _ _ _ _ _ h => h
  case hAx => exact fun _ _ _ _ _ h => h
  case h0 => exact ⟨_, HB.out.2, ⟨rfl, .inl ⟨rfl, rfl⟩⟩⟩
  case assign =>
    intro lp k W K hWz hK
    unfold encD
    gi_wp2
    exact hK _ _ (Below.refl _ W) rfl
  case body =>
    rintro lp k W a2 hkM hWz hKT ⟨vd, hDw, hrow⟩ rfl
    rw [Nat.add_sub_cancel]
    obtain ⟨x, hx⟩ : ∃ x, x = L.getD k default := ⟨_, rfl⟩
    rw [← hx]
    have hd0 := hDw.cell 0
    have hdf := hDw.frozen 0
    have hdl := hDw.lt
    simp at hd0
    have HI := Lib.hid (And.intro hDw hrow)
    have HX := Lib.hid hx
    have hkl : k ≤ 16 := by omega
    clear hDw hKT hx HT
    gi_wp2_with (gi_at_builtin; refine wpListIn_append_own _ rfl (.tmp 28) (.tmp 30) 45 rfl (w4.heap.size + 2) 2 i0 _ 1 8 Try.underlying45 hi hy0 hy1 hy2 rfl (by decide) vd k ((L.take k).flatMap (fun d : De => inC d.v)) rfl (hrow.alloc _) ⟨W.heap.size, 0, none⟩ 1 1 (inC x.v) rfl rfl (fun j u hu => World.news_of_block (Whole.new W _ _) j u hu) (inC_one x) (by simp only [maxLen]; omega) (by omega) (by simp; omega) ?_; intro v' w5 h1 h2 _; have hD5 : Whole w5 B 45 #[vd] := (HI.out.1.alloc _).grown h2 (HI.out.1.not_row (by decide) hrow); have hc5 := hD5.cell 0; have hf5 := hD5.frozen 0; simp at hc5; have HG := Lib.hid (And.intro h1 (And.intro h2 hD5)); obtain ⟨g', cap', rfl⟩ := ownsRow_succ h1; clear h1 h2 hD5)
    exact listed_more HX.out hkM (by omega) hWz (by omega) HI.out.2 HG.out.1 HG.out.2.1 HG.out.2.2
  case done =>
    rintro D W hD hKT ⟨vd, hDw, hrow⟩ _ hDD
    have hc := hDw.cell 0
    simp at hc
    have HF := Lib.hid (show Below w.heap.size w (W.putObj D (.deferred none)) from below_on HB.out.1 (hKT.putObj hD (.deferred none)).kept (fun i e => by rcases e with e | e; omega; exact e.elim) HB.out.1.size)
    have HR := Lib.hid (own_low (b' := w.heap.size) (ownsRow_putObj (o := .deferred none) hrow hDD (fun _ _ _ e => by cases e)) (by omega))
    clear hDw hrow hKT HT
    go_wp2
    refine ⟨by simp, .inl ⟨_, _, rfl, run_takeDeferred hDD, ?_⟩⟩
    refine ⟨_, results_tmp rfl _ _ _, vd, rfl, ?_, HF.out⟩
    have := HR.out
    rw [List.take_length, vals_flat] at this
    rw [List.length_map]
    exact this
  case stop =>
    rintro D cc k W hD hk1 hkM hKT hX
    exact hX.elim
set_option maxRecDepth 100000 in
set_option maxHeartbeats 4000000 in
theorem valuesNil_any (w : World) (own : Int) : Calls Try.prog 13 #[.pointer none, .int .i64 own] w (NewRow inC 1 2 [] w) := by
  have HCP := Lib.hid (copyNil_any w)
  obtain ⟨L, hL⟩ : ∃ L : List De, L = [] := ⟨_, rfl⟩
  have hle : L.length ≤ 16 := by rw [hL]; exact Nat.zero_le _
  rw [show ([] : List Int) = L.map De.v by rw [hL]; rfl]
  have HL := Lib.hid hL
  clear hL
  refine (callsIn_wide (n := 5)).1 ?_
  refine callsIn_of_wp_marks Try.func13 rfl trivial ?_ rfl
  simp only [Try.ntmps13, List.size_toArray, List.length_cons, List.length_nil, Nat.reduceAdd, Nat.reduceSub, Array.replicate_succ, Array.replicate_zero, List.push_toArray, List.append_toArray, List.nil_append, List.cons_append]
  refine wpIn_wide.2 ?_
  go_upto_region 4 with (first
    | (go_at_call 20; refine HCP.out.mono ?_; rintro e w1 ⟨rfl, hw1⟩; obtain rfl := hw1.symm))
  obtain ⟨V, hV⟩ : ∃ V, V = w := ⟨_, rfl⟩
  rw [← hV]
  have HV := Lib.hid (show Below w.heap.size w V ∧ SrcE V none L from by rw [hV]; exact ⟨Below.refl _ _, .inl ⟨rfl, HL.out⟩⟩)
  clear HCP
  have hzv := HV.out.1.size
  obtain ⟨B, hB⟩ : ∃ B, B = V.heap.size := ⟨_, rfl⟩
  obtain ⟨w3, hw3⟩ : ∃ w3, w3 = V.alloc (.cells #[.slice none 0 0] 45) := ⟨_, rfl⟩
  have hb3 : Below V.heap.size V w3 := by rw [hw3]; exact (Below.refl _ _).alloc (Nat.le_refl _) _
  have hW3 : Whole w3 B 45 #[.slice none 0 0] := by rw [hw3, hB]; exact Whole.new _ _ _
  have hz3 : w3.heap.size = B + 1 := by rw [hw3, hB]; simp
  obtain ⟨w4, hw4⟩ : ∃ w4, w4 = w3.alloc (.cells #[.pointer none] 24) := ⟨_, rfl⟩
  have hb4 : Below w3.heap.size w3 w4 := by rw [hw4]; exact (Below.refl _ _).alloc (Nat.le_refl _) _
  have hW4 : Whole w4 w3.heap.size 24 #[.pointer none] := by rw [hw4]; exact Whole.new _ _ _
  have hz4 : w4.heap.size = w3.heap.size + 1 := by rw [hw4]; simp
  have hs4 := HV.out.2.later (k_then hb4 hb3)
  have htl := turnsD 4 (by omega) w3.heap.size none L w4 (hW4.cell 0) hs4
  rw [hz3] at htl
  have HT := Lib.hid htl
  have HB := Lib.hid (And.intro (k_then (k_then hb4 hb3) HV.out.1) (k_later hb4 hW3))
  have HW3 := Lib.hid hw3
  have HW4 := Lib.hid hw4
  have HBB := Lib.hid hB
  have hwB : w.heap.size ≤ B := by omega
  clear hw3 hb3 hW3 hw4 hb4 hW4 hs4 htl hV hB hzv
  go_wp2_with (go_at_call 31; refine (callsIn_wide.1 (noted_in 5 _ _)).mono ?_; rintro e w' ⟨rfl, hw'⟩; rw [← HW3.out, ← HW4.out] at hw'; have HW5 := Lib.hid hw'; clear hw')
  rw [HW5.out]
  try rw [← HBB.out]
  obtain ⟨i0, hi, hy0, hy1, hy2⟩ := info_parts i_i64
  refine (wpIn_wide (n := 5)).1 ?_
  refine wpIn_turns (S := fun i => i = B) (T := Nothing) (K := Nothing) (fun i h => by omega) (fun i h => h.elim) (fun i h => h.elim) (by omega) (gf := 35) (lb := #[.pointer (some ⟨B + 1, 0, none⟩)]) rfl
    (enters_of Try.func35 (by kernel_rfl) rfl) (encs := encD L) (M := L.length) (fun _ => rfl) (E := fun _ _ => True) (fun _ _ _ _ h => h) HT.out
    (Listed (fun d : De => inC d.v) 1 2 45 B (w4.heap.size + 2) L) (fun _ _ _ => False)
    (fun k a2 W => a2 = { tmps := #[.pointer none, .int .i64 own, undef, undef, .slice none 0 0, .pointer none, .pointer (some ⟨B, 0, none⟩), undef, .int .i64 (L.getD (k - 1) default).v, .pointer none, .pointer none, .pointer none, .bool false, .bool false, undef, undef, .bool false, undef, undef, undef, undef, undef, undef, undef, .pointer none, .func (.func 35) #[] #[.pointer (some ⟨B + 1, 0, none⟩)], .int .i64 ((L.getD (k - 1) default).n : Int), .int .i64 (L.getD (k - 1) default).v, undef, undef, undef, undef, undef], defers := [] })
    ?hI ?hX ?hAx ?h0 ?assign ?body ?done ?stop
  case hI =>
    intro k A B hk hT
    exact hT.kept hk (by rintro (e | e | e); exact e.elim; omega; omega) (by
      rintro i hi (e | e | e)
      · exact e.elim
      · omega
      · omega)
  case hX => exact fun _ _ _ _ _ h => h
  case hAx => exact fun _ _ _ _ _ h => h
  case h0 => exact ⟨_, HB.out.2, ⟨rfl, .inl ⟨rfl, rfl⟩⟩⟩
  case assign =>
    intro lp k W K hWz hK
    unfold encD
    gi_wp2
    exact hK _ _ (Below.refl _ W) rfl
  case body =>
    rintro lp k W a2 hkM hWz hKT ⟨vd, hDw, hrow⟩ rfl
    rw [Nat.add_sub_cancel]
    obtain ⟨x, hx⟩ : ∃ x, x = L.getD k default := ⟨_, rfl⟩
    rw [← hx]
    have hd0 := hDw.cell 0
    have hdf := hDw.frozen 0
    have hdl := hDw.lt
    simp at hd0
    have HI := Lib.hid (And.intro hDw hrow)
    have HX := Lib.hid hx
    have hkl : k ≤ 16 := by omega
    clear hDw hKT hx HT
    gi_wp2_with (gi_at_builtin; refine wpListIn_append_own _ rfl (.tmp 28) (.tmp 30) 45 rfl (w4.heap.size + 2) 2 i0 _ 1 8 Try.underlying45 hi hy0 hy1 hy2 rfl (by decide) vd k ((L.take k).flatMap (fun d : De => inC d.v)) rfl (hrow.alloc _) ⟨W.heap.size, 0, none⟩ 1 1 (inC x.v) rfl rfl (fun j u hu => World.news_of_block (Whole.new W _ _) j u hu) (inC_one x) (by simp only [maxLen]; omega) (by omega) (by simp; omega) ?_; intro v' w5 h1 h2 _; have hD5 : Whole w5 B 45 #[vd] := (HI.out.1.alloc _).grown h2 (HI.out.1.not_row (by decide) hrow); have hc5 := hD5.cell 0; have hf5 := hD5.frozen 0; simp at hc5; have HG := Lib.hid (And.intro h1 (And.intro h2 hD5)); obtain ⟨g', cap', rfl⟩ := ownsRow_succ h1; clear h1 h2 hD5)
    exact listed_more HX.out hkM (by omega) hWz (by omega) HI.out.2 HG.out.1 HG.out.2.1 HG.out.2.2
  case done =>
    rintro D W hD hKT ⟨vd, hDw, hrow⟩ _ hDD
    have hc := hDw.cell 0
    simp at hc
    have HF := Lib.hid (show Below w.heap.size w (W.putObj D (.deferred none)) from below_on HB.out.1 (hKT.putObj hD (.deferred none)).kept (fun i e => by rcases e with e | e; omega; exact e.elim) HB.out.1.size)
    have HR := Lib.hid (own_low (b' := w.heap.size) (ownsRow_putObj (o := .deferred none) hrow hDD (fun _ _ _ e => by cases e)) (by omega))
    clear hDw hrow hKT HT
    go_wp2
    refine ⟨by simp, .inl ⟨_, _, rfl, run_takeDeferred hDD, ?_⟩⟩
    refine ⟨_, results_tmp rfl _ _ _, vd, rfl, ?_, HF.out⟩
    have := HR.out
    rw [List.take_length, vals_flat] at this
    rw [List.length_map]
    exact this
  case stop =>
    rintro D cc k W hD hk1 hkM hKT hX
    exact hX.elim
theorem values_any {w : World} {a : Nat} {f : Ca} (h : CapAt w a f) (own : Int) : Calls Try.prog 13 #[.pointer (some ⟨a, 0, none⟩), .int .i64 own] w (NewRow inC 1 2 (valC f own) w) := by
  cases hn : nodeB own
  · exact valuesNo_any h own hn
  · obtain ⟨k, hk, rfl⟩ := nodeB_iff.1 hn
    exact valuesNode_any h k hk
end Go.Proofs.Ytjgbgakdnapdhaa
