/- A sending put behind the others: the walk. No condition. -/
import Derived.Test.YtmplidgafdobkaaUAdd
namespace Go.Proofs.Ytmplidgafdobkaa
open Go.RowKit Go.Shelf

theorem sd_len (a : SdA) : (sdC a).length = 5 := rfl
theorem sd_one (a : SdA) : ∀ u ∈ sdC a, u.oneCell' = true := by
  intro u hu
  simp only [sdC, Sl.v, List.mem_cons, List.not_mem_nil, or_false] at hu
  rcases hu with rfl | rfl | rfl | rfl | rfl <;> rfl
section
variable {w w1 w3 : World} {S : Nat → Prop} {b l : Nat} {v v' : Value} {As : List SdA} {g : Lg}
theorem BusAt.row_ne (h : BusAt w S b l v As g) : some l ≠ v.ownBlock := h.log.not_row (by decide) h.row
theorem BusAt.bus_ne (h : BusAt w S b l v As g) : b ≠ l := fun e => h.sb (e ▸ h.sl)
theorem SlOff.mono {S T : Nat → Prop} {s : Sl} (h : SlOff S s) (hT : ∀ k, T k → S k) : SlOff T s := fun ad e h0 ht => h ad e h0 (hT _ ht)
theorem SdOff.mono {S T : Nat → Prop} {a : SdA} (h : SdOff S a) (hT : ∀ k, T k → S k) : SdOff T a := ⟨h.1.mono hT, h.2.1.mono hT, h.2.2.mono hT⟩
/-- New blocks are none of a sending's. -/
theorem SdOff.new {S T : Nat → Prop} {a : SdA} (h : SdOff S a) (ha : SdAt w a) (hT : ∀ k, T k → S k ∨ w.heap.size ≤ k) : SdOff T a := by
  refine ⟨fun ad e h0 ht => ?_, fun ad e h0 ht => ?_, fun ad e h0 ht => ?_⟩
  · rcases hT _ ht with q | q
    · exact h.1 ad e h0 q
    · have := ha.raw.lt (fun _ => by simp [u8C]) e h0; omega
  · rcases hT _ ht with q | q
    · exact h.2.1 ad e h0 q
    · have := ha.r0.lt (fun _ => by simp [faC]) e h0; omega
  · rcases hT _ ht with q | q
    · exact h.2.2 ad e h0 q
    · have := ha.r1.lt (fun _ => by simp [faC]) e h0; omega
/-- The log's numbers turned. -/
theorem BusAt.nums (h : BusAt w S b l v As g) {last opens : Int} (hk : Kept (fun i => i = l) w w3) (hl : Whole w3 l 72 (lgC g.p v last opens)) : BusAt w3 S b l v As ⟨g.p, g.L, last, opens⟩ :=
  ⟨h.bus.kept hk h.bus_ne, hl, own_kept h.row hk (fun k e e2 => h.row_ne (by rw [e, show k = l from e2])), h.sds, fun a i => ⟨(h.src a i).1.kept hk ((h.src a i).2.mono (fun k e => by rw [show k = l from e]; exact h.sl)), (h.src a i).2⟩, h.sb, h.sl, h.sv, fun k e => Nat.lt_of_lt_of_le (h.sS k e) hk.size⟩
/-- One more sending. -/
theorem BusAt.more (h : BusAt w S b l v As g) (a : SdA) (ha : SdAt w a) (ho : SdOff S a) (o : Obj) (h1 : w1.ownsRow 0 78 5 v' (As.length + 1) (As.flatMap sdC ++ sdC a)) (h2 : (w.drew.alloc o).grownBy w1 v.ownBlock)
    (h3 : v'.ownBlock = v.ownBlock ∨ v'.ownBlock = some (w.drew.alloc o).heap.size) :
    BusAt (w1.setCell ⟨l, 16, none⟩ v') (fun k => S k ∨ v'.ownBlock = some k) b l v' (As ++ [a]) ⟨g.p, g.L ++ [a.s], g.last, g.opens⟩ ∧ Kept S w (w1.setCell ⟨l, 16, none⟩ v') ∧ (∀ k, (S k ∨ v'.ownBlock = some k) → S k ∨ w.heap.size ≤ k) := by
  have hW : Whole w1 l 72 (lgC g.p v g.last g.opens) := ((h.log.drew).alloc o).grown h2 h.row_ne
  have hne : ∀ k, v'.ownBlock = some k → ¬ k = l := fun k hk e => hW.not_row (by decide) h1 (by rw [hk, e])
  have k0 : Kept S w w1 := (((Kept.refl _ w).drew).alloc o).grown h2 (fun k hk => .inl (h.sv k hk))
  have k1 : Kept (fun i => i = l) w1 (w1.setCell ⟨l, 16, none⟩ v') := Kept.setCell (S := fun i => i = l) (Kept.refl _ w1) (p := ⟨l, 16, none⟩) (.inl rfl) _
  have k2 : Kept S w (w1.setCell ⟨l, 16, none⟩ v') := Kept.setCell k0 (p := ⟨l, 16, none⟩) (.inl h.sl) _
  have hS : ∀ k, (S k ∨ v'.ownBlock = some k) → S k ∨ w.heap.size ≤ k := fun k hk => by
    rcases hk with hk | hk
    · exact .inl hk
    · rcases h3 with e | e
      · exact .inl (h.sv k (by rw [← e]; exact hk))
      · rw [e] at hk
        cases hk
        exact .inr (by simp)
  refine ⟨⟨h.bus.kept k2 h.sb, hW.set 16 v', ?_, ?_, ?_, ?_, .inl h.sl, fun k e => .inr e, ?_⟩, k2, hS⟩
  · rw [List.length_append, List.flatMap_append, List.flatMap_singleton]
    exact own_kept h1 k1 hne
  · show (As ++ [a]).map (·.s) = g.L ++ [a.s]
    rw [List.map_append, h.sds]; rfl
  · intro x hx
    rcases List.mem_append.1 hx with hx | hx
    · obtain ⟨q1, q2⟩ := h.src x hx
      exact ⟨q1.kept k2 q2, q2.new q1 hS⟩
    · obtain rfl : x = a := by simpa using hx
      exact ⟨ha.kept k2 ho, ho.new ha hS⟩
  · rintro (e | e)
    · exact h.sb e
    · rcases hS b (.inr e) with q | q
      · exact h.sb q
      · have := h.bus.lt; omega
  · rintro k (e | e)
    · exact Nat.lt_of_lt_of_le (h.sS k e) k2.size
    · obtain ⟨_, cur, hc⟩ := own_typed h1 e
      exact Nat.lt_of_lt_of_le (Array.getElem?_eq_some_iff.1 hc).1 (by simp [World.setCell])
/-- What the walk wants behind the append. -/
theorem add_mid (h : BusAt w S b l v As g) {a : SdA} {o : Obj} (h1 : w1.ownsRow 0 78 5 v' (As.length + 1) (As.flatMap sdC ++ sdC a)) (h2 : (w.drew.alloc o).grownBy w1 v.ownBlock) :
    ∃ gb cap, v' = .slice (some ⟨gb, 0, none⟩) (As.length + 1) cap ∧ w1.cell? ⟨l, 16, none⟩ = some v ∧ w1.frozen? ⟨l, 16, none⟩ = false ∧ (w1.setCell ⟨l, 16, none⟩ v').cell? ⟨l, 16, none⟩ = some v' := by
  have hW : Whole w1 l 72 (lgC g.p v g.last g.opens) := ((h.log.drew).alloc o).grown h2 h.row_ne
  rcases h1.2 with ⟨_, h0⟩ | ⟨gb, cap, cur, e, _⟩
  · omega
  · exact ⟨gb, cap, e, hW.cell 16, hW.frozen 16, (hW.set 16 v').cell 16⟩

set_option maxRecDepth 100000 in
set_option maxHeartbeats 4000000 in
theorem add_yes (h : BusAt w S b l v As g) (a : SdA) (ha : SdAt w a) (ho : SdOff S a) (hp : PlanU g.p) (ht : 0 ≤ a.s.t ∧ a.s.t ≤ 4294967296) (hn : As.length ≤ 1000000) :
    Calls Try.prog 33 #[.pointer (some ⟨l, 0, none⟩), .agg #[.int .i64 a.s.f, .int .i64 a.s.t, a.rw.v, a.f0.v, a.f1.v], .bool true] w fun e w' => e = .returned (.int .i64 (As.length : Int)) ∧
      ∃ v' S', BusAt w' S' b l v' (As ++ [a]) (addG g a.s true) ∧ Kept S w w' ∧ ∀ k, S' k → S k ∨ w.heap.size ≤ k := by
  obtain ⟨i0, hi, hz0, hz1, hz2⟩ := info_parts i_sd
  have hll := h.log.lt
  obtain ⟨w2, hw2⟩ : ∃ w2, w2 = (w.alloc (.cells #[.int .i64 a.s.f, .int .i64 a.s.t, a.rw.v, a.f0.v, a.f1.v] 78)) := ⟨_, rfl⟩
  have hb2 : Below w.heap.size w w2 := hw2 ▸ (Below.refl _ _).alloc (Nat.le_refl _) _
  have H2 := h.later hb2
  have hB2 : Whole w2 w.heap.size 78 #[.int .i64 a.s.f, .int .i64 a.s.t, a.rw.v, a.f0.v, a.f1.v] := hw2 ▸ Whole.new _ _ _
  obtain ⟨⟨_, c2, _, _, _⟩, ⟨_, c17, c18⟩, fl⟩ := log_cells H2.log
  have b0 := hB2.cell 0
  have b1 := hB2.cell 1
  simp at b0 b1
  have HH := Lib.hid h
  have HB2 := Lib.hid hB2
  have HB := Lib.hid hb2
  have s1 := hp.s1
  have s2 := hp.s2
  have d1 := hp.d1
  have d2 := hp.d2
  have a1 := hp.a1
  have hsl : 0 ≤ g.p.slot := by omega
  obtain ⟨q, hq⟩ : ∃ q, q = g.p.slot / 2 := ⟨_, rfl⟩
  have z1 : ¬ (2 : Int) = 0 := by decide
  have z2 : g.p.slot.tdiv 2 = q := by rw [hq]; exact Int.tdiv_eq_ediv_of_nonneg hsl
  have z3 : IntKind.i64.wrap q = q := IntWalk.i64_in _ (by omega)
  have z4 : IntKind.i64.wrap (a.s.t + q) = a.s.t + q := IntWalk.i64_in _ (by omega)
  obtain ⟨w3, hw3⟩ : ∃ w3, w3 = w2.drew := ⟨_, rfl⟩
  obtain ⟨w4, hw4⟩ : ∃ w4, w4 = (w3.setCell ⟨l, 18, none⟩ (.int .i64 (a.s.t + q))).setCell ⟨l, 17, none⟩ (.int .i64 a.s.t) := ⟨_, rfl⟩
  have h3l : Whole w3 l 72 (lgC g.p v g.last g.opens) := hw3 ▸ H2.log
  have h4l : Whole w4 l 72 (lgC g.p v a.s.t (a.s.t + q)) := by
    have := (h3l.set 18 (.int .i64 (a.s.t + q))).set 17 (.int .i64 a.s.t)
    rw [← hw4] at this
    exact this
  have hb3 : Whole w3 w.heap.size 78 #[.int .i64 a.s.f, .int .i64 a.s.t, a.rw.v, a.f0.v, a.f1.v] := hw3 ▸ hB2
  have h4b : Whole w4 w.heap.size 78 #[.int .i64 a.s.f, .int .i64 a.s.t, a.rw.v, a.f0.v, a.f1.v] := by
    rw [hw4]
    exact (hb3.far (by simp; omega) _).far (by simp; omega) _
  have h4k : Kept (fun i => i = l) w w4 := by
    rw [hw4, hw3]
    exact Kept.setCell (S := fun i => i = l) (Kept.setCell (S := fun i => i = l) ((Kept.of_below hb2 _).drew) (p := ⟨l, 18, none⟩) (.inl rfl) _) (p := ⟨l, 17, none⟩) (.inl rfl) _
  obtain ⟨_, ⟨_, d17, d18⟩, dl⟩ := log_cells h3l
  have e1 := hb3.cell 1
  simp at e1
  have hl3 := h3l.lt
  have HW2 := Lib.hid hw2
  have HW3 := Lib.hid hw3
  have HW4 := Lib.hid hw4
  have HL4 := Lib.hid h4l
  have HB4 := Lib.hid h4b
  have HK4 := Lib.hid h4k
  have HQ := Lib.hid hq
  clear hw2 hw3 hw4 h4l h4b h4k h3l hb3 hB2 hb2 H2 h s1 s2 d1 d2 a1 hsl hq
  unfold Sl.v at HB2 HB4 HW2
  unfold Sl.v
  go_enter Try.func33, Try.ntmps33
  go_upto_region 2 with fail
  rw [← HW2.out]
  go_still_tail 12, (by kernel_rfl)
  change wpList _ _ _ _ _ w2.drew
  rw [← HW3.out]
  clear c2 c17 c18 fl b0 b1 z1 z2 z3 z4
  go_upto_region 4 with fail
  rw [← HW4.out]
  clear d17 d18 dl e1
  have hn4 : Kept (fun i => i = l) w w4 := HK4.out
  have H4 := (HH.out.nums hn4 HL4.out)
  have hB4 := HB4.out
  obtain ⟨_, ⟨c16, c17, c18⟩, fl⟩ := log_cells HL4.out
  have b0 := hB4.cell 0
  have b1 := hB4.cell 1
  have b2 := hB4.cell 2
  have b3 := hB4.cell 3
  have b4 := hB4.cell 4
  simp at b0 b1 b2 b3 b4
  have hrow := H4.row
  have hll4 := H4.log.lt
  have hal := ha.kept hn4 (ho.mono (fun k e => by rw [show k = l from e]; exact HH.out.sl))
  have H4 := Lib.hid H4
  have HA := Lib.hid hal
  have HO := Lib.hid ho
  have HON := Lib.hid (sd_one a)
  have HLN : (sdC a).length = 1 * 5 := rfl
  have hbase : 0 ≤ w4.heap.size := Nat.zero_le _
  clear hn4 hB4 hal ha ho
  go_region_law ((refine step_append_row (by rfl) (.tmp 29) (.tmp 31) 70 (by rfl) 0 78 i0 _ 5 88 Try.underlying70 hi hz0 hz1 hz2 (by rfl) (by omega) v As.length (As.flatMap sdC) (by rfl) (by exact hrow.alloc _) ⟨w4.heap.size, 0, none⟩ 1 1 (sdC a) (by rfl) (by rfl) (by exact fun j u hu => World.news_of_block (Whole.new w4.drew _ _) j u hu) HON.out (by simp only [maxLen]; omega) (by omega) (by omega) ?_; intro v' w1 h1 h2 h3; obtain ⟨g', cap', rfl, m1, m2, m3⟩ := add_mid H4.out h1 h2; have HD := Lib.hid (H4.out.more a HA.out HO.out _ h1 h2 h3); clear h1 h2 h3))
  all_goals go_wp2
  all_goals go_ret
  all_goals exact ⟨rfl, _, _, by have hd := HD.out.1; unfold addG; rw [if_pos rfl, ← HQ.out]; exact hd, (HK4.out.mono (fun k e => by rw [show k = l from e]; exact HH.out.sl)).trans HD.out.2.1 (fun _ _ q => q), fun k hk => (HD.out.2.2 k hk).imp id (fun q => Nat.le_trans HK4.out.size q)⟩
set_option maxRecDepth 100000 in
set_option maxHeartbeats 4000000 in
theorem add_no (h : BusAt w S b l v As g) (a : SdA) (ha : SdAt w a) (ho : SdOff S a) (hn : As.length ≤ 1000000) :
    Calls Try.prog 33 #[.pointer (some ⟨l, 0, none⟩), .agg #[.int .i64 a.s.f, .int .i64 a.s.t, a.rw.v, a.f0.v, a.f1.v], .bool false] w fun e w' => e = .returned (.int .i64 (As.length : Int)) ∧
      ∃ v' S', BusAt w' S' b l v' (As ++ [a]) (addG g a.s false) ∧ Kept S w w' ∧ ∀ k, S' k → S k ∨ w.heap.size ≤ k := by
  obtain ⟨i0, hi, hz0, hz1, hz2⟩ := info_parts i_sd
  have hll := h.log.lt
  obtain ⟨w2, hw2⟩ : ∃ w2, w2 = (w.alloc (.cells #[.int .i64 a.s.f, .int .i64 a.s.t, a.rw.v, a.f0.v, a.f1.v] 78)) := ⟨_, rfl⟩
  have hb2 : Below w.heap.size w w2 := hw2 ▸ (Below.refl _ _).alloc (Nat.le_refl _) _
  have H2 := h.later hb2
  have hB2 : Whole w2 w.heap.size 78 #[.int .i64 a.s.f, .int .i64 a.s.t, a.rw.v, a.f0.v, a.f1.v] := hw2 ▸ Whole.new _ _ _
  obtain ⟨⟨_, c2, _, _, _⟩, ⟨_, c17, c18⟩, fl⟩ := log_cells H2.log
  have b0 := hB2.cell 0
  have b1 := hB2.cell 1
  simp at b0 b1
  have HH := Lib.hid h
  have HB2 := Lib.hid hB2
  have HB := Lib.hid hb2
  obtain ⟨w4, hw4⟩ : ∃ w4, w4 = w2.setCell ⟨l, 17, none⟩ (.int .i64 a.s.t) := ⟨_, rfl⟩
  have h4l : Whole w4 l 72 (lgC g.p v a.s.t g.opens) := by
    have := H2.log.set 17 (.int .i64 a.s.t)
    rw [← hw4] at this
    exact this
  have h4b : Whole w4 w.heap.size 78 #[.int .i64 a.s.f, .int .i64 a.s.t, a.rw.v, a.f0.v, a.f1.v] := by
    rw [hw4]
    exact hB2.far (by simp; omega) _
  have h4k : Kept (fun i => i = l) w w4 := by
    rw [hw4]
    exact Kept.setCell (S := fun i => i = l) (Kept.of_below hb2 _) (p := ⟨l, 17, none⟩) (.inl rfl) _
  have hl3 := H2.log.lt
  have HW2 := Lib.hid hw2
  have HW4 := Lib.hid hw4
  have HL4 := Lib.hid h4l
  have HB4 := Lib.hid h4b
  have HK4 := Lib.hid h4k
  clear hw2 hw4 h4l h4b h4k hB2 hb2 H2 h
  unfold Sl.v at HB2 HB4 HW2
  unfold Sl.v
  go_enter Try.func33, Try.ntmps33
  go_upto_region 3 with fail
  rw [← HW2.out]
  go_upto_region 4 with fail
  rw [← HW4.out]
  clear c2 c17 c18 fl b0 b1
  have hn4 : Kept (fun i => i = l) w w4 := HK4.out
  have H4 := (HH.out.nums hn4 HL4.out)
  have hB4 := HB4.out
  obtain ⟨_, ⟨c16, c17, c18⟩, fl⟩ := log_cells HL4.out
  have b0 := hB4.cell 0
  have b1 := hB4.cell 1
  have b2 := hB4.cell 2
  have b3 := hB4.cell 3
  have b4 := hB4.cell 4
  simp at b0 b1 b2 b3 b4
  have hrow := H4.row
  have hll4 := H4.log.lt
  have hal := ha.kept hn4 (ho.mono (fun k e => by rw [show k = l from e]; exact HH.out.sl))
  have H4 := Lib.hid H4
  have HA := Lib.hid hal
  have HO := Lib.hid ho
  have HON := Lib.hid (sd_one a)
  have HLN : (sdC a).length = 1 * 5 := rfl
  have hbase : 0 ≤ w4.heap.size := Nat.zero_le _
  clear hn4 hB4 hal ha ho
  go_region_law ((refine step_append_row (by rfl) (.tmp 29) (.tmp 31) 70 (by rfl) 0 78 i0 _ 5 88 Try.underlying70 hi hz0 hz1 hz2 (by rfl) (by omega) v As.length (As.flatMap sdC) (by rfl) (by exact hrow.alloc _) ⟨w4.heap.size, 0, none⟩ 1 1 (sdC a) (by rfl) (by rfl) (by exact fun j u hu => World.news_of_block (Whole.new w4.drew _ _) j u hu) HON.out (by simp only [maxLen]; omega) (by omega) (by omega) ?_; intro v' w1 h1 h2 h3; obtain ⟨g', cap', rfl, m1, m2, m3⟩ := add_mid H4.out h1 h2; have HD := Lib.hid (H4.out.more a HA.out HO.out _ h1 h2 h3); clear h1 h2 h3))
  all_goals go_wp2
  all_goals go_ret
  all_goals exact ⟨rfl, _, _, by have hd := HD.out.1; unfold addG; rw [if_neg (by decide)]; exact hd, (HK4.out.mono (fun k e => by rw [show k = l from e]; exact HH.out.sl)).trans HD.out.2.1 (fun _ _ q => q), fun k hk => (HD.out.2.2 k hk).imp id (fun q => Nat.le_trans HK4.out.size q)⟩
end
end Go.Proofs.Ytmplidgafdobkaa
