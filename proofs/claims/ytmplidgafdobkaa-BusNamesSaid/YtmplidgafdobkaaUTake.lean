/- Take, by contracts. No condition. -/
import Derived.Test.YtmplidgafdobkaaUSends
namespace Go.Proofs.Ytmplidgafdobkaa
open Go.RowKit Go.Shelf

theorem info_hd : (Try.prog.info? 52).map (·.size) = some 4 := by kernel_rfl
def zeroH : Array Value := #[.int .i64 0, .int .i64 0, .int .i64 0, .slice none 0 0]
/-- Nothing is heard. -/
def TakeNo (w : World) (e : Ending) (w' : World) : Prop := e = .returned (.tuple #[.agg #[.int .i64 0, .int .i64 0, .int .i64 0, .slice none 0 0], .bool false]) ∧ Below w.heap.size w w'
/-- A frame is heard. -/
def TakeYes (g : Lg) (i : Nat) (n c : Int) (w : World) (e : Ending) (w' : World) : Prop :=
  ∃ r : Sl, e = .returned (.tuple #[.agg #[.int .i64 (sdG g i).f, .int .i64 c, .int .i64 ((sdG g i).t + (faS (sdG g i) n c).d), r.v], .bool true]) ∧ RSrc u8C 1 w' r (heardS (sdG g i) (faS (sdG g i) n c).cut) ∧ (∀ ad, r.A = some ad → w.heap.size ≤ ad.block) ∧ Below w.heap.size w w'
theorem faS_in {g : Lg} (hg : OkG g) {s : Sd} (hs : s ∈ g.L) (n c : Int) : 0 ≤ (faS s n c).d ∧ (faS s n c).d ≤ 1048576 := by
  have hp := planU_of hg.plan
  have h1 := hp.d1
  have h3 := hp.d3
  unfold faS
  split
  · rename_i hi
    unfold inS at hi
    simp at hi
    have hl : n.toNat < (s.ch c).length := by omega
    rw [List.getD_eq_getElem?_getD, List.getElem?_eq_getElem hl]
    have := hg.fates s hs c _ (List.getElem_mem hl)
    exact ⟨by show 0 ≤ ((s.ch c)[n.toNat]).d; omega, by show ((s.ch c)[n.toNat]).d ≤ _; omega⟩
  · exact ⟨Int.le_refl _, by decide⟩

theorem below_undrew {w W : World} (h : Below w.drew.heap.size w.drew W) : Below w.heap.size w W := ⟨h.os, h.tape, h.output, h.size, h.block⟩
section
variable {w : World} {S : Nat → Prop} {b l : Nat} {v : Value} {As : List SdA} {g : Lg}
set_option maxRecDepth 100000 in
set_option maxHeartbeats 4000000 in
theorem take_none (h : BusAt w S b l v As g) (id n c : Int) (hid : idB g id = false) : Calls Try.prog 19 #[.pointer (some ⟨b, 0, none⟩), .int .i64 id, .int .i64 n, .int .i64 c] w (TakeNo w) := by
  have hlen : As.length = g.L.length := by rw [← h.sds, List.length_map]
  obtain ⟨A, cap, hv⟩ : ∃ A cap, v = .slice A As.length cap := by
    rcases h.row.2 with ⟨e, h0⟩ | ⟨gb, cap, cur, e, _⟩
    · exact ⟨none, 0, by rw [e, h0]⟩
    · exact ⟨_, _, e⟩
  subst hv
  have hb : Below w.heap.size w (w.alloc (.cells #[.int .i64 0, .int .i64 0, .int .i64 0, .slice none 0 0] 52)) := (Below.refl _ _).alloc (Nat.le_refl _) _
  have hW : Whole (w.alloc (.cells #[.int .i64 0, .int .i64 0, .int .i64 0, .slice none 0 0] 52)) w.heap.size 52 #[.int .i64 0, .int .i64 0, .int .i64 0, .slice none 0 0] := Whole.new _ _ _
  have h1 := h.later hb
  have cb := h1.bus.cell 0
  have hh := has_b b l A As.length cap id (by simpa using cb) (log_cells h1.log).2.1.1
  rw [hlen, show (decide (0 ≤ id) && decide (id < (g.L.length : Int))) = false from hid] at hh
  have HB := Lib.hid (And.intro hb hW)
  have HC := Lib.hid hh
  clear hb hW h1 cb hh h hlen
  go_enter Try.func19, Try.ntmps19
  go_wp2_with (go_at_call 35; refine HC.out.mono ?_; rintro e wq ⟨rfl, hq⟩; obtain rfl := hq)
  exact bodyPost_ret (u_results1 rfl _ _ w.heap.size 52 _ (0, 0) _ rfl rfl HB.out.2 Try.underlying52 rfl info_hd) rfl ⟨rfl, HB.out.1⟩

set_option maxRecDepth 100000 in
set_option maxHeartbeats 4000000 in
theorem take_lost (h : BusAt w S b l v As g) (hg : OkG g) (i : Nat) (hi : i < As.length) (n c : Int) (hid : idB g (i : Int) = true) (hth : thereS (sdG g (i : Int)) n c = false) : Calls Try.prog 19 #[.pointer (some ⟨b, 0, none⟩), .int .i64 (i : Int), .int .i64 n, .int .i64 c] w (TakeNo w) := by
  have hlen : As.length = g.L.length := by rw [← h.sds, List.length_map]
  have hsx : (As.getD i default).s = sdG g (i : Int) := by unfold sdG; rw [Int.toNat_natCast]; exact (sd_get h i hi).2.1
  have hmem := (sd_get h i hi).2.2
  have hfb := faS_in hg hmem n c
  have hup := hg.up _ hmem
  have hla := hg.last
  have hraw := hg.raws _ hmem
  obtain ⟨a, ha⟩ : ∃ a, a = As.getD i default := ⟨_, rfl⟩
  rw [← ha] at hsx hmem hfb hup hraw
  rw [← hsx] at hth
  obtain ⟨gb, cap, rfl, hnc, hcm, _, hgb⟩ := sd_cells h i hi
  have hb : Below w.heap.size w (w.alloc (.cells #[.int .i64 0, .int .i64 0, .int .i64 0, .slice none 0 0] 52)) := (Below.refl _ _).alloc (Nat.le_refl _) _
  have hW : Whole (w.alloc (.cells #[.int .i64 0, .int .i64 0, .int .i64 0, .slice none 0 0] 52)) w.heap.size 52 #[.int .i64 0, .int .i64 0, .int .i64 0, .slice none 0 0] := Whole.new _ _ _
  have HCL := Lib.hid (fun W (hW : BusAt W S b l (.slice (some ⟨gb, 0, none⟩) As.length cap) As g) => (show (W.cell? ⟨gb, i * 5, none⟩ = some (.int .i64 a.s.f) ∧ W.cell? ⟨gb, i * 5 + 1, none⟩ = some (.int .i64 a.s.t) ∧ W.cell? ⟨gb, i * 5 + 2, none⟩ = some a.rw.v ∧ W.cell? ⟨gb, i * 5 + 3, none⟩ = some a.f0.v ∧ W.cell? ⟨gb, i * 5 + 4, none⟩ = some a.f1.v) ∧ SdAt W a from by
    obtain ⟨gb', cap', e, _, _, z, _⟩ := sd_cells hW i hi
    cases e
    rw [ha]
    exact ⟨z, (sd_get hW i hi).1⟩))
  have h1 := h.later hb
  have cb := h1.bus.cell 0
  have hh := has_b b l (some ⟨gb, 0, none⟩) As.length cap (i : Int) (by simpa using cb) (log_cells h1.log).2.1.1
  rw [hlen, show (decide (0 ≤ (i : Int)) && decide ((i : Int) < (g.L.length : Int))) = true from hid] at hh
  have hfa := fate_any (gb := gb) (o := i * 5) (HCL.out _ h1).1.2.2.2.1 (HCL.out _ h1).1.2.2.2.2 (HCL.out _ h1).2 n c
  unfold FateD at hfa
  obtain ⟨⟨fd, fl, fc⟩, hfx⟩ : ∃ f, f = faS a.s n c := ⟨_, rfl⟩
  obtain ⟨t0, ht0⟩ : ∃ t, t = a.s.t := ⟨_, rfl⟩
  rw [← hfx, show thereS a.s n c = false from hth] at hfa
  dsimp only at hfa
  rw [← hfx] at hfb
  rw [← ht0] at hup
  dsimp only at hfb
  obtain ⟨d1, d2⟩ := hfb
  have t1 : 0 ≤ t0 := hup.1
  have t2 : t0 ≤ 4294967296 := by omega
  have c16 := (log_cells h1.log).2.1.1
  simp at cb
  have e1 : (0 : Int) ≤ (i : Int) := by omega
  have e2 : (i : Int) < (As.length : Int) := by omega
  have HB := Lib.hid (And.intro hb hW)
  have HC := Lib.hid hh
  have HF := Lib.hid hfa
  have HG := Lib.hid hg
  have HH := Lib.hid h
  have HT := Lib.hid (And.intro hfx ht0)
  have hbl := h1.bus.lt
  have hll := h1.log.lt
  have hgl : gb < (w.alloc (.cells #[.int .i64 0, .int .i64 0, .int .i64 0, .slice none 0 0] 52)).heap.size := by simp; omega
  obtain ⟨w0, hw0⟩ : ∃ w0, w0 = w.alloc (.cells #[.int .i64 0, .int .i64 0, .int .i64 0, .slice none 0 0] 52) := ⟨_, rfl⟩
  rw [← hw0] at HB HC HF cb c16 hbl hll hgl
  have HW0 := Lib.hid hw0
  clear hb hW h1 hh hfa h hlen hsx hmem hup hla ha hg hfx hid ht0 hw0 hgb
  go_enter Try.func19, Try.ntmps19
  go_upto_region 1 with fail
  rw [← HW0.out]
  go_upto_region 4 with (go_at_call 35; refine HC.out.mono ?_; rintro e wq ⟨rfl, hq⟩; obtain rfl := hq.symm)
  clear cb c16
  go_upto_region 5 with (go_at_call 37; refine HF.out.mono ?_; rintro e w1 ⟨rfl, hb1⟩; have HB1 := Lib.hid hb1; clear hb1)
  obtain ⟨w2, hw2⟩ : ∃ w2, w2 = w1.alloc (.cells #[.int .i64 fd, .bool fl, .bool fc] 47) := ⟨_, rfl⟩
  rw [← hw2]
  have hb2 : Below w0.heap.size w0 w2 := by rw [hw2]; exact HB1.out.alloc HB1.out.size _
  have F2 : Whole w2 w1.heap.size 47 #[.int .i64 fd, .bool fl, .bool fc] := by rw [hw2]; exact Whole.new _ _ _
  have h2 := HH.out.later (k_then hb2 HB.out.1)
  have y1 := (HCL.out _ h2).1.2.1
  rw [← HT.out.2] at y1
  have k0 := F2.cell 0
  simp at k0
  have cb2 := h2.bus.cell 0
  simp at cb2
  obtain ⟨F, hF⟩ : ∃ F, F = w1.heap.size := ⟨_, rfl⟩
  rw [← hF] at k0 F2 ⊢
  have HB2 := Lib.hid (And.intro hb2 F2)
  have H2 := Lib.hid h2
  have hb1s := HB1.out.size
  have hF0 : w0.heap.size ≤ F := by omega
  clear hw2 hb2 F2 h2 HB1 HF HC hF hb1s
  go_wp2_with fail
  go_quiet (fail)
  have HB9 := Lib.hid (show Below w0.heap.size w0 (w2.drewN nq) from below_drewN HB2.out.1 nq)
  have w8 := (k_later HB9.out HB.out.2)
  have x0 := w8.cell 0
  have x1 := w8.cell 1
  have x2 := w8.cell 2
  have x3 := w8.cell 3
  have xf := w8.frozen
  simp at x0 x1 x2 x3
  have w8s : Whole (((((w2.drewN nq).setCell ⟨w.heap.size, 0, none⟩ (.int .i64 0)).setCell ⟨w.heap.size, 1, none⟩ (.int .i64 0)).setCell ⟨w.heap.size, 2, none⟩ (.int .i64 0)).setCell ⟨w.heap.size, 3, none⟩ (.slice none 0 0)) w.heap.size 52 #[.int .i64 0, .int .i64 0, .int .i64 0, .slice none 0 0] := ((((w8.set 0 (.int .i64 0)).set 1 (.int .i64 0)).set 2 (.int .i64 0)).set 3 (.slice none 0 0))
  have hb9 : Below w.heap.size w (((((w2.drewN nq).setCell ⟨w.heap.size, 0, none⟩ (.int .i64 0)).setCell ⟨w.heap.size, 1, none⟩ (.int .i64 0)).setCell ⟨w.heap.size, 2, none⟩ (.int .i64 0)).setCell ⟨w.heap.size, 3, none⟩ (.slice none 0 0)) := ((((k_then HB9.out HB.out.1).setCell (p := ⟨w.heap.size, 0, none⟩) (Nat.le_refl _) _).setCell (p := ⟨w.heap.size, 1, none⟩) (Nat.le_refl _) _).setCell (p := ⟨w.heap.size, 2, none⟩) (Nat.le_refl _) _).setCell (p := ⟨w.heap.size, 3, none⟩) (Nat.le_refl _) _
  have HR := Lib.hid (And.intro w8s hb9)
  clear w8 w8s hb9
  go_wp2
  exact bodyPost_ret (u_results1 rfl _ _ w.heap.size 52 _ (0, 0) _ rfl rfl HR.out.1 Try.underlying52 rfl info_hd) rfl ⟨rfl, HR.out.2⟩

set_option maxRecDepth 100000 in
set_option maxHeartbeats 4000000 in
theorem take_deaf (h : BusAt w S b l v As g) (hg : OkG g) (hn : As.length ≤ 1000000) (i : Nat) (hi : i < As.length) (n c : Int) (hid : idB g (i : Int) = true) (hth : thereS (sdG g (i : Int)) n c = true) (hse : sendsG g n ((sdG g (i : Int)).t + (faS (sdG g (i : Int)) n c).d) = true) : Calls Try.prog 19 #[.pointer (some ⟨b, 0, none⟩), .int .i64 (i : Int), .int .i64 n, .int .i64 c] w (TakeNo w) := by
  have hlen : As.length = g.L.length := by rw [← h.sds, List.length_map]
  have hsx : (As.getD i default).s = sdG g (i : Int) := by unfold sdG; rw [Int.toNat_natCast]; exact (sd_get h i hi).2.1
  have hmem := (sd_get h i hi).2.2
  have hfb := faS_in hg hmem n c
  have hup := hg.up _ hmem
  have hla := hg.last
  have hraw := hg.raws _ hmem
  obtain ⟨a, ha⟩ : ∃ a, a = As.getD i default := ⟨_, rfl⟩
  rw [← ha] at hsx hmem hfb hup hraw
  rw [← hsx] at hth hse
  obtain ⟨gb, cap, rfl, hnc, hcm, _, hgb⟩ := sd_cells h i hi
  have hb : Below w.heap.size w (w.alloc (.cells #[.int .i64 0, .int .i64 0, .int .i64 0, .slice none 0 0] 52)) := (Below.refl _ _).alloc (Nat.le_refl _) _
  have hW : Whole (w.alloc (.cells #[.int .i64 0, .int .i64 0, .int .i64 0, .slice none 0 0] 52)) w.heap.size 52 #[.int .i64 0, .int .i64 0, .int .i64 0, .slice none 0 0] := Whole.new _ _ _
  have HCL := Lib.hid (fun W (hW : BusAt W S b l (.slice (some ⟨gb, 0, none⟩) As.length cap) As g) => (show (W.cell? ⟨gb, i * 5, none⟩ = some (.int .i64 a.s.f) ∧ W.cell? ⟨gb, i * 5 + 1, none⟩ = some (.int .i64 a.s.t) ∧ W.cell? ⟨gb, i * 5 + 2, none⟩ = some a.rw.v ∧ W.cell? ⟨gb, i * 5 + 3, none⟩ = some a.f0.v ∧ W.cell? ⟨gb, i * 5 + 4, none⟩ = some a.f1.v) ∧ SdAt W a from by
    obtain ⟨gb', cap', e, _, _, z, _⟩ := sd_cells hW i hi
    cases e
    rw [ha]
    exact ⟨z, (sd_get hW i hi).1⟩))
  have h1 := h.later hb
  have cb := h1.bus.cell 0
  have hh := has_b b l (some ⟨gb, 0, none⟩) As.length cap (i : Int) (by simpa using cb) (log_cells h1.log).2.1.1
  rw [hlen, show (decide (0 ≤ (i : Int)) && decide ((i : Int) < (g.L.length : Int))) = true from hid] at hh
  have hfa := fate_any (gb := gb) (o := i * 5) (HCL.out _ h1).1.2.2.2.1 (HCL.out _ h1).1.2.2.2.2 (HCL.out _ h1).2 n c
  unfold FateD at hfa
  obtain ⟨⟨fd, fl, fc⟩, hfx⟩ : ∃ f, f = faS a.s n c := ⟨_, rfl⟩
  obtain ⟨t0, ht0⟩ : ∃ t, t = a.s.t := ⟨_, rfl⟩
  rw [← hfx, show thereS a.s n c = true from hth] at hfa
  dsimp only at hfa
  rw [← hfx] at hfb
  rw [← ht0] at hup
  dsimp only at hfb
  have hse2 := fun W (hW : BusAt W S b l (.slice (some ⟨gb, 0, none⟩) As.length cap) As g) => sends_any hW hg hn n (t0 + fd) (by have := hup.1; have := hfb.1; omega) (by have := hup.2; have := hfb.2; omega)
  rw [show sendsG g n (t0 + fd) = true from by rw [ht0, show fd = (faS a.s n c).d by rw [← hfx]]; exact hse] at hse2
  have HSE := Lib.hid hse2
  clear hse2
  obtain ⟨d1, d2⟩ := hfb
  have t1 : 0 ≤ t0 := hup.1
  have t2 : t0 ≤ 4294967296 := by omega
  have c16 := (log_cells h1.log).2.1.1
  simp at cb
  have e1 : (0 : Int) ≤ (i : Int) := by omega
  have e2 : (i : Int) < (As.length : Int) := by omega
  have HB := Lib.hid (And.intro hb hW)
  have HC := Lib.hid hh
  have HF := Lib.hid hfa
  have HG := Lib.hid hg
  have HH := Lib.hid h
  have HT := Lib.hid (And.intro hfx ht0)
  have hbl := h1.bus.lt
  have hll := h1.log.lt
  have hgl : gb < (w.alloc (.cells #[.int .i64 0, .int .i64 0, .int .i64 0, .slice none 0 0] 52)).heap.size := by simp; omega
  obtain ⟨w0, hw0⟩ : ∃ w0, w0 = w.alloc (.cells #[.int .i64 0, .int .i64 0, .int .i64 0, .slice none 0 0] 52) := ⟨_, rfl⟩
  rw [← hw0] at HB HC HF cb c16 hbl hll hgl
  have HW0 := Lib.hid hw0
  clear hb hW h1 hh hfa h hlen hsx hmem hup hla ha hg hfx hid ht0 hw0 hgb
  go_enter Try.func19, Try.ntmps19
  go_upto_region 1 with fail
  rw [← HW0.out]
  go_upto_region 4 with (go_at_call 35; refine HC.out.mono ?_; rintro e wq ⟨rfl, hq⟩; obtain rfl := hq.symm)
  clear cb c16
  go_upto_region 5 with (go_at_call 37; refine HF.out.mono ?_; rintro e w1 ⟨rfl, hb1⟩; have HB1 := Lib.hid hb1; clear hb1)
  obtain ⟨w2, hw2⟩ : ∃ w2, w2 = w1.alloc (.cells #[.int .i64 fd, .bool fl, .bool fc] 47) := ⟨_, rfl⟩
  rw [← hw2]
  have hb2 : Below w0.heap.size w0 w2 := by rw [hw2]; exact HB1.out.alloc HB1.out.size _
  have F2 : Whole w2 w1.heap.size 47 #[.int .i64 fd, .bool fl, .bool fc] := by rw [hw2]; exact Whole.new _ _ _
  have h2 := HH.out.later (k_then hb2 HB.out.1)
  have y1 := (HCL.out _ h2).1.2.1
  rw [← HT.out.2] at y1
  have k0 := F2.cell 0
  simp at k0
  have cb2 := h2.bus.cell 0
  simp at cb2
  obtain ⟨F, hF⟩ : ∃ F, F = w1.heap.size := ⟨_, rfl⟩
  rw [← hF] at k0 F2 ⊢
  have HB2 := Lib.hid (And.intro hb2 F2)
  have H2 := Lib.hid h2
  have hb1s := HB1.out.size
  have hF0 : w0.heap.size ≤ F := by omega
  clear hw2 hb2 F2 h2 HB1 HF HC hF hb1s
  go_wp2_with fail
  go_quiet (fail)
  go_upto_region 7 with (go_at_call 38; refine (HSE.out _ (HH.out.later (k_then (show Below w0.heap.size w0 (w2.drewN nq) from below_drewN HB2.out.1 nq) HB.out.1))).mono ?_; rintro e w3 ⟨rfl, hb3⟩; have HB3 := Lib.hid (k_then hb3 (show Below w0.heap.size w0 (w2.drewN nq) from below_drewN HB2.out.1 nq)); have HF3 := Lib.hid (k_later hb3 (show Whole (w2.drewN nq) F 47 #[.int .i64 fd, .bool fl, .bool fc] from HB2.out.2)); clear hb3)
  clear y1 k0 cb2
  have HB9 := Lib.hid HB3.out
  have w8 := (k_later HB9.out HB.out.2)
  have x0 := w8.cell 0
  have x1 := w8.cell 1
  have x2 := w8.cell 2
  have x3 := w8.cell 3
  have xf := w8.frozen
  simp at x0 x1 x2 x3
  have w8s : Whole ((((w3.setCell ⟨w.heap.size, 0, none⟩ (.int .i64 0)).setCell ⟨w.heap.size, 1, none⟩ (.int .i64 0)).setCell ⟨w.heap.size, 2, none⟩ (.int .i64 0)).setCell ⟨w.heap.size, 3, none⟩ (.slice none 0 0)) w.heap.size 52 #[.int .i64 0, .int .i64 0, .int .i64 0, .slice none 0 0] := ((((w8.set 0 (.int .i64 0)).set 1 (.int .i64 0)).set 2 (.int .i64 0)).set 3 (.slice none 0 0))
  have hb9 : Below w.heap.size w ((((w3.setCell ⟨w.heap.size, 0, none⟩ (.int .i64 0)).setCell ⟨w.heap.size, 1, none⟩ (.int .i64 0)).setCell ⟨w.heap.size, 2, none⟩ (.int .i64 0)).setCell ⟨w.heap.size, 3, none⟩ (.slice none 0 0)) := ((((k_then HB9.out HB.out.1).setCell (p := ⟨w.heap.size, 0, none⟩) (Nat.le_refl _) _).setCell (p := ⟨w.heap.size, 1, none⟩) (Nat.le_refl _) _).setCell (p := ⟨w.heap.size, 2, none⟩) (Nat.le_refl _) _).setCell (p := ⟨w.heap.size, 3, none⟩) (Nat.le_refl _) _
  have HR := Lib.hid (And.intro w8s hb9)
  clear w8 w8s hb9
  go_wp2
  exact bodyPost_ret (u_results1 rfl _ _ w.heap.size 52 _ (0, 0) _ rfl rfl HR.out.1 Try.underlying52 rfl info_hd) rfl ⟨rfl, HR.out.2⟩

set_option maxRecDepth 100000 in
set_option maxHeartbeats 4000000 in
theorem take_yes (h : BusAt w S b l v As g) (hg : OkG g) (hn : As.length ≤ 1000000) (i : Nat) (hi : i < As.length) (n c : Int) (hid : idB g (i : Int) = true) (hth : thereS (sdG g (i : Int)) n c = true) (hse : sendsG g n ((sdG g (i : Int)).t + (faS (sdG g (i : Int)) n c).d) = false) : Calls Try.prog 19 #[.pointer (some ⟨b, 0, none⟩), .int .i64 (i : Int), .int .i64 n, .int .i64 c] w (TakeYes g i n c w) := by
  have hlen : As.length = g.L.length := by rw [← h.sds, List.length_map]
  have hsx : (As.getD i default).s = sdG g (i : Int) := by unfold sdG; rw [Int.toNat_natCast]; exact (sd_get h i hi).2.1
  have hmem := (sd_get h i hi).2.2
  have hfb := faS_in hg hmem n c
  have hup := hg.up _ hmem
  have hla := hg.last
  have hraw := hg.raws _ hmem
  obtain ⟨a, ha⟩ : ∃ a, a = As.getD i default := ⟨_, rfl⟩
  rw [← ha] at hsx hmem hfb hup hraw
  rw [← hsx] at hth hse; have HSX := Lib.hid hsx
  obtain ⟨gb, cap, rfl, hnc, hcm, _, hgb⟩ := sd_cells h i hi
  have hb : Below w.heap.size w (w.alloc (.cells #[.int .i64 0, .int .i64 0, .int .i64 0, .slice none 0 0] 52)) := (Below.refl _ _).alloc (Nat.le_refl _) _
  have hW : Whole (w.alloc (.cells #[.int .i64 0, .int .i64 0, .int .i64 0, .slice none 0 0] 52)) w.heap.size 52 #[.int .i64 0, .int .i64 0, .int .i64 0, .slice none 0 0] := Whole.new _ _ _
  have HCL := Lib.hid (fun W (hW : BusAt W S b l (.slice (some ⟨gb, 0, none⟩) As.length cap) As g) => (show (W.cell? ⟨gb, i * 5, none⟩ = some (.int .i64 a.s.f) ∧ W.cell? ⟨gb, i * 5 + 1, none⟩ = some (.int .i64 a.s.t) ∧ W.cell? ⟨gb, i * 5 + 2, none⟩ = some a.rw.v ∧ W.cell? ⟨gb, i * 5 + 3, none⟩ = some a.f0.v ∧ W.cell? ⟨gb, i * 5 + 4, none⟩ = some a.f1.v) ∧ SdAt W a from by
    obtain ⟨gb', cap', e, _, _, z, _⟩ := sd_cells hW i hi
    cases e
    rw [ha]
    exact ⟨z, (sd_get hW i hi).1⟩))
  have h1 := h.later hb
  have cb := h1.bus.cell 0
  have hh := has_b b l (some ⟨gb, 0, none⟩) As.length cap (i : Int) (by simpa using cb) (log_cells h1.log).2.1.1
  rw [hlen, show (decide (0 ≤ (i : Int)) && decide ((i : Int) < (g.L.length : Int))) = true from hid] at hh
  have hfa := fate_any (gb := gb) (o := i * 5) (HCL.out _ h1).1.2.2.2.1 (HCL.out _ h1).1.2.2.2.2 (HCL.out _ h1).2 n c
  unfold FateD at hfa
  obtain ⟨⟨fd, fl, fc⟩, hfx⟩ : ∃ f, f = faS a.s n c := ⟨_, rfl⟩
  obtain ⟨t0, ht0⟩ : ∃ t, t = a.s.t := ⟨_, rfl⟩
  rw [← hfx, show thereS a.s n c = true from hth] at hfa
  dsimp only at hfa
  rw [← hfx] at hfb
  rw [← ht0] at hup
  dsimp only at hfb
  have hse2 := fun W (hW : BusAt W S b l (.slice (some ⟨gb, 0, none⟩) As.length cap) As g) => sends_any hW hg hn n (t0 + fd) (by have := hup.1; have := hfb.1; omega) (by have := hup.2; have := hfb.2; omega)
  rw [show sendsG g n (t0 + fd) = false from by rw [ht0, show fd = (faS a.s n c).d by rw [← hfx]]; exact hse] at hse2
  have HSE := Lib.hid hse2
  clear hse2
  obtain ⟨d1, d2⟩ := hfb
  have t1 : 0 ≤ t0 := hup.1
  have t2 : t0 ≤ 4294967296 := by omega
  have c16 := (log_cells h1.log).2.1.1
  simp at cb
  have e1 : (0 : Int) ≤ (i : Int) := by omega
  have e2 : (i : Int) < (As.length : Int) := by omega
  have HB := Lib.hid (And.intro hb hW)
  have HC := Lib.hid hh
  have HF := Lib.hid hfa
  have HG := Lib.hid hg
  have HH := Lib.hid h
  have HT := Lib.hid (And.intro hfx ht0)
  have hbl := h1.bus.lt
  have hll := h1.log.lt
  have hgl : gb < (w.alloc (.cells #[.int .i64 0, .int .i64 0, .int .i64 0, .slice none 0 0] 52)).heap.size := by simp; omega
  obtain ⟨w0, hw0⟩ : ∃ w0, w0 = w.alloc (.cells #[.int .i64 0, .int .i64 0, .int .i64 0, .slice none 0 0] 52) := ⟨_, rfl⟩
  rw [← hw0] at HB HC HF cb c16 hbl hll hgl
  have HW0 := Lib.hid hw0
  clear hb hW h1 hh hfa h hlen hsx hmem hup hla ha hg hfx hid ht0 hw0 hgb
  go_enter Try.func19, Try.ntmps19
  go_upto_region 1 with fail
  rw [← HW0.out]
  go_upto_region 4 with (go_at_call 35; refine HC.out.mono ?_; rintro e wq ⟨rfl, hq⟩; obtain rfl := hq.symm)
  clear cb c16
  go_upto_region 5 with (go_at_call 37; refine HF.out.mono ?_; rintro e w1 ⟨rfl, hb1⟩; have HB1 := Lib.hid hb1; clear hb1)
  obtain ⟨w2, hw2⟩ : ∃ w2, w2 = w1.alloc (.cells #[.int .i64 fd, .bool fl, .bool fc] 47) := ⟨_, rfl⟩
  rw [← hw2]
  have hb2 : Below w0.heap.size w0 w2 := by rw [hw2]; exact HB1.out.alloc HB1.out.size _
  have F2 : Whole w2 w1.heap.size 47 #[.int .i64 fd, .bool fl, .bool fc] := by rw [hw2]; exact Whole.new _ _ _
  have h2 := HH.out.later (k_then hb2 HB.out.1)
  have y1 := (HCL.out _ h2).1.2.1
  rw [← HT.out.2] at y1
  have k0 := F2.cell 0
  simp at k0
  have cb2 := h2.bus.cell 0
  simp at cb2
  obtain ⟨F, hF⟩ : ∃ F, F = w1.heap.size := ⟨_, rfl⟩
  rw [← hF] at k0 F2 ⊢
  have HB2 := Lib.hid (And.intro hb2 F2)
  have H2 := Lib.hid h2
  have hb1s := HB1.out.size
  have hF0 : w0.heap.size ≤ F := by omega
  clear hw2 hb2 F2 h2 HB1 HF HC hF hb1s
  go_wp2_with fail
  go_quiet (fail)
  go_upto_region 8 with (go_at_call 38; refine (HSE.out _ (HH.out.later (k_then (show Below w0.heap.size w0 (w2.drewN nq) from below_drewN HB2.out.1 nq) HB.out.1))).mono ?_; rintro e w3 ⟨rfl, hb3⟩; have HB3 := Lib.hid (k_then hb3 (show Below w0.heap.size w0 (w2.drewN nq) from below_drewN HB2.out.1 nq)); have HF3 := Lib.hid (k_later hb3 (show Whole (w2.drewN nq) F 47 #[.int .i64 fd, .bool fl, .bool fc] from HB2.out.2)); clear hb3)
  clear y1 k0 cb2
  have h3 := HH.out.later (k_then HB3.out HB.out.1)
  have hcl := HCL.out _ h3
  have hlraw := hcl.2.raw.len
  have hz3 := (k_then HB3.out HB.out.1).size
  have hz03 := HB3.out.size
  have hhd : ∀ W, Below w3.heap.size w3 W → Calls Try.prog 39 #[.pointer (some ⟨gb, i * 5, none⟩), .agg #[.int .i64 fd, .bool fl, .bool fc]] W fun e W' => ∃ A m d, e = .returned (.slice A m d) ∧ RSrc u8C 1 W' ⟨A, m, d⟩ (heardS a.s fc) ∧ (∀ ad, A = some ad → W.heap.size ≤ ad.block) ∧ Below W.heap.size W W' := fun W hW => by
    have hc := HCL.out _ (h3.later hW)
    have hl := hc.2.raw.len
    exact (heard_any (gb := gb) (o := i * 5) (w := W) hc.1.2.2.1 hc.2 (by omega) fd fl fc).mono fun e W' ⟨r, h1, h2, h3, h4⟩ => ⟨r.A, r.n, r.c, h1, h2, h3, h4⟩
  have q0 := hcl.1.1
  obtain ⟨f0, hf0⟩ : ∃ f0, f0 = a.s.f := ⟨_, rfl⟩
  rw [← hf0] at q0
  have k0 := HF3.out.cell 0
  have k1 := HF3.out.cell 1
  have k2 := HF3.out.cell 2
  simp at k0 k1 k2
  have HHD := Lib.hid hhd
  have HFF := Lib.hid hf0
  have HH3 := Lib.hid h3
  have K0 := Lib.hid (show (fun W : World => W.cell? ⟨gb, i * 5, none⟩ = some (.int .i64 f0) ∧ W.cell? ⟨F, 0, none⟩ = some (.int .i64 fd) ∧ W.cell? ⟨F, 1, none⟩ = some (.bool fl) ∧ W.cell? ⟨F, 2, none⟩ = some (.bool fc)) w3.drew from ⟨q0, k0, k1, k2⟩)
  have x8 := (k_later HB3.out HB.out.2)
  have KX := Lib.hid (fun (W : World) (hW : Below w3.heap.size w3 W) => (show (W.cell? ⟨w.heap.size, 0, none⟩ = some (.int .i64 0) ∧ W.cell? ⟨w.heap.size, 1, none⟩ = some (.int .i64 0) ∧ W.cell? ⟨w.heap.size, 2, none⟩ = some (.int .i64 0) ∧ W.cell? ⟨w.heap.size, 3, none⟩ = some (.slice none 0 0)) ∧ ∀ j, W.frozen? ⟨w.heap.size, j, none⟩ = false from by
    have q := k_later hW x8
    exact ⟨⟨q.cell 0, q.cell 1, q.cell 2, q.cell 3⟩, q.frozen⟩))
  have HX8 := Lib.hid x8
  have hw0s : w0.heap.size = w.heap.size + 1 := by rw [HW0.out]; simp
  have hFw : F ≠ w.heap.size := by omega
  have hgw : gb ≠ w.heap.size := by have := hgl; have := World.block_lt_of_cell? _ _ (HCL.out _ HH.out).1.1; simp only at this; omega
  have KS := Lib.hid (fun (W : World) (u0 u1 u2 u3 : Value) (h : (fun W : World => W.cell? ⟨gb, i * 5, none⟩ = some (.int .i64 f0) ∧ W.cell? ⟨F, 0, none⟩ = some (.int .i64 fd) ∧ W.cell? ⟨F, 1, none⟩ = some (.bool fl) ∧ W.cell? ⟨F, 2, none⟩ = some (.bool fc)) W) => (show (fun W : World => W.cell? ⟨gb, i * 5, none⟩ = some (.int .i64 f0) ∧ W.cell? ⟨F, 0, none⟩ = some (.int .i64 fd) ∧ W.cell? ⟨F, 1, none⟩ = some (.bool fl) ∧ W.cell? ⟨F, 2, none⟩ = some (.bool fc)) ((((W.setCell ⟨w.heap.size, 0, none⟩ u0).setCell ⟨w.heap.size, 1, none⟩ u1).setCell ⟨w.heap.size, 2, none⟩ u2).setCell ⟨w.heap.size, 3, none⟩ u3) from by
    have q : Kept (fun i => i = w.heap.size) W ((((W.setCell ⟨w.heap.size, 0, none⟩ u0).setCell ⟨w.heap.size, 1, none⟩ u1).setCell ⟨w.heap.size, 2, none⟩ u2).setCell ⟨w.heap.size, 3, none⟩ u3) := Kept.setCell (S := fun i => i = w.heap.size) (Kept.setCell (S := fun i => i = w.heap.size) (Kept.setCell (S := fun i => i = w.heap.size) (Kept.setCell (S := fun i => i = w.heap.size) (Kept.refl _ W) (p := ⟨w.heap.size, 0, none⟩) (.inl rfl) _) (p := ⟨w.heap.size, 1, none⟩) (.inl rfl) _) (p := ⟨w.heap.size, 2, none⟩) (.inl rfl) _) (p := ⟨w.heap.size, 3, none⟩) (.inl rfl) _
    exact ⟨q.cell h.1 hgw, q.cell h.2.1 hFw, q.cell h.2.2.1 hFw, q.cell h.2.2.2 hFw⟩))
  clear hw0s
  clear h3 hcl hlraw hhd hf0 x8
  go_region_held3 (fun W => W.cell? ⟨gb, i * 5, none⟩ = some (.int .i64 f0) ∧ W.cell? ⟨F, 0, none⟩ = some (.int .i64 fd) ∧ W.cell? ⟨F, 1, none⟩ = some (.bool fl) ∧ W.cell? ⟨F, 2, none⟩ = some (.bool fc)) (first | with_reducible exact K5.out | with_reducible exact K0.out | exact KS.out _ _ _ _ _ K5.out | exact K0.out) (first
    | (go_at_call 39; refine (HHD.out w3.drew (Below.refl _ w3).drew).mono ?_; rintro e w5 ⟨rA, rm, rd, rfl, r1, r2, r3⟩; have r3 := below_undrew r3; have K5 := Lib.hid (show (fun W : World => W.cell? ⟨gb, i * 5, none⟩ = some (.int .i64 f0) ∧ W.cell? ⟨F, 0, none⟩ = some (.int .i64 fd) ∧ W.cell? ⟨F, 1, none⟩ = some (.bool fl) ∧ W.cell? ⟨F, 2, none⟩ = some (.bool fc)) w5 from ⟨k_cell r3 q0, k_cell r3 k0, k_cell r3 k1, k_cell r3 k2⟩); obtain ⟨⟨n0, n1, n2, n3⟩, nf⟩ := KX.out w5 r3; have HR5 := Lib.hid (And.intro r1 (And.intro r2 r3)); clear r1 r2 r3))
  obtain ⟨w6, hw6⟩ : ∃ w6, w6 = ((((w5.setCell ⟨w.heap.size, 0, none⟩ (.int .i64 f0)).setCell ⟨w.heap.size, 1, none⟩ (.int .i64 c)).setCell ⟨w.heap.size, 2, none⟩ (.int .i64 (t0 + fd))).setCell ⟨w.heap.size, 3, none⟩ (.slice rA rm rd)) := ⟨_, rfl⟩
  rw [← hw6]
  have hz5 := HR5.out.2.2.size
  have p6 : Whole w6 w.heap.size 52 #[.int .i64 f0, .int .i64 c, .int .i64 (t0 + fd), .slice rA rm rd] := by
    rw [hw6]
    exact ((((k_later HR5.out.2.2 HX8.out).set 0 (.int .i64 f0)).set 1 (.int .i64 c)).set 2 (.int .i64 (t0 + fd))).set 3 (.slice rA rm rd)
  have q6 : Kept (fun i => i = w.heap.size) w5 w6 := by
    rw [hw6]
    exact Kept.setCell (S := fun i => i = w.heap.size) (Kept.setCell (S := fun i => i = w.heap.size) (Kept.setCell (S := fun i => i = w.heap.size) (Kept.setCell (S := fun i => i = w.heap.size) (Kept.refl _ w5) (p := ⟨w.heap.size, 0, none⟩) (.inl rfl) _) (p := ⟨w.heap.size, 1, none⟩) (.inl rfl) _) (p := ⟨w.heap.size, 2, none⟩) (.inl rfl) _) (p := ⟨w.heap.size, 3, none⟩) (.inl rfl) _
  have hb5 : Below w.heap.size w w5 := k_then HR5.out.2.2 (k_then HB3.out HB.out.1)
  have b6 : Below w.heap.size w w6 := below_on hb5 q6 (fun i e => by have e : i = w.heap.size := e; omega) hb5.size
  have hw0s : w0.heap.size = w.heap.size + 1 := by rw [HW0.out]; simp
  have r6 : RSrc u8C 1 w6 ⟨rA, rm, rd⟩ (heardS a.s fc) := HR5.out.1.kept q6 (fun ad e _ e2 => by
    have e2 : ad.block = w.heap.size := e2
    have : w3.heap.size ≤ ad.block := HR5.out.2.1 ad e
    omega)
  have hdone : TakeYes g i n c w (.returned (.tuple #[.agg #[.int .i64 f0, .int .i64 c, .int .i64 (t0 + fd), .slice rA rm rd], .bool true])) w6 := by
    unfold TakeYes
    rw [← HSX.out]
    refine ⟨⟨rA, rm, rd⟩, ?_, ?_, fun ad e => ?_, b6⟩
    · rw [← HT.out.1, ← HT.out.2, ← HFF.out]; rfl
    · rw [← HT.out.1]; exact r6
    · have : w3.heap.size ≤ ad.block := HR5.out.2.1 ad e
      omega
  have HD := Lib.hid (And.intro p6 hdone)
  clear hw6 hz5 p6 q6 hb5 b6 hw0s r6 hdone n0 n1 n2 n3 nf q0 k0 k1 k2
  go_wp2
  exact bodyPost_ret (v := .tuple #[.agg #[.int .i64 f0, .int .i64 c, .int .i64 (t0 + fd), .slice rA rm rd], .bool true]) (u_results1 rfl _ _ w.heap.size 52 _ (0, 0) _ rfl rfl HD.out.1 Try.underlying52 rfl info_hd) rfl HD.out.2
end
end Go.Proofs.Ytmplidgafdobkaa
