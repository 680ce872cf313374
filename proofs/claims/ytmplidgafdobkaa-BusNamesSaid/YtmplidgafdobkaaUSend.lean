/- Send, by contracts. No condition. -/
import Derived.Test.YtmplidgafdobkaaUAddL
import Derived.Test.YtmplidgafdobkaaUPure
namespace Go.Proofs.Ytmplidgafdobkaa
open Go.RowKit Go.Shelf

section
variable {w : World} {S : Nat → Prop} {b l : Nat} {v : Value} {As : List SdA} {g : Lg}
set_option maxRecDepth 100000 in
set_option maxHeartbeats 4000000 in
theorem send_no (h : BusAt w S b l v As g) (hg : OkG g) (f t : Int) (r s : Sl) (fa : List Fa) (hs : RSrc faC 3 w s fa) (hno : okB g f t fa = false) :
    Calls Try.prog 11 #[.pointer (some ⟨b, 0, none⟩), .int .i64 f, .int .i64 t, r.v, s.v] w fun e w' => e = .returned (.tuple #[.int .i64 0, .bool false, .int .i64 120]) ∧ Below w.heap.size w w' := by
  have hp := planU_of hg.plan
  have cb := h.bus.cell 0
  obtain ⟨⟨c0, _, _, _, _⟩, ⟨_, c17, _⟩, _⟩ := log_cells h.log
  have hB := fun W (hb : Below w.heap.size w W) => mayBefall_any g.p hp l v g.last g.opens s fa W (h.later hb).log (hs.later hb)
  have HM := Lib.hid (made_b (w := w) b l (by simpa using cb))
  have HN := Lib.hid (hasNode_any (w := w) l f g.p.nodes c0)
  have HC := Lib.hid (mayCome_any (w := w) l t g.last c17)
  have HB := Lib.hid (hB w (Below.refl _ _))
  simp at cb
  clear hB c0 c17 hp hg hs h
  unfold okB hasB comeB at hno
  unfold Sl.v at *
  generalize (decide (0 ≤ f) && decide (f < g.p.nodes)) = k1 at *
  generalize (decide (g.last ≤ t) && decide (t ≤ 4294967296)) = k2 at *
  generalize fatesB g.p fa = k3 at *
  cases k1
  · clear hno
    go_enter Try.func11, Try.ntmps11
    go_wp2_with (first
      | (go_at_call 26; refine HM.out.mono ?_; rintro e w' ⟨rfl, rfl⟩)
      | (go_at_call 27; refine HN.out.mono ?_; rintro e w' ⟨rfl, rfl⟩))
    go_ret3
    exact ⟨rfl, Below.refl _ _⟩
  · cases k2
    · clear hno
      go_enter Try.func11, Try.ntmps11
      go_wp2_with (first
        | (go_at_call 26; refine HM.out.mono ?_; rintro e w' ⟨rfl, rfl⟩)
        | (go_at_call 27; refine HN.out.mono ?_; rintro e w' ⟨rfl, rfl⟩)
        | (go_at_call 28; refine HC.out.mono ?_; rintro e w' ⟨rfl, rfl⟩))
      go_ret3
      exact ⟨rfl, Below.refl _ _⟩
    · cases k3
      · clear hno
        go_enter Try.func11, Try.ntmps11
        go_wp2_with (first
          | (go_at_call 26; refine HM.out.mono ?_; rintro e w' ⟨rfl, rfl⟩)
          | (go_at_call 27; refine HN.out.mono ?_; rintro e w' ⟨rfl, rfl⟩)
          | (go_at_call 28; refine HC.out.mono ?_; rintro e w' ⟨rfl, rfl⟩)
          | (go_at_call 29; refine HB.out.mono ?_; rintro e w1 ⟨rfl, hb1⟩))
        go_ret3
        exact ⟨rfl, hb1⟩
      · cases hno

/-- What a sending makes of the bus' memory. -/
def Sent (w : World) (S : Nat → Prop) (b l : Nat) (As : List SdA) (g : Lg) (f t : Int) (raw : List UInt8) (fa : List Fa) (w' : World) : Prop :=
  ∃ v' a S', BusAt w' S' b l v' (As ++ [a]) (sendG g f t raw fa) ∧ Kept S w w' ∧ (∀ k, S' k → S k ∨ w.heap.size ≤ k) ∧ SdOff (fun k => k < w.heap.size) a

set_option maxRecDepth 100000 in
set_option maxHeartbeats 4000000 in
theorem send_yes (h : BusAt w S b l v As g) (hg : OkG g) (f t : Int) (r s : Sl) (raw : List UInt8) (fa : List Fa) (hr : RSrc u8C 1 w r raw) (hs : RSrc faC 3 w s fa) (hok : okB g f t fa = true) (hps : passB g t = true) (hrm : r.n ≤ 1000000) (hsm : s.n ≤ 1000000) (hn : As.length ≤ 1000000) :
    Calls Try.prog 11 #[.pointer (some ⟨b, 0, none⟩), .int .i64 f, .int .i64 t, r.v, s.v] w fun e w' => e = .returned (.tuple #[.int .i64 (As.length : Int), .bool true, .int .i64 0]) ∧ Sent w S b l As g f t raw fa w' := by
  have hp := planU_of hg.plan
  have hok2 := hok
  unfold okB at hok2
  rw [Bool.and_eq_true, Bool.and_eq_true] at hok2
  obtain ⟨⟨o1, o2⟩, o3⟩ := hok2
  have ht := (okB_iff.1 hok).1.2
  have hl0 := hg.last.1
  have cb := h.bus.cell 0
  obtain ⟨⟨c0, _, _, _, _⟩, ⟨_, c17, c18⟩, _⟩ := log_cells h.log
  have hN := hasNode_any (w := w) l f g.p.nodes c0
  have hC := mayCome_any (w := w) l t g.last c17
  have hB := mayBefall_any g.p hp l v g.last g.opens s fa w h.log hs
  rw [show (decide (0 ≤ f) && decide (f < g.p.nodes)) = true from o1] at hN
  rw [show (decide (g.last ≤ t) && decide (t ≤ 4294967296)) = true from o2] at hC
  rw [o3] at hB
  have HM := Lib.hid (made_b (w := w) b l (by simpa using cb))
  have HN := Lib.hid hN
  have HC := Lib.hid hC
  have HB := Lib.hid hB
  have HPS := Lib.hid (fun W (hW : BusAt W S b l v As g) => (show Calls Try.prog 30 #[.pointer (some ⟨l, 0, none⟩), .int .i64 t] W fun e w' => e = .returned (.bool true) ∧ w' = W from by
    have := passes_any (w := W) l t g.opens (log_cells hW.log).2.1.2.2
    rw [show decide (g.opens ≤ t) = true from hps] at this
    exact this))
  have HCL := Lib.hid (fun W (hW : Below w.heap.size w W) => clone_raw W r raw (hr.later hW) hrm)
  have HSP := Lib.hid (fun W (hW : Below w.heap.size w W) => spread_any g.p hp l v g.last g.opens f s fa W (h.later hW).log (hs.later hW) hsm)
  have HH := Lib.hid h
  have HK := Lib.hid (show keptS g f t raw fa = ⟨f, t, raw, spreadL g.p fa f 0, spreadL g.p fa f 1⟩ from if_pos hps)
  have HSG := Lib.hid (show sendG g f t raw fa = addG g ⟨f, t, raw, spreadL g.p fa f 0, spreadL g.p fa f 1⟩ true from by unfold sendG; rw [if_pos hok, HK.out, hps])
  have HP := Lib.hid hp
  have hbl := h.bus.lt
  have hll := h.log.lt
  simp at cb
  clear hN hC hB hok hps o1 o2 o3 hr hs h hg c0 c17 c18 hp
  unfold Sl.v at *
  go_enter Try.func11, Try.ntmps11
  go_upto_region 6 with (first
    | (go_at_call 26; refine HM.out.mono ?_; rintro e wq ⟨rfl, hq⟩; obtain rfl := hq.symm)
    | (go_at_call 27; refine HN.out.mono ?_; rintro e wq ⟨rfl, hq⟩; obtain rfl := hq.symm)
    | (go_at_call 28; refine HC.out.mono ?_; rintro e wq ⟨rfl, hq⟩; obtain rfl := hq.symm)
    | (go_at_call 29; refine HB.out.mono ?_; rintro e w1 ⟨rfl, hb1⟩; have HB1 := Lib.hid hb1; clear hb1))
  clear cb
  go_upto_region 7 with fail
  obtain ⟨B, hB⟩ : ∃ B, B = w1.heap.size := ⟨_, rfl⟩
  obtain ⟨w2, hw2⟩ : ∃ w2, w2 = w1.alloc (.cells #[.int .i64 f, .int .i64 t, .slice none 0 0, .slice none 0 0, .slice none 0 0] 78) := ⟨_, rfl⟩
  rw [← hw2, ← hB]
  have h2 : Below w.heap.size w w2 := hw2 ▸ HB1.out.alloc HB1.out.size _
  have b2 : Whole w2 B 78 #[.int .i64 f, .int .i64 t, .slice none 0 0, .slice none 0 0, .slice none 0 0] := by rw [hB, hw2]; exact Whole.new _ _ _
  have hwB : w.heap.size ≤ B := by rw [hB]; exact HB1.out.size
  have H2 := Lib.hid h2
  have HB2 := Lib.hid b2
  have hBl : B < w2.heap.size := b2.lt
  have HWB := Lib.hid hwB
  clear hw2 hB h2 b2 HB1 HM HN HC HB
  go_upto_region 9 with (go_at_call 30; refine (HPS.out _ (HH.out.later H2.out)).mono ?_; rintro e wq ⟨rfl, hq⟩; obtain rfl := hq.symm)
  go_upto_region 10 with (first
    | (go_at_call 31; refine (HCL.out _ H2.out).mono ?_; rintro e w3 ⟨r3, rfl, hr3, ha3, hb3⟩; have H3 := Lib.hid (k_then hb3 H2.out); have R3 := Lib.hid (And.intro hr3 (And.intro ha3 hb3)); clear hr3 ha3 hb3)
    | (go_at_call 32; refine (HSP.out _ H3.out).mono ?_; rintro e w4 ⟨V, rfl, hV⟩; obtain ⟨g0, q0, u0, e0⟩ := hV.2.2 0 (by omega); obtain ⟨g1, q1, u1, e1⟩ := hV.2.2 1 (by omega); rw [q0, q1]; have H4 := Lib.hid (k_then hV.1 H3.out); have F4 := Lib.hid (And.intro hV.1 (And.intro (And.intro u0 e0) (And.intro u1 e1))); have b4 := k_later hV.1 (k_later R3.out.2.2 HB2.out); have y0 := b4.cell 0; have y1 := b4.cell 1; have y2 := b4.cell 2; have y3 := b4.cell 3; have y4 := b4.cell 4; have yf := b4.frozen; simp at y0 y1 y2 y3 y4; have B4 := Lib.hid b4; clear hV q0 q1 u0 e0 u1 e1 b4))
  obtain ⟨N, hN⟩ : ∃ N, N = g.p.nodes.toNat := ⟨_, rfl⟩
  rw [← hN]
  obtain ⟨w5, hw5⟩ : ∃ w5, w5 = ((w4.setCell ⟨B, 2, none⟩ (.slice r3.A r3.n r3.c)).setCell ⟨B, 3, none⟩ (.slice (some ⟨g0, 0, none⟩) N N)).setCell ⟨B, 4, none⟩ (.slice (some ⟨g1, 0, none⟩) N N) := ⟨_, rfl⟩
  rw [← hw5]
  have k5 : Kept (fun i => i = B) w4 w5 := by
    rw [hw5]
    exact Kept.setCell (S := fun i => i = B) (Kept.setCell (S := fun i => i = B) (Kept.setCell (S := fun i => i = B) (Kept.refl _ w4) (p := ⟨B, 2, none⟩) (.inl rfl) _) (p := ⟨B, 3, none⟩) (.inl rfl) _) (p := ⟨B, 4, none⟩) (.inl rfl) _
  have b5 : Whole w5 B 78 #[.int .i64 f, .int .i64 t, .slice r3.A r3.n r3.c, .slice (some ⟨g0, 0, none⟩) N N, .slice (some ⟨g1, 0, none⟩) N N] := by
    rw [hw5]
    exact ((B4.out.set 2 _).set 3 _).set 4 _
  have h5 : Below w.heap.size w w5 := below_on H4.out k5 (fun i e => by have e : i = B := e; omega) H4.out.size
  have z0 := H2.out.size
  have z2 := R3.out.2.2.size
  have z3 := F4.out.1.size
  obtain ⟨a, hak⟩ : ∃ a : SdA, a = ⟨r3, ⟨some ⟨g0, 0, none⟩, N, N⟩, ⟨some ⟨g1, 0, none⟩, N, N⟩, keptS g f t raw fa⟩ := ⟨_, rfl⟩
  have ea : a = ⟨r3, ⟨some ⟨g0, 0, none⟩, N, N⟩, ⟨some ⟨g1, 0, none⟩, N, N⟩, ⟨f, t, raw, spreadL g.p fa f 0, spreadL g.p fa f 1⟩⟩ := by rw [hak, HK.out]
  have n2 := HP.out.n2
  have sN : ∀ c, (spreadL g.p fa f c).length = N := fun c => by rw [spreadL_length, hN]
  have at5 : SdAt w5 a := by
    rw [ea]
    refine ⟨(R3.out.1.later F4.out.1).kept k5 (fun ad e h0 eB => ?_), ?_, ?_⟩
    · have eB : ad.block = B := eB
      have := R3.out.2.1 ad e; omega
    · have := (FaRow.src F4.out.2.1.2 (by rw [sN]; omega)).kept k5 (fun ad e h0 eB => by cases e; have eB : g0 = B := eB; have := F4.out.2.1.1; omega)
      rw [sN] at this
      exact this
    · have := (FaRow.src F4.out.2.2.2 (by rw [sN]; omega)).kept k5 (fun ad e h0 eB => by cases e; have eB : g1 = B := eB; have := F4.out.2.2.1; omega)
      rw [sN] at this
      exact this
  have offN : SdOff (fun k => k < w.heap.size) a := by
    rw [ea]
    refine ⟨fun ad e h0 hS => ?_, fun ad e h0 hS => ?_, fun ad e h0 hS => ?_⟩
    · have hS : ad.block < w.heap.size := hS; have := R3.out.2.1 ad e; omega
    · cases e; have q : g0 < w.heap.size := hS; have := F4.out.2.1.1; omega
    · cases e; have q : g1 < w.heap.size := hS; have := F4.out.2.2.1; omega
  have off5 : SdOff S a := offN.mono (fun k hk => HH.out.sS k hk)
  have hadd := add_yes (HH.out.later h5) a at5 off5 HP.out (by rw [ea]; exact ⟨by show 0 ≤ t; omega, ht.2⟩) hn
  have hsg : sendG g f t raw fa = addG g a.s true := by rw [HSG.out, ea]
  rw [ea] at hadd hsg offN
  unfold Sl.v at hadd
  have HA := Lib.hid (And.intro hadd (And.intro hsg (And.intro h5.size h5)))
  have HOF := Lib.hid offN
  have y0 := b5.cell 0
  have y1 := b5.cell 1
  have y2 := b5.cell 2
  have y3 := b5.cell 3
  have y4 := b5.cell 4
  simp at y0 y1 y2 y3 y4
  clear hw5 k5 b5 h5 ea hak at5 off5 offN hadd hsg hN sN a n2 z0 z2 z3
  go_wp2_with (go_at_call 33; refine HA.out.1.mono ?_; rintro e w6 ⟨rfl, v', S', k1, k2, k3⟩; have HZ := Lib.hid (And.intro k1 (And.intro k2 k3)); clear k1 k2 k3)
  go_ret3
  have z := HZ.out
  rw [← HA.out.2.1] at z
  exact ⟨rfl, v', _, S', z.1, (Kept.of_below HA.out.2.2.2 S).trans z.2.1 (fun _ _ q => q), (fun k hk => (z.2.2 k hk).imp id (fun q => Nat.le_trans HA.out.2.2.1 q)), HOF.out⟩
set_option maxRecDepth 100000 in
set_option maxHeartbeats 4000000 in
theorem send_quiet (h : BusAt w S b l v As g) (hg : OkG g) (f t : Int) (r s : Sl) (raw : List UInt8) (fa : List Fa) (hs : RSrc faC 3 w s fa) (hok : okB g f t fa = true) (hps : passB g t = false) (hn : As.length ≤ 1000000) :
    Calls Try.prog 11 #[.pointer (some ⟨b, 0, none⟩), .int .i64 f, .int .i64 t, r.v, s.v] w fun e w' => e = .returned (.tuple #[.int .i64 (As.length : Int), .bool false, .int .i64 0]) ∧ Sent w S b l As g f t raw fa w' := by
  have hp := planU_of hg.plan
  have hok2 := hok
  unfold okB at hok2
  rw [Bool.and_eq_true, Bool.and_eq_true] at hok2
  obtain ⟨⟨o1, o2⟩, o3⟩ := hok2
  have ht := (okB_iff.1 hok).1.2
  have hl0 := hg.last.1
  have cb := h.bus.cell 0
  obtain ⟨⟨c0, _, _, _, _⟩, ⟨_, c17, c18⟩, _⟩ := log_cells h.log
  have hN := hasNode_any (w := w) l f g.p.nodes c0
  have hC := mayCome_any (w := w) l t g.last c17
  have hB := mayBefall_any g.p hp l v g.last g.opens s fa w h.log hs
  rw [show (decide (0 ≤ f) && decide (f < g.p.nodes)) = true from o1] at hN
  rw [show (decide (g.last ≤ t) && decide (t ≤ 4294967296)) = true from o2] at hC
  rw [o3] at hB
  have HM := Lib.hid (made_b (w := w) b l (by simpa using cb))
  have HN := Lib.hid hN
  have HC := Lib.hid hC
  have HB := Lib.hid hB
  have HPS := Lib.hid (fun W (hW : BusAt W S b l v As g) => (show Calls Try.prog 30 #[.pointer (some ⟨l, 0, none⟩), .int .i64 t] W fun e w' => e = .returned (.bool false) ∧ w' = W from by
    have := passes_any (w := W) l t g.opens (log_cells hW.log).2.1.2.2
    rw [show decide (g.opens ≤ t) = false from hps] at this
    exact this))
  have HH := Lib.hid h
  have HK := Lib.hid (show keptS g f t raw fa = ⟨f, t, [], [], []⟩ from if_neg (by rw [hps]; decide))
  have HSG := Lib.hid (show sendG g f t raw fa = addG g ⟨f, t, [], [], []⟩ false from by unfold sendG; rw [if_pos hok, HK.out, hps])
  have HP := Lib.hid hp
  have hbl := h.bus.lt
  have hll := h.log.lt
  simp at cb
  clear hN hC hB hok hps o1 o2 o3 hs h hg c0 c17 c18 hp
  unfold Sl.v at *
  go_enter Try.func11, Try.ntmps11
  go_upto_region 6 with (first
    | (go_at_call 26; refine HM.out.mono ?_; rintro e wq ⟨rfl, hq⟩; obtain rfl := hq.symm)
    | (go_at_call 27; refine HN.out.mono ?_; rintro e wq ⟨rfl, hq⟩; obtain rfl := hq.symm)
    | (go_at_call 28; refine HC.out.mono ?_; rintro e wq ⟨rfl, hq⟩; obtain rfl := hq.symm)
    | (go_at_call 29; refine HB.out.mono ?_; rintro e w1 ⟨rfl, hb1⟩; have HB1 := Lib.hid hb1; clear hb1))
  clear cb
  go_upto_region 7 with fail
  obtain ⟨B, hB⟩ : ∃ B, B = w1.heap.size := ⟨_, rfl⟩
  obtain ⟨w2, hw2⟩ : ∃ w2, w2 = w1.alloc (.cells #[.int .i64 f, .int .i64 t, .slice none 0 0, .slice none 0 0, .slice none 0 0] 78) := ⟨_, rfl⟩
  rw [← hw2, ← hB]
  have h2 : Below w.heap.size w w2 := hw2 ▸ HB1.out.alloc HB1.out.size _
  have b2 : Whole w2 B 78 #[.int .i64 f, .int .i64 t, .slice none 0 0, .slice none 0 0, .slice none 0 0] := by rw [hB, hw2]; exact Whole.new _ _ _
  have hwB : w.heap.size ≤ B := by rw [hB]; exact HB1.out.size
  have H2 := Lib.hid h2
  have HB2 := Lib.hid b2
  have hBl : B < w2.heap.size := b2.lt
  have HWB := Lib.hid hwB
  clear hw2 hB h2 b2 HB1 HM HN HC HB
  go_upto_region 10 with (go_at_call 30; refine (HPS.out _ (HH.out.later H2.out)).mono ?_; rintro e wq ⟨rfl, hq⟩; obtain rfl := hq.symm)
  obtain ⟨a, hak⟩ : ∃ a : SdA, a = ⟨nilS, nilS, nilS, keptS g f t raw fa⟩ := ⟨_, rfl⟩
  have ea : a = ⟨nilS, nilS, nilS, ⟨f, t, [], [], []⟩⟩ := by rw [hak, HK.out]
  have at5 : SdAt w2 a := by
    rw [ea]
    exact ⟨RSrc.nil _, RSrc.nil _, RSrc.nil _⟩
  have offN : SdOff (fun k => k < w.heap.size) a := by
    rw [ea]
    exact ⟨fun _ e => absurd e (by simp [nilS]), fun _ e => absurd e (by simp [nilS]), fun _ e => absurd e (by simp [nilS])⟩
  have off5 : SdOff S a := offN.mono (fun k hk => HH.out.sS k hk)
  have h5 := H2.out
  have hadd := add_no (HH.out.later h5) a at5 off5 hn
  have hsg : sendG g f t raw fa = addG g a.s false := by rw [HSG.out, ea]
  rw [ea] at hadd hsg offN
  dsimp only [Sl.v, nilS] at hadd
  have HA := Lib.hid (And.intro hadd (And.intro hsg (And.intro h5.size h5)))
  have HOF := Lib.hid offN
  have y0 := HB2.out.cell 0
  have y1 := HB2.out.cell 1
  have y2 := HB2.out.cell 2
  have y3 := HB2.out.cell 3
  have y4 := HB2.out.cell 4
  simp at y0 y1 y2 y3 y4
  clear h5 ea hak at5 off5 offN hadd hsg a
  go_wp2_with (go_at_call 33; refine HA.out.1.mono ?_; rintro e w6 ⟨rfl, v', S', k1, k2, k3⟩; have HZ := Lib.hid (And.intro k1 (And.intro k2 k3)); clear k1 k2 k3)
  go_ret3
  have z := HZ.out
  rw [← HA.out.2.1] at z
  exact ⟨rfl, v', _, S', z.1, (Kept.of_below HA.out.2.2.2 S).trans z.2.1 (fun _ _ q => q), (fun k hk => (z.2.2 k hk).imp id (fun q => Nat.le_trans HA.out.2.2.1 q)), HOF.out⟩

/-- A bus none of whose blocks that may turn are F's. -/
def BusF (F : Nat → Prop) (b : Nat) (g : Lg) (W : World) : Prop := ∃ S l v As, BusAt W S b l v As g ∧ OkG g ∧ (∀ k, F k → ¬ S k) ∧ ¬ F b ∧ ∀ a ∈ As, SdOff F a
/-- F's blocks are there. -/
def Bnd (F : Nat → Prop) (W : World) : Prop := ∀ k, F k → k < W.heap.size
/-- All but F's blocks may have been turned. -/
abbrev KeptF (F : Nat → Prop) (W W' : World) : Prop := Kept (fun k => ¬ F k) W W'
theorem Bnd.more {F : Nat → Prop} {W W' : World} (h : Bnd F W) (hz : W.heap.size ≤ W'.heap.size) : Bnd F W' := fun k hk => Nat.lt_of_lt_of_le (h k hk) hz
theorem Bnd.new {F : Nat → Prop} {W W' : World} (h : Bnd F W) (hz : W.heap.size ≤ W'.heap.size) : Bnd (Grow F W W') W' := by
  rintro k (hk | hk)
  · exact Nat.lt_of_lt_of_le (h k hk) hz
  · exact hk.2
theorem BusF.ok {F : Nat → Prop} {W : World} (h : BusF F b g W) : OkG g := by
  obtain ⟨S, l, v, As, _, h2, _⟩ := h
  exact h2
theorem BusF.kept {F T : Nat → Prop} {W W' : World} (h : BusF F b g W) (hk : Kept T W W') (hT : ∀ k, T k → F k) : BusF F b g W' := by
  obtain ⟨S, l, v, As, h1, h2, h3, h4, h5⟩ := h
  exact ⟨S, l, v, As, h1.kept hk (fun e => h4 (hT _ e)) (fun k hk ht => h3 k (hT k ht) hk) (fun a ha => (h5 a ha).mono hT), h2, h3, h4, h5⟩
theorem BusF.later {F : Nat → Prop} {W W' : World} (h : BusF F b g W) (hb : Below W.heap.size W W') : BusF F b g W' := by
  obtain ⟨S, l, v, As, h1, h2, h3⟩ := h
  exact ⟨S, l, v, As, h1.later hb, h2, h3⟩
theorem BusF.less {F G : Nat → Prop} {W : World} (h : BusF F b g W) (hG : ∀ k, G k → F k) : BusF G b g W := by
  obtain ⟨S, l, v, As, h1, h2, h3, h4, h5⟩ := h
  exact ⟨S, l, v, As, h1, h2, fun k hk => h3 k (hG k hk), fun e => h4 (hG _ e), fun a ha => (h5 a ha).mono hG⟩
/-- New blocks are none of a bus'. -/
theorem BusF.new {F : Nat → Prop} {W W' : World} (h : BusF F b g W) (hb : Below W.heap.size W W') : BusF (Grow F W W') b g W' := by
  obtain ⟨S, l, v, As, h1, h2, h3, h4, h5⟩ := h
  refine ⟨S, l, v, As, h1.later hb, h2, fun k hk hs => ?_, fun hk => ?_, fun a ha => (h5 a ha).new (h1.src a ha).1 (fun k hk => hk.imp id (fun q => q.1))⟩
  · rcases hk with hk | hk
    · exact h3 k hk hs
    · have := h1.sS k hs; omega
  · rcases hk with hk | hk
    · exact h4 hk
    · have := h1.bus.lt; omega

theorem send_f {F : Nat → Prop} (h : BusF F b g w) (hB : Bnd F w) (f t : Int) (r s : Sl) (raw : List UInt8) (fa : List Fa) (hr : RSrc u8C 1 w r raw) (hs : RSrc faC 3 w s fa) (hrm : r.n ≤ 1000000) (hsm : s.n ≤ 1000000) (hn : g.L.length ≤ 1000000) :
    Calls Try.prog 11 #[.pointer (some ⟨b, 0, none⟩), .int .i64 f, .int .i64 t, r.v, s.v] w fun e w' => e = .returned (sendV g f t fa) ∧ BusF F b (sendG g f t raw fa) w' ∧ KeptF F w w' := by
  obtain ⟨S, l, v, As, h1, h2, h3, h4, h5⟩ := h
  have hlen : As.length = g.L.length := by rw [← h1.sds, List.length_map]
  have hdone : ∀ w', Sent w S b l As g f t raw fa w' → BusF F b (sendG g f t raw fa) w' ∧ KeptF F w w' := by
    rintro w' ⟨v', a, S', k1, k2, k3, k4⟩
    refine ⟨⟨S', l, v', _, k1, okG_send h2 f t raw fa (by have := hr.len; omega), fun k hk hs => ?_, h4, fun x hx => ?_⟩, k2.mono fun i hi hf => h3 i hf hi⟩
    rotate_left
    · rcases List.mem_append.1 hx with hx | hx
      · exact h5 x hx
      · obtain rfl : x = a := by simpa using hx
        exact k4.mono (fun k hk => hB k hk)
    rcases k3 k hs with q | q
    · exact h3 k hk q
    · have := hB k hk; omega
  cases hok : okB g f t fa
  · refine (send_no h1 h2 f t r s fa hs hok).mono ?_
    rintro e w' ⟨rfl, hb⟩
    unfold sendV sendG
    rw [hok, if_neg (by decide), if_neg (by decide)]
    exact ⟨rfl, ⟨S, l, v, As, h1.later hb, h2, h3, h4, h5⟩, Kept.of_below hb _⟩
  · cases hps : passB g t
    · refine (send_quiet h1 h2 f t r s raw fa hs hok hps (by omega)).mono ?_
      rintro e w' ⟨rfl, hd⟩
      refine ⟨?_, hdone w' hd⟩
      unfold sendV
      rw [hok, if_pos rfl, hps, hlen]
    · refine (send_yes h1 h2 f t r s raw fa hr hs hok hps hrm hsm (by omega)).mono ?_
      rintro e w' ⟨rfl, hd⟩
      refine ⟨?_, hdone w' hd⟩
      unfold sendV
      rw [hok, if_pos rfl, hps, hlen]
end
end Go.Proofs.Ytmplidgafdobkaa
