/- MidpointTrims, its walk. No condition. -/
import Derived.Test.YtfpkbhnlpmnegaaZLawM
import Derived.Laws.OwnMore
namespace Go.Proofs.Ytfpkbhnlpmnegaa
open Go.RowKit Go.Shelf

/-- t's row, while its numbers are counted up: all else is as it was. -/
structure UpW (W0 : World) (v : Value) (n : Nat) (W : World) : Prop where
  row : ∃ L : List Int, L.length = n ∧ W.ownsRow 0 2 1 v n (L.flatMap inC)
  kept : Kept (fun i => some i = v.ownBlock) W0 W
theorem UpW.start {W : World} {v : Value} {b : Nat} {L : List Int} (h : W.ownsRow b 2 1 v L.length (L.flatMap inC)) : UpW W v L.length W :=
  ⟨⟨L, rfl, own_low h (Nat.zero_le _)⟩, Kept.refl _ _⟩
theorem UpW.at_ {W0 W : World} {g c n i : Nat} (h : UpW W0 (.slice (some ⟨g, 0, none⟩) n c) n W) (hi : i < n) : ∃ x : Int, W.cell? ⟨g, i, none⟩ = some (.int .i64 x) ∧ W.frozen? ⟨g, i, none⟩ = false ∧ ∀ y : Int, UpW W0 (.slice (some ⟨g, 0, none⟩) n c) n (W.setCell ⟨g, i, none⟩ (.int .i64 y)) := by
  obtain ⟨⟨L, hl, hr⟩, hk⟩ := h
  refine ⟨L.getD i 0, ?_, ?_, fun y => ⟨⟨L.set i y, by rw [List.length_set, hl], ?_⟩, hk.setCell (p := ⟨g, i, none⟩) (.inl rfl) _⟩⟩
  · have h1 := hr.cells (g := g) rfl i (.int .i64 (L.getD i 0)) (by rw [flat_inC, List.getElem?_map, List.getElem?_eq_getElem (by omega), getD_lt (by omega)]; rfl)
    rw [plain_add, Nat.zero_add] at h1
    exact h1
  · rcases hr.2 with ⟨e, _⟩ | ⟨g', cap', cur, e, _, hg, _⟩
    · cases e
    · cases e
      simp [World.frozen?, hg]
  · have h2 := (World.ownsRow.stored hr i (.int .i64 y)).1
    rw [flat_inC] at h2 ⊢
    rw [List.map_set]
    exact h2

set_option maxRecDepth 100000 in
set_option maxHeartbeats 8000000 in
theorem midpointTrims_walk (s : Sl) (l : List Int) (k : Int) (w : World) (h : RSrc inC 1 w s l) : Calls Try.prog 3 #[s.v, .int .i64 k] w fun e w' => e = .returned (.bool true) ∧ Below w.heap.size w w' := by
  have hl := h.len
  have hmx := Nat.le_trans h.cap h.max
  have H := Lib.hid h
  have HL := Lib.hid hl
  by_cases hN : s.n ≤ 40
  · have HRT := Lib.hid (fun W (hb : Below w.heap.size w W) => refTrim_any W s l k (h.later hb) (by omega))
    have HRO := Lib.hid (fun W (hb : Below w.heap.size w W) => refOf_any W s l k (h.later hb) (by omega))
    have HRS := Lib.hid (fun W (hb : Below w.heap.size w W) => refSpread_any W s l k (h.later hb) (by omega))
    have HT := Lib.hid (fun W s' (hn : s'.n ≤ 40) (hr : RSrc inC 1 W s' l) => Trim_any W s' l k hr (by omega))
    have HO := Lib.hid (fun W s' (hn : s'.n ≤ 40) (hr : RSrc inC 1 W s' l) => Of_any W s' l k hr (by omega))
    have HS := Lib.hid (fun W s' (hn : s'.n ≤ 40) (hr : RSrc inC 1 W s' l) => Spread_any W s' l k hr (by omega))
    obtain ⟨i0, hi, hy0, hy1, hy2⟩ := info_parts i_i64
    obtain ⟨A, n, c⟩ := s
    unfold Sl.v at *
    dsimp only at *
    clear h hl
    go_enter Try.func3, Try.ntmps3
    go_upto_region 3 with (fail)
    iterate 7 go_step
    refine wpList_append_ints _ rfl (.tmp 23) (.tmp 24) 22 rfl w.heap.size 2 i0 u_ints hi hy0 hy1 hy2 _ 0 [] rfl (own_lit0 w _) ⟨A, n, c⟩ l rfl (H.out.later ((Below.refl _ _).alloc (Nat.le_refl _) _)) (by simp; omega) (by simp) ?_
    intro v' w1 h1 h2 _
    dsimp only at h1
    rw [Nat.zero_add, List.nil_append] at h1
    obtain ⟨⟨A1, n1, c1⟩, rfl, hs1, hbk⟩ := rsrc_of_own (cells := inC) (fun _ => rfl) HL.out.symm h1
    have hn1 : n1 = n := by have := hs1.len; have := HL.out; dsimp only at *; omega
    subst hn1
    have HB1 := Lib.hid (((Below.refl _ w).alloc (Nat.le_refl _) _).grown h2 (by simp) (fun j hj => by cases hj; exact Nat.le_refl _) : Below w.heap.size w w1)
    have HS1 := Lib.hid hs1
    clear h1 h2 hs1 hbk
    unfold Sl.v
    dsimp only
    go_upto_region 11 with (first
      | (go_at_call 9; refine (HT.out w1 ⟨A1, n1, c1⟩ hN HS1.out).mono ?_; rintro e w2 hd; obtain ⟨A2, c2, rfl, ht1, ht2, ht3, ht4⟩ := trimD_src hd; have HT2 := Lib.hid (And.intro ht1 (And.intro ht2 ht3)); have HB2 := Lib.hid (k_then ht4 HB1.out); have HS2 := Lib.hid (HS1.out.later ht4); clear hd ht1 ht2 ht3 ht4 HT)
      | (go_at_call 10; refine (HRT.out _ HB2.out).mono ?_; rintro e w3 hd; obtain ⟨A3, c3, rfl, ht1, ht2, ht3, ht4⟩ := trimD_src hd; have HU3 := Lib.hid ht1; have HQ3 := Lib.hid ht4; have HB3 := Lib.hid (k_then ht4 HB2.out); clear hd ht1 ht2 ht3 ht4 HRT)
      | (go_at_call 11; refine (HO.out w3 ⟨A1, n1, c1⟩ hN (HS2.out.later HQ3.out)).mono ?_; rintro e w4 ⟨rfl, hb⟩; have HR4 := Lib.hid hb; clear hb HO)
      | (go_at_call 12; refine (HRO.out w4 (k_then HR4.out HB3.out)).mono ?_; rintro e w5 ⟨rfl, hb⟩; have HR5 := Lib.hid (k_then hb HR4.out); clear hb HRO)
      | (go_at_call 13; refine (HS.out w5 ⟨A1, n1, c1⟩ hN (HS2.out.later (k_then HR5.out HQ3.out))).mono ?_; rintro e w6 ⟨rfl, hb⟩; have HR6 := Lib.hid (k_then hb HR5.out); clear hb HS)
      | (go_at_call 14; refine (HRS.out w6 (k_then HR6.out HB3.out)).mono ?_; rintro e w7 ⟨rfl, hb⟩; have HR7 := Lib.hid (k_then hb HR6.out); clear hb HRS)
      | (go_at_call 15; refine (longs_same (HT2.out.1.later (k_then HR7.out HQ3.out)) (HU3.out.later HR7.out)).mono ?_; rintro e w8 ⟨rfl, hb⟩; have HR8 := Lib.hid (k_then hb HR7.out); clear hb))
    clear HR4 HR5 HR6 HR7
    generalize midT l k = v1 at *
    generalize sprT l k = v2 at *
    generalize errT l k = v3 at *
    obtain ⟨L, hL⟩ : ∃ L, L = outT l k := ⟨_, rfl⟩
    rw [← hL] at HT2 HU3 ⊢
    clear hL
    have HQ8 := Lib.hid (k_then HR8.out HQ3.out)
    have hup : UpW w8 (.slice A2 L.length c2) L.length w8 := UpW.start (own_kept HT2.out.2.2 (Kept.of_below HQ8.out Empty) (fun _ _ h => h))
    have HUP := Lib.hid hup
    obtain ⟨N, hNN⟩ : ∃ N, N = L.length := ⟨_, rfl⟩
    have hNm : N ≤ 9223372036854775807 := by have := Nat.le_trans HT2.out.1.cap HT2.out.1.max; dsimp only at this; omega
    rw [← hNN] at HUP HT2 HU3 ⊢
    clear hup hNN
    go_wp2_with (fail)
    go_loopw [92] (fun iv wr => ∃ i : Nat, i ≤ N ∧ iv = .int .i64 (i : Int) ∧ UpW w8 (.slice A2 N c2) N wr) (fun iv _ => N - (intOf iv).toNat)
    case atStart => exact ⟨0, Nat.zero_le _, rfl, HUP.out⟩
    case round =>
      obtain ⟨i, hi', rfl, hU⟩ := hrel
      by_cases hlt : i < N
      · obtain ⟨g, hA⟩ : ∃ g, A2 = some ⟨g, 0, none⟩ := by
          obtain ⟨L', _, hr⟩ := hU.row
          rcases hr.2 with ⟨e, e0⟩ | ⟨g, cap, cur, e, _⟩
          · cases e; omega
          · cases e; exact ⟨g, rfl⟩
        subst hA
        obtain ⟨x, c0, f0, hnx⟩ := hU.at_ hlt
        have HN := Lib.hid hnx
        have e1 : (0 : Int) ≤ (i : Int) := by omega
        have e2 : (i : Int) < (N : Int) := by omega
        clear hU hnx
        go_wp2
        go_roundw
        case rel => exact ⟨i + 1, by omega, by go_num, HN.out _⟩
        case measure => simp [intOf]; omega
      · have hk := hU.kept
        have hown : RSrc inC 1 wr ⟨A1, n1, c1⟩ l := (HS2.out.later HQ8.out).kept hk (fun ad e h0 hs => by
          have h1 := HS1.out.lt (fun _ => Nat.zero_lt_one) e h0
          rcases Option.eq_none_or_eq_some A2 with ea | ⟨ad2, ea⟩
          · rw [ea] at hs; simp [Value.ownBlock] at hs
          · have h2 := HT2.out.2.1 ad2 ea
            rw [ea] at hs
            simp [Value.ownBlock] at hs
            omega)
        have hold : RSrc inC 1 wr ⟨A, n1, c⟩ l := (H.out.later (k_then HQ8.out HB2.out)).kept hk (fun ad e h0 hs => by
          have h1 := H.out.lt (fun _ => Nat.zero_lt_one) e h0
          have h3 := HB1.out.size
          rcases Option.eq_none_or_eq_some A2 with ea | ⟨ad2, ea⟩
          · rw [ea] at hs; simp [Value.ownBlock] at hs
          · have h2 := HT2.out.2.1 ad2 ea
            rw [ea] at hs
            simp [Value.ownBlock] at hs
            omega)
        have hbw : Below w.heap.size w wr := below_on (k_then HQ8.out HB2.out) hk (fun j hj => by
          have h3 := HB1.out.size
          rcases Option.eq_none_or_eq_some A2 with ea | ⟨ad2, ea⟩
          · rw [ea] at hj; simp [Value.ownBlock] at hj
          · have h2 := HT2.out.2.1 ad2 ea
            rw [ea] at hj
            simp [Value.ownBlock] at hj
            omega) (k_then HQ8.out HB2.out).size
        have HF := Lib.hid (longs_same hown hold)
        have HBW := Lib.hid hbw
        clear hU hk hown hold hbw
        go_wp2_with (go_at_call 15; refine HF.out.mono ?_; rintro e w9 ⟨rfl, hb⟩; have HB9 := Lib.hid (k_then hb HBW.out); clear hb)
        go_ret
        exact ⟨rfl, HB9.out⟩
  · have hN2 : (40 : Int) < (s.n : Int) := by omega
    obtain ⟨A, n, c⟩ := s
    unfold Sl.v at *
    dsimp only at *
    go_enter Try.func3, Try.ntmps3
    go_wp2
    go_ret
    exact ⟨rfl, Below.refl _ _⟩
end Go.Proofs.Ytfpkbhnlpmnegaa
