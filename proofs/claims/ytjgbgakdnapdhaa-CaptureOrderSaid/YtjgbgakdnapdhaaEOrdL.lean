/- CaptureOrder, its walk. No condition. -/
import Derived.Test.YtjgbgakdnapdhaaEOrdM
import Derived.Test.YtjgbgakdnapdhaaEOpen
import Derived.IntWalk
import Derived.Deep.RegionHeld3
namespace Go.Proofs.Ytjgbgakdnapdhaa
open Go.RowKit Go.Shelf

/-- What the law's end needs: two captures of one, the values and the list. -/
structure FinO (w : World) (a d : Nat) (f : Ca) (sV : Sl) (V : List Int) (sL : Sl) (L : List De) (W : World) : Prop where
  la : LawC w a f W
  ld : LawC w d f W
  rV : RSrc inC 1 W sV V
  rL : RSrc deC 2 W sL L
theorem FinO.later {w W W' : World} {a d : Nat} {f : Ca} {sV sL : Sl} {V : List Int} {L : List De} (h : FinO w a d f sV V sL L W) (hb : Below W.heap.size W W') : FinO w a d f sV V sL L W' := ⟨h.la.later hb, h.ld.later hb, h.rV.later hb, h.rL.later hb⟩
theorem app_more {wS W w8 : World} {v v8 : Value} {ws : List Int} {x : Int} {ob : Obj} (h : Below wS.heap.size wS W) (hr : W.ownsRow wS.heap.size 2 1 v ws.length (ws.flatMap inC)) (q1 : w8.ownsRow wS.heap.size 2 1 v8 (ws.length + 1) (ws.flatMap inC ++ inC x)) (q2 : (W.alloc ob).grownBy w8 v.ownBlock) :
    Below wS.heap.size wS w8 ∧ w8.ownsRow wS.heap.size 2 1 v8 (ws ++ [x]).length ((ws ++ [x]).flatMap inC) := by
  refine ⟨below_grown h h.size hr q2, ?_⟩
  rw [List.length_append, List.flatMap_append]
  simpa using q1
theorem whole_own {W w8 : World} {g b k n : Nat} {t e : TypeId} {cs : Array Value} {v : Value} {xs : List Value} {ob : Obj} (h : Whole W g t cs) (hr : W.ownsRow b e k v n xs) (hte : t ≠ e) (q2 : (W.alloc ob).grownBy w8 v.ownBlock) : Whole w8 g t cs := by
  have hk : Kept (fun i => some i = v.ownBlock) W w8 := ((Kept.refl _ W).alloc ob).grown q2 (fun i hi => .inl hi.symm)
  exact h.kept hk (h.not_row hte hr)

set_option maxRecDepth 100000 in
set_option maxHeartbeats 8000000 in
theorem captureOrder_walk (s : Sl) (os : List Oe) (m : Nat) (hm : m < 256) (w : World) (ho : RSrc oeC 4 w s os) : Calls Try.prog 6 #[s.v, .int .u8 (m : Int)] w fun e w' => e = .returned (.bool true) ∧ Below w.heap.size w w' := by
  have HA := Lib.hid (fun W => alive_any W)
  have hl := ho.len
  have hmx := Nat.le_trans ho.cap ho.max
  have HO := Lib.hid ho
  obtain ⟨A, N, c⟩ := s
  unfold Sl.v
  dsimp only at *
  clear ho
  by_cases hN : N ≤ 40
  · obtain ⟨n, hn⟩ : ∃ n, n = m % 16 := ⟨_, rfl⟩
    have hn16 : n < 16 := by omega
    have c1 : IntKind.i64.wrap (m : Int) = (m : Int) := IntWalk.i64_in _ (by omega)
    have c2 : (m : Int).tmod 16 = (n : Int) := by rw [Int.tmod_eq_emod_of_nonneg (by omega)]; omega
    have HNN := Lib.hid hn
    clear hn
    have H0 := Lib.hid (fun W (hW : Below w.heap.size w W) => law_new hW)
    go_enter Try.func6, Try.ntmps6
    go_wp2_with (go_at_call 23; refine (HA.out _).mono ?_; rintro e w1 ⟨rfl, hb1⟩; have HB1 := Lib.hid hb1; clear hb1)
    rw [capC_lit] at H0
    have hl1 := H0.out w1 HB1.out
    have hz1 : (w1.alloc (.cells #[.int .i64 0, .bool false, .int .i64 0, .bool false, .int .i64 0, .bool false, .int .i64 0, .bool false, .int .i64 0, .bool false, .int .i64 0, .bool false, .int .i64 0, .bool false, .int .i64 0, .bool false, .int .i64 0, .bool false, .int .i64 0, .bool false, .int .i64 0, .bool false, .int .i64 0, .bool false, .int .i64 0, .bool false, .int .i64 0, .bool false, .int .i64 0, .bool false, .int .i64 0, .bool false, .int .i64 0, .bool false, .int .i64 0, .bool false, .int .i64 0, .bool false, .int .i64 0, .bool false, .int .i64 0, .bool false, .int .i64 0, .bool false, .int .i64 0, .bool false, .int .i64 0, .bool false, .int .i64 0, .bool false, .int .i64 0, .bool false, .int .i64 0, .bool false, .int .i64 0, .bool false, .int .i64 0, .bool false, .int .i64 0, .bool false, .int .i64 0, .bool false, .int .i64 0, .bool false] 31)).heap.size = w1.heap.size + 1 := by simp
    have hl2 := H0.out (w1.alloc (.cells #[.int .i64 0, .bool false, .int .i64 0, .bool false, .int .i64 0, .bool false, .int .i64 0, .bool false, .int .i64 0, .bool false, .int .i64 0, .bool false, .int .i64 0, .bool false, .int .i64 0, .bool false, .int .i64 0, .bool false, .int .i64 0, .bool false, .int .i64 0, .bool false, .int .i64 0, .bool false, .int .i64 0, .bool false, .int .i64 0, .bool false, .int .i64 0, .bool false, .int .i64 0, .bool false, .int .i64 0, .bool false, .int .i64 0, .bool false, .int .i64 0, .bool false, .int .i64 0, .bool false, .int .i64 0, .bool false, .int .i64 0, .bool false, .int .i64 0, .bool false, .int .i64 0, .bool false, .int .i64 0, .bool false, .int .i64 0, .bool false, .int .i64 0, .bool false, .int .i64 0, .bool false, .int .i64 0, .bool false, .int .i64 0, .bool false, .int .i64 0, .bool false, .int .i64 0, .bool false] 31)) hl1.below
    have hl3 := hl1.later ((Below.refl (w1.alloc (.cells #[.int .i64 0, .bool false, .int .i64 0, .bool false, .int .i64 0, .bool false, .int .i64 0, .bool false, .int .i64 0, .bool false, .int .i64 0, .bool false, .int .i64 0, .bool false, .int .i64 0, .bool false, .int .i64 0, .bool false, .int .i64 0, .bool false, .int .i64 0, .bool false, .int .i64 0, .bool false, .int .i64 0, .bool false, .int .i64 0, .bool false, .int .i64 0, .bool false, .int .i64 0, .bool false, .int .i64 0, .bool false, .int .i64 0, .bool false, .int .i64 0, .bool false, .int .i64 0, .bool false, .int .i64 0, .bool false, .int .i64 0, .bool false, .int .i64 0, .bool false, .int .i64 0, .bool false, .int .i64 0, .bool false, .int .i64 0, .bool false, .int .i64 0, .bool false, .int .i64 0, .bool false, .int .i64 0, .bool false, .int .i64 0, .bool false, .int .i64 0, .bool false, .int .i64 0, .bool false] 31)).heap.size (w1.alloc (.cells #[.int .i64 0, .bool false, .int .i64 0, .bool false, .int .i64 0, .bool false, .int .i64 0, .bool false, .int .i64 0, .bool false, .int .i64 0, .bool false, .int .i64 0, .bool false, .int .i64 0, .bool false, .int .i64 0, .bool false, .int .i64 0, .bool false, .int .i64 0, .bool false, .int .i64 0, .bool false, .int .i64 0, .bool false, .int .i64 0, .bool false, .int .i64 0, .bool false, .int .i64 0, .bool false, .int .i64 0, .bool false, .int .i64 0, .bool false, .int .i64 0, .bool false, .int .i64 0, .bool false, .int .i64 0, .bool false, .int .i64 0, .bool false, .int .i64 0, .bool false, .int .i64 0, .bool false, .int .i64 0, .bool false, .int .i64 0, .bool false, .int .i64 0, .bool false, .int .i64 0, .bool false, .int .i64 0, .bool false, .int .i64 0, .bool false, .int .i64 0, .bool false, .int .i64 0, .bool false] 31))).alloc (Nat.le_refl _) (.cells #[.int .i64 0, .bool false, .int .i64 0, .bool false, .int .i64 0, .bool false, .int .i64 0, .bool false, .int .i64 0, .bool false, .int .i64 0, .bool false, .int .i64 0, .bool false, .int .i64 0, .bool false, .int .i64 0, .bool false, .int .i64 0, .bool false, .int .i64 0, .bool false, .int .i64 0, .bool false, .int .i64 0, .bool false, .int .i64 0, .bool false, .int .i64 0, .bool false, .int .i64 0, .bool false, .int .i64 0, .bool false, .int .i64 0, .bool false, .int .i64 0, .bool false, .int .i64 0, .bool false, .int .i64 0, .bool false, .int .i64 0, .bool false, .int .i64 0, .bool false, .int .i64 0, .bool false, .int .i64 0, .bool false, .int .i64 0, .bool false, .int .i64 0, .bool false, .int .i64 0, .bool false, .int .i64 0, .bool false, .int .i64 0, .bool false, .int .i64 0, .bool false, .int .i64 0, .bool false] 31))
    rw [hz1] at hl2
    have HL1 := Lib.hid (And.intro hl3 hl2)
    clear hl1 hl2 hl3 hz1
    generalize ((w1.alloc _).alloc _ : World) = w2 at *
    obtain ⟨a0, ha0⟩ : ∃ a0, a0 = w1.heap.size := ⟨_, rfl⟩
    rw [← ha0] at HL1 ⊢
    obtain ⟨d0, hd0⟩ : ∃ d0, d0 = a0 + 1 := ⟨_, rfl⟩
    rw [← hd0] at HL1 ⊢
    have hne : a0 ≠ d0 := by omega
    clear ha0 hd0 H0 HA
    obtain ⟨i0, hi, hz0, hz1, hz2⟩ := info_parts i_oe
    have HI0 := Lib.hid (And.intro hi (And.intro hz0 (And.intro hz1 hz2)))
    clear hi hz0 hz1 hz2
    go_loopw [8, 29] (fun rv iv wr => ∃ (k : Nat) (D : List Oe), (k ≤ N ∧ D.length ≤ k ∧ GoodD D) ∧ iv = .int .i64 (k : Int) ∧ DnW w a0 D rv wr ∧ LawC w d0 noCa wr) (fun _ iv _ => N - (intOf iv).toNat)
    case atStart => exact ⟨0, [], ⟨Nat.zero_le _, Nat.zero_le _, good_nil⟩, rfl, dn_start HL1.out.1, HL1.out.2⟩
    case round =>
      obtain ⟨k, D, ⟨hk, hdk, hgd⟩, rfl, hW, hWd⟩ := hrel
      have HWD := Lib.hid hWd
      have HW := Lib.hid hW
      have HG := Lib.hid hgd
      by_cases hlt : k < N
      · as_aux_lemma =>
        obtain ⟨g, o, hA0, hA2⟩ := (HO.out.later hW.lc.below).get (i := k) hlt
        dsimp only at hA0
        subst hA0
        obtain ⟨⟨ok, on, oc, ov⟩, hx⟩ : ∃ o, o = os.getD k default := ⟨_, rfl⟩
        rw [← hx] at hA2
        obtain ⟨q0, q1, q2, q3⟩ := oeC_cells hA2
        clear hx
        have e1 : (0 : Int) ≤ (k : Int) := by omega
        have e2 : (k : Int) < (N : Int) := by omega
        obtain ⟨w3, hw3⟩ : ∃ w3, w3 = wr.alloc (.cells #[.int .i64 ok, .int .i64 on, .int .i64 oc, .int .i64 ov] 40) := ⟨_, rfl⟩
        have hb3 : Below wr.heap.size wr w3 := by rw [hw3]; exact (Below.refl _ _).alloc (Nat.le_refl _) _
        have h3w : Whole w3 wr.heap.size 40 #[.int .i64 ok, .int .i64 on, .int .i64 oc, .int .i64 ov] := by rw [hw3]; exact Whole.new _ _ _
        have HW3 := Lib.hid (HW.out.later hb3)
        have HD3 := Lib.hid (HWD.out.later hb3)
        have HN := Lib.hid (law_note HW3.out.lc on oc ov)
        have HX3 := Lib.hid h3w
        have hal : wr.heap.size ≠ a0 := by have := HW.out.lc.cap.lt; omega
        rw [hw3] at HN HX3 HW3 HD3
        clear hA2 hW hWd hgd hw3 hb3 h3w
        cases hok : okB (look D) on oc ov
        · rw [(note_no hok).1, (note_no hok).2] at HN
          clear hok
          go_wp2_with (go_at_call 19; refine HN.out.mono ?_; rintro e w4 ⟨rfl, h4, h4k⟩; have H4 := Lib.hid (show DnW w a0 D _ w4 from ⟨h4, HW3.out.note h4k⟩); have HD4 := Lib.hid (HD3.out.far h4k (Ne.symm hne) h4.below); clear h4 h4k)
          go_roundw
          case rel => exact ⟨k + 1, D, ⟨by omega, by omega, HG.out⟩, by go_num, H4.out, HD4.out⟩
          case measure => simp [intOf]; omega
        · obtain ⟨hg2, hf2⟩ := good_snoc (o := ⟨ok, on, oc, ov⟩) HG.out hok
          dsimp only at hf2
          rw [(note_ok hok).1, hf2] at HN
          have HG2 := Lib.hid hg2
          clear hok hg2 hf2
          obtain ⟨hi, hz0, hz1, hz2⟩ := HI0.out
          go_wp2_with (first
            | (go_at_call 19; refine HN.out.mono ?_; rintro e w4 ⟨rfl, h4, h4k⟩; have H4 := Lib.hid h4; have HR4 := Lib.hid (HW3.out.note h4k); have HD4 := Lib.hid (HD3.out.far h4k (Ne.symm hne) h4.below); have r0 := (HX3.out.kept h4k.2 hal).cell 0; have r1 := (HX3.out.kept h4k.2 hal).cell 1; have r2 := (HX3.out.kept h4k.2 hal).cell 2; have r3 := (HX3.out.kept h4k.2 hal).cell 3; simp at r0 r1 r2 r3; clear h4 h4k)
            | (at_builtin; refine wpList_append_own_at _ rfl (.tmp 41) (.tmp 43) 22 rfl w.heap.size 40 i0 (.agg #[.int .i64 0, .int .i64 0, .int .i64 0, .int .i64 0]) 4 32 Try.underlying22 hi hz0 hz1 hz2 rfl (by omega) u8 D.length (D.flatMap oeC) rfl (HR4.out.alloc _) ⟨w4.heap.size, 0, none⟩ 1 1 [.int .i64 ok, .int .i64 on, .int .i64 oc, .int .i64 ov] rfl rfl (fun j u hu => World.news_of_block (Whole.new w4 _ _) j u hu) (fun u hu => oeC_one ⟨ok, on, oc, ov⟩ u hu) (by simp only [maxLen]; omega) (by omega) (by have := H4.out.below.size; simp; omega) ?_; intro v8 w8 y1 y2 y3 y4; have H8 := Lib.hid (dn_add H4.out HR4.out y1 y2); have HD8 := Lib.hid (law_grown HD4.out HR4.out (by decide) y2); clear y1 y2 y3 y4))
          go_roundw
          case rel => exact ⟨k + 1, D ++ [⟨ok, on, oc, ov⟩], ⟨by omega, by simp; omega, HG2.out⟩, by go_num, H8.out, HD8.out⟩
          case measure => simp [intOf]; omega
      · have hap := row_apart (w := w) hWd.cap hW.row
        obtain ⟨Ad, cd, hv, hsD, hfD⟩ := hW.slice
        have hag : AgW w a0 d0 (look D) (look (D.drop D.length)) ⟨Ad, D.length, cd⟩ D nilS [] wr := by
          rw [List.drop_length, look_nil]
          refine ⟨hW.lc, hWd, hne, hsD, RSrc.nil _, fun ad e h0 => ⟨hfD ad e, hap ad.block ?_⟩, fun ad e h0 => by cases e⟩
          have e : Ad = some ad := e
          rw [hv, e]
          rfl
        subst hv
        obtain ⟨L, hL⟩ : ∃ L, L = listC (look D) := ⟨_, rfl⟩
        obtain ⟨z, hz⟩ : ∃ z, z = L.length := ⟨_, rfl⟩
        obtain ⟨M, hM⟩ : ∃ M, M = D.length := ⟨_, rfl⟩
        rw [← hM] at hag ⊢
        have HAG := Lib.hid hag
        have HL := Lib.hid (And.intro hL (And.intro hz hM))
        have hMN : M ≤ 40 := by omega
        have hzN : z ≤ 16 := by rw [hz, hL]; exact listTo_len _ 16
        clear hW HW hWd HWD hsD hfD hap hL hz hM hgd hag
        go_upto_region 13 with fail
        go_loopw [11] (fun iv wr => ∃ (k : Nat) (x : Int), k ≤ M ∧ iv = .int .i64 x ∧ x = (k : Int) - 1 ∧ AgW w a0 d0 (look D) (look (D.drop k)) ⟨Ad, M, cd⟩ D nilS [] wr) (fun iv _ => (intOf iv + 1).toNat)
        case atStart => exact ⟨M, _, Nat.le_refl _, rfl, rfl, HAG.out⟩
        case round =>
          obtain ⟨k2, x, hk2, rfl, hx, hW2⟩ := hrel
          have HW := Lib.hid hW2
          rcases Nat.eq_zero_or_pos k2 with h0 | h0
          · subst h0
            obtain rfl : x = -1 := by omega
            have h5 := HW.out
            rw [List.drop_zero] at h5
            have H5 := Lib.hid h5
            have HLI := Lib.hid (fun W (h : AgW w a0 d0 (look D) (look D) ⟨Ad, M, cd⟩ D nilS [] W) => ag_listA h)
            rw [← HL.out.1, ← HL.out.2.1] at HLI
            clear hW2 HW h5 HAG hx
            go_upto_region 22 with (go_at_call 12; refine (HLI.out _ H5.out).mono ?_; rintro e w5 ⟨A1, d1, rfl, hr, h6⟩; have H6 := Lib.hid h6; have HR := Lib.hid hr; clear hr h6 HLI)
            obtain ⟨i1, ji, jz0, jz1, jz2⟩ := info_parts i_i64
            have HI1 := Lib.hid (And.intro ji (And.intro jz0 (And.intro jz1 jz2)))
            clear ji jz0 jz1 jz2 HI0
            go_loopw [14, 15, 76] (fun rv pv iv wr => ∃ (j : Nat), j ≤ z ∧ iv = .int .i64 (j : Int) ∧ pv = .bool (stW n (L.take j)).2 ∧ Below w5.heap.size w5 wr ∧ wr.ownsRow w5.heap.size 2 1 rv (stW n (L.take j)).1.length ((stW n (L.take j)).1.flatMap inC)) (fun _ _ iv _ => z - (intOf iv).toNat)
            case atStart => exact ⟨0, Nat.zero_le _, rfl, rfl, Below.refl _ _, ⟨rfl, .inl ⟨rfl, rfl⟩⟩⟩
            case round =>
              obtain ⟨j, hj, rfl, rfl, hb, hrow⟩ := hrel
              have HB := Lib.hid hb
              have HRW := Lib.hid hrow
              by_cases hlt3 : j < z
              · as_aux_lemma =>
                obtain ⟨g2, o2, hB0, hB2⟩ := (HR.out.later hb).get (i := j) hlt3
                dsimp only at hB0
                subst hB0
                have htk := takeD_more (L := L) (k := j) (by rw [← HL.out.2.1]; exact hlt3)
                have hlen := stW_len n (L.take j)
                rw [List.length_take] at hlen
                obtain ⟨⟨xn, xv⟩, hx⟩ : ∃ o, o = L.getD j default := ⟨_, rfl⟩
                have hprev : 0 < j → ∃ pn : Nat, wr.cell? ⟨g2, o2 + (j - 1) * 2, none⟩ = some (.int .i64 (pn : Int)) ∧ pn < xn := fun h0 => by
                  obtain ⟨g3, o3, hC0, hC2⟩ := (HR.out.later hb).get (i := j - 1) (by show j - 1 < z; omega)
                  dsimp only at hC0
                  cases hC0
                  have hr := list_apart (f := look D) (j := j - 1) (k := j) (by omega) (by rw [← HL.out.1, ← HL.out.2.1]; exact hlt3)
                  rw [← HL.out.1, ← hx] at hr
                  exact ⟨_, (deC_cells hC2).1, hr⟩
                rw [← hx] at hB2 htk
                obtain ⟨b0, b1⟩ := deC_cells hB2
                dsimp only at b0 b1
                have e1 : (0 : Int) ≤ (j : Int) := by omega
                have e2 : (j : Int) < (z : Int) := by omega
                obtain ⟨ws, p, hs⟩ : ∃ ws p, stW n (L.take j) = (ws, p) := ⟨_, _, rfl⟩
                rw [hs] at hrow hlen ⊢
                dsimp only at hrow hlen ⊢
                have hnew : stW n (L.take (j + 1)) = stepW n (ws, p) ⟨xn, xv⟩ := by rw [htk, stW_snoc, hs]
                obtain ⟨w6, hw6⟩ : ∃ w6, w6 = wr.alloc (.cells #[.int .i64 (xn : Int), .int .i64 xv] 51) := ⟨_, rfl⟩
                have hb6 : Below wr.heap.size wr w6 := by rw [hw6]; exact (Below.refl _ _).alloc (Nat.le_refl _) _
                have hX6 : Whole w6 wr.heap.size 51 #[.int .i64 (xn : Int), .int .i64 xv] := by rw [hw6]; exact Whole.new _ _ _
                have HX6 := Lib.hid hX6
                have HB6 := Lib.hid (And.intro (k_then hb6 hb) (own_kept hrow (Kept.of_below hb6 Empty) (fun _ _ h => h)))
                have HW6 := Lib.hid hw6
                have x0 := hX6.cell 0
                have x1 := hX6.cell 1
                simp at x0 x1
                have HXN := Lib.hid (And.intro hnew (And.intro hb6 hlen))
                have hpr : 0 < j → ∃ pn : Nat, w6.cell? ⟨g2, o2 + (j - 1) * 2, none⟩ = some (.int .i64 (pn : Int)) ∧ pn < xn := fun h0 => by
                  obtain ⟨pn, h1, h2⟩ := hprev h0
                  exact ⟨pn, k_cell hb6 h1, h2⟩
                have HPR := Lib.hid hpr
                obtain ⟨ji, jz0, jz1, jz2⟩ := HI1.out
                clear hprev hpr hnew hlen htk hs hx hB2 hrow hb HRW hb6 hX6 hw6 HR H5 HL
                have HWAY := Lib.hid (show (xn < n ∧ (p = p)) ∨ (xn = n ∧ p = false) ∨ (xn = n ∧ p = true) ∨ (n < xn ∧ p = true) ∨ (n < xn ∧ p = false) from by
                  cases p <;> simp <;> omega)
                have HJ := Lib.hid (Nat.eq_zero_or_pos j)
                rcases HWAY.out with ⟨hl1, _⟩ | ⟨hl1, rfl⟩ | ⟨hl1, rfl⟩ | ⟨hl1, rfl⟩ | ⟨hl1, rfl⟩
                · have hst := HXN.out.1
                  rw [step_lt (show (De.mk xn xv).n < n from hl1)] at hst
                  have HST := Lib.hid hst
                  have f1 : ((n : Int) ≤ (xn : Int)) = False := by simp; omega
                  have f2 : ((xn : Int) == (n : Int)) = false := beq_eq_false_iff_ne.2 (by omega)
                  have f3 : ((xn : Int) != (n : Int)) = true := by simp [bne, f2]
                  have HLX := Lib.hid hl1
                  clear HWAY hst hl1
                  rcases HJ.out with h0 | h0
                  · subst h0
                    rw [Nat.zero_mul, Nat.add_zero] at b0 b1
                    clear HJ HPR
                    go_upto_region 24 with fail
                    rw [← HW6.out]
                    go_quiet (fail)
                    have HV := Lib.hid (show Below w5.heap.size w5 (w6.drewN nq) ∧ (w6.drewN nq).ownsRow w5.heap.size 2 1 u14 ws.length (ws.flatMap inC) from ⟨below_drewN HB6.out.1 nq, HB6.out.2⟩)
                    have HVX := Lib.hid (show Whole (w6.drewN nq) wr.heap.size 51 #[.int .i64 (xn : Int), .int .i64 xv] from HX6.out)
                    generalize w6.drewN nq = V at *
                    have x0 := HVX.out.cell 0
                    have x1 := HVX.out.cell 1
                    simp at x0 x1
                    go_wp2_with (first
                      | (at_builtin; refine wpList_append_own_at _ rfl (.tmp 109) (.tmp 112) 45 rfl w5.heap.size 2 i1 (.int .i64 0) 1 8 Try.underlying45 ji jz0 jz1 jz2 rfl (by decide) u14 (ws).length ((ws).flatMap inC) rfl (HV.out.2.alloc _) ⟨V.heap.size, 0, none⟩ 1 1 (inC xv) rfl rfl (fun j u hu => World.news_of_block (Whole.new V _ _) j u hu) (fun u hu => inC_one ⟨0, xv⟩ u hu) (by have := HXN.out.2.2; simp only [maxLen]; (try simp only [List.length_append, List.length_cons, List.length_nil]); omega) (by have := HXN.out.2.2; (try simp only [List.length_append, List.length_cons, List.length_nil]); omega) (by have := HV.out.1.size; simp; omega) ?_; intro v8 w8 y1 y2 y3 y4; have H8 := Lib.hid (app_more HV.out.1 HV.out.2 y1 y2); have G8 := Lib.hid y2; clear y1 y2 y3 y4))
                    go_roundw
                    case rel => exact ⟨0 + 1, by omega, by go_num, by rw [HST.out], H8.out.1, by rw [HST.out]; exact H8.out.2⟩
                    case measure => simp [intOf]; omega
                  · obtain ⟨j, rfl⟩ : ∃ k, j = k + 1 := ⟨j - 1, by omega⟩
                    obtain ⟨pn, p0, p1⟩ := HPR.out (by omega)
                    rw [Nat.add_sub_cancel] at p0
                    have g1 : decide ((0 : Int) < ((j + 1 : Nat) : Int)) = true := decide_eq_true (by omega)
                    have g2' : decide ((0 : Int) < (j : Int) + 1) = true := decide_eq_true (by omega)
                    have g3 : decide ((xn : Int) ≤ (pn : Int)) = false := decide_eq_false (by omega)
                    have g4 : (0 : Int) ≤ (j : Int) := by omega
                    have g5 : (j : Int) < (z : Int) := by omega
                    clear HJ HPR h0
                    go_upto_region 24 with fail
                    rw [← HW6.out]
                    go_quiet (fail)
                    have HV := Lib.hid (show Below w5.heap.size w5 (w6.drewN nq) ∧ (w6.drewN nq).ownsRow w5.heap.size 2 1 u14 ws.length (ws.flatMap inC) from ⟨below_drewN HB6.out.1 nq, HB6.out.2⟩)
                    have HVX := Lib.hid (show Whole (w6.drewN nq) wr.heap.size 51 #[.int .i64 (xn : Int), .int .i64 xv] from HX6.out)
                    generalize w6.drewN nq = V at *
                    have x0 := HVX.out.cell 0
                    have x1 := HVX.out.cell 1
                    simp at x0 x1
                    go_wp2_with (first
                      | (at_builtin; refine wpList_append_own_at _ rfl (.tmp 109) (.tmp 112) 45 rfl w5.heap.size 2 i1 (.int .i64 0) 1 8 Try.underlying45 ji jz0 jz1 jz2 rfl (by decide) u14 (ws).length ((ws).flatMap inC) rfl (HV.out.2.alloc _) ⟨V.heap.size, 0, none⟩ 1 1 (inC xv) rfl rfl (fun j u hu => World.news_of_block (Whole.new V _ _) j u hu) (fun u hu => inC_one ⟨0, xv⟩ u hu) (by have := HXN.out.2.2; simp only [maxLen]; (try simp only [List.length_append, List.length_cons, List.length_nil]); omega) (by have := HXN.out.2.2; (try simp only [List.length_append, List.length_cons, List.length_nil]); omega) (by have := HV.out.1.size; simp; omega) ?_; intro v8 w8 y1 y2 y3 y4; have H8 := Lib.hid (app_more HV.out.1 HV.out.2 y1 y2); have G8 := Lib.hid y2; clear y1 y2 y3 y4))
                    go_roundw
                    case rel => exact ⟨(j + 1) + 1, by omega, by go_num, by rw [HST.out], H8.out.1, by rw [HST.out]; exact H8.out.2⟩
                    case measure => simp [intOf]; omega
                · have hst := HXN.out.1
                  rw [step_at (show (De.mk xn xv).n = n from hl1) rfl] at hst
                  have HST := Lib.hid hst
                  have f2 : ((xn : Int) == (n : Int)) = true := beq_iff_eq.2 (by omega)
                  have f3 : ((xn : Int) != (n : Int)) = false := by simp [bne, f2]
                  have f1 : (n : Int) ≤ (xn : Int) := by omega
                  have HLX := Lib.hid hl1
                  clear HWAY hst hl1
                  rcases HJ.out with h0 | h0
                  · subst h0
                    rw [Nat.zero_mul, Nat.add_zero] at b0 b1
                    clear HJ HPR
                    go_upto_region 24 with fail
                    rw [← HW6.out]
                    go_quiet (fail)
                    have HV := Lib.hid (show Below w5.heap.size w5 (w6.drewN nq) ∧ (w6.drewN nq).ownsRow w5.heap.size 2 1 u14 ws.length (ws.flatMap inC) from ⟨below_drewN HB6.out.1 nq, HB6.out.2⟩)
                    have HVX := Lib.hid (show Whole (w6.drewN nq) wr.heap.size 51 #[.int .i64 (xn : Int), .int .i64 xv] from HX6.out)
                    generalize w6.drewN nq = V at *
                    have x0 := HVX.out.cell 0
                    have x1 := HVX.out.cell 1
                    simp at x0 x1
                    go_wp2_with (first
                      | (at_builtin; refine wpList_append_own_at _ rfl (.tmp 102) (.tmp 103) 45 rfl w5.heap.size 2 i1 (.int .i64 0) 1 8 Try.underlying45 ji jz0 jz1 jz2 rfl (by decide) u14 (ws).length ((ws).flatMap inC) rfl (HV.out.2.alloc _) ⟨V.heap.size, 0, none⟩ 1 1 (inC 0) rfl rfl (fun j u hu => World.news_of_block (Whole.new V _ _) j u hu) (fun u hu => inC_one ⟨0, 0⟩ u hu) (by have := HXN.out.2.2; simp only [maxLen]; (try simp only [List.length_append, List.length_cons, List.length_nil]); omega) (by have := HXN.out.2.2; (try simp only [List.length_append, List.length_cons, List.length_nil]); omega) (by have := HV.out.1.size; simp; omega) ?_; intro v8 w8 y1 y2 y3 y4; have H8 := Lib.hid (app_more HV.out.1 HV.out.2 y1 y2); have G8 := Lib.hid y2; clear y1 y2 y3 y4; have z0 := (whole_own (HVX.out) (HV.out.2) (by decide) G8.out).cell 0; have z1 := (whole_own (HVX.out) (HV.out.2) (by decide) G8.out).cell 1; simp at z0 z1))
                    go_roundw
                    case rel => exact ⟨0 + 1, by omega, by go_num, by rw [HST.out], H8.out.1, by rw [HST.out]; exact H8.out.2⟩
                    case measure => simp [intOf]; omega
                  · obtain ⟨j, rfl⟩ : ∃ k, j = k + 1 := ⟨j - 1, by omega⟩
                    obtain ⟨pn, p0, p1⟩ := HPR.out (by omega)
                    rw [Nat.add_sub_cancel] at p0
                    have g1 : decide ((0 : Int) < ((j + 1 : Nat) : Int)) = true := decide_eq_true (by omega)
                    have g2' : decide ((0 : Int) < (j : Int) + 1) = true := decide_eq_true (by omega)
                    have g3 : decide ((xn : Int) ≤ (pn : Int)) = false := decide_eq_false (by omega)
                    have g4 : (0 : Int) ≤ (j : Int) := by omega
                    have g5 : (j : Int) < (z : Int) := by omega
                    clear HJ HPR h0
                    go_upto_region 24 with fail
                    rw [← HW6.out]
                    go_quiet (fail)
                    have HV := Lib.hid (show Below w5.heap.size w5 (w6.drewN nq) ∧ (w6.drewN nq).ownsRow w5.heap.size 2 1 u14 ws.length (ws.flatMap inC) from ⟨below_drewN HB6.out.1 nq, HB6.out.2⟩)
                    have HVX := Lib.hid (show Whole (w6.drewN nq) wr.heap.size 51 #[.int .i64 (xn : Int), .int .i64 xv] from HX6.out)
                    generalize w6.drewN nq = V at *
                    have x0 := HVX.out.cell 0
                    have x1 := HVX.out.cell 1
                    simp at x0 x1
                    go_wp2_with (first
                      | (at_builtin; refine wpList_append_own_at _ rfl (.tmp 102) (.tmp 103) 45 rfl w5.heap.size 2 i1 (.int .i64 0) 1 8 Try.underlying45 ji jz0 jz1 jz2 rfl (by decide) u14 (ws).length ((ws).flatMap inC) rfl (HV.out.2.alloc _) ⟨V.heap.size, 0, none⟩ 1 1 (inC 0) rfl rfl (fun j u hu => World.news_of_block (Whole.new V _ _) j u hu) (fun u hu => inC_one ⟨0, 0⟩ u hu) (by have := HXN.out.2.2; simp only [maxLen]; (try simp only [List.length_append, List.length_cons, List.length_nil]); omega) (by have := HXN.out.2.2; (try simp only [List.length_append, List.length_cons, List.length_nil]); omega) (by have := HV.out.1.size; simp; omega) ?_; intro v8 w8 y1 y2 y3 y4; have H8 := Lib.hid (app_more HV.out.1 HV.out.2 y1 y2); have G8 := Lib.hid y2; clear y1 y2 y3 y4; have z0 := (whole_own (HVX.out) (HV.out.2) (by decide) G8.out).cell 0; have z1 := (whole_own (HVX.out) (HV.out.2) (by decide) G8.out).cell 1; simp at z0 z1))
                    go_roundw
                    case rel => exact ⟨(j + 1) + 1, by omega, by go_num, by rw [HST.out], H8.out.1, by rw [HST.out]; exact H8.out.2⟩
                    case measure => simp [intOf]; omega
                · have hst := HXN.out.1
                  rw [step_in (show (De.mk xn xv).n = n from hl1) rfl] at hst
                  have HST := Lib.hid hst
                  have f2 : ((xn : Int) == (n : Int)) = true := beq_iff_eq.2 (by omega)
                  have f3 : ((xn : Int) != (n : Int)) = false := by simp [bne, f2]
                  have f1 : (n : Int) ≤ (xn : Int) := by omega
                  have HLX := Lib.hid hl1
                  clear HWAY hst hl1
                  rcases HJ.out with h0 | h0
                  · subst h0
                    rw [Nat.zero_mul, Nat.add_zero] at b0 b1
                    clear HJ HPR
                    go_upto_region 24 with fail
                    rw [← HW6.out]
                    go_quiet (fail)
                    have HV := Lib.hid (show Below w5.heap.size w5 (w6.drewN nq) ∧ (w6.drewN nq).ownsRow w5.heap.size 2 1 u14 ws.length (ws.flatMap inC) from ⟨below_drewN HB6.out.1 nq, HB6.out.2⟩)
                    have HVX := Lib.hid (show Whole (w6.drewN nq) wr.heap.size 51 #[.int .i64 (xn : Int), .int .i64 xv] from HX6.out)
                    generalize w6.drewN nq = V at *
                    have x0 := HVX.out.cell 0
                    have x1 := HVX.out.cell 1
                    simp at x0 x1
                    go_wp2
                    go_roundw
                    case rel => exact ⟨0 + 1, by omega, by go_num, by rw [HST.out], HV.out.1, by rw [HST.out]; exact HV.out.2⟩
                    case measure => simp [intOf]; omega
                  · obtain ⟨j, rfl⟩ : ∃ k, j = k + 1 := ⟨j - 1, by omega⟩
                    obtain ⟨pn, p0, p1⟩ := HPR.out (by omega)
                    rw [Nat.add_sub_cancel] at p0
                    have g1 : decide ((0 : Int) < ((j + 1 : Nat) : Int)) = true := decide_eq_true (by omega)
                    have g2' : decide ((0 : Int) < (j : Int) + 1) = true := decide_eq_true (by omega)
                    have g3 : decide ((xn : Int) ≤ (pn : Int)) = false := decide_eq_false (by omega)
                    have g4 : (0 : Int) ≤ (j : Int) := by omega
                    have g5 : (j : Int) < (z : Int) := by omega
                    clear HJ HPR h0
                    go_upto_region 24 with fail
                    rw [← HW6.out]
                    go_quiet (fail)
                    have HV := Lib.hid (show Below w5.heap.size w5 (w6.drewN nq) ∧ (w6.drewN nq).ownsRow w5.heap.size 2 1 u14 ws.length (ws.flatMap inC) from ⟨below_drewN HB6.out.1 nq, HB6.out.2⟩)
                    have HVX := Lib.hid (show Whole (w6.drewN nq) wr.heap.size 51 #[.int .i64 (xn : Int), .int .i64 xv] from HX6.out)
                    generalize w6.drewN nq = V at *
                    have x0 := HVX.out.cell 0
                    have x1 := HVX.out.cell 1
                    simp at x0 x1
                    go_wp2
                    go_roundw
                    case rel => exact ⟨(j + 1) + 1, by omega, by go_num, by rw [HST.out], HV.out.1, by rw [HST.out]; exact HV.out.2⟩
                    case measure => simp [intOf]; omega
                · have hst := HXN.out.1
                  rw [step_gt (show n < (De.mk xn xv).n from hl1) rfl] at hst
                  have HST := Lib.hid hst
                  have f2 : ((xn : Int) == (n : Int)) = false := beq_eq_false_iff_ne.2 (by omega)
                  have f3 : ((xn : Int) != (n : Int)) = true := by simp [bne, f2]
                  have f1 : (n : Int) ≤ (xn : Int) := by omega
                  have HLX := Lib.hid hl1
                  clear HWAY hst hl1
                  rcases HJ.out with h0 | h0
                  · subst h0
                    rw [Nat.zero_mul, Nat.add_zero] at b0 b1
                    clear HJ HPR
                    go_upto_region 24 with fail
                    rw [← HW6.out]
                    go_quiet (fail)
                    have HV := Lib.hid (show Below w5.heap.size w5 (w6.drewN nq) ∧ (w6.drewN nq).ownsRow w5.heap.size 2 1 u14 ws.length (ws.flatMap inC) from ⟨below_drewN HB6.out.1 nq, HB6.out.2⟩)
                    have HVX := Lib.hid (show Whole (w6.drewN nq) wr.heap.size 51 #[.int .i64 (xn : Int), .int .i64 xv] from HX6.out)
                    generalize w6.drewN nq = V at *
                    have x0 := HVX.out.cell 0
                    have x1 := HVX.out.cell 1
                    simp at x0 x1
                    go_wp2_with (first
                      | (at_builtin; refine wpList_append_own_at _ rfl (.tmp 109) (.tmp 112) 45 rfl w5.heap.size 2 i1 (.int .i64 0) 1 8 Try.underlying45 ji jz0 jz1 jz2 rfl (by decide) u14 (ws).length ((ws).flatMap inC) rfl (HV.out.2.alloc _) ⟨V.heap.size, 0, none⟩ 1 1 (inC xv) rfl rfl (fun j u hu => World.news_of_block (Whole.new V _ _) j u hu) (fun u hu => inC_one ⟨0, xv⟩ u hu) (by have := HXN.out.2.2; simp only [maxLen]; (try simp only [List.length_append, List.length_cons, List.length_nil]); omega) (by have := HXN.out.2.2; (try simp only [List.length_append, List.length_cons, List.length_nil]); omega) (by have := HV.out.1.size; simp; omega) ?_; intro v8 w8 y1 y2 y3 y4; have H8 := Lib.hid (app_more HV.out.1 HV.out.2 y1 y2); have G8 := Lib.hid y2; clear y1 y2 y3 y4))
                    go_roundw
                    case rel => exact ⟨0 + 1, by omega, by go_num, by rw [HST.out], H8.out.1, by rw [HST.out]; exact H8.out.2⟩
                    case measure => simp [intOf]; omega
                  · obtain ⟨j, rfl⟩ : ∃ k, j = k + 1 := ⟨j - 1, by omega⟩
                    obtain ⟨pn, p0, p1⟩ := HPR.out (by omega)
                    rw [Nat.add_sub_cancel] at p0
                    have g1 : decide ((0 : Int) < ((j + 1 : Nat) : Int)) = true := decide_eq_true (by omega)
                    have g2' : decide ((0 : Int) < (j : Int) + 1) = true := decide_eq_true (by omega)
                    have g3 : decide ((xn : Int) ≤ (pn : Int)) = false := decide_eq_false (by omega)
                    have g4 : (0 : Int) ≤ (j : Int) := by omega
                    have g5 : (j : Int) < (z : Int) := by omega
                    clear HJ HPR h0
                    go_upto_region 24 with fail
                    rw [← HW6.out]
                    go_quiet (fail)
                    have HV := Lib.hid (show Below w5.heap.size w5 (w6.drewN nq) ∧ (w6.drewN nq).ownsRow w5.heap.size 2 1 u14 ws.length (ws.flatMap inC) from ⟨below_drewN HB6.out.1 nq, HB6.out.2⟩)
                    have HVX := Lib.hid (show Whole (w6.drewN nq) wr.heap.size 51 #[.int .i64 (xn : Int), .int .i64 xv] from HX6.out)
                    generalize w6.drewN nq = V at *
                    have x0 := HVX.out.cell 0
                    have x1 := HVX.out.cell 1
                    simp at x0 x1
                    go_wp2_with (first
                      | (at_builtin; refine wpList_append_own_at _ rfl (.tmp 109) (.tmp 112) 45 rfl w5.heap.size 2 i1 (.int .i64 0) 1 8 Try.underlying45 ji jz0 jz1 jz2 rfl (by decide) u14 (ws).length ((ws).flatMap inC) rfl (HV.out.2.alloc _) ⟨V.heap.size, 0, none⟩ 1 1 (inC xv) rfl rfl (fun j u hu => World.news_of_block (Whole.new V _ _) j u hu) (fun u hu => inC_one ⟨0, xv⟩ u hu) (by have := HXN.out.2.2; simp only [maxLen]; (try simp only [List.length_append, List.length_cons, List.length_nil]); omega) (by have := HXN.out.2.2; (try simp only [List.length_append, List.length_cons, List.length_nil]); omega) (by have := HV.out.1.size; simp; omega) ?_; intro v8 w8 y1 y2 y3 y4; have H8 := Lib.hid (app_more HV.out.1 HV.out.2 y1 y2); have G8 := Lib.hid y2; clear y1 y2 y3 y4))
                    go_roundw
                    case rel => exact ⟨(j + 1) + 1, by omega, by go_num, by rw [HST.out], H8.out.1, by rw [HST.out]; exact H8.out.2⟩
                    case measure => simp [intOf]; omega
                · have hst := HXN.out.1
                  rw [step_go (show n < (De.mk xn xv).n from hl1) rfl] at hst
                  have HST := Lib.hid hst
                  have f2 : ((xn : Int) == (n : Int)) = false := beq_eq_false_iff_ne.2 (by omega)
                  have f3 : ((xn : Int) != (n : Int)) = true := by simp [bne, f2]
                  have f1 : (n : Int) ≤ (xn : Int) := by omega
                  have HLX := Lib.hid hl1
                  clear HWAY hst hl1
                  rcases HJ.out with h0 | h0
                  · subst h0
                    rw [Nat.zero_mul, Nat.add_zero] at b0 b1
                    clear HJ HPR
                    go_upto_region 24 with fail
                    rw [← HW6.out]
                    go_quiet (fail)
                    have HV := Lib.hid (show Below w5.heap.size w5 (w6.drewN nq) ∧ (w6.drewN nq).ownsRow w5.heap.size 2 1 u14 ws.length (ws.flatMap inC) from ⟨below_drewN HB6.out.1 nq, HB6.out.2⟩)
                    have HVX := Lib.hid (show Whole (w6.drewN nq) wr.heap.size 51 #[.int .i64 (xn : Int), .int .i64 xv] from HX6.out)
                    generalize w6.drewN nq = V at *
                    have x0 := HVX.out.cell 0
                    have x1 := HVX.out.cell 1
                    simp at x0 x1
                    go_wp2_with (first
                      | (at_builtin; refine wpList_append_own_at _ rfl (.tmp 102) (.tmp 103) 45 rfl w5.heap.size 2 i1 (.int .i64 0) 1 8 Try.underlying45 ji jz0 jz1 jz2 rfl (by decide) u14 (ws).length ((ws).flatMap inC) rfl (HV.out.2.alloc _) ⟨V.heap.size, 0, none⟩ 1 1 (inC 0) rfl rfl (fun j u hu => World.news_of_block (Whole.new V _ _) j u hu) (fun u hu => inC_one ⟨0, 0⟩ u hu) (by have := HXN.out.2.2; simp only [maxLen]; (try simp only [List.length_append, List.length_cons, List.length_nil]); omega) (by have := HXN.out.2.2; (try simp only [List.length_append, List.length_cons, List.length_nil]); omega) (by have := HV.out.1.size; simp; omega) ?_; intro v8 w8 y1 y2 y3 y4; have H8 := Lib.hid (app_more HV.out.1 HV.out.2 y1 y2); have G8 := Lib.hid y2; clear y1 y2 y3 y4; have z0 := (whole_own (HVX.out) (HV.out.2) (by decide) G8.out).cell 0; have z1 := (whole_own (HVX.out) (HV.out.2) (by decide) G8.out).cell 1; simp at z0 z1)
                      | (at_builtin; refine wpList_append_own_at _ rfl (.tmp 109) (.tmp 112) 45 rfl w5.heap.size 2 i1 (.int .i64 0) 1 8 Try.underlying45 ji jz0 jz1 jz2 rfl (by decide) v8 ((ws ++ [0])).length (((ws ++ [0])).flatMap inC) rfl (H8.out.2.alloc _) ⟨w8.heap.size, 0, none⟩ 1 1 (inC xv) rfl rfl (fun j u hu => World.news_of_block (Whole.new w8 _ _) j u hu) (fun u hu => inC_one ⟨0, xv⟩ u hu) (by have := HXN.out.2.2; simp only [maxLen]; (try simp only [List.length_append, List.length_cons, List.length_nil]); omega) (by have := HXN.out.2.2; (try simp only [List.length_append, List.length_cons, List.length_nil]); omega) (by have := H8.out.1.size; simp; omega) ?_; intro v9 w9 y1 y2 y3 y4; have H9 := Lib.hid (app_more H8.out.1 H8.out.2 y1 y2); have G9 := Lib.hid y2; clear y1 y2 y3 y4))
                    go_roundw
                    case rel => exact ⟨0 + 1, by omega, by go_num, by rw [HST.out], H9.out.1, by rw [HST.out]; exact H9.out.2⟩
                    case measure => simp [intOf]; omega
                  · obtain ⟨j, rfl⟩ : ∃ k, j = k + 1 := ⟨j - 1, by omega⟩
                    obtain ⟨pn, p0, p1⟩ := HPR.out (by omega)
                    rw [Nat.add_sub_cancel] at p0
                    have g1 : decide ((0 : Int) < ((j + 1 : Nat) : Int)) = true := decide_eq_true (by omega)
                    have g2' : decide ((0 : Int) < (j : Int) + 1) = true := decide_eq_true (by omega)
                    have g3 : decide ((xn : Int) ≤ (pn : Int)) = false := decide_eq_false (by omega)
                    have g4 : (0 : Int) ≤ (j : Int) := by omega
                    have g5 : (j : Int) < (z : Int) := by omega
                    clear HJ HPR h0
                    go_upto_region 24 with fail
                    rw [← HW6.out]
                    go_quiet (fail)
                    have HV := Lib.hid (show Below w5.heap.size w5 (w6.drewN nq) ∧ (w6.drewN nq).ownsRow w5.heap.size 2 1 u14 ws.length (ws.flatMap inC) from ⟨below_drewN HB6.out.1 nq, HB6.out.2⟩)
                    have HVX := Lib.hid (show Whole (w6.drewN nq) wr.heap.size 51 #[.int .i64 (xn : Int), .int .i64 xv] from HX6.out)
                    generalize w6.drewN nq = V at *
                    have x0 := HVX.out.cell 0
                    have x1 := HVX.out.cell 1
                    simp at x0 x1
                    go_wp2_with (first
                      | (at_builtin; refine wpList_append_own_at _ rfl (.tmp 102) (.tmp 103) 45 rfl w5.heap.size 2 i1 (.int .i64 0) 1 8 Try.underlying45 ji jz0 jz1 jz2 rfl (by decide) u14 (ws).length ((ws).flatMap inC) rfl (HV.out.2.alloc _) ⟨V.heap.size, 0, none⟩ 1 1 (inC 0) rfl rfl (fun j u hu => World.news_of_block (Whole.new V _ _) j u hu) (fun u hu => inC_one ⟨0, 0⟩ u hu) (by have := HXN.out.2.2; simp only [maxLen]; (try simp only [List.length_append, List.length_cons, List.length_nil]); omega) (by have := HXN.out.2.2; (try simp only [List.length_append, List.length_cons, List.length_nil]); omega) (by have := HV.out.1.size; simp; omega) ?_; intro v8 w8 y1 y2 y3 y4; have H8 := Lib.hid (app_more HV.out.1 HV.out.2 y1 y2); have G8 := Lib.hid y2; clear y1 y2 y3 y4; have z0 := (whole_own (HVX.out) (HV.out.2) (by decide) G8.out).cell 0; have z1 := (whole_own (HVX.out) (HV.out.2) (by decide) G8.out).cell 1; simp at z0 z1)
                      | (at_builtin; refine wpList_append_own_at _ rfl (.tmp 109) (.tmp 112) 45 rfl w5.heap.size 2 i1 (.int .i64 0) 1 8 Try.underlying45 ji jz0 jz1 jz2 rfl (by decide) v8 ((ws ++ [0])).length (((ws ++ [0])).flatMap inC) rfl (H8.out.2.alloc _) ⟨w8.heap.size, 0, none⟩ 1 1 (inC xv) rfl rfl (fun j u hu => World.news_of_block (Whole.new w8 _ _) j u hu) (fun u hu => inC_one ⟨0, xv⟩ u hu) (by have := HXN.out.2.2; simp only [maxLen]; (try simp only [List.length_append, List.length_cons, List.length_nil]); omega) (by have := HXN.out.2.2; (try simp only [List.length_append, List.length_cons, List.length_nil]); omega) (by have := H8.out.1.size; simp; omega) ?_; intro v9 w9 y1 y2 y3 y4; have H9 := Lib.hid (app_more H8.out.1 H8.out.2 y1 y2); have G9 := Lib.hid y2; clear y1 y2 y3 y4))
                    go_roundw
                    case rel => exact ⟨(j + 1) + 1, by omega, by go_num, by rw [HST.out], H9.out.1, by rw [HST.out]; exact H9.out.2⟩
                    case measure => simp [intOf]; omega
              · have hz : z = L.length := HL.out.2.1
                have htk : L.take j = L := List.take_of_length_le (by omega)
                have hsa := stW_all (look D) hn16
                rw [← HL.out.1] at hsa
                rw [htk] at hrow ⊢
                obtain ⟨ws, p, hs⟩ : ∃ ws p, stW n L = (ws, p) := ⟨_, _, rfl⟩
                have hlen := stW_len n L
                rw [hs] at hrow hsa hlen ⊢
                dsimp only at hrow hsa hlen ⊢
                have HLD := Lib.hid (fun W (h : LawC w d0 (look D) W) => law_list h)
                have HVA := Lib.hid (fun W (h : LawC w a0 (look D) W) => law_values h (n : Int))
                have HCO := Lib.hid (fun W (h : LawC w a0 (look D) W) => law_count h)
                rw [← HL.out.1, ← HL.out.2.1] at HLD HCO
                have HXB := Lib.hid hb
                have HRX := Lib.hid hrow
                obtain ⟨ji, jz0, jz1, jz2⟩ := HI1.out
                obtain ⟨V0, hV0⟩ : ∃ V0, V0 = valC (look D) (n : Int) := ⟨_, rfl⟩
                rw [← hV0] at HVA hsa
                have q1 : (((z : Nat) : Int) == (z : Int)) = true := by simp
                have hlz : ws.length ≤ 32 := by omega
                clear hz htk hs hrow hb HRW HB H5 hV0 hlen
                have HSA := Lib.hid hsa
                clear hsa
                rcases HSA.out with ⟨rfl, hV⟩ | ⟨rfl, hV⟩
                · subst hV
                  obtain ⟨⟨A7, n7, d7⟩, rfl, hs7, _⟩ := rsrc_of_own (cells := inC) (k := 1) (fun _ => rfl) rfl HRX.out
                  have hn7 : ws.length = n7 := hs7.len
                  subst hn7
                  unfold Sl.v
                  have HF := Lib.hid (show FinO w a0 d0 (look D) ⟨A7, ws.length, d7⟩ ws ⟨A1, z, d1⟩ L wr from ⟨H6.out.la.later HXB.out, H6.out.ld.later HXB.out, hs7, HR.out.later HXB.out⟩)
                  clear hs7 HSA HRX H6 HR HXB
                  go_wp2_with (first
                    | (go_at_call 12; refine (HLD.out _ HF.out.ld).mono ?_; (rintro e w10 ⟨A8, d8, rfl, hr, _, _, hb⟩; have HF10 := Lib.hid (HF.out.later hb); have HR10 := Lib.hid hr; clear hr hb HLD))
                    | (go_at_call 16; refine (devs_same HF10.out.rL HR10.out).mono ?_; (rintro e w11 ⟨rfl, hb⟩; have HF11 := Lib.hid (HF10.out.later hb); clear hb HR10))
                    | (go_at_call 13; refine (HVA.out _ HF11.out.la).mono ?_; (rintro e w12 ⟨A9, d9, rfl, hr, _, _, hb⟩; have HF12 := Lib.hid (HF11.out.later hb); have HR12 := Lib.hid hr; clear hr hb HVA))
                    | (go_at_call 17; refine (longs_same HR12.out HF12.out.rV).mono ?_; (rintro e w13 ⟨rfl, hb⟩; have HF13 := Lib.hid (HF12.out.later hb); clear hb HR12))
                    | (go_at_call 14; refine (HCO.out _ HF13.out.la).mono ?_; (rintro e w14 ⟨rfl, _, hb⟩; have HF14 := Lib.hid (HF13.out.later hb); clear hb HCO)))
                  go_ret
                  exact ⟨rfl, HF14.out.la.below⟩
                · go_upto_region 33 with (at_builtin; refine wpList_append_own_at _ rfl (.tmp 117) (.tmp 118) 45 rfl w5.heap.size 2 i1 (.int .i64 0) 1 8 Try.underlying45 ji jz0 jz1 jz2 rfl (by decide) u14 ws.length (ws.flatMap inC) rfl (HRX.out.alloc _) ⟨wr.heap.size, 0, none⟩ 1 1 (inC 0) rfl rfl (fun j u hu => World.news_of_block (Whole.new wr _ _) j u hu) (fun u hu => inC_one ⟨0, 0⟩ u hu) (by simp only [maxLen]; omega) (by omega) (by have := HXB.out.size; simp; omega) ?_; intro v8 w8 y1 y2 y3 y4; have HX8 := Lib.hid (app_more HXB.out HRX.out y1 y2); clear y1 y2 y3 y4)
                  have hx8 := HX8.out.2
                  rw [hV] at hx8
                  obtain ⟨⟨A7, n7, d7⟩, rfl, hs7, _⟩ := rsrc_of_own (cells := inC) (k := 1) (fun _ => rfl) rfl hx8
                  have hn7 : V0.length = n7 := hs7.len
                  subst hn7
                  unfold Sl.v
                  have HF := Lib.hid (show FinO w a0 d0 (look D) ⟨A7, V0.length, d7⟩ V0 ⟨A1, z, d1⟩ L w8 from ⟨H6.out.la.later HX8.out.1, H6.out.ld.later HX8.out.1, hs7, HR.out.later HX8.out.1⟩)
                  clear hs7 HSA hx8 H6 HR HX8
                  go_wp2_with (first
                    | (go_at_call 12; refine (HLD.out _ HF.out.ld).mono ?_; (rintro e w10 ⟨A8, d8, rfl, hr, _, _, hb⟩; have HF10 := Lib.hid (HF.out.later hb); have HR10 := Lib.hid hr; clear hr hb HLD))
                    | (go_at_call 16; refine (devs_same HF10.out.rL HR10.out).mono ?_; (rintro e w11 ⟨rfl, hb⟩; have HF11 := Lib.hid (HF10.out.later hb); clear hb HR10))
                    | (go_at_call 13; refine (HVA.out _ HF11.out.la).mono ?_; (rintro e w12 ⟨A9, d9, rfl, hr, _, _, hb⟩; have HF12 := Lib.hid (HF11.out.later hb); have HR12 := Lib.hid hr; clear hr hb HVA))
                    | (go_at_call 17; refine (longs_same HR12.out HF12.out.rV).mono ?_; (rintro e w13 ⟨rfl, hb⟩; have HF13 := Lib.hid (HF12.out.later hb); clear hb HR12))
                    | (go_at_call 14; refine (HCO.out _ HF13.out.la).mono ?_; (rintro e w14 ⟨rfl, _, hb⟩; have HF14 := Lib.hid (HF13.out.later hb); clear hb HCO)))
                  go_ret
                  exact ⟨rfl, HF14.out.la.below⟩
          · as_aux_lemma =>
            obtain ⟨j, rfl⟩ : ∃ j, k2 = j + 1 := ⟨k2 - 1, by omega⟩
            obtain rfl : x = (j : Int) := by omega
            obtain ⟨y1, y2⟩ := behind_step HG.out (k := j) (by rw [← HL.out.2.2]; omega)
            obtain ⟨⟨ok, on, oc, ov⟩, hx⟩ : ∃ o, o = D.getD j default := ⟨_, rfl⟩
            rw [← hx] at y1 y2
            have KD := Lib.hid (fun W f (h : AgW w a0 d0 (look D) f ⟨Ad, M, cd⟩ D nilS [] W) => (show ∃ g o, Ad = some ⟨g, o, none⟩ ∧ W.rangeAt g (o + j * 4) (oeC ⟨ok, on, oc, ov⟩) from by
              have := h.rD.get (i := j) (by show j < M; omega)
              rwa [← hx] at this))
            obtain ⟨g2, o2, hB0, hB2⟩ := KD.out wr _ hW2
            subst hB0
            obtain ⟨_, b1, b2, b3⟩ := oeC_cells hB2
            have KO := Lib.hid (fun W f (h : AgW w a0 d0 (look D) f ⟨some ⟨g2, o2, none⟩, M, cd⟩ D nilS [] W) => (show (fun W : World => W.cell? ⟨g2, o2 + j * 4 + 1, none⟩ = some (.int .i64 on) ∧ W.cell? ⟨g2, o2 + j * 4 + 2, none⟩ = some (.int .i64 oc) ∧ W.cell? ⟨g2, o2 + j * 4 + 3, none⟩ = some (.int .i64 ov)) W from by
              obtain ⟨g3, o3, hA3, hA4⟩ := KD.out W f h
              cases hA3
              obtain ⟨_, k1, k2, k3⟩ := oeC_cells hA4
              exact ⟨k1, k2, k3⟩))
            clear hx hB2 KD
            dsimp only at y1 y2
            have e1 : (0 : Int) ≤ (j : Int) := by omega
            have e2 : (j : Int) < (M : Int) := by omega
            have HN2 := Lib.hid (fun W (h : AgW w a0 d0 (look D) (look (D.drop (j + 1))) ⟨some ⟨g2, o2, none⟩, M, cd⟩ D nilS [] W) => ag_noteD h on oc ov)
            rw [y1, y2] at HN2
            have K0 := Lib.hid (show (fun W : World => W.cell? ⟨g2, o2 + j * 4 + 1, none⟩ = some (.int .i64 on) ∧ W.cell? ⟨g2, o2 + j * 4 + 2, none⟩ = some (.int .i64 oc) ∧ W.cell? ⟨g2, o2 + j * 4 + 3, none⟩ = some (.int .i64 ov)) wr.drew from ⟨b1, b2, b3⟩)
            clear y1 y2 hW2 HAG hx
            go_upto_region 15 with fail
            go_region_held3 (fun W : World => W.cell? ⟨g2, o2 + j * 4 + 1, none⟩ = some (.int .i64 on) ∧ W.cell? ⟨g2, o2 + j * 4 + 2, none⟩ = some (.int .i64 oc) ∧ W.cell? ⟨g2, o2 + j * 4 + 3, none⟩ = some (.int .i64 ov)) (first | with_reducible exact K6.out | with_reducible exact K0.out | exact K0.out) (first
              | (go_at_call 19; refine (HN2.out _ (HW.out.later (Below.refl _ wr).drew)).mono ?_; rintro e w6 ⟨rfl, h6⟩; have K6 := Lib.hid (KO.out _ _ h6); have H6 := Lib.hid h6; clear h6))
            go_wp2
            go_roundw
            case rel => exact ⟨j, (j : Int) - 1, by omega, by go_num, rfl, H6.out⟩
            case measure => simp [intOf]
  · have hN2 : ¬ ((N : Int) ≤ 40) := by omega
    go_enter Try.func6, Try.ntmps6
    go_wp2_with (go_at_call 23; refine (HA.out _).mono ?_; rintro e w1 ⟨rfl, hb1⟩; have HB1 := Lib.hid hb1; clear hb1)
    go_ret
    exact ⟨rfl, HB1.out⟩
end Go.Proofs.Ytjgbgakdnapdhaa
