/- The document's Reader: Get and payload, by contracts. No condition. | What the document's Decode goes by: its Reader beside the script that is made up, and a round's own box. No condition. -/
import Derived.Test.YtljcaigaofalbaaQREnc
import Derived.Test.YtljcaigaofalbaaQRc
namespace Go.Proofs.Ytljcaigaofalbaa
open Go.RowKit Go.Shelf

theorem src_kept {W W' : World} {A : Option Addr} {l : List UInt8} {S : Nat → Prop} (h : Src W A l.length l) (hk : Kept S W W') (hA : 0 < l.length → ∀ ad, A = some ad → ¬ S ad.block) : Src W' A l.length l := by
  cases l with
  | nil => exact Src.nil _ _
  | cons a l => exact h.kept hk (hA (by simp))
/-- The document's Reader at block q: its bytes, and where it reads. -/
structure RR (W : World) (q : Nat) (A : Option Addr) (c : Nat) (l : List UInt8) (p : Nat) : Prop where
  box : Whole W q 100 #[.slice A l.length c, .int .i64 (p : Int)]
  src : Src W A l.length l
  far : 0 < l.length → ∀ ad, A = some ad → ad.block ≠ q
section
variable {W W' : World} {q c p : Nat} {A : Option Addr} {l : List UInt8}
theorem RR.kept {S : Nat → Prop} (h : RR W q A c l p) (hk : Kept S W W') (hq : ¬ S q) (hA : 0 < l.length → ∀ ad, A = some ad → ¬ S ad.block) : RR W' q A c l p := ⟨h.box.kept hk hq, src_kept h.src hk hA, h.far⟩
theorem RR.later (h : RR W q A c l p) (hb : Below W.heap.size W W') : RR W' q A c l p := h.kept (Kept.of_below hb Empty) (fun h => h) (fun _ _ _ h => h)
theorem RR.drewN (h : RR W q A c l p) (n : Nat) : RR (W.drewN n) q A c l p := ⟨h.box, h.src, h.far⟩
theorem RR.move (h : RR W q A c l p) (p' : Nat) : RR (W.setCell ⟨q, 1, none⟩ (.int .i64 (p' : Int))) q A c l p' := by
  have hk : Kept (fun i => i = q) W (W.setCell ⟨q, 1, none⟩ (.int .i64 (p' : Int))) := (Kept.refl (fun i => i = q) W).setCell (p := ⟨q, 1, none⟩) (.inl rfl) _
  exact ⟨by simpa using h.box.set 1 (.int .i64 (p' : Int)), src_kept h.src hk h.far, h.far⟩
theorem RR.keeps {S : Nat → Prop} {V : World} (hk : Kept S V W) (hq : S q) (p' : Nat) : Kept S V (W.setCell ⟨q, 1, none⟩ (.int .i64 (p' : Int))) := hk.setCell (p := ⟨q, 1, none⟩) (.inl hq) _
end
theorem pad_succ (k : Nat) (l : List UInt8) : pad (k + 1) l = pad k l ++ [l.getD k 0] := by simp [pad, List.range_succ]
theorem pad_length' (k : Nat) (l : List UInt8) : (pad k l).length = k := by simp [pad]
theorem beVal_pad (k : Nat) (l : List UInt8) : beVal (pad (k + 1) l) = 256 * beVal (pad k l) + (l.getD k 0).toNat := by rw [pad_succ, beVal_snoc]

set_option maxRecDepth 100000 in
set_option maxHeartbeats 4000000 in
theorem refGetR_any (W : World) (q c p : Nat) (A : Option Addr) (l : List UInt8) (wd : Nat) (m : Int) (h : RR W q A c l p) (h4 : wd ≤ 4) (hm : 0 < m) (hp : p ≤ 1000000000) (hl : l.length ≤ 1000000000) :
    Calls Try.prog 57 #[.pointer (some ⟨q, 0, none⟩), .int .i64 (wd : Int), .int .i64 m] W fun e w' => e = .returned (.int .i64 (num wd m (l.drop p))) ∧ RR w' q A c l (p + wd) ∧ Kept (fun i => i = q) W w' := by
  have HR0 := Lib.hid h
  have HNM := Lib.hid (show ∀ v : Int, v = (beVal (pad wd (l.drop p)) : Int) → v % m = num wd m (l.drop p) from by
    rintro v rfl
    rfl)
  have hm2 : ¬ m = 0 := by omega
  clear h
  go_enter Try.func57, Try.ntmps57
  go_wp2
  go_loopw [7, 8] (fun nv iv wr => ∃ k : Nat, k ≤ wd ∧ iv = .int .i64 (k : Int) ∧ nv = .int .i64 (beVal (pad k (l.drop p)) : Int) ∧ RR wr q A c l (p + k) ∧ Kept (fun i => i = q) W wr) (fun _ iv _ => wd - (intOf iv).toNat)
  case atStart => exact ⟨0, Nat.zero_le _, rfl, rfl, HR0.out, Kept.refl _ _⟩
  case round =>
    obtain ⟨k, hk, rfl, rfl, hR, hkp⟩ := hrel
    have HR := Lib.hid (And.intro hR hkp)
    have c0 := hR.box.cell 0
    have c1 := hR.box.cell 1
    have f1 := hR.box.frozen 1
    simp at c0 c1
    have hv := beVal_small (l := pad k (l.drop p)) (by rw [pad_length']; omega)
    by_cases hlt : k < wd
    · have HS := Lib.hid (beVal_pad k (l.drop p))
      have hpad : (pad k (l.drop p)).length ≤ 3 := by rw [pad_length']; omega
      have hv2 : (beVal (pad k (l.drop p)) : Int) ≤ 16777215 := by
        have := beVal_lt (pad k (l.drop p))
        have h2 : 2 ^ (8 * (pad k (l.drop p)).length) ≤ 2 ^ 24 := Nat.pow_le_pow_right (by decide) (by omega)
        have h3 : (2 : Nat) ^ 24 = 16777216 := by decide
        omega
      clear hpad
      obtain ⟨t, ht⟩ : ∃ t, t = beVal (pad k (l.drop p)) := ⟨_, rfl⟩
      rw [← ht] at hv2 hv
      rw [← ht]
      have HT := Lib.hid ht
      have e1 : IntKind.i64.wrap (256 * (t : Int)) = 256 * (t : Int) := IntWalk.i64_in _ (by omega)
      obtain ⟨j, hj⟩ : ∃ j, j = p + k := ⟨_, rfl⟩
      have c1' : wr.cell? ⟨q, 1, none⟩ = some (.int .i64 (j : Int)) := by rw [c1, hj]; simp
      have i0 : (0 : Int) ≤ (j : Int) := by omega
      have i2 : (j : Int) ≤ 1000000004 := by omega
      have HJ := Lib.hid hj
      have HF := Lib.hid (fun n (v : Int) (e : v = ((j : Int) + 1)) => (show RR ((wr.drewN n).setCell ⟨q, 1, none⟩ (.int .i64 v)) q A c l (p + (k + 1)) ∧ Kept (fun i => i = q) W ((wr.drewN n).setCell ⟨q, 1, none⟩ (.int .i64 v)) from by
        have e2 : v = ((p + (k + 1) : Nat) : Int) := by omega
        subst e2
        exact ⟨(HR.out.1.drewN n).move _, RR.keeps (HR.out.2.drewN n) rfl _⟩))
      by_cases hin : p + k < l.length
      · obtain ⟨b, o, e, hc⟩ := hR.src.2 (by omega)
        have hcj := hc (p + k) hin
        have hg : ((l.drop p).getD k 0).toNat = l[p + k].toNat := by
          rw [List.getD_eq_getElem?_getD, List.getElem?_drop, List.getElem?_eq_getElem hin]; rfl
        have hb := l[p + k].toNat_lt
        generalize l[p + k].toNat = z at *
        rw [e] at c0
        have HG := Lib.hid hg
        have hcj' : wr.cell? ⟨b, o + j, none⟩ = some (.int .u8 (z : Int)) := by rw [hj]; exact hcj
        have i1 : (j : Int) < (l.length : Int) := by omega
        have e2 : IntKind.i64.wrap (256 * (t : Int) + (z : Int)) = 256 * (t : Int) + (z : Int) := IntWalk.i64_in _ (by omega)
        have e3 : IntKind.i64.wrap (z : Int) = (z : Int) := IntWalk.i64_in _ (by omega)
        clear c1 hc hg hcj hj e ht hR hkp hin
        go_wp2
        go_quiet (fail)
        go_wp2
        go_quiet (fail)
        go_wp2
        go_roundw
        case rel =>
          obtain ⟨r1, r2⟩ := HF.out _ _ rfl
          exact ⟨k + 1, by omega, by go_num, congrArg (Value.int .i64) (by have := HS.out; have := HG.out; have := HT.out; omega), r1, r2⟩
        case measure => simp [intOf]; omega
      · have hg : ((l.drop p).getD k 0).toNat = 0 := by
          rw [List.getD_eq_getElem?_getD, List.getElem?_drop, List.getElem?_eq_none (by omega)]; rfl
        have HG := Lib.hid hg
        have i1 : ¬ ((j : Int) < (l.length : Int)) := by omega
        clear c1 hg hj ht hR hkp hin
        go_wp2
        go_quiet (fail)
        go_wp2
        go_roundw
        case rel =>
          obtain ⟨r1, r2⟩ := HF.out _ _ rfl
          exact ⟨k + 1, by omega, by go_num, congrArg (Value.int .i64) (by have := HS.out; have := HG.out; have := HT.out; omega), r1, r2⟩
        case measure => simp [intOf]; omega
    · obtain rfl : k = wd := by omega
      have HV := Lib.hid (HNM.out _ rfl)
      clear hR hkp c0 c1 f1
      generalize beVal (pad k (l.drop p)) = t at *
      go_wp2
      go_ret
      exact ⟨congrArg Ending.returned (congrArg (Value.int .i64) HV.out), HR.out.1, HR.out.2⟩
/-- What a payload leaves. -/
def RPaid (W : World) (q : Nat) (A : Option Addr) (c : Nat) (l : List UInt8) (p : Nat) (pl : List UInt8) (e : Ending) (w' : World) : Prop :=
  ∃ v, e = .returned v ∧ w'.ownsRow W.heap.size 5 1 v pl.length (bv pl) ∧ RR w' q A c l p ∧ Kept (fun i => i = q) W w'

set_option maxRecDepth 100000 in
set_option maxHeartbeats 4000000 in
theorem refPayR_any (W : World) (q c p : Nat) (A : Option Addr) (l : List UInt8) (m : Nat) (h : RR W q A c l p) (hm : num 1 256 (l.drop p) = (m : Int)) (hp : p ≤ 1000000000) (hl : l.length ≤ 1000000000) :
    Calls Try.prog 59 #[.pointer (some ⟨q, 0, none⟩)] W (RPaid W q A c l (p + 1 + m) ((l.drop (p + 1)).take m)) := by
  obtain ⟨iT, hi0, hi1, hi2, hi3⟩ := info_parts u8_info
  have HI := Lib.hid (And.intro hi0 (And.intro hi1 (And.intro hi2 hi3)))
  have hmb : m ≤ 255 := by have := num_lt (w := 1) (l := l.drop p) (show (0 : Int) < 256 by decide); omega
  have hg := refGetR_any W q c p A l 1 256 h (by decide) (by decide) hp hl
  rw [hm] at hg
  have HG := Lib.hid hg
  have hq := h.box.lt
  obtain ⟨p1, hp1⟩ : ∃ p1, p1 = p + 1 := ⟨_, rfl⟩
  rw [← hp1] at HG
  rw [← hp1]
  have hpb : p1 ≤ 1000000001 := by omega
  have HB := Lib.hid (fun ad (e : A = some ad) (h0 : 0 < l.length) => (show ad.block < W.heap.size from by
    obtain ⟨b, o, e2, hc⟩ := h.src.2 h0
    rw [e2] at e
    cases e
    exact World.block_lt_of_cell? W _ (hc 0 h0)))
  clear h hg hm hp hp1 hi0 hi1 hi2 hi3
  go_enter Try.func59, Try.ntmps59
  go_upto_region 2 with (go_at_call 57; refine HG.out.mono ?_; rintro e w1 ⟨rfl, hr1, hk1⟩; have H1 := Lib.hid (And.intro hr1 hk1); clear hr1 hk1)
  go_wp2
  go_loopw [4, 5] (fun ov iv wr => ∃ k : Nat, k ≤ m ∧ iv = .int .i64 (k : Int) ∧ wr.ownsRow W.heap.size 5 1 ov ((l.drop p1).take k).length (bv ((l.drop p1).take k)) ∧ RR wr q A c l (p1 + k) ∧ Kept (fun i => i = q) W wr) (fun _ iv _ => m - (intOf iv).toNat)
  case atStart => exact ⟨0, Nat.zero_le _, rfl, World.ownsRow_nil _ _ _ _, H1.out.1, H1.out.2⟩
  case round =>
    obtain ⟨k, hk, rfl, hO, hR, hkp⟩ := hrel
    obtain ⟨y1, y2, y3, rfl⟩ := own_val hO
    have HR := Lib.hid (And.intro hO (And.intro hR hkp))
    have c0 := hR.box.cell 0
    have c1 := hR.box.cell 1
    have f1 := hR.box.frozen 1
    simp at c0 c1
    clear H1
    by_cases hlt : k < m
    · obtain ⟨j, hj⟩ : ∃ j, j = p1 + k := ⟨_, rfl⟩
      have c1' : wr.cell? ⟨q, 1, none⟩ = some (.int .i64 (j : Int)) := by rw [c1, hj]; simp
      have i0 : (0 : Int) ≤ (j : Int) := by omega
      have i2 : (j : Int) ≤ 1000001004 := by omega
      have HJ := Lib.hid hj
      by_cases hin : p1 + k < l.length
      · obtain ⟨b, o, e, hc⟩ := hR.src.2 (by omega)
        have hcj := hc (p1 + k) hin
        have htk : (l.drop p1).take (k + 1) = (l.drop p1).take k ++ [l[p1 + k]] := by
          rw [List.take_succ_eq_append_getElem (by rw [List.length_drop]; omega), List.getElem_drop]
        generalize l[p1 + k] = z at *
        have HTK := Lib.hid htk
        rw [e] at c0
        have hcj' : wr.cell? ⟨b, o + j, none⟩ = some (.int .u8 (z.toNat : Int)) := by rw [hj]; exact hcj
        have i1 : (j : Int) < (l.length : Int) := by omega
        have hlk : ((l.drop p1).take k).length ≤ 300 := by rw [List.length_take]; omega
        have HLK := Lib.hid hlk
        have HO := Lib.hid (fun (W1 : World) (hb : Below wr.heap.size wr W1) => (show W1.ownsRow W.heap.size 5 1 (.slice y1 y2 y3) ((l.drop p1).take k).length (bv ((l.drop p1).take k)) ∧ W.heap.size ≤ W1.heap.size from ⟨ownsRow_kept HR.out.1 (Kept.of_below hb Empty) (fun _ _ h => h), by have := HR.out.2.2.size; have := hb.size; omega⟩))
        have HF := Lib.hid (fun (W1 w2 : World) (v' : Value) (hb : Below wr.heap.size wr W1) (h1 : w2.ownsRow W.heap.size 5 1 v' (((l.drop p1).take k).length + 1) (bv ((l.drop p1).take k) ++ bv [z])) (h2 : W1.grownBy w2 (Value.slice y1 y2 y3).ownBlock) => (show w2.ownsRow W.heap.size 5 1 v' ((l.drop p1).take (k + 1)).length (bv ((l.drop p1).take (k + 1))) ∧ RR w2 q A c l j ∧ Kept (fun i => i = q) W w2 from by
          have kg : Kept (fun i => W.heap.size ≤ i) wr w2 := (Kept.of_below hb _).grown h2 (fun i hi => .inl (HR.out.1.lt i hi).1)
          refine ⟨?_, ?_, HR.out.2.2.trans kg (fun i hi e => by have e : W.heap.size ≤ i := e; omega)⟩
          · rw [HTK.out, List.length_append, bv_append]; exact h1
          · rw [HJ.out]
            exact HR.out.2.1.kept kg (by show ¬ W.heap.size ≤ q; omega) (fun h0 ad e => by
              have := HB.out ad e h0
              show ¬ W.heap.size ≤ ad.block; omega)))
        have hbA := HB.out ⟨b, o, none⟩ e (by omega)
        clear c1 hc hcj hj e hR hkp hin hO htk hlk
        go_wp2
        go_quiet (fail)
        go_upto_region 7 with fail
        have z0 : (wr.drewN nq).drew.cell? ⟨q, 0, none⟩ = some (.slice (some ⟨b, o, none⟩) l.length c) := c0
        have z1 : (wr.drewN nq).drew.cell? ⟨q, 1, none⟩ = some (.int .i64 (j : Int)) := c1'
        have z2 : (wr.drewN nq).drew.cell? ⟨b, o + j, none⟩ = some (.int .u8 (z.toNat : Int)) := hcj'
        have hbn : Below wr.heap.size wr (wr.drewN nq).drew := (below_drewN (Below.refl _ _) nq).drew
        have x0 := c0
        have x1 := c1'
        have x2 := hcj'
        clear c0 c1' hcj' f1
        generalize wr.drewN nq = wn at *
        have hb2 : Below wr.heap.size wr (wn.alloc (.cells #[.int .u8 (z.toNat : Int)] 5)).drew := hbn.alloc hbn.size (.cells #[.int .u8 (z.toNat : Int)] 5)
        have HB2 := Lib.hid hb2
        have HSR := Lib.hid (show Src (wn.alloc (.cells #[.int .u8 (z.toNat : Int)] 5)).drew (some ⟨wn.heap.size, 0, none⟩) 1 [z] from src_one (Whole.new wn 5 #[.int .u8 (z.toNat : Int)]))
        have y0 : (wn.alloc (.cells #[.int .u8 (z.toNat : Int)] 5)).drew.cell? ⟨q, 0, none⟩ = some (.slice (some ⟨b, o, none⟩) l.length c) := k_cell ((Below.refl _ wn).alloc (Nat.le_refl _) (.cells #[.int .u8 (z.toNat : Int)] 5)) z0
        have y1' : (wn.alloc (.cells #[.int .u8 (z.toNat : Int)] 5)).drew.cell? ⟨q, 1, none⟩ = some (.int .i64 (j : Int)) := k_cell ((Below.refl _ wn).alloc (Nat.le_refl _) (.cells #[.int .u8 (z.toNat : Int)] 5)) z1
        have y2' : (wn.alloc (.cells #[.int .u8 (z.toNat : Int)] 5)).drew.cell? ⟨b, o + j, none⟩ = some (.int .u8 (z.toNat : Int)) := k_cell ((Below.refl _ wn).alloc (Nat.le_refl _) (.cells #[.int .u8 (z.toNat : Int)] 5)) z2
        have KS := Lib.hid (fun (w2 : World) (kg : Kept (fun i => W.heap.size ≤ i) wr w2) => (show w2.cell? ⟨q, 0, none⟩ = some (.slice (some ⟨b, o, none⟩) l.length c) ∧ w2.cell? ⟨q, 1, none⟩ = some (.int .i64 (j : Int)) ∧ w2.cell? ⟨b, o + j, none⟩ = some (.int .u8 (z.toNat : Int)) from ⟨kg.cell x0 (by show ¬ W.heap.size ≤ q; omega), kg.cell x1 (by show ¬ W.heap.size ≤ q; omega), kg.cell x2 (by show ¬ W.heap.size ≤ b; omega)⟩))
        clear hbn hb2 x0 x1 x2 hbA
        go_region_held3 (fun W' => W'.cell? ⟨q, 0, none⟩ = some (.slice (some ⟨b, o, none⟩) l.length c) ∧ W'.cell? ⟨q, 1, none⟩ = some (.int .i64 (j : Int)) ∧ W'.cell? ⟨b, o + j, none⟩ = some (.int .u8 (z.toNat : Int))) (first | exact KS.out _ KG.out | exact ⟨y0, y1', y2'⟩ | exact ⟨z0, z1, z2⟩ | go_keep) (first
          | (refine step_append_src rfl (.tmp 23) (.tmp 34) 30 rfl W.heap.size 5 iT Try.underlying30 HI.out.1 HI.out.2.1 HI.out.2.2.1 HI.out.2.2.2 (.slice y1 y2 y3) ((l.drop p1).take k).length (bv ((l.drop p1).take k)) rfl (HO.out _ HB2.out).1 _ 1 1 [z] rfl HSR.out (by have := HLK.out; omega) (HO.out _ HB2.out).2 ?_; intro v' w' h1 h2 _; have HP3 := Lib.hid (HF.out _ _ _ HB2.out h1 h2); have KG := Lib.hid ((Kept.of_below HB2.out (fun i => W.heap.size ≤ i)).grown h2 (fun i hi => .inl (HR.out.1.lt i hi).1)); clear h1 h2))
        all_goals
          have d1 : w'.cell? ⟨q, 1, none⟩ = some (.int .i64 (j : Int)) := by simpa using HP3.out.2.1.box.cell 1
          have g1 := HP3.out.2.1.box.frozen 1
          clear z0 z1 z2 y0 y1' y2' HB2 HSR KS KG HO HF
          go_wp2
          go_roundw
          case rel =>
            have e2 : ((j : Int) + 1) = ((p1 + (k + 1) : Nat) : Int) := by have := HJ.out; omega
            refine ⟨k + 1, by omega, by go_num, ?_⟩
            rw [e2]
            exact ⟨ownsRow_kept HP3.out.1 (RR.keeps (Kept.refl (fun i => i = q) w') rfl _) (fun g hg e => by have := (HP3.out.1.lt g hg).1; have e : g = q := e; omega), HP3.out.2.1.move _, RR.keeps HP3.out.2.2 rfl _⟩
          case measure => simp [intOf]; omega
      · have htk : (l.drop p1).take (k + 1) = (l.drop p1).take k := by
          rw [List.take_of_length_le (by rw [List.length_drop]; omega), List.take_of_length_le (by rw [List.length_drop]; omega)]
        have HTK := Lib.hid htk
        have i1 : ¬ ((j : Int) < (l.length : Int)) := by omega
        have HF := Lib.hid (fun n (v : Int) (e : v = ((j : Int) + 1)) => (show ((wr.drewN n).setCell ⟨q, 1, none⟩ (.int .i64 v)).ownsRow W.heap.size 5 1 (.slice y1 y2 y3) ((l.drop p1).take (k + 1)).length (bv ((l.drop p1).take (k + 1))) ∧ RR ((wr.drewN n).setCell ⟨q, 1, none⟩ (.int .i64 v)) q A c l (p1 + (k + 1)) ∧ Kept (fun i => i = q) W ((wr.drewN n).setCell ⟨q, 1, none⟩ (.int .i64 v)) from by
          have e2 : v = ((p1 + (k + 1) : Nat) : Int) := by omega
          subst e2
          rw [HTK.out]
          exact ⟨ownsRow_kept HR.out.1 (RR.keeps ((Kept.refl (fun i => i = q) wr).drewN n) rfl _) (fun g hg e => by have := (HR.out.1.lt g hg).1; have e : g = q := e; omega), (HR.out.2.1.drewN n).move _, RR.keeps (HR.out.2.2.drewN n) rfl _⟩))
        clear c1 hj hR hkp hO htk
        go_wp2
        go_quiet (fail)
        go_wp2
        go_roundw
        case rel =>
          obtain ⟨r0, r1, r2⟩ := HF.out _ _ rfl
          exact ⟨k + 1, by omega, by go_num, r0, r1, r2⟩
        case measure => simp [intOf]; omega
    · obtain rfl : k = m := by omega
      clear hR hkp c0 c1 f1 hO
      go_wp2
      go_ret
      exact ⟨_, rfl, HR.out.1, HR.out.2.1, HR.out.2.2⟩
end Go.Proofs.Ytljcaigaofalbaa

namespace Go.Proofs.Ytljcaigaofalbaa
open Go.RowKit Go.Shelf

/-- What was read since p0: so many happenings, so many faults. -/
def EntD (x : Pl) (l : List UInt8) (p0 p : Nat) (hs : List Hp) (fs : List Ft) : Prop := ∃ es, entsL x (l.drop p0) = es ++ entsL x (l.drop p) ∧ hs = (hapsOf es).take 64 ∧ fs = (faultsOf es).take 64
theorem entd_start (x : Pl) (l : List UInt8) (p0 : Nat) : EntD x l p0 p0 [] [] := ⟨[], rfl, rfl, rfl⟩
theorem take_more {α : Type} {xs : List α} (y : α) (h : (xs.take 64).length < 64) : (xs ++ [y]).take 64 = xs.take 64 ++ [y] := by
  rw [List.length_take] at h
  rw [List.take_of_length_le (by simp; omega), List.take_of_length_le (by omega)]
theorem take_full {α : Type} {xs : List α} (y : α) (h : ¬ (xs.take 64).length < 64) : (xs ++ [y]).take 64 = xs.take 64 := by
  rw [List.length_take] at h
  rw [List.take_append_of_le_length (by omega)]
section
variable {x : Pl} {l : List UInt8} {p0 p p' : Nat} {hs : List Hp} {fs : List Ft}
theorem EntD.lens (h : EntD x l p0 p hs fs) : hs.length ≤ 64 ∧ fs.length ≤ 64 := by
  obtain ⟨es, _, rfl, rfl⟩ := h
  simp only [List.length_take]
  omega
theorem EntD.step {e : Sum Hp Ft} (h : EntD x l p0 p hs fs) (hp : p < l.length) (ho : oneE x (l.drop p) = (e, l.drop p')) : ∃ es, entsL x (l.drop p0) = (es ++ [e]) ++ entsL x (l.drop p') ∧ hs = (hapsOf es).take 64 ∧ fs = (faultsOf es).take 64 := by
  obtain ⟨es, h1, h2, h3⟩ := h
  refine ⟨es, ?_, h2, h3⟩
  rw [h1, ents_step x (l := l.drop p) (by intro e0; have := congrArg List.length e0; simp at this; omega), ho, List.append_assoc]
  rfl
theorem EntD.ft {f : Ft} (h : EntD x l p0 p hs fs) (hp : p < l.length) (ho : oneE x (l.drop p) = (.inr f, l.drop p')) : (fs.length < 64 → EntD x l p0 p' hs (fs ++ [f])) ∧ (¬ fs.length < 64 → EntD x l p0 p' hs fs) := by
  obtain ⟨es, h1, h2, h3⟩ := h.step hp ho
  have e1 : hapsOf (es ++ [.inr f]) = hapsOf es := by simp [hapsOf]
  have e2 : faultsOf (es ++ [.inr f]) = faultsOf es ++ [f] := by simp [faultsOf]
  subst h2 h3
  exact ⟨fun hl => ⟨_, h1, by rw [e1], by rw [e2, take_more f hl]⟩, fun hl => ⟨_, h1, by rw [e1], by rw [e2, take_full f hl]⟩⟩
theorem EntD.hap {f : Hp} (h : EntD x l p0 p hs fs) (hp : p < l.length) (ho : oneE x (l.drop p) = (.inl f, l.drop p')) : (hs.length < 64 → EntD x l p0 p' (hs ++ [f]) fs) ∧ (¬ hs.length < 64 → EntD x l p0 p' hs fs) := by
  obtain ⟨es, h1, h2, h3⟩ := h.step hp ho
  have e1 : hapsOf (es ++ [.inl f]) = hapsOf es ++ [f] := by simp [hapsOf]
  have e2 : faultsOf (es ++ [.inl f]) = faultsOf es := by simp [faultsOf]
  subst h2 h3
  exact ⟨fun hl => ⟨_, h1, by rw [e1, take_more f hl], by rw [e2]⟩, fun hl => ⟨_, h1, by rw [e1, take_full f hl], by rw [e2]⟩⟩
theorem EntD.fin (h : EntD x l p0 p hs fs) (hp : ¬ p < l.length) : hs = (hapsOf (entsL x (l.drop p0))).take 64 ∧ fs = (faultsOf (entsL x (l.drop p0))).take 64 := by
  obtain ⟨es, h1, h2, h3⟩ := h
  rw [List.drop_eq_nil_of_le (show l.length ≤ p by omega), ents_nil, List.append_nil] at h1
  rw [h1]
  exact ⟨h2, h3⟩
theorem one_ft3 (h : num 1 4 (l.drop p) = 3) : oneE x (l.drop p) = (.inr ⟨num 1 x.nodes (l.drop (p + 1)), num 2 65536 (l.drop (p + 2)), num 1 (x.nodes + 1) (l.drop (p + 4)), 1 + num 1 3 (l.drop (p + 5)), decide (num 1 2 (l.drop (p + 6)) = 1)⟩, l.drop (p + 7)) := by
  unfold oneE
  rw [if_pos h]
  simp only [List.drop_drop]
theorem one_hap2 (h : num 1 4 (l.drop p) = 2) {m : Nat} (hm : num 1 256 (l.drop (p + 6)) = (m : Int)) : oneE x (l.drop p) = (.inl ⟨2, num 1 x.nodes (l.drop (p + 1)), num 4 (x.horizon + 1) (l.drop (p + 2)), (l.drop (p + 7)).take m⟩, l.drop (p + 7 + m)) := by
  unfold oneE
  rw [if_neg (by rw [h]; decide), if_pos h]
  simp only [List.drop_drop]
  rw [hm, Int.toNat_natCast, Nat.add_assoc]
theorem one_hap0 (h3 : ¬ num 1 4 (l.drop p) = 3) (h2 : ¬ num 1 4 (l.drop p) = 2) : oneE x (l.drop p) = (.inl ⟨num 1 4 (l.drop p), num 1 x.nodes (l.drop (p + 1)), num 4 (x.horizon + 1) (l.drop (p + 2)), []⟩, l.drop (p + 6)) := by
  unfold oneE
  rw [if_neg h3, if_neg h2]
  simp only [List.drop_drop]
end
/-- The Reader at q, the plan's box, the answer's box, and the script at B that is made up, all its blocks from B on. -/
structure RD (w W : World) (x : Pl) (q B : Nat) (A : Option Addr) (c : Nat) (l : List UInt8) (p : Nat) (V : Vs) (s : ScA) : Prop where
  rd : RR W q A c l p
  lo : w.heap.size + 2 ≤ q ∧ q + 1 = B
  alt : 0 < l.length → ∀ ad, A = some ad → ad.block < w.heap.size
  plan : Whole W w.heap.size 23 x.cells
  res : Whole W (w.heap.size + 1) 29 #[.slice none 0 0, .slice none 0 0, .slice none 0 0, .slice none 0 0, .slice none 0 0]
  sb : SB W (fun i => B ≤ i) B B V s
  bel : Below w.heap.size w W
/-- Since W0 the Reader went on, and new boxes were laid; nothing else. -/
structure RX (W0 W : World) (HL : List (Nat × TypeId × Array Value)) (q : Nat) (A : Option Addr) (c : Nat) (l : List UInt8) (p : Nat) : Prop where
  rd : RR W q A c l p
  kept : Kept (fun i => i = q) W0 W
  held : ∀ y ∈ HL, Whole W y.1 y.2.1 y.2.2 ∧ W0.heap.size ≤ y.1
  qlt : q < W0.heap.size
  alt : 0 < l.length → ∀ ad, A = some ad → ad.block < W0.heap.size
section
variable {w W W' W0 : World} {x : Pl} {q B c p p' : Nat} {A : Option Addr} {l : List UInt8} {V V' : Vs} {s s' : ScA} {HL : List (Nat × TypeId × Array Value)}
theorem RD.turned (h : RD w W x q B A c l p V s) (hs : SB W' (fun i => B ≤ i) B B V' s') (hk : Kept (fun i => i = q ∨ B ≤ i) W W') (hr : RR W' q A c l p') : RD w W' x q B A c l p' V' s' := by
  have h0 := h.lo
  refine ⟨hr, h0, h.alt, h.plan.kept hk (by show ¬ (w.heap.size = q ∨ B ≤ w.heap.size); omega), h.res.kept hk (by show ¬ (w.heap.size + 1 = q ∨ B ≤ w.heap.size + 1); omega), hs, ?_⟩
  exact ((Kept.of_below h.bel Empty).trans (hk.mono (T := fun i => w.heap.size ≤ i) (fun i e => by show w.heap.size ≤ i; omega)) (T := fun i => w.heap.size ≤ i) (fun i hi hn => by have hn : w.heap.size ≤ i := hn; omega)).below (fun _ _ h => h)
theorem RD.later (h : RD w W x q B A c l p V s) (hb : Below W.heap.size W W') : RD w W' x q B A c l p V s := h.turned (h.sb.same (Kept.of_below hb _)) (Kept.of_below hb _) (h.rd.later hb)
theorem RD.drew (h : RD w W x q B A c l p V s) : RD w W.drew x q B A c l p V s := h.later (Below.refl _ _).drew
theorem RD.start (h : RD w W x q B A c l p V s) : RX W W [] q A c l p := ⟨h.rd, Kept.refl _ _, (fun _ hy => by cases hy), h.rd.box.lt, fun h0 ad e => by have := h.alt h0 ad e; have := h.bel.size; omega⟩
theorem RX.got (h : RX W0 W HL q A c l p) (hr : RR W' q A c l p') (hk : Kept (fun i => i = q) W W') : RX W0 W' HL q A c l p' :=
  ⟨hr, h.kept.trans hk (fun _ _ h => h), fun y hy => ⟨(h.held y hy).1.kept hk (fun e => by have := (h.held y hy).2; have := h.qlt; have e : y.1 = q := e; omega), (h.held y hy).2⟩, h.qlt, h.alt⟩
theorem RX.later (h : RX W0 W HL q A c l p) (hb : Below W.heap.size W W') : RX W0 W' HL q A c l p :=
  ⟨h.rd.later hb, h.kept.trans (Kept.of_below hb _) (fun _ _ h => h), fun y hy => ⟨k_later hb (h.held y hy).1, (h.held y hy).2⟩, h.qlt, h.alt⟩
theorem RX.drew (h : RX W0 W HL q A c l p) : RX W0 W.drew HL q A c l p := h.later (Below.refl _ _).drew
theorem RX.box (h : RX W0 W HL q A c l p) (t : TypeId) (cs : Array Value) : RX W0 (W.alloc (.cells cs t)) [(W.heap.size, t, cs)] q A c l p := by
  have h' := h.later ((Below.refl _ W).alloc (Nat.le_refl _) (.cells cs t))
  refine ⟨h'.rd, h'.kept, fun y hy => ?_, h.qlt, h.alt⟩
  rw [List.mem_singleton] at hy
  subst hy
  exact ⟨Whole.new W t cs, h.kept.size⟩
theorem RX.set {b : Nat} {t : TypeId} {cs : Array Value} (h : RX W0 W [(b, t, cs)] q A c l p) (i : Nat) (u : Value) : RX W0 (W.setCell ⟨b, i, none⟩ u) [(b, t, cs.setIfInBounds i u)] q A c l p := by
  obtain ⟨hw, hb⟩ := h.held (b, t, cs) (by simp)
  have hw : Whole W b t cs := hw
  have hb : W0.heap.size ≤ b := hb
  have hk : Kept (fun j => j = b) W (W.setCell ⟨b, i, none⟩ u) := Kept.setCell (S := fun j => j = b) (Kept.refl _ W) (p := ⟨b, i, none⟩) (.inl rfl) _
  have hq := h.qlt
  refine ⟨h.rd.kept hk (by show ¬ q = b; omega) (fun h0 ad e => by have := h.alt h0 ad e; show ¬ ad.block = b; omega), h.kept.setCell (.inr hb) _, fun y hy => ?_, hq, h.alt⟩
  rw [List.mem_singleton] at hy
  subst hy
  exact ⟨hw.set i u, hb⟩
theorem RX.whole (h : RX W0 W HL q A c l p) {g : Nat} {t : TypeId} {cs : Array Value} (hw : Whole W0 g t cs) (hg : g ≠ q) : Whole W g t cs := hw.kept h.kept hg
theorem RX.plan (h : RX W0 W HL q A c l p') (d : RD w W0 x q B A c l p V s) : Whole W w.heap.size 23 x.cells := h.whole d.plan (by have := d.lo; omega)
theorem RX.sb (h : RX W0 W HL q A c l p') (d : RD w W0 x q B A c l p V s) : SB W (fun i => B ≤ i) B B V s := d.sb.same (h.kept.mono (fun i e => by have := d.lo; have e : i = q := e; show ¬ B ≤ i; omega))
theorem RD.again (d : RD w W0 x q B A c l p V s) (h : RX W0 W HL q A c l p') : RD w W x q B A c l p' V s := d.turned (h.sb d) (h.kept.mono (fun _ e => .inl e)) h.rd
theorem RD.fin (d : RD w W x q B A c l p V s) (cs : Array Value) : SB (W.setRow (w.heap.size + 1) cs) (fun i => B ≤ i) B B V s ∧ Below w.heap.size w (W.setRow (w.heap.size + 1) cs) := by
  have h0 := d.lo
  refine ⟨d.sb.same (kept_row (Kept.refl _ _) (.inl (by show ¬ B ≤ w.heap.size + 1; omega)) cs), ?_⟩
  exact ((Kept.of_below d.bel Empty).trans (kept_row (S := fun i => w.heap.size ≤ i) (Kept.refl _ W) (.inl (by show w.heap.size ≤ w.heap.size + 1; omega)) cs) (T := fun i => w.heap.size ≤ i) (fun i hi hn => by have hn : w.heap.size ≤ i := hn; omega)).below (fun _ _ h => h)
theorem RD.add0 {A1 A2 : World} {v' : Value} (y : Int × Int) (d : RD w W0 x q B A c l p V s) (h : RX W0 W HL q A c l p') (hb : Below W.heap.size W A1) (h1 : A2.ownsRow B 52 2 v' (s.rates.length + 1) (s.rates.flatMap rateC ++ rateC y)) (h2 : A1.grownBy A2 V.v0.ownBlock) (h3 : v'.ownBlock = V.v0.ownBlock ∨ v'.ownBlock = some A1.heap.size) :
    ∃ V', RD w (A2.setCell ⟨B, 0, none⟩ v') x q B A c l p' V' { s with rates := s.rates ++ [y] } := by
  obtain ⟨a, b⟩ := (h.sb d).add0 y hb h1 h2 h3
  have hz := hb.size
  have hl := d.lo
  have hB := (h.sb d).box.lt
  refine ⟨_, d.turned (a.more (fun i hi => ?_)) ((h.kept.mono (fun i e => .inl e)).trans b (fun i _ e => .inr e)) (h.rd.kept b (by show ¬ B ≤ q; omega) (fun h0 ad e => by have := d.alt h0 ad e; show ¬ B ≤ ad.block; omega))⟩
  rcases hi with hi | hi
  · exact hi
  · omega
theorem RD.add1 {A1 A2 : World} {v' : Value} (y : Int) (d : RD w W0 x q B A c l p V s) (h : RX W0 W HL q A c l p') (hb : Below W.heap.size W A1) (h1 : A2.ownsRow B 2 1 v' (s.on.length + 1) (s.on.flatMap numC ++ numC y)) (h2 : A1.grownBy A2 V.v1.ownBlock) (h3 : v'.ownBlock = V.v1.ownBlock ∨ v'.ownBlock = some A1.heap.size) :
    ∃ V', RD w (A2.setCell ⟨B, 1, none⟩ v') x q B A c l p' V' { s with on := s.on ++ [y] } := by
  obtain ⟨a, b⟩ := (h.sb d).add1 y hb h1 h2 h3
  have hz := hb.size
  have hl := d.lo
  have hB := (h.sb d).box.lt
  refine ⟨_, d.turned (a.more (fun i hi => ?_)) ((h.kept.mono (fun i e => .inl e)).trans b (fun i _ e => .inr e)) (h.rd.kept b (by show ¬ B ≤ q; omega) (fun h0 ad e => by have := d.alt h0 ad e; show ¬ B ≤ ad.block; omega))⟩
  rcases hi with hi | hi
  · exact hi
  · omega
theorem RD.add2 {A1 A2 : World} {v' : Value} (y : Int) (d : RD w W0 x q B A c l p V s) (h : RX W0 W HL q A c l p') (hb : Below W.heap.size W A1) (h1 : A2.ownsRow B 2 1 v' (s.delays.length + 1) (s.delays.flatMap numC ++ numC y)) (h2 : A1.grownBy A2 V.v2.ownBlock) (h3 : v'.ownBlock = V.v2.ownBlock ∨ v'.ownBlock = some A1.heap.size) :
    ∃ V', RD w (A2.setCell ⟨B, 2, none⟩ v') x q B A c l p' V' { s with delays := s.delays ++ [y] } := by
  obtain ⟨a, b⟩ := (h.sb d).add2 y hb h1 h2 h3
  have hz := hb.size
  have hl := d.lo
  have hB := (h.sb d).box.lt
  refine ⟨_, d.turned (a.more (fun i hi => ?_)) ((h.kept.mono (fun i e => .inl e)).trans b (fun i _ e => .inr e)) (h.rd.kept b (by show ¬ B ≤ q; omega) (fun h0 ad e => by have := d.alt h0 ad e; show ¬ B ≤ ad.block; omega))⟩
  rcases hi with hi | hi
  · exact hi
  · omega
theorem RD.add4 {A1 A2 : World} {v' : Value} (y : Ft) (d : RD w W0 x q B A c l p V s) (h : RX W0 W HL q A c l p') (hb : Below W.heap.size W A1) (h1 : A2.ownsRow B 54 5 v' (s.faults.length + 1) (s.faults.flatMap ftC ++ ftC y)) (h2 : A1.grownBy A2 V.v4.ownBlock) (h3 : v'.ownBlock = V.v4.ownBlock ∨ v'.ownBlock = some A1.heap.size) :
    ∃ V', RD w (A2.setCell ⟨B, 4, none⟩ v') x q B A c l p' V' { s with faults := s.faults ++ [y] } := by
  obtain ⟨a, b⟩ := (h.sb d).add4 y hb h1 h2 h3
  have hz := hb.size
  have hl := d.lo
  have hB := (h.sb d).box.lt
  refine ⟨_, d.turned (a.more (fun i hi => ?_)) ((h.kept.mono (fun i e => .inl e)).trans b (fun i _ e => .inr e)) (h.rd.kept b (by show ¬ B ≤ q; omega) (fun h0 ad e => by have := d.alt h0 ad e; show ¬ B ≤ ad.block; omega))⟩
  rcases hi with hi | hi
  · exact hi
  · omega
theorem RD.add3 {A1 A2 : World} {v' : Value} (y : HpA) (d : RD w W0 x q B A c l p V s) (h : RX W0 W HL q A c l p') (hb : Below W.heap.size W A1) (hy : PlAt A1 y ∧ ∀ ad, y.A = some ad → W0.heap.size ≤ ad.block ∧ UB A1 ad.block) (h1 : A2.ownsRow B 47 4 v' (s.haps.length + 1) (s.haps.flatMap hapC ++ hapC y)) (h2 : A1.grownBy A2 V.v3.ownBlock) (h3 : v'.ownBlock = V.v3.ownBlock ∨ v'.ownBlock = some A1.heap.size) :
    ∃ V', RD w (A2.setCell ⟨B, 3, none⟩ v') x q B A c l p' V' { s with haps := s.haps ++ [y] } := by
  have hsb := h.sb d
  have hs3 : SB A1 (fun i => B ≤ i) B B V s := hsb.same (Kept.of_below hb _)
  have kg : Kept (fun j => some j = V.v3.ownBlock) A1 A2 := (Kept.refl _ A1).grown h2 (fun j hj => .inl hj.symm)
  have ne : ∀ ad, y.A = some ad → some ad.block ≠ V.v3.ownBlock := fun ad e e3 => by
    obtain ⟨_, c1, p1⟩ := own_typed hs3.r3 e3.symm
    obtain ⟨c2, p2⟩ := (hy.2 ad e).2
    exact typed_apart p2 p1 (by decide) rfl
  have ub : ∀ ad, y.A = some ad → UB A2 ad.block := fun ad e => (hy.2 ad e).2.kept kg (ne ad e)
  have hB0 := d.sb.box.lt
  have hB := hsb.box.lt
  obtain ⟨a, b⟩ := hsb.add3 (F := fun _ => False) y hb h1 h2 h3 ⟨hy.1.kept kg (fun ad e => ne ad e), fun ad e => ⟨by
      obtain ⟨c2, p2⟩ := ub ad e
      exact (Array.getElem?_eq_some_iff.1 p2).1, fun x => x, ub ad e, (by have := (hy.2 ad e).1; omega), fun e3 => by
      obtain ⟨_, c1, p1⟩ := own_typed h1 e3.symm
      obtain ⟨c2, p2⟩ := ub ad e
      exact typed_apart p2 p1 (by decide) rfl⟩⟩
  have hz := hb.size
  have hl := d.lo
  refine ⟨_, d.turned (a.more (fun i hi => ?_)) ((h.kept.mono (fun i e => .inl e)).trans b (fun i _ e => .inr e)) (h.rd.kept b (by show ¬ B ≤ q; omega) (fun h0 ad e => by have := d.alt h0 ad e; show ¬ B ≤ ad.block; omega))⟩
  rcases hi with (hi | hi) | ⟨ad, e, rfl⟩
  · exact hi
  · omega
  · have := (hy.2 ad e).1; omega
theorem RX.get (h : RX W0 W HL q A c l p) (wd : Nat) (wi m z : Int) (p' : Nat) (hw : wi = (wd : Int)) (hz : num wd m (l.drop p) = z) (hp' : p + wd = p') (h4 : wd ≤ 4) (hm : 0 < m) (hp : p ≤ 1000000000) (hl : l.length ≤ 1000000000) :
    Calls Try.prog 57 #[.pointer (some ⟨q, 0, none⟩), .int .i64 wi, .int .i64 m] W fun e w' => e = .returned (.int .i64 z) ∧ RX W0 w' HL q A c l p' := by
  subst hw hz hp'
  exact (refGetR_any W q c p A l wd m h.rd h4 hm hp hl).mono fun _ _ k => ⟨k.1, h.got k.2.1 k.2.2⟩
/-- A payload in new memory, and the Reader behind it. -/
theorem RX.pay (h : RX W0 W HL q A c l p) (m : Nat) (pl : List UInt8) (p' : Nat) (hm : num 1 256 (l.drop p) = (m : Int)) (hpl : (l.drop (p + 1)).take m = pl) (hp' : p + 1 + m = p') (hp : p ≤ 1000000000) (hl : l.length ≤ 1000000000) :
    Calls Try.prog 59 #[.pointer (some ⟨q, 0, none⟩)] W fun e w' => ∃ P z, e = .returned (.slice P pl.length z) ∧ RX W0 w' HL q A c l p' ∧ ∀ y : HpA, y.A = P → y.c = z → y.pl = pl → PlAt w' y ∧ ∀ ad, y.A = some ad → W.heap.size ≤ ad.block ∧ UB w' ad.block := by
  subst hpl hp'
  refine (refPayR_any W q c p A l m h.rd hm hp hl).mono fun e w' k => ?_
  obtain ⟨v, rfl, ho, hr, hk⟩ := k
  obtain ⟨P, n, z, rfl⟩ := own_val ho
  obtain ⟨rfl, hy⟩ := twin_pl ho
  exact ⟨P, z, rfl, h.got hr hk, hy⟩
theorem RX.box0 {b : Nat} {t : TypeId} {cs : Array Value} (h : RX W0 W ((b, t, cs) :: HL) q A c l p) : Whole W b t cs := (h.held (b, t, cs) (by simp)).1
theorem own_len5 {w : World} {b k m n c : Nat} {e : TypeId} {P : Option Addr} {xs : List Value} (h : w.ownsRow b e k (.slice P n c) m xs) : n = m := by
  rcases h.2 with ⟨e, h0⟩ | ⟨g, cap, cur, e, _⟩
  · cases e; exact h0.symm
  · cases e; rfl
theorem RD.lens {v0 v1 v2 : Value} {p3 p4 : Option Addr} {n3 c3 n4 c4 : Nat} (d : RD w W x q B A c l p ⟨v0, v1, v2, .slice p3 n3 c3, .slice p4 n4 c4⟩ s) : n3 = s.haps.length ∧ n4 = s.faults.length := ⟨own_len5 d.sb.r3, own_len5 d.sb.r4⟩
theorem RD.rows (d : RD w W x q B A c l p V s) : ∃ p0 n0 z0 p1 n1 z1 p2 n2 z2 p3 n3 z3 p4 n4 z4, V = ⟨.slice p0 n0 z0, .slice p1 n1 z1, .slice p2 n2 z2, .slice p3 n3 z3, .slice p4 n4 z4⟩ := by
  obtain ⟨v0, v1, v2, v3, v4⟩ := V
  obtain ⟨p0, n0, z0, rfl⟩ := own_val d.sb.r0
  obtain ⟨p1, n1, z1, rfl⟩ := own_val d.sb.r1
  obtain ⟨p2, n2, z2, rfl⟩ := own_val d.sb.r2
  obtain ⟨p3, n3, z3, rfl⟩ := own_val d.sb.r3
  obtain ⟨p4, n4, z4, rfl⟩ := own_val d.sb.r4
  exact ⟨_, _, _, _, _, _, _, _, _, _, _, _, _, _, _, rfl⟩
end
end Go.Proofs.Ytljcaigaofalbaa
