/- CstateApart, its walk. -/
import Derived.Test.YtnpjldolppikfaaCAlive
import Derived.Test.YtnpjldolppikfaaCAsks
import Derived.Test.YtnpjldolppikfaaCApD
import Derived.Test.YtnpjldolppikfaaCDec
import Derived.StillTailTactics
import Derived.Deep.RegionHeld3
import Derived.Deep.DeepCutAuto
namespace Go.Proofs.Ytnpjldolppikfaa
open Go.RowKit

theorem has_back (g : Nat) (n : Int) (w : World) (hg : g < 65536) : Calls Try.prog 31 #[.int .u16 (g : Int), .int .i64 n] w fun e w' => e = .returned (.bool (hasG g n)) ∧ w' = w := (has_any g n w hg).mono fun _ _ h => ⟨h.1, h.2.symm⟩
theorem ba {a X : World} (h : Below a.heap.size a X) (o : Obj) : Below a.heap.size a (X.alloc o) := h.alloc h.size o
theorem bsc {a X : World} (h : Below a.heap.size a X) {g i : Nat} (hg : a.heap.size ≤ g) (v : Value) : Below a.heap.size a (X.setCell ⟨g, i, none⟩ v) := h.setCell (p := ⟨g, i, none⟩) hg v
theorem wn_drew (w : World) (t : TypeId) (cs : Array Value) : Whole (w.drew.alloc (.cells cs t)) w.heap.size t cs := Whole.new w.drew t cs
theorem wn2 (w : World) (o : Obj) (t : TypeId) (cs : Array Value) : Whole ((w.alloc o).alloc (.cells cs t)) (w.heap.size + 1) t cs := by
  have h := Whole.new (w.alloc o) t cs
  simpa using h
theorem wn2_drew (w : World) (o : Obj) (t : TypeId) (cs : Array Value) : Whole ((w.drew.alloc o).alloc (.cells cs t)) (w.heap.size + 1) t cs := wn2 w.drew o t cs
theorem bdr {a X : World} (h : Below a.heap.size a X) : Below a.heap.size a X.drew := h.drew

/-- Two new blocks beside all that was there. -/
def Two (X V : World) (g1 g2 : Nat) (a b : Array Value) : Prop := Whole V g1 25 a ∧ Whole V g2 25 b ∧ Below X.heap.size X V
section
variable {X w6 : World} {g g' : Nat} {z0 z1 z2 z3 y0 y1 y2 y3 a0 a1 a2 a3 b0 b1 b2 b3 : Value} (B6 : Below X.heap.size X w6)
include B6
theorem two0 : Two X ((w6.alloc (.cells #[a0, a1, a2, a3] 25)).alloc (.cells #[b0, b1, b2, b3] 25)) w6.heap.size (w6.heap.size + 1) #[a0, a1, a2, a3] #[b0, b1, b2, b3] :=
  ⟨(Whole.new _ _ _).alloc _, wn2 _ _ _ _, ba (ba B6 _) _⟩
theorem two0' : Two X ((w6.alloc (.cells #[b0, b1, b2, b3] 25)).alloc (.cells #[a0, a1, a2, a3] 25)) (w6.heap.size + 1) w6.heap.size #[a0, a1, a2, a3] #[b0, b1, b2, b3] :=
  ⟨wn2 _ _ _ _, (Whole.new _ _ _).alloc _, ba (ba B6 _) _⟩
omit B6 in
theorem new_set : Whole (((((w6.setCell ⟨g, 0, none⟩ a0).setCell ⟨g, 1, none⟩ a1).setCell ⟨g, 2, none⟩ a2).setCell ⟨g, 3, none⟩ a3).alloc (.cells #[b0, b1, b2, b3] 25)) w6.heap.size 25 #[b0, b1, b2, b3] := by
  have h := Whole.new ((((w6.setCell ⟨g, 0, none⟩ a0).setCell ⟨g, 1, none⟩ a1).setCell ⟨g, 2, none⟩ a2).setCell ⟨g, 3, none⟩ a3) 25 #[b0, b1, b2, b3]
  simpa [World.setCell] using h
theorem twoB (Z : Whole w6 g 25 #[z0, z1, z2, z3]) (hg : X.heap.size ≤ g) : Two X (((((w6.setCell ⟨g, 0, none⟩ a0).setCell ⟨g, 1, none⟩ a1).setCell ⟨g, 2, none⟩ a2).setCell ⟨g, 3, none⟩ a3).alloc (.cells #[b0, b1, b2, b3] 25)) g w6.heap.size #[a0, a1, a2, a3] #[b0, b1, b2, b3] :=
  ⟨((((Z.set 0 _).set 1 _).set 2 _).set 3 _).alloc _, new_set, ba (bsc (bsc (bsc (bsc B6 hg _) hg _) hg _) hg _) _⟩
theorem twoB' (Z : Whole w6 g 25 #[z0, z1, z2, z3]) (hg : X.heap.size ≤ g) : Two X (((((w6.setCell ⟨g, 0, none⟩ b0).setCell ⟨g, 1, none⟩ b1).setCell ⟨g, 2, none⟩ b2).setCell ⟨g, 3, none⟩ b3).alloc (.cells #[a0, a1, a2, a3] 25)) w6.heap.size g #[a0, a1, a2, a3] #[b0, b1, b2, b3] :=
  ⟨new_set, ((((Z.set 0 _).set 1 _).set 2 _).set 3 _).alloc _, ba (bsc (bsc (bsc (bsc B6 hg _) hg _) hg _) hg _) _⟩
theorem twoC (Z : Whole w6 g 25 #[z0, z1, z2, z3]) (Z' : Whole w6 g' 25 #[y0, y1, y2, y3]) (hg : X.heap.size ≤ g) (hg' : X.heap.size ≤ g') (hne : g ≠ g') : Two X ((((((((w6.setCell ⟨g, 0, none⟩ a0).setCell ⟨g, 1, none⟩ a1).setCell ⟨g, 2, none⟩ a2).setCell ⟨g, 3, none⟩ a3).setCell ⟨g', 0, none⟩ b0).setCell ⟨g', 1, none⟩ b1).setCell ⟨g', 2, none⟩ b2).setCell ⟨g', 3, none⟩ b3) g g' #[a0, a1, a2, a3] #[b0, b1, b2, b3] :=
  ⟨((((((((Z.set 0 _).set 1 _).set 2 _).set 3 _).far hne _).far hne _).far hne _).far hne _), ((((((((Z'.far hne.symm _).far hne.symm _).far hne.symm _).far hne.symm _).set 0 _).set 1 _).set 2 _).set 3 _), (bsc (bsc (bsc (bsc (bsc (bsc (bsc (bsc B6 hg _) hg _) hg _) hg _) hg' _) hg' _) hg' _) hg' _)⟩
end

set_option maxRecDepth 100000 in
set_option maxHeartbeats 4000000 in
theorem apartL_yes (r s m : Int) (g h nd : Nat) (w : World) (hg : g < 65536) (hh : h < 65536) (hnd : nd < 256)  : Calls Try.prog 9 #[.agg #[.int .i64 r, .int .i64 s, .int .i64 m, .int .u16 (g : Int)], .agg #[.int .i64 r, .int .i64 s, .int .i64 m, .int .u16 (h : Int)], .int .u8 (nd : Int)] w fun e w' => e = .returned (.bool true) ∧ Below w.heap.size w w' := by
  obtain ⟨W, hWe⟩ : ∃ W, (w.alloc (.cells #[.int .i64 r, .int .i64 s, .int .i64 m, .int .u16 (g : Int)] 25)).alloc (.cells #[.int .i64 r, .int .i64 s, .int .i64 m, .int .u16 (h : Int)] 25) = W := ⟨_, rfl⟩
  have hb0 : Below w.heap.size w W := by rw [← hWe]; exact ((Below.refl _ _).alloc (Nat.le_refl _) _).alloc (by simp) _
  have hA0 : Whole W w.heap.size 25 #[.int .i64 r, .int .i64 s, .int .i64 m, .int .u16 (g : Int)] := by rw [← hWe]; exact (Whole.new w _ _).alloc _
  have hB0 : Whole W (w.heap.size + 1) 25 #[.int .i64 r, .int .i64 s, .int .i64 m, .int .u16 (h : Int)] := by
    rw [← hWe]
    have := Whole.new (w.alloc (.cells #[.int .i64 r, .int .i64 s, .int .i64 m, .int .u16 (g : Int)] 25)) 25 #[.int .i64 r, .int .i64 s, .int .i64 m, .int .u16 (h : Int)]
    simpa using this
  have AP1 := fun V => apart_any r s m r s m g h V hg hh
  have AP3 := fun V => apart_any r s m r s m h g V hh hg
  unfold ApartAt at AP1 AP3
  rw [apG_swap g h, sameC_swap r s m r s m] at AP3
  have hsame : sameC r s m r s m = true := by simp [sameC]
  rw [hsame] at AP1 AP3
  have LI := fun V => list_any (apG g h) V (apG_lt hg hh)
  have hfold := turnAll_ap hg hh
  have hll := listI_le (apG g h)
  generalize hx : apG g h = x at *
  generalize listI x = L at *
  have HW := Lib.hid hWe
  have HAP1 := Lib.hid AP1
  have HAP3 := Lib.hid AP3
  have HLI := Lib.hid LI
  have HF := Lib.hid hfold
  have HG := Lib.hid hg
  have HH := Lib.hid hh
  have HND := Lib.hid hnd
  clear AP1 AP3 LI hfold hWe hg hh hnd hx hsame
  go_enter Try.func9, Try.ntmps9
  go_wp2_with fail
  rw [HW.out]
  refine (alive4_any _).mono ?_
  rintro e w1 ⟨rfl, k1⟩
  have hb1 := hb0.trans (k1.mono hb0.size)
  have hA1 := whole_later k1 hA0
  have hB1 := whole_later k1 hB0
  clear hb0 hA0 hB0 HW k1
  obtain ⟨a0, a1, a2, a3, af⟩ := hA1.four
  obtain ⟨b0, b1, b2, b3, bf⟩ := hB1.four
  go_wp2_with fail
  refine (HAP1.out _).mono ?_
  rintro e w2 ⟨rfl, k2⟩
  have hb2 := (hb1.trans (k2.mono hb1.size)).alloc (hb1.trans (k2.mono hb1.size)).size (.cells #[.int .i64 r, .int .i64 s, .int .i64 m, .int .u16 (g : Int)] 25)
  have hA2 := (whole_later k2 hA1).alloc (.cells #[.int .i64 r, .int .i64 s, .int .i64 m, .int .u16 (g : Int)] 25)
  have hB2 := (whole_later k2 hB1).alloc (.cells #[.int .i64 r, .int .i64 s, .int .i64 m, .int .u16 (g : Int)] 25)
  have hC2 := Whole.new w2 25 #[.int .i64 r, .int .i64 s, .int .i64 m, .int .u16 (g : Int)]
  have zA : w.heap.size < w2.heap.size := (whole_later k2 hA1).lt
  have zB : w.heap.size + 1 < w2.heap.size := (whole_later k2 hB1).lt
  clear a0 a1 a2 a3 af b0 b1 b2 b3 bf
  obtain ⟨a0, a1, a2, a3, af⟩ := (whole_later k2 hA1).four
  clear hb1 hA1 hB1 k2
  go_wp2_with fail
  generalize w2.heap.size = gc at *
  generalize w2.alloc (.cells #[.int .i64 r, .int .i64 s, .int .i64 m, .int .u16 (g : Int)] 25) = W2 at *
  refine (HLI.out _).mono ?_
  rintro e w3 hf
  obtain ⟨Al, cl, rfl, hsrc, hAl, k3⟩ := hf.opened
  have hb3 := hb2.trans (k3.mono hb2.size)
  have hA3 := whole_later k3 hA2
  have hB3 := whole_later k3 hB2
  have hC3 := whole_later k3 hC2
  have zC : gc < W2.heap.size := hC2.lt
  have HAl := Lib.hid hAl
  have HSrc := Lib.hid hsrc
  have HA3 := Lib.hid hA3
  have HB3 := Lib.hid hB3
  have HC3 := Lib.hid hC3
  have HB3' := Lib.hid hb3
  clear hf hb2 hA2 hB2 hC2 k3 a0 a1 a2 a3 af hAl hsrc hA3 hB3 hC3 hb3
  go_wp2_with fail
  go_loopw [31] (fun i V => ∃ k : Nat, k ≤ L.length ∧ i = .int .i64 (k : Int) ∧ Kept (One gc) w3 V ∧ Whole V gc 25 #[.int .i64 r, .int .i64 s, .int .i64 m, .int .u16 (((L.take k).foldl (turnG h) g : Nat) : Int)]) (fun i _ => L.length - (intOf i).toNat)
  case atStart => exact ⟨0, Nat.zero_le _, rfl, Kept.refl _ _, HC3.out⟩
  case round =>
    obtain ⟨k, hk, rfl, hkk, hC⟩ := hrel
    by_cases hlt : k < L.length
    · obtain ⟨bb, o, rfl, hcell⟩ := HSrc.out (by omega)
      have hbb := (HAl.out _ rfl).1
      have hc := hkk.cell (hcell k hlt) (by simp [One]; simp at hbb; omega)
      have hfl := turnAll_lt h (L.take k) g HG.out
      have hft := Lib.hid (turn_take h hlt g)
      clear hcell
      generalize (L.take k).foldl (turnG h) g = v at *
      generalize hxx : L[k] = y at *
      have HX := Lib.hid hxx
      have hB := whole_kept hkk (by simp [One]; omega) HB3.out
      obtain ⟨b0, b1, b2, b3, bf⟩ := hB.four
      obtain ⟨c0, c1, c2, c3, cf⟩ := hC.four
      have SE := fun V => seen_any r s m y v (hasG h y) V hfl
      have HSE := Lib.hid SE
      have hz : seenG v y (hasG h y) = turnG h v y := rfl
      have HZ := Lib.hid hz
      have HN := Lib.hid (has_back h y)
      clear hxx hbb SE hz hfl
      generalize hasG h y = is at *
      go_wp2_with fail
      go_still_tail 6, (by kernel_rfl)
      still_call (HN.out _ HH.out)
      refine wpStill_nil ?_
      change wpList _ _ _ _ _ wr.drew
      have hk5 := hkk.drew
      have hC5 := hC.drew
      clear b0 b1 b2 b3 bf c0 c1 c2 c3 cf hkk hC hB hc
      generalize wr.drew = V2 at *
      go_wp2_with fail
      refine (HSE.out _).mono ?_
      rintro e w5 ⟨rfl, m5⟩
      have hk6 := kept_then (Kept.of_below m5 (One gc)) hk5
      have hC6 := whole_later m5 hC5
      clear hk5 hC5 m5
      obtain ⟨c0, c1, c2, c3, cf⟩ := hC6.four
      go_wp2_with fail
      go_roundw
      case rel =>
        refine ⟨k + 1, hlt, by go_num, ((((hk6.setCell (p := ⟨gc, _, none⟩) (.inl rfl) _).setCell (p := ⟨gc, _, none⟩) (.inl rfl) _).setCell (p := ⟨gc, _, none⟩) (.inl rfl) _).setCell (p := ⟨gc, _, none⟩) (.inl rfl) _), ?_⟩
        rw [hft.out, ← HZ.out]
        exact (((hC6.set 0 _).set 1 _).set 2 _).set 3 _
      case measure => simp [intOf]; omega
    · have hke : k = L.length := by omega
      subst hke
      rw [List.take_length, HF.out] at hC
      have hA := whole_kept hkk (by simp [One]; omega) HA3.out
      have hB := whole_kept hkk (by simp [One]; omega) HB3.out
      have hb := hkk.on HB3'.out (fun i hi => by simp [One] at hi; omega) HB3'.out.size
      clear hkk HA3 HB3 HC3 HB3' HSrc HAl
      have hn0 : 0 ≤ (nd : Int) % 16 := by omega
      have hn1 : ((nd : Int) % 16) = ((nd % 16 : Nat) : Int) := by omega
      have ht1 := seen_has (g := g) (n := nd % 16) (Nat.mod_lt _ (by decide))
      have ht2 := seen_hasnt (g := g) (n := nd % 16) (Nat.mod_lt _ (by decide))
      rw [← hn1] at ht1 ht2
      have hsl1 := seenG_lt ((nd : Int) % 16) true HG.out
      have hsl2 := seenG_lt ((nd : Int) % 16) false HG.out
      have ST := fun V => seen_true r s m ((nd : Int) % 16) g V HG.out
      have SF := fun V => seen_false r s m ((nd : Int) % 16) g V HG.out
      have AP2 := fun V => apart_yes r s m g (seenG g ((nd : Int) % 16) true) V HG.out hsl1
      unfold ApartAt at AP2
      have T1 := fun V => has_any (seenG g ((nd : Int) % 16) true) ((nd : Int) % 16) V hsl1
      have T2 := fun V => has_any (seenG g ((nd : Int) % 16) false) ((nd : Int) % 16) V hsl2
      rw [ht1] at T1
      rw [ht2] at T2
      have K1 := fun V => refCheck_any r s m (g : Int) V
      have K2 := fun V => check_any r s m ((seenG g ((nd : Int) % 16) true : Nat) : Int) V
      generalize apG g (seenG g ((nd : Int) % 16) true) = z at *
      generalize seenG g ((nd : Int) % 16) true = gt at *
      generalize seenG g ((nd : Int) % 16) false = gf at *
      generalize chkC r s m = ck at *
      have HST := Lib.hid ST
      have HSF := Lib.hid SF
      have HAP2 := Lib.hid AP2
      have HT1 := Lib.hid T1
      have HT2 := Lib.hid T2
      have HK1 := Lib.hid K1
      have HK2 := Lib.hid K2
      clear ST SF AP2 T1 T2 K1 K2 ht1 ht2 hn1 hsl1 hsl2
      have hnd' := HND.out
      go_upto_region 10 with fail
      have KC := Lib.hid (fun (X : World) (hX : Below wr.heap.size wr X) => (⟨(hX.cell (p := ⟨w.heap.size, 0, none⟩) hA.lt).trans hA.four.1, (hX.cell (p := ⟨w.heap.size, 1, none⟩) hA.lt).trans hA.four.2.1, (hX.cell (p := ⟨w.heap.size, 2, none⟩) hA.lt).trans hA.four.2.2.1, (hX.cell (p := ⟨w.heap.size, 3, none⟩) hA.lt).trans hA.four.2.2.2.1⟩ : X.cell? ⟨w.heap.size, 0, none⟩ = some (.int .i64 r) ∧ X.cell? ⟨w.heap.size, 1, none⟩ = some (.int .i64 s) ∧ X.cell? ⟨w.heap.size, 2, none⟩ = some (.int .i64 m) ∧ X.cell? ⟨w.heap.size, 3, none⟩ = some (.int .u16 (g : Int))))
      go_cut [14, 15] (fun s14 s15 wx => ∃ g1 g2 : Nat, s14 = .pointer (some ⟨g1, 0, none⟩) ∧ s15 = .pointer (some ⟨g2, 0, none⟩) ∧ Two wr wx g1 g2 #[.int .i64 r, .int .i64 s, .int .i64 m, .int .u16 (gt : Int)] #[.int .i64 r, .int .i64 s, .int .i64 m, .int .u16 (gf : Int)])
      case first =>
        have B0 : Below wr.heap.size wr wr := Below.refl _ _
        go_region_held3 (fun w' => w'.cell? ⟨w.heap.size, 0, none⟩ = some (.int .i64 r) ∧ w'.cell? ⟨w.heap.size, 1, none⟩ = some (.int .i64 s) ∧ w'.cell? ⟨w.heap.size, 2, none⟩ = some (.int .i64 m) ∧ w'.cell? ⟨w.heap.size, 3, none⟩ = some (.int .u16 (g : Int))) ((refine KC.out _ ?_; repeat (first | with_reducible assumption | (with_reducible refine ba ?_ _) | (with_reducible refine bdr ?_) | (with_reducible refine bsc ?_ (by omega) _))))
          (first
            | (go_at_call 26; ((with_reducible refine (HST.out _).mono ?_); rintro e w5 ⟨rfl, m5⟩; (first | have B5 : Below wr.heap.size wr w5 := below_then m5 (bdr B0) | have B5 : Below wr.heap.size wr w5 := below_then m5 (ba (bdr B0) _) | have B5 : Below wr.heap.size wr w5 := below_then m5 (bdr (ba B0 _)) | have B5 : Below wr.heap.size wr w5 := below_then m5 (ba (ba (bdr B0) _) _) | have B5 : Below wr.heap.size wr w5 := below_then m5 (bdr (ba (ba B0 _) _)) | skip); have S5 : wr.heap.size ≤ w5.heap.size := B5.size; (first | have Z51 : Whole w5 wr.heap.size 25 #[.int .i64 0, .int .i64 0, .int .i64 0, .int .u16 0] := whole_later m5 (wn_drew _ _ _) | have Z51 : Whole w5 wr.heap.size 25 #[.int .i64 0, .int .i64 0, .int .i64 0, .int .u16 0] := whole_later m5 (Whole.new _ _ _).drew | have Z51 : Whole w5 wr.heap.size 25 #[.int .i64 0, .int .i64 0, .int .i64 0, .int .u16 0] := whole_later m5 ((wn_drew _ _ _).alloc _) | have Z51 : Whole w5 wr.heap.size 25 #[.int .i64 0, .int .i64 0, .int .i64 0, .int .u16 0] := whole_later m5 ((Whole.new _ _ _).alloc _).drew | skip); (first | (obtain ⟨za0, za1, za2, za3, zaf⟩ := Z51.four; have zal := Z51.lt) | skip); (first | have Z52 : Whole w5 (wr.heap.size + 1) 25 #[.int .i64 0, .int .i64 0, .int .i64 0, .int .u16 0] := whole_later m5 (wn2_drew _ _ _ _) | have Z52 : Whole w5 (wr.heap.size + 1) 25 #[.int .i64 0, .int .i64 0, .int .i64 0, .int .u16 0] := whole_later m5 (wn2 _ _ _ _).drew | skip); (first | (obtain ⟨zb0, zb1, zb2, zb3, zbf⟩ := Z52.four; have zbl := Z52.lt) | skip)))
            | (go_at_call 26; ((with_reducible refine (HSF.out _).mono ?_); rintro e w6 ⟨rfl, m6⟩; (first | have B6 : Below wr.heap.size wr w6 := below_then m6 B5 | have B6 : Below wr.heap.size wr w6 := below_then m6 (ba B5 _) | have B6 : Below wr.heap.size wr w6 := below_then m6 (ba (ba B5 _) _) | skip); (first | have S6' : Below w5.heap.size w5 w6 := below_then m6 (Below.refl w5.heap.size w5) | have S6' : Below w5.heap.size w5 w6 := below_then m6 (ba (Below.refl w5.heap.size w5) _) | have S6' : Below w5.heap.size w5 w6 := below_then m6 (ba (ba (Below.refl w5.heap.size w5) _) _) | skip); have S6 : w5.heap.size ≤ w6.heap.size := S6'.size; (first | have Z61 : Whole w6 wr.heap.size 25 #[.int .i64 0, .int .i64 0, .int .i64 0, .int .u16 0] := whole_later m6 Z51 | have Z61 : Whole w6 wr.heap.size 25 #[.int .i64 0, .int .i64 0, .int .i64 0, .int .u16 0] := whole_later m6 (Z51.alloc _) | have Z61 : Whole w6 wr.heap.size 25 #[.int .i64 0, .int .i64 0, .int .i64 0, .int .u16 0] := whole_later m6 ((Z51.alloc _).alloc _) | skip); (first | (obtain ⟨zc0, zc1, zc2, zc3, zcf⟩ := Z61.four; have zcl := Z61.lt) | skip); (first | have Z62 : Whole w6 (wr.heap.size + 1) 25 #[.int .i64 0, .int .i64 0, .int .i64 0, .int .u16 0] := whole_later m6 Z52 | skip); (first | (obtain ⟨zd0, zd1, zd2, zd3, zdf⟩ := Z62.four; have zdl := Z62.lt) | skip); (first | have Z63 : Whole w6 w5.heap.size 25 #[.int .i64 0, .int .i64 0, .int .i64 0, .int .u16 0] := whole_later m6 (Whole.new _ _ _) | have Z63 : Whole w6 w5.heap.size 25 #[.int .i64 0, .int .i64 0, .int .i64 0, .int .u16 0] := whole_later m6 ((Whole.new _ _ _).alloc _) | skip); (first | (obtain ⟨ze0, ze1, ze2, ze3, zef⟩ := Z63.four; have zel := Z63.lt) | skip); (first | have Z64 : Whole w6 (w5.heap.size + 1) 25 #[.int .i64 0, .int .i64 0, .int .i64 0, .int .u16 0] := whole_later m6 (wn2 _ _ _ _) | skip); (first | (obtain ⟨zg0, zg1, zg2, zg3, zgf⟩ := Z64.four; have zgl := Z64.lt) | skip))))
        all_goals (go_wp2_with fail; go_meet; refine ⟨_, _, rfl, rfl, ?_⟩; (first | with_reducible exact two0 B6 | with_reducible exact two0' B6 | with_reducible exact twoB B6 Z61 (by omega) | with_reducible exact twoB' B6 Z61 (by omega) | with_reducible exact twoB B6 Z63 (by omega) | with_reducible exact twoB' B6 Z63 (by omega) | with_reducible exact twoC B6 Z63 Z64 (by omega) (by omega) (by omega) | with_reducible exact twoC B6 Z64 Z63 (by omega) (by omega) (by omega) | with_reducible exact twoC B6 Z61 Z62 (by omega) (by omega) (by omega) | with_reducible exact twoC B6 Z62 Z61 (by omega) (by omega) (by omega) | with_reducible exact twoC B6 Z61 Z63 (by omega) (by omega) (by omega) | with_reducible exact twoC B6 Z63 Z61 (by omega) (by omega) (by omega)))
      case rest =>
        obtain ⟨g1, g2, rfl, rfl, hw1, hw2, hX⟩ := hcut
        have hb6 := hb.trans (hX.mono hb.size)
        have hA6 := whole_later hX hA
        have hB6 := whole_later hX hB
        have hC6 := whole_later hX hC
        clear KC hA hB hC hX hb
        obtain ⟨a0, a1, a2, a3, af⟩ := hA6.four
        obtain ⟨d0, d1, d2, d3, df⟩ := hw1.four
        go_wp2_with fail
        refine (HAP2.out _).mono ?_
        rintro e w8 ⟨rfl, k8⟩
        have hb8 := hb6.trans (k8.mono hb6.size)
        have hA8 := whole_later k8 hA6
        have hB8 := whole_later k8 hB6
        have hC8 := whole_later k8 hC6
        have hw18 := whole_later k8 hw1
        have hw28 := whole_later k8 hw2
        clear a0 a1 a2 a3 af d0 d1 d2 d3 df hb6 hA6 hB6 hC6 hw1 hw2 k8
        obtain ⟨a0, a1, a2, a3, af⟩ := hA8.four
        obtain ⟨b0, b1, b2, b3, bf⟩ := hB8.four
        go_wp2_with fail
        refine (HAP3.out _).mono ?_
        rintro e w9 ⟨rfl, k9⟩
        have hb9 := hb8.trans (k9.mono hb8.size)
        have hA9 := whole_later k9 hA8
        have hB9 := whole_later k9 hB8
        have hC9 := whole_later k9 hC8
        have hw19 := whole_later k9 hw18
        have hw29 := whole_later k9 hw28
        clear a0 a1 a2 a3 af b0 b1 b2 b3 bf hb8 hA8 hB8 hC8 hw18 hw28 k9
        go_wp2_with fail
        obtain ⟨a0, a1, a2, a3, _⟩ := hA9.four
        obtain ⟨b0, b1, b2, b3, _⟩ := hB9.four
        obtain ⟨c0, c1, c2, c3, _⟩ := hC9.four
        obtain ⟨d0, d1, d2, d3, _⟩ := hw19.four
        obtain ⟨_, _, _, e3, _⟩ := hw29.four
        have ia0 := fun y : Later w9 => y.cell a0
        have ia1 := fun y : Later w9 => y.cell a1
        have ia2 := fun y : Later w9 => y.cell a2
        have ia3 := fun y : Later w9 => y.cell a3
        have ib0 := fun y : Later w9 => y.cell b0
        have ib1 := fun y : Later w9 => y.cell b1
        have ib2 := fun y : Later w9 => y.cell b2
        have ib3 := fun y : Later w9 => y.cell b3
        have ic0 := fun y : Later w9 => y.cell c0
        have ic1 := fun y : Later w9 => y.cell c1
        have ic2 := fun y : Later w9 => y.cell c2
        have ic3 := fun y : Later w9 => y.cell c3
        have id0 := fun y : Later w9 => y.cell d0
        have id1 := fun y : Later w9 => y.cell d1
        have id2 := fun y : Later w9 => y.cell d2
        have id3 := fun y : Later w9 => y.cell d3
        have ie3 := fun y : Later w9 => y.cell e3
        clear a0 a1 a2 a3 b0 b1 b2 b3 c0 c1 c2 c3 d0 d1 d2 d3 e3 hA9 hB9 hC9 hw19 hw29
        refine wp_region_later (by kernel_rfl) (by kernel_rfl) ?_
        repeat (go_big_quiet_step ((first
          | (go_at_call 31; with_reducible exact later_same _ HT1.out)
          | (go_at_call 31; with_reducible exact later_same _ HT2.out)
          | (go_at_call 17; with_reducible exact later_of _ HK1.out)
          | (go_at_call 16; with_reducible exact later_of _ HK2.out))))
        refine wpQuiet_nil ?_
        intro _ hw'
        obtain ⟨q, hw''⟩ := hw'
        subst hw''
        go_wp2
        go_ret
        exact ⟨rfl, hb9.trans (q.below.mono hb9.size)⟩

set_option maxRecDepth 100000 in
set_option maxHeartbeats 4000000 in
theorem apartL_no1 (r s m r' s' m' : Int) (g h nd : Nat) (w : World) (hg : g < 65536) (hh : h < 65536) (hnd : nd < 256) (hq : ¬ r = r') : Calls Try.prog 9 #[.agg #[.int .i64 r, .int .i64 s, .int .i64 m, .int .u16 (g : Int)], .agg #[.int .i64 r', .int .i64 s', .int .i64 m', .int .u16 (h : Int)], .int .u8 (nd : Int)] w fun e w' => e = .returned (.bool true) ∧ Below w.heap.size w w' := by
  obtain ⟨W, hWe⟩ : ∃ W, (w.alloc (.cells #[.int .i64 r, .int .i64 s, .int .i64 m, .int .u16 (g : Int)] 25)).alloc (.cells #[.int .i64 r', .int .i64 s', .int .i64 m', .int .u16 (h : Int)] 25) = W := ⟨_, rfl⟩
  have hb0 : Below w.heap.size w W := by rw [← hWe]; exact ((Below.refl _ _).alloc (Nat.le_refl _) _).alloc (by simp) _
  have hA0 : Whole W w.heap.size 25 #[.int .i64 r, .int .i64 s, .int .i64 m, .int .u16 (g : Int)] := by rw [← hWe]; exact (Whole.new w _ _).alloc _
  have hB0 : Whole W (w.heap.size + 1) 25 #[.int .i64 r', .int .i64 s', .int .i64 m', .int .u16 (h : Int)] := by
    rw [← hWe]
    have := Whole.new (w.alloc (.cells #[.int .i64 r, .int .i64 s, .int .i64 m, .int .u16 (g : Int)] 25)) 25 #[.int .i64 r', .int .i64 s', .int .i64 m', .int .u16 (h : Int)]
    simpa using this
  have AP1 := fun V => apart_any r s m r' s' m' g h V hg hh
  have AP3 := fun V => apart_any r' s' m' r s m h g V hh hg
  unfold ApartAt at AP1 AP3
  rw [apG_swap g h, sameC_swap r s m r' s' m'] at AP3
  have hsame : sameC r s m r' s' m' = false := by simp [sameC, hq]
  rw [hsame] at AP1 AP3
  have LI := fun V => list_any (apG g h) V (apG_lt hg hh)
  have hfold := turnAll_ap hg hh
  have hll := listI_le (apG g h)
  generalize hx : apG g h = x at *
  generalize listI x = L at *
  have HW := Lib.hid hWe
  have HAP1 := Lib.hid AP1
  have HAP3 := Lib.hid AP3
  have HLI := Lib.hid LI
  have HF := Lib.hid hfold
  have HG := Lib.hid hg
  have HH := Lib.hid hh
  have HND := Lib.hid hnd
  have dd : (r == r') = false := by simp [hq]
  clear hq
  clear AP1 AP3 LI hfold hWe hg hh hnd hx hsame
  go_enter Try.func9, Try.ntmps9
  go_wp2_with fail
  rw [HW.out]
  refine (alive4_any _).mono ?_
  rintro e w1 ⟨rfl, k1⟩
  have hb1 := hb0.trans (k1.mono hb0.size)
  have hA1 := whole_later k1 hA0
  have hB1 := whole_later k1 hB0
  clear hb0 hA0 hB0 HW k1
  obtain ⟨a0, a1, a2, a3, af⟩ := hA1.four
  obtain ⟨b0, b1, b2, b3, bf⟩ := hB1.four
  go_wp2_with fail
  refine (HAP1.out _).mono ?_
  rintro e w2 ⟨rfl, k2⟩
  have hb2 := (hb1.trans (k2.mono hb1.size)).alloc (hb1.trans (k2.mono hb1.size)).size (.cells #[.int .i64 r, .int .i64 s, .int .i64 m, .int .u16 (g : Int)] 25)
  have hA2 := (whole_later k2 hA1).alloc (.cells #[.int .i64 r, .int .i64 s, .int .i64 m, .int .u16 (g : Int)] 25)
  have hB2 := (whole_later k2 hB1).alloc (.cells #[.int .i64 r, .int .i64 s, .int .i64 m, .int .u16 (g : Int)] 25)
  have hC2 := Whole.new w2 25 #[.int .i64 r, .int .i64 s, .int .i64 m, .int .u16 (g : Int)]
  have zA : w.heap.size < w2.heap.size := (whole_later k2 hA1).lt
  have zB : w.heap.size + 1 < w2.heap.size := (whole_later k2 hB1).lt
  clear a0 a1 a2 a3 af b0 b1 b2 b3 bf
  obtain ⟨a0, a1, a2, a3, af⟩ := (whole_later k2 hA1).four
  clear hb1 hA1 hB1 k2
  go_wp2_with fail
  generalize w2.heap.size = gc at *
  generalize w2.alloc (.cells #[.int .i64 r, .int .i64 s, .int .i64 m, .int .u16 (g : Int)] 25) = W2 at *
  refine (HLI.out _).mono ?_
  rintro e w3 hf
  obtain ⟨Al, cl, rfl, hsrc, hAl, k3⟩ := hf.opened
  have hb3 := hb2.trans (k3.mono hb2.size)
  have hA3 := whole_later k3 hA2
  have hB3 := whole_later k3 hB2
  have hC3 := whole_later k3 hC2
  have zC : gc < W2.heap.size := hC2.lt
  have HAl := Lib.hid hAl
  have HSrc := Lib.hid hsrc
  have HA3 := Lib.hid hA3
  have HB3 := Lib.hid hB3
  have HC3 := Lib.hid hC3
  have HB3' := Lib.hid hb3
  clear hf hb2 hA2 hB2 hC2 k3 a0 a1 a2 a3 af hAl hsrc hA3 hB3 hC3 hb3
  go_wp2_with fail
  go_loopw [31] (fun i V => ∃ k : Nat, k ≤ L.length ∧ i = .int .i64 (k : Int) ∧ Kept (One gc) w3 V ∧ Whole V gc 25 #[.int .i64 r, .int .i64 s, .int .i64 m, .int .u16 (((L.take k).foldl (turnG h) g : Nat) : Int)]) (fun i _ => L.length - (intOf i).toNat)
  case atStart => exact ⟨0, Nat.zero_le _, rfl, Kept.refl _ _, HC3.out⟩
  case round =>
    obtain ⟨k, hk, rfl, hkk, hC⟩ := hrel
    by_cases hlt : k < L.length
    · obtain ⟨bb, o, rfl, hcell⟩ := HSrc.out (by omega)
      have hbb := (HAl.out _ rfl).1
      have hc := hkk.cell (hcell k hlt) (by simp [One]; simp at hbb; omega)
      have hfl := turnAll_lt h (L.take k) g HG.out
      have hft := Lib.hid (turn_take h hlt g)
      clear hcell
      generalize (L.take k).foldl (turnG h) g = v at *
      generalize hxx : L[k] = y at *
      have HX := Lib.hid hxx
      have hB := whole_kept hkk (by simp [One]; omega) HB3.out
      obtain ⟨b0, b1, b2, b3, bf⟩ := hB.four
      obtain ⟨c0, c1, c2, c3, cf⟩ := hC.four
      have SE := fun V => seen_any r s m y v (hasG h y) V hfl
      have HSE := Lib.hid SE
      have hz : seenG v y (hasG h y) = turnG h v y := rfl
      have HZ := Lib.hid hz
      have HN := Lib.hid (has_back h y)
      clear hxx hbb SE hz hfl
      generalize hasG h y = is at *
      go_wp2_with fail
      go_still_tail 6, (by kernel_rfl)
      still_call (HN.out _ HH.out)
      refine wpStill_nil ?_
      change wpList _ _ _ _ _ wr.drew
      have hk5 := hkk.drew
      have hC5 := hC.drew
      clear b0 b1 b2 b3 bf c0 c1 c2 c3 cf hkk hC hB hc
      generalize wr.drew = V2 at *
      go_wp2_with fail
      refine (HSE.out _).mono ?_
      rintro e w5 ⟨rfl, m5⟩
      have hk6 := kept_then (Kept.of_below m5 (One gc)) hk5
      have hC6 := whole_later m5 hC5
      clear hk5 hC5 m5
      obtain ⟨c0, c1, c2, c3, cf⟩ := hC6.four
      go_wp2_with fail
      go_roundw
      case rel =>
        refine ⟨k + 1, hlt, by go_num, ((((hk6.setCell (p := ⟨gc, _, none⟩) (.inl rfl) _).setCell (p := ⟨gc, _, none⟩) (.inl rfl) _).setCell (p := ⟨gc, _, none⟩) (.inl rfl) _).setCell (p := ⟨gc, _, none⟩) (.inl rfl) _), ?_⟩
        rw [hft.out, ← HZ.out]
        exact (((hC6.set 0 _).set 1 _).set 2 _).set 3 _
      case measure => simp [intOf]; omega
    · have hke : k = L.length := by omega
      subst hke
      rw [List.take_length, HF.out] at hC
      have hA := whole_kept hkk (by simp [One]; omega) HA3.out
      have hB := whole_kept hkk (by simp [One]; omega) HB3.out
      have hb := hkk.on HB3'.out (fun i hi => by simp [One] at hi; omega) HB3'.out.size
      clear hkk HA3 HB3 HC3 HB3' HSrc HAl
      have hn0 : 0 ≤ (nd : Int) % 16 := by omega
      have hn1 : ((nd : Int) % 16) = ((nd % 16 : Nat) : Int) := by omega
      have ht1 := seen_has (g := g) (n := nd % 16) (Nat.mod_lt _ (by decide))
      have ht2 := seen_hasnt (g := g) (n := nd % 16) (Nat.mod_lt _ (by decide))
      rw [← hn1] at ht1 ht2
      have hsl1 := seenG_lt ((nd : Int) % 16) true HG.out
      have hsl2 := seenG_lt ((nd : Int) % 16) false HG.out
      have ST := fun V => seen_true r s m ((nd : Int) % 16) g V HG.out
      have SF := fun V => seen_false r s m ((nd : Int) % 16) g V HG.out
      have AP2 := fun V => apart_yes r s m g (seenG g ((nd : Int) % 16) true) V HG.out hsl1
      unfold ApartAt at AP2
      have T1 := fun V => has_any (seenG g ((nd : Int) % 16) true) ((nd : Int) % 16) V hsl1
      have T2 := fun V => has_any (seenG g ((nd : Int) % 16) false) ((nd : Int) % 16) V hsl2
      rw [ht1] at T1
      rw [ht2] at T2
      have K1 := fun V => refCheck_any r s m (g : Int) V
      have K2 := fun V => check_any r s m ((seenG g ((nd : Int) % 16) true : Nat) : Int) V
      generalize apG g (seenG g ((nd : Int) % 16) true) = z at *
      generalize seenG g ((nd : Int) % 16) true = gt at *
      generalize seenG g ((nd : Int) % 16) false = gf at *
      generalize chkC r s m = ck at *
      have HST := Lib.hid ST
      have HSF := Lib.hid SF
      have HAP2 := Lib.hid AP2
      have HT1 := Lib.hid T1
      have HT2 := Lib.hid T2
      have HK1 := Lib.hid K1
      have HK2 := Lib.hid K2
      clear ST SF AP2 T1 T2 K1 K2 ht1 ht2 hn1 hsl1 hsl2
      have hnd' := HND.out
      go_upto_region 10 with fail
      have KC := Lib.hid (fun (X : World) (hX : Below wr.heap.size wr X) => (⟨(hX.cell (p := ⟨w.heap.size, 0, none⟩) hA.lt).trans hA.four.1, (hX.cell (p := ⟨w.heap.size, 1, none⟩) hA.lt).trans hA.four.2.1, (hX.cell (p := ⟨w.heap.size, 2, none⟩) hA.lt).trans hA.four.2.2.1, (hX.cell (p := ⟨w.heap.size, 3, none⟩) hA.lt).trans hA.four.2.2.2.1⟩ : X.cell? ⟨w.heap.size, 0, none⟩ = some (.int .i64 r) ∧ X.cell? ⟨w.heap.size, 1, none⟩ = some (.int .i64 s) ∧ X.cell? ⟨w.heap.size, 2, none⟩ = some (.int .i64 m) ∧ X.cell? ⟨w.heap.size, 3, none⟩ = some (.int .u16 (g : Int))))
      go_cut [14, 15] (fun s14 s15 wx => ∃ g1 g2 : Nat, s14 = .pointer (some ⟨g1, 0, none⟩) ∧ s15 = .pointer (some ⟨g2, 0, none⟩) ∧ Two wr wx g1 g2 #[.int .i64 r, .int .i64 s, .int .i64 m, .int .u16 (gt : Int)] #[.int .i64 r, .int .i64 s, .int .i64 m, .int .u16 (gf : Int)])
      case first =>
        have B0 : Below wr.heap.size wr wr := Below.refl _ _
        go_region_held3 (fun w' => w'.cell? ⟨w.heap.size, 0, none⟩ = some (.int .i64 r) ∧ w'.cell? ⟨w.heap.size, 1, none⟩ = some (.int .i64 s) ∧ w'.cell? ⟨w.heap.size, 2, none⟩ = some (.int .i64 m) ∧ w'.cell? ⟨w.heap.size, 3, none⟩ = some (.int .u16 (g : Int))) ((refine KC.out _ ?_; repeat (first | with_reducible assumption | (with_reducible refine ba ?_ _) | (with_reducible refine bdr ?_) | (with_reducible refine bsc ?_ (by omega) _))))
          (first
            | (go_at_call 26; ((with_reducible refine (HST.out _).mono ?_); rintro e w5 ⟨rfl, m5⟩; (first | have B5 : Below wr.heap.size wr w5 := below_then m5 (bdr B0) | have B5 : Below wr.heap.size wr w5 := below_then m5 (ba (bdr B0) _) | have B5 : Below wr.heap.size wr w5 := below_then m5 (bdr (ba B0 _)) | have B5 : Below wr.heap.size wr w5 := below_then m5 (ba (ba (bdr B0) _) _) | have B5 : Below wr.heap.size wr w5 := below_then m5 (bdr (ba (ba B0 _) _)) | skip); have S5 : wr.heap.size ≤ w5.heap.size := B5.size; (first | have Z51 : Whole w5 wr.heap.size 25 #[.int .i64 0, .int .i64 0, .int .i64 0, .int .u16 0] := whole_later m5 (wn_drew _ _ _) | have Z51 : Whole w5 wr.heap.size 25 #[.int .i64 0, .int .i64 0, .int .i64 0, .int .u16 0] := whole_later m5 (Whole.new _ _ _).drew | have Z51 : Whole w5 wr.heap.size 25 #[.int .i64 0, .int .i64 0, .int .i64 0, .int .u16 0] := whole_later m5 ((wn_drew _ _ _).alloc _) | have Z51 : Whole w5 wr.heap.size 25 #[.int .i64 0, .int .i64 0, .int .i64 0, .int .u16 0] := whole_later m5 ((Whole.new _ _ _).alloc _).drew | skip); (first | (obtain ⟨za0, za1, za2, za3, zaf⟩ := Z51.four; have zal := Z51.lt) | skip); (first | have Z52 : Whole w5 (wr.heap.size + 1) 25 #[.int .i64 0, .int .i64 0, .int .i64 0, .int .u16 0] := whole_later m5 (wn2_drew _ _ _ _) | have Z52 : Whole w5 (wr.heap.size + 1) 25 #[.int .i64 0, .int .i64 0, .int .i64 0, .int .u16 0] := whole_later m5 (wn2 _ _ _ _).drew | skip); (first | (obtain ⟨zb0, zb1, zb2, zb3, zbf⟩ := Z52.four; have zbl := Z52.lt) | skip)))
            | (go_at_call 26; ((with_reducible refine (HSF.out _).mono ?_); rintro e w6 ⟨rfl, m6⟩; (first | have B6 : Below wr.heap.size wr w6 := below_then m6 B5 | have B6 : Below wr.heap.size wr w6 := below_then m6 (ba B5 _) | have B6 : Below wr.heap.size wr w6 := below_then m6 (ba (ba B5 _) _) | skip); (first | have S6' : Below w5.heap.size w5 w6 := below_then m6 (Below.refl w5.heap.size w5) | have S6' : Below w5.heap.size w5 w6 := below_then m6 (ba (Below.refl w5.heap.size w5) _) | have S6' : Below w5.heap.size w5 w6 := below_then m6 (ba (ba (Below.refl w5.heap.size w5) _) _) | skip); have S6 : w5.heap.size ≤ w6.heap.size := S6'.size; (first | have Z61 : Whole w6 wr.heap.size 25 #[.int .i64 0, .int .i64 0, .int .i64 0, .int .u16 0] := whole_later m6 Z51 | have Z61 : Whole w6 wr.heap.size 25 #[.int .i64 0, .int .i64 0, .int .i64 0, .int .u16 0] := whole_later m6 (Z51.alloc _) | have Z61 : Whole w6 wr.heap.size 25 #[.int .i64 0, .int .i64 0, .int .i64 0, .int .u16 0] := whole_later m6 ((Z51.alloc _).alloc _) | skip); (first | (obtain ⟨zc0, zc1, zc2, zc3, zcf⟩ := Z61.four; have zcl := Z61.lt) | skip); (first | have Z62 : Whole w6 (wr.heap.size + 1) 25 #[.int .i64 0, .int .i64 0, .int .i64 0, .int .u16 0] := whole_later m6 Z52 | skip); (first | (obtain ⟨zd0, zd1, zd2, zd3, zdf⟩ := Z62.four; have zdl := Z62.lt) | skip); (first | have Z63 : Whole w6 w5.heap.size 25 #[.int .i64 0, .int .i64 0, .int .i64 0, .int .u16 0] := whole_later m6 (Whole.new _ _ _) | have Z63 : Whole w6 w5.heap.size 25 #[.int .i64 0, .int .i64 0, .int .i64 0, .int .u16 0] := whole_later m6 ((Whole.new _ _ _).alloc _) | skip); (first | (obtain ⟨ze0, ze1, ze2, ze3, zef⟩ := Z63.four; have zel := Z63.lt) | skip); (first | have Z64 : Whole w6 (w5.heap.size + 1) 25 #[.int .i64 0, .int .i64 0, .int .i64 0, .int .u16 0] := whole_later m6 (wn2 _ _ _ _) | skip); (first | (obtain ⟨zg0, zg1, zg2, zg3, zgf⟩ := Z64.four; have zgl := Z64.lt) | skip))))
        all_goals (go_wp2_with fail; go_meet; refine ⟨_, _, rfl, rfl, ?_⟩; (first | with_reducible exact two0 B6 | with_reducible exact two0' B6 | with_reducible exact twoB B6 Z61 (by omega) | with_reducible exact twoB' B6 Z61 (by omega) | with_reducible exact twoB B6 Z63 (by omega) | with_reducible exact twoB' B6 Z63 (by omega) | with_reducible exact twoC B6 Z63 Z64 (by omega) (by omega) (by omega) | with_reducible exact twoC B6 Z64 Z63 (by omega) (by omega) (by omega) | with_reducible exact twoC B6 Z61 Z62 (by omega) (by omega) (by omega) | with_reducible exact twoC B6 Z62 Z61 (by omega) (by omega) (by omega) | with_reducible exact twoC B6 Z61 Z63 (by omega) (by omega) (by omega) | with_reducible exact twoC B6 Z63 Z61 (by omega) (by omega) (by omega)))
      case rest =>
        obtain ⟨g1, g2, rfl, rfl, hw1, hw2, hX⟩ := hcut
        have hb6 := hb.trans (hX.mono hb.size)
        have hA6 := whole_later hX hA
        have hB6 := whole_later hX hB
        have hC6 := whole_later hX hC
        clear KC hA hB hC hX hb
        obtain ⟨a0, a1, a2, a3, af⟩ := hA6.four
        obtain ⟨d0, d1, d2, d3, df⟩ := hw1.four
        go_wp2_with fail
        refine (HAP2.out _).mono ?_
        rintro e w8 ⟨rfl, k8⟩
        have hb8 := hb6.trans (k8.mono hb6.size)
        have hA8 := whole_later k8 hA6
        have hB8 := whole_later k8 hB6
        have hC8 := whole_later k8 hC6
        have hw18 := whole_later k8 hw1
        have hw28 := whole_later k8 hw2
        clear a0 a1 a2 a3 af d0 d1 d2 d3 df hb6 hA6 hB6 hC6 hw1 hw2 k8
        obtain ⟨a0, a1, a2, a3, af⟩ := hA8.four
        obtain ⟨b0, b1, b2, b3, bf⟩ := hB8.four
        go_wp2_with fail
        refine (HAP3.out _).mono ?_
        rintro e w9 ⟨rfl, k9⟩
        have hb9 := hb8.trans (k9.mono hb8.size)
        have hA9 := whole_later k9 hA8
        have hB9 := whole_later k9 hB8
        have hC9 := whole_later k9 hC8
        have hw19 := whole_later k9 hw18
        have hw29 := whole_later k9 hw28
        clear a0 a1 a2 a3 af b0 b1 b2 b3 bf hb8 hA8 hB8 hC8 hw18 hw28 k9
        go_wp2_with fail
        obtain ⟨a0, a1, a2, a3, _⟩ := hA9.four
        obtain ⟨b0, b1, b2, b3, _⟩ := hB9.four
        obtain ⟨c0, c1, c2, c3, _⟩ := hC9.four
        obtain ⟨d0, d1, d2, d3, _⟩ := hw19.four
        obtain ⟨_, _, _, e3, _⟩ := hw29.four
        have ia0 := fun y : Later w9 => y.cell a0
        have ia1 := fun y : Later w9 => y.cell a1
        have ia2 := fun y : Later w9 => y.cell a2
        have ia3 := fun y : Later w9 => y.cell a3
        have ib0 := fun y : Later w9 => y.cell b0
        have ib1 := fun y : Later w9 => y.cell b1
        have ib2 := fun y : Later w9 => y.cell b2
        have ib3 := fun y : Later w9 => y.cell b3
        have ic0 := fun y : Later w9 => y.cell c0
        have ic1 := fun y : Later w9 => y.cell c1
        have ic2 := fun y : Later w9 => y.cell c2
        have ic3 := fun y : Later w9 => y.cell c3
        have id0 := fun y : Later w9 => y.cell d0
        have id1 := fun y : Later w9 => y.cell d1
        have id2 := fun y : Later w9 => y.cell d2
        have id3 := fun y : Later w9 => y.cell d3
        have ie3 := fun y : Later w9 => y.cell e3
        clear a0 a1 a2 a3 b0 b1 b2 b3 c0 c1 c2 c3 d0 d1 d2 d3 e3 hA9 hB9 hC9 hw19 hw29
        refine wp_region_later (by kernel_rfl) (by kernel_rfl) ?_
        repeat (go_big_quiet_step ((first
          | (go_at_call 31; with_reducible exact later_same _ HT1.out)
          | (go_at_call 31; with_reducible exact later_same _ HT2.out)
          | (go_at_call 17; with_reducible exact later_of _ HK1.out)
          | (go_at_call 16; with_reducible exact later_of _ HK2.out))))
        refine wpQuiet_nil ?_
        intro _ hw'
        obtain ⟨q, hw''⟩ := hw'
        subst hw''
        go_wp2
        go_ret
        exact ⟨rfl, hb9.trans (q.below.mono hb9.size)⟩

set_option maxRecDepth 100000 in
set_option maxHeartbeats 4000000 in
theorem apartL_no2 (r s m s' m' : Int) (g h nd : Nat) (w : World) (hg : g < 65536) (hh : h < 65536) (hnd : nd < 256) (hq : ¬ s = s') : Calls Try.prog 9 #[.agg #[.int .i64 r, .int .i64 s, .int .i64 m, .int .u16 (g : Int)], .agg #[.int .i64 r, .int .i64 s', .int .i64 m', .int .u16 (h : Int)], .int .u8 (nd : Int)] w fun e w' => e = .returned (.bool true) ∧ Below w.heap.size w w' := by
  obtain ⟨W, hWe⟩ : ∃ W, (w.alloc (.cells #[.int .i64 r, .int .i64 s, .int .i64 m, .int .u16 (g : Int)] 25)).alloc (.cells #[.int .i64 r, .int .i64 s', .int .i64 m', .int .u16 (h : Int)] 25) = W := ⟨_, rfl⟩
  have hb0 : Below w.heap.size w W := by rw [← hWe]; exact ((Below.refl _ _).alloc (Nat.le_refl _) _).alloc (by simp) _
  have hA0 : Whole W w.heap.size 25 #[.int .i64 r, .int .i64 s, .int .i64 m, .int .u16 (g : Int)] := by rw [← hWe]; exact (Whole.new w _ _).alloc _
  have hB0 : Whole W (w.heap.size + 1) 25 #[.int .i64 r, .int .i64 s', .int .i64 m', .int .u16 (h : Int)] := by
    rw [← hWe]
    have := Whole.new (w.alloc (.cells #[.int .i64 r, .int .i64 s, .int .i64 m, .int .u16 (g : Int)] 25)) 25 #[.int .i64 r, .int .i64 s', .int .i64 m', .int .u16 (h : Int)]
    simpa using this
  have AP1 := fun V => apart_any r s m r s' m' g h V hg hh
  have AP3 := fun V => apart_any r s' m' r s m h g V hh hg
  unfold ApartAt at AP1 AP3
  rw [apG_swap g h, sameC_swap r s m r s' m'] at AP3
  have hsame : sameC r s m r s' m' = false := by simp [sameC, hq]
  rw [hsame] at AP1 AP3
  have LI := fun V => list_any (apG g h) V (apG_lt hg hh)
  have hfold := turnAll_ap hg hh
  have hll := listI_le (apG g h)
  generalize hx : apG g h = x at *
  generalize listI x = L at *
  have HW := Lib.hid hWe
  have HAP1 := Lib.hid AP1
  have HAP3 := Lib.hid AP3
  have HLI := Lib.hid LI
  have HF := Lib.hid hfold
  have HG := Lib.hid hg
  have HH := Lib.hid hh
  have HND := Lib.hid hnd
  have dd : (s == s') = false := by simp [hq]
  clear hq
  clear AP1 AP3 LI hfold hWe hg hh hnd hx hsame
  go_enter Try.func9, Try.ntmps9
  go_wp2_with fail
  rw [HW.out]
  refine (alive4_any _).mono ?_
  rintro e w1 ⟨rfl, k1⟩
  have hb1 := hb0.trans (k1.mono hb0.size)
  have hA1 := whole_later k1 hA0
  have hB1 := whole_later k1 hB0
  clear hb0 hA0 hB0 HW k1
  obtain ⟨a0, a1, a2, a3, af⟩ := hA1.four
  obtain ⟨b0, b1, b2, b3, bf⟩ := hB1.four
  go_wp2_with fail
  refine (HAP1.out _).mono ?_
  rintro e w2 ⟨rfl, k2⟩
  have hb2 := (hb1.trans (k2.mono hb1.size)).alloc (hb1.trans (k2.mono hb1.size)).size (.cells #[.int .i64 r, .int .i64 s, .int .i64 m, .int .u16 (g : Int)] 25)
  have hA2 := (whole_later k2 hA1).alloc (.cells #[.int .i64 r, .int .i64 s, .int .i64 m, .int .u16 (g : Int)] 25)
  have hB2 := (whole_later k2 hB1).alloc (.cells #[.int .i64 r, .int .i64 s, .int .i64 m, .int .u16 (g : Int)] 25)
  have hC2 := Whole.new w2 25 #[.int .i64 r, .int .i64 s, .int .i64 m, .int .u16 (g : Int)]
  have zA : w.heap.size < w2.heap.size := (whole_later k2 hA1).lt
  have zB : w.heap.size + 1 < w2.heap.size := (whole_later k2 hB1).lt
  clear a0 a1 a2 a3 af b0 b1 b2 b3 bf
  obtain ⟨a0, a1, a2, a3, af⟩ := (whole_later k2 hA1).four
  clear hb1 hA1 hB1 k2
  go_wp2_with fail
  generalize w2.heap.size = gc at *
  generalize w2.alloc (.cells #[.int .i64 r, .int .i64 s, .int .i64 m, .int .u16 (g : Int)] 25) = W2 at *
  refine (HLI.out _).mono ?_
  rintro e w3 hf
  obtain ⟨Al, cl, rfl, hsrc, hAl, k3⟩ := hf.opened
  have hb3 := hb2.trans (k3.mono hb2.size)
  have hA3 := whole_later k3 hA2
  have hB3 := whole_later k3 hB2
  have hC3 := whole_later k3 hC2
  have zC : gc < W2.heap.size := hC2.lt
  have HAl := Lib.hid hAl
  have HSrc := Lib.hid hsrc
  have HA3 := Lib.hid hA3
  have HB3 := Lib.hid hB3
  have HC3 := Lib.hid hC3
  have HB3' := Lib.hid hb3
  clear hf hb2 hA2 hB2 hC2 k3 a0 a1 a2 a3 af hAl hsrc hA3 hB3 hC3 hb3
  go_wp2_with fail
  go_loopw [31] (fun i V => ∃ k : Nat, k ≤ L.length ∧ i = .int .i64 (k : Int) ∧ Kept (One gc) w3 V ∧ Whole V gc 25 #[.int .i64 r, .int .i64 s, .int .i64 m, .int .u16 (((L.take k).foldl (turnG h) g : Nat) : Int)]) (fun i _ => L.length - (intOf i).toNat)
  case atStart => exact ⟨0, Nat.zero_le _, rfl, Kept.refl _ _, HC3.out⟩
  case round =>
    obtain ⟨k, hk, rfl, hkk, hC⟩ := hrel
    by_cases hlt : k < L.length
    · obtain ⟨bb, o, rfl, hcell⟩ := HSrc.out (by omega)
      have hbb := (HAl.out _ rfl).1
      have hc := hkk.cell (hcell k hlt) (by simp [One]; simp at hbb; omega)
      have hfl := turnAll_lt h (L.take k) g HG.out
      have hft := Lib.hid (turn_take h hlt g)
      clear hcell
      generalize (L.take k).foldl (turnG h) g = v at *
      generalize hxx : L[k] = y at *
      have HX := Lib.hid hxx
      have hB := whole_kept hkk (by simp [One]; omega) HB3.out
      obtain ⟨b0, b1, b2, b3, bf⟩ := hB.four
      obtain ⟨c0, c1, c2, c3, cf⟩ := hC.four
      have SE := fun V => seen_any r s m y v (hasG h y) V hfl
      have HSE := Lib.hid SE
      have hz : seenG v y (hasG h y) = turnG h v y := rfl
      have HZ := Lib.hid hz
      have HN := Lib.hid (has_back h y)
      clear hxx hbb SE hz hfl
      generalize hasG h y = is at *
      go_wp2_with fail
      go_still_tail 6, (by kernel_rfl)
      still_call (HN.out _ HH.out)
      refine wpStill_nil ?_
      change wpList _ _ _ _ _ wr.drew
      have hk5 := hkk.drew
      have hC5 := hC.drew
      clear b0 b1 b2 b3 bf c0 c1 c2 c3 cf hkk hC hB hc
      generalize wr.drew = V2 at *
      go_wp2_with fail
      refine (HSE.out _).mono ?_
      rintro e w5 ⟨rfl, m5⟩
      have hk6 := kept_then (Kept.of_below m5 (One gc)) hk5
      have hC6 := whole_later m5 hC5
      clear hk5 hC5 m5
      obtain ⟨c0, c1, c2, c3, cf⟩ := hC6.four
      go_wp2_with fail
      go_roundw
      case rel =>
        refine ⟨k + 1, hlt, by go_num, ((((hk6.setCell (p := ⟨gc, _, none⟩) (.inl rfl) _).setCell (p := ⟨gc, _, none⟩) (.inl rfl) _).setCell (p := ⟨gc, _, none⟩) (.inl rfl) _).setCell (p := ⟨gc, _, none⟩) (.inl rfl) _), ?_⟩
        rw [hft.out, ← HZ.out]
        exact (((hC6.set 0 _).set 1 _).set 2 _).set 3 _
      case measure => simp [intOf]; omega
    · have hke : k = L.length := by omega
      subst hke
      rw [List.take_length, HF.out] at hC
      have hA := whole_kept hkk (by simp [One]; omega) HA3.out
      have hB := whole_kept hkk (by simp [One]; omega) HB3.out
      have hb := hkk.on HB3'.out (fun i hi => by simp [One] at hi; omega) HB3'.out.size
      clear hkk HA3 HB3 HC3 HB3' HSrc HAl
      have hn0 : 0 ≤ (nd : Int) % 16 := by omega
      have hn1 : ((nd : Int) % 16) = ((nd % 16 : Nat) : Int) := by omega
      have ht1 := seen_has (g := g) (n := nd % 16) (Nat.mod_lt _ (by decide))
      have ht2 := seen_hasnt (g := g) (n := nd % 16) (Nat.mod_lt _ (by decide))
      rw [← hn1] at ht1 ht2
      have hsl1 := seenG_lt ((nd : Int) % 16) true HG.out
      have hsl2 := seenG_lt ((nd : Int) % 16) false HG.out
      have ST := fun V => seen_true r s m ((nd : Int) % 16) g V HG.out
      have SF := fun V => seen_false r s m ((nd : Int) % 16) g V HG.out
      have AP2 := fun V => apart_yes r s m g (seenG g ((nd : Int) % 16) true) V HG.out hsl1
      unfold ApartAt at AP2
      have T1 := fun V => has_any (seenG g ((nd : Int) % 16) true) ((nd : Int) % 16) V hsl1
      have T2 := fun V => has_any (seenG g ((nd : Int) % 16) false) ((nd : Int) % 16) V hsl2
      rw [ht1] at T1
      rw [ht2] at T2
      have K1 := fun V => refCheck_any r s m (g : Int) V
      have K2 := fun V => check_any r s m ((seenG g ((nd : Int) % 16) true : Nat) : Int) V
      generalize apG g (seenG g ((nd : Int) % 16) true) = z at *
      generalize seenG g ((nd : Int) % 16) true = gt at *
      generalize seenG g ((nd : Int) % 16) false = gf at *
      generalize chkC r s m = ck at *
      have HST := Lib.hid ST
      have HSF := Lib.hid SF
      have HAP2 := Lib.hid AP2
      have HT1 := Lib.hid T1
      have HT2 := Lib.hid T2
      have HK1 := Lib.hid K1
      have HK2 := Lib.hid K2
      clear ST SF AP2 T1 T2 K1 K2 ht1 ht2 hn1 hsl1 hsl2
      have hnd' := HND.out
      go_upto_region 10 with fail
      have KC := Lib.hid (fun (X : World) (hX : Below wr.heap.size wr X) => (⟨(hX.cell (p := ⟨w.heap.size, 0, none⟩) hA.lt).trans hA.four.1, (hX.cell (p := ⟨w.heap.size, 1, none⟩) hA.lt).trans hA.four.2.1, (hX.cell (p := ⟨w.heap.size, 2, none⟩) hA.lt).trans hA.four.2.2.1, (hX.cell (p := ⟨w.heap.size, 3, none⟩) hA.lt).trans hA.four.2.2.2.1⟩ : X.cell? ⟨w.heap.size, 0, none⟩ = some (.int .i64 r) ∧ X.cell? ⟨w.heap.size, 1, none⟩ = some (.int .i64 s) ∧ X.cell? ⟨w.heap.size, 2, none⟩ = some (.int .i64 m) ∧ X.cell? ⟨w.heap.size, 3, none⟩ = some (.int .u16 (g : Int))))
      go_cut [14, 15] (fun s14 s15 wx => ∃ g1 g2 : Nat, s14 = .pointer (some ⟨g1, 0, none⟩) ∧ s15 = .pointer (some ⟨g2, 0, none⟩) ∧ Two wr wx g1 g2 #[.int .i64 r, .int .i64 s, .int .i64 m, .int .u16 (gt : Int)] #[.int .i64 r, .int .i64 s, .int .i64 m, .int .u16 (gf : Int)])
      case first =>
        have B0 : Below wr.heap.size wr wr := Below.refl _ _
        go_region_held3 (fun w' => w'.cell? ⟨w.heap.size, 0, none⟩ = some (.int .i64 r) ∧ w'.cell? ⟨w.heap.size, 1, none⟩ = some (.int .i64 s) ∧ w'.cell? ⟨w.heap.size, 2, none⟩ = some (.int .i64 m) ∧ w'.cell? ⟨w.heap.size, 3, none⟩ = some (.int .u16 (g : Int))) ((refine KC.out _ ?_; repeat (first | with_reducible assumption | (with_reducible refine ba ?_ _) | (with_reducible refine bdr ?_) | (with_reducible refine bsc ?_ (by omega) _))))
          (first
            | (go_at_call 26; ((with_reducible refine (HST.out _).mono ?_); rintro e w5 ⟨rfl, m5⟩; (first | have B5 : Below wr.heap.size wr w5 := below_then m5 (bdr B0) | have B5 : Below wr.heap.size wr w5 := below_then m5 (ba (bdr B0) _) | have B5 : Below wr.heap.size wr w5 := below_then m5 (bdr (ba B0 _)) | have B5 : Below wr.heap.size wr w5 := below_then m5 (ba (ba (bdr B0) _) _) | have B5 : Below wr.heap.size wr w5 := below_then m5 (bdr (ba (ba B0 _) _)) | skip); have S5 : wr.heap.size ≤ w5.heap.size := B5.size; (first | have Z51 : Whole w5 wr.heap.size 25 #[.int .i64 0, .int .i64 0, .int .i64 0, .int .u16 0] := whole_later m5 (wn_drew _ _ _) | have Z51 : Whole w5 wr.heap.size 25 #[.int .i64 0, .int .i64 0, .int .i64 0, .int .u16 0] := whole_later m5 (Whole.new _ _ _).drew | have Z51 : Whole w5 wr.heap.size 25 #[.int .i64 0, .int .i64 0, .int .i64 0, .int .u16 0] := whole_later m5 ((wn_drew _ _ _).alloc _) | have Z51 : Whole w5 wr.heap.size 25 #[.int .i64 0, .int .i64 0, .int .i64 0, .int .u16 0] := whole_later m5 ((Whole.new _ _ _).alloc _).drew | skip); (first | (obtain ⟨za0, za1, za2, za3, zaf⟩ := Z51.four; have zal := Z51.lt) | skip); (first | have Z52 : Whole w5 (wr.heap.size + 1) 25 #[.int .i64 0, .int .i64 0, .int .i64 0, .int .u16 0] := whole_later m5 (wn2_drew _ _ _ _) | have Z52 : Whole w5 (wr.heap.size + 1) 25 #[.int .i64 0, .int .i64 0, .int .i64 0, .int .u16 0] := whole_later m5 (wn2 _ _ _ _).drew | skip); (first | (obtain ⟨zb0, zb1, zb2, zb3, zbf⟩ := Z52.four; have zbl := Z52.lt) | skip)))
            | (go_at_call 26; ((with_reducible refine (HSF.out _).mono ?_); rintro e w6 ⟨rfl, m6⟩; (first | have B6 : Below wr.heap.size wr w6 := below_then m6 B5 | have B6 : Below wr.heap.size wr w6 := below_then m6 (ba B5 _) | have B6 : Below wr.heap.size wr w6 := below_then m6 (ba (ba B5 _) _) | skip); (first | have S6' : Below w5.heap.size w5 w6 := below_then m6 (Below.refl w5.heap.size w5) | have S6' : Below w5.heap.size w5 w6 := below_then m6 (ba (Below.refl w5.heap.size w5) _) | have S6' : Below w5.heap.size w5 w6 := below_then m6 (ba (ba (Below.refl w5.heap.size w5) _) _) | skip); have S6 : w5.heap.size ≤ w6.heap.size := S6'.size; (first | have Z61 : Whole w6 wr.heap.size 25 #[.int .i64 0, .int .i64 0, .int .i64 0, .int .u16 0] := whole_later m6 Z51 | have Z61 : Whole w6 wr.heap.size 25 #[.int .i64 0, .int .i64 0, .int .i64 0, .int .u16 0] := whole_later m6 (Z51.alloc _) | have Z61 : Whole w6 wr.heap.size 25 #[.int .i64 0, .int .i64 0, .int .i64 0, .int .u16 0] := whole_later m6 ((Z51.alloc _).alloc _) | skip); (first | (obtain ⟨zc0, zc1, zc2, zc3, zcf⟩ := Z61.four; have zcl := Z61.lt) | skip); (first | have Z62 : Whole w6 (wr.heap.size + 1) 25 #[.int .i64 0, .int .i64 0, .int .i64 0, .int .u16 0] := whole_later m6 Z52 | skip); (first | (obtain ⟨zd0, zd1, zd2, zd3, zdf⟩ := Z62.four; have zdl := Z62.lt) | skip); (first | have Z63 : Whole w6 w5.heap.size 25 #[.int .i64 0, .int .i64 0, .int .i64 0, .int .u16 0] := whole_later m6 (Whole.new _ _ _) | have Z63 : Whole w6 w5.heap.size 25 #[.int .i64 0, .int .i64 0, .int .i64 0, .int .u16 0] := whole_later m6 ((Whole.new _ _ _).alloc _) | skip); (first | (obtain ⟨ze0, ze1, ze2, ze3, zef⟩ := Z63.four; have zel := Z63.lt) | skip); (first | have Z64 : Whole w6 (w5.heap.size + 1) 25 #[.int .i64 0, .int .i64 0, .int .i64 0, .int .u16 0] := whole_later m6 (wn2 _ _ _ _) | skip); (first | (obtain ⟨zg0, zg1, zg2, zg3, zgf⟩ := Z64.four; have zgl := Z64.lt) | skip))))
        all_goals (go_wp2_with fail; go_meet; refine ⟨_, _, rfl, rfl, ?_⟩; (first | with_reducible exact two0 B6 | with_reducible exact two0' B6 | with_reducible exact twoB B6 Z61 (by omega) | with_reducible exact twoB' B6 Z61 (by omega) | with_reducible exact twoB B6 Z63 (by omega) | with_reducible exact twoB' B6 Z63 (by omega) | with_reducible exact twoC B6 Z63 Z64 (by omega) (by omega) (by omega) | with_reducible exact twoC B6 Z64 Z63 (by omega) (by omega) (by omega) | with_reducible exact twoC B6 Z61 Z62 (by omega) (by omega) (by omega) | with_reducible exact twoC B6 Z62 Z61 (by omega) (by omega) (by omega) | with_reducible exact twoC B6 Z61 Z63 (by omega) (by omega) (by omega) | with_reducible exact twoC B6 Z63 Z61 (by omega) (by omega) (by omega)))
      case rest =>
        obtain ⟨g1, g2, rfl, rfl, hw1, hw2, hX⟩ := hcut
        have hb6 := hb.trans (hX.mono hb.size)
        have hA6 := whole_later hX hA
        have hB6 := whole_later hX hB
        have hC6 := whole_later hX hC
        clear KC hA hB hC hX hb
        obtain ⟨a0, a1, a2, a3, af⟩ := hA6.four
        obtain ⟨d0, d1, d2, d3, df⟩ := hw1.four
        go_wp2_with fail
        refine (HAP2.out _).mono ?_
        rintro e w8 ⟨rfl, k8⟩
        have hb8 := hb6.trans (k8.mono hb6.size)
        have hA8 := whole_later k8 hA6
        have hB8 := whole_later k8 hB6
        have hC8 := whole_later k8 hC6
        have hw18 := whole_later k8 hw1
        have hw28 := whole_later k8 hw2
        clear a0 a1 a2 a3 af d0 d1 d2 d3 df hb6 hA6 hB6 hC6 hw1 hw2 k8
        obtain ⟨a0, a1, a2, a3, af⟩ := hA8.four
        obtain ⟨b0, b1, b2, b3, bf⟩ := hB8.four
        go_wp2_with fail
        refine (HAP3.out _).mono ?_
        rintro e w9 ⟨rfl, k9⟩
        have hb9 := hb8.trans (k9.mono hb8.size)
        have hA9 := whole_later k9 hA8
        have hB9 := whole_later k9 hB8
        have hC9 := whole_later k9 hC8
        have hw19 := whole_later k9 hw18
        have hw29 := whole_later k9 hw28
        clear a0 a1 a2 a3 af b0 b1 b2 b3 bf hb8 hA8 hB8 hC8 hw18 hw28 k9
        go_wp2_with fail
        obtain ⟨a0, a1, a2, a3, _⟩ := hA9.four
        obtain ⟨b0, b1, b2, b3, _⟩ := hB9.four
        obtain ⟨c0, c1, c2, c3, _⟩ := hC9.four
        obtain ⟨d0, d1, d2, d3, _⟩ := hw19.four
        obtain ⟨_, _, _, e3, _⟩ := hw29.four
        have ia0 := fun y : Later w9 => y.cell a0
        have ia1 := fun y : Later w9 => y.cell a1
        have ia2 := fun y : Later w9 => y.cell a2
        have ia3 := fun y : Later w9 => y.cell a3
        have ib0 := fun y : Later w9 => y.cell b0
        have ib1 := fun y : Later w9 => y.cell b1
        have ib2 := fun y : Later w9 => y.cell b2
        have ib3 := fun y : Later w9 => y.cell b3
        have ic0 := fun y : Later w9 => y.cell c0
        have ic1 := fun y : Later w9 => y.cell c1
        have ic2 := fun y : Later w9 => y.cell c2
        have ic3 := fun y : Later w9 => y.cell c3
        have id0 := fun y : Later w9 => y.cell d0
        have id1 := fun y : Later w9 => y.cell d1
        have id2 := fun y : Later w9 => y.cell d2
        have id3 := fun y : Later w9 => y.cell d3
        have ie3 := fun y : Later w9 => y.cell e3
        clear a0 a1 a2 a3 b0 b1 b2 b3 c0 c1 c2 c3 d0 d1 d2 d3 e3 hA9 hB9 hC9 hw19 hw29
        refine wp_region_later (by kernel_rfl) (by kernel_rfl) ?_
        repeat (go_big_quiet_step ((first
          | (go_at_call 31; with_reducible exact later_same _ HT1.out)
          | (go_at_call 31; with_reducible exact later_same _ HT2.out)
          | (go_at_call 17; with_reducible exact later_of _ HK1.out)
          | (go_at_call 16; with_reducible exact later_of _ HK2.out))))
        refine wpQuiet_nil ?_
        intro _ hw'
        obtain ⟨q, hw''⟩ := hw'
        subst hw''
        go_wp2
        go_ret
        exact ⟨rfl, hb9.trans (q.below.mono hb9.size)⟩

set_option maxRecDepth 100000 in
set_option maxHeartbeats 4000000 in
theorem apartL_no3 (r s m m' : Int) (g h nd : Nat) (w : World) (hg : g < 65536) (hh : h < 65536) (hnd : nd < 256) (hq : ¬ m = m') : Calls Try.prog 9 #[.agg #[.int .i64 r, .int .i64 s, .int .i64 m, .int .u16 (g : Int)], .agg #[.int .i64 r, .int .i64 s, .int .i64 m', .int .u16 (h : Int)], .int .u8 (nd : Int)] w fun e w' => e = .returned (.bool true) ∧ Below w.heap.size w w' := by
  obtain ⟨W, hWe⟩ : ∃ W, (w.alloc (.cells #[.int .i64 r, .int .i64 s, .int .i64 m, .int .u16 (g : Int)] 25)).alloc (.cells #[.int .i64 r, .int .i64 s, .int .i64 m', .int .u16 (h : Int)] 25) = W := ⟨_, rfl⟩
  have hb0 : Below w.heap.size w W := by rw [← hWe]; exact ((Below.refl _ _).alloc (Nat.le_refl _) _).alloc (by simp) _
  have hA0 : Whole W w.heap.size 25 #[.int .i64 r, .int .i64 s, .int .i64 m, .int .u16 (g : Int)] := by rw [← hWe]; exact (Whole.new w _ _).alloc _
  have hB0 : Whole W (w.heap.size + 1) 25 #[.int .i64 r, .int .i64 s, .int .i64 m', .int .u16 (h : Int)] := by
    rw [← hWe]
    have := Whole.new (w.alloc (.cells #[.int .i64 r, .int .i64 s, .int .i64 m, .int .u16 (g : Int)] 25)) 25 #[.int .i64 r, .int .i64 s, .int .i64 m', .int .u16 (h : Int)]
    simpa using this
  have AP1 := fun V => apart_any r s m r s m' g h V hg hh
  have AP3 := fun V => apart_any r s m' r s m h g V hh hg
  unfold ApartAt at AP1 AP3
  rw [apG_swap g h, sameC_swap r s m r s m'] at AP3
  have hsame : sameC r s m r s m' = false := by simp [sameC, hq]
  rw [hsame] at AP1 AP3
  have LI := fun V => list_any (apG g h) V (apG_lt hg hh)
  have hfold := turnAll_ap hg hh
  have hll := listI_le (apG g h)
  generalize hx : apG g h = x at *
  generalize listI x = L at *
  have HW := Lib.hid hWe
  have HAP1 := Lib.hid AP1
  have HAP3 := Lib.hid AP3
  have HLI := Lib.hid LI
  have HF := Lib.hid hfold
  have HG := Lib.hid hg
  have HH := Lib.hid hh
  have HND := Lib.hid hnd
  have dd : (m == m') = false := by simp [hq]
  clear hq
  clear AP1 AP3 LI hfold hWe hg hh hnd hx hsame
  go_enter Try.func9, Try.ntmps9
  go_wp2_with fail
  rw [HW.out]
  refine (alive4_any _).mono ?_
  rintro e w1 ⟨rfl, k1⟩
  have hb1 := hb0.trans (k1.mono hb0.size)
  have hA1 := whole_later k1 hA0
  have hB1 := whole_later k1 hB0
  clear hb0 hA0 hB0 HW k1
  obtain ⟨a0, a1, a2, a3, af⟩ := hA1.four
  obtain ⟨b0, b1, b2, b3, bf⟩ := hB1.four
  go_wp2_with fail
  refine (HAP1.out _).mono ?_
  rintro e w2 ⟨rfl, k2⟩
  have hb2 := (hb1.trans (k2.mono hb1.size)).alloc (hb1.trans (k2.mono hb1.size)).size (.cells #[.int .i64 r, .int .i64 s, .int .i64 m, .int .u16 (g : Int)] 25)
  have hA2 := (whole_later k2 hA1).alloc (.cells #[.int .i64 r, .int .i64 s, .int .i64 m, .int .u16 (g : Int)] 25)
  have hB2 := (whole_later k2 hB1).alloc (.cells #[.int .i64 r, .int .i64 s, .int .i64 m, .int .u16 (g : Int)] 25)
  have hC2 := Whole.new w2 25 #[.int .i64 r, .int .i64 s, .int .i64 m, .int .u16 (g : Int)]
  have zA : w.heap.size < w2.heap.size := (whole_later k2 hA1).lt
  have zB : w.heap.size + 1 < w2.heap.size := (whole_later k2 hB1).lt
  clear a0 a1 a2 a3 af b0 b1 b2 b3 bf
  obtain ⟨a0, a1, a2, a3, af⟩ := (whole_later k2 hA1).four
  clear hb1 hA1 hB1 k2
  go_wp2_with fail
  generalize w2.heap.size = gc at *
  generalize w2.alloc (.cells #[.int .i64 r, .int .i64 s, .int .i64 m, .int .u16 (g : Int)] 25) = W2 at *
  refine (HLI.out _).mono ?_
  rintro e w3 hf
  obtain ⟨Al, cl, rfl, hsrc, hAl, k3⟩ := hf.opened
  have hb3 := hb2.trans (k3.mono hb2.size)
  have hA3 := whole_later k3 hA2
  have hB3 := whole_later k3 hB2
  have hC3 := whole_later k3 hC2
  have zC : gc < W2.heap.size := hC2.lt
  have HAl := Lib.hid hAl
  have HSrc := Lib.hid hsrc
  have HA3 := Lib.hid hA3
  have HB3 := Lib.hid hB3
  have HC3 := Lib.hid hC3
  have HB3' := Lib.hid hb3
  clear hf hb2 hA2 hB2 hC2 k3 a0 a1 a2 a3 af hAl hsrc hA3 hB3 hC3 hb3
  go_wp2_with fail
  go_loopw [31] (fun i V => ∃ k : Nat, k ≤ L.length ∧ i = .int .i64 (k : Int) ∧ Kept (One gc) w3 V ∧ Whole V gc 25 #[.int .i64 r, .int .i64 s, .int .i64 m, .int .u16 (((L.take k).foldl (turnG h) g : Nat) : Int)]) (fun i _ => L.length - (intOf i).toNat)
  case atStart => exact ⟨0, Nat.zero_le _, rfl, Kept.refl _ _, HC3.out⟩
  case round =>
    obtain ⟨k, hk, rfl, hkk, hC⟩ := hrel
    by_cases hlt : k < L.length
    · obtain ⟨bb, o, rfl, hcell⟩ := HSrc.out (by omega)
      have hbb := (HAl.out _ rfl).1
      have hc := hkk.cell (hcell k hlt) (by simp [One]; simp at hbb; omega)
      have hfl := turnAll_lt h (L.take k) g HG.out
      have hft := Lib.hid (turn_take h hlt g)
      clear hcell
      generalize (L.take k).foldl (turnG h) g = v at *
      generalize hxx : L[k] = y at *
      have HX := Lib.hid hxx
      have hB := whole_kept hkk (by simp [One]; omega) HB3.out
      obtain ⟨b0, b1, b2, b3, bf⟩ := hB.four
      obtain ⟨c0, c1, c2, c3, cf⟩ := hC.four
      have SE := fun V => seen_any r s m y v (hasG h y) V hfl
      have HSE := Lib.hid SE
      have hz : seenG v y (hasG h y) = turnG h v y := rfl
      have HZ := Lib.hid hz
      have HN := Lib.hid (has_back h y)
      clear hxx hbb SE hz hfl
      generalize hasG h y = is at *
      go_wp2_with fail
      go_still_tail 6, (by kernel_rfl)
      still_call (HN.out _ HH.out)
      refine wpStill_nil ?_
      change wpList _ _ _ _ _ wr.drew
      have hk5 := hkk.drew
      have hC5 := hC.drew
      clear b0 b1 b2 b3 bf c0 c1 c2 c3 cf hkk hC hB hc
      generalize wr.drew = V2 at *
      go_wp2_with fail
      refine (HSE.out _).mono ?_
      rintro e w5 ⟨rfl, m5⟩
      have hk6 := kept_then (Kept.of_below m5 (One gc)) hk5
      have hC6 := whole_later m5 hC5
      clear hk5 hC5 m5
      obtain ⟨c0, c1, c2, c3, cf⟩ := hC6.four
      go_wp2_with fail
      go_roundw
      case rel =>
        refine ⟨k + 1, hlt, by go_num, ((((hk6.setCell (p := ⟨gc, _, none⟩) (.inl rfl) _).setCell (p := ⟨gc, _, none⟩) (.inl rfl) _).setCell (p := ⟨gc, _, none⟩) (.inl rfl) _).setCell (p := ⟨gc, _, none⟩) (.inl rfl) _), ?_⟩
        rw [hft.out, ← HZ.out]
        exact (((hC6.set 0 _).set 1 _).set 2 _).set 3 _
      case measure => simp [intOf]; omega
    · have hke : k = L.length := by omega
      subst hke
      rw [List.take_length, HF.out] at hC
      have hA := whole_kept hkk (by simp [One]; omega) HA3.out
      have hB := whole_kept hkk (by simp [One]; omega) HB3.out
      have hb := hkk.on HB3'.out (fun i hi => by simp [One] at hi; omega) HB3'.out.size
      clear hkk HA3 HB3 HC3 HB3' HSrc HAl
      have hn0 : 0 ≤ (nd : Int) % 16 := by omega
      have hn1 : ((nd : Int) % 16) = ((nd % 16 : Nat) : Int) := by omega
      have ht1 := seen_has (g := g) (n := nd % 16) (Nat.mod_lt _ (by decide))
      have ht2 := seen_hasnt (g := g) (n := nd % 16) (Nat.mod_lt _ (by decide))
      rw [← hn1] at ht1 ht2
      have hsl1 := seenG_lt ((nd : Int) % 16) true HG.out
      have hsl2 := seenG_lt ((nd : Int) % 16) false HG.out
      have ST := fun V => seen_true r s m ((nd : Int) % 16) g V HG.out
      have SF := fun V => seen_false r s m ((nd : Int) % 16) g V HG.out
      have AP2 := fun V => apart_yes r s m g (seenG g ((nd : Int) % 16) true) V HG.out hsl1
      unfold ApartAt at AP2
      have T1 := fun V => has_any (seenG g ((nd : Int) % 16) true) ((nd : Int) % 16) V hsl1
      have T2 := fun V => has_any (seenG g ((nd : Int) % 16) false) ((nd : Int) % 16) V hsl2
      rw [ht1] at T1
      rw [ht2] at T2
      have K1 := fun V => refCheck_any r s m (g : Int) V
      have K2 := fun V => check_any r s m ((seenG g ((nd : Int) % 16) true : Nat) : Int) V
      generalize apG g (seenG g ((nd : Int) % 16) true) = z at *
      generalize seenG g ((nd : Int) % 16) true = gt at *
      generalize seenG g ((nd : Int) % 16) false = gf at *
      generalize chkC r s m = ck at *
      have HST := Lib.hid ST
      have HSF := Lib.hid SF
      have HAP2 := Lib.hid AP2
      have HT1 := Lib.hid T1
      have HT2 := Lib.hid T2
      have HK1 := Lib.hid K1
      have HK2 := Lib.hid K2
      clear ST SF AP2 T1 T2 K1 K2 ht1 ht2 hn1 hsl1 hsl2
      have hnd' := HND.out
      go_upto_region 10 with fail
      have KC := Lib.hid (fun (X : World) (hX : Below wr.heap.size wr X) => (⟨(hX.cell (p := ⟨w.heap.size, 0, none⟩) hA.lt).trans hA.four.1, (hX.cell (p := ⟨w.heap.size, 1, none⟩) hA.lt).trans hA.four.2.1, (hX.cell (p := ⟨w.heap.size, 2, none⟩) hA.lt).trans hA.four.2.2.1, (hX.cell (p := ⟨w.heap.size, 3, none⟩) hA.lt).trans hA.four.2.2.2.1⟩ : X.cell? ⟨w.heap.size, 0, none⟩ = some (.int .i64 r) ∧ X.cell? ⟨w.heap.size, 1, none⟩ = some (.int .i64 s) ∧ X.cell? ⟨w.heap.size, 2, none⟩ = some (.int .i64 m) ∧ X.cell? ⟨w.heap.size, 3, none⟩ = some (.int .u16 (g : Int))))
      go_cut [14, 15] (fun s14 s15 wx => ∃ g1 g2 : Nat, s14 = .pointer (some ⟨g1, 0, none⟩) ∧ s15 = .pointer (some ⟨g2, 0, none⟩) ∧ Two wr wx g1 g2 #[.int .i64 r, .int .i64 s, .int .i64 m, .int .u16 (gt : Int)] #[.int .i64 r, .int .i64 s, .int .i64 m, .int .u16 (gf : Int)])
      case first =>
        have B0 : Below wr.heap.size wr wr := Below.refl _ _
        go_region_held3 (fun w' => w'.cell? ⟨w.heap.size, 0, none⟩ = some (.int .i64 r) ∧ w'.cell? ⟨w.heap.size, 1, none⟩ = some (.int .i64 s) ∧ w'.cell? ⟨w.heap.size, 2, none⟩ = some (.int .i64 m) ∧ w'.cell? ⟨w.heap.size, 3, none⟩ = some (.int .u16 (g : Int))) ((refine KC.out _ ?_; repeat (first | with_reducible assumption | (with_reducible refine ba ?_ _) | (with_reducible refine bdr ?_) | (with_reducible refine bsc ?_ (by omega) _))))
          (first
            | (go_at_call 26; ((with_reducible refine (HST.out _).mono ?_); rintro e w5 ⟨rfl, m5⟩; (first | have B5 : Below wr.heap.size wr w5 := below_then m5 (bdr B0) | have B5 : Below wr.heap.size wr w5 := below_then m5 (ba (bdr B0) _) | have B5 : Below wr.heap.size wr w5 := below_then m5 (bdr (ba B0 _)) | have B5 : Below wr.heap.size wr w5 := below_then m5 (ba (ba (bdr B0) _) _) | have B5 : Below wr.heap.size wr w5 := below_then m5 (bdr (ba (ba B0 _) _)) | skip); have S5 : wr.heap.size ≤ w5.heap.size := B5.size; (first | have Z51 : Whole w5 wr.heap.size 25 #[.int .i64 0, .int .i64 0, .int .i64 0, .int .u16 0] := whole_later m5 (wn_drew _ _ _) | have Z51 : Whole w5 wr.heap.size 25 #[.int .i64 0, .int .i64 0, .int .i64 0, .int .u16 0] := whole_later m5 (Whole.new _ _ _).drew | have Z51 : Whole w5 wr.heap.size 25 #[.int .i64 0, .int .i64 0, .int .i64 0, .int .u16 0] := whole_later m5 ((wn_drew _ _ _).alloc _) | have Z51 : Whole w5 wr.heap.size 25 #[.int .i64 0, .int .i64 0, .int .i64 0, .int .u16 0] := whole_later m5 ((Whole.new _ _ _).alloc _).drew | skip); (first | (obtain ⟨za0, za1, za2, za3, zaf⟩ := Z51.four; have zal := Z51.lt) | skip); (first | have Z52 : Whole w5 (wr.heap.size + 1) 25 #[.int .i64 0, .int .i64 0, .int .i64 0, .int .u16 0] := whole_later m5 (wn2_drew _ _ _ _) | have Z52 : Whole w5 (wr.heap.size + 1) 25 #[.int .i64 0, .int .i64 0, .int .i64 0, .int .u16 0] := whole_later m5 (wn2 _ _ _ _).drew | skip); (first | (obtain ⟨zb0, zb1, zb2, zb3, zbf⟩ := Z52.four; have zbl := Z52.lt) | skip)))
            | (go_at_call 26; ((with_reducible refine (HSF.out _).mono ?_); rintro e w6 ⟨rfl, m6⟩; (first | have B6 : Below wr.heap.size wr w6 := below_then m6 B5 | have B6 : Below wr.heap.size wr w6 := below_then m6 (ba B5 _) | have B6 : Below wr.heap.size wr w6 := below_then m6 (ba (ba B5 _) _) | skip); (first | have S6' : Below w5.heap.size w5 w6 := below_then m6 (Below.refl w5.heap.size w5) | have S6' : Below w5.heap.size w5 w6 := below_then m6 (ba (Below.refl w5.heap.size w5) _) | have S6' : Below w5.heap.size w5 w6 := below_then m6 (ba (ba (Below.refl w5.heap.size w5) _) _) | skip); have S6 : w5.heap.size ≤ w6.heap.size := S6'.size; (first | have Z61 : Whole w6 wr.heap.size 25 #[.int .i64 0, .int .i64 0, .int .i64 0, .int .u16 0] := whole_later m6 Z51 | have Z61 : Whole w6 wr.heap.size 25 #[.int .i64 0, .int .i64 0, .int .i64 0, .int .u16 0] := whole_later m6 (Z51.alloc _) | have Z61 : Whole w6 wr.heap.size 25 #[.int .i64 0, .int .i64 0, .int .i64 0, .int .u16 0] := whole_later m6 ((Z51.alloc _).alloc _) | skip); (first | (obtain ⟨zc0, zc1, zc2, zc3, zcf⟩ := Z61.four; have zcl := Z61.lt) | skip); (first | have Z62 : Whole w6 (wr.heap.size + 1) 25 #[.int .i64 0, .int .i64 0, .int .i64 0, .int .u16 0] := whole_later m6 Z52 | skip); (first | (obtain ⟨zd0, zd1, zd2, zd3, zdf⟩ := Z62.four; have zdl := Z62.lt) | skip); (first | have Z63 : Whole w6 w5.heap.size 25 #[.int .i64 0, .int .i64 0, .int .i64 0, .int .u16 0] := whole_later m6 (Whole.new _ _ _) | have Z63 : Whole w6 w5.heap.size 25 #[.int .i64 0, .int .i64 0, .int .i64 0, .int .u16 0] := whole_later m6 ((Whole.new _ _ _).alloc _) | skip); (first | (obtain ⟨ze0, ze1, ze2, ze3, zef⟩ := Z63.four; have zel := Z63.lt) | skip); (first | have Z64 : Whole w6 (w5.heap.size + 1) 25 #[.int .i64 0, .int .i64 0, .int .i64 0, .int .u16 0] := whole_later m6 (wn2 _ _ _ _) | skip); (first | (obtain ⟨zg0, zg1, zg2, zg3, zgf⟩ := Z64.four; have zgl := Z64.lt) | skip))))
        all_goals (go_wp2_with fail; go_meet; refine ⟨_, _, rfl, rfl, ?_⟩; (first | with_reducible exact two0 B6 | with_reducible exact two0' B6 | with_reducible exact twoB B6 Z61 (by omega) | with_reducible exact twoB' B6 Z61 (by omega) | with_reducible exact twoB B6 Z63 (by omega) | with_reducible exact twoB' B6 Z63 (by omega) | with_reducible exact twoC B6 Z63 Z64 (by omega) (by omega) (by omega) | with_reducible exact twoC B6 Z64 Z63 (by omega) (by omega) (by omega) | with_reducible exact twoC B6 Z61 Z62 (by omega) (by omega) (by omega) | with_reducible exact twoC B6 Z62 Z61 (by omega) (by omega) (by omega) | with_reducible exact twoC B6 Z61 Z63 (by omega) (by omega) (by omega) | with_reducible exact twoC B6 Z63 Z61 (by omega) (by omega) (by omega)))
      case rest =>
        obtain ⟨g1, g2, rfl, rfl, hw1, hw2, hX⟩ := hcut
        have hb6 := hb.trans (hX.mono hb.size)
        have hA6 := whole_later hX hA
        have hB6 := whole_later hX hB
        have hC6 := whole_later hX hC
        clear KC hA hB hC hX hb
        obtain ⟨a0, a1, a2, a3, af⟩ := hA6.four
        obtain ⟨d0, d1, d2, d3, df⟩ := hw1.four
        go_wp2_with fail
        refine (HAP2.out _).mono ?_
        rintro e w8 ⟨rfl, k8⟩
        have hb8 := hb6.trans (k8.mono hb6.size)
        have hA8 := whole_later k8 hA6
        have hB8 := whole_later k8 hB6
        have hC8 := whole_later k8 hC6
        have hw18 := whole_later k8 hw1
        have hw28 := whole_later k8 hw2
        clear a0 a1 a2 a3 af d0 d1 d2 d3 df hb6 hA6 hB6 hC6 hw1 hw2 k8
        obtain ⟨a0, a1, a2, a3, af⟩ := hA8.four
        obtain ⟨b0, b1, b2, b3, bf⟩ := hB8.four
        go_wp2_with fail
        refine (HAP3.out _).mono ?_
        rintro e w9 ⟨rfl, k9⟩
        have hb9 := hb8.trans (k9.mono hb8.size)
        have hA9 := whole_later k9 hA8
        have hB9 := whole_later k9 hB8
        have hC9 := whole_later k9 hC8
        have hw19 := whole_later k9 hw18
        have hw29 := whole_later k9 hw28
        clear a0 a1 a2 a3 af b0 b1 b2 b3 bf hb8 hA8 hB8 hC8 hw18 hw28 k9
        go_wp2_with fail
        obtain ⟨a0, a1, a2, a3, _⟩ := hA9.four
        obtain ⟨b0, b1, b2, b3, _⟩ := hB9.four
        obtain ⟨c0, c1, c2, c3, _⟩ := hC9.four
        obtain ⟨d0, d1, d2, d3, _⟩ := hw19.four
        obtain ⟨_, _, _, e3, _⟩ := hw29.four
        have ia0 := fun y : Later w9 => y.cell a0
        have ia1 := fun y : Later w9 => y.cell a1
        have ia2 := fun y : Later w9 => y.cell a2
        have ia3 := fun y : Later w9 => y.cell a3
        have ib0 := fun y : Later w9 => y.cell b0
        have ib1 := fun y : Later w9 => y.cell b1
        have ib2 := fun y : Later w9 => y.cell b2
        have ib3 := fun y : Later w9 => y.cell b3
        have ic0 := fun y : Later w9 => y.cell c0
        have ic1 := fun y : Later w9 => y.cell c1
        have ic2 := fun y : Later w9 => y.cell c2
        have ic3 := fun y : Later w9 => y.cell c3
        have id0 := fun y : Later w9 => y.cell d0
        have id1 := fun y : Later w9 => y.cell d1
        have id2 := fun y : Later w9 => y.cell d2
        have id3 := fun y : Later w9 => y.cell d3
        have ie3 := fun y : Later w9 => y.cell e3
        clear a0 a1 a2 a3 b0 b1 b2 b3 c0 c1 c2 c3 d0 d1 d2 d3 e3 hA9 hB9 hC9 hw19 hw29
        refine wp_region_later (by kernel_rfl) (by kernel_rfl) ?_
        repeat (go_big_quiet_step ((first
          | (go_at_call 31; with_reducible exact later_same _ HT1.out)
          | (go_at_call 31; with_reducible exact later_same _ HT2.out)
          | (go_at_call 17; with_reducible exact later_of _ HK1.out)
          | (go_at_call 16; with_reducible exact later_of _ HK2.out))))
        refine wpQuiet_nil ?_
        intro _ hw'
        obtain ⟨q, hw''⟩ := hw'
        subst hw''
        go_wp2
        go_ret
        exact ⟨rfl, hb9.trans (q.below.mono hb9.size)⟩

theorem apartL_walk (r s m r' s' m' : Int) (g h nd : Nat) (w : World) (hg : g < 65536) (hh : h < 65536) (hnd : nd < 256) : Calls Try.prog 9 #[.agg #[.int .i64 r, .int .i64 s, .int .i64 m, .int .u16 (g : Int)], .agg #[.int .i64 r', .int .i64 s', .int .i64 m', .int .u16 (h : Int)], .int .u8 (nd : Int)] w fun e w' => e = .returned (.bool true) ∧ Below w.heap.size w w' := by
  by_cases h1 : r = r'
  · subst h1
    by_cases h2 : s = s'
    · subst h2
      by_cases h3 : m = m'
      · subst h3
        exact apartL_yes r s m g h nd w hg hh hnd
      · exact apartL_no3 r s m m' g h nd w hg hh hnd h3
    · exact apartL_no2 r s m s' m' g h nd w hg hh hnd h2
  · exact apartL_no1 r s m r' s' m' g h nd w hg hh hnd h1

end Go.Proofs.Ytnpjldolppikfaa
