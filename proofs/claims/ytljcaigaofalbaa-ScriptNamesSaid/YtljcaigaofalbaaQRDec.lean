/- The document's Decode, of bytes that are not too many, by a contract. No condition. -/
import Derived.Test.YtljcaigaofalbaaQRGet
namespace Go.Proofs.Ytljcaigaofalbaa
open Go.RowKit Go.Shelf

/-- What it answers. -/
def RDec (x : Pl) (b : List UInt8) (w : World) (e : Ending) (w' : World) : Prop :=
  ∃ (V : Vs) (s : ScA) (B : Nat), e = .returned (.tuple #[.agg V.cells, .int .i64 0]) ∧ SB w' (fun i => B ≤ i) B B V s ∧ s.sc = decS x b ∧ Below w.heap.size w w'
theorem rchk_yes {x : Pl} (hf : failsL x 11 = 0) (W : World) : Calls Try.prog 56 #[.agg x.cells] W fun e w' => e = .returned (.int .i64 0) ∧ Below W.heap.size W w' := by
  have := refCheck_any x W
  unfold chkL at this
  rwa [if_pos hf] at this
theorem range_snoc {α : Type} (f : Nat → α) (k : Nat) : (List.range (k + 1)).map f = (List.range k).map f ++ [f k] := by rw [List.range_succ, List.map_append]; rfl
theorem range_len {α : Type} (f : Nat → α) (k : Nat) : ((List.range k).map f).length = k := by simp

set_option maxRecDepth 100000 in
set_option maxHeartbeats 8000000 in
theorem refDecode_yes (x : Pl) (hf : failsL x 11 = 0) (A : Option Addr) (c : Nat) (l : List UInt8) (w : World) (hs : Src w A l.length l) (hn : l.length ≤ 65536) :
    Calls Try.prog 16 #[.agg x.cells, .slice A l.length c] w (RDec x l w) := by
  have hx := okp_of hf
  have n1 := hx.n1
  have n2 := hx.n2
  have HDr := Lib.hid hx.drift
  have HRd := Lib.hid (show 16 ≤ lateL x ∧ lateL x ≤ 67108864 by have := hx.round; unfold lateL; omega)
  have HDd := Lib.hid (show 0 ≤ x.dmax - x.dmin ∧ x.dmax - x.dmin ≤ 1048576 from by have := hx.d1; have := hx.d2; have := hx.d3; omega)
  have HHz := Lib.hid (show 160 ≤ x.horizon ∧ x.horizon ≤ 2147483648 from ⟨hx.hor, hx.h2⟩)
  obtain ⟨d, hd⟩ : ∃ d, d = drL x := ⟨_, rfl⟩
  obtain ⟨la, hla⟩ : ∃ la, la = lateL x := ⟨_, rfl⟩
  have hdc := fun W => (show Calls Try.prog 52 #[.agg #[.int .i64 x.nodes, .int .i64 x.kk, .int .i64 x.slot, .int .i64 x.sendOff, .int .i64 x.window, .int .i64 x.air, .int .i64 x.dmin, .int .i64 x.dmax, .int .i64 x.rho, .int .i64 x.pi, .int .i64 x.cap, .int .i64 x.delta, .int .i64 x.queue, .int .i64 x.burst, .int .i64 x.payload, .int .i64 x.horizon]] W fun e w' => e = .returned (.int .i64 (drL x)) ∧ Below W.heap.size W w' from refDrift_any x W hx)
  have hlc := fun W => (show Calls Try.prog 58 #[.agg x.cells] W fun e w' => e = .returned (.int .i64 (lateL x)) ∧ Below W.heap.size W w' from refLate_any x W hx)
  have hrt : ∀ k, rateD x l k = (65536 - drL x + num 4 (2 * drL x + 1) (l.drop (8 * k)), 65536) := fun _ => rfl
  have hon : ∀ k, onD x l k = num 4 (lateL x + 2) (l.drop (8 * k + 4)) - 1 := fun _ => rfl
  rw [← hd] at hdc HDr
  rw [← hla] at hlc HRd
  simp only [← hd] at hrt
  simp only [← hla] at hon
  have HDC := Lib.hid hdc
  have HLC := Lib.hid hlc
  have HRT := Lib.hid hrt
  have HON := Lib.hid hon
  have HC := Lib.hid (fun W => rchk_yes hf W)
  have HP := Lib.hid hx
  have hb0 : Below w.heap.size w ((w.alloc (.cells x.cells 23)).alloc (.cells #[.slice none 0 0, .slice none 0 0, .slice none 0 0, .slice none 0 0, .slice none 0 0] 29)) := ((Below.refl _ _).alloc (Nat.le_refl _) _).alloc (by simp) _
  have hP0 : Whole ((w.alloc (.cells x.cells 23)).alloc (.cells #[.slice none 0 0, .slice none 0 0, .slice none 0 0, .slice none 0 0, .slice none 0 0] 29)) w.heap.size 23 x.cells := (Whole.new w _ _).alloc _
  have hR0 : Whole ((w.alloc (.cells x.cells 23)).alloc (.cells #[.slice none 0 0, .slice none 0 0, .slice none 0 0, .slice none 0 0, .slice none 0 0] 29)) (w.heap.size + 1) 29 #[.slice none 0 0, .slice none 0 0, .slice none 0 0, .slice none 0 0, .slice none 0 0] := by
    have := Whole.new (w.alloc (.cells x.cells 23)) 29 #[.slice none 0 0, .slice none 0 0, .slice none 0 0, .slice none 0 0, .slice none 0 0]
    simpa using this
  have H0 := Lib.hid (And.intro hb0 (And.intro hP0 hR0))
  have HS := Lib.hid x.cellsL
  have HSrc := Lib.hid hs
  obtain ⟨ans, hans⟩ : ∃ ans, ans = decS x l := ⟨_, rfl⟩
  have hpost : RDec x l w = fun e w' => ∃ (V : Vs) (s : ScA) (B : Nat), e = .returned (.tuple #[.agg V.cells, .int .i64 0]) ∧ SB w' (fun i => B ≤ i) B B V s ∧ s.sc = ans ∧ Below w.heap.size w w' := by rw [hans]; rfl
  have HAN := Lib.hid hans
  have HQ := Lib.hid hpost
  clear hf hx hd hla hdc hlc hrt hon hb0 hP0 hR0 hs hans hpost
  have hn1 : (l.length : Int) ≤ 65536 := by omega
  go_enter Try.func16, Try.ntmps16
  go_upto_region 3 with (first
    | (refine wpList_load_row rfl 23 _ rfl w.heap.size rfl 23 x.cells (0, 0) _ H0.out.2.1 Try.underlying23 rfl HS.out.plan ?_)
    | (go_at_call 56; refine (HC.out _).mono ?_; rintro e w1 ⟨rfl, hb1⟩; have HB1 := Lib.hid hb1; clear hb1))
  go_upto_region 5 with fail
  have hD : RD w ((w1.alloc (.cells #[.slice A l.length c, .int .i64 0] 100)).alloc (.cells #[.slice none 0 0, .slice none 0 0, .slice none 0 0, .slice none 0 0, .slice none 0 0] 29)) x w1.heap.size (w1.heap.size + 1) A c l 0 Vs.zero ⟨[], [], [], [], []⟩ := by
    have hz := HB1.out.size
    simp at hz
    have hb1 : Below w.heap.size w w1 := k_then HB1.out H0.out.1
    have hb2 : Below w1.heap.size w1 ((w1.alloc (.cells #[.slice A l.length c, .int .i64 0] 100)).alloc (.cells #[.slice none 0 0, .slice none 0 0, .slice none 0 0, .slice none 0 0, .slice none 0 0] 29)) := ((Below.refl _ _).alloc (Nat.le_refl _) _).alloc (by simp) _
    have hB9 : Whole ((w1.alloc (.cells #[.slice A l.length c, .int .i64 0] 100)).alloc (.cells #[.slice none 0 0, .slice none 0 0, .slice none 0 0, .slice none 0 0, .slice none 0 0] 29)) (w1.heap.size + 1) 29 Vs.zero.cells := by
      have := Whole.new (w1.alloc (.cells #[.slice A l.length c, .int .i64 0] 100)) 29 Vs.zero.cells
      simp only [World.size_alloc] at this
      exact this
    have alt : 0 < l.length → ∀ ad, A = some ad → ad.block < w.heap.size := fun h0 ad e => by
      obtain ⟨b, o, e2, hc⟩ := HSrc.out.2 h0
      rw [e2] at e
      cases e
      exact World.block_lt_of_cell? w _ (hc 0 h0)
    exact ⟨⟨(Whole.new w1 _ _).alloc _, (HSrc.out.below hb1).below hb2, fun h0 ad e => by have := alt h0 ad e; omega⟩, ⟨by omega, rfl⟩, alt, k_later hb2 (k_later HB1.out H0.out.2.1), k_later hb2 (k_later HB1.out H0.out.2.2), SB.start _ _ _ _ hB9 (Nat.le_refl _), k_then hb2 hb1⟩
  obtain ⟨q, hq⟩ : ∃ q, q = w1.heap.size := ⟨_, rfl⟩
  obtain ⟨B, hB⟩ : ∃ B, B = w1.heap.size + 1 := ⟨_, rfl⟩
  rw [← hB, ← hq]
  rw [← hB, ← hq] at hD
  have HD0 := Lib.hid hD
  clear HB1 H0 hD hq hB HC
  generalize (w1.alloc (.cells #[.slice A l.length c, .int .i64 0] 100)).alloc (.cells #[.slice none 0 0, .slice none 0 0, .slice none 0 0, .slice none 0 0, .slice none 0 0] 29) = W2 at *
  clear w1
  have c0 := (pl16 HD0.out.plan).1
  obtain ⟨ir, hir, zr0, zr1, zr2⟩ := info_parts i_rate
  obtain ⟨ii, hii, zi0, zi1, zi2⟩ := info_parts i_int
  obtain ⟨jf, hjf, zf0, zf1, zf2⟩ := info_parts i_ft
  obtain ⟨jh, hjh, zh0, zh1, zh2⟩ := info_parts i_hap
  have HI := Lib.hid (And.intro (And.intro hir (And.intro zr0 (And.intro zr1 zr2))) (And.intro (And.intro hii (And.intro zi0 (And.intro zi1 zi2))) (And.intro (And.intro hjf (And.intro zf0 (And.intro zf1 zf2))) (And.intro hjh (And.intro zh0 (And.intro zh1 zh2))))))
  clear hir zr0 zr1 zr2 hii zi0 zi1 zi2 hjf zf0 zf1 zf2 hjh zh0 zh1 zh2
  go_wp2
  clear c0
  go_loopw [9] (fun iv wr => ∃ (k : Nat) (V : Vs), (k : Int) ≤ x.nodes ∧ iv = .int .i64 (k : Int) ∧ RD w wr x q B A c l (8 * k) V ⟨(List.range k).map (rateD x l), (List.range k).map (onD x l), [], [], []⟩) (fun iv _ => x.nodes.toNat - (intOf iv).toNat)
  case atStart => exact ⟨0, Vs.zero, by omega, rfl, HD0.out⟩
  case round =>
    obtain ⟨k, V, hk, rfl, hD⟩ := hrel
    have HD := Lib.hid hD
    have c0 := (pl16 hD.plan).1
    clear hD HD0
    by_cases hlt : (k : Int) < x.nodes
    · skip
      have HRT' := Lib.hid (HRT.out k)
      have HON' := Lib.hid (HON.out k)
      obtain ⟨rs, hrs⟩ : ∃ rs, rs = (List.range k).map (rateD x l) := ⟨_, rfl⟩
      obtain ⟨os, hos⟩ : ∃ os, os = (List.range k).map (onD x l) := ⟨_, rfl⟩
      have HRS := Lib.hid (show rs.length ≤ 16 ∧ rs = (List.range k).map (rateD x l) from ⟨by rw [hrs, range_len]; omega, hrs⟩)
      have HOS := Lib.hid (show os.length ≤ 16 ∧ os = (List.range k).map (onD x l) from ⟨by rw [hos, range_len]; omega, hos⟩)
      rw [← hrs, ← hos] at HD
      clear hrs hos
      obtain ⟨z, hz⟩ : ∃ z, z = num 4 (2 * d + 1) (l.drop (8 * k)) := ⟨_, rfl⟩
      obtain ⟨y, hy⟩ : ∃ y, y = num 4 (la + 2) (l.drop (8 * k + 4)) := ⟨_, rfl⟩
      rw [← hz] at HRT'
      rw [← hy] at HON'
      have dr := HDr.out
      have rd := HRd.out
      have z0 := num_lt (w := 4) (l := l.drop (8 * k)) (show (0 : Int) < 2 * d + 1 by omega)
      have y0 := num_lt (w := 4) (l := l.drop (8 * k + 4)) (show (0 : Int) < la + 2 by omega)
      rw [← hz] at z0
      rw [← hy] at y0
      have HZ := Lib.hid hz.symm
      have HY := Lib.hid hy.symm
      have hm4 : 0 < 2 * d + 1 := by omega
      have hm5 : 0 < la + 2 := by omega
      have KK := Lib.hid (show 8 * k ≤ 1000000000 ∧ 8 * k + 4 ≤ 1000000000 ∧ l.length ≤ 1000000000 by omega)
      have e1 : IntKind.i64.wrap (65536 - d) = 65536 - d := IntWalk.i64_in _ (by omega)
      have e2 : IntKind.i64.wrap (2 * d) = 2 * d := IntWalk.i64_in _ (by omega)
      have e3 : IntKind.i64.wrap (2 * d + 1) = 2 * d + 1 := IntWalk.i64_in _ (by omega)
      have e4 : IntKind.i64.wrap (65536 - d + z) = 65536 - d + z := IntWalk.i64_in _ (by omega)
      have P0 := Lib.hid HD.out.start.drew
      have KS := Lib.hid (fun W (h : RX wr W [] q A c l (8 * k)) => (show W.cell? ⟨w.heap.size, 0, none⟩ = some (.int .i64 x.nodes) ∧ W.cell? ⟨w.heap.size, 1, none⟩ = some (.int .i64 x.kk) ∧ W.cell? ⟨w.heap.size, 2, none⟩ = some (.int .i64 x.slot) ∧ W.cell? ⟨w.heap.size, 3, none⟩ = some (.int .i64 x.sendOff) ∧ W.cell? ⟨w.heap.size, 4, none⟩ = some (.int .i64 x.window) ∧ W.cell? ⟨w.heap.size, 5, none⟩ = some (.int .i64 x.air) ∧ W.cell? ⟨w.heap.size, 6, none⟩ = some (.int .i64 x.dmin) ∧ W.cell? ⟨w.heap.size, 7, none⟩ = some (.int .i64 x.dmax) ∧ W.cell? ⟨w.heap.size, 8, none⟩ = some (.int .i64 x.rho) ∧ W.cell? ⟨w.heap.size, 9, none⟩ = some (.int .i64 x.pi) ∧ W.cell? ⟨w.heap.size, 10, none⟩ = some (.int .i64 x.cap) ∧ W.cell? ⟨w.heap.size, 11, none⟩ = some (.int .i64 x.delta) ∧ W.cell? ⟨w.heap.size, 12, none⟩ = some (.int .i64 x.queue) ∧ W.cell? ⟨w.heap.size, 13, none⟩ = some (.int .i64 x.burst) ∧ W.cell? ⟨w.heap.size, 14, none⟩ = some (.int .i64 x.payload) ∧ W.cell? ⟨w.heap.size, 15, none⟩ = some (.int .i64 x.horizon) from pl16 (h.plan HD.out)))
      have KT := Lib.hid (fun W (h : RX wr W [] q A c l (8 * k + 4)) => (show W.cell? ⟨w.heap.size, 0, none⟩ = some (.int .i64 x.nodes) ∧ W.cell? ⟨w.heap.size, 1, none⟩ = some (.int .i64 x.kk) ∧ W.cell? ⟨w.heap.size, 2, none⟩ = some (.int .i64 x.slot) ∧ W.cell? ⟨w.heap.size, 3, none⟩ = some (.int .i64 x.sendOff) ∧ W.cell? ⟨w.heap.size, 4, none⟩ = some (.int .i64 x.window) ∧ W.cell? ⟨w.heap.size, 5, none⟩ = some (.int .i64 x.air) ∧ W.cell? ⟨w.heap.size, 6, none⟩ = some (.int .i64 x.dmin) ∧ W.cell? ⟨w.heap.size, 7, none⟩ = some (.int .i64 x.dmax) ∧ W.cell? ⟨w.heap.size, 8, none⟩ = some (.int .i64 x.rho) ∧ W.cell? ⟨w.heap.size, 9, none⟩ = some (.int .i64 x.pi) ∧ W.cell? ⟨w.heap.size, 10, none⟩ = some (.int .i64 x.cap) ∧ W.cell? ⟨w.heap.size, 11, none⟩ = some (.int .i64 x.delta) ∧ W.cell? ⟨w.heap.size, 12, none⟩ = some (.int .i64 x.queue) ∧ W.cell? ⟨w.heap.size, 13, none⟩ = some (.int .i64 x.burst) ∧ W.cell? ⟨w.heap.size, 14, none⟩ = some (.int .i64 x.payload) ∧ W.cell? ⟨w.heap.size, 15, none⟩ = some (.int .i64 x.horizon) from pl16 (h.plan HD.out)))
      clear hz hy
      go_upto_region 9 with fail
      clear c0
      go_region_held3 (fun W => W.cell? ⟨w.heap.size, 0, none⟩ = some (.int .i64 x.nodes) ∧ W.cell? ⟨w.heap.size, 1, none⟩ = some (.int .i64 x.kk) ∧ W.cell? ⟨w.heap.size, 2, none⟩ = some (.int .i64 x.slot) ∧ W.cell? ⟨w.heap.size, 3, none⟩ = some (.int .i64 x.sendOff) ∧ W.cell? ⟨w.heap.size, 4, none⟩ = some (.int .i64 x.window) ∧ W.cell? ⟨w.heap.size, 5, none⟩ = some (.int .i64 x.air) ∧ W.cell? ⟨w.heap.size, 6, none⟩ = some (.int .i64 x.dmin) ∧ W.cell? ⟨w.heap.size, 7, none⟩ = some (.int .i64 x.dmax) ∧ W.cell? ⟨w.heap.size, 8, none⟩ = some (.int .i64 x.rho) ∧ W.cell? ⟨w.heap.size, 9, none⟩ = some (.int .i64 x.pi) ∧ W.cell? ⟨w.heap.size, 10, none⟩ = some (.int .i64 x.cap) ∧ W.cell? ⟨w.heap.size, 11, none⟩ = some (.int .i64 x.delta) ∧ W.cell? ⟨w.heap.size, 12, none⟩ = some (.int .i64 x.queue) ∧ W.cell? ⟨w.heap.size, 13, none⟩ = some (.int .i64 x.burst) ∧ W.cell? ⟨w.heap.size, 14, none⟩ = some (.int .i64 x.payload) ∧ W.cell? ⟨w.heap.size, 15, none⟩ = some (.int .i64 x.horizon)) (first | with_reducible exact KT.out _ P3.out | with_reducible exact KS.out _ P2.out | with_reducible exact KS.out _ P1.out | with_reducible exact KS.out _ P0.out) (first
        | (go_at_call 52; with_reducible refine (HDC.out _).mono ?_; rintro e v1 ⟨rfl, hb⟩; have P1 := Lib.hid (P0.out.later hb); clear hb)
        | (go_at_call 52; with_reducible refine (HDC.out _).mono ?_; rintro e v2 ⟨rfl, hb⟩; have P2 := Lib.hid (P1.out.later hb); clear hb)
        | (go_at_call 57; with_reducible refine (P2.out.get 4 4 (2 * d + 1) z (8 * k + 4) rfl HZ.out rfl (by decide) hm4 KK.out.1 KK.out.2.2).mono ?_; rintro e v3 ⟨rfl, hx⟩; have P3 := Lib.hid hx; clear hx))
      clear e1 e2 e3 e4 P0 P1 P2 KS KT HZ
      go_upto_region 11 with (first
        | (refine wpList_load_row rfl 23 _ rfl w.heap.size rfl 23 x.cells (0, 0) _ (P3.out.plan HD.out) Try.underlying23 rfl HS.out.plan ?_)
        | (go_at_call 58; refine (HLC.out _).mono ?_; rintro e v4 ⟨rfl, hb⟩; have P4 := Lib.hid (P3.out.later hb); clear hb)
        | (go_at_call 57; with_reducible refine (P4.out.get 4 4 (la + 2) y (8 * (k + 1)) rfl HY.out (by omega) (by decide) hm5 KK.out.2.1 KK.out.2.2).mono ?_; rintro e v5 ⟨rfl, hx⟩; have P5 := Lib.hid hx; clear hx))
      clear P3 P4 HY hm4 hm5
      obtain ⟨ra0, rb0, rc0, ra1, rb1, rc1, ra2, rb2, rc2, ra3, rb3, rc3, ra4, rb4, rc4, rfl⟩ := HD.out.rows
      have u0 : v5.cell? ⟨B, 0, none⟩ = some (.slice ra0 rb0 rc0) := (uc5 ((P5.out.sb HD.out).box)).1.1
      have hb1 : Below v5.heap.size v5 (v5.alloc (.cells #[.int .i64 (65536 - d + z), .int .i64 65536] 52)) := (Below.refl _ _).alloc (Nat.le_refl _) _
      have X9 := Lib.hid (P5.out.later hb1)
      have B9 := Lib.hid hb1
      have R9 := Lib.hid (show (v5.alloc (.cells #[.int .i64 (65536 - d + z), .int .i64 65536] 52)).ownsRow B 52 2 (.slice ra0 rb0 rc0) rs.length (rs.flatMap rateC) ∧ B ≤ (v5.alloc (.cells #[.int .i64 (65536 - d + z), .int .i64 65536] 52)).heap.size from ⟨(X9.out.sb HD.out).r0, by have := (X9.out.sb HD.out).box.lt; omega⟩)
      have N9 := Lib.hid (show ∀ j u, (rateC ((65536 - d + z, 65536) : Int × Int))[j]? = some u → (v5.alloc (.cells #[.int .i64 (65536 - d + z), .int .i64 65536] 52)).cell? ((⟨v5.heap.size, 0, none⟩ : Addr).add j) = some u from new_cells v5 #[.int .i64 (65536 - d + z), .int .i64 65536] 52)
      clear hb1
      go_upto_region 12 with (first
        | (at_builtin; refine wpList_append_own_at _ rfl (.tmp 58) (.tmp 61) 24 rfl B 52 ir (.agg #[.int .i64 0, .int .i64 0]) 2 16 Try.underlying24 HI.out.1.1 HI.out.1.2.1 HI.out.1.2.2.1 HI.out.1.2.2.2 rfl (by decide) (.slice ra0 rb0 rc0) rs.length (rs.flatMap rateC) rfl R9.out.1 _ 1 1 (rateC ((65536 - d + z, 65536) : Int × Int)) rfl rfl N9.out (c1_rate _) (by have := HRS.out.1; simp only [maxLen]; omega) (by have := HRS.out.1; omega) R9.out.2 ?_; intro v' w9 h1 h2 _ h3
           obtain ⟨b9, e9, f9, rfl⟩ := own_val h1
           have hB4 := (X9.out.sb HD.out).box.grown h2 ((X9.out.sb HD.out).box.not_row (by decide) (X9.out.sb HD.out).r0)
           obtain ⟨VHE, hv⟩ := HD.out.add0 ((65536 - d + z, 65536) : Int × Int) P5.out B9.out h1 h2 h3
           have HE := Lib.hid hv
           have u4 : w9.cell? ⟨B, 0, none⟩ = some (.slice ra0 rb0 rc0) := (uc5 hB4).1.1
           have u5 : w9.frozen? ⟨B, 0, none⟩ = false := (uc5 hB4).1.2
           clear h1 h2 h3 hB4 hv))
      clear u0 u4 u5 X9 B9 R9 N9 P5 HD
      generalize w9.setCell ⟨B, 0, none⟩ (.slice b9 e9 f9) = V6 at *
      clear w9
      have P6 := Lib.hid HE.out.start
      obtain ⟨ra0, rb0, rc0, ra1, rb1, rc1, ra2, rb2, rc2, ra3, rb3, rc3, ra4, rb4, rc4, rfl⟩ := HE.out.rows
      have u0 : V6.cell? ⟨B, 1, none⟩ = some (.slice ra1 rb1 rc1) := (uc5 ((P6.out.sb HE.out).box)).2.1.1
      have hb1 : Below V6.heap.size V6 (V6.alloc (.cells #[.int .i64 (y - 1)] 2)) := (Below.refl _ _).alloc (Nat.le_refl _) _
      have X9 := Lib.hid (P6.out.later hb1)
      have B9 := Lib.hid hb1
      have R9 := Lib.hid (show (V6.alloc (.cells #[.int .i64 (y - 1)] 2)).ownsRow B 2 1 (.slice ra1 rb1 rc1) os.length (os.flatMap numC) ∧ B ≤ (V6.alloc (.cells #[.int .i64 (y - 1)] 2)).heap.size from ⟨(X9.out.sb HE.out).r1, by have := (X9.out.sb HE.out).box.lt; omega⟩)
      have N9 := Lib.hid (show ∀ j u, (numC (y - 1 : Int))[j]? = some u → (V6.alloc (.cells #[.int .i64 (y - 1)] 2)).cell? ((⟨V6.heap.size, 0, none⟩ : Addr).add j) = some u from new_cells V6 #[.int .i64 (y - 1)] 2)
      clear hb1
      go_upto_region 8 with (first
        | (at_builtin; refine wpList_append_own_at _ rfl (.tmp 65) (.tmp 67) 25 rfl B 2 ii (.int .i64 0) 1 8 Try.underlying25 HI.out.2.1.1 HI.out.2.1.2.1 HI.out.2.1.2.2.1 HI.out.2.1.2.2.2 rfl (by decide) (.slice ra1 rb1 rc1) os.length (os.flatMap numC) rfl R9.out.1 _ 1 1 (numC (y - 1 : Int)) rfl rfl N9.out (c1_int _) (by have := HOS.out.1; simp only [maxLen]; omega) (by have := HOS.out.1; omega) R9.out.2 ?_; intro v' w9 h1 h2 _ h3
           obtain ⟨b9, e9, f9, rfl⟩ := own_val h1
           have hB4 := (X9.out.sb HE.out).box.grown h2 ((X9.out.sb HE.out).box.not_row (by decide) (X9.out.sb HE.out).r1)
           obtain ⟨VHG, hv⟩ := HE.out.add1 (y - 1 : Int) P6.out B9.out h1 h2 h3
           have HG := Lib.hid hv
           have u4 : w9.cell? ⟨B, 1, none⟩ = some (.slice ra1 rb1 rc1) := (uc5 hB4).2.1.1
           have u5 : w9.frozen? ⟨B, 1, none⟩ = false := (uc5 hB4).2.1.2
           clear h1 h2 h3 hB4 hv))
      clear u0 u4 u5 X9 B9 R9 N9 P6 HE
      generalize w9.setCell ⟨B, 1, none⟩ (.slice b9 e9 f9) = V7 at *
      clear w9
      go_wp2
      go_roundw
      case rel =>
        refine ⟨k + 1, VHG, by omega, by go_num, ?_⟩
        rw [range_snoc, range_snoc, HRT'.out, HON'.out, ← HRS.out.2, ← HOS.out.2]
        exact HG.out
      case measure => simp [intOf]; omega
    · have HK := Lib.hid (show x.nodes = (k : Int) ∧ x.nodes.toNat = k from ⟨by omega, by omega⟩)
      have mb := num_lt (w := 2) (l := l.drop (8 * k)) (show (0 : Int) < 257 by decide)
      obtain ⟨m, hm⟩ : ∃ m : Nat, num 2 257 (l.drop (8 * k)) = (m : Int) := ⟨(num 2 257 (l.drop (8 * k))).toNat, by omega⟩
      have hm2 : m ≤ 256 := by omega
      have HM := Lib.hid hm
      have P0 := Lib.hid HD.out.start
      have KK := Lib.hid (show 8 * k ≤ 128 ∧ l.length ≤ 1000000000 by omega)
      clear mb hm
      go_upto_region 14 with (go_at_call 57; with_reducible refine (P0.out.get 2 2 257 (m : Int) (8 * k + 2) rfl HM.out rfl (by decide) (by decide) (by have := KK.out; omega) KK.out.2).mono ?_; rintro e v1 ⟨rfl, hx⟩; have P1 := Lib.hid hx; clear hx)
      obtain ⟨rs, hrs⟩ : ∃ rs, rs = (List.range k).map (rateD x l) := ⟨_, rfl⟩
      obtain ⟨os, hos⟩ : ∃ os, os = (List.range k).map (onD x l) := ⟨_, rfl⟩
      rw [← hrs, ← hos] at HD
      have HRO := Lib.hid (And.intro hrs hos)
      have HD1 := Lib.hid (HD.out.again P1.out)
      have HDL := Lib.hid (show ∀ j, delD x l j = num 4 (x.dmax - x.dmin + 1) (l.drop (8 * k + 2 + 4 * j)) from fun j => by unfold delD; rw [HK.out.2])
      have d1 := HP.out.d1
      have d2 := HP.out.d2
      have d3 := HP.out.d3
      clear hrs hos HD P0 P1 c0 hlt
      go_wp2
      go_loopw [13] (fun iv wr => ∃ (j : Nat) (V : Vs), j ≤ m ∧ iv = .int .i64 (j : Int) ∧ RD w wr x q B A c l (8 * k + 2 + 4 * j) V ⟨rs, os, (List.range j).map (delD x l), [], []⟩) (fun iv _ => m - (intOf iv).toNat)
      case atStart => exact ⟨0, V, Nat.zero_le _, rfl, HD1.out⟩
      case round =>
        obtain ⟨j, V, hj, rfl, hD⟩ := hrel
        have HD := Lib.hid hD
        clear hD HD1
        by_cases hlt : j < m
        · skip
          obtain ⟨ds, hds⟩ : ∃ ds, ds = (List.range j).map (delD x l) := ⟨_, rfl⟩
          have HDS := Lib.hid (show ds.length ≤ 256 ∧ ds = (List.range j).map (delD x l) from ⟨by rw [hds, range_len]; omega, hds⟩)
          rw [← hds] at HD
          obtain ⟨z, hz⟩ : ∃ z, z = num 4 (x.dmax - x.dmin + 1) (l.drop (8 * k + 2 + 4 * j)) := ⟨_, rfl⟩
          have HDL' := Lib.hid (show delD x l j = z from by rw [HDL.out, hz])
          have z0 := num_lt (w := 4) (l := l.drop (8 * k + 2 + 4 * j)) (show (0 : Int) < x.dmax - x.dmin + 1 by omega)
          rw [← hz] at z0
          have HZ := Lib.hid hz.symm
          have hm4 : 0 < x.dmax - x.dmin + 1 := by omega
          have P0 := Lib.hid HD.out.start
          have c6 := (pl16 HD.out.plan).2.2.2.2.2.2.1
          have c7 := (pl16 HD.out.plan).2.2.2.2.2.2.2.1
          have HJ := Lib.hid (show j ≤ 256 by omega)
          clear hds hz
          go_upto_region 18 with (go_at_call 57; with_reducible refine (P0.out.get 4 4 (x.dmax - x.dmin + 1) z (8 * k + 2 + 4 * (j + 1)) rfl HZ.out (by omega) (by decide) hm4 (by have := KK.out; have := HJ.out; omega) KK.out.2).mono ?_; rintro e v2 ⟨rfl, hx⟩; have P1 := Lib.hid hx; clear hx)
          clear c6 c7 P0 HZ
          obtain ⟨ra0, rb0, rc0, ra1, rb1, rc1, ra2, rb2, rc2, ra3, rb3, rc3, ra4, rb4, rc4, rfl⟩ := HD.out.rows
          have u0 : v2.cell? ⟨B, 2, none⟩ = some (.slice ra2 rb2 rc2) := (uc5 ((P1.out.sb HD.out).box)).2.2.1.1
          have hb1 : Below v2.heap.size v2 (v2.alloc (.cells #[.int .i64 z] 2)) := (Below.refl _ _).alloc (Nat.le_refl _) _
          have X9 := Lib.hid (P1.out.later hb1)
          have B9 := Lib.hid hb1
          have R9 := Lib.hid (show (v2.alloc (.cells #[.int .i64 z] 2)).ownsRow B 2 1 (.slice ra2 rb2 rc2) ds.length (ds.flatMap numC) ∧ B ≤ (v2.alloc (.cells #[.int .i64 z] 2)).heap.size from ⟨(X9.out.sb HD.out).r2, by have := (X9.out.sb HD.out).box.lt; omega⟩)
          have N9 := Lib.hid (show ∀ j u, (numC (z : Int))[j]? = some u → (v2.alloc (.cells #[.int .i64 z] 2)).cell? ((⟨v2.heap.size, 0, none⟩ : Addr).add j) = some u from new_cells v2 #[.int .i64 z] 2)
          clear hb1
          go_upto_region 16 with (first
            | (at_builtin; refine wpList_append_own_at _ rfl (.tmp 86) (.tmp 88) 25 rfl B 2 ii (.int .i64 0) 1 8 Try.underlying25 HI.out.2.1.1 HI.out.2.1.2.1 HI.out.2.1.2.2.1 HI.out.2.1.2.2.2 rfl (by decide) (.slice ra2 rb2 rc2) ds.length (ds.flatMap numC) rfl R9.out.1 _ 1 1 (numC (z : Int)) rfl rfl N9.out (c1_int _) (by have := HDS.out.1; simp only [maxLen]; omega) (by have := HDS.out.1; omega) R9.out.2 ?_; intro v' w9 h1 h2 _ h3
               obtain ⟨b9, e9, f9, rfl⟩ := own_val h1
               have hB4 := (X9.out.sb HD.out).box.grown h2 ((X9.out.sb HD.out).box.not_row (by decide) (X9.out.sb HD.out).r2)
               obtain ⟨VHG, hv⟩ := HD.out.add2 (z : Int) P1.out B9.out h1 h2 h3
               have HG := Lib.hid hv
               have u4 : w9.cell? ⟨B, 2, none⟩ = some (.slice ra2 rb2 rc2) := (uc5 hB4).2.2.1.1
               have u5 : w9.frozen? ⟨B, 2, none⟩ = false := (uc5 hB4).2.2.1.2
               clear h1 h2 h3 hB4 hv))
          clear u0 u4 u5 X9 B9 R9 N9 P1 HD
          generalize w9.setCell ⟨B, 2, none⟩ (.slice b9 e9 f9) = V7 at *
          clear w9
          go_wp2
          go_roundw
          case rel =>
            refine ⟨j + 1, VHG, by omega, by go_num, ?_⟩
            rw [range_snoc, HDL'.out, ← HDS.out.2]
            exact HG.out
          case measure => simp [intOf]; omega
        · obtain rfl : j = m := by omega
          obtain ⟨ds, hds⟩ : ∃ ds, ds = (List.range j).map (delD x l) := ⟨_, rfl⟩
          rw [← hds] at HD
          have HRD := Lib.hid (And.intro HRO.out.1 (And.intro HRO.out.2 hds))
          obtain ⟨p0, hp0⟩ : ∃ p0, p0 = 8 * k + 2 + 4 * j := ⟨_, rfl⟩
          rw [← hp0] at HD
          have HP0 := Lib.hid (show p0 = 8 * x.nodes.toNat + 2 + 4 * manyD x l ∧ manyD x l = j ∧ p0 ≤ 2000 from by
            have e : manyD x l = j := by unfold manyD; rw [HK.out.2, HM.out]; simp
            rw [e, HK.out.2]
            have := KK.out
            exact ⟨hp0, rfl, by omega⟩)
          clear hds hp0 hlt HRO HDL
          go_wp2
          go_loopw [15] (fun iv wr => ∃ (n p : Nat) (V : Vs) (hs : List HpA) (fs : List Ft), iv = .int .i64 (n : Int) ∧ (n ≤ p ∧ n ≤ l.length + 1 ∧ p ≤ l.length + 3000) ∧ RD w wr x q B A c l p V ⟨rs, os, ds, hs, fs⟩ ∧ EntD x l p0 p (hs.map HpA.hp) fs) (fun iv _ => l.length + 1 - (intOf iv).toNat)
          case atStart => exact ⟨0, p0, V, [], [], rfl, ⟨Nat.zero_le _, Nat.zero_le _, by have := HP0.out; omega⟩, HD.out, entd_start x l p0⟩
          case round =>
            obtain ⟨n, p, V, hs, fs, rfl, ⟨hb1, hb2, hb3⟩, hD, hE⟩ := hrel
            have HD := Lib.hid hD
            have HE := Lib.hid hE
            have c1 : wr.cell? ⟨q, 1, none⟩ = some (.int .i64 (p : Int)) := by simpa using hD.rd.box.cell 1
            have HBn := Lib.hid (And.intro hb1 (And.intro hb2 hb3))
            clear hD hE
            by_cases hlt : p < l.length
            · skip
              have i0 : (n : Int) ≤ (l.length : Int) := by omega
              have i1 : (p : Int) < (l.length : Int) := by omega
              have HLT := Lib.hid hlt
              have P0 := Lib.hid HD.out.start
              have KL := Lib.hid (show p + 10 ≤ 1000000000 ∧ l.length ≤ 1000000000 by omega)
              obtain ⟨z, hz⟩ : ∃ z, z = num 1 4 (l.drop p) := ⟨_, rfl⟩
              have zb := num_lt (w := 1) (l := l.drop p) (show (0 : Int) < 4 by decide)
              rw [← hz] at zb
              have HZ := Lib.hid hz.symm
              clear hb1 hb2 hb3 hlt hz
              go_upto_region 23 with (go_at_call 57; with_reducible refine (P0.out.get 1 1 4 z (p + 1) rfl HZ.out rfl (by decide) (by decide) (by have := KL.out; omega) KL.out.2).mono ?_; rintro e v1 ⟨rfl, hx⟩; have P1 := Lib.hid hx; clear hx)
              have hn5 : (n : Int) ≤ 65536 := by omega
              clear c1 i0 i1 P0
              have hN1 : 0 < x.nodes + 1 := by omega
              have hN0 : 0 < x.nodes := by omega
              by_cases hz3 : z = 3
              · skip
                have HZ3 := Lib.hid (show num 1 4 (l.drop p) = 3 by rw [HZ.out, hz3])
                subst hz3
                clear zb
                obtain ⟨s0, hs0⟩ : ∃ s0, s0 = num 1 (x.nodes) (l.drop (p + 1)) := ⟨_, rfl⟩
                have s0b := num_lt (w := 1) (l := l.drop (p + 1)) (show (0 : Int) < x.nodes by omega)
                rw [← hs0] at s0b
                have Hs0 := Lib.hid hs0.symm
                clear hs0
                obtain ⟨s1, hs1⟩ : ∃ s1, s1 = num 2 (65536) (l.drop (p + 2)) := ⟨_, rfl⟩
                have s1b := num_lt (w := 2) (l := l.drop (p + 2)) (show (0 : Int) < 65536 by omega)
                rw [← hs1] at s1b
                have Hs1 := Lib.hid hs1.symm
                clear hs1
                obtain ⟨s2, hs2⟩ : ∃ s2, s2 = num 1 (x.nodes + 1) (l.drop (p + 4)) := ⟨_, rfl⟩
                have s2b := num_lt (w := 1) (l := l.drop (p + 4)) (show (0 : Int) < x.nodes + 1 by omega)
                rw [← hs2] at s2b
                have Hs2 := Lib.hid hs2.symm
                clear hs2
                obtain ⟨s3, hs3⟩ : ∃ s3, s3 = num 1 (3) (l.drop (p + 5)) := ⟨_, rfl⟩
                have s3b := num_lt (w := 1) (l := l.drop (p + 5)) (show (0 : Int) < 3 by omega)
                rw [← hs3] at s3b
                have Hs3 := Lib.hid hs3.symm
                clear hs3
                obtain ⟨s4, hs4⟩ : ∃ s4, s4 = num 1 (2) (l.drop (p + 6)) := ⟨_, rfl⟩
                have s4b := num_lt (w := 1) (l := l.drop (p + 6)) (show (0 : Int) < 2 by omega)
                rw [← hs4] at s4b
                have Hs4 := Lib.hid hs4.symm
                clear hs4
                have HO := Lib.hid (show oneE x (l.drop p) = (.inr ⟨s0, s1, s2, 1 + s3, s4 == 1⟩, l.drop (p + 7)) from by rw [one_ft3 HZ3.out, Hs0.out, Hs1.out, Hs2.out, Hs3.out, Hs4.out]; rfl)
                go_upto_region 25 with fail
                have P2 := Lib.hid (P1.out.box 54 #[.int .i64 0, .int .i64 0, .int .i64 0, .int .i64 0, .bool false])
                obtain ⟨bf, hbf⟩ : ∃ bf, bf = v1.heap.size := ⟨_, rfl⟩
                rw [← hbf] at P2
                rw [← hbf]
                clear P1 hbf
                generalize v1.alloc (.cells #[.int .i64 0, .int .i64 0, .int .i64 0, .int .i64 0, .bool false] 54) = v2 at *
                clear v1
                go_upto_region 26 with (first
                  | (go_at_call 57; (with_reducible refine (P2.out.get 1 1 (x.nodes) s0 (p + 2) rfl Hs0.out (by omega) (by decide) hN0 (by have := KL.out; omega) KL.out.2).mono ?_); rintro e u1 ⟨rfl, hx⟩; have PX := Lib.hid hx; have b0 : u1.cell? ⟨bf, 0, none⟩ = some (.int .i64 0) := hx.box0.cell 0; have b1 := hx.box0.frozen 0; clear hx))
                have P3 := Lib.hid (show RX wr (u1.setCell ⟨bf, 0, none⟩ (.int .i64 s0)) [(bf, 54, (#[.int .i64 s0, .int .i64 0, .int .i64 0, .int .i64 0, .bool false] : Array Value))] q A c l (p + 2) from PX.out.set 0 (.int .i64 s0))
                clear b0 b1 PX P2 
                generalize u1.setCell ⟨bf, 0, none⟩ (.int .i64 s0) = v3 at *
                clear u1
                go_upto_region 27 with (first
                  | (go_at_call 57; (with_reducible refine (P3.out.get 2 2 (65536) s1 (p + 4) rfl Hs1.out (by omega) (by decide) (by decide) (by have := KL.out; omega) KL.out.2).mono ?_); rintro e u1 ⟨rfl, hx⟩; have PX := Lib.hid hx; have b0 : u1.cell? ⟨bf, 1, none⟩ = some (.int .i64 0) := hx.box0.cell 1; have b1 := hx.box0.frozen 1; clear hx))
                have P4 := Lib.hid (show RX wr (u1.setCell ⟨bf, 1, none⟩ (.int .i64 s1)) [(bf, 54, (#[.int .i64 s0, .int .i64 s1, .int .i64 0, .int .i64 0, .bool false] : Array Value))] q A c l (p + 4) from PX.out.set 1 (.int .i64 s1))
                clear b0 b1 PX P3 
                generalize u1.setCell ⟨bf, 1, none⟩ (.int .i64 s1) = v4 at *
                clear u1
                go_upto_region 28 with (first
                  | (go_at_call 57; (with_reducible refine (P4.out.get 1 1 (x.nodes + 1) s2 (p + 5) rfl Hs2.out (by omega) (by decide) hN1 (by have := KL.out; omega) KL.out.2).mono ?_); rintro e u1 ⟨rfl, hx⟩; have PX := Lib.hid hx; have b0 : u1.cell? ⟨bf, 2, none⟩ = some (.int .i64 0) := hx.box0.cell 2; have b1 := hx.box0.frozen 2; clear hx))
                have P5 := Lib.hid (show RX wr (u1.setCell ⟨bf, 2, none⟩ (.int .i64 s2)) [(bf, 54, (#[.int .i64 s0, .int .i64 s1, .int .i64 s2, .int .i64 0, .bool false] : Array Value))] q A c l (p + 5) from PX.out.set 2 (.int .i64 s2))
                clear b0 b1 PX P4 
                generalize u1.setCell ⟨bf, 2, none⟩ (.int .i64 s2) = v5 at *
                clear u1
                go_upto_region 29 with (first
                  | (go_at_call 57; (with_reducible refine (P5.out.get 1 1 (3) s3 (p + 6) rfl Hs3.out (by omega) (by decide) (by decide) (by have := KL.out; omega) KL.out.2).mono ?_); rintro e u1 ⟨rfl, hx⟩; have PX := Lib.hid hx; have b0 : u1.cell? ⟨bf, 3, none⟩ = some (.int .i64 0) := hx.box0.cell 3; have b1 := hx.box0.frozen 3; clear hx))
                have P6 := Lib.hid (show RX wr (u1.setCell ⟨bf, 3, none⟩ (.int .i64 (1 + s3))) [(bf, 54, (#[.int .i64 s0, .int .i64 s1, .int .i64 s2, .int .i64 (1 + s3), .bool false] : Array Value))] q A c l (p + 6) from PX.out.set 3 (.int .i64 (1 + s3)))
                clear b0 b1 PX P5 
                generalize u1.setCell ⟨bf, 3, none⟩ (.int .i64 (1 + s3)) = v6 at *
                clear u1
                go_upto_region 30 with (first
                  | (go_at_call 57; with_reducible refine (P6.out.get 1 1 2 s4 (p + 7) rfl Hs4.out rfl (by decide) (by decide) (by have := KL.out; omega) KL.out.2).mono ?_; rintro e v7 ⟨rfl, hx⟩; have P7 := Lib.hid hx; clear hx))
                have b0 : v7.cell? ⟨bf, 4, none⟩ = some (.bool false) := P7.out.box0.cell 4
                have b1 := P7.out.box0.frozen 4
                go_upto_region 31 with fail
                have P8 := Lib.hid (show RX wr (v7.setCell ⟨bf, 4, none⟩ (.bool (s4 == 1))) [(bf, 54, (#[.int .i64 s0, .int .i64 s1, .int .i64 s2, .int .i64 (1 + s3), .bool (s4 == 1)] : Array Value))] q A c l (p + 7) from P7.out.set 4 (.bool (s4 == 1)))
                clear b0 b1 P7 P6
                generalize v7.setCell ⟨bf, 4, none⟩ (.bool (s4 == 1)) = v8 at *
                clear v7
                obtain ⟨ra0, rb0, rc0, ra1, rb1, rc1, ra2, rb2, rc2, ra3, rb3, rc3, ra4, rb4, rc4, rfl⟩ := HD.out.rows
                have hl4 := HD.out.lens.2
                dsimp only at hl4
                subst hl4
                have w0 : v8.cell? ⟨B, 4, none⟩ = some (.slice ra4 fs.length rc4) := (uc5 ((P8.out.sb HD.out).box)).2.2.2.2.1
                have HEE := Lib.hid (HE.out.ft HLT.out HO.out)
                by_cases hfl : fs.length < 64
                · skip
                  have i3 : (fs.length : Int) < 64 := by omega
                  have HFL := Lib.hid hfl
                  clear hfl
                  have HIF := Lib.hid (show (Try.prog.info? 54).map (·.size) = some (#[Value.int .i64 s0, .int .i64 s1, .int .i64 s2, .int .i64 (1 + s3), .bool (s4 == 1)] : Array Value).size from by show _ = some 5; kernel_rfl)
                  go_upto_region 32 with fail
                  clear w0
                  have HV := Lib.hid P8.out.box0
                  skip --obtain ⟨ra0, rb0, rc0, ra1, rb1, rc1, ra2, rb2, rc2, ra3, rb3, rc3, ra4, rb4, rc4, rfl⟩ := HD.out.rows
                  have u0 : v8.cell? ⟨B, 4, none⟩ = some (.slice ra4 fs.length rc4) := (uc5 ((P8.out.sb HD.out).box)).2.2.2.2.1
                  have hb1 : Below v8.heap.size v8 (v8.alloc (.cells #[.int .i64 s0, .int .i64 s1, .int .i64 s2, .int .i64 (1 + s3), .bool (s4 == 1)] 54)) := (Below.refl _ _).alloc (Nat.le_refl _) _
                  have X9 := Lib.hid (P8.out.later hb1)
                  have B9 := Lib.hid hb1
                  have R9 := Lib.hid (show (v8.alloc (.cells #[.int .i64 s0, .int .i64 s1, .int .i64 s2, .int .i64 (1 + s3), .bool (s4 == 1)] 54)).ownsRow B 54 5 (.slice ra4 fs.length rc4) fs.length (fs.flatMap ftC) ∧ B ≤ (v8.alloc (.cells #[.int .i64 s0, .int .i64 s1, .int .i64 s2, .int .i64 (1 + s3), .bool (s4 == 1)] 54)).heap.size from ⟨(X9.out.sb HD.out).r4, by have := (X9.out.sb HD.out).box.lt; omega⟩)
                  have N9 := Lib.hid (show ∀ j u, (ftC (⟨s0, s1, s2, 1 + s3, s4 == 1⟩ : Ft))[j]? = some u → (v8.alloc (.cells #[.int .i64 s0, .int .i64 s1, .int .i64 s2, .int .i64 (1 + s3), .bool (s4 == 1)] 54)).cell? ((⟨v8.heap.size, 0, none⟩ : Addr).add j) = some u from new_cells v8 #[.int .i64 s0, .int .i64 s1, .int .i64 s2, .int .i64 (1 + s3), .bool (s4 == 1)] 54)
                  clear hb1
                  go_upto_region 21 with (first
                    | (refine wpList_load_row rfl 54 (.tmp 17) rfl bf rfl 54 #[.int .i64 s0, .int .i64 s1, .int .i64 s2, .int .i64 (1 + s3), .bool (s4 == 1)] (0, 0) _ HV.out Try.underlying54 rfl HIF.out ?_)
                    | (at_builtin; refine wpList_append_own_at _ rfl (.tmp 137) (.tmp 139) 27 rfl B 54 jf (.agg #[.int .i64 0, .int .i64 0, .int .i64 0, .int .i64 0, .bool false]) 5 40 Try.underlying27 HI.out.2.2.1.1 HI.out.2.2.1.2.1 HI.out.2.2.1.2.2.1 HI.out.2.2.1.2.2.2 rfl (by decide) (.slice ra4 fs.length rc4) fs.length (fs.flatMap ftC) rfl R9.out.1 _ 1 1 (ftC (⟨s0, s1, s2, 1 + s3, s4 == 1⟩ : Ft)) rfl rfl N9.out (c1_ft _) (by have := HFL.out; simp only [maxLen]; omega) (by have := HFL.out; omega) R9.out.2 ?_; intro v' w9 h1 h2 _ h3
                       obtain ⟨b9, e9, f9, rfl⟩ := own_val h1
                       have hB4 := (X9.out.sb HD.out).box.grown h2 ((X9.out.sb HD.out).box.not_row (by decide) (X9.out.sb HD.out).r4)
                       obtain ⟨VHG, hv⟩ := HD.out.add4 (⟨s0, s1, s2, 1 + s3, s4 == 1⟩ : Ft) P8.out B9.out h1 h2 h3
                       have HG := Lib.hid hv
                       have u4 : w9.cell? ⟨B, 4, none⟩ = some (.slice ra4 fs.length rc4) := (uc5 hB4).2.2.2.2.1
                       have u5 : w9.frozen? ⟨B, 4, none⟩ = false := (uc5 hB4).2.2.2.2.2
                       clear h1 h2 h3 hB4 hv))
                  clear u0 u4 u5 X9 B9 R9 N9 P8 HD
                  generalize w9.setCell ⟨B, 4, none⟩ (.slice b9 e9 f9) = v9 at *
                  clear w9
                  go_wp2
                  go_roundw
                  case rel =>
                    have hbn := HBn.out
                    have hlt := HLT.out
                    exact ⟨n + 1, p + 7, VHG, hs, fs ++ [⟨s0, s1, s2, 1 + s3, s4 == 1⟩], by go_num, ⟨by omega, by omega, by omega⟩, HG.out, HEE.out.1 HFL.out⟩
                  case measure =>
                    have hbn := HBn.out
                    have hlt := HLT.out
                    simp [intOf]; omega
                · have i3 : ¬ ((fs.length : Int) < 64) := by omega
                  have HFL := Lib.hid hfl
                  have HG := Lib.hid (HD.out.again P8.out)
                  clear hfl
                  go_wp2
                  go_roundw
                  case rel =>
                    have hbn := HBn.out
                    have hlt := HLT.out
                    exact ⟨n + 1, p + 7, _, hs, fs, by go_num, ⟨by omega, by omega, by omega⟩, HG.out, HEE.out.2 HFL.out⟩
                  case measure =>
                    have hbn := HBn.out
                    have hlt := HLT.out
                    simp [intOf]; omega
              · skip
                have HZ3 := Lib.hid (show ¬ num 1 4 (l.drop p) = 3 by rw [HZ.out]; exact hz3)
                have hz1 := HHz.out
                obtain ⟨na, hna⟩ : ∃ na, na = num 1 (x.nodes) (l.drop (p + 1)) := ⟨_, rfl⟩
                have nab := num_lt (w := 1) (l := l.drop (p + 1)) (show (0 : Int) < x.nodes by omega)
                rw [← hna] at nab
                have Hna := Lib.hid hna.symm
                clear hna
                obtain ⟨ti, hti⟩ : ∃ ti, ti = num 4 (x.horizon + 1) (l.drop (p + 2)) := ⟨_, rfl⟩
                have tib := num_lt (w := 4) (l := l.drop (p + 2)) (show (0 : Int) < x.horizon + 1 by omega)
                rw [← hti] at tib
                have Hti := Lib.hid hti.symm
                clear hti
                have hN2 : 0 < x.horizon + 1 := by omega
                go_upto_region 34 with fail
                have P2 := Lib.hid (P1.out.box 47 #[.int .i64 z, .int .i64 0, .int .i64 0, .slice none 0 0])
                obtain ⟨bh, hbh⟩ : ∃ bh, bh = v1.heap.size := ⟨_, rfl⟩
                rw [← hbh] at P2
                rw [← hbh]
                clear P1 hbh
                generalize v1.alloc (.cells #[.int .i64 z, .int .i64 0, .int .i64 0, .slice none 0 0] 47) = v2 at *
                clear v1
                go_upto_region 35 with (first
                  | (go_at_call 57; (with_reducible refine (P2.out.get 1 1 (x.nodes) na (p + 2) rfl Hna.out (by omega) (by decide) hN0 (by have := KL.out; omega) KL.out.2).mono ?_); rintro e u1 ⟨rfl, hx⟩; have PX := Lib.hid hx; have b0 : u1.cell? ⟨bh, 1, none⟩ = some (.int .i64 0) := hx.box0.cell 1; have b1 := hx.box0.frozen 1; clear hx))
                have P3 := Lib.hid (show RX wr (u1.setCell ⟨bh, 1, none⟩ (.int .i64 na)) [(bh, 47, (#[.int .i64 z, .int .i64 na, .int .i64 0, .slice none 0 0] : Array Value))] q A c l (p + 2) from PX.out.set 1 (.int .i64 na))
                clear b0 b1 PX P2 
                generalize u1.setCell ⟨bh, 1, none⟩ (.int .i64 na) = v3 at *
                clear u1
                have c15 := (pl16 (P3.out.plan HD.out)).2.2.2.2.2.2.2.2.2.2.2.2.2.2.2
                go_upto_region 36 with (first
                  | (go_at_call 57; (with_reducible refine (P3.out.get 4 4 (x.horizon + 1) ti (p + 6) rfl Hti.out (by omega) (by decide) hN2 (by have := KL.out; omega) KL.out.2).mono ?_); rintro e u1 ⟨rfl, hx⟩; have PX := Lib.hid hx; have b0 : u1.cell? ⟨bh, 2, none⟩ = some (.int .i64 0) := hx.box0.cell 2; have b1 := hx.box0.frozen 2; clear hx))
                have P4 := Lib.hid (show RX wr (u1.setCell ⟨bh, 2, none⟩ (.int .i64 ti)) [(bh, 47, (#[.int .i64 z, .int .i64 na, .int .i64 ti, .slice none 0 0] : Array Value))] q A c l (p + 6) from PX.out.set 2 (.int .i64 ti))
                clear b0 b1 PX P3 c15
                generalize u1.setCell ⟨bh, 2, none⟩ (.int .i64 ti) = v4 at *
                clear u1
                obtain ⟨ra0, rb0, rc0, ra1, rb1, rc1, ra2, rb2, rc2, ra3, rb3, rc3, ra4, rb4, rc4, rfl⟩ := HD.out.rows
                have hl3 := HD.out.lens.1
                dsimp only at hl3
                subst hl3
                by_cases hz2 : z = 2
                · skip
                  have HZ2 := Lib.hid (show num 1 4 (l.drop p) = 2 by rw [HZ.out, hz2])
                  have mb := num_lt (w := 1) (l := l.drop (p + 6)) (show (0 : Int) < 256 by decide)
                  obtain ⟨mm, hmm⟩ : ∃ mm : Nat, num 1 256 (l.drop (p + 6)) = (mm : Int) := ⟨(num 1 256 (l.drop (p + 6))).toNat, by omega⟩
                  have HMM := Lib.hid (show mm ≤ 255 by omega)
                  have HO := Lib.hid (one_hap2 (x := x) HZ2.out hmm)
                  obtain ⟨pl, hpl⟩ : ∃ pl, pl = (l.drop (p + 7)).take mm := ⟨_, rfl⟩
                  rw [Hna.out, Hti.out, ← hpl] at HO
                  have HM2 := Lib.hid hmm
                  have HPL := Lib.hid hpl.symm
                  clear mb hmm hpl
                  subst hz2
                  clear zb
                  go_upto_region 38 with (go_at_call 59; ((with_reducible refine (P4.out.pay mm pl (p + 7 + mm) HM2.out HPL.out (by omega) (by have := KL.out; omega) KL.out.2).mono ?_); rintro e u1 ⟨PP, zc, rfl, hx, hy⟩; have PX := Lib.hid hx; have HY := Lib.hid hy; have b0 : u1.cell? ⟨bh, 3, none⟩ = some (.slice none 0 0) := hx.box0.cell 3; have b1 := hx.box0.frozen 3; clear hx hy))
                  have P8 := Lib.hid (show RX wr (u1.setCell ⟨bh, 3, none⟩ (.slice PP pl.length zc)) [(bh, 47, (#[.int .i64 2, .int .i64 na, .int .i64 ti, .slice PP pl.length zc] : Array Value))] q A c l (p + 7 + mm) from PX.out.set 3 (.slice PP pl.length zc))
                  have HYY := Lib.hid (show PlAt ((u1.setCell ⟨bh, 3, none⟩ (.slice PP pl.length zc)).alloc (.cells #[.int .i64 2, .int .i64 na, .int .i64 ti, .slice PP pl.length zc] 47)) ⟨2, na, ti, PP, zc, pl⟩ ∧ ∀ ad, PP = some ad → wr.heap.size ≤ ad.block ∧ UB ((u1.setCell ⟨bh, 3, none⟩ (.slice PP pl.length zc)).alloc (.cells #[.int .i64 2, .int .i64 na, .int .i64 ti, .slice PP pl.length zc] 47)) ad.block from by
                    obtain ⟨k1, k2⟩ := pl_over (i := 3) (u := .slice PP pl.length zc) (o := .cells #[.int .i64 2, .int .i64 na, .int .i64 ti, .slice PP pl.length zc] 47) (HY.out ⟨2, na, ti, PP, zc, pl⟩ rfl rfl rfl) PX.out.box0
                    exact ⟨k1, fun ad e => ⟨by have := (k2 ad e).1; have := P4.out.kept.size; omega, (k2 ad e).2⟩⟩)
                  clear b0 b1 PX HY P4
                  generalize u1.setCell ⟨bh, 3, none⟩ (.slice PP pl.length zc) = v8 at *
                  clear u1
                  have HEE := Lib.hid (HE.out.hap HLT.out HO.out)
                  have w0 : v8.cell? ⟨B, 3, none⟩ = some (.slice ra3 hs.length rc3) := (uc5 ((P8.out.sb HD.out).box)).2.2.2.1.1
                  by_cases hfl : hs.length < 64
                  · skip
                    have i3 : (hs.length : Int) < 64 := by omega
                    have HFL := Lib.hid hfl
                    clear hfl
                    have HIF := Lib.hid (show (Try.prog.info? 47).map (·.size) = some (#[.int .i64 2, .int .i64 na, .int .i64 ti, .slice PP pl.length zc] : Array Value).size from by show _ = some 4; kernel_rfl)
                    go_upto_region 39 with fail
                    clear w0
                    have HV := Lib.hid P8.out.box0
                    skip --obtain ⟨ra0, rb0, rc0, ra1, rb1, rc1, ra2, rb2, rc2, ra3, rb3, rc3, ra4, rb4, rc4, rfl⟩ := HD.out.rows
                    have u0 : v8.cell? ⟨B, 3, none⟩ = some (.slice ra3 hs.length rc3) := (uc5 ((P8.out.sb HD.out).box)).2.2.2.1.1
                    have hb1 : Below v8.heap.size v8 (v8.alloc (.cells #[.int .i64 2, .int .i64 na, .int .i64 ti, .slice PP pl.length zc] 47)) := (Below.refl _ _).alloc (Nat.le_refl _) _
                    have X9 := Lib.hid (P8.out.later hb1)
                    have B9 := Lib.hid hb1
                    have R9 := Lib.hid (show (v8.alloc (.cells #[.int .i64 2, .int .i64 na, .int .i64 ti, .slice PP pl.length zc] 47)).ownsRow B 47 4 (.slice ra3 hs.length rc3) hs.length (hs.flatMap hapC) ∧ B ≤ (v8.alloc (.cells #[.int .i64 2, .int .i64 na, .int .i64 ti, .slice PP pl.length zc] 47)).heap.size from ⟨(X9.out.sb HD.out).r3, by have := (X9.out.sb HD.out).box.lt; omega⟩)
                    have N9 := Lib.hid (show ∀ j u, (hapC (⟨2, na, ti, PP, zc, pl⟩ : HpA))[j]? = some u → (v8.alloc (.cells #[.int .i64 2, .int .i64 na, .int .i64 ti, .slice PP pl.length zc] 47)).cell? ((⟨v8.heap.size, 0, none⟩ : Addr).add j) = some u from new_cells v8 #[.int .i64 2, .int .i64 na, .int .i64 ti, .slice PP pl.length zc] 47)
                    clear hb1
                    go_upto_region 21 with (first
                      | (refine wpList_load_row rfl 47 (.tmp 19) rfl bh rfl 47 #[.int .i64 2, .int .i64 na, .int .i64 ti, .slice PP pl.length zc] (0, 0) _ HV.out Try.underlying47 rfl HIF.out ?_)
                      | (at_builtin; refine wpList_append_own_at _ rfl (.tmp 164) (.tmp 166) 26 rfl B 47 jh (.agg #[.int .i64 0, .int .i64 0, .int .i64 0, .slice none 0 0]) 4 48 Try.underlying26 HI.out.2.2.2.1 HI.out.2.2.2.2.1 HI.out.2.2.2.2.2.1 HI.out.2.2.2.2.2.2 rfl (by decide) (.slice ra3 hs.length rc3) hs.length (hs.flatMap hapC) rfl R9.out.1 _ 1 1 (hapC (⟨2, na, ti, PP, zc, pl⟩ : HpA)) rfl rfl N9.out (c1_hap _) (by have := HFL.out; simp only [maxLen]; omega) (by have := HFL.out; omega) R9.out.2 ?_; intro v' w9 h1 h2 _ h3
                         obtain ⟨b9, e9, f9, rfl⟩ := own_val h1
                         have hB4 := (X9.out.sb HD.out).box.grown h2 ((X9.out.sb HD.out).box.not_row (by decide) (X9.out.sb HD.out).r3)
                         obtain ⟨VHG, hv⟩ := HD.out.add3 (⟨2, na, ti, PP, zc, pl⟩ : HpA) P8.out B9.out HYY.out h1 h2 h3
                         have HG := Lib.hid hv
                         have u4 : w9.cell? ⟨B, 3, none⟩ = some (.slice ra3 hs.length rc3) := (uc5 hB4).2.2.2.1.1
                         have u5 : w9.frozen? ⟨B, 3, none⟩ = false := (uc5 hB4).2.2.2.1.2
                         clear h1 h2 h3 hB4 hv))
                    clear u0 u4 u5 X9 B9 R9 N9 P8 HD
                    generalize w9.setCell ⟨B, 3, none⟩ (.slice b9 e9 f9) = v9 at *
                    clear w9
                    go_wp2
                    go_roundw
                    case rel =>
                      have hbn := HBn.out
                      have hlt := HLT.out
                      have hmm := HMM.out
                      refine ⟨n + 1, p + 7 + mm, VHG, hs ++ [(⟨2, na, ti, PP, zc, pl⟩ : HpA)], fs, by go_num, ⟨by omega, by omega, by omega⟩, HG.out, ?_⟩
                      rw [List.map_append]
                      exact HEE.out.1 (by rw [List.length_map]; exact HFL.out)
                    case measure =>
                      have hbn := HBn.out
                      have hlt := HLT.out
                      simp [intOf]; omega
                  · have i3 : ¬ ((hs.length : Int) < 64) := by omega
                    have HFL := Lib.hid hfl
                    have HG := Lib.hid (HD.out.again P8.out)
                    clear hfl
                    go_wp2
                    go_roundw
                    case rel =>
                      have hbn := HBn.out
                      have hlt := HLT.out
                      have hmm := HMM.out
                      exact ⟨n + 1, p + 7 + mm, _, hs, fs, by go_num, ⟨by omega, by omega, by omega⟩, HG.out, HEE.out.2 (by rw [List.length_map]; exact HFL.out)⟩
                    case measure =>
                      have hbn := HBn.out
                      have hlt := HLT.out
                      simp [intOf]; omega
                · skip
                  have HZ2 := Lib.hid (show ¬ num 1 4 (l.drop p) = 2 by rw [HZ.out]; exact hz2)
                  have HO := Lib.hid (one_hap0 (x := x) HZ3.out HZ2.out)
                  rw [HZ.out, Hna.out, Hti.out] at HO
                  have hz2' : (z == 2) = false := by simp [hz2]
                  have HMM := Lib.hid (show 0 ≤ 255 by omega)
                  have P8 := Lib.hid (show RX wr v4 [(bh, 47, (#[.int .i64 z, .int .i64 na, .int .i64 ti, .slice none 0 0] : Array Value))] q A c l (p + 6) from P4.out)
                  have HYY := Lib.hid (show PlAt (v4.alloc (.cells #[.int .i64 z, .int .i64 na, .int .i64 ti, .slice none 0 0] 47)) ⟨z, na, ti, none, 0, []⟩ ∧ ∀ ad, (none : Option Addr) = some ad → wr.heap.size ≤ ad.block ∧ UB (v4.alloc (.cells #[.int .i64 z, .int .i64 na, .int .i64 ti, .slice none 0 0] 47)) ad.block from ⟨⟨Src.nil _ _, Nat.le_refl _, Nat.zero_le _, fun _ => rfl⟩, fun ad e => by cases e⟩)
                  clear P4
                  go_upto_region 38 with fail
                  generalize v4 = v8 at *
                  clear zb
                  have HEE := Lib.hid (HE.out.hap HLT.out HO.out)
                  have w0 : v8.cell? ⟨B, 3, none⟩ = some (.slice ra3 hs.length rc3) := (uc5 ((P8.out.sb HD.out).box)).2.2.2.1.1
                  by_cases hfl : hs.length < 64
                  · skip
                    have i3 : (hs.length : Int) < 64 := by omega
                    have HFL := Lib.hid hfl
                    clear hfl
                    have HIF := Lib.hid (show (Try.prog.info? 47).map (·.size) = some (#[.int .i64 z, .int .i64 na, .int .i64 ti, .slice none 0 0] : Array Value).size from by show _ = some 4; kernel_rfl)
                    go_upto_region 39 with fail
                    clear w0
                    have HV := Lib.hid P8.out.box0
                    skip --obtain ⟨ra0, rb0, rc0, ra1, rb1, rc1, ra2, rb2, rc2, ra3, rb3, rc3, ra4, rb4, rc4, rfl⟩ := HD.out.rows
                    have u0 : v8.cell? ⟨B, 3, none⟩ = some (.slice ra3 hs.length rc3) := (uc5 ((P8.out.sb HD.out).box)).2.2.2.1.1
                    have hb1 : Below v8.heap.size v8 (v8.alloc (.cells #[.int .i64 z, .int .i64 na, .int .i64 ti, .slice none 0 0] 47)) := (Below.refl _ _).alloc (Nat.le_refl _) _
                    have X9 := Lib.hid (P8.out.later hb1)
                    have B9 := Lib.hid hb1
                    have R9 := Lib.hid (show (v8.alloc (.cells #[.int .i64 z, .int .i64 na, .int .i64 ti, .slice none 0 0] 47)).ownsRow B 47 4 (.slice ra3 hs.length rc3) hs.length (hs.flatMap hapC) ∧ B ≤ (v8.alloc (.cells #[.int .i64 z, .int .i64 na, .int .i64 ti, .slice none 0 0] 47)).heap.size from ⟨(X9.out.sb HD.out).r3, by have := (X9.out.sb HD.out).box.lt; omega⟩)
                    have N9 := Lib.hid (show ∀ j u, (hapC (⟨z, na, ti, none, 0, []⟩ : HpA))[j]? = some u → (v8.alloc (.cells #[.int .i64 z, .int .i64 na, .int .i64 ti, .slice none 0 0] 47)).cell? ((⟨v8.heap.size, 0, none⟩ : Addr).add j) = some u from new_cells v8 #[.int .i64 z, .int .i64 na, .int .i64 ti, .slice none 0 0] 47)
                    clear hb1
                    go_upto_region 21 with (first
                      | (refine wpList_load_row rfl 47 (.tmp 19) rfl bh rfl 47 #[.int .i64 z, .int .i64 na, .int .i64 ti, .slice none 0 0] (0, 0) _ HV.out Try.underlying47 rfl HIF.out ?_)
                      | (at_builtin; refine wpList_append_own_at _ rfl (.tmp 164) (.tmp 166) 26 rfl B 47 jh (.agg #[.int .i64 0, .int .i64 0, .int .i64 0, .slice none 0 0]) 4 48 Try.underlying26 HI.out.2.2.2.1 HI.out.2.2.2.2.1 HI.out.2.2.2.2.2.1 HI.out.2.2.2.2.2.2 rfl (by decide) (.slice ra3 hs.length rc3) hs.length (hs.flatMap hapC) rfl R9.out.1 _ 1 1 (hapC (⟨z, na, ti, none, 0, []⟩ : HpA)) rfl rfl N9.out (c1_hap _) (by have := HFL.out; simp only [maxLen]; omega) (by have := HFL.out; omega) R9.out.2 ?_; intro v' w9 h1 h2 _ h3
                         obtain ⟨b9, e9, f9, rfl⟩ := own_val h1
                         have hB4 := (X9.out.sb HD.out).box.grown h2 ((X9.out.sb HD.out).box.not_row (by decide) (X9.out.sb HD.out).r3)
                         obtain ⟨VHG, hv⟩ := HD.out.add3 (⟨z, na, ti, none, 0, []⟩ : HpA) P8.out B9.out HYY.out h1 h2 h3
                         have HG := Lib.hid hv
                         have u4 : w9.cell? ⟨B, 3, none⟩ = some (.slice ra3 hs.length rc3) := (uc5 hB4).2.2.2.1.1
                         have u5 : w9.frozen? ⟨B, 3, none⟩ = false := (uc5 hB4).2.2.2.1.2
                         clear h1 h2 h3 hB4 hv))
                    clear u0 u4 u5 X9 B9 R9 N9 P8 HD
                    generalize w9.setCell ⟨B, 3, none⟩ (.slice b9 e9 f9) = v9 at *
                    clear w9
                    go_wp2
                    go_roundw
                    case rel =>
                      have hbn := HBn.out
                      have hlt := HLT.out
                      have hmm := HMM.out
                      refine ⟨n + 1, p + 6, VHG, hs ++ [(⟨z, na, ti, none, 0, []⟩ : HpA)], fs, by go_num, ⟨by omega, by omega, by omega⟩, HG.out, ?_⟩
                      rw [List.map_append]
                      exact HEE.out.1 (by rw [List.length_map]; exact HFL.out)
                    case measure =>
                      have hbn := HBn.out
                      have hlt := HLT.out
                      simp [intOf]; omega
                  · have i3 : ¬ ((hs.length : Int) < 64) := by omega
                    have HFL := Lib.hid hfl
                    have HG := Lib.hid (HD.out.again P8.out)
                    clear hfl
                    go_wp2
                    go_roundw
                    case rel =>
                      have hbn := HBn.out
                      have hlt := HLT.out
                      have hmm := HMM.out
                      exact ⟨n + 1, p + 6, _, hs, fs, by go_num, ⟨by omega, by omega, by omega⟩, HG.out, HEE.out.2 (by rw [List.length_map]; exact HFL.out)⟩
                    case measure =>
                      have hbn := HBn.out
                      have hlt := HLT.out
                      simp [intOf]; omega
            · have HF := Lib.hid (HE.out.fin hlt)
              have i1 : ¬ ((p : Int) < (l.length : Int)) := by omega
              have hn5 : (n : Int) ≤ 65537 := by omega
              obtain ⟨ra0, rb0, rc0, ra1, rb1, rc1, ra2, rb2, rc2, ra3, rb3, rc3, ra4, rb4, rc4, rfl⟩ := HD.out.rows
              have hinfo : (Try.prog.info? 29).map (·.size) = some (#[Value.slice ra0 rb0 rc0, .slice ra1 rb1 rc1, .slice ra2 rb2 rc2, .slice ra3 rb3 rc3, .slice ra4 rb4 rc4]).size := by show _ = some 5; kernel_rfl
              have hone : (#[Value.slice ra0 rb0 rc0, .slice ra1 rb1 rc1, .slice ra2 rb2 rc2, .slice ra3 rb3 rc3, .slice ra4 rb4 rc4]).all (·.oneCell') = true := by simp [Value.oneCell']
              have HFIN := Lib.hid (HD.out.fin (#[Value.slice ra0 rb0 rc0, .slice ra1 rb1 rc1, .slice ra2 rb2 rc2, .slice ra3 rb3 rc3, .slice ra4 rb4 rc4]))
              have HZr := Lib.hid HD.out.res
              have HIN := Lib.hid hinfo
              have HONE := Lib.hid hone
              have HBO := Lib.hid (show Whole wr B 29 #[.slice ra0 rb0 rc0, .slice ra1 rb1 rc1, .slice ra2 rb2 rc2, .slice ra3 rb3 rc3, .slice ra4 rb4 rc4] from HD.out.sb.box)
              have HSC := Lib.hid (show (⟨rs, os, ds, hs.map HpA.hp, fs⟩ : Sc) = ans from by
                have e : restD x l = l.drop p0 := by unfold restD; rw [HP0.out.1]
                rw [HAN.out]
                unfold decS
                rw [e, ← HF.out.1, ← HF.out.2, HK.out.2, HP0.out.2.1, ← HRD.out.1, ← HRD.out.2.1, ← HRD.out.2.2])
              clear hinfo hone hlt hb1 hb2 hb3 HE HF
              by_cases hnl : (n : Int) ≤ (l.length : Int)
              all_goals
                go_wp2_with (first
                  | (refine wpList_load_row rfl 29 (.tmp 7) rfl B rfl 29 #[.slice ra0 rb0 rc0, .slice ra1 rb1 rc1, .slice ra2 rb2 rc2, .slice ra3 rb3 rc3, .slice ra4 rb4 rc4] (0, 0) _ HBO.out Try.underlying29 rfl HIN.out ?_)
                  | (refine wpList_store_row rfl 29 (.tmp 4) (.tmp 169) rfl (w.heap.size + 1) #[.slice ra0 rb0 rc0, .slice ra1 rb1 rc1, .slice ra2 rb2 rc2, .slice ra3 rb3 rc3, .slice ra4 rb4 rc4] rfl rfl 29 #[.slice none 0 0, .slice none 0 0, .slice none 0 0, .slice none 0 0, .slice none 0 0] HZr.out HIN.out rfl HONE.out ?_))
                refine bodyPost_ret (v := .tuple #[.agg #[.slice ra0 rb0 rc0, .slice ra1 rb1 rc1, .slice ra2 rb2 rc2, .slice ra3 rb3 rc3, .slice ra4 rb4 rc4], .int .i64 0]) (results_cell_tmp rfl _ _ (w.heap.size + 1) 29 #[.slice ra0 rb0 rc0, .slice ra1 rb1 rc1, .slice ra2 rb2 rc2, .slice ra3 rb3 rc3, .slice ra4 rb4 rc4] (0, 0) _ rfl rfl (r_row_whole HZr.out) Try.underlying29 rfl HIN.out) rfl ?_
                rw [HQ.out]
                exact ⟨_, ⟨rs, os, ds, hs, fs⟩, B, rfl, HFIN.out.1, HSC.out, HFIN.out.2⟩
end Go.Proofs.Ytljcaigaofalbaa
