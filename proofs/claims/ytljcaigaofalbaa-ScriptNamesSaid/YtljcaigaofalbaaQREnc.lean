/- The document's own put of a script, by a contract. No condition. | What the document's Encode goes by: a row of bytes of its own that grows, beside what is read. No condition. | The document's Encode, by a contract. No condition. -/
import Derived.Test.YtljcaigaofalbaaQZ
import Derived.Test.YtljcaigaofalbaaQE
import Derived.Test.YtljcaigaofalbaaQHeadL
import Derived.Test.YtljcaigaofalbaaQL
namespace Go.Proofs.Ytljcaigaofalbaa
open Go.RowKit Go.Shelf

set_option maxRecDepth 100000 in
set_option maxHeartbeats 1000000 in
theorem refput_any (wd : Nat) (v : Int) (hw : isW (wd : Int) = true) (h4 : wd ≤ 4) (q : Int) (hq : (2 : Int) ^ (8 * wd) = q) (h0 : 0 ≤ v) (h1' : v < q) (w : World) :
    Calls Try.prog 51 #[.int .i64 (wd : Int), .int .i64 v] w fun e w' => ∃ (A : Option Addr) (c : Nat), e = .returned (.slice A wd c) ∧ Src w' A wd (be wd v) ∧ Below w.heap.size w w' := by
  have h1 : v < 2 ^ (8 * wd) := by rw [hq]; exact h1'
  clear hq h1'
  obtain ⟨x, hx⟩ : ∃ x : Nat, (x : Int) = v := ⟨v.toNat, Int.toNat_of_nonneg h0⟩
  have hx1 : x < 2 ^ (8 * wd) := by
    have : ((x : Nat) : Int) < ((2 ^ (8 * wd) : Nat) : Int) := by rw [hx]; simpa using h1
    omega
  have hx2 : x < 4294967296 := Nat.lt_of_lt_of_le hx1 (by
    have : 2 ^ (8 * wd) ≤ 2 ^ 32 := Nat.pow_le_pow_right (by decide) (by omega)
    simpa using this)
  subst hx
  have hbe : be wd (x : Int) = beBytes wd x := by unfold be; simp
  rw [hbe]
  have HP := Lib.hid (fun W => rput_yes wd x (by omega) hw hx1 W)
  clear hbe h1 hx1 hw
  go_enter Try.func51, Try.ntmps51
  go_wp2_with (go_at_call 86; refine (HP.out _).mono ?_; rintro e w1 ⟨v, rfl, ho, hb⟩; obtain ⟨A, c, rfl, _, hsrc, _, _⟩ := Src.of_own ho; have HB := Lib.hid (And.intro hsrc hb); clear ho hsrc hb)
  go_ret
  exact ⟨A, c, rfl, HB.out.1, HB.out.2⟩
end Go.Proofs.Ytljcaigaofalbaa

namespace Go.Proofs.Ytljcaigaofalbaa
open Go.RowKit Go.Shelf

/-- The bytes so far, in a row of its own; the boxes whole. -/
structure RE (w W : World) (HL : List (Nat × TypeId × Array Value)) (v : Value) (l : List UInt8) : Prop where
  row : W.ownsRow w.heap.size 5 1 v l.length (bv l)
  held : Held w HL W
section
variable {w W W' : World} {HL : List (Nat × TypeId × Array Value)} {v v' : Value} {l b : List UInt8} {m : Nat}
theorem RE.later (h : RE w W HL v l) (hb : Below W.heap.size W W') : RE w W' HL v l := ⟨ownsRow_kept h.row (Kept.of_below hb Empty) (fun _ _ h => h), held_later hb h.held⟩
theorem RE.drew (h : RE w W HL v l) : RE w W.drew HL v l := h.later (Below.refl _ _).drew
theorem RE.app (h : RE w W HL v l) (hT : ∀ y ∈ HL, y.2.1 ≠ 5) (h1 : W'.ownsRow w.heap.size 5 1 v' (l.length + m) (bv l ++ bv b)) (hm : b.length = m) (h2 : W.grownBy W' v.ownBlock) : RE w W' HL v' (l ++ b) := by
  refine ⟨by rw [List.length_append, hm, bv_append]; exact h1, h.held.1.grown h2 h.held.1.size (fun k hk => (own_typed h.row hk).1), fun y hy => ?_⟩
  exact (h.held.2 y hy).grown h2 ((h.held.2 y hy).not_row (hT y hy) h.row)
end
theorem RE.more {w W : World} {HL : List (Nat × TypeId × Array Value)} {v : Value} {l : List UInt8} (h : RE w W HL v l) {g : Nat} {t : TypeId} {cs : Array Value} (hW : Whole W g t cs) : RE w W ((g, t, cs) :: HL) v l := ⟨h.row, h.held.1, fun y hy => by
  rcases List.mem_cons.1 hy with rfl | hy
  · exact hW
  · exact h.held.2 y hy⟩
theorem RE.fewer {w W : World} {HL : List (Nat × TypeId × Array Value)} {v : Value} {l : List UInt8} {y : Nat × TypeId × Array Value} (h : RE w W (y :: HL) v l) : RE w W HL v l := ⟨h.row, h.held.1, fun z hz => h.held.2 z (List.mem_cons_of_mem _ hz)⟩
theorem src_two {W : World} {g : Nat} {a b : UInt8} (h : Whole W g 5 #[.int .u8 (a.toNat : Int), .int .u8 (b.toNat : Int)]) : Src W (some ⟨g, 0, none⟩) 2 [a, b] := by
  refine ⟨rfl, fun _ => ⟨g, 0, rfl, fun i hi => ?_⟩⟩
  have hi : i < 2 := hi
  rcases (show i = 0 ∨ i = 1 by omega) with rfl | rfl
  · exact h.cell 0
  · exact h.cell 1
theorem src_one {W : World} {g : Nat} {a : UInt8} (h : Whole W g 5 #[.int .u8 (a.toNat : Int)]) : Src W (some ⟨g, 0, none⟩) 1 [a] := by
  refine ⟨rfl, fun _ => ⟨g, 0, rfl, fun i hi => ?_⟩⟩
  have hi : i < 1 := hi
  obtain rfl : i = 0 := by omega
  exact h.cell 0
theorem src_three {W : World} {g : Nat} {a b c : UInt8} (h : Whole W g 5 #[.int .u8 (a.toNat : Int), .int .u8 (b.toNat : Int), .int .u8 (c.toNat : Int)]) : Src W (some ⟨g, 0, none⟩) 3 [a, b, c] := by
  refine ⟨rfl, fun _ => ⟨g, 0, rfl, fun i hi => ?_⟩⟩
  have hi : i < 3 := hi
  rcases (show i = 0 ∨ i = 1 ∨ i = 2 by omega) with rfl | rfl | rfl
  · exact h.cell 0
  · exact h.cell 1
  · exact h.cell 2
theorem u8_wrap {n : Int} (h0 : 0 ≤ n) (h1 : n ≤ 255) : IntKind.u8.wrap n = n := by
  simp [IntKind.wrap, IntKind.bits, IntKind.signed]
  omega
theorem be1 {k : Int} (h0 : 0 ≤ k) (h1 : k ≤ 255) : ∃ c : UInt8, be 1 k = [c] ∧ (c.toNat : Int) = k := by
  refine ⟨UInt8.ofNat k.toNat, by simp [be, beBytes, List.range_succ], ?_⟩
  have : (UInt8.ofNat k.toNat).toNat = k.toNat := by rw [UInt8.toNat_ofNat']; exact Nat.mod_eq_of_lt (by omega)
  rw [this]
  omega
end Go.Proofs.Ytljcaigaofalbaa

namespace Go.Proofs.Ytljcaigaofalbaa
open Go.RowKit Go.Shelf

set_option maxRecDepth 100000 in
set_option maxHeartbeats 8000000 in
theorem refEncode_yes (x : Pl) (V : ScV) (s : ScA) (w : World) (h : ScAt w V s) (hm : mayS x s.sc = true) :
    Calls Try.prog 14 #[.agg x.cells, .agg V.cells] w fun e w' => ∃ v, e = .returned (.tuple #[v, .int .i64 0]) ∧ w'.ownsRow w.heap.size 5 1 v (encS x s.sc).length (bv (encS x s.sc)) ∧ Below w.heap.size w w' := by
  have hm2 : failsL x 11 = 0 ∧ okS x s.sc = true := by
    unfold mayS at hm
    rw [Bool.and_eq_true, decide_eq_true_eq] at hm
    exact hm
  have hP := okp_of hm2.1
  obtain ⟨y0, y1, y2, y3, y4, y5, y6, y7, y8, y9⟩ := okS_iff.1 hm2.2
  have HOK := Lib.hid (And.intro y5 (And.intro y6 (And.intro y7 (And.intro y8 y9))))
  have HDC := Lib.hid (fun W => (show Calls Try.prog 52 #[.agg #[.int .i64 x.nodes, .int .i64 x.kk, .int .i64 x.slot, .int .i64 x.sendOff, .int .i64 x.window, .int .i64 x.air, .int .i64 x.dmin, .int .i64 x.dmax, .int .i64 x.rho, .int .i64 x.pi, .int .i64 x.cap, .int .i64 x.delta, .int .i64 x.queue, .int .i64 x.burst, .int .i64 x.payload, .int .i64 x.horizon]] W fun e w' => e = .returned (.int .i64 (drL x)) ∧ Below W.heap.size W w' from refDrift_any x W hP))
  have n1 := hP.n1
  have n2 := hP.n2
  have HDr := Lib.hid hP.drift
  have HRd := Lib.hid (show 16 ≤ lateL x ∧ lateL x ≤ 67108864 by have := hP.round; unfold lateL; omega)
  have HDd := Lib.hid (show 0 ≤ x.dmax - x.dmin ∧ x.dmax - x.dmin ≤ 1048576 from by have := hP.d1; have := hP.d2; have := hP.d3; omega)
  have HHz := Lib.hid (show 160 ≤ x.horizon ∧ x.horizon ≤ 2147483648 from ⟨hP.hor, hP.h2⟩)
  have hN16 : s.rates.length ≤ 16 := by have : (s.rates.length : Int) = x.nodes := y0; omega
  have hpl : ∀ y ∈ s.sc.haps, y.pl.length ≤ 255 := fun y hy => (okHap_iff.1 (y8 y hy)).2.2.2.2.2.2.1
  have HA_ := Lib.hid (fun k => encA_len (x := x) (s := s.sc) hN16 k)
  have HB_ := Lib.hid (fun k => encB_len (x := x) (s := s.sc) hN16 y2 k)
  have HC_ := Lib.hid (fun k => encC_len (x := x) (s := s.sc) hN16 y2 y3 hpl k)
  have HF_ := Lib.hid (fun k => encF_len (x := x) (s := s.sc) hN16 y2 y3 hpl y4 k)
  have l0 : s.rates.length = V.r.n := h.r.len
  have l1 : s.on.length = V.o.n := h.o.len
  have l2 : s.delays.length = V.d.n := h.d.len
  have l3 : s.haps.length = V.h.n := h.h.row.len
  have l4 : s.faults.length = V.f.n := h.f.len
  have y0 : (s.rates.length : Int) = x.nodes := y0
  have y1 : (s.on.length : Int) = x.nodes := y1
  have y2 : s.delays.length ≤ 256 := y2
  have y3 : s.haps.length ≤ 64 := by simpa [ScA.sc] using y3
  have y4 : s.faults.length ≤ 64 := y4
  have hX := held_new (held_new (held_start w) 23 x.cells) 29 V.cells
  simp only [List.nil_append, List.cons_append, World.size_alloc] at hX
  have HX := Lib.hid hX
  obtain ⟨HL, hHL⟩ : ∃ HL, HL = [(w.heap.size, 23, x.cells), (w.heap.size + 1, 29, V.cells)] := ⟨_, rfl⟩
  have mp : (w.heap.size, 23, x.cells) ∈ HL := by rw [hHL]; simp
  have ms : (w.heap.size + 1, 29, V.cells) ∈ HL := by rw [hHL]; simp
  have hT : ∀ y ∈ HL, y.2.1 ≠ 5 := fun y hy => by
    rw [hHL] at hy
    simp only [List.mem_cons, List.not_mem_nil, or_false] at hy
    rcases hy with rfl | rfl
    · exact (by decide : 23 ≠ 5)
    · exact (by decide : 29 ≠ 5)
  rw [← hHL] at hX
  have HC := Lib.hid (fun W (hW : ScAt W V s) => refCheckS_any x V s W hW)
  rw [hm] at HC
  unfold errS at HC
  rw [if_pos rfl] at HC
  have HS := Lib.hid x.cellsL
  have HV := Lib.hid V.info
  have HSc := Lib.hid h
  have HT := Lib.hid hT
  have HM := Lib.hid (And.intro mp ms)
  obtain ⟨ans, hans⟩ : ∃ ans, ans = encS x s.sc := ⟨_, rfl⟩
  rw [← hans]
  have HAN := Lib.hid hans
  obtain ⟨i0, hi0, hi1, hi2, hi3⟩ := info_parts u8_info
  have HI := Lib.hid (And.intro hi0 (And.intro hi1 (And.intro hi2 hi3)))
  have HX0 := Lib.hid hX
  clear hX hHL hm hm2 hP y5 y6 y7 y8 y9 hpl hans hT mp ms h hi0 hi1 hi2 hi3
  go_enter Try.func14, Try.ntmps14
  go_upto_region 3 with (first
    | (refine wpList_load_row rfl 23 _ rfl w.heap.size rfl 23 x.cells (0, 0) _ (HX0.out.2 _ HM.out.1) Try.underlying23 rfl HS.out.plan ?_)
    | (refine wpList_load_row rfl 29 _ rfl (w.heap.size + 1) rfl 29 _ (0, 0) _ (HX0.out.2 _ HM.out.2) Try.underlying29 rfl HV.out ?_)
    | (go_at_call 19; refine (HC.out _ (HSc.out.later HX0.out.1)).mono ?_; rintro e w1 ⟨rfl, hb1⟩; have HX1 := Lib.hid (held_later hb1 HX0.out); clear hb1))
  have E0 := Lib.hid (show RE w w1 HL (.slice none 0 0) [] from ⟨World.ownsRow_nil _ _ _ _, HX1.out⟩)
  clear HX0 HC HX
  go_wp2
  go_loopw [6, 7] (fun vv iv wr => ∃ k : Nat, (k : Int) ≤ x.nodes ∧ iv = .int .i64 (k : Int) ∧ RE w wr HL vv (encA x s.sc k)) (fun _ iv _ => x.nodes.toNat - (intOf iv).toNat)
  case atStart => exact ⟨0, by omega, rfl, E0.out⟩
  case round =>
    obtain ⟨k, hk, rfl, hE⟩ := hrel
    have E1 := Lib.hid hE
    have q0 := (hE.held.2 _ HM.out.1).cell 0
    simp [Pl.cells] at q0
    clear hE E0 HX1
    by_cases hlt : (k : Int) < x.nodes
    · obtain ⟨g0, o0, hA0, hR0⟩ := HSc.out.r.get (i := k) (show k < V.r.n by omega)
      obtain ⟨g1, o1, hA1, hR1⟩ := HSc.out.o.get (i := k) (show k < V.o.n by omega)
      have ok0 : okRate x (s.rates.getD k default) = true := HOK.out.1 _ (getD_mem (xs := s.rates) (j := k) (by omega))
      have ok1 : okOn x (s.on.getD k default) = true := HOK.out.2.1 _ (getD_mem (xs := s.on) (j := k) (by omega))
      have HST := Lib.hid (encA_step x s.sc (k := k) (show k < s.rates.length by omega) (show k < s.on.length by omega))
      obtain ⟨y, hy⟩ : ∃ y, y = s.rates.getD k default := ⟨_, rfl⟩
      obtain ⟨z, hz⟩ : ∃ z, z = s.on.getD k default := ⟨_, rfl⟩
      rw [← hy] at hR0 ok0
      rw [← hz] at hR1 ok1
      obtain ⟨num, den⟩ := y
      rw [okRate_iff] at ok0
      rw [okOn_iff] at ok1
      dsimp only at ok0
      have HY := Lib.hid (And.intro hy hz)
      have dr := HDr.out
      have rd := HRd.out
      have R0 := Lib.hid (rateC_cells hR0).1
      have R1 := Lib.hid (numC_cell hR1)
      have f1 : (0 : Int) ≤ (k : Int) := by omega
      have f2 : (k : Int) < (V.r.n : Int) := by omega
      have f3 : (k : Int) < (V.o.n : Int) := by omega
      obtain ⟨u, hu⟩ : ∃ u, u = num - 65536 + drL x := ⟨_, rfl⟩
      have e1 : wrap64 (num - 65536) = num - 65536 := by unfold wrap64; omega
      have e2 : wrap64 (num - 65536 + drL x) = u := by unfold wrap64; omega
      have e3 : IntKind.i64.wrap (num - 65536) = num - 65536 := by rw [IntKind.wrap_i64]; omega
      have e4 : IntKind.i64.wrap (num - 65536 + drL x) = u := by rw [IntKind.wrap_i64]; omega
      have HU := Lib.hid hu
      have HPT := Lib.hid (fun W => (show Calls Try.prog 51 #[.int .i64 4, .int .i64 u] W fun e w' => ∃ (A : Option Addr) (c : Nat), e = .returned (.slice A 4 c) ∧ Src w' A 4 (be 4 u) ∧ Below W.heap.size W w' from refput_any 4 u (by decide) (by decide) 4294967296 (by decide) (by omega) (by omega) W))
      have KS := Lib.hid (fun W v l (h : RE w W HL v l) => (show (W.cell? ⟨w.heap.size, 0, none⟩ = some (.int .i64 x.nodes) ∧ W.cell? ⟨w.heap.size, 1, none⟩ = some (.int .i64 x.kk) ∧ W.cell? ⟨w.heap.size, 2, none⟩ = some (.int .i64 x.slot) ∧ W.cell? ⟨w.heap.size, 3, none⟩ = some (.int .i64 x.sendOff) ∧ W.cell? ⟨w.heap.size, 4, none⟩ = some (.int .i64 x.window) ∧ W.cell? ⟨w.heap.size, 5, none⟩ = some (.int .i64 x.air) ∧ W.cell? ⟨w.heap.size, 6, none⟩ = some (.int .i64 x.dmin) ∧ W.cell? ⟨w.heap.size, 7, none⟩ = some (.int .i64 x.dmax) ∧ W.cell? ⟨w.heap.size, 8, none⟩ = some (.int .i64 x.rho) ∧ W.cell? ⟨w.heap.size, 9, none⟩ = some (.int .i64 x.pi) ∧ W.cell? ⟨w.heap.size, 10, none⟩ = some (.int .i64 x.cap) ∧ W.cell? ⟨w.heap.size, 11, none⟩ = some (.int .i64 x.delta) ∧ W.cell? ⟨w.heap.size, 12, none⟩ = some (.int .i64 x.queue) ∧ W.cell? ⟨w.heap.size, 13, none⟩ = some (.int .i64 x.burst) ∧ W.cell? ⟨w.heap.size, 14, none⟩ = some (.int .i64 x.payload) ∧ W.cell? ⟨w.heap.size, 15, none⟩ = some (.int .i64 x.horizon)) ∧ W.cell? ⟨w.heap.size + 1, 0, none⟩ = some (.slice (some ⟨g0, o0, none⟩) V.r.n V.r.c) ∧ W.cell? ⟨g0, o0 + k * 2, none⟩ = some (.int .i64 num) from by
        refine ⟨pl16 (h.held.2 _ HM.out.1), ?_, k_cell h.held.1 R0.out⟩
        have := (sc_cells (h.held.2 _ HM.out.2)).1
        unfold Sl.v at this
        rw [hA0] at this
        exact this))
      have HA0 := Lib.hid (And.intro hA0 hA1)
      obtain ⟨p, q, zz, rfl⟩ := own_val E1.out.row
      have P0 := Lib.hid E1.out.drew
      have HLN := Lib.hid (HA_.out k)
      clear hy hz hR0 hR1 hA0 hA1 hu
      go_upto_region 7 with fail
      clear q0
      go_region_held3 (fun W => (W.cell? ⟨w.heap.size, 0, none⟩ = some (.int .i64 x.nodes) ∧ W.cell? ⟨w.heap.size, 1, none⟩ = some (.int .i64 x.kk) ∧ W.cell? ⟨w.heap.size, 2, none⟩ = some (.int .i64 x.slot) ∧ W.cell? ⟨w.heap.size, 3, none⟩ = some (.int .i64 x.sendOff) ∧ W.cell? ⟨w.heap.size, 4, none⟩ = some (.int .i64 x.window) ∧ W.cell? ⟨w.heap.size, 5, none⟩ = some (.int .i64 x.air) ∧ W.cell? ⟨w.heap.size, 6, none⟩ = some (.int .i64 x.dmin) ∧ W.cell? ⟨w.heap.size, 7, none⟩ = some (.int .i64 x.dmax) ∧ W.cell? ⟨w.heap.size, 8, none⟩ = some (.int .i64 x.rho) ∧ W.cell? ⟨w.heap.size, 9, none⟩ = some (.int .i64 x.pi) ∧ W.cell? ⟨w.heap.size, 10, none⟩ = some (.int .i64 x.cap) ∧ W.cell? ⟨w.heap.size, 11, none⟩ = some (.int .i64 x.delta) ∧ W.cell? ⟨w.heap.size, 12, none⟩ = some (.int .i64 x.queue) ∧ W.cell? ⟨w.heap.size, 13, none⟩ = some (.int .i64 x.burst) ∧ W.cell? ⟨w.heap.size, 14, none⟩ = some (.int .i64 x.payload) ∧ W.cell? ⟨w.heap.size, 15, none⟩ = some (.int .i64 x.horizon)) ∧ W.cell? ⟨w.heap.size + 1, 0, none⟩ = some (.slice (some ⟨g0, o0, none⟩) V.r.n V.r.c) ∧ W.cell? ⟨g0, o0 + k * 2, none⟩ = some (.int .i64 num)) (first | with_reducible exact KS.out _ _ _ P3.out | with_reducible exact KS.out _ _ _ P2.out | with_reducible exact KS.out _ _ _ P1.out | with_reducible exact KS.out _ _ _ P0.out) (first
        | (go_at_call 52; with_reducible refine (HDC.out _).mono ?_; rintro e v1 ⟨rfl, hb⟩; have P1 := Lib.hid (P0.out.later hb); clear hb)
        | (go_at_call 51; with_reducible refine (HPT.out _).mono ?_; rintro e v2 ⟨Ab, cb, rfl, hsb, hb⟩; have P2 := Lib.hid (P1.out.later hb); have HSB := Lib.hid hsb; clear hb hsb)
        | (refine step_append_src rfl (.tmp 24) (.tmp 35) 30 rfl w.heap.size 5 i0 Try.underlying30 HI.out.1 HI.out.2.1 HI.out.2.2.1 HI.out.2.2.2 (.slice p q zz) (encA x s.sc k).length (bv (encA x s.sc k)) rfl P2.out.row Ab 4 cb (be 4 u) rfl HSB.out (by have := HLN.out; omega) P2.out.held.1.size ?_; intro v' w' h1 h2 _; have P3 := Lib.hid (P2.out.app HT.out h1 (be_length 4 u) h2); clear h1 h2))
      obtain ⟨p3, q3, z3, rfl⟩ := own_val P3.out.row
      have b1 := (sc_cells (P3.out.held.2 _ HM.out.2)).2.1
      unfold Sl.v at b1
      rw [HA0.out.2] at b1
      have r1 := k_cell P3.out.held.1 R1.out
      have e5 : wrap64 (z + 1) = z + 1 := by unfold wrap64; omega
      have HPT2 := Lib.hid (fun W => (show Calls Try.prog 51 #[.int .i64 4, .int .i64 (z + 1)] W fun e w' => ∃ (A : Option Addr) (c : Nat), e = .returned (.slice A 4 c) ∧ Src w' A 4 (be 4 (z + 1)) ∧ Below W.heap.size W w' from refput_any 4 (z + 1) (by decide) (by decide) 4294967296 (by decide) (by omega) (by omega) W))
      clear HPT KS P0 P1 P2 HSB e1 e2 e3 e4
      go_wp2_with (first
        | (go_at_call 51; refine (HPT2.out _).mono ?_; rintro e v5 ⟨Ac, cc, rfl, hsb, hb⟩; have P5 := Lib.hid (P3.out.later hb); have HSB2 := Lib.hid hsb; clear hb hsb)
        | (at_builtin; refine wpList_append_src _ rfl (.tmp 37) (.tmp 44) 30 rfl w.heap.size 5 i0 Try.underlying30 HI.out.1 HI.out.2.1 HI.out.2.2.1 HI.out.2.2.2 (.slice p3 q3 z3) (encA x s.sc k ++ be 4 u).length (bv (encA x s.sc k ++ be 4 u)) rfl P5.out.row Ac 4 cc (be 4 (z + 1)) rfl HSB2.out (by have := HLN.out; rw [List.length_append, be_length]; omega) P5.out.held.1.size ?_; intro v9 w9 h1 h2 _; have P6 := Lib.hid (P5.out.app HT.out h1 (be_length 4 (z + 1)) h2); clear h1 h2))
      go_roundw
      case rel =>
        refine ⟨k + 1, by omega, by go_num, ?_⟩
        have e := HST.out
        rw [show s.sc.rates.getD k default = (num, den) from HY.out.1.symm, show s.sc.on.getD k default = z from HY.out.2.symm, show (num, den).1 - (65536 - drL x) = u from by have := HU.out; dsimp only; omega, show z - -1 = z + 1 from by omega] at e
        rw [e]
        exact P6.out
      case measure => simp [intOf]; omega
    · have hN : k = s.rates.length := by omega
      have hA := encA_all x s.sc (show s.rates.length = s.on.length by omega)
      have hE := E1.out
      rw [hN, show encA x s.sc s.rates.length = headE x s.sc from hA] at hE
      have HLN := Lib.hid (headE_len (x := x) (s := s.sc) hN16)
      obtain ⟨p, q, zz, rfl⟩ := own_val hE.row
      have E2 := Lib.hid hE
      have b2 := (sc_cells (hE.held.2 _ HM.out.2)).2.2.1
      unfold Sl.v at b2
      have HPT := Lib.hid (fun W => (show Calls Try.prog 51 #[.int .i64 2, .int .i64 (V.d.n : Int)] W fun e w' => ∃ (A : Option Addr) (c : Nat), e = .returned (.slice A 2 c) ∧ Src w' A 2 (be 2 (V.d.n : Int)) ∧ Below W.heap.size W w' from refput_any 2 (V.d.n : Int) (by decide) (by decide) 65536 (by decide) (by omega) (by omega) W))
      have f4 : (V.d.n : Int) ≤ 256 := by omega
      clear hE hA E1
      go_upto_region 10 with (first
        | (go_at_call 51; refine (HPT.out _).mono ?_; rintro e v2 ⟨Ab, cb, rfl, hsb, hb⟩; have P2 := Lib.hid (E2.out.later hb); have HSB := Lib.hid hsb; clear hb hsb)
        | (at_builtin; refine wpList_append_src _ rfl (.tmp 46) (.tmp 50) 30 rfl w.heap.size 5 i0 Try.underlying30 HI.out.1 HI.out.2.1 HI.out.2.2.1 HI.out.2.2.2 (.slice p q zz) (headE x s.sc).length (bv (headE x s.sc)) rfl P2.out.row Ab 2 cb (be 2 (V.d.n : Int)) rfl HSB.out (by have := HLN.out; omega) P2.out.held.1.size ?_; intro v9 w9 h1 h2 _; have P3 := Lib.hid (P2.out.app HT.out h1 (be_length 2 (V.d.n : Int)) h2); clear h1 h2))
      have hE := P3.out
      rw [show headE x s.sc ++ be 2 (V.d.n : Int) = encB x s.sc 0 from by rw [encB_zero]; rw [show (s.sc.delays.length : Int) - 0 = (V.d.n : Int) from by rw [show s.sc.delays.length = V.d.n from l2]; omega]] at hE
      have E3 := Lib.hid hE
      clear hE E2 P2 P3 HPT HSB HLN b2 q0 f4 hN hlt
      go_wp2
      go_loopw [6, 8] (fun vv iv wr => ∃ k : Nat, k ≤ V.d.n ∧ iv = .int .i64 (k : Int) ∧ RE w wr HL vv (encB x s.sc k)) (fun _ iv _ => V.d.n - (intOf iv).toNat)
      case atStart => exact ⟨0, Nat.zero_le _, rfl, E3.out⟩
      case round =>
        obtain ⟨k, hk, rfl, hE⟩ := hrel
        have E4 := Lib.hid hE
        have b2 := (sc_cells (hE.held.2 _ HM.out.2)).2.2.1
        unfold Sl.v at b2
        obtain ⟨p, q, zz, rfl⟩ := own_val hE.row
        clear hE E3
        by_cases hlt : k < V.d.n
        · obtain ⟨g, o, hA2, hR⟩ := HSc.out.d.get (i := k) hlt
          have ok : okDel x (s.delays.getD k default) = true := HOK.out.2.2.1 _ (getD_mem (xs := s.delays) (j := k) (by omega))
          have HST := Lib.hid (encB_step x s.sc (k := k) (show k < s.delays.length by omega))
          obtain ⟨z, hz⟩ : ∃ z, z = s.delays.getD k default := ⟨_, rfl⟩
          rw [← hz] at hR ok
          rw [okDel_iff] at ok
          have dd := HDd.out
          have HZ := Lib.hid hz
          have r0 := k_cell E4.out.held.1 (numC_cell hR)
          have f1 : (0 : Int) ≤ (k : Int) := by omega
          have f2 : (k : Int) < (V.d.n : Int) := by omega
          have HPT := Lib.hid (fun W => (show Calls Try.prog 51 #[.int .i64 4, .int .i64 z] W fun e w' => ∃ (A : Option Addr) (c : Nat), e = .returned (.slice A 4 c) ∧ Src w' A 4 (be 4 z) ∧ Below W.heap.size W w' from refput_any 4 z (by decide) (by decide) 4294967296 (by decide) (by omega) (by omega) W))
          have HLN := Lib.hid (HB_.out k)
          rw [hA2] at b2
          clear hz hR hA2
          go_wp2_with (first
            | (go_at_call 51; refine (HPT.out _).mono ?_; rintro e v2 ⟨Ab, cb, rfl, hsb, hb⟩; have P2 := Lib.hid (E4.out.later hb); have HSB := Lib.hid hsb; clear hb hsb)
            | (at_builtin; refine wpList_append_src _ rfl (.tmp 59) (.tmp 65) 30 rfl w.heap.size 5 i0 Try.underlying30 HI.out.1 HI.out.2.1 HI.out.2.2.1 HI.out.2.2.2 (.slice p q zz) (encB x s.sc k).length (bv (encB x s.sc k)) rfl P2.out.row Ab 4 cb (be 4 z) rfl HSB.out (by have := HLN.out; omega) P2.out.held.1.size ?_; intro v9 w9 h1 h2 _; have P3 := Lib.hid (P2.out.app HT.out h1 (be_length 4 z) h2); clear h1 h2))
          go_roundw
          case rel =>
            refine ⟨k + 1, by omega, by go_num, ?_⟩
            have e := HST.out
            rw [show s.sc.delays.getD k default = z from HZ.out.symm, show z - 0 = z from by omega] at e
            rw [e]
            exact P3.out
          case measure => simp [intOf]; omega
        · obtain rfl : k = V.d.n := by omega
          have hE := E4.out
          rw [show encB x s.sc V.d.n = encC x s.sc 0 from by rw [encC_zero, show s.sc.delays.length = V.d.n from l2]] at hE
          have E5 := Lib.hid hE
          clear hE E4
          go_wp2
          clear b2 hlt
          go_loopw [6, 9] (fun vv iv wr => ∃ k : Nat, k ≤ V.h.n ∧ iv = .int .i64 (k : Int) ∧ RE w wr HL vv (encC x s.sc k)) (fun _ iv _ => V.h.n - (intOf iv).toNat)
          case atStart => exact ⟨0, Nat.zero_le _, rfl, E5.out⟩
          case round =>
            obtain ⟨k, hk, rfl, hE⟩ := hrel
            have E6 := Lib.hid hE
            have b3 := (sc_cells (hE.held.2 _ HM.out.2)).2.2.2.1
            unfold Sl.v at b3
            obtain ⟨p, q, zz, rfl⟩ := own_val hE.row
            clear hE E5
            by_cases hlt : k < V.h.n
            · obtain ⟨g, o, hA3, hR⟩ := HSc.out.h.row.get (i := k) hlt
              have hpl := HSc.out.h.pl _ (getD_mem (xs := s.haps) (j := k) (by omega))
              have ok : okHap x (s.haps.getD k default).hp = true := HOK.out.2.2.2.1 _ (List.mem_map_of_mem (getD_mem (xs := s.haps) (j := k) (by omega)))
              have hst := encC_step x s.sc (k := k) (show k < s.sc.haps.length by show k < (s.haps.map HpA.hp).length; rw [List.length_map]; omega)
              have hg : s.sc.haps.getD k default = (s.haps.getD k default).hp := by
                show (s.haps.map HpA.hp).getD k default = _
                rw [List.getD_eq_getElem?_getD, List.getD_eq_getElem?_getD, List.getElem?_map]
                cases s.haps[k]? <;> rfl
              rw [hg] at hst
              obtain ⟨y, hy⟩ : ∃ y, y = s.haps.getD k default := ⟨_, rfl⟩
              rw [← hy] at hR hpl ok hst
              rw [okHap_iff] at ok
              obtain ⟨yk, yn, yt, yA, yc, yl⟩ := y
              obtain ⟨c0, c1, c2, c3⟩ := hapC_cells hR
              have c0 := k_cell E6.out.held.1 c0
              have c1 := k_cell E6.out.held.1 c1
              have c2 := k_cell E6.out.held.1 c2
              have c3 := k_cell E6.out.held.1 c3
              simp only [HpA.hp] at ok
              dsimp only at c0 c1 c2 c3
              have hz := HHz.out
              have HST := Lib.hid hst
              have HPL := Lib.hid hpl
              have HOK2 := Lib.hid ok
              obtain ⟨bk, hbk, hbk2⟩ := be1 (k := yk) (by omega) (by omega)
              obtain ⟨bn, hbn, hbn2⟩ := be1 (k := yn) (by omega) (by omega)
              have u1 : IntKind.u8.wrap yk = (bk.toNat : Int) := by rw [hbk2]; exact u8_wrap (by omega) (by omega)
              have u2 : IntKind.u8.wrap yn = (bn.toNat : Int) := by rw [hbn2]; exact u8_wrap (by omega) (by omega)
              have HBE := Lib.hid (And.intro hbk hbn)
              have f1 : (0 : Int) ≤ (k : Int) := by omega
              have f2 : (k : Int) < (V.h.n : Int) := by omega
              have HPT := Lib.hid (fun W => (show Calls Try.prog 51 #[.int .i64 4, .int .i64 yt] W fun e w' => ∃ (A : Option Addr) (c : Nat), e = .returned (.slice A 4 c) ∧ Src w' A 4 (be 4 yt) ∧ Below W.heap.size W w' from refput_any 4 yt (by decide) (by decide) 4294967296 (by decide) (by omega) (by omega) W))
              have HLN := Lib.hid (HC_.out k)
              rw [hA3] at b3
              have hb1 : Below wr.heap.size wr (wr.alloc (.cells #[.int .i64 yk, .int .i64 yn, .int .i64 yt, .slice yA yl.length yc] 47)) := (Below.refl _ _).alloc (Nat.le_refl _) _
              have E8 := Lib.hid ((E6.out.later hb1).more (Whole.new wr 47 #[.int .i64 yk, .int .i64 yn, .int .i64 yt, .slice yA yl.length yc]))
              have HT2 := Lib.hid (show ∀ y ∈ (wr.heap.size, 47, (#[.int .i64 yk, .int .i64 yn, .int .i64 yt, .slice yA yl.length yc] : Array Value)) :: HL, y.2.1 ≠ 5 from fun y hy => by
                rcases List.mem_cons.1 hy with rfl | hy
                · exact (by decide : 47 ≠ 5)
                · exact HT.out y hy)
              clear hR hA3 hy hg hst hpl ok hbk hbn hb1 hbk2 hbn2
              go_upto_region 18 with fail
              clear E6 c0 c1 c2 c3 b3
              generalize wr.alloc (.cells #[.int .i64 yk, .int .i64 yn, .int .i64 yt, .slice yA yl.length yc] 47) = W7 at *
              generalize wr.heap.size = b7 at *
              have d0 : W7.cell? ⟨b7, 0, none⟩ = some (.int .i64 yk) := (E8.out.held.2 _ (List.mem_cons_self ..)).cell 0
              have d1 : W7.cell? ⟨b7, 1, none⟩ = some (.int .i64 yn) := (E8.out.held.2 _ (List.mem_cons_self ..)).cell 1
              have hbA : Below W7.heap.size W7 (W7.alloc (.cells #[.int .u8 (bk.toNat : Int), .int .u8 (bn.toNat : Int)] 5)) := (Below.refl _ _).alloc (Nat.le_refl _) _
              have EA := Lib.hid (E8.out.later hbA)
              have HSR := Lib.hid (src_two (Whole.new W7 5 #[.int .u8 (bk.toNat : Int), .int .u8 (bn.toNat : Int)]))
              clear hbA
              go_upto_region 19 with (at_builtin; refine wpList_append_src _ rfl (.tmp 79) (.tmp 86) 30 rfl w.heap.size 5 i0 Try.underlying30 HI.out.1 HI.out.2.1 HI.out.2.2.1 HI.out.2.2.2 (.slice p q zz) (encC x s.sc k).length (bv (encC x s.sc k)) rfl EA.out.row _ 2 2 [bk, bn] rfl HSR.out (by have := HLN.out; omega) EA.out.held.1.size ?_; intro v9 w9 h1 h2 _; have E9 := Lib.hid (EA.out.app HT2.out h1 rfl h2); clear h1 h2)
              clear d0 d1 EA HSR E8
              obtain ⟨p9, q9, z9, rfl⟩ := own_val E9.out.row
              have d2 : w9.cell? ⟨b7, 2, none⟩ = some (.int .i64 yt) := (E9.out.held.2 _ (List.mem_cons_self ..)).cell 2
              go_upto_region 20 with (first
                | (go_at_call 51; refine (HPT.out _).mono ?_; rintro e va ⟨Aa, ca, rfl, hsb, hb⟩; have EB := Lib.hid (E9.out.later hb); have HSB := Lib.hid hsb; clear hb hsb)
                | (at_builtin; refine wpList_append_src _ rfl (.tmp 88) (.tmp 91) 30 rfl w.heap.size 5 i0 Try.underlying30 HI.out.1 HI.out.2.1 HI.out.2.2.1 HI.out.2.2.2 (.slice p9 q9 z9) (encC x s.sc k ++ [bk, bn]).length (bv (encC x s.sc k ++ [bk, bn])) rfl EB.out.row Aa 4 ca (be 4 yt) rfl HSB.out (by have := HLN.out; simp only [List.length_append, List.length_cons, List.length_nil]; omega) EB.out.held.1.size ?_; intro vc wc h1 h2 _; have EC := Lib.hid (EB.out.app HT2.out h1 (be_length 4 yt) h2); clear h1 h2))
              clear d2 E9 EB HSB
              obtain ⟨pc, qc, zc, rfl⟩ := own_val EC.out.row
              have d0 : wc.cell? ⟨b7, 0, none⟩ = some (.int .i64 yk) := (EC.out.held.2 _ (List.mem_cons_self ..)).cell 0
              by_cases hk2 : yk = 2
              · have ⟨_, _, _, _, _, _, hl255, _⟩ := HOK2.out
                obtain ⟨bl, hbl, hbl2⟩ := be1 (k := (yl.length : Int)) (by omega) (by omega)
                have u3 : IntKind.u8.wrap (yl.length : Int) = (bl.toNat : Int) := by rw [hbl2]; exact u8_wrap (by omega) (by omega)
                have HBL := Lib.hid hbl
                have d3 : wc.cell? ⟨b7, 3, none⟩ = some (.slice yA yl.length yc) := (EC.out.held.2 _ (List.mem_cons_self ..)).cell 3
                have hbA : Below wc.heap.size wc (wc.alloc (.cells #[.int .u8 (bl.toNat : Int)] 5)) := (Below.refl _ _).alloc (Nat.le_refl _) _
                have EA := Lib.hid (EC.out.later hbA)
                have HSR := Lib.hid (src_one (Whole.new wc 5 #[.int .u8 (bl.toNat : Int)]))
                have HL5 := Lib.hid hl255
                clear hbA hbl hbl2
                go_upto_region 22 with (at_builtin; refine wpList_append_src _ rfl (.tmp 96) (.tmp 101) 30 rfl w.heap.size 5 i0 Try.underlying30 HI.out.1 HI.out.2.1 HI.out.2.2.1 HI.out.2.2.2 (.slice pc qc zc) (encC x s.sc k ++ [bk, bn] ++ be 4 yt).length (bv (encC x s.sc k ++ [bk, bn] ++ be 4 yt)) rfl EA.out.row _ 1 1 [bl] rfl HSR.out (by have := HLN.out; simp only [List.length_append, List.length_cons, List.length_nil, be_length]; omega) EA.out.held.1.size ?_; intro ve we h1 h2 _; have EF := Lib.hid (EA.out.app HT2.out h1 rfl h2); clear h1 h2)
                clear d0 d3 EA HSR EC
                obtain ⟨pe, qe, ze, rfl⟩ := own_val EF.out.row
                have d3 : we.cell? ⟨b7, 3, none⟩ = some (.slice yA yl.length yc) := (EF.out.held.2 _ (List.mem_cons_self ..)).cell 3
                have HPS := Lib.hid (HPL.out.later EF.out.held.1).src
                go_wp2_with (at_builtin; refine wpList_append_src _ rfl (.tmp 103) (.tmp 105) 30 rfl w.heap.size 5 i0 Try.underlying30 HI.out.1 HI.out.2.1 HI.out.2.2.1 HI.out.2.2.2 (.slice pe qe ze) (encC x s.sc k ++ [bk, bn] ++ be 4 yt ++ [bl]).length (bv (encC x s.sc k ++ [bk, bn] ++ be 4 yt ++ [bl])) rfl EF.out.row yA yl.length yc yl rfl HPS.out (by have := HLN.out; have := HL5.out; simp only [List.length_append, List.length_cons, List.length_nil, be_length]; omega) EF.out.held.1.size ?_; intro vg wg h1 h2 _; have EG := Lib.hid (EF.out.app HT2.out h1 rfl h2); clear h1 h2)
                go_roundw
                case rel =>
                  refine ⟨k + 1, by omega, by go_num, ?_⟩
                  have e : encC x s.sc (k + 1) = ((encC x s.sc k ++ be 1 (yk - 0)) ++ be 1 (yn - 0)) ++ be 4 (yt - 0) ++ (if yk = 2 then be 1 ((yl.length : Int) - 0) ++ yl else []) := HST.out
                  rw [if_pos hk2, show yk - 0 = yk from by omega, show yn - 0 = yn from by omega, show yt - 0 = yt from by omega, show (yl.length : Int) - 0 = yl.length from by omega, HBE.out.1, HBE.out.2, HBL.out] at e
                  rw [e]
                  have := EG.out.fewer
                  simpa using this
                case measure => simp [intOf]; omega
              · go_wp2
                go_roundw
                case rel =>
                  refine ⟨k + 1, by omega, by go_num, ?_⟩
                  have e : encC x s.sc (k + 1) = ((encC x s.sc k ++ be 1 (yk - 0)) ++ be 1 (yn - 0)) ++ be 4 (yt - 0) ++ (if yk = 2 then be 1 ((yl.length : Int) - 0) ++ yl else []) := HST.out
                  rw [if_neg hk2, show yk - 0 = yk from by omega, show yn - 0 = yn from by omega, show yt - 0 = yt from by omega, HBE.out.1, HBE.out.2] at e
                  rw [e]
                  have := EC.out.fewer
                  simpa using this
                case measure => simp [intOf]; omega
            · obtain rfl : k = V.h.n := by omega
              have hE := E6.out
              rw [show encC x s.sc V.h.n = encF x s.sc 0 from by rw [encF_zero, show s.sc.haps.length = V.h.n from by show (s.haps.map HpA.hp).length = _; rw [List.length_map]; exact l3]] at hE
              have E10 := Lib.hid hE
              clear hE E6
              go_wp2
              clear b3 hlt
              go_loopw [6, 11] (fun vv iv wr => ∃ k : Nat, k ≤ V.f.n ∧ iv = .int .i64 (k : Int) ∧ RE w wr HL vv (encF x s.sc k)) (fun _ iv _ => V.f.n - (intOf iv).toNat)
              case atStart => exact ⟨0, Nat.zero_le _, rfl, E10.out⟩
              case round =>
                obtain ⟨k, hk, rfl, hE⟩ := hrel
                have E6 := Lib.hid hE
                have b3 := (sc_cells (hE.held.2 _ HM.out.2)).2.2.2.2
                unfold Sl.v at b3
                obtain ⟨p, q, zz, rfl⟩ := own_val hE.row
                clear hE E10
                by_cases hlt : k < V.f.n
                · obtain ⟨g, o, hA4, hR⟩ := HSc.out.f.get (i := k) hlt
                  have ok : okFt x (s.faults.getD k default) = true := HOK.out.2.2.2.2 _ (getD_mem (xs := s.faults) (j := k) (by omega))
                  have hst := encF_step x s.sc (k := k) (show k < s.faults.length by omega)
                  obtain ⟨y, hy⟩ : ∃ y, y = s.faults.getD k default := ⟨_, rfl⟩
                  rw [← hy] at hR ok
                  rw [show s.sc.faults.getD k default = y from hy.symm] at hst
                  rw [okFt_iff] at ok
                  obtain ⟨ys, yn, yr, yc, yb⟩ := y
                  obtain ⟨c0, c1, c2, c3, c4⟩ := ftC_cells hR
                  have c0 := k_cell E6.out.held.1 c0
                  have c1 := k_cell E6.out.held.1 c1
                  have c2 := k_cell E6.out.held.1 c2
                  have c3 := k_cell E6.out.held.1 c3
                  have c4 := k_cell E6.out.held.1 c4
                  dsimp only at ok c0 c1 c2 c3 c4 hst
                  have HST := Lib.hid hst
                  obtain ⟨bs, hbs, hbs2⟩ := be1 (k := ys) (by omega) (by omega)
                  obtain ⟨br, hbr, hbr2⟩ := be1 (k := yr) (by omega) (by omega)
                  obtain ⟨bc, hbc, hbc2⟩ := be1 (k := yc - 1) (by omega) (by omega)
                  have u1 : IntKind.u8.wrap ys = (bs.toNat : Int) := by rw [hbs2]; exact u8_wrap (by omega) (by omega)
                  have u2 : IntKind.u8.wrap yr = (br.toNat : Int) := by rw [hbr2]; exact u8_wrap (by omega) (by omega)
                  have u3 : IntKind.u8.wrap (yc - 1) = (bc.toNat : Int) := by rw [hbc2]; exact u8_wrap (by omega) (by omega)
                  have u4 : wrap64 (yc - 1) = yc - 1 := by unfold wrap64; omega
                  have HBE := Lib.hid (And.intro hbs (And.intro hbr hbc))
                  have f1 : (0 : Int) ≤ (k : Int) := by omega
                  have f2 : (k : Int) < (V.f.n : Int) := by omega
                  have HPT := Lib.hid (fun W => (show Calls Try.prog 51 #[.int .i64 2, .int .i64 yn] W fun e w' => ∃ (A : Option Addr) (c : Nat), e = .returned (.slice A 2 c) ∧ Src w' A 2 (be 2 yn) ∧ Below W.heap.size W w' from refput_any 2 yn (by decide) (by decide) 65536 (by decide) (by omega) (by omega) W))
                  have HLN := Lib.hid (HF_.out k)
                  rw [hA4] at b3
                  have hb1 : Below wr.heap.size wr (wr.alloc (.cells #[.int .i64 ys, .int .i64 yn, .int .i64 yr, .int .i64 yc, .bool yb] 54)) := (Below.refl _ _).alloc (Nat.le_refl _) _
                  have E8 := Lib.hid ((E6.out.later hb1).more (Whole.new wr 54 #[.int .i64 ys, .int .i64 yn, .int .i64 yr, .int .i64 yc, .bool yb]))
                  have HT2 := Lib.hid (show ∀ y ∈ (wr.heap.size, 54, (#[.int .i64 ys, .int .i64 yn, .int .i64 yr, .int .i64 yc, .bool yb] : Array Value)) :: HL, y.2.1 ≠ 5 from fun y hy => by
                    rcases List.mem_cons.1 hy with rfl | hy
                    · exact (by decide : 54 ≠ 5)
                    · exact HT.out y hy)
                  clear hR hA4 hy hst ok hbs hbr hbc hb1 hbs2 hbr2 hbc2
                  obtain ⟨b9, hb9⟩ : ∃ b9 : UInt8, b9 = if yb then 1 else 0 := ⟨_, rfl⟩
                  have HB9 := Lib.hid hb9
                  clear hb9
                  go_upto_region 27 with fail
                  clear E6 c0 c1 c2 c3 c4 b3
                  generalize wr.alloc (.cells #[.int .i64 ys, .int .i64 yn, .int .i64 yr, .int .i64 yc, .bool yb] 54) = W7 at *
                  generalize wr.heap.size = b7 at *
                  have d4 : W7.cell? ⟨b7, 4, none⟩ = some (.bool yb) := (E8.out.held.2 _ (List.mem_cons_self ..)).cell 4
                  cases yb
                  case false =>
                    have HSR := Lib.hid (src_two (a := 3) (b := bs) (Whole.new W7 5 #[.int .u8 3, .int .u8 (bs.toNat : Int)]))
                    have hbA : Below W7.heap.size W7 (W7.alloc (.cells #[.int .u8 3, .int .u8 (bs.toNat : Int)] 5)) := (Below.refl _ _).alloc (Nat.le_refl _) _
                    have EA := Lib.hid (E8.out.later hbA)
                    have d0 : W7.cell? ⟨b7, 0, none⟩ = some (.int .i64 ys) := (E8.out.held.2 _ (List.mem_cons_self ..)).cell 0
                    clear hbA
                    go_upto_region 31 with (at_builtin; refine wpList_append_src _ rfl (.tmp 121) (.tmp 125) 30 rfl w.heap.size 5 i0 Try.underlying30 HI.out.1 HI.out.2.1 HI.out.2.2.1 HI.out.2.2.2 (.slice p q zz) (encF x s.sc k).length (bv (encF x s.sc k)) rfl EA.out.row _ 2 2 [3, bs] rfl HSR.out (by have := HLN.out; omega) EA.out.held.1.size ?_; intro vb wb h1 h2 _; have EB := Lib.hid (EA.out.app HT2.out h1 rfl h2); clear h1 h2)
                    clear d0 d4 EA HSR E8
                    obtain ⟨pb, qb, zb, rfl⟩ := own_val EB.out.row
                    have d1 : wb.cell? ⟨b7, 1, none⟩ = some (.int .i64 yn) := (EB.out.held.2 _ (List.mem_cons_self ..)).cell 1
                    go_upto_region 32 with (first
                      | (go_at_call 51; refine (HPT.out _).mono ?_; rintro e va ⟨Aa, ca, rfl, hsb, hb⟩; have EC := Lib.hid (EB.out.later hb); have HSB := Lib.hid hsb; clear hb hsb)
                      | (at_builtin; refine wpList_append_src _ rfl (.tmp 127) (.tmp 130) 30 rfl w.heap.size 5 i0 Try.underlying30 HI.out.1 HI.out.2.1 HI.out.2.2.1 HI.out.2.2.2 (.slice pb qb zb) (encF x s.sc k ++ [3, bs]).length (bv (encF x s.sc k ++ [3, bs])) rfl EC.out.row Aa 2 ca (be 2 yn) rfl HSB.out (by have := HLN.out; simp only [List.length_append, List.length_cons, List.length_nil]; omega) EC.out.held.1.size ?_; intro vc wc h1 h2 _; have ED := Lib.hid (EC.out.app HT2.out h1 (be_length 2 yn) h2); clear h1 h2))
                    clear d1 EB EC HSB
                    obtain ⟨pc, qc, zc, rfl⟩ := own_val ED.out.row
                    have d2 : wc.cell? ⟨b7, 2, none⟩ = some (.int .i64 yr) := (ED.out.held.2 _ (List.mem_cons_self ..)).cell 2
                    have d3 : wc.cell? ⟨b7, 3, none⟩ = some (.int .i64 yc) := (ED.out.held.2 _ (List.mem_cons_self ..)).cell 3
                    have HSR := Lib.hid (src_three (a := br) (b := bc) (c := 0) (Whole.new wc 5 #[.int .u8 (br.toNat : Int), .int .u8 (bc.toNat : Int), .int .u8 0]))
                    have hbA : Below wc.heap.size wc (wc.alloc (.cells #[.int .u8 (br.toNat : Int), .int .u8 (bc.toNat : Int), .int .u8 0] 5)) := (Below.refl _ _).alloc (Nat.le_refl _) _
                    have EE := Lib.hid (ED.out.later hbA)
                    clear hbA
                    go_wp2_with (at_builtin; refine wpList_append_src _ rfl (.tmp 132) (.tmp 141) 30 rfl w.heap.size 5 i0 Try.underlying30 HI.out.1 HI.out.2.1 HI.out.2.2.1 HI.out.2.2.2 (.slice pc qc zc) (encF x s.sc k ++ [3, bs] ++ be 2 yn).length (bv (encF x s.sc k ++ [3, bs] ++ be 2 yn)) rfl EE.out.row _ 3 3 [br, bc, 0] rfl HSR.out (by have := HLN.out; simp only [List.length_append, List.length_cons, List.length_nil, be_length]; omega) EE.out.held.1.size ?_; intro vd wd h1 h2 _; have EG := Lib.hid (EE.out.app HT2.out h1 rfl h2); clear h1 h2)
                    go_roundw
                    case rel =>
                      refine ⟨k + 1, by omega, by go_num, ?_⟩
                      have e : encF x s.sc (k + 1) = (((((encF x s.sc k ++ be 1 (3 - 0)) ++ be 1 (ys - 0)) ++ be 2 (yn - 0)) ++ be 1 (yr - 0)) ++ be 1 (yc - 1)) ++ be 1 (0 - 0) := HST.out
                      rw [show be 1 (3 - 0) = [3] from by decide, show be 1 (0 - 0) = [0] from by decide, show ys - 0 = ys from by omega, show yn - 0 = yn from by omega, show yr - 0 = yr from by omega, HBE.out.1, HBE.out.2.1, HBE.out.2.2] at e
                      rw [e]
                      have := EG.out.fewer
                      simpa using this
                    case measure => simp [intOf]; omega
                  case true =>
                    have HSR := Lib.hid (src_two (a := 3) (b := bs) (Whole.new W7 5 #[.int .u8 3, .int .u8 (bs.toNat : Int)]))
                    have hbA : Below W7.heap.size W7 (W7.alloc (.cells #[.int .u8 3, .int .u8 (bs.toNat : Int)] 5)) := (Below.refl _ _).alloc (Nat.le_refl _) _
                    have EA := Lib.hid (E8.out.later hbA)
                    have d0 : W7.cell? ⟨b7, 0, none⟩ = some (.int .i64 ys) := (E8.out.held.2 _ (List.mem_cons_self ..)).cell 0
                    clear hbA
                    go_upto_region 31 with (at_builtin; refine wpList_append_src _ rfl (.tmp 121) (.tmp 125) 30 rfl w.heap.size 5 i0 Try.underlying30 HI.out.1 HI.out.2.1 HI.out.2.2.1 HI.out.2.2.2 (.slice p q zz) (encF x s.sc k).length (bv (encF x s.sc k)) rfl EA.out.row _ 2 2 [3, bs] rfl HSR.out (by have := HLN.out; omega) EA.out.held.1.size ?_; intro vb wb h1 h2 _; have EB := Lib.hid (EA.out.app HT2.out h1 rfl h2); clear h1 h2)
                    clear d0 d4 EA HSR E8
                    obtain ⟨pb, qb, zb, rfl⟩ := own_val EB.out.row
                    have d1 : wb.cell? ⟨b7, 1, none⟩ = some (.int .i64 yn) := (EB.out.held.2 _ (List.mem_cons_self ..)).cell 1
                    go_upto_region 32 with (first
                      | (go_at_call 51; refine (HPT.out _).mono ?_; rintro e va ⟨Aa, ca, rfl, hsb, hb⟩; have EC := Lib.hid (EB.out.later hb); have HSB := Lib.hid hsb; clear hb hsb)
                      | (at_builtin; refine wpList_append_src _ rfl (.tmp 127) (.tmp 130) 30 rfl w.heap.size 5 i0 Try.underlying30 HI.out.1 HI.out.2.1 HI.out.2.2.1 HI.out.2.2.2 (.slice pb qb zb) (encF x s.sc k ++ [3, bs]).length (bv (encF x s.sc k ++ [3, bs])) rfl EC.out.row Aa 2 ca (be 2 yn) rfl HSB.out (by have := HLN.out; simp only [List.length_append, List.length_cons, List.length_nil]; omega) EC.out.held.1.size ?_; intro vc wc h1 h2 _; have ED := Lib.hid (EC.out.app HT2.out h1 (be_length 2 yn) h2); clear h1 h2))
                    clear d1 EB EC HSB
                    obtain ⟨pc, qc, zc, rfl⟩ := own_val ED.out.row
                    have d2 : wc.cell? ⟨b7, 2, none⟩ = some (.int .i64 yr) := (ED.out.held.2 _ (List.mem_cons_self ..)).cell 2
                    have d3 : wc.cell? ⟨b7, 3, none⟩ = some (.int .i64 yc) := (ED.out.held.2 _ (List.mem_cons_self ..)).cell 3
                    have HSR := Lib.hid (src_three (a := br) (b := bc) (c := 1) (Whole.new wc 5 #[.int .u8 (br.toNat : Int), .int .u8 (bc.toNat : Int), .int .u8 1]))
                    have hbA : Below wc.heap.size wc (wc.alloc (.cells #[.int .u8 (br.toNat : Int), .int .u8 (bc.toNat : Int), .int .u8 1] 5)) := (Below.refl _ _).alloc (Nat.le_refl _) _
                    have EE := Lib.hid (ED.out.later hbA)
                    clear hbA
                    go_wp2_with (at_builtin; refine wpList_append_src _ rfl (.tmp 132) (.tmp 141) 30 rfl w.heap.size 5 i0 Try.underlying30 HI.out.1 HI.out.2.1 HI.out.2.2.1 HI.out.2.2.2 (.slice pc qc zc) (encF x s.sc k ++ [3, bs] ++ be 2 yn).length (bv (encF x s.sc k ++ [3, bs] ++ be 2 yn)) rfl EE.out.row _ 3 3 [br, bc, 1] rfl HSR.out (by have := HLN.out; simp only [List.length_append, List.length_cons, List.length_nil, be_length]; omega) EE.out.held.1.size ?_; intro vd wd h1 h2 _; have EG := Lib.hid (EE.out.app HT2.out h1 rfl h2); clear h1 h2)
                    go_roundw
                    case rel =>
                      refine ⟨k + 1, by omega, by go_num, ?_⟩
                      have e : encF x s.sc (k + 1) = (((((encF x s.sc k ++ be 1 (3 - 0)) ++ be 1 (ys - 0)) ++ be 2 (yn - 0)) ++ be 1 (yr - 0)) ++ be 1 (yc - 1)) ++ be 1 (1 - 0) := HST.out
                      rw [show be 1 (3 - 0) = [3] from by decide, show be 1 (1 - 0) = [1] from by decide, show ys - 0 = ys from by omega, show yn - 0 = yn from by omega, show yr - 0 = yr from by omega, HBE.out.1, HBE.out.2.1, HBE.out.2.2] at e
                      rw [e]
                      have := EG.out.fewer
                      simpa using this
                    case measure => simp [intOf]; omega
                · obtain rfl : k = V.f.n := by omega
                  have hE := E6.out
                  rw [show encF x s.sc V.f.n = ans from by rw [HAN.out, ← encF_all, show s.sc.faults.length = V.f.n from l4]] at hE
                  have E11 := Lib.hid hE
                  clear hE E6
                  go_wp2
                  go_ret2
                  exact ⟨_, rfl, E11.out.row, E11.out.held.1⟩
end Go.Proofs.Ytljcaigaofalbaa
