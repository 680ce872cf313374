/- ScriptNames: its bytes, its script, what is heard there; fifteen scripts that may not be. Plain; no condition. | The document's Copy, by a contract that says where its rows lie. No condition. | A script in rows of its own, one number of it changed. No condition. -/
import Derived.Deep.RegionLaw
import Derived.Test.YtljcaigaofalbaaQY
import Derived.Test.YtljcaigaofalbaaQRDecX
import Derived.Test.YtljcaigaofalbaaQRc
namespace Go.Proofs.Ytljcaigaofalbaa
open Go.RowKit

def rawN : List UInt8 := [0, 0, 0, 12, 0, 0, 0, 1, 0, 0, 0, 13, 0, 0, 0, 0, 0, 0, 0, 0, 0, 0, 0, 0, 0, 0, 0, 0, 0, 0, 0, 0, 0, 2, 0, 0, 0, 4, 0, 0, 0, 5, 6, 9, 0, 0, 1, 2, 2, 104, 105, 7, 6, 1, 0, 9, 5, 3, 3, 2, 1, 0, 1, 0, 0, 0, 3, 1]
def scN : Sc := ⟨[(65542, 65536), (65530, 65536), (65530, 65536), (65530, 65536)], [0, -1, -1, -1], [4, 0], [⟨2, 1, 258, [104, 105]⟩, ⟨0, 3, 38155, []⟩], [⟨2, 256, 4, 3, true⟩, ⟨2, 256, 1, 1, false⟩]⟩
theorem raw_len : rawN.length = 68 := by decide
theorem dec_n : decU planF rawN = scN := by kernel_rfl
theorem decE_n : decE planF = 0 := by kernel_rfl
theorem may_n : mayS planF scN = true := by kernel_rfl
theorem enc_n : (encU planF scN).length = 71 := by kernel_rfl
theorem heard_n0 : heardS planF scN 2 256 1 0 = 2 := by kernel_rfl
theorem heard_n1 : heardS planF scN 2 256 1 1 = 1 := by kernel_rfl
theorem heard_n2 : heardS planF scN 2 256 3 0 = 1 := by kernel_rfl
theorem heard_n3 : heardS planF scN 2 255 1 0 = 0 := by kernel_rfl
theorem heard_n4 : heardS planF scN 1 256 1 0 = 0 := by kernel_rfl
theorem heard_n5 : heardS planF scN 4 0 0 0 = 2 := by kernel_rfl
theorem heard_n6 : heardS planF scN 0 (-1) 0 0 = 2 := by kernel_rfl
theorem heard_n7 : heardS planF scN 0 0 4 0 = 2 := by kernel_rfl
theorem heard_n8 : heardS planF scN 0 0 0 2 = 2 := by kernel_rfl
theorem delay_n0 : delayS planF scN 0 0 0 0 = 5 := by kernel_rfl
theorem delay_n1 : delayS planF scN 0 0 0 1 = 1 := by kernel_rfl
theorem delay_n2 : delayS planF scN 0 0 0 2 = 0 := by kernel_rfl
theorem bad_n1 : mayS planF ⟨[(65543, 65536), (65530, 65536), (65530, 65536), (65530, 65536)], [0, -1, -1, -1], [4, 0], [⟨2, 1, 258, [104, 105]⟩, ⟨0, 3, 38155, []⟩], [⟨2, 256, 4, 3, true⟩, ⟨2, 256, 1, 1, false⟩]⟩ = false := by kernel_rfl
theorem bad_n2 : mayS planF ⟨[(65542, 1), (65530, 65536), (65530, 65536), (65530, 65536)], [0, -1, -1, -1], [4, 0], [⟨2, 1, 258, [104, 105]⟩, ⟨0, 3, 38155, []⟩], [⟨2, 256, 4, 3, true⟩, ⟨2, 256, 1, 1, false⟩]⟩ = false := by kernel_rfl
theorem bad_n3 : mayS planF ⟨[(65542, 65536), (65530, 65536), (65530, 65536), (65530, 65536)], [-2, -1, -1, -1], [4, 0], [⟨2, 1, 258, [104, 105]⟩, ⟨0, 3, 38155, []⟩], [⟨2, 256, 4, 3, true⟩, ⟨2, 256, 1, 1, false⟩]⟩ = false := by kernel_rfl
theorem bad_n4 : mayS planF ⟨[(65542, 65536), (65530, 65536), (65530, 65536), (65530, 65536)], [9249, -1, -1, -1], [4, 0], [⟨2, 1, 258, [104, 105]⟩, ⟨0, 3, 38155, []⟩], [⟨2, 256, 4, 3, true⟩, ⟨2, 256, 1, 1, false⟩]⟩ = false := by kernel_rfl
theorem bad_n5 : mayS planF ⟨[(65542, 65536), (65530, 65536), (65530, 65536), (65530, 65536)], [-1, -1, -1], [4, 0], [⟨2, 1, 258, [104, 105]⟩, ⟨0, 3, 38155, []⟩], [⟨2, 256, 4, 3, true⟩, ⟨2, 256, 1, 1, false⟩]⟩ = false := by kernel_rfl
theorem bad_n6 : mayS planF ⟨[(65542, 65536), (65530, 65536), (65530, 65536), (65530, 65536)], [0, -1, -1, -1], [5, 0], [⟨2, 1, 258, [104, 105]⟩, ⟨0, 3, 38155, []⟩], [⟨2, 256, 4, 3, true⟩, ⟨2, 256, 1, 1, false⟩]⟩ = false := by kernel_rfl
theorem bad_n7 : mayS planF ⟨[(65542, 65536), (65530, 65536), (65530, 65536), (65530, 65536)], [0, -1, -1, -1], [4, 0], [⟨2, 1, 258, [104, 105]⟩, ⟨0, 3, 38155, [1]⟩], [⟨2, 256, 4, 3, true⟩, ⟨2, 256, 1, 1, false⟩]⟩ = false := by kernel_rfl
theorem bad_n8 : mayS planF ⟨[(65542, 65536), (65530, 65536), (65530, 65536), (65530, 65536)], [0, -1, -1, -1], [4, 0], [⟨2, 1, 258, List.replicate 256 0⟩, ⟨0, 3, 38155, []⟩], [⟨2, 256, 4, 3, true⟩, ⟨2, 256, 1, 1, false⟩]⟩ = false := by kernel_rfl
theorem bad_n9 : mayS planF ⟨[(65542, 65536), (65530, 65536), (65530, 65536), (65530, 65536)], [0, -1, -1, -1], [4, 0], [⟨2, 1, 92481, [104, 105]⟩, ⟨0, 3, 38155, []⟩], [⟨2, 256, 4, 3, true⟩, ⟨2, 256, 1, 1, false⟩]⟩ = false := by kernel_rfl
theorem bad_n10 : mayS planF ⟨[(65542, 65536), (65530, 65536), (65530, 65536), (65530, 65536)], [0, -1, -1, -1], [4, 0], [⟨3, 1, 258, [104, 105]⟩, ⟨0, 3, 38155, []⟩], [⟨2, 256, 4, 3, true⟩, ⟨2, 256, 1, 1, false⟩]⟩ = false := by kernel_rfl
theorem bad_n11 : mayS planF ⟨[(65542, 65536), (65530, 65536), (65530, 65536), (65530, 65536)], [0, -1, -1, -1], [4, 0], [⟨2, 1, 258, [104, 105]⟩, ⟨0, 3, 38155, []⟩], [⟨2, 256, 5, 3, true⟩, ⟨2, 256, 1, 1, false⟩]⟩ = false := by kernel_rfl
theorem bad_n12 : mayS planF ⟨[(65542, 65536), (65530, 65536), (65530, 65536), (65530, 65536)], [0, -1, -1, -1], [4, 0], [⟨2, 1, 258, [104, 105]⟩, ⟨0, 3, 38155, []⟩], [⟨2, 256, 4, 0, true⟩, ⟨2, 256, 1, 1, false⟩]⟩ = false := by kernel_rfl
theorem bad_n13 : mayS planF ⟨[(65542, 65536), (65530, 65536), (65530, 65536), (65530, 65536)], [0, -1, -1, -1], [4, 0], [⟨2, 1, 258, [104, 105]⟩, ⟨0, 3, 38155, []⟩], [⟨2, 65536, 4, 3, true⟩, ⟨2, 256, 1, 1, false⟩]⟩ = false := by kernel_rfl
theorem bad_n14 : mayS planF ⟨[(65542, 65536), (65530, 65536), (65530, 65536), (65530, 65536)], [0, -1, -1, -1], [4, 0], [⟨2, 1, 258, [104, 105]⟩, ⟨0, 3, 38155, []⟩], [⟨4, 256, 4, 3, true⟩, ⟨2, 256, 1, 1, false⟩]⟩ = false := by kernel_rfl
theorem bad_n15 : mayS planF ⟨[(65542, 65536), (65530, 65536), (65530, 65536), (65530, 65536)], [0, -1, -1, -1], [4, 0], [⟨2, 1, 258, [104, 105]⟩, ⟨0, 3, 38155, []⟩], List.replicate 65 ⟨0, 0, 0, 0, false⟩⟩ = false := by kernel_rfl
theorem bad_nil : mayS planF ⟨[], [], [], [], []⟩ = false := by kernel_rfl
end Go.Proofs.Ytljcaigaofalbaa

namespace Go.Proofs.Ytljcaigaofalbaa
open Go.RowKit Go.Shelf

set_option maxRecDepth 100000 in
set_option maxHeartbeats 8000000 in
theorem refCopy_new (V : ScV) (s : ScA) (w : World) (h : ScAt w V s) (hm : Small V) (hpl : ∀ y ∈ s.haps, y.pl.length ≤ 1000000) :
    Calls Try.prog 11 #[.agg V.cells] w fun e w' => ∃ (V' : Vs) (s' : ScA) (B b0 : Nat), e = .returned (.agg V'.cells) ∧ SB w' (fun i => b0 ≤ i) b0 B V' s' ∧ s'.sc = s.sc ∧ Below w.heap.size w w' ∧ w.heap.size ≤ b0 := by
  obtain ⟨i0, q00, q01, q02, q03⟩ := info_parts i_rate
  obtain ⟨i1, q10, q11, q12, q13⟩ := info_parts i_int
  obtain ⟨i4, q40, q41, q42, q43⟩ := info_parts i_ft
  obtain ⟨i3, q30, q31, q32, q33⟩ := info_parts i_hap
  obtain ⟨W0, hW0⟩ : ∃ W0, W0 = (w.alloc (.cells V.cells 29)).alloc (.cells #[.slice none 0 0, .slice none 0 0, .slice none 0 0, .slice none 0 0, .slice none 0 0] 29) := ⟨_, rfl⟩
  have hb0 : Below w.heap.size w W0 := by rw [hW0]; exact ((Below.refl _ _).alloc (Nat.le_refl _) _).alloc (by simp) _
  have hs0 : W0.heap.size = w.heap.size + 2 := by rw [hW0]; simp
  have hV0 : Whole W0 w.heap.size 29 V.cells := by rw [hW0]; exact (Whole.new w _ _).alloc _
  have hZ0 : Whole W0 (w.heap.size + 1) 29 #[.slice none 0 0, .slice none 0 0, .slice none 0 0, .slice none 0 0, .slice none 0 0] := by
    rw [hW0]
    have := Whole.new (w.alloc (.cells V.cells 29)) 29 #[.slice none 0 0, .slice none 0 0, .slice none 0 0, .slice none 0 0, .slice none 0 0]
    simpa using this
  have hbB : Below W0.heap.size W0 (W0.alloc (.cells #[.slice none 0 0, .slice none 0 0, .slice none 0 0, .slice none 0 0, .slice none 0 0] 29)) := (Below.refl _ _).alloc (Nat.le_refl _) _
  have R0 : RC w (W0.alloc (.cells #[.slice none 0 0, .slice none 0 0, .slice none 0 0, .slice none 0 0, .slice none 0 0] 29)) W0.heap.size w.heap.size (w.heap.size + 1) W0.heap.size V Vs.zero ⟨[], [], [], [], []⟩ :=
    ⟨⟨⟨by omega, by omega⟩, by omega, by simp⟩, k_later hbB hV0, k_later hbB hZ0, k_then hbB hb0, SB.start _ _ _ _ (Whole.new W0 _ _) (Nat.le_refl _)⟩
  have HR0 := Lib.hid R0
  have HW0 := Lib.hid (And.intro hW0 hs0)
  have HSM := Lib.hid hm
  have HSC := Lib.hid h
  have HPL := Lib.hid hpl
  clear hW0 hb0 hV0 hZ0 h hm hpl hs0 hbB R0
  go_enter Try.func11, Try.ntmps11
  go_upto_region 2 with fail
  have eW := HW0.out.1
  have eZ : w.heap.size + 1 + 1 = W0.heap.size := by have := HW0.out.2; omega
  rw [← eW, eZ]
  have R0 := HR0.out
  clear HR0 eW eZ
  generalize W0.alloc (.cells #[.slice none 0 0, .slice none 0 0, .slice none 0 0, .slice none 0 0, .slice none 0 0] 29) = A0 at *
  generalize W0.heap.size = B at *
  have HRa := Lib.hid R0
  clear R0 HW0
  have c1 : A0.cell? ⟨B, 0, none⟩ = some (.slice none 0 0) := (uc5 HRa.out.sb.box).1.1
  have c2 : A0.cell? ⟨w.heap.size, 0, none⟩ = some (.slice V.r.A V.r.n V.r.c) := (sc5 HRa.out.script).1
  go_upto_region 3 with (at_builtin; refine wpList_append_nil _ rfl (.tmp 8) (.tmp 10) 24 rfl 52 i0 (.agg #[.int .i64 0, .int .i64 0]) 2 16 Try.underlying24 q00 q01 q02 q03 rfl (by decide) (cells := rateC) (fun _ => rfl) c1_rate V.r s.rates rfl rfl (HSC.out.later HRa.out.below).r HSM.out.1.1 (by decide) ?_; intro p0 q0 z0 w1 ho hb; have c3 := (uc5 (HRa.out.later hb).sb.box).1.1; have c4 := (uc5 (HRa.out.later hb).sb.box).1.2; have HRb := Lib.hid (HRa.out.put0 hb ho); clear ho hb c1 c2)
  clear c3 c4 HRa
  generalize w1.setCell ⟨B, 0, none⟩ (.slice p0 q0 z0) = A1 at *
  clear w1
  have c1 : A1.cell? ⟨B, 1, none⟩ = some (.slice none 0 0) := (uc5 HRb.out.sb.box).2.1.1
  have c2 : A1.cell? ⟨w.heap.size, 1, none⟩ = some (.slice V.o.A V.o.n V.o.c) := (sc5 HRb.out.script).2.1
  go_upto_region 4 with (at_builtin; refine wpList_append_nil _ rfl (.tmp 14) (.tmp 16) 25 rfl 2 i1 (.int .i64 0) 1 8 Try.underlying25 q10 q11 q12 q13 rfl (by decide) (cells := numC) (fun _ => rfl) c1_int V.o s.on rfl rfl (HSC.out.later HRb.out.below).o HSM.out.1.2 (by decide) ?_; intro p1 q1 z1 w1 ho hb; have c3 := (uc5 (HRb.out.later hb).sb.box).2.1.1; have c4 := (uc5 (HRb.out.later hb).sb.box).2.1.2; have HRc := Lib.hid (HRb.out.put1 hb ho); clear ho hb c1 c2)
  clear c3 c4 HRb
  generalize w1.setCell ⟨B, 1, none⟩ (.slice p1 q1 z1) = A2 at *
  clear w1
  have c1 : A2.cell? ⟨B, 2, none⟩ = some (.slice none 0 0) := (uc5 HRc.out.sb.box).2.2.1.1
  have c2 : A2.cell? ⟨w.heap.size, 2, none⟩ = some (.slice V.d.A V.d.n V.d.c) := (sc5 HRc.out.script).2.2.1
  go_upto_region 5 with (at_builtin; refine wpList_append_nil _ rfl (.tmp 20) (.tmp 22) 25 rfl 2 i1 (.int .i64 0) 1 8 Try.underlying25 q10 q11 q12 q13 rfl (by decide) (cells := numC) (fun _ => rfl) c1_int V.d s.delays rfl rfl (HSC.out.later HRc.out.below).d HSM.out.2.1.1 (by decide) ?_; intro p2 q2 z2 w1 ho hb; have c3 := (uc5 (HRc.out.later hb).sb.box).2.2.1.1; have c4 := (uc5 (HRc.out.later hb).sb.box).2.2.1.2; have HRd := Lib.hid (HRc.out.put2 hb ho); clear ho hb c1 c2)
  clear c3 c4 HRc
  generalize w1.setCell ⟨B, 2, none⟩ (.slice p2 q2 z2) = A3 at *
  clear w1
  have c1 : A3.cell? ⟨B, 4, none⟩ = some (.slice none 0 0) := (uc5 HRd.out.sb.box).2.2.2.2.1
  have c2 : A3.cell? ⟨w.heap.size, 4, none⟩ = some (.slice V.f.A V.f.n V.f.c) := (sc5 HRd.out.script).2.2.2.2
  go_upto_region 6 with (at_builtin; refine wpList_append_nil _ rfl (.tmp 26) (.tmp 28) 27 rfl 54 i4 (.agg #[.int .i64 0, .int .i64 0, .int .i64 0, .int .i64 0, .bool false]) 5 40 Try.underlying27 q40 q41 q42 q43 rfl (by decide) (cells := ftC) (fun _ => rfl) c1_ft V.f s.faults rfl rfl (HSC.out.later HRd.out.below).f HSM.out.2.2 (by decide) ?_; intro p4 q4 z4 w1 ho hb; have c3 := (uc5 (HRd.out.later hb).sb.box).2.2.2.2.1; have c4 := (uc5 (HRd.out.later hb).sb.box).2.2.2.2.2; have HRe := Lib.hid (HRd.out.put4 hb ho); clear ho hb c1 c2)
  clear c3 c4 HRd
  generalize w1.setCell ⟨B, 4, none⟩ (.slice p4 q4 z4) = A4 at *
  clear w1
  have HRS := Lib.hid (show RC w A4 B w.heap.size (w.heap.size + 1) B V ⟨.slice p0 q0 z0, .slice p1 q1 z1, .slice p2 q2 z2, .slice none 0 0, .slice p4 q4 z4⟩ ⟨s.rates, s.on, s.delays, [], s.faults⟩ from HRe.out)
  clear HRe q00 q01 q02 q03 q10 q11 q12 q13 q40 q41 q42 q43
  go_wp2
  go_loopw [4] (fun iv wr => ∃ (k : Nat) (U : Vs) (hs : List HpA), k ≤ V.h.n ∧ iv = .int .i64 (k : Int) ∧ RC w wr B w.heap.size (w.heap.size + 1) B V U ⟨s.rates, s.on, s.delays, hs, s.faults⟩ ∧ hs.length = k ∧ hs.map HpA.hp = (s.haps.take k).map HpA.hp) (fun iv _ => V.h.n - (intOf iv).toNat)
  case atStart => exact ⟨0, _, [], Nat.zero_le _, rfl, HRS.out, rfl, rfl⟩
  case round =>
    obtain ⟨k, U, hs, hk, rfl, hR, hkl, hhs⟩ := hrel
    obtain ⟨v0, v1, v2, v3, v4⟩ := U
    obtain ⟨b0', e0, f0, rfl⟩ := own_val hR.sb.r0
    obtain ⟨b1, e1, f1, rfl⟩ := own_val hR.sb.r1
    obtain ⟨b2, e2, f2, rfl⟩ := own_val hR.sb.r2
    obtain ⟨b3, e3, f3', rfl⟩ := own_val hR.sb.r3
    obtain ⟨b4, e4, f4, rfl⟩ := own_val hR.sb.r4
    have HR := Lib.hid hR
    have HH := Lib.hid (And.intro hkl hhs)
    have HN := Lib.hid (And.intro (And.intro HSC.out.h.row.len hk) HSM.out.2.1.2)
    have cV : wr.cell? ⟨w.heap.size, 3, none⟩ = some (.slice V.h.A V.h.n V.h.c) := (sc5 hR.script).2.2.2.1
    clear hkl hhs HRS
    by_cases hlt : k < V.h.n
    · obtain ⟨g1, p1, hA1, hR1⟩ := (HSC.out.later hR.below).h.row.get (i := k) hlt
      have hkk : k < s.haps.length := by have := HN.out.1.1; omega
      have q1 := (HSC.out.later hR.below).h.pl _ (getD_mem (xs := s.haps) (j := k) hkk)
      have hlp := HPL.out _ (getD_mem (xs := s.haps) (j := k) hkk)
      have htk : (s.haps.take (k + 1)).map HpA.hp = (s.haps.take k).map HpA.hp ++ [(s.haps.getD k default).hp] := by
        rw [List.take_add_one, List.getElem?_eq_getElem hkk, List.map_append, List.getD_eq_getElem?_getD, List.getElem?_eq_getElem hkk]
        rfl
      obtain ⟨x, hx⟩ : ∃ x, x = s.haps.getD k default := ⟨_, rfl⟩
      rw [← hx] at hR1 q1 hlp htk
      obtain ⟨xk, xn, xt, xA, xc, xl⟩ := x
      obtain ⟨c0, c1, c2, c3⟩ := hapC_cells hR1
      dsimp only at c0 c1 c2 c3 q1 hlp
      rw [hA1] at cV
      have i1 : (0 : Int) ≤ (k : Int) := by omega
      have i2 : (k : Int) < (V.h.n : Int) := by omega
      have i5 := HN.out.2
      have hb1 : Below wr.heap.size wr (wr.alloc (.cells #[.int .i64 xk, .int .i64 xn, .int .i64 xt, .slice xA xl.length xc] 47)) := (Below.refl _ _).alloc (Nat.le_refl _) _
      have HB1 := Lib.hid hb1
      have Q1 := Lib.hid (q1.later hb1)
      have HTK := Lib.hid htk
      have HLP := Lib.hid hlp
      clear hR hA1 hR1 hkk hx hb1 q1 htk hlp
      go_wp2_with (first
        | (go_at_call 12; refine (twin_any xA xl.length xc xl _ Q1.out.src (by have := HLP.out; omega)).mono ?_; rintro e w1 ⟨v, rfl, ho, hb⟩; obtain ⟨p, q, z, rfl⟩ := own_val ho; obtain ⟨eq, hpl⟩ := twin_pl ho; subst eq
           have hW1 := k_later hb (Whole.new wr 47 #[.int .i64 xk, .int .i64 xn, .int .i64 xt, .slice xA xl.length xc])
           have f3 := hW1.frozen 3
           have y3 : w1.cell? ⟨wr.heap.size, 3, none⟩ = some (.slice xA xl.length xc) := hW1.cell 3
           have hW2 : Whole (w1.setCell ⟨wr.heap.size, 3, none⟩ (.slice p xl.length z)) wr.heap.size 47 #[.int .i64 xk, .int .i64 xn, .int .i64 xt, .slice p xl.length z] := hW1.set 3 _
           have d0 := hW2.cell 0
           have d1 := hW2.cell 1
           have d2 := hW2.cell 2
           have d3 := hW2.cell 3
           have d0 : (w1.setCell ⟨wr.heap.size, 3, none⟩ (.slice p xl.length z)).cell? ⟨wr.heap.size, 0, none⟩ = some (.int .i64 xk) := d0
           have d1 : (w1.setCell ⟨wr.heap.size, 3, none⟩ (.slice p xl.length z)).cell? ⟨wr.heap.size, 1, none⟩ = some (.int .i64 xn) := d1
           have d2 : (w1.setCell ⟨wr.heap.size, 3, none⟩ (.slice p xl.length z)).cell? ⟨wr.heap.size, 2, none⟩ = some (.int .i64 xt) := d2
           have d3 : (w1.setCell ⟨wr.heap.size, 3, none⟩ (.slice p xl.length z)).cell? ⟨wr.heap.size, 3, none⟩ = some (.slice p xl.length z) := d3
           have hb2 : Below wr.heap.size wr (w1.setCell ⟨wr.heap.size, 3, none⟩ (.slice p xl.length z)) := (k_then hb HB1.out).setCell (Nat.le_refl _) _
           have HB3 := Lib.hid (hb2.alloc hb2.size (.cells #[.int .i64 xk, .int .i64 xn, .int .i64 xt, .slice p xl.length z] 47))
           have u3 : (w1.setCell ⟨wr.heap.size, 3, none⟩ (.slice p xl.length z)).cell? ⟨B, 3, none⟩ = some (.slice b3 e3 f3') := (uc5 (HR.out.later hb2).sb.box).2.2.2.1.1
           have HY := Lib.hid (pl_over (i := 3) (u := .slice p xl.length z) (o := .cells #[.int .i64 xk, .int .i64 xn, .int .i64 xt, .slice p xl.length z] 47) (hpl ⟨xk, xn, xt, p, z, xl⟩ rfl rfl rfl) hW1)
           have hnw := new_cells (w1.setCell ⟨wr.heap.size, 3, none⟩ (.slice p xl.length z)) #[.int .i64 xk, .int .i64 xn, .int .i64 xt, .slice p xl.length z] 47
           rw [show (w1.setCell ⟨wr.heap.size, 3, none⟩ (.slice p xl.length z)).heap.size = w1.heap.size from by simp [World.setCell]] at hnw
           have HNW := Lib.hid (show ∀ j u, (hapC ⟨xk, xn, xt, p, z, xl⟩)[j]? = some u → ((w1.setCell ⟨wr.heap.size, 3, none⟩ (.slice p xl.length z)).alloc (.cells #[.int .i64 xk, .int .i64 xn, .int .i64 xt, .slice p xl.length z] 47)).cell? ((⟨w1.heap.size, 0, none⟩ : Addr).add j) = some u from hnw)
           clear ho hb hpl hW1 hW2 hb2 hnw)
        | (at_builtin; go_loud (refine wpList_append_own_at _ rfl (.tmp 48) (.tmp 50) 26 rfl B 47 i3 (.agg #[.int .i64 0, .int .i64 0, .int .i64 0, .slice none 0 0]) 4 48 Try.underlying26 q30 q31 q32 q33 rfl (by decide) (.slice b3 e3 f3') hs.length (hs.flatMap hapC) rfl (HR.out.later HB3.out).sb.r3 _ 1 1 (hapC ⟨xk, xn, xt, p, z, xl⟩) rfl rfl HNW.out (c1_hap _) (by have := HH.out.1; simp only [maxLen]; omega) (by have := HH.out.1; omega) (HR.out.later HB3.out).lo.2.2 ?_); intro v' w4 h1 h2 _ h3
           obtain ⟨b9, e9, f9, rfl⟩ := own_val h1
           have hB4 := (HR.out.later HB3.out).sb.box.grown h2 ((HR.out.later HB3.out).sb.box.not_row (by decide) (HR.out.later HB3.out).sb.r3)
           have HC := Lib.hid (HR.out.hap ⟨xk, xn, xt, p, z, xl⟩ HB3.out ⟨HY.out.1, fun ad e => ⟨by have := (HY.out.2 ad e).1; simp at this; omega, (HY.out.2 ad e).2⟩⟩ h1 h2 h3)
           have u4 : w4.cell? ⟨B, 3, none⟩ = some (.slice b3 e3 f3') := (uc5 hB4).2.2.2.1.1
           have u5 : w4.frozen? ⟨B, 3, none⟩ = false := (uc5 hB4).2.2.2.1.2
           clear h1 h2 h3 hB4))
      go_roundw
      case rel =>
        refine ⟨k + 1, _, hs ++ [⟨xk, xn, xt, p, z, xl⟩], by omega, by go_num, HC.out, by rw [List.length_append, HH.out.1]; rfl, ?_⟩
        rw [List.map_append, HH.out.2, HTK.out]
        rfl
      case measure => simp [intOf]; omega
    · obtain rfl : k = V.h.n := by omega
      have hinfo : (Try.prog.info? 29).map (·.size) = some (#[Value.slice b0' e0 f0, .slice b1 e1 f1, .slice b2 e2 f2, .slice b3 e3 f3', .slice b4 e4 f4]).size := by show _ = some 5; kernel_rfl
      have hone : (#[Value.slice b0' e0 f0, .slice b1 e1 f1, .slice b2 e2 f2, .slice b3 e3 f3', .slice b4 e4 f4]).all (·.oneCell') = true := by simp [Value.oneCell']
      have HLO := Lib.hid hR.lo.2.1
      have HFIN := Lib.hid (hR.fin (by omega) (#[Value.slice b0' e0 f0, .slice b1 e1 f1, .slice b2 e2 f2, .slice b3 e3 f3', .slice b4 e4 f4]))
      have HZr := Lib.hid hR.res
      have HIN := Lib.hid hinfo
      have HON := Lib.hid hone
      have HBO := Lib.hid (show Whole wr B 29 #[.slice b0' e0 f0, .slice b1 e1 f1, .slice b2 e2 f2, .slice b3 e3 f3', .slice b4 e4 f4] from hR.sb.box)
      clear hR hinfo hone
      go_wp2_with (first
        | (refine wpList_load_row rfl 29 (.tmp 3) rfl B rfl 29 #[.slice b0' e0 f0, .slice b1 e1 f1, .slice b2 e2 f2, .slice b3 e3 f3', .slice b4 e4 f4] (0, 0) _ HBO.out Try.underlying29 rfl HIN.out ?_)
        | (refine wpList_store_row rfl 29 (.tmp 2) (.tmp 53) rfl (w.heap.size + 1) #[.slice b0' e0 f0, .slice b1 e1 f1, .slice b2 e2 f2, .slice b3 e3 f3', .slice b4 e4 f4] rfl rfl 29 #[.slice none 0 0, .slice none 0 0, .slice none 0 0, .slice none 0 0, .slice none 0 0] HZr.out HIN.out rfl HON.out ?_))
      refine bodyPost_ret (v := .agg #[.slice b0' e0 f0, .slice b1 e1 f1, .slice b2 e2 f2, .slice b3 e3 f3', .slice b4 e4 f4]) (r_results0 rfl _ _ (w.heap.size + 1) 29 #[.slice b0' e0 f0, .slice b1 e1 f1, .slice b2 e2 f2, .slice b3 e3 f3', .slice b4 e4 f4] (0, 0) _ rfl (r_row_whole HZr.out) Try.underlying29 rfl HIN.out) rfl ⟨_, _, B, B, rfl, HFIN.out.1, ?_, HFIN.out.2, HLO.out⟩
      show (⟨s.rates, s.on, s.delays, hs.map HpA.hp, s.faults⟩ : Sc) = ⟨s.rates, s.on, s.delays, s.haps.map HpA.hp, s.faults⟩
      rw [HH.out.2, List.take_of_length_le (by have := HN.out.1.1; omega)]
end Go.Proofs.Ytljcaigaofalbaa

namespace Go.Proofs.Ytljcaigaofalbaa
open Go.RowKit Go.Shelf

section
variable {A A' : World} {G : Nat → Prop} {b0 B : Nat} {V : Vs} {s : ScA}
theorem SB.set0 (h : SB A G b0 B V s) {g : Nat} (hg : V.v0.ownBlock = some g) (i : Nat) (u : Value) (xs' : List (Int × Int)) (hl : xs'.length = s.rates.length) (hc : (s.rates.flatMap rateC).set i u = xs'.flatMap rateC) : SB (A.setCell ⟨g, i, none⟩ u) G b0 B V { s with rates := xs' } := by
  have kk : Kept (fun j => j = g) A (A.setCell ⟨g, i, none⟩ u) := Kept.setCell (S := fun j => j = g) (Kept.refl _ A) (p := ⟨g, i, none⟩) (.inl rfl) _
  obtain ⟨_, cg, hgt⟩ := own_typed h.r0 hg
  have hr := ownsRow_set h.r0 hg i u
  rw [hc, ← hl] at hr
  refine ⟨h.box.kept kk (fun e3 => by have e3 : B = g := e3; subst e3; exact typed_apart (show A.heap[B]? = _ from h.box) hgt (by decide) rfl), h.gbox, hr, h.g0, ownsRow_kept h.r1 kk (fun g2 e2 e3 => by have e3 : g2 = g := e3; subst e3; obtain ⟨_, c2, p2⟩ := own_typed h.r1 e2; exact typed_apart p2 hgt (by decide) rfl), h.g1, ownsRow_kept h.r2 kk (fun g2 e2 e3 => by have e3 : g2 = g := e3; subst e3; obtain ⟨_, c2, p2⟩ := own_typed h.r2 e2; exact typed_apart p2 hgt (by decide) rfl), h.g2, ownsRow_kept h.r3 kk (fun g2 e2 e3 => by have e3 : g2 = g := e3; subst e3; obtain ⟨_, c2, p2⟩ := own_typed h.r3 e2; exact typed_apart p2 hgt (by decide) rfl), h.g3, ownsRow_kept h.r4 kk (fun g2 e2 e3 => by have e3 : g2 = g := e3; subst e3; obtain ⟨_, c2, p2⟩ := own_typed h.r4 e2; exact typed_apart p2 hgt (by decide) rfl), h.g4, h.far, fun a ha => ?_⟩
  obtain ⟨p1, p2⟩ := h.pl a ha
  have ne : ∀ ad, a.A = some ad → ¬ ad.block = g := fun ad e e3 => by
    obtain ⟨c2, q2⟩ := (p2 ad e).2
    exact typed_apart q2 (e3 ▸ hgt) (by decide) rfl
  exact ⟨p1.kept kk ne, fun ad e => ⟨(p2 ad e).1, (p2 ad e).2.kept kk (ne ad e)⟩⟩
theorem SB.set1 (h : SB A G b0 B V s) {g : Nat} (hg : V.v1.ownBlock = some g) (i : Nat) (u : Value) (xs' : List (Int)) (hl : xs'.length = s.on.length) (hc : (s.on.flatMap numC).set i u = xs'.flatMap numC) : SB (A.setCell ⟨g, i, none⟩ u) G b0 B V { s with on := xs' } := by
  have kk : Kept (fun j => j = g) A (A.setCell ⟨g, i, none⟩ u) := Kept.setCell (S := fun j => j = g) (Kept.refl _ A) (p := ⟨g, i, none⟩) (.inl rfl) _
  obtain ⟨_, cg, hgt⟩ := own_typed h.r1 hg
  have hr := ownsRow_set h.r1 hg i u
  rw [hc, ← hl] at hr
  refine ⟨h.box.kept kk (fun e3 => by have e3 : B = g := e3; subst e3; exact typed_apart (show A.heap[B]? = _ from h.box) hgt (by decide) rfl), h.gbox, ownsRow_kept h.r0 kk (fun g2 e2 e3 => by have e3 : g2 = g := e3; subst e3; obtain ⟨_, c2, p2⟩ := own_typed h.r0 e2; exact typed_apart p2 hgt (by decide) rfl), h.g0, hr, h.g1, ownsRow_kept h.r2 kk (fun g2 e2 e3 => by have e3 : g2 = g := e3; subst e3; exact h.far _ hg e2), h.g2, ownsRow_kept h.r3 kk (fun g2 e2 e3 => by have e3 : g2 = g := e3; subst e3; obtain ⟨_, c2, p2⟩ := own_typed h.r3 e2; exact typed_apart p2 hgt (by decide) rfl), h.g3, ownsRow_kept h.r4 kk (fun g2 e2 e3 => by have e3 : g2 = g := e3; subst e3; obtain ⟨_, c2, p2⟩ := own_typed h.r4 e2; exact typed_apart p2 hgt (by decide) rfl), h.g4, h.far, fun a ha => ?_⟩
  obtain ⟨p1, p2⟩ := h.pl a ha
  have ne : ∀ ad, a.A = some ad → ¬ ad.block = g := fun ad e e3 => by
    obtain ⟨c2, q2⟩ := (p2 ad e).2
    exact typed_apart q2 (e3 ▸ hgt) (by decide) rfl
  exact ⟨p1.kept kk ne, fun ad e => ⟨(p2 ad e).1, (p2 ad e).2.kept kk (ne ad e)⟩⟩
theorem SB.set2 (h : SB A G b0 B V s) {g : Nat} (hg : V.v2.ownBlock = some g) (i : Nat) (u : Value) (xs' : List (Int)) (hl : xs'.length = s.delays.length) (hc : (s.delays.flatMap numC).set i u = xs'.flatMap numC) : SB (A.setCell ⟨g, i, none⟩ u) G b0 B V { s with delays := xs' } := by
  have kk : Kept (fun j => j = g) A (A.setCell ⟨g, i, none⟩ u) := Kept.setCell (S := fun j => j = g) (Kept.refl _ A) (p := ⟨g, i, none⟩) (.inl rfl) _
  obtain ⟨_, cg, hgt⟩ := own_typed h.r2 hg
  have hr := ownsRow_set h.r2 hg i u
  rw [hc, ← hl] at hr
  refine ⟨h.box.kept kk (fun e3 => by have e3 : B = g := e3; subst e3; exact typed_apart (show A.heap[B]? = _ from h.box) hgt (by decide) rfl), h.gbox, ownsRow_kept h.r0 kk (fun g2 e2 e3 => by have e3 : g2 = g := e3; subst e3; obtain ⟨_, c2, p2⟩ := own_typed h.r0 e2; exact typed_apart p2 hgt (by decide) rfl), h.g0, ownsRow_kept h.r1 kk (fun g2 e2 e3 => by have e3 : g2 = g := e3; subst e3; exact h.far _ e2 hg), h.g1, hr, h.g2, ownsRow_kept h.r3 kk (fun g2 e2 e3 => by have e3 : g2 = g := e3; subst e3; obtain ⟨_, c2, p2⟩ := own_typed h.r3 e2; exact typed_apart p2 hgt (by decide) rfl), h.g3, ownsRow_kept h.r4 kk (fun g2 e2 e3 => by have e3 : g2 = g := e3; subst e3; obtain ⟨_, c2, p2⟩ := own_typed h.r4 e2; exact typed_apart p2 hgt (by decide) rfl), h.g4, h.far, fun a ha => ?_⟩
  obtain ⟨p1, p2⟩ := h.pl a ha
  have ne : ∀ ad, a.A = some ad → ¬ ad.block = g := fun ad e e3 => by
    obtain ⟨c2, q2⟩ := (p2 ad e).2
    exact typed_apart q2 (e3 ▸ hgt) (by decide) rfl
  exact ⟨p1.kept kk ne, fun ad e => ⟨(p2 ad e).1, (p2 ad e).2.kept kk (ne ad e)⟩⟩
theorem SB.set3 (h : SB A G b0 B V s) {g : Nat} (hg : V.v3.ownBlock = some g) (i : Nat) (u : Value) (xs' : List (HpA)) (hl : xs'.length = s.haps.length) (hc : (s.haps.flatMap hapC).set i u = xs'.flatMap hapC) (hp : ∀ a ∈ xs', PlAt A a ∧ ∀ ad, a.A = some ad → G ad.block ∧ UB A ad.block) : SB (A.setCell ⟨g, i, none⟩ u) G b0 B V { s with haps := xs' } := by
  have kk : Kept (fun j => j = g) A (A.setCell ⟨g, i, none⟩ u) := Kept.setCell (S := fun j => j = g) (Kept.refl _ A) (p := ⟨g, i, none⟩) (.inl rfl) _
  obtain ⟨_, cg, hgt⟩ := own_typed h.r3 hg
  have hr := ownsRow_set h.r3 hg i u
  rw [hc, ← hl] at hr
  refine ⟨h.box.kept kk (fun e3 => by have e3 : B = g := e3; subst e3; exact typed_apart (show A.heap[B]? = _ from h.box) hgt (by decide) rfl), h.gbox, ownsRow_kept h.r0 kk (fun g2 e2 e3 => by have e3 : g2 = g := e3; subst e3; obtain ⟨_, c2, p2⟩ := own_typed h.r0 e2; exact typed_apart p2 hgt (by decide) rfl), h.g0, ownsRow_kept h.r1 kk (fun g2 e2 e3 => by have e3 : g2 = g := e3; subst e3; obtain ⟨_, c2, p2⟩ := own_typed h.r1 e2; exact typed_apart p2 hgt (by decide) rfl), h.g1, ownsRow_kept h.r2 kk (fun g2 e2 e3 => by have e3 : g2 = g := e3; subst e3; obtain ⟨_, c2, p2⟩ := own_typed h.r2 e2; exact typed_apart p2 hgt (by decide) rfl), h.g2, hr, h.g3, ownsRow_kept h.r4 kk (fun g2 e2 e3 => by have e3 : g2 = g := e3; subst e3; obtain ⟨_, c2, p2⟩ := own_typed h.r4 e2; exact typed_apart p2 hgt (by decide) rfl), h.g4, h.far, fun a ha => ?_⟩
  obtain ⟨p1, p2⟩ := hp a ha
  have ne : ∀ ad, a.A = some ad → ¬ ad.block = g := fun ad e e3 => by
    obtain ⟨c2, q2⟩ := (p2 ad e).2
    exact typed_apart q2 (e3 ▸ hgt) (by decide) rfl
  exact ⟨p1.kept kk ne, fun ad e => ⟨(p2 ad e).1, (p2 ad e).2.kept kk (ne ad e)⟩⟩
theorem SB.set4 (h : SB A G b0 B V s) {g : Nat} (hg : V.v4.ownBlock = some g) (i : Nat) (u : Value) (xs' : List (Ft)) (hl : xs'.length = s.faults.length) (hc : (s.faults.flatMap ftC).set i u = xs'.flatMap ftC) : SB (A.setCell ⟨g, i, none⟩ u) G b0 B V { s with faults := xs' } := by
  have kk : Kept (fun j => j = g) A (A.setCell ⟨g, i, none⟩ u) := Kept.setCell (S := fun j => j = g) (Kept.refl _ A) (p := ⟨g, i, none⟩) (.inl rfl) _
  obtain ⟨_, cg, hgt⟩ := own_typed h.r4 hg
  have hr := ownsRow_set h.r4 hg i u
  rw [hc, ← hl] at hr
  refine ⟨h.box.kept kk (fun e3 => by have e3 : B = g := e3; subst e3; exact typed_apart (show A.heap[B]? = _ from h.box) hgt (by decide) rfl), h.gbox, ownsRow_kept h.r0 kk (fun g2 e2 e3 => by have e3 : g2 = g := e3; subst e3; obtain ⟨_, c2, p2⟩ := own_typed h.r0 e2; exact typed_apart p2 hgt (by decide) rfl), h.g0, ownsRow_kept h.r1 kk (fun g2 e2 e3 => by have e3 : g2 = g := e3; subst e3; obtain ⟨_, c2, p2⟩ := own_typed h.r1 e2; exact typed_apart p2 hgt (by decide) rfl), h.g1, ownsRow_kept h.r2 kk (fun g2 e2 e3 => by have e3 : g2 = g := e3; subst e3; obtain ⟨_, c2, p2⟩ := own_typed h.r2 e2; exact typed_apart p2 hgt (by decide) rfl), h.g2, ownsRow_kept h.r3 kk (fun g2 e2 e3 => by have e3 : g2 = g := e3; subst e3; obtain ⟨_, c2, p2⟩ := own_typed h.r3 e2; exact typed_apart p2 hgt (by decide) rfl), h.g3, hr, h.g4, h.far, fun a ha => ?_⟩
  obtain ⟨p1, p2⟩ := h.pl a ha
  have ne : ∀ ad, a.A = some ad → ¬ ad.block = g := fun ad e e3 => by
    obtain ⟨c2, q2⟩ := (p2 ad e).2
    exact typed_apart q2 (e3 ▸ hgt) (by decide) rfl
  exact ⟨p1.kept kk ne, fun ad e => ⟨(p2 ad e).1, (p2 ad e).2.kept kk (ne ad e)⟩⟩
theorem SB.box_far (h : SB A G b0 B V s) {bt : Nat} {cs : Array Value} (hb : Whole A bt 29 cs) (hk : Kept (fun i => i = bt) A A') (hne : B ≠ bt) : SB A' G b0 B V s := by
  have hbt : A.heap[bt]? = _ := hb
  refine ⟨h.box.kept hk hne, h.gbox, ownsRow_kept h.r0 hk (fun g2 e2 e3 => by have e3 : g2 = bt := e3; subst e3; obtain ⟨_, c2, p2⟩ := own_typed h.r0 e2; exact typed_apart p2 hbt (by decide) rfl), h.g0, ownsRow_kept h.r1 hk (fun g2 e2 e3 => by have e3 : g2 = bt := e3; subst e3; obtain ⟨_, c2, p2⟩ := own_typed h.r1 e2; exact typed_apart p2 hbt (by decide) rfl), h.g1, ownsRow_kept h.r2 hk (fun g2 e2 e3 => by have e3 : g2 = bt := e3; subst e3; obtain ⟨_, c2, p2⟩ := own_typed h.r2 e2; exact typed_apart p2 hbt (by decide) rfl), h.g2, ownsRow_kept h.r3 hk (fun g2 e2 e3 => by have e3 : g2 = bt := e3; subst e3; obtain ⟨_, c2, p2⟩ := own_typed h.r3 e2; exact typed_apart p2 hbt (by decide) rfl), h.g3, ownsRow_kept h.r4 hk (fun g2 e2 e3 => by have e3 : g2 = bt := e3; subst e3; obtain ⟨_, c2, p2⟩ := own_typed h.r4 e2; exact typed_apart p2 hbt (by decide) rfl), h.g4, h.far, fun a ha => ?_⟩
  obtain ⟨p1, p2⟩ := h.pl a ha
  have ne : ∀ ad, a.A = some ad → ¬ ad.block = bt := fun ad e e3 => by
    obtain ⟨c2, q2⟩ := (p2 ad e).2
    exact typed_apart q2 (e3 ▸ hbt) (by decide) rfl
  exact ⟨p1.kept hk ne, fun ad e => ⟨(p2 ad e).1, (p2 ad e).2.kept hk (ne ad e)⟩⟩
end
/-- A copy, made since w: its box at bt, its rows its own; the plan's box at bp. -/
structure Tn (w W : World) (bp bt : Nat) (V : Vs) (s : ScA) : Prop where
  box : Whole W bt 29 V.cells
  plan : Whole W bp 23 planF.cells
  lo : bp < w.heap.size ∧ w.heap.size ≤ bt
  sb : ∃ b0 B, w.heap.size ≤ b0 ∧ B ≠ bt ∧ SB W (fun i => b0 ≤ i) b0 B V s
  bel : Below w.heap.size w W
  sc : s.sc = scN
/-- A script that may not be, in the box at bt; what was there is as it was. -/
def Bad (w W : World) (bt : Nat) : Prop := ∃ (V : ScV) (s : ScA), Whole W bt 29 V.cells ∧ ScAt W V s ∧ mayS planF s.sc = false ∧ Below w.heap.size w W
/-- What a turn answers. -/
def TurnedN (w : World) (bt : Nat) (e : Ending) (w' : World) : Prop := e = .returned (.tuple #[]) ∧ Bad w w' bt
section
variable {w W W' : World} {bp bt : Nat} {V : Vs} {s : ScA}
theorem Tn.later (h : Tn w W bp bt V s) (hb : Below W.heap.size W W') : Tn w W' bp bt V s := by
  obtain ⟨b0, B, q1, q2, q3⟩ := h.sb
  exact ⟨k_later hb h.box, k_later hb h.plan, h.lo, ⟨b0, B, q1, q2, q3.same (Kept.of_below hb _)⟩, k_then hb h.bel, h.sc⟩
theorem Tn.drew (h : Tn w W bp bt V s) : Tn w W.drew bp bt V s := h.later (Below.refl _ _).drew
theorem Bad.drew (h : Bad w W bt) : Bad w W.drew bt := by
  obtain ⟨V, s, h1, h2, h3, h4⟩ := h
  exact ⟨V, s, h1, h2.later (Below.refl _ _).drew, h3, h4.drew⟩
theorem bad_of {G : Nat → Prop} {b0 B : Nat} {s' : ScA} (h : SB W' G b0 B V s') (hb : Whole W' bt 29 V.cells) (hm : mayS planF s'.sc = false) (hw : Below w.heap.size w W') : Bad w W' bt := by
  obtain ⟨S, e1, e2, _⟩ := h.sc
  exact ⟨S, s', by rw [← e1]; exact hb, e2, hm, hw⟩
theorem Tn.set0 (h : Tn w W bp bt V s) {g : Nat} (hg : V.v0.ownBlock = some g) (i : Nat) (u : Value) (xs' : List (Int × Int)) (hl : xs'.length = s.rates.length) (hc : (s.rates.flatMap rateC).set i u = xs'.flatMap rateC) (hm : mayS planF (ScA.sc { s with rates := xs' }) = false) : Bad w (W.setCell ⟨g, i, none⟩ u) bt := by
  obtain ⟨b0, B, q1, q2, q3⟩ := h.sb
  obtain ⟨q4, cg, hgt⟩ := own_typed q3.r0 hg
  refine bad_of (q3.set0 hg i u xs' hl hc) (h.box.far (p := ⟨g, i, none⟩) (fun e3 => ?_) u) hm (h.bel.setCell (Nat.le_trans q1 q4) u)
  have e3 : bt = g := e3
  subst e3
  exact typed_apart (show W.heap[bt]? = _ from h.box) hgt (by decide) rfl
theorem Tn.set1 (h : Tn w W bp bt V s) {g : Nat} (hg : V.v1.ownBlock = some g) (i : Nat) (u : Value) (xs' : List (Int)) (hl : xs'.length = s.on.length) (hc : (s.on.flatMap numC).set i u = xs'.flatMap numC) (hm : mayS planF (ScA.sc { s with on := xs' }) = false) : Bad w (W.setCell ⟨g, i, none⟩ u) bt := by
  obtain ⟨b0, B, q1, q2, q3⟩ := h.sb
  obtain ⟨q4, cg, hgt⟩ := own_typed q3.r1 hg
  refine bad_of (q3.set1 hg i u xs' hl hc) (h.box.far (p := ⟨g, i, none⟩) (fun e3 => ?_) u) hm (h.bel.setCell (Nat.le_trans q1 q4) u)
  have e3 : bt = g := e3
  subst e3
  exact typed_apart (show W.heap[bt]? = _ from h.box) hgt (by decide) rfl
theorem Tn.set2 (h : Tn w W bp bt V s) {g : Nat} (hg : V.v2.ownBlock = some g) (i : Nat) (u : Value) (xs' : List (Int)) (hl : xs'.length = s.delays.length) (hc : (s.delays.flatMap numC).set i u = xs'.flatMap numC) (hm : mayS planF (ScA.sc { s with delays := xs' }) = false) : Bad w (W.setCell ⟨g, i, none⟩ u) bt := by
  obtain ⟨b0, B, q1, q2, q3⟩ := h.sb
  obtain ⟨q4, cg, hgt⟩ := own_typed q3.r2 hg
  refine bad_of (q3.set2 hg i u xs' hl hc) (h.box.far (p := ⟨g, i, none⟩) (fun e3 => ?_) u) hm (h.bel.setCell (Nat.le_trans q1 q4) u)
  have e3 : bt = g := e3
  subst e3
  exact typed_apart (show W.heap[bt]? = _ from h.box) hgt (by decide) rfl
theorem Tn.set3 (h : Tn w W bp bt V s) {g : Nat} (hg : V.v3.ownBlock = some g) (i : Nat) (u : Value) (xs' : List (HpA)) (hl : xs'.length = s.haps.length) (hc : (s.haps.flatMap hapC).set i u = xs'.flatMap hapC) (hp : ∀ b0, w.heap.size ≤ b0 → b0 < W.heap.size → (∀ a ∈ s.haps, PlAt W a ∧ ∀ ad, a.A = some ad → b0 ≤ ad.block ∧ UB W ad.block) → ∀ a ∈ xs', PlAt W a ∧ ∀ ad, a.A = some ad → b0 ≤ ad.block ∧ UB W ad.block) (hm : mayS planF (ScA.sc { s with haps := xs' }) = false) : Bad w (W.setCell ⟨g, i, none⟩ u) bt := by
  obtain ⟨b0, B, q1, q2, q3⟩ := h.sb
  obtain ⟨q4, cg, hgt⟩ := own_typed q3.r3 hg
  refine bad_of (q3.set3 hg i u xs' hl hc (hp b0 q1 (by have h1 := q3.gbox; have h2 := q3.box.lt; have h1 : b0 ≤ B := h1; omega) q3.pl)) (h.box.far (p := ⟨g, i, none⟩) (fun e3 => ?_) u) hm (h.bel.setCell (Nat.le_trans q1 q4) u)
  have e3 : bt = g := e3
  subst e3
  exact typed_apart (show W.heap[bt]? = _ from h.box) hgt (by decide) rfl
theorem Tn.set4 (h : Tn w W bp bt V s) {g : Nat} (hg : V.v4.ownBlock = some g) (i : Nat) (u : Value) (xs' : List (Ft)) (hl : xs'.length = s.faults.length) (hc : (s.faults.flatMap ftC).set i u = xs'.flatMap ftC) (hm : mayS planF (ScA.sc { s with faults := xs' }) = false) : Bad w (W.setCell ⟨g, i, none⟩ u) bt := by
  obtain ⟨b0, B, q1, q2, q3⟩ := h.sb
  obtain ⟨q4, cg, hgt⟩ := own_typed q3.r4 hg
  refine bad_of (q3.set4 hg i u xs' hl hc) (h.box.far (p := ⟨g, i, none⟩) (fun e3 => ?_) u) hm (h.bel.setCell (Nat.le_trans q1 q4) u)
  have e3 : bt = g := e3
  subst e3
  exact typed_apart (show W.heap[bt]? = _ from h.box) hgt (by decide) rfl
theorem Tn.box1 (h : Tn w W bp bt V s) (sl : Sl) (xs' : List Int) (hr : ∀ W2, Kept (fun i => i = bt) W W2 → RSrc numC 1 W2 sl xs') (hm : mayS planF (ScA.sc { s with on := xs' }) = false) : Bad w (W.setCell ⟨bt, 1, none⟩ sl.v) bt := by
  obtain ⟨b0, B, q1, q2, q3⟩ := h.sb
  have hk : Kept (fun i => i = bt) W (W.setCell ⟨bt, 1, none⟩ sl.v) := Kept.setCell (S := fun i => i = bt) (Kept.refl _ W) (p := ⟨bt, 1, none⟩) (.inl rfl) _
  obtain ⟨S, e1, e2, _⟩ := (q3.box_far h.box hk q2).sc
  have hV := congrArg (fun a : Array Value => a.toList) e1
  simp only [Vs.cells, ScV.cells, List.cons.injEq, and_true] at hV
  obtain ⟨x0, x1, x2, x3, x4⟩ := hV
  refine ⟨{ S with o := sl }, { s with on := xs' }, ?_, ⟨e2.r, hr _ hk, e2.d, e2.h, e2.f⟩, hm, h.bel.setCell h.lo.2 _⟩
  have := h.box.set 1 sl.v
  have e9 : V.cells.setIfInBounds 1 sl.v = ScV.cells { S with o := sl } := by
    simp [Vs.cells, ScV.cells, x0, x1, x2, x3, x4]
  rw [e9] at this
  exact this
theorem Tn.box4 (h : Tn w W bp bt V s) (sl : Sl) (xs' : List Ft) (hr : ∀ W2, Kept (fun i => i = bt) W W2 → RSrc ftC 5 W2 sl xs') (hm : mayS planF (ScA.sc { s with faults := xs' }) = false) : Bad w (W.setCell ⟨bt, 4, none⟩ sl.v) bt := by
  obtain ⟨b0, B, q1, q2, q3⟩ := h.sb
  have hk : Kept (fun i => i = bt) W (W.setCell ⟨bt, 4, none⟩ sl.v) := Kept.setCell (S := fun i => i = bt) (Kept.refl _ W) (p := ⟨bt, 4, none⟩) (.inl rfl) _
  obtain ⟨S, e1, e2, _⟩ := (q3.box_far h.box hk q2).sc
  have hV := congrArg (fun a : Array Value => a.toList) e1
  simp only [Vs.cells, ScV.cells, List.cons.injEq, and_true] at hV
  obtain ⟨x0, x1, x2, x3, x4⟩ := hV
  refine ⟨{ S with f := sl }, { s with faults := xs' }, ?_, ⟨e2.r, e2.o, e2.d, e2.h, hr _ hk⟩, hm, h.bel.setCell h.lo.2 _⟩
  have := h.box.set 4 sl.v
  have e9 : V.cells.setIfInBounds 4 sl.v = ScV.cells { S with f := sl } := by
    simp [Vs.cells, ScV.cells, x0, x1, x2, x3, x4]
  rw [e9] at this
  exact this
theorem Tn.open (h : Tn w W bp bt V s) : ∃ g0 z0 g1 z1 g2 z2 g3 z3 g4 z4 A1 c1 A2 c2, V = ⟨.slice (some ⟨g0, 0, none⟩) 4 z0, .slice (some ⟨g1, 0, none⟩) 4 z1, .slice (some ⟨g2, 0, none⟩) 2 z2, .slice (some ⟨g3, 0, none⟩) 2 z3, .slice (some ⟨g4, 0, none⟩) 2 z4⟩ ∧ s = ⟨[(65542, 65536), (65530, 65536), (65530, 65536), (65530, 65536)], [0, -1, -1, -1], [4, 0], [⟨2, 1, 258, A1, c1, [104, 105]⟩, ⟨0, 3, 38155, A2, c2, []⟩], [⟨2, 256, 4, 3, true⟩, ⟨2, 256, 1, 1, false⟩]⟩ := by
  obtain ⟨b0, B, q1, q2, q3⟩ := h.sb
  have hsc := h.sc
  obtain ⟨r, o, d, hs, f⟩ := s
  have e0 : r = [(65542, 65536), (65530, 65536), (65530, 65536), (65530, 65536)] := congrArg Sc.rates hsc
  have e1 : o = [0, -1, -1, -1] := congrArg Sc.on hsc
  have e2 : d = [4, 0] := congrArg Sc.delays hsc
  have e3 : hs.map HpA.hp = [⟨2, 1, 258, [104, 105]⟩, ⟨0, 3, 38155, []⟩] := congrArg Sc.haps hsc
  have e4 : f = [⟨2, 256, 4, 3, true⟩, ⟨2, 256, 1, 1, false⟩] := congrArg Sc.faults hsc
  subst e0 e1 e2 e4
  obtain ⟨h1, hs, rfl⟩ : ∃ a t, hs = a :: t := by
    cases hs with
    | nil => simp at e3
    | cons a t => exact ⟨_, _, rfl⟩
  obtain ⟨h2, hs, rfl⟩ : ∃ a t, hs = a :: t := by
    cases hs with
    | nil => simp at e3
    | cons a t => exact ⟨_, _, rfl⟩
  obtain rfl : hs = [] := by
    cases hs with
    | nil => rfl
    | cons a t => simp at e3
  obtain ⟨k1, n1, t1, A1, c1, p1⟩ := h1
  obtain ⟨k2, n2, t2, A2, c2, p2⟩ := h2
  simp only [HpA.hp, List.map_cons, List.map_nil, List.cons.injEq, Hp.mk.injEq, and_true] at e3
  obtain ⟨⟨rfl, rfl, rfl, rfl⟩, rfl, rfl, rfl, rfl⟩ := e3
  obtain ⟨v0, v1, v2, v3, v4⟩ := V
  obtain ⟨g0, z0, rfl, _⟩ := own_some q3.r0 (by show 0 < 4; decide)
  obtain ⟨g1, z1, rfl, _⟩ := own_some q3.r1 (by show 0 < 4; decide)
  obtain ⟨g2, z2, rfl, _⟩ := own_some q3.r2 (by show 0 < 2; decide)
  obtain ⟨g3, z3, rfl, _⟩ := own_some q3.r3 (by show 0 < 2; decide)
  obtain ⟨g4, z4, rfl, _⟩ := own_some q3.r4 (by show 0 < 2; decide)
  exact ⟨_, _, _, _, _, _, _, _, _, _, _, _, _, _, rfl, rfl⟩
theorem own_cell {W : World} {b k n m z g : Nat} {e : TypeId} {xs : List Value} (h : W.ownsRow b e k (.slice (some ⟨g, 0, none⟩) m z) n xs) (j : Nat) (u : Value) (hj : xs[j]? = some u) : W.cell? ⟨g, j, none⟩ = some u ∧ W.frozen? ⟨g, j, none⟩ = false := by
  have h1 := h.cells (g := g) rfl j u hj
  rw [plain_add, Nat.zero_add] at h1
  obtain ⟨_, cur, hc⟩ := own_typed h (g := g) rfl
  exact ⟨h1, Whole.frozen (t := e) (cs := cur) hc j⟩
end
end Go.Proofs.Ytljcaigaofalbaa
