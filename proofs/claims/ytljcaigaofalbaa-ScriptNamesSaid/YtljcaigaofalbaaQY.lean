/- four and alive, of script's laws, by contracts; what Decode answers, read. No condition. | alive, of script's laws, by a contract. No condition. -/
import Derived.Test.YtljcaigaofalbaaQV
import Derived.Test.YtljcaigaofalbaaQX
import Derived.Test.YtljcaigaofalbaaQK
import Derived.Test.YtljcaigaofalbaaQI
import Derived.Test.YtljcaigaofalbaaQA
namespace Go.Proofs.Ytljcaigaofalbaa
open Go.RowKit Go.Shelf

theorem p_below_row {B : Nat} {a w : World} (h : Below B a w) {g : Nat} (hg : B ≤ g) (cs : Array Value) : Below B a (w.setRow g cs) := by
  refine ⟨h.os, h.tape, h.output, by rw [size_setRow]; exact h.size, fun k hk => ?_⟩
  refine Eq.trans ?_ (h.block k hk)
  simp only [World.setRow, Array.getElem?_modify]
  rw [if_neg (by omega)]
theorem p_row_whole {w : World} {g : Nat} {t : TypeId} {cs ds : Array Value} (h : Whole w g t ds) : Whole (w.setRow g cs) g t cs := setRow_heap _ _ _ _ _ _ h
/-- Decode's answer, read. -/
theorem Decode_sc (x : Pl) (hf : failsL x 11 = 0) (A : Option Addr) (n c : Nat) (b : List UInt8) (w : World) (hs : Src w A n b) (hz : A = none → c = 0) (hn : n ≤ 65536) :
    Calls Try.prog 15 #[.agg x.cells, .slice A n c] w fun e w' => ∃ (V : ScV) (s : ScA), e = .returned (.tuple #[.agg V.cells, .int .i64 0]) ∧ ScAt w' V s ∧ s.sc = decS x b ∧ Below w.heap.size w w' := by
  refine (Decode_any x A n c b w hs hz).mono fun e w' h => ?_
  rw [if_pos ⟨hf, hn⟩] at h
  obtain ⟨V, s, G, B, rfl, hsb, _, hsc, hb⟩ := h
  obtain ⟨S, e1, e2, _⟩ := hsb.sc
  exact ⟨S, s, by rw [e1], e2, hsc, hb⟩
theorem ScV.one (V : ScV) : V.cells.all (·.oneCell') = true := by simp [ScV.cells, Sl.v, Value.oneCell']
theorem info_script : (Try.prog.info? 29).map (·.size) = some 5 := by kernel_rfl
theorem ScV.info (V : ScV) : (Try.prog.info? 29).map (·.size) = some V.cells.size := info_script

/-- The laws' wishes, and the least plan for them. -/
def wishF : Pl := ⟨4, 1, 0, 0, 0, 2, 1, 5, 10000, 0, 0, 0, 4, 2, 8, 0⟩
def planF : Pl := ⟨4, 1, 578, 278, 108, 2, 1, 5, 10000, 98, 72, 11756, 4, 2, 8, 92480⟩
theorem wishF_fitok : FitOk wishF 578 := by
  refine ⟨⟨by omega, by omega⟩, by decide, fun l h1 h2 h => ?_, fun j a b => ?_, ⟨⟨by decide, by decide⟩, by decide⟩, by decide⟩
  · rw [need_w, lPi_w, lCap_w] at h
    have e1 : gL (wishL wishF l) = 2 * (2 * (4 * l) / 10000 + 4) := rfl
    have e2 : aL (wishL wishF l) = 2 * (eL wishF + gL (wishL wishF l)) := rfl
    have e3 : eL wishF = 10 := rfl
    have e4 : wishF.dmax = 5 := rfl
    have e5 : wishF.air = 2 := rfl
    omega
  · have : j = 1 ∨ j = 2 ∨ j = 3 ∨ j = 4 ∨ j = 5 ∨ j = 6 ∨ j = 7 ∨ j = 8 ∨ j = 9 ∨ j = 10 ∨ j = 11 := by omega
    rcases this with rfl | rfl | rfl | rfl | rfl | rfl | rfl | rfl | rfl | rfl | rfl <;> decide
theorem wishF_fit : fitV wishF = .tuple #[.agg planF.cells, .int .i64 0] := by
  rw [fitV, (fit_yes wishF_fitok).1, (fit_yes wishF_fitok).2]
  rfl
theorem failsF : failsL planF 11 = 0 := by decide

set_option maxRecDepth 100000 in
set_option maxHeartbeats 1000000 in
theorem four_any (w : World) : Calls Try.prog 26 #[] w fun e w' => e = .returned (.tuple #[.agg planF.cells, .bool true]) ∧ Below w.heap.size w w' := by
  have hf := fun W => Fit_any wishF W
  rw [wishF_fit] at hf
  have HF := Lib.hid hf
  have HS := Lib.hid planF.cellsL
  have HB := Lib.hid ((Below.refl w.heap.size w).alloc (Nat.le_refl _) (.cells zeroL.cells 23))
  have HR := Lib.hid (Whole.new w 23 zeroL.cells)
  clear hf
  generalize planF.cells = cs at *
  go_enter Try.func26, Try.ntmps26
  go_wp2_with (first
    | (go_at_call 77; refine (HF.out _).mono ?_; rintro e w1 ⟨rfl, hb1⟩; have HB1 := Lib.hid ((k_then hb1 HB.out).alloc (k_then hb1 HB.out).size (.cells cs 23)); have HR1 := Lib.hid ((k_later hb1 HR.out).alloc (.cells cs 23)); have HX1 := Lib.hid (Whole.new w1 23 cs); clear hb1)
    | (refine wpList_store_last (w := w1) rfl 23 (.tmp 2) (.tmp 7) rfl _ cs rfl rfl 23 _ rfl HS.out.plan HS.out.size.symm HS.out.one ?_)
    | (refine wpList_load_row rfl 23 (.tmp 2) rfl w1.heap.size rfl 23 cs (0, 0) _ HX1.out Try.underlying23 rfl HS.out.plan ?_)
    | (refine wpList_store_row rfl 23 (.tmp 0) (.tmp 9) rfl w.heap.size cs rfl rfl 23 zeroL.cells HR1.out HS.out.plan HS.out.size.symm HS.out.one ?_))
  refine bodyPost_ret (v := .tuple #[.agg cs, .bool true]) (results_cell_tmp rfl _ _ w.heap.size 23 cs (0, 0) _ rfl rfl (p_row_whole HR1.out) Try.underlying23 rfl HS.out.plan) rfl ⟨rfl, p_below_row HB1.out (Nat.le_refl _) _⟩
end Go.Proofs.Ytljcaigaofalbaa

namespace Go.Proofs.Ytljcaigaofalbaa
open Go.RowKit Go.Shelf

theorem decF : decS planF [] = ⟨[(65530, 65536), (65530, 65536), (65530, 65536), (65530, 65536)], [-1, -1, -1, -1], [], [], []⟩ := by kernel_rfl
theorem delayF : delayS planF (decS planF []) 1 7 2 1 = 1 := by kernel_rfl
theorem heardFF : heardS planF (decS planF []) 1 7 2 1 = 0 := by kernel_rfl

set_option maxRecDepth 100000 in
set_option maxHeartbeats 4000000 in
theorem aliveS_any (w : World) : Calls Try.prog 43 #[] w fun e w' => e = .returned (.bool true) ∧ Below w.heap.size w w' := by
  have HF := Lib.hid (fun W => four_any W)
  have HD := Lib.hid (fun W => Decode_sc planF failsF none 0 0 [] W (Src.nil W none) (fun _ => rfl) (by decide))
  have HS := Lib.hid planF.cellsL
  obtain ⟨cs, hcs⟩ : ∃ cs, cs = planF.cells := ⟨_, rfl⟩
  have HDl := Lib.hid (fun V s W (hW : ScAt W V s) => Delay_any planF V s 1 7 2 1 W hW)
  have HHd := Lib.hid (fun V s W (hW : ScAt W V s) => Heard_any planF V s 1 7 2 1 W hW)
  rw [← hcs] at HF HD HS HDl HHd
  clear hcs
  have qE := fun W => rate_eql (65530, 65536) (65530, 65536) W
  rw [decide_eq_true rfl] at qE
  dsimp only at qE
  go_enter Try.func43, Try.ntmps43
  go_upto_region 2 with (first
    | (go_at_call 26; refine (HF.out _).mono ?_; rintro e wf ⟨rfl, hb⟩; have HB1 := Lib.hid (hb.alloc hb.size (.cells cs 23)); have HX1 := Lib.hid (Whole.new wf 23 cs); clear hb)
    | (refine wpList_store_last (w := wf) rfl 23 (.tmp 1) (.tmp 7) rfl _ cs rfl rfl 23 _ rfl HS.out.plan HS.out.size.symm HS.out.one ?_))
  go_upto_region 3 with (first
    | (refine wpList_load_row rfl 23 (.tmp 1) rfl wf.heap.size rfl 23 cs (0, 0) _ HX1.out Try.underlying23 rfl HS.out.plan ?_)
    | (go_at_call 15; refine (HD.out _).mono ?_; rintro e wd ⟨V, s, rfl, hsc, hdec, hb⟩; have HX2 := Lib.hid (And.intro (k_then hb HB1.out) (And.intro (k_later hb HX1.out) (And.intro hsc hdec))); have HVi := Lib.hid V.info; have HVo := Lib.hid V.one; clear hb hsc hdec)
    | (refine wpList_store_last (w := wd) rfl 29 (.tmp 3) (.tmp 12) rfl _ V.cells rfl rfl 29 _ rfl HVi.out rfl HVo.out ?_))
  obtain ⟨W2, hW2⟩ : ∃ W2, W2 = wd.alloc (.cells V.cells 29) := ⟨_, rfl⟩
  have hb2 : Below wd.heap.size wd W2 := by rw [hW2]; exact (Below.refl _ _).alloc (Nat.le_refl _) _
  have hV2 : Whole W2 wd.heap.size 29 V.cells := by rw [hW2]; exact Whole.new wd _ _
  rw [← hW2]
  obtain ⟨hbb, hp2, hsc, hdec⟩ := HX2.out
  have hs2 := hsc.later hb2
  have e0 : s.rates = [(65530, 65536), (65530, 65536), (65530, 65536), (65530, 65536)] := (congrArg Sc.rates hdec).trans (by rw [decF])
  have e1 : s.on = [-1, -1, -1, -1] := (congrArg Sc.on hdec).trans (by rw [decF])
  have e2 : s.delays = [] := (congrArg Sc.delays hdec).trans (by rw [decF])
  have e3 : s.haps = [] := by
    have := (congrArg Sc.haps hdec).trans (by rw [decF])
    exact List.map_eq_nil_iff.1 this
  have e4 : s.faults = [] := (congrArg Sc.faults hdec).trans (by rw [decF])
  have n0 : V.r.n = 4 := by rw [← hs2.r.len, e0]; rfl
  have n1 : V.o.n = 4 := by rw [← hs2.o.len, e1]; rfl
  have n2 : V.d.n = 0 := by rw [← hs2.d.len, e2]; rfl
  have n3 : V.h.n = 0 := by rw [← hs2.h.row.len, e3]; rfl
  have n4 : V.f.n = 0 := by rw [← hs2.f.len, e4]; rfl
  obtain ⟨g0, o0, hA0, hR0⟩ := hs2.r.get (i := 3) (by omega)
  obtain ⟨g1, o1, hA1, hR1⟩ := hs2.o.get (i := 2) (by omega)
  rw [e0] at hR0
  rw [e1] at hR1
  have r0 : W2.cell? ⟨g0, o0 + 6, none⟩ = some (.int .i64 65530) := hR0 0 _ rfl
  have r1 : W2.cell? ⟨g0, o0 + 6 + 1, none⟩ = some (.int .i64 65536) := hR0 1 _ rfl
  have r2 : W2.cell? ⟨g1, o1 + 2, none⟩ = some (.int .i64 (-1)) := hR1 0 _ rfl
  obtain ⟨b0, b1, b2, b3, b4⟩ := sc_cells hV2
  unfold Sl.v at b0 b1 b2 b3 b4
  rw [hA0, n0] at b0
  rw [hA1, n1] at b1
  rw [n2] at b2
  rw [n3] at b3
  rw [n4] at b4
  have hl := HDl.out V s W2 hs2
  have hh := fun W hb => HHd.out V s W (hs2.later (w' := W) hb)
  rw [hdec, delayF] at hl
  rw [hdec, heardFF] at hh
  have HL := Lib.hid hl
  have HH := Lib.hid hh
  have H2 := Lib.hid (And.intro (k_then hb2 hbb) (And.intro (k_later hb2 hp2) hV2))
  clear hW2 hb2 hV2 hbb hp2 hsc hdec hs2 e0 e1 e2 e3 e4 n0 n1 n2 n3 n4 hA0 hA1 hR0 hR1 hl hh HX2 HDl HHd HF HD
  go_wp2_with (first
    | (refine wpList_load_want (by kernel_rfl) 23 (.tmp 1) rfl wf.heap.size rfl 23 cs (0, 0) _ H2.out.2.1 Try.underlying23 rfl HS.out.plan ?_)
    | (refine wpList_load_want (by kernel_rfl) 29 (.tmp 3) rfl wd.heap.size rfl 29 V.cells (0, 0) _ H2.out.2.2 Try.underlying29 rfl HVi.out ?_)
    | (go_at_call 20; refine HL.out.mono ?_; rintro e w7 ⟨rfl, hb7⟩; have HB7 := Lib.hid hb7; clear hb7; have HP7 := Lib.hid (And.intro (k_later HB7.out H2.out.2.1) (k_later HB7.out H2.out.2.2)))
    | (refine wpList_load_want (by kernel_rfl) 23 (.tmp 1) rfl wf.heap.size rfl 23 cs (0, 0) _ HP7.out.1 Try.underlying23 rfl HS.out.plan ?_)
    | (refine wpList_load_want (by kernel_rfl) 29 (.tmp 3) rfl wd.heap.size rfl 29 V.cells (0, 0) _ HP7.out.2 Try.underlying29 rfl HVi.out ?_)
    | (go_at_call 22; refine (HH.out _ HB7.out).mono ?_; rintro e w8 ⟨rfl, hb8⟩; have HB8 := Lib.hid hb8; clear hb8))
  go_ret
  exact ⟨rfl, k_then HB8.out (k_then HB7.out H2.out.1)⟩
end Go.Proofs.Ytljcaigaofalbaa
