/- hold and Check of a script: contracts. No condition. -/
import Derived.Deep.DeepCutAuto
import Derived.Test.YtljcaigaofalbaaQN
namespace Go.Proofs.Ytljcaigaofalbaa
open Go.RowKit Go.Shelf

theorem later_at {P : Program} {f : FuncId} {args : Array Value} {w : World} {v : Value} (y : Later w) (h : ∀ z : Later w, Calls P f args z.at_ fun e w' => e = .returned v ∧ Below z.at_.heap.size z.at_ w') : Calls P f args y.at_ fun e w' => e = .returned v ∧ ∃ z : Later w, w' = z.at_ :=
  (h y).mono fun _ w' k => ⟨k.1, ⟨w', y.below.trans (k.2.mono y.below.size)⟩, rfl⟩

theorem okS_eq {x : Pl} {s : ScA} {q0 q1 q2 q3 q4 : Nat} (l0 : s.rates.length = q0) (l1 : s.on.length = q1) (l2 : s.delays.length = q2) (l3 : s.haps.length = q3) (l4 : s.faults.length = q4) :
    okS x s.sc = ((q0 : Int) == x.nodes && ((q1 : Int) == x.nodes && (hasB 0 256 (q2 : Int) && (decide ((q3 : Int) ≤ 64) && (decide ((q4 : Int) ≤ 64) && (s.rates.all (okRate x) && (s.on.all (okOn x) && (s.delays.all (okDel x) && (s.haps.all (fun a => okHap x a.hp) && s.faults.all (okFt x)))))))))) := by
  subst l0 l1 l2 l3 l4
  rw [Bool.eq_iff_iff, okS_iff]
  simp only [hasB, Bool.and_eq_true, decide_eq_true_eq, beq_iff_eq, List.all_eq_true, ScA.sc, List.length_map, List.mem_map]
  constructor
  · rintro ⟨a, b, c, d, e, f, g, h, i, j⟩
    exact ⟨a, b, ⟨by omega, by omega⟩, by omega, by omega, f, g, h, fun y hy => i _ ⟨y, hy, rfl⟩, j⟩
  · rintro ⟨a, b, c, d, e, f, g, h, i, j⟩
    exact ⟨a, b, by omega, by omega, by omega, f, g, h, fun y ⟨z, hz, e⟩ => e ▸ i z hz, j⟩

set_option maxRecDepth 100000 in
set_option maxHeartbeats 8000000 in
theorem hold_any (x : Pl) (g : Nat) (V : ScV) (s : ScA) (w : World) (hs : SpAt w g x) (h : ScAt w V s) : Calls Try.prog 60 #[.pointer (some ⟨g, 0, none⟩), .agg V.cells] w fun e w' => e = .returned (.bool (okS x s.sc)) ∧ Below w.heap.size w w' := by
  have hmf : ∀ (fn : Fn) (first cap : Array Value) (w : World), (Instr.makeFunc fn first cap).run Try.prog w = .ok (.func fn first cap) w := fun _ _ _ _ => rfl
  obtain ⟨W7, hW7⟩ : ∃ W7, W7 = w.alloc (.cells V.cells 29) := ⟨_, rfl⟩
  have hb7 : Below w.heap.size w W7 := by rw [hW7]; exact (Below.refl _ _).alloc (Nat.le_refl _) _
  have HB7 := Lib.hid hb7
  have HS7 := Lib.hid (hs.later hb7)
  have H7 := Lib.hid (h.later hb7)
  have hX : Whole W7 w.heap.size 29 V.cells := by rw [hW7]; exact Whole.new w _ _
  obtain ⟨b0, b1, b2, b3, b4⟩ := sc_cells hX
  have n0 := sp_nodes HS7.out
  obtain ⟨o1, o2, o3⟩ := sp_on HS7.out
  obtain ⟨d1, d2, d3⟩ := sp_delays HS7.out
  obtain ⟨y1, y2, y3⟩ := sp_delay HS7.out
  have k96 : ∀ args W, (callFunc 96 args).run Try.prog W = .ok (.enter 96 args) W := enters_of Try.func96 (by kernel_rfl) rfl
  have k94 : ∀ args W, (callFunc 94 args).run Try.prog W = .ok (.enter 94 args) W := enters_of Try.func94 (by kernel_rfl) rfl
  have k99 : ∀ args W, (callFunc 99 args).run Try.prog W = .ok (.enter 99 args) W := enters_of Try.func99 (by kernel_rfl) rfl
  have k101 : ∀ args W, (callFunc 101 args).run Try.prog W = .ok (.enter 101 args) W := enters_of Try.func101 (by kernel_rfl) rfl
  have hcR := fun z : Later W7 => allR_any z.at_ V.r s.rates (H7.out.r.later z.below) 96 (.pointer (some ⟨g, 0, none⟩)) (okRate x) k96 (fun W y hb => holdRate_any x g W (HS7.out.later (k_then hb z.below)) y)
  have hcO := fun z : Later W7 => allI_any z.at_ V.o s.on (H7.out.o.later z.below) 94 (.agg #[.int .i64 4, .int .i64 (-1), .int .i64 (lateL x)]) (okOn x) k94 (fun W y hb => has_any 4 (-1) (lateL x) y W)
  have hcD := fun z : Later W7 => allI_any z.at_ V.d s.delays (H7.out.d.later z.below) 94 (.agg #[.int .i64 4, .int .i64 0, .int .i64 (x.dmax - x.dmin)]) (okDel x) k94 (fun W y hb => has_any 4 0 (x.dmax - x.dmin) y W)
  have hcH := fun z : Later W7 => allH_any z.at_ V.h s.haps (H7.out.h.row.later z.below) 99 (.pointer (some ⟨g, 0, none⟩)) (fun a => okHap x a.hp) k99 (fun W y hb => holdHap_any x g W (HS7.out.later (k_then hb z.below)) y)
  have hcF := fun z : Later W7 => allF_any z.at_ V.f s.faults (H7.out.f.later z.below) 101 (.pointer (some ⟨g, 0, none⟩)) (okFt x) k101 (fun W y hb => holdFault_any x g W (HS7.out.later (k_then hb z.below)) y)
  have hcL := fun W => has_any 2 0 256 (V.d.n : Int) W
  rw [okS_eq h.r.len h.o.len h.d.len h.h.row.len h.f.len]
  generalize s.rates.all (okRate x) = bR at *
  generalize s.on.all (okOn x) = bO at *
  generalize s.delays.all (okDel x) = bD at *
  generalize s.haps.all (fun a => okHap x a.hp) = bH at *
  generalize s.faults.all (okFt x) = bF at *
  generalize hasB 0 256 (V.d.n : Int) = bL at *
  obtain ⟨⟨A0, q0, c0⟩, ⟨A1, q1, c1⟩, ⟨A2, q2, c2⟩, ⟨A3, q3, c3⟩, ⟨A4, q4, c4⟩⟩ := V
  unfold ScV.cells Sl.v at *
  dsimp only at *

  have b0 := fun z : Later W7 => z.cell b0
  have b1 := fun z : Later W7 => z.cell b1
  have b2 := fun z : Later W7 => z.cell b2
  have b3 := fun z : Later W7 => z.cell b3
  have b4 := fun z : Later W7 => z.cell b4
  have n0 := fun z : Later W7 => z.cell n0
  have o1 := fun z : Later W7 => z.cell o1
  have o2 := fun z : Later W7 => z.cell o2
  have o3 := fun z : Later W7 => z.cell o3
  have d1 := fun z : Later W7 => z.cell d1
  have d2 := fun z : Later W7 => z.cell d2
  have d3 := fun z : Later W7 => z.cell d3
  have y1 := fun z : Later W7 => z.cell y1
  have y2 := fun z : Later W7 => z.cell y2
  have y3 := fun z : Later W7 => z.cell y3
  have HCR := Lib.hid hcR
  have HCO := Lib.hid hcO
  have HCL := Lib.hid hcL
  have HCD := Lib.hid hcD
  have HCH := Lib.hid hcH
  have HCF := Lib.hid hcF
  clear hs h hb7 hX k96 k94 k99 k101 hcR hcO hcD hcH hcF hcL
  generalize hN : x.nodes = N at *
  clear hN
  by_cases h0 : (q0 : Int) = N
  case neg =>
    have q0 : ((q0 : Int) == N) = false := by simp [h0]
    rw [q0]
    clear h0
    go_enter Try.func60, Try.ntmps60
    go_wp2
    rw [← hW7]
    simp only [List.append_eq, List.cons_append, List.nil_append]
    refine wp_region_later (by kernel_rfl) (by kernel_rfl) ?_
    repeat (go_big_quiet_step (first | (go_at_call 94; with_reducible exact later_of _ HCL.out) | (go_at_call 95; with_reducible exact later_at _ HCR.out) | (go_at_call 97; with_reducible exact later_at _ HCO.out) | (go_at_call 97; with_reducible exact later_at _ HCD.out) | (go_at_call 98; with_reducible exact later_at _ HCH.out) | (go_at_call 100; with_reducible exact later_at _ HCF.out)))
    apply wpQuiet_nil
    rintro _ ⟨z7, rfl⟩
    go_wp2
    go_ret
    exact ⟨by simp, k_then z7.below HB7.out⟩
  have q0 : ((q0 : Int) == N) = true := by simp [h0]
  rw [q0]
  clear h0
  by_cases h1 : (q1 : Int) = N
  case neg =>
    have q1 : ((q1 : Int) == N) = false := by simp [h1]
    rw [q1]
    clear h1
    go_enter Try.func60, Try.ntmps60
    go_wp2
    rw [← hW7]
    simp only [List.append_eq, List.cons_append, List.nil_append]
    refine wp_region_later (by kernel_rfl) (by kernel_rfl) ?_
    repeat (go_big_quiet_step (first | (go_at_call 94; with_reducible exact later_of _ HCL.out) | (go_at_call 95; with_reducible exact later_at _ HCR.out) | (go_at_call 97; with_reducible exact later_at _ HCO.out) | (go_at_call 97; with_reducible exact later_at _ HCD.out) | (go_at_call 98; with_reducible exact later_at _ HCH.out) | (go_at_call 100; with_reducible exact later_at _ HCF.out)))
    apply wpQuiet_nil
    rintro _ ⟨z7, rfl⟩
    go_wp2
    go_ret
    exact ⟨by simp, k_then z7.below HB7.out⟩
  have q1 : ((q1 : Int) == N) = true := by simp [h1]
  rw [q1]
  clear h1
  by_cases h2 : bL = true
  case neg =>
    rw [Bool.not_eq_true] at h2
    rw [h2] at HCL
    rw [h2]
    clear h2
    go_enter Try.func60, Try.ntmps60
    go_wp2
    rw [← hW7]
    simp only [List.append_eq, List.cons_append, List.nil_append]
    refine wp_region_later (by kernel_rfl) (by kernel_rfl) ?_
    repeat (go_big_quiet_step (first | (go_at_call 94; with_reducible exact later_of _ HCL.out) | (go_at_call 95; with_reducible exact later_at _ HCR.out) | (go_at_call 97; with_reducible exact later_at _ HCO.out) | (go_at_call 97; with_reducible exact later_at _ HCD.out) | (go_at_call 98; with_reducible exact later_at _ HCH.out) | (go_at_call 100; with_reducible exact later_at _ HCF.out)))
    apply wpQuiet_nil
    rintro _ ⟨z7, rfl⟩
    go_wp2
    go_ret
    exact ⟨by simp, k_then z7.below HB7.out⟩
  rw [h2] at HCL
  rw [h2]
  clear h2
  by_cases h3 : (q3 : Int) ≤ 64
  case neg =>
    have q3 : decide ((q3 : Int) ≤ 64) = false := decide_eq_false h3
    rw [q3]
    clear h3
    go_enter Try.func60, Try.ntmps60
    go_wp2
    rw [← hW7]
    simp only [List.append_eq, List.cons_append, List.nil_append]
    refine wp_region_later (by kernel_rfl) (by kernel_rfl) ?_
    repeat (go_big_quiet_step (first | (go_at_call 94; with_reducible exact later_of _ HCL.out) | (go_at_call 95; with_reducible exact later_at _ HCR.out) | (go_at_call 97; with_reducible exact later_at _ HCO.out) | (go_at_call 97; with_reducible exact later_at _ HCD.out) | (go_at_call 98; with_reducible exact later_at _ HCH.out) | (go_at_call 100; with_reducible exact later_at _ HCF.out)))
    apply wpQuiet_nil
    rintro _ ⟨z7, rfl⟩
    go_wp2
    go_ret
    exact ⟨by simp, k_then z7.below HB7.out⟩
  have q3 : decide ((q3 : Int) ≤ 64) = true := decide_eq_true h3
  rw [q3]
  clear h3
  by_cases h4 : (q4 : Int) ≤ 64
  case neg =>
    have q4 : decide ((q4 : Int) ≤ 64) = false := decide_eq_false h4
    rw [q4]
    clear h4
    go_enter Try.func60, Try.ntmps60
    go_wp2
    rw [← hW7]
    simp only [List.append_eq, List.cons_append, List.nil_append]
    refine wp_region_later (by kernel_rfl) (by kernel_rfl) ?_
    repeat (go_big_quiet_step (first | (go_at_call 94; with_reducible exact later_of _ HCL.out) | (go_at_call 95; with_reducible exact later_at _ HCR.out) | (go_at_call 97; with_reducible exact later_at _ HCO.out) | (go_at_call 97; with_reducible exact later_at _ HCD.out) | (go_at_call 98; with_reducible exact later_at _ HCH.out) | (go_at_call 100; with_reducible exact later_at _ HCF.out)))
    apply wpQuiet_nil
    rintro _ ⟨z7, rfl⟩
    go_wp2
    go_ret
    exact ⟨by simp, k_then z7.below HB7.out⟩
  have q4 : decide ((q4 : Int) ≤ 64) = true := decide_eq_true h4
  rw [q4]
  clear h4
  by_cases h5 : bR = true
  case neg =>
    rw [Bool.not_eq_true] at h5
    rw [h5] at HCR
    rw [h5]
    clear h5
    go_enter Try.func60, Try.ntmps60
    go_wp2
    rw [← hW7]
    simp only [List.append_eq, List.cons_append, List.nil_append]
    refine wp_region_later (by kernel_rfl) (by kernel_rfl) ?_
    repeat (go_big_quiet_step (first | (go_at_call 94; with_reducible exact later_of _ HCL.out) | (go_at_call 95; with_reducible exact later_at _ HCR.out) | (go_at_call 97; with_reducible exact later_at _ HCO.out) | (go_at_call 97; with_reducible exact later_at _ HCD.out) | (go_at_call 98; with_reducible exact later_at _ HCH.out) | (go_at_call 100; with_reducible exact later_at _ HCF.out)))
    apply wpQuiet_nil
    rintro _ ⟨z7, rfl⟩
    go_wp2
    go_ret
    exact ⟨by simp, k_then z7.below HB7.out⟩
  rw [h5] at HCR
  rw [h5]
  clear h5
  by_cases h6 : bO = true
  case neg =>
    rw [Bool.not_eq_true] at h6
    rw [h6] at HCO
    rw [h6]
    clear h6
    go_enter Try.func60, Try.ntmps60
    go_wp2
    rw [← hW7]
    simp only [List.append_eq, List.cons_append, List.nil_append]
    refine wp_region_later (by kernel_rfl) (by kernel_rfl) ?_
    repeat (go_big_quiet_step (first | (go_at_call 94; with_reducible exact later_of _ HCL.out) | (go_at_call 95; with_reducible exact later_at _ HCR.out) | (go_at_call 97; with_reducible exact later_at _ HCO.out) | (go_at_call 97; with_reducible exact later_at _ HCD.out) | (go_at_call 98; with_reducible exact later_at _ HCH.out) | (go_at_call 100; with_reducible exact later_at _ HCF.out)))
    apply wpQuiet_nil
    rintro _ ⟨z7, rfl⟩
    go_wp2
    go_ret
    exact ⟨by simp, k_then z7.below HB7.out⟩
  rw [h6] at HCO
  rw [h6]
  clear h6
  by_cases h7 : bD = true
  case neg =>
    rw [Bool.not_eq_true] at h7
    rw [h7] at HCD
    rw [h7]
    clear h7
    go_enter Try.func60, Try.ntmps60
    go_wp2
    rw [← hW7]
    simp only [List.append_eq, List.cons_append, List.nil_append]
    refine wp_region_later (by kernel_rfl) (by kernel_rfl) ?_
    repeat (go_big_quiet_step (first | (go_at_call 94; with_reducible exact later_of _ HCL.out) | (go_at_call 95; with_reducible exact later_at _ HCR.out) | (go_at_call 97; with_reducible exact later_at _ HCO.out) | (go_at_call 97; with_reducible exact later_at _ HCD.out) | (go_at_call 98; with_reducible exact later_at _ HCH.out) | (go_at_call 100; with_reducible exact later_at _ HCF.out)))
    apply wpQuiet_nil
    rintro _ ⟨z7, rfl⟩
    go_wp2
    go_ret
    exact ⟨by simp, k_then z7.below HB7.out⟩
  rw [h7] at HCD
  rw [h7]
  clear h7
  by_cases h8 : bH = true
  case neg =>
    rw [Bool.not_eq_true] at h8
    rw [h8] at HCH
    rw [h8]
    clear h8
    go_enter Try.func60, Try.ntmps60
    go_wp2
    rw [← hW7]
    simp only [List.append_eq, List.cons_append, List.nil_append]
    refine wp_region_later (by kernel_rfl) (by kernel_rfl) ?_
    repeat (go_big_quiet_step (first | (go_at_call 94; with_reducible exact later_of _ HCL.out) | (go_at_call 95; with_reducible exact later_at _ HCR.out) | (go_at_call 97; with_reducible exact later_at _ HCO.out) | (go_at_call 97; with_reducible exact later_at _ HCD.out) | (go_at_call 98; with_reducible exact later_at _ HCH.out) | (go_at_call 100; with_reducible exact later_at _ HCF.out)))
    apply wpQuiet_nil
    rintro _ ⟨z7, rfl⟩
    go_wp2
    go_ret
    exact ⟨by simp, k_then z7.below HB7.out⟩
  rw [h8] at HCH
  rw [h8]
  clear h8
  go_enter Try.func60, Try.ntmps60
  go_wp2
  rw [← hW7]
  simp only [List.append_eq, List.cons_append, List.nil_append]
  refine wp_region_later (by kernel_rfl) (by kernel_rfl) ?_
  repeat (go_big_quiet_step (first | (go_at_call 94; with_reducible exact later_of _ HCL.out) | (go_at_call 95; with_reducible exact later_at _ HCR.out) | (go_at_call 97; with_reducible exact later_at _ HCO.out) | (go_at_call 97; with_reducible exact later_at _ HCD.out) | (go_at_call 98; with_reducible exact later_at _ HCH.out) | (go_at_call 100; with_reducible exact later_at _ HCF.out)))
  apply wpQuiet_nil
  rintro _ ⟨z7, rfl⟩
  go_wp2
  go_ret
  exact ⟨by simp, k_then z7.below HB7.out⟩
end Go.Proofs.Ytljcaigaofalbaa
