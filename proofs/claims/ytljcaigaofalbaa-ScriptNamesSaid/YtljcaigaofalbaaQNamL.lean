/- ScriptNames. No condition. -/
import Derived.Great.BuildSlice
import Derived.Test.YtljcaigaofalbaaQNamT
namespace Go.Proofs.Ytljcaigaofalbaa
open Go.RowKit Go.Shelf

theorem fut_info : (Try.prog.info? 59).map (fun i => (i.zero.map (·.cells.size), i.size)) = some (some 1, 1) := by kernel_rfl
theorem fut_parts : ∃ i z, Try.prog.info? 59 = some i ∧ i.zero = some z ∧ i.size = 1 := by
  have h := fut_info
  cases hi : Try.prog.info? 59 with
  | none => rw [hi] at h; cases h
  | some i =>
    rw [hi] at h
    simp only [Option.map_some, Option.some.injEq, Prod.mk.injEq] at h
    cases hz : i.zero with
    | none => rw [hz] at h; cases h.1
    | some z => exact ⟨i, z, rfl, hz, h.2⟩
def partsN (bp : Nat) : List (Nat × Value) := [(0, .func (.func 27) #[] #[]), (1, .func (.func 28) #[] #[]), (2, .func (.func 29) #[] #[]), (3, .func (.func 30) #[] #[.pointer (some ⟨bp, 0, none⟩)]), (4, .func (.func 32) #[] #[]), (5, .func (.func 33) #[] #[]), (6, .func (.func 34) #[] #[]), (7, .func (.func 35) #[] #[]), (8, .func (.func 36) #[] #[.pointer (some ⟨bp, 0, none⟩)]), (9, .func (.func 37) #[] #[]), (10, .func (.func 38) #[] #[]), (11, .func (.func 39) #[] #[]), (12, .func (.func 40) #[] #[]), (13, .func (.func 41) #[] #[]), (14, .func (.func 42) #[] #[])]
theorem fill_turns (bp : Nat) (z : Value) : Instr.fill (fun i => some (i * 1, 1)) ((Array.range (15 * 1)).map (z.cells[· % z.cells.size]!)) (partsN bp) = some (turnsN bp) := by kernel_rfl
theorem wpList_turns {ops : Array Oper} {rest : List Oper} {o : Oper} {a : Act} {w : World} {Q : Exit → Act → World → Prop} (hg : o.guard = none) (parts : Array (Nat × Operand)) (ho : o.op = .buildSlice 61 15 parts) (bp : Nat)
    (hp : (parts.map fun (i, x) => (i, a.eval x)).toList = partsN bp) (h : wpList Try.prog ops Q rest (a.put o.dst (.slice (some ⟨w.heap.size, 0, none⟩) 15 15)) (w.alloc (.cells (turnsN bp) 59))) : wpList Try.prog ops Q (o :: rest) a w := by
  obtain ⟨i, z, hi, hz, hs⟩ := fut_parts
  exact wpList_buildSlice hg 61 59 15 parts ho (turnsN bp) i z Try.underlying61 hi hz (by rw [hs]; decide) (by rw [hs]; decide) (by rw [hs, hp]; exact fill_turns bp z) h

set_option maxRecDepth 100000 in
set_option maxHeartbeats 64000000 in
theorem namesS_any (w : World) : Calls Try.prog 5 #[] w fun e w' => e = .returned (.bool true) ∧ Below w.heap.size w w' := by
  have HF := Lib.hid (fun W => four_any W)
  have HS := Lib.hid planF.cellsL
  obtain ⟨cs, hcs⟩ : ∃ cs, cs = planF.cells := ⟨_, rfl⟩
  rw [← hcs] at HF HS
  have HCS := Lib.hid hcs
  clear hcs
  obtain ⟨i0, hi0, hi1, hi2, hi3⟩ := info_parts u8_info
  have HI := Lib.hid (And.intro hi0 (And.intro hi1 (And.intro hi2 hi3)))
  clear hi0 hi1 hi2 hi3
  go_enter Try.func5, Try.ntmps5
  go_upto_region 4 with (first
    | (go_at_call 26; refine (HF.out _).mono ?_; rintro e wf ⟨rfl, hb⟩; have HB1 := Lib.hid (hb.alloc hb.size (.cells cs 23)); have HX1 := Lib.hid (Whole.new wf 23 cs); have Hbp := Lib.hid hb.size; clear hb)
    | (refine wpList_store_last (w := wf) rfl 23 (.tmp 1) (.tmp 24) rfl _ cs rfl rfl 23 _ rfl HS.out.plan HS.out.size.symm HS.out.one ?_))
  have H1 := Lib.hid (And.intro HB1.out HX1.out)
  clear HB1 HX1 HF
  generalize wf.alloc (.cells cs 23) = W1 at *
  generalize wf.heap.size = bp at *
  go_upto_region 5 with fail
  have E0 := Lib.hid (show RE w (W1.alloc (.cells #[.int .u8 0, .int .u8 0, .int .u8 0, .int .u8 12, .int .u8 0, .int .u8 0, .int .u8 0, .int .u8 1, .int .u8 0, .int .u8 0, .int .u8 0, .int .u8 13, .int .u8 0, .int .u8 0, .int .u8 0, .int .u8 0] 5)) [(bp, 23, cs)] (.slice (some ⟨W1.heap.size, 0, none⟩) 16 16) [0, 0, 0, 12, 0, 0, 0, 1, 0, 0, 0, 13, 0, 0, 0, 0] from ⟨own_full W1 #[.int .u8 0, .int .u8 0, .int .u8 0, .int .u8 12, .int .u8 0, .int .u8 0, .int .u8 0, .int .u8 1, .int .u8 0, .int .u8 0, .int .u8 0, .int .u8 13, .int .u8 0, .int .u8 0, .int .u8 0, .int .u8 0] 16 w.heap.size 5 H1.out.1.size (by decide) rfl, H1.out.1.alloc H1.out.1.size _, fun y hy => by rw [List.mem_singleton] at hy; subst hy; exact H1.out.2.alloc _⟩)
  clear H1
  generalize W1.alloc (.cells #[.int .u8 0, .int .u8 0, .int .u8 0, .int .u8 12, .int .u8 0, .int .u8 0, .int .u8 0, .int .u8 1, .int .u8 0, .int .u8 0, .int .u8 0, .int .u8 13, .int .u8 0, .int .u8 0, .int .u8 0, .int .u8 0] 5) = W2 at *
  generalize W1.heap.size = bb at *
  go_upto_region 6 with (at_builtin; refine wpList_append_zeros _ rfl (.tmp 29) (.const (.int .i64 16)) 30 3 rfl w.heap.size 5 i0 .i64 Try.underlying30 Try.underlying3 HI.out.1 HI.out.2.1 HI.out.2.2.1 HI.out.2.2.2 (.slice (some ⟨bb, 0, none⟩) 16 16) 16 [0, 0, 0, 12, 0, 0, 0, 1, 0, 0, 0, 13, 0, 0, 0, 0] rfl E0.out.row 16 rfl (by decide) (by decide) E0.out.held.1.size ?_; intro v1 x1 h1 h2; have E1 := Lib.hid (show RE w x1 [(bp, 23, cs)] v1 ([0, 0, 0, 12, 0, 0, 0, 1, 0, 0, 0, 13, 0, 0, 0, 0] ++ zer 16) from E0.out.app (m := 16) (b := zer 16) (fun y hy => by rw [List.mem_singleton] at hy; subst hy; exact (by decide : 23 ≠ 5)) (by rw [← bv_append]; exact h1) (zer_length 16) h2); clear h1 h2)
  clear E0
  obtain ⟨l1, hl1⟩ : ∃ l1, l1 = [0, 0, 0, 12, 0, 0, 0, 1, 0, 0, 0, 13, 0, 0, 0, 0] ++ zer 16 := ⟨_, rfl⟩
  rw [← hl1] at E1
  have HL1 := Lib.hid hl1
  have HN1 := Lib.hid (show l1.length = 32 from by rw [hl1]; rfl)
  clear hl1
  obtain ⟨p2, q2, z2, rfl⟩ := own_val E1.out.row
  obtain rfl : q2 = l1.length := own_len5 E1.out.row
  have hbA : Below x1.heap.size x1 (x1.alloc (.cells #[.int .u8 0, .int .u8 2, .int .u8 0, .int .u8 0, .int .u8 0, .int .u8 4, .int .u8 0, .int .u8 0, .int .u8 0, .int .u8 5] 5)) := (Below.refl _ _).alloc (Nat.le_refl _) _
  have EA := Lib.hid (E1.out.later hbA)
  have HSR := Lib.hid (show Src (x1.alloc (.cells #[.int .u8 0, .int .u8 2, .int .u8 0, .int .u8 0, .int .u8 0, .int .u8 4, .int .u8 0, .int .u8 0, .int .u8 0, .int .u8 5] 5)) (some ⟨x1.heap.size, 0, none⟩) 10 [0, 2, 0, 0, 0, 4, 0, 0, 0, 5] from src_block (l := [0, 2, 0, 0, 0, 4, 0, 0, 0, 5]) (Whole.new x1 5 #[.int .u8 0, .int .u8 2, .int .u8 0, .int .u8 0, .int .u8 0, .int .u8 4, .int .u8 0, .int .u8 0, .int .u8 0, .int .u8 5]))
  clear hbA
  go_upto_region 7 with (at_builtin; refine wpList_append_src _ rfl (.tmp 31) (.tmp 32) 30 rfl w.heap.size 5 i0 Try.underlying30 HI.out.1 HI.out.2.1 HI.out.2.2.1 HI.out.2.2.2 (.slice p2 l1.length z2) l1.length (bv l1) rfl EA.out.row _ 10 10 [0, 2, 0, 0, 0, 4, 0, 0, 0, 5] rfl HSR.out (by rw [HN1.out]; decide) EA.out.held.1.size ?_; intro v2 x2 h1 h2 _; have E2 := Lib.hid (show RE w x2 [(bp, 23, cs)] v2 (l1 ++ [0, 2, 0, 0, 0, 4, 0, 0, 0, 5]) from EA.out.app (m := 10) (b := [0, 2, 0, 0, 0, 4, 0, 0, 0, 5]) (fun y hy => by rw [List.mem_singleton] at hy; subst hy; exact (by decide : 23 ≠ 5)) h1 rfl h2); clear h1 h2)
  obtain ⟨l2, hl2⟩ : ∃ l2, l2 = l1 ++ [0, 2, 0, 0, 0, 4, 0, 0, 0, 5] := ⟨_, rfl⟩
  rw [← hl2] at E2
  have HL2 := Lib.hid hl2
  have HN2 := Lib.hid (show l2.length = 42 from by rw [hl2, List.length_append, HN1.out]; rfl)
  clear EA HSR E1 hl2
  obtain ⟨p3, q3, z3, rfl⟩ := own_val E2.out.row
  obtain rfl : q3 = l2.length := own_len5 E2.out.row
  have hbA : Below x2.heap.size x2 (x2.alloc (.cells #[.int .u8 6, .int .u8 9, .int .u8 0, .int .u8 0, .int .u8 1, .int .u8 2, .int .u8 2, .int .u8 104, .int .u8 105] 5)) := (Below.refl _ _).alloc (Nat.le_refl _) _
  have EA := Lib.hid (E2.out.later hbA)
  have HSR := Lib.hid (show Src (x2.alloc (.cells #[.int .u8 6, .int .u8 9, .int .u8 0, .int .u8 0, .int .u8 1, .int .u8 2, .int .u8 2, .int .u8 104, .int .u8 105] 5)) (some ⟨x2.heap.size, 0, none⟩) 9 [6, 9, 0, 0, 1, 2, 2, 104, 105] from src_block (l := [6, 9, 0, 0, 1, 2, 2, 104, 105]) (Whole.new x2 5 #[.int .u8 6, .int .u8 9, .int .u8 0, .int .u8 0, .int .u8 1, .int .u8 2, .int .u8 2, .int .u8 104, .int .u8 105]))
  clear hbA
  go_upto_region 8 with (at_builtin; refine wpList_append_src _ rfl (.tmp 34) (.tmp 35) 30 rfl w.heap.size 5 i0 Try.underlying30 HI.out.1 HI.out.2.1 HI.out.2.2.1 HI.out.2.2.2 (.slice p3 l2.length z3) l2.length (bv l2) rfl EA.out.row _ 9 9 [6, 9, 0, 0, 1, 2, 2, 104, 105] rfl HSR.out (by rw [HN2.out]; decide) EA.out.held.1.size ?_; intro v3 x3 h1 h2 _; have E3 := Lib.hid (show RE w x3 [(bp, 23, cs)] v3 (l2 ++ [6, 9, 0, 0, 1, 2, 2, 104, 105]) from EA.out.app (m := 9) (b := [6, 9, 0, 0, 1, 2, 2, 104, 105]) (fun y hy => by rw [List.mem_singleton] at hy; subst hy; exact (by decide : 23 ≠ 5)) h1 rfl h2); clear h1 h2)
  obtain ⟨l3, hl3⟩ : ∃ l3, l3 = l2 ++ [6, 9, 0, 0, 1, 2, 2, 104, 105] := ⟨_, rfl⟩
  rw [← hl3] at E3
  have HL3 := Lib.hid hl3
  have HN3 := Lib.hid (show l3.length = 51 from by rw [hl3, List.length_append, HN2.out]; rfl)
  clear EA HSR E2 hl3
  obtain ⟨p4, q4, z4, rfl⟩ := own_val E3.out.row
  obtain rfl : q4 = l3.length := own_len5 E3.out.row
  have hbA : Below x3.heap.size x3 (x3.alloc (.cells #[.int .u8 7, .int .u8 6, .int .u8 1, .int .u8 0, .int .u8 9, .int .u8 5, .int .u8 3] 5)) := (Below.refl _ _).alloc (Nat.le_refl _) _
  have EA := Lib.hid (E3.out.later hbA)
  have HSR := Lib.hid (show Src (x3.alloc (.cells #[.int .u8 7, .int .u8 6, .int .u8 1, .int .u8 0, .int .u8 9, .int .u8 5, .int .u8 3] 5)) (some ⟨x3.heap.size, 0, none⟩) 7 [7, 6, 1, 0, 9, 5, 3] from src_block (l := [7, 6, 1, 0, 9, 5, 3]) (Whole.new x3 5 #[.int .u8 7, .int .u8 6, .int .u8 1, .int .u8 0, .int .u8 9, .int .u8 5, .int .u8 3]))
  clear hbA
  go_upto_region 9 with (at_builtin; refine wpList_append_src _ rfl (.tmp 37) (.tmp 38) 30 rfl w.heap.size 5 i0 Try.underlying30 HI.out.1 HI.out.2.1 HI.out.2.2.1 HI.out.2.2.2 (.slice p4 l3.length z4) l3.length (bv l3) rfl EA.out.row _ 7 7 [7, 6, 1, 0, 9, 5, 3] rfl HSR.out (by rw [HN3.out]; decide) EA.out.held.1.size ?_; intro v4 x4 h1 h2 _; have E4 := Lib.hid (show RE w x4 [(bp, 23, cs)] v4 (l3 ++ [7, 6, 1, 0, 9, 5, 3]) from EA.out.app (m := 7) (b := [7, 6, 1, 0, 9, 5, 3]) (fun y hy => by rw [List.mem_singleton] at hy; subst hy; exact (by decide : 23 ≠ 5)) h1 rfl h2); clear h1 h2)
  obtain ⟨l4, hl4⟩ : ∃ l4, l4 = l3 ++ [7, 6, 1, 0, 9, 5, 3] := ⟨_, rfl⟩
  rw [← hl4] at E4
  have HL4 := Lib.hid hl4
  have HN4 := Lib.hid (show l4.length = 58 from by rw [hl4, List.length_append, HN3.out]; rfl)
  clear EA HSR E3 hl4
  obtain ⟨p5, q5, z5, rfl⟩ := own_val E4.out.row
  obtain rfl : q5 = l4.length := own_len5 E4.out.row
  have hbA : Below x4.heap.size x4 (x4.alloc (.cells #[.int .u8 3, .int .u8 2, .int .u8 1, .int .u8 0, .int .u8 1, .int .u8 0, .int .u8 0] 5)) := (Below.refl _ _).alloc (Nat.le_refl _) _
  have EA := Lib.hid (E4.out.later hbA)
  have HSR := Lib.hid (show Src (x4.alloc (.cells #[.int .u8 3, .int .u8 2, .int .u8 1, .int .u8 0, .int .u8 1, .int .u8 0, .int .u8 0] 5)) (some ⟨x4.heap.size, 0, none⟩) 7 [3, 2, 1, 0, 1, 0, 0] from src_block (l := [3, 2, 1, 0, 1, 0, 0]) (Whole.new x4 5 #[.int .u8 3, .int .u8 2, .int .u8 1, .int .u8 0, .int .u8 1, .int .u8 0, .int .u8 0]))
  clear hbA
  go_upto_region 10 with (at_builtin; refine wpList_append_src _ rfl (.tmp 40) (.tmp 41) 30 rfl w.heap.size 5 i0 Try.underlying30 HI.out.1 HI.out.2.1 HI.out.2.2.1 HI.out.2.2.2 (.slice p5 l4.length z5) l4.length (bv l4) rfl EA.out.row _ 7 7 [3, 2, 1, 0, 1, 0, 0] rfl HSR.out (by rw [HN4.out]; decide) EA.out.held.1.size ?_; intro v5 x5 h1 h2 _; have E5 := Lib.hid (show RE w x5 [(bp, 23, cs)] v5 (l4 ++ [3, 2, 1, 0, 1, 0, 0]) from EA.out.app (m := 7) (b := [3, 2, 1, 0, 1, 0, 0]) (fun y hy => by rw [List.mem_singleton] at hy; subst hy; exact (by decide : 23 ≠ 5)) h1 rfl h2); clear h1 h2)
  obtain ⟨l5, hl5⟩ : ∃ l5, l5 = l4 ++ [3, 2, 1, 0, 1, 0, 0] := ⟨_, rfl⟩
  rw [← hl5] at E5
  have HL5 := Lib.hid hl5
  have HN5 := Lib.hid (show l5.length = 65 from by rw [hl5, List.length_append, HN4.out]; rfl)
  clear EA HSR E4 hl5
  obtain ⟨p6, q6, z6, rfl⟩ := own_val E5.out.row
  obtain rfl : q6 = l5.length := own_len5 E5.out.row
  have hbA : Below x5.heap.size x5 (x5.alloc (.cells #[.int .u8 0, .int .u8 3, .int .u8 1] 5)) := (Below.refl _ _).alloc (Nat.le_refl _) _
  have EA := Lib.hid (E5.out.later hbA)
  have HSR := Lib.hid (show Src (x5.alloc (.cells #[.int .u8 0, .int .u8 3, .int .u8 1] 5)) (some ⟨x5.heap.size, 0, none⟩) 3 [0, 3, 1] from src_block (l := [0, 3, 1]) (Whole.new x5 5 #[.int .u8 0, .int .u8 3, .int .u8 1]))
  clear hbA
  go_upto_region 11 with (at_builtin; refine wpList_append_src _ rfl (.tmp 43) (.tmp 44) 30 rfl w.heap.size 5 i0 Try.underlying30 HI.out.1 HI.out.2.1 HI.out.2.2.1 HI.out.2.2.2 (.slice p6 l5.length z6) l5.length (bv l5) rfl EA.out.row _ 3 3 [0, 3, 1] rfl HSR.out (by rw [HN5.out]; decide) EA.out.held.1.size ?_; intro v6 x6 h1 h2 _; have E6 := Lib.hid (show RE w x6 [(bp, 23, cs)] v6 (l5 ++ [0, 3, 1]) from EA.out.app (m := 3) (b := [0, 3, 1]) (fun y hy => by rw [List.mem_singleton] at hy; subst hy; exact (by decide : 23 ≠ 5)) h1 rfl h2); clear h1 h2)
  obtain ⟨l6, hl6⟩ : ∃ l6, l6 = l5 ++ [0, 3, 1] := ⟨_, rfl⟩
  rw [← hl6] at E6
  have HL6 := Lib.hid hl6
  have HN6 := Lib.hid (show l6.length = 68 from by rw [hl6, List.length_append, HN5.out]; rfl)
  clear EA HSR E5 hl6
  have hE := E6.out
  rw [show l6 = rawN from by rw [HL6.out, HL5.out, HL4.out, HL3.out, HL2.out, HL1.out]; exact raw_cat] at hE
  obtain ⟨A6, c6, rfl, hc6, hs6, _, hz6⟩ := Src.of_own hE.row
  have HR := Lib.hid (show Src x6 A6 68 rawN from hs6)
  have HZ := Lib.hid hz6
  have HB := Lib.hid (show BK w x6 [(bp, 23, cs)] [] [] from ⟨hE.held, (fun y hy => by cases hy), (fun y hy => by cases hy)⟩)
  have HDD := Lib.hid (fun W hs => Decode_u planF A6 68 c6 rawN W hs (fun e => (HZ.out e).2) (by decide) scN 0 dec_n decE_n)
  rw [← HCS.out] at HDD
  clear hE E6 hc6 hs6 hz6
  go_upto_region 12 with (first
    | (refine wpList_load_row rfl 23 (.tmp 1) rfl bp rfl 23 cs (0, 0) _ (HB.out.whole (y := (bp, 23, cs)) (by simp)) Try.underlying23 rfl HS.out.plan ?_)
    | (go_at_call 15; refine (HDD.out _ HR.out).mono ?_; rintro e wd ⟨V, s, rfl, hsc, hdec, _, hb⟩; have HB2 := Lib.hid ((HB.out.later hb).script hsc); have HSC := Lib.hid (And.intro hsc hdec); have HVi := Lib.hid V.info; have HVo := Lib.hid V.one; clear hb hsc hdec)
    | (refine wpList_store_last (w := wd) rfl 29 (.tmp 4) (.tmp 50) rfl _ V.cells rfl rfl 29 _ rfl HVi.out rfl HVo.out ?_))
  have HB3 := Lib.hid (show BK w (wd.alloc (.cells V.cells 29)) [(bp, 23, cs), (wd.heap.size, 29, V.cells)] [(V, s)] [] from HB2.out.box 29 V.cells)
  clear HB HB2 HDD HR HZ HL1 HL2 HL3 HL4 HL5 HL6 HN1 HN2 HN3 HN4 HN5 HN6
  generalize wd.alloc (.cells V.cells 29) = W3 at *
  generalize wd.heap.size = b4 at *
  have hsc := HB3.out.sc (V, s) (by simp)
  obtain ⟨g0, o0, z0, g1, o1, z1, g2, o2, z2, g3, o3, z3, g4, o4, z4, A1, c1, A2, c2, rfl, rfl⟩ := names_open hsc HSC.out.2
  clear HSC
  have HC := Lib.hid (names_cells hsc)
  have HPL := Lib.hid (names_pl hsc)
  have HBX := Lib.hid (sc5 (HB3.out.whole (y := (b4, 29, ScV.cells ⟨⟨some ⟨g0, o0, none⟩, 4, z0⟩, ⟨some ⟨g1, o1, none⟩, 4, z1⟩, ⟨some ⟨g2, o2, none⟩, 2, z2⟩, ⟨some ⟨g3, o3, none⟩, 2, z3⟩, ⟨some ⟨g4, o4, none⟩, 2, z4⟩⟩)) (by simp)))
  clear hsc
  obtain ⟨ra, rb, oa, ob, da, db, ha, hb, hc, hd, he, hf, hg, f00, f01, f02, f03, f04, f10, f11, f12, f13, f14⟩ := HC.out
  obtain ⟨b0, b1, b2, b3, b4'⟩ := HBX.out
  dsimp only at b0 b1 b2 b3 b4'
  go_upto_region 16 with fail
  clear ra rb oa ob da db ha hb hc hd he hf hg f00 f01 f02 f03 f04 f10 f11 f12 f13 f14 b0 b1 b2 b3 b4'
  obtain ⟨vs, hvs⟩ : ∃ vs, vs = ScV.cells ⟨⟨some ⟨g0, o0, none⟩, 4, z0⟩, ⟨some ⟨g1, o1, none⟩, 4, z1⟩, ⟨some ⟨g2, o2, none⟩, 2, z2⟩, ⟨some ⟨g3, o3, none⟩, 2, z3⟩, ⟨some ⟨g4, o4, none⟩, 2, z4⟩⟩ := ⟨_, rfl⟩
  have hbA : Below W3.heap.size W3 (W3.alloc (.cells #[.int .i64 2, .int .i64 1, .int .i64 258, .slice A1 2 c1] 47)) := (Below.refl _ _).alloc (Nat.le_refl _) _
  have HB4 := Lib.hid (HB3.out.later hbA)
  have HW7 := Lib.hid (Whole.new W3 47 #[.int .i64 2, .int .i64 1, .int .i64 258, .slice A1 2 c1])
  have KC := Lib.hid (fun p v (h : W3.cell? p = some v) => k_cell hbA h)
  have HPL4 := Lib.hid (HPL.out.below hbA)
  clear hbA
  generalize W3.alloc (.cells #[.int .i64 2, .int .i64 1, .int .i64 258, .slice A1 2 c1] 47) = W4 at *
  generalize W3.heap.size = b7 at *
  have hp4 : Whole W4 bp 23 planF.cells := HCS.out ▸ (HB4.out.whole (y := (bp, 23, cs)) (by simp))
  have ip := fun y : Later W4 => y.cell (show W4.cell? ⟨bp, 15, none⟩ = some (.int .i64 92480) from hp4.cell 15)
  have i7a := fun y : Later W4 => y.cell (show W4.cell? ⟨b7, 0, none⟩ = some (.int .i64 2) from HW7.out.cell 0)
  have i7b := fun y : Later W4 => y.cell (show W4.cell? ⟨b7, 1, none⟩ = some (.int .i64 1) from HW7.out.cell 1)
  have i7c := fun y : Later W4 => y.cell (show W4.cell? ⟨b7, 2, none⟩ = some (.int .i64 258) from HW7.out.cell 2)
  have i7d := fun y : Later W4 => y.cell (show W4.cell? ⟨b7, 3, none⟩ = some (.slice A1 2 c1) from HW7.out.cell 3)
  have q7 := fun y : Later W4 => later_conv y HPL4.out c1
  obtain ⟨ra, rb, oa, ob, da, db, ha, hb, hc, hd, he, hf, hg, f00, f01, f02, f03, f04, f10, f11, f12, f13, f14⟩ := HC.out
  obtain ⟨b0, b1, b2, b3, b4'⟩ := HBX.out
  dsimp only at b0 b1 b2 b3 b4'
  have ihe := fun y : Later W4 => y.cell (KC.out _ _ he)
  have ihf := fun y : Later W4 => y.cell (KC.out _ _ hf)
  have ihg := fun y : Later W4 => y.cell (KC.out _ _ hg)
  have if00 := fun y : Later W4 => y.cell (KC.out _ _ f00)
  have if01 := fun y : Later W4 => y.cell (KC.out _ _ f01)
  have if02 := fun y : Later W4 => y.cell (KC.out _ _ f02)
  have if03 := fun y : Later W4 => y.cell (KC.out _ _ f03)
  have if04 := fun y : Later W4 => y.cell (KC.out _ _ f04)
  have if10 := fun y : Later W4 => y.cell (KC.out _ _ f10)
  have if11 := fun y : Later W4 => y.cell (KC.out _ _ f11)
  have if12 := fun y : Later W4 => y.cell (KC.out _ _ f12)
  have if13 := fun y : Later W4 => y.cell (KC.out _ _ f13)
  have if14 := fun y : Later W4 => y.cell (KC.out _ _ f14)
  have ib3 := fun y : Later W4 => y.cell (KC.out _ _ b3)
  have ib4 := fun y : Later W4 => y.cell (KC.out _ _ b4')
  clear ra rb oa ob da db ha hb hc hd he hf hg f00 f01 f02 f03 f04 f10 f11 f12 f13 f14 b0 b1 b2 b3 b4'
  have qF0 := fun W => ft_eql ⟨2, 256, 4, 3, true⟩ ⟨2, 256, 4, 3, true⟩ W
  have qF1 := fun W => ft_eql ⟨2, 256, 1, 1, false⟩ ⟨2, 256, 1, 1, false⟩ W
  rw [decide_eq_true rfl] at qF0 qF1
  dsimp only at qF0 qF1
  have hs4 := HB4.out.sc (⟨⟨some ⟨g0, o0, none⟩, 4, z0⟩, ⟨some ⟨g1, o1, none⟩, 4, z1⟩, ⟨some ⟨g2, o2, none⟩, 2, z2⟩, ⟨some ⟨g3, o3, none⟩, 2, z3⟩, ⟨some ⟨g4, o4, none⟩, 2, z4⟩⟩, ⟨[(65542, 65536), (65530, 65536), (65530, 65536), (65530, 65536)], [0, -1, -1, -1], [4, 0], [⟨2, 1, 258, A1, c1, [104, 105]⟩, ⟨0, 3, 38155, A2, c2, []⟩], [⟨2, 256, 4, 3, true⟩, ⟨2, 256, 1, 1, false⟩]⟩) (by simp)
  dsimp only at hs4
  have CH0 := Lib.hid (show ∀ y : Later W4, Calls Try.prog 22 #[.agg cs, .agg vs, .int .i64 2, .int .i64 256, .int .i64 1, .int .i64 0] y.at_ fun e w' => e = .returned (.int .i64 2) ∧ Below y.at_.heap.size y.at_ w' from fun y => by rw [HCS.out, hvs, ← heard_n0]; exact Heard_any planF ⟨⟨some ⟨g0, o0, none⟩, 4, z0⟩, ⟨some ⟨g1, o1, none⟩, 4, z1⟩, ⟨some ⟨g2, o2, none⟩, 2, z2⟩, ⟨some ⟨g3, o3, none⟩, 2, z3⟩, ⟨some ⟨g4, o4, none⟩, 2, z4⟩⟩ ⟨[(65542, 65536), (65530, 65536), (65530, 65536), (65530, 65536)], [0, -1, -1, -1], [4, 0], [⟨2, 1, 258, A1, c1, [104, 105]⟩, ⟨0, 3, 38155, A2, c2, []⟩], [⟨2, 256, 4, 3, true⟩, ⟨2, 256, 1, 1, false⟩]⟩ 2 256 1 0 y.at_ (hs4.later y.below))
  have CH1 := Lib.hid (show ∀ y : Later W4, Calls Try.prog 22 #[.agg cs, .agg vs, .int .i64 2, .int .i64 256, .int .i64 1, .int .i64 1] y.at_ fun e w' => e = .returned (.int .i64 1) ∧ Below y.at_.heap.size y.at_ w' from fun y => by rw [HCS.out, hvs, ← heard_n1]; exact Heard_any planF ⟨⟨some ⟨g0, o0, none⟩, 4, z0⟩, ⟨some ⟨g1, o1, none⟩, 4, z1⟩, ⟨some ⟨g2, o2, none⟩, 2, z2⟩, ⟨some ⟨g3, o3, none⟩, 2, z3⟩, ⟨some ⟨g4, o4, none⟩, 2, z4⟩⟩ ⟨[(65542, 65536), (65530, 65536), (65530, 65536), (65530, 65536)], [0, -1, -1, -1], [4, 0], [⟨2, 1, 258, A1, c1, [104, 105]⟩, ⟨0, 3, 38155, A2, c2, []⟩], [⟨2, 256, 4, 3, true⟩, ⟨2, 256, 1, 1, false⟩]⟩ 2 256 1 1 y.at_ (hs4.later y.below))
  have CH2 := Lib.hid (show ∀ y : Later W4, Calls Try.prog 22 #[.agg cs, .agg vs, .int .i64 2, .int .i64 256, .int .i64 3, .int .i64 0] y.at_ fun e w' => e = .returned (.int .i64 1) ∧ Below y.at_.heap.size y.at_ w' from fun y => by rw [HCS.out, hvs, ← heard_n2]; exact Heard_any planF ⟨⟨some ⟨g0, o0, none⟩, 4, z0⟩, ⟨some ⟨g1, o1, none⟩, 4, z1⟩, ⟨some ⟨g2, o2, none⟩, 2, z2⟩, ⟨some ⟨g3, o3, none⟩, 2, z3⟩, ⟨some ⟨g4, o4, none⟩, 2, z4⟩⟩ ⟨[(65542, 65536), (65530, 65536), (65530, 65536), (65530, 65536)], [0, -1, -1, -1], [4, 0], [⟨2, 1, 258, A1, c1, [104, 105]⟩, ⟨0, 3, 38155, A2, c2, []⟩], [⟨2, 256, 4, 3, true⟩, ⟨2, 256, 1, 1, false⟩]⟩ 2 256 3 0 y.at_ (hs4.later y.below))
  have CH3 := Lib.hid (show ∀ y : Later W4, Calls Try.prog 22 #[.agg cs, .agg vs, .int .i64 2, .int .i64 255, .int .i64 1, .int .i64 0] y.at_ fun e w' => e = .returned (.int .i64 0) ∧ Below y.at_.heap.size y.at_ w' from fun y => by rw [HCS.out, hvs, ← heard_n3]; exact Heard_any planF ⟨⟨some ⟨g0, o0, none⟩, 4, z0⟩, ⟨some ⟨g1, o1, none⟩, 4, z1⟩, ⟨some ⟨g2, o2, none⟩, 2, z2⟩, ⟨some ⟨g3, o3, none⟩, 2, z3⟩, ⟨some ⟨g4, o4, none⟩, 2, z4⟩⟩ ⟨[(65542, 65536), (65530, 65536), (65530, 65536), (65530, 65536)], [0, -1, -1, -1], [4, 0], [⟨2, 1, 258, A1, c1, [104, 105]⟩, ⟨0, 3, 38155, A2, c2, []⟩], [⟨2, 256, 4, 3, true⟩, ⟨2, 256, 1, 1, false⟩]⟩ 2 255 1 0 y.at_ (hs4.later y.below))
  have CH4 := Lib.hid (show ∀ y : Later W4, Calls Try.prog 22 #[.agg cs, .agg vs, .int .i64 1, .int .i64 256, .int .i64 1, .int .i64 0] y.at_ fun e w' => e = .returned (.int .i64 0) ∧ Below y.at_.heap.size y.at_ w' from fun y => by rw [HCS.out, hvs, ← heard_n4]; exact Heard_any planF ⟨⟨some ⟨g0, o0, none⟩, 4, z0⟩, ⟨some ⟨g1, o1, none⟩, 4, z1⟩, ⟨some ⟨g2, o2, none⟩, 2, z2⟩, ⟨some ⟨g3, o3, none⟩, 2, z3⟩, ⟨some ⟨g4, o4, none⟩, 2, z4⟩⟩ ⟨[(65542, 65536), (65530, 65536), (65530, 65536), (65530, 65536)], [0, -1, -1, -1], [4, 0], [⟨2, 1, 258, A1, c1, [104, 105]⟩, ⟨0, 3, 38155, A2, c2, []⟩], [⟨2, 256, 4, 3, true⟩, ⟨2, 256, 1, 1, false⟩]⟩ 1 256 1 0 y.at_ (hs4.later y.below))
  have CH5 := Lib.hid (show ∀ y : Later W4, Calls Try.prog 22 #[.agg cs, .agg vs, .int .i64 4, .int .i64 0, .int .i64 0, .int .i64 0] y.at_ fun e w' => e = .returned (.int .i64 2) ∧ Below y.at_.heap.size y.at_ w' from fun y => by rw [HCS.out, hvs, ← heard_n5]; exact Heard_any planF ⟨⟨some ⟨g0, o0, none⟩, 4, z0⟩, ⟨some ⟨g1, o1, none⟩, 4, z1⟩, ⟨some ⟨g2, o2, none⟩, 2, z2⟩, ⟨some ⟨g3, o3, none⟩, 2, z3⟩, ⟨some ⟨g4, o4, none⟩, 2, z4⟩⟩ ⟨[(65542, 65536), (65530, 65536), (65530, 65536), (65530, 65536)], [0, -1, -1, -1], [4, 0], [⟨2, 1, 258, A1, c1, [104, 105]⟩, ⟨0, 3, 38155, A2, c2, []⟩], [⟨2, 256, 4, 3, true⟩, ⟨2, 256, 1, 1, false⟩]⟩ 4 0 0 0 y.at_ (hs4.later y.below))
  have CH6 := Lib.hid (show ∀ y : Later W4, Calls Try.prog 22 #[.agg cs, .agg vs, .int .i64 0, .int .i64 (-1), .int .i64 0, .int .i64 0] y.at_ fun e w' => e = .returned (.int .i64 2) ∧ Below y.at_.heap.size y.at_ w' from fun y => by rw [HCS.out, hvs, ← heard_n6]; exact Heard_any planF ⟨⟨some ⟨g0, o0, none⟩, 4, z0⟩, ⟨some ⟨g1, o1, none⟩, 4, z1⟩, ⟨some ⟨g2, o2, none⟩, 2, z2⟩, ⟨some ⟨g3, o3, none⟩, 2, z3⟩, ⟨some ⟨g4, o4, none⟩, 2, z4⟩⟩ ⟨[(65542, 65536), (65530, 65536), (65530, 65536), (65530, 65536)], [0, -1, -1, -1], [4, 0], [⟨2, 1, 258, A1, c1, [104, 105]⟩, ⟨0, 3, 38155, A2, c2, []⟩], [⟨2, 256, 4, 3, true⟩, ⟨2, 256, 1, 1, false⟩]⟩ 0 (-1) 0 0 y.at_ (hs4.later y.below))
  have CH7 := Lib.hid (show ∀ y : Later W4, Calls Try.prog 22 #[.agg cs, .agg vs, .int .i64 0, .int .i64 0, .int .i64 4, .int .i64 0] y.at_ fun e w' => e = .returned (.int .i64 2) ∧ Below y.at_.heap.size y.at_ w' from fun y => by rw [HCS.out, hvs, ← heard_n7]; exact Heard_any planF ⟨⟨some ⟨g0, o0, none⟩, 4, z0⟩, ⟨some ⟨g1, o1, none⟩, 4, z1⟩, ⟨some ⟨g2, o2, none⟩, 2, z2⟩, ⟨some ⟨g3, o3, none⟩, 2, z3⟩, ⟨some ⟨g4, o4, none⟩, 2, z4⟩⟩ ⟨[(65542, 65536), (65530, 65536), (65530, 65536), (65530, 65536)], [0, -1, -1, -1], [4, 0], [⟨2, 1, 258, A1, c1, [104, 105]⟩, ⟨0, 3, 38155, A2, c2, []⟩], [⟨2, 256, 4, 3, true⟩, ⟨2, 256, 1, 1, false⟩]⟩ 0 0 4 0 y.at_ (hs4.later y.below))
  have CH8 := Lib.hid (show ∀ y : Later W4, Calls Try.prog 22 #[.agg cs, .agg vs, .int .i64 0, .int .i64 0, .int .i64 0, .int .i64 2] y.at_ fun e w' => e = .returned (.int .i64 2) ∧ Below y.at_.heap.size y.at_ w' from fun y => by rw [HCS.out, hvs, ← heard_n8]; exact Heard_any planF ⟨⟨some ⟨g0, o0, none⟩, 4, z0⟩, ⟨some ⟨g1, o1, none⟩, 4, z1⟩, ⟨some ⟨g2, o2, none⟩, 2, z2⟩, ⟨some ⟨g3, o3, none⟩, 2, z3⟩, ⟨some ⟨g4, o4, none⟩, 2, z4⟩⟩ ⟨[(65542, 65536), (65530, 65536), (65530, 65536), (65530, 65536)], [0, -1, -1, -1], [4, 0], [⟨2, 1, 258, A1, c1, [104, 105]⟩, ⟨0, 3, 38155, A2, c2, []⟩], [⟨2, 256, 4, 3, true⟩, ⟨2, 256, 1, 1, false⟩]⟩ 0 0 0 2 y.at_ (hs4.later y.below))
  have CD0 := Lib.hid (show ∀ y : Later W4, Calls Try.prog 20 #[.agg cs, .agg vs, .int .i64 0, .int .i64 0, .int .i64 0, .int .i64 0] y.at_ fun e w' => e = .returned (.int .i64 5) ∧ Below y.at_.heap.size y.at_ w' from fun y => by rw [HCS.out, hvs, ← delay_n0]; exact Delay_any planF ⟨⟨some ⟨g0, o0, none⟩, 4, z0⟩, ⟨some ⟨g1, o1, none⟩, 4, z1⟩, ⟨some ⟨g2, o2, none⟩, 2, z2⟩, ⟨some ⟨g3, o3, none⟩, 2, z3⟩, ⟨some ⟨g4, o4, none⟩, 2, z4⟩⟩ ⟨[(65542, 65536), (65530, 65536), (65530, 65536), (65530, 65536)], [0, -1, -1, -1], [4, 0], [⟨2, 1, 258, A1, c1, [104, 105]⟩, ⟨0, 3, 38155, A2, c2, []⟩], [⟨2, 256, 4, 3, true⟩, ⟨2, 256, 1, 1, false⟩]⟩ 0 0 0 0 y.at_ (hs4.later y.below))
  have CD1 := Lib.hid (show ∀ y : Later W4, Calls Try.prog 20 #[.agg cs, .agg vs, .int .i64 0, .int .i64 0, .int .i64 0, .int .i64 1] y.at_ fun e w' => e = .returned (.int .i64 1) ∧ Below y.at_.heap.size y.at_ w' from fun y => by rw [HCS.out, hvs, ← delay_n1]; exact Delay_any planF ⟨⟨some ⟨g0, o0, none⟩, 4, z0⟩, ⟨some ⟨g1, o1, none⟩, 4, z1⟩, ⟨some ⟨g2, o2, none⟩, 2, z2⟩, ⟨some ⟨g3, o3, none⟩, 2, z3⟩, ⟨some ⟨g4, o4, none⟩, 2, z4⟩⟩ ⟨[(65542, 65536), (65530, 65536), (65530, 65536), (65530, 65536)], [0, -1, -1, -1], [4, 0], [⟨2, 1, 258, A1, c1, [104, 105]⟩, ⟨0, 3, 38155, A2, c2, []⟩], [⟨2, 256, 4, 3, true⟩, ⟨2, 256, 1, 1, false⟩]⟩ 0 0 0 1 y.at_ (hs4.later y.below))
  have CD2 := Lib.hid (show ∀ y : Later W4, Calls Try.prog 20 #[.agg cs, .agg vs, .int .i64 0, .int .i64 0, .int .i64 0, .int .i64 2] y.at_ fun e w' => e = .returned (.int .i64 0) ∧ Below y.at_.heap.size y.at_ w' from fun y => by rw [HCS.out, hvs, ← delay_n2]; exact Delay_any planF ⟨⟨some ⟨g0, o0, none⟩, 4, z0⟩, ⟨some ⟨g1, o1, none⟩, 4, z1⟩, ⟨some ⟨g2, o2, none⟩, 2, z2⟩, ⟨some ⟨g3, o3, none⟩, 2, z3⟩, ⟨some ⟨g4, o4, none⟩, 2, z4⟩⟩ ⟨[(65542, 65536), (65530, 65536), (65530, 65536), (65530, 65536)], [0, -1, -1, -1], [4, 0], [⟨2, 1, 258, A1, c1, [104, 105]⟩, ⟨0, 3, 38155, A2, c2, []⟩], [⟨2, 256, 4, 3, true⟩, ⟨2, 256, 1, 1, false⟩]⟩ 0 0 0 2 y.at_ (hs4.later y.below))
  rw [← hvs] at HB3 HB4 HVi HVo
  have HVS := Lib.hid hvs
  clear hvs hs4 hp4 HBX HC
  go_cut [8] (fun s8 wx => s8 = .bool true ∧ ∃ y : Later W4, wx = y.at_)
  case first => as_aux_lemma =>
    refine wp_region_later (by kernel_rfl) (by kernel_rfl) ?_
    repeat (first
      | go_big_quiet_skip
      | (go_big_quiet_want
         first
         | (refine quiet_load_row 23 (.tmp 1) rfl bp rfl 23 cs (0, 0) _ (later_row (HB4.out.whole (y := (bp, 23, cs)) (by simp))) Try.underlying23 rfl HS.out.plan ?_; simp only [Act.put, List.setIfInBounds_toArray, List.set_cons_succ, List.set_cons_zero]; go_big_quiet_on)
         | (refine quiet_load_row 29 (.tmp 4) rfl b4 rfl 29 vs (0, 0) _ (later_row (HB4.out.whole (y := (b4, 29, vs)) (by simp))) Try.underlying29 rfl HVi.out ?_; simp only [Act.put, List.setIfInBounds_toArray, List.set_cons_succ, List.set_cons_zero]; go_big_quiet_on)
         | (go_big_quiet_op
            first
            | go_big_quiet_on
            | go_big_quiet_call (first
              | (go_at_call 22; first | with_reducible exact later_at _ CH0.out | with_reducible exact later_at _ CH1.out | with_reducible exact later_at _ CH2.out | with_reducible exact later_at _ CH3.out | with_reducible exact later_at _ CH4.out | with_reducible exact later_at _ CH5.out | with_reducible exact later_at _ CH6.out | with_reducible exact later_at _ CH7.out | with_reducible exact later_at _ CH8.out)
              | (go_at_call 20; first | with_reducible exact later_at _ CD0.out | with_reducible exact later_at _ CD1.out | with_reducible exact later_at _ CD2.out)))))
    refine wpQuiet_nil ?_
    intro _ hw'
    obtain ⟨y9, hw''⟩ := hw'
    subst hw''
    go_wp2
    go_meet
    exact ⟨rfl, y9, rfl⟩
  case rest => as_aux_lemma =>
    obtain ⟨rfl, y9, rfl⟩ := hcut
    clear ip i7a i7b i7c i7d q7 qF0 qF1 ihe ihf ihg if00 if01 if02 if03 if04 if10 if11 if12 if13 if14 ib3 ib4
    go_upto_region 17 with fail
    go_cut [9] (fun s9 wx => s9 = .bool true ∧ ∃ y : Later W4, wx = y.at_)
    case first => as_aux_lemma =>
      go_upto_region 999 with (first
        | (refine wpList_load_row rfl 23 (.tmp 1) rfl bp rfl 23 cs (0, 0) _ (later_row (HB4.out.whole (y := (bp, 23, cs)) (by simp)) _ ⟨_, rfl⟩) Try.underlying23 rfl HS.out.plan ?_)
        | (refine wpList_load_want (by kernel_rfl) 23 (.tmp 1) rfl bp rfl 23 cs (0, 0) _ (later_row (HB4.out.whole (y := (bp, 23, cs)) (by simp)) _ ⟨_, rfl⟩) Try.underlying23 rfl HS.out.plan ?_)
        | (refine wpList_load_row rfl 29 (.tmp 4) rfl b4 rfl 29 vs (0, 0) _ (later_row (HB4.out.whole (y := (b4, 29, vs)) (by simp)) _ ⟨_, rfl⟩) Try.underlying29 rfl HVi.out ?_)
        | (refine wpList_load_want (by kernel_rfl) 29 (.tmp 4) rfl b4 rfl 29 vs (0, 0) _ (later_row (HB4.out.whole (y := (b4, 29, vs)) (by simp)) _ ⟨_, rfl⟩) Try.underlying29 rfl HVi.out ?_)
        | (go_at_call 22; ((first | with_reducible refine (CH0.out _).mono ?_ | with_reducible refine (CH1.out _).mono ?_ | with_reducible refine (CH2.out _).mono ?_ | with_reducible refine (CH3.out _).mono ?_ | with_reducible refine (CH4.out _).mono ?_ | with_reducible refine (CH5.out _).mono ?_ | with_reducible refine (CH6.out _).mono ?_ | with_reducible refine (CH7.out _).mono ?_ | with_reducible refine (CH8.out _).mono ?_); rintro e w5 ⟨rfl, hb⟩; obtain ⟨y9, rfl⟩ := later_next hb; clear hb))
        | (go_at_call 20; ((first | with_reducible refine (CD0.out _).mono ?_ | with_reducible refine (CD1.out _).mono ?_ | with_reducible refine (CD2.out _).mono ?_); rintro e w5 ⟨rfl, hb⟩; obtain ⟨y9, rfl⟩ := later_next hb; clear hb)))
      go_meet
      exact ⟨rfl, y9, rfl⟩
    case rest => as_aux_lemma =>
      obtain ⟨rfl, y9, rfl⟩ := hcut
      have HB5 := Lib.hid (HB4.out.later y9.below)
      clear CH0 CH1 CH2 CH3 CH4 CH5 CH6 CH7 CH8 CD0 CD1 CD2 HB3 HB4 HW7 HPL HPL4 KC
      generalize y9.at_ = W5 at *
      clear y9
      have hmf : ∀ (fn : Fn) (first cap : Array Value) (w : World), (Instr.makeFunc fn first cap).run Try.prog w = .ok (.func fn first cap) w := fun _ _ _ _ => rfl
      skip
      go_upto_region 19 with fail
      go_upto_region 20 with (refine wpList_turns rfl _ rfl bp (by kernel_rfl) ?_)
      have HB6 := Lib.hid (show BK w (W5.alloc (.cells (turnsN bp) 59)) [(bp, 23, cs), (b4, 29, vs), (W5.heap.size, 59, turnsN bp)] [(⟨⟨some ⟨g0, o0, none⟩, 4, z0⟩, ⟨some ⟨g1, o1, none⟩, 4, z1⟩, ⟨some ⟨g2, o2, none⟩, 2, z2⟩, ⟨some ⟨g3, o3, none⟩, 2, z3⟩, ⟨some ⟨g4, o4, none⟩, 2, z4⟩⟩, ⟨[(65542, 65536), (65530, 65536), (65530, 65536), (65530, 65536)], [0, -1, -1, -1], [4, 0], [⟨2, 1, 258, A1, c1, [104, 105]⟩, ⟨0, 3, 38155, A2, c2, []⟩], [⟨2, 256, 4, 3, true⟩, ⟨2, 256, 1, 1, false⟩]⟩)] [] from HB5.out.box 59 (turnsN bp))
      clear HB5
      generalize W5.alloc (.cells (turnsN bp) 59) = W6 at *
      generalize W5.heap.size = bf at *
      have hl1 := Hbp.out
      go_wp2
      go_loopw [10, 255] (fun bv iv wr => ∃ k : Nat, k ≤ 15 ∧ iv = .int .i64 (k : Int) ∧ bv = .int .i64 (k : Int) ∧ BK w wr [(bp, 23, cs), (b4, 29, vs), (bf, 59, turnsN bp)] [(⟨⟨some ⟨g0, o0, none⟩, 4, z0⟩, ⟨some ⟨g1, o1, none⟩, 4, z1⟩, ⟨some ⟨g2, o2, none⟩, 2, z2⟩, ⟨some ⟨g3, o3, none⟩, 2, z3⟩, ⟨some ⟨g4, o4, none⟩, 2, z4⟩⟩, ⟨[(65542, 65536), (65530, 65536), (65530, 65536), (65530, 65536)], [0, -1, -1, -1], [4, 0], [⟨2, 1, 258, A1, c1, [104, 105]⟩, ⟨0, 3, 38155, A2, c2, []⟩], [⟨2, 256, 4, 3, true⟩, ⟨2, 256, 1, 1, false⟩]⟩)] []) (fun _ iv _ => 15 - (intOf iv).toNat)
      case atStart => exact ⟨0, Nat.zero_le _, rfl, rfl, HB6.out⟩
      case round => as_aux_lemma =>
        obtain ⟨k, hk, rfl, rfl, hB⟩ := hrel
        have HB := Lib.hid hB
        clear HB6
        by_cases hlt : k < 15
        · as_aux_lemma =>
          obtain ⟨fval, hfv, fk, cap, rfl, hen, hcall⟩ := turns_all bp k hlt
          have hcell : wr.cell? ⟨bf, k, none⟩ = some (.func (.func fk) #[] cap) := ((hB.whole (y := (bf, 59, turnsN bp)) (by simp)).cell k).trans hfv
          have HCL := Lib.hid hcall
          have i1 : (0 : Int) ≤ (k : Int) := by omega
          have i2 : (k : Int) < 15 := by omega
          clear hB hfv hcall
          have HCP := Lib.hid (fun W (h : ScAt W ⟨⟨some ⟨g0, o0, none⟩, 4, z0⟩, ⟨some ⟨g1, o1, none⟩, 4, z1⟩, ⟨some ⟨g2, o2, none⟩, 2, z2⟩, ⟨some ⟨g3, o3, none⟩, 2, z3⟩, ⟨some ⟨g4, o4, none⟩, 2, z4⟩⟩ ⟨[(65542, 65536), (65530, 65536), (65530, 65536), (65530, 65536)], [0, -1, -1, -1], [4, 0], [⟨2, 1, 258, A1, c1, [104, 105]⟩, ⟨0, 3, 38155, A2, c2, []⟩], [⟨2, 256, 4, 3, true⟩, ⟨2, 256, 1, 1, false⟩]⟩) => names_copy h)
          rw [← HVS.out] at HCP
          have HPL := Lib.hid (show Whole wr bp 23 planF.cells from HCS.out ▸ (HB.out.whole (y := (bp, 23, cs)) (by simp)))
          go_upto_region 23 with (first
            | (refine wpList_load_row rfl 29 (.tmp 4) rfl b4 rfl 29 vs (0, 0) _ (HB.out.whole (y := (b4, 29, vs)) (by simp)) Try.underlying29 rfl HVi.out ?_)
            | (go_at_call 11; refine (HCP.out _ (HB.out.sc (⟨⟨some ⟨g0, o0, none⟩, 4, z0⟩, ⟨some ⟨g1, o1, none⟩, 4, z1⟩, ⟨some ⟨g2, o2, none⟩, 2, z2⟩, ⟨some ⟨g3, o3, none⟩, 2, z3⟩, ⟨some ⟨g4, o4, none⟩, 2, z4⟩⟩, ⟨[(65542, 65536), (65530, 65536), (65530, 65536), (65530, 65536)], [0, -1, -1, -1], [4, 0], [⟨2, 1, 258, A1, c1, [104, 105]⟩, ⟨0, 3, 38155, A2, c2, []⟩], [⟨2, 256, 4, 3, true⟩, ⟨2, 256, 1, 1, false⟩]⟩) (by simp))).mono ?_; rintro e w2 ⟨S, V', s', B', b0, rfl, e1, hsb, hsc', hb, hlo⟩; have HT := Lib.hid (names_tn e1 hsb hsc' hb hlo HPL.out); have HSi := Lib.hid S.info; have HSo := Lib.hid S.one; clear e1 hsb hsc' hb hlo)
            | (refine wpList_store_last (w := w2) rfl 29 (.tmp 13) (.tmp 260) rfl _ S.cells rfl rfl 29 _ rfl HSi.out rfl HSo.out ?_))
          generalize w2.alloc (.cells S.cells 29) = W7 at *
          generalize w2.heap.size = bt at *
          have HCT := Lib.hid (HCL.out wr W7 bt V' s' HT.out)
          clear HCP hcell HCL HT HPL
          go_upto_region 24 with (refine HCT.out.mono ?_; rintro e w3 ⟨rfl, Vb, sb, hx1, hx2, hx3, hx4⟩; have HX := Lib.hid (And.intro hx1 (And.intro hx2 (And.intro hx3 hx4))); have HBb := Lib.hid (HB.out.later hx4); have HVb := Lib.hid Vb.info; clear hx1 hx2 hx3 hx4)
          clear HCT
          have HEN := Lib.hid (fun W (h : ScAt W Vb sb) => turned_enc h HX.out.2.2.1)
          have HCK := Lib.hid (fun W (h : ScAt W Vb sb) => turned_chk h HX.out.2.2.1)
          rw [← HCS.out] at HEN HCK
          go_upto_region 25 with (first
            | (refine wpList_load_row rfl 23 (.tmp 1) rfl bp rfl 23 cs (0, 0) _ (HBb.out.whole (y := (bp, 23, cs)) (by simp)) Try.underlying23 rfl HS.out.plan ?_)
            | (refine wpList_load_row rfl 29 (.tmp 13) rfl bt rfl 29 Vb.cells (0, 0) _ HX.out.1 Try.underlying29 rfl HVb.out ?_)
            | (go_at_call 13; refine (HEN.out _ HX.out.2.1).mono ?_; rintro e w4 ⟨rfl, hb⟩; have HBc := Lib.hid (HBb.out.later hb); have HXc := Lib.hid (And.intro (k_later hb HX.out.1) (HX.out.2.1.later hb)); clear hb))
          clear HEN HX HBb
          go_upto_region 27 with (first
            | (refine wpList_load_want (by kernel_rfl) 23 (.tmp 1) rfl bp rfl 23 cs (0, 0) _ (HBc.out.whole (y := (bp, 23, cs)) (by simp)) Try.underlying23 rfl HS.out.plan ?_)
            | (refine wpList_load_want (by kernel_rfl) 29 (.tmp 13) rfl bt rfl 29 Vb.cells (0, 0) _ HXc.out.1 Try.underlying29 rfl HVb.out ?_)
            | (go_at_call 18; refine (HCK.out _ HXc.out.2).mono ?_; rintro e w5 ⟨rfl, hb⟩; have HBd := Lib.hid (HBc.out.later hb); clear hb))
          clear HCK HXc HBc
          go_wp2
          go_roundw
          case rel => exact ⟨k + 1, by omega, by go_num, by go_num, HBd.out⟩
          case measure => simp [intOf]; omega
        · as_aux_lemma =>
          obtain rfl : k = 15 := by omega
          clear hB hlt
          go_upto_region 28 with fail
          have hp := HCS.out ▸ (HB.out.whole (y := (bp, 23, cs)) (by simp))
          have hp : Whole wr bp 23 planF.cells := hp
          obtain ⟨zs, hmk⟩ := make_big
          have HLG := Lib.hid names_long
          have KS := Lib.hid (fun W (hb : Below wr.heap.size wr W) => (show W.cell? ⟨bp, 0, none⟩ = some (.int .i64 4) ∧ W.cell? ⟨bp, 1, none⟩ = some (.int .i64 1) ∧ W.cell? ⟨bp, 2, none⟩ = some (.int .i64 578) ∧ W.cell? ⟨bp, 3, none⟩ = some (.int .i64 278) ∧ W.cell? ⟨bp, 4, none⟩ = some (.int .i64 108) ∧ W.cell? ⟨bp, 5, none⟩ = some (.int .i64 2) ∧ W.cell? ⟨bp, 6, none⟩ = some (.int .i64 1) ∧ W.cell? ⟨bp, 7, none⟩ = some (.int .i64 5) ∧ W.cell? ⟨bp, 8, none⟩ = some (.int .i64 10000) ∧ W.cell? ⟨bp, 9, none⟩ = some (.int .i64 98) ∧ W.cell? ⟨bp, 10, none⟩ = some (.int .i64 72) ∧ W.cell? ⟨bp, 11, none⟩ = some (.int .i64 11756) ∧ W.cell? ⟨bp, 12, none⟩ = some (.int .i64 4) ∧ W.cell? ⟨bp, 13, none⟩ = some (.int .i64 2) ∧ W.cell? ⟨bp, 14, none⟩ = some (.int .i64 8) ∧ W.cell? ⟨bp, 15, none⟩ = some (.int .i64 92480) from planF_cells (k_later hb hp)))
          have F0 := Lib.hid (show Below wr.heap.size wr wr.drew from (Below.refl _ _).drew)
          have Fz := Lib.hid (show Below wr.heap.size wr (wr.alloc (.cells zs 5)).drew from ((Below.refl _ _).alloc (Nat.le_refl _) _).drew)
          have Fa := Lib.hid (show Below wr.heap.size wr (wr.alloc (.cells #[.slice none 0 0, .slice none 0 0, .slice none 0 0, .slice none 0 0, .slice none 0 0] 29)).drew from ((Below.refl _ _).alloc (Nat.le_refl _) _).drew)
          have Fza := Lib.hid (show Below wr.heap.size wr ((wr.alloc (.cells zs 5)).alloc (.cells #[.slice none 0 0, .slice none 0 0, .slice none 0 0, .slice none 0 0, .slice none 0 0] 29)).drew from (((Below.refl _ _).alloc (Nat.le_refl _) _).alloc (by simp) _).drew)
          have Faz := Lib.hid (show Below wr.heap.size wr ((wr.alloc (.cells #[.slice none 0 0, .slice none 0 0, .slice none 0 0, .slice none 0 0, .slice none 0 0] 29)).alloc (.cells zs 5)).drew from (((Below.refl _ _).alloc (Nat.le_refl _) _).alloc (by simp) _).drew)
          have Zza := Lib.hid (show Whole ((wr.alloc (.cells zs 5)).alloc (.cells #[.slice none 0 0, .slice none 0 0, .slice none 0 0, .slice none 0 0, .slice none 0 0] 29)).drew (wr.heap.size + 1) 29 #[.slice none 0 0, .slice none 0 0, .slice none 0 0, .slice none 0 0, .slice none 0 0] from by
            have := Whole.new (wr.alloc (.cells zs 5)) 29 #[.slice none 0 0, .slice none 0 0, .slice none 0 0, .slice none 0 0, .slice none 0 0]
            simp only [World.size_alloc] at this
            exact this)
          have Zaz := Lib.hid (show Whole ((wr.alloc (.cells #[.slice none 0 0, .slice none 0 0, .slice none 0 0, .slice none 0 0, .slice none 0 0] 29)).alloc (.cells zs 5)).drew wr.heap.size 29 #[.slice none 0 0, .slice none 0 0, .slice none 0 0, .slice none 0 0, .slice none 0 0] from (Whole.new wr _ _).alloc _)
          clear hp
          go_cut [17] (fun s17 wx => s17 = .int .i64 110 ∧ Below wr.heap.size wr wx)
          case first => as_aux_lemma =>
            go_region_held3 (fun W => W.cell? ⟨bp, 0, none⟩ = some (.int .i64 4) ∧ W.cell? ⟨bp, 1, none⟩ = some (.int .i64 1) ∧ W.cell? ⟨bp, 2, none⟩ = some (.int .i64 578) ∧ W.cell? ⟨bp, 3, none⟩ = some (.int .i64 278) ∧ W.cell? ⟨bp, 4, none⟩ = some (.int .i64 108) ∧ W.cell? ⟨bp, 5, none⟩ = some (.int .i64 2) ∧ W.cell? ⟨bp, 6, none⟩ = some (.int .i64 1) ∧ W.cell? ⟨bp, 7, none⟩ = some (.int .i64 5) ∧ W.cell? ⟨bp, 8, none⟩ = some (.int .i64 10000) ∧ W.cell? ⟨bp, 9, none⟩ = some (.int .i64 98) ∧ W.cell? ⟨bp, 10, none⟩ = some (.int .i64 72) ∧ W.cell? ⟨bp, 11, none⟩ = some (.int .i64 11756) ∧ W.cell? ⟨bp, 12, none⟩ = some (.int .i64 4) ∧ W.cell? ⟨bp, 13, none⟩ = some (.int .i64 2) ∧ W.cell? ⟨bp, 14, none⟩ = some (.int .i64 8) ∧ W.cell? ⟨bp, 15, none⟩ = some (.int .i64 92480)) (first | with_reducible exact KS.out _ F0.out | with_reducible exact KS.out _ Fz.out | with_reducible exact KS.out _ Fa.out | with_reducible exact KS.out _ Fza.out | with_reducible exact KS.out _ Faz.out | with_reducible exact KS.out _ FB.out | with_reducible exact KS.out _ (FB.out.alloc FB.out.size _) | with_reducible exact KS.out _ (b5l FB.out (Nat.le_refl _) _ _ _ _ _) | with_reducible exact KS.out _ (b5l FB.out (Nat.le_succ _) _ _ _ _ _)) (first
              | (go_at_call 15; ((with_reducible refine (HLG.out _ _).mono ?_); rintro e w9 ⟨rfl, hb⟩; have FB : Hid (Below wr.heap.size wr w9) := (by first | exact k_then hb Fz.out | exact k_then hb Fza.out | exact k_then hb Faz.out); (first | have Z7 : Whole w9 (wr.heap.size + 1) 29 #[.slice none 0 0, .slice none 0 0, .slice none 0 0, .slice none 0 0, .slice none 0 0] := k_later hb Zza.out | have Z7 : Whole w9 wr.heap.size 29 #[.slice none 0 0, .slice none 0 0, .slice none 0 0, .slice none 0 0, .slice none 0 0] := k_later hb Zaz.out | skip); (first | (have y0 := Z7.cell 0; have y1 := Z7.cell 1; have y2 := Z7.cell 2; have y3 := Z7.cell 3; have y4 := Z7.cell 4; have q0 := Z7.frozen 0; have q1 := Z7.frozen 1; have q2 := Z7.frozen 2; have q3 := Z7.frozen 3; have q4 := Z7.frozen 4; simp at y0 y1 y2 y3 y4) | skip); clear hb)))
            all_goals (go_wp2_with fail; go_meet)
            all_goals first
              | with_reducible exact ⟨rfl, FB.out.alloc FB.out.size _⟩
              | with_reducible exact ⟨rfl, b5l FB.out (Nat.le_refl _) _ _ _ _ _⟩
              | with_reducible exact ⟨rfl, b5l FB.out (Nat.le_succ _) _ _ _ _ _⟩
          case rest => as_aux_lemma =>
            obtain ⟨rfl, hbw⟩ := hcut
            have HBe := Lib.hid (HB.out.later hbw)
            clear HLG KS F0 Fz Fa Fza Faz Zza Zaz hbw HB hmk
            have HZP := Lib.hid names_zero
            have HIN := Lib.hid (show (Try.prog.info? 29).map (·.size) = some (#[.slice none 0 0, .slice none 0 0, .slice none 0 0, .slice none 0 0, .slice none 0 0] : Array Value).size from by show _ = some 5; kernel_rfl)
            have HON := Lib.hid (show (#[.slice none 0 0, .slice none 0 0, .slice none 0 0, .slice none 0 0, .slice none 0 0] : Array Value).all (·.oneCell') = true from by simp [Value.oneCell'])
            go_upto_region 30 with (first
              | (go_at_call 15; refine (HZP.out _).mono ?_; rintro e wa ⟨rfl, hb⟩; have HBf := Lib.hid (HBe.out.later hb); clear hb)
              | (refine wpList_store_last (w := wa) rfl 29 (.tmp 18) (.tmp 294) rfl _ #[.slice none 0 0, .slice none 0 0, .slice none 0 0, .slice none 0 0, .slice none 0 0] rfl rfl 29 _ rfl HIN.out rfl HON.out ?_))
            have HBg := Lib.hid (HBf.out.later ((Below.refl _ _).alloc (Nat.le_refl _) (.cells #[.slice none 0 0, .slice none 0 0, .slice none 0 0, .slice none 0 0, .slice none 0 0] 29)))
            clear HZP HBe HBf
            generalize wa.alloc (.cells #[.slice none 0 0, .slice none 0 0, .slice none 0 0, .slice none 0 0, .slice none 0 0] 29) = W8 at *
            have HNE := Lib.hid (fun W (h : ScAt W ⟨⟨some ⟨g0, o0, none⟩, 4, z0⟩, ⟨some ⟨g1, o1, none⟩, 4, z1⟩, ⟨some ⟨g2, o2, none⟩, 2, z2⟩, ⟨some ⟨g3, o3, none⟩, 2, z3⟩, ⟨some ⟨g4, o4, none⟩, 2, z4⟩⟩ ⟨[(65542, 65536), (65530, 65536), (65530, 65536), (65530, 65536)], [0, -1, -1, -1], [4, 0], [⟨2, 1, 258, A1, c1, [104, 105]⟩, ⟨0, 3, 38155, A2, c2, []⟩], [⟨2, 256, 4, 3, true⟩, ⟨2, 256, 1, 1, false⟩]⟩) => names_enc h)
            have HNN := Lib.hid names_nil
            have HAL := Lib.hid (fun W => aliveS_any W)
            rw [← HVS.out, ← HCS.out] at HNE
            rw [← HCS.out] at HNN
            go_upto_region 31 with (first
              | (refine wpList_load_row rfl 23 (.tmp 1) rfl bp rfl 23 cs (0, 0) _ (HBg.out.whole (y := (bp, 23, cs)) (by simp)) Try.underlying23 rfl HS.out.plan ?_)
              | (refine wpList_load_row rfl 29 (.tmp 4) rfl b4 rfl 29 vs (0, 0) _ (HBg.out.whole (y := (b4, 29, vs)) (by simp)) Try.underlying29 rfl HVi.out ?_)
              | (go_at_call 13; refine (HNE.out _ (HBg.out.sc (⟨⟨some ⟨g0, o0, none⟩, 4, z0⟩, ⟨some ⟨g1, o1, none⟩, 4, z1⟩, ⟨some ⟨g2, o2, none⟩, 2, z2⟩, ⟨some ⟨g3, o3, none⟩, 2, z3⟩, ⟨some ⟨g4, o4, none⟩, 2, z4⟩⟩, ⟨[(65542, 65536), (65530, 65536), (65530, 65536), (65530, 65536)], [0, -1, -1, -1], [4, 0], [⟨2, 1, 258, A1, c1, [104, 105]⟩, ⟨0, 3, 38155, A2, c2, []⟩], [⟨2, 256, 4, 3, true⟩, ⟨2, 256, 1, 1, false⟩]⟩) (by simp))).mono ?_; rintro e wb ⟨An, cn, rfl, hb⟩; have HBh := Lib.hid (HBg.out.later hb); clear hb))
            clear HNE HBg
            go_upto_region 999 with (first
              | (go_at_call 43; refine (HAL.out _).mono ?_; rintro e wc2 ⟨rfl, hb⟩; have HBi := Lib.hid (HBh.out.later hb); clear hb)
              | (refine wpList_load_want (by kernel_rfl) 23 (.tmp 1) rfl bp rfl 23 cs (0, 0) _ (HBi.out.whole (y := (bp, 23, cs)) (by simp)) Try.underlying23 rfl HS.out.plan ?_)
              | (go_at_call 18; refine (HNN.out _).mono ?_; rintro e wd2 ⟨rfl, hb⟩; have HBj := Lib.hid (HBi.out.later hb); clear hb))
            go_ret
            exact ⟨rfl, HBj.out.below⟩
end Go.Proofs.Ytljcaigaofalbaa
