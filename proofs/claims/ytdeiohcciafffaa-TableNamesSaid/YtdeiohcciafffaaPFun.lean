/- Begin, Sends, Expected, Listen, Wait, Middle, Full, Of, Next, Apart: by contracts. No condition. -/
import Derived.Test.YtdeiohcciafffaaPHas
namespace Go.Proofs.Ytdeiohcciafffaa
open Go.RowKit Go.Shelf

/-- The plan's box, the place's, and the sheet's. -/
theorem p_boxes3 (cs ps : Array Value) (w : World) (a b c : TypeId) :
    Below w.heap.size w (((w.alloc (.cells cs a)).alloc (.cells ps b)).alloc (.cells cs c)) ∧ Whole ((w.alloc (.cells cs a)).alloc (.cells ps b)) w.heap.size a cs ∧
    Whole (((w.alloc (.cells cs a)).alloc (.cells ps b)).alloc (.cells cs c)) w.heap.size a cs ∧
    Whole (((w.alloc (.cells cs a)).alloc (.cells ps b)).alloc (.cells cs c)) (w.heap.size + 1) b ps ∧ Whole (((w.alloc (.cells cs a)).alloc (.cells ps b)).alloc (.cells cs c)) (w.heap.size + 2) c cs := by
  have h1 := Whole.new w a cs
  have h2 := Whole.new (w.alloc (.cells cs a)) b ps
  have h3 := Whole.new ((w.alloc (.cells cs a)).alloc (.cells ps b)) c cs
  simp only [World.size_alloc] at h2 h3
  exact ⟨(((Below.refl _ _).alloc (Nat.le_refl _) _).alloc (by simp) _).alloc (by simp; omega) _, h1.alloc _, (h1.alloc _).alloc _, h2.alloc _, h3⟩

section
variable (x : Pl) (w : World)

set_option maxRecDepth 100000 in
set_option maxHeartbeats 1000000 in
theorem Begin_any (r s : Int) : Calls Try.prog 9 #[.agg x.cells, spotV r s] w fun e w' => e = .returned (.tuple #[.int .i64 (tellP (hasP x r s) (bgP x r s)), .int .i64 (errP (hasP x r s))]) ∧ Below w.heap.size w w' := by
  have hmf : ∀ (fn : Fn) (first cap : Array Value) (w : World), (Instr.makeFunc fn first cap).run Try.prog w = .ok (.func fn first cap) w := fun _ _ _ _ => rfl
  obtain ⟨hb, h1, _, hp, hs⟩ := p_boxes3 x.cells #[.int .i64 r, .int .i64 s] w 23 25 53
  have HA := Lib.hid (answer_any (w := ((w.alloc (.cells x.cells 23)).alloc (.cells #[.int .i64 r, .int .i64 s] 25)).alloc (.cells x.cells 53)) 33 r s (bgP x r s) (enters_of Try.func33 (by kernel_rfl) rfl) (fun W B S h => begins_any B S h) hs)
  have HB := Lib.hid hb
  have H1 := Lib.hid h1
  have HS := Lib.hid x.cellsL
  have q0 := hp.cell 0
  have q1 := hp.cell 1
  clear hb h1 hp hs
  generalize x.cells = cs at *
  generalize tellP (hasP x r s) (bgP x r s) = v at *
  generalize errP (hasP x r s) = er at *
  go_enter Try.func9, Try.ntmps9
  go_wp2_with (first
    | (refine wpList_load_row rfl 23 _ rfl w.heap.size rfl 23 cs (0, 0) _ H1.out Try.underlying23 rfl HS.out.plan ?_)
    | (refine wpList_store_last rfl 53 _ _ rfl _ cs rfl rfl 53 _ (by simp) HS.out.sheet HS.out.size.symm HS.out.one ?_)
    | (go_at_call 32; refine HA.out.mono ?_; rintro e w1 ⟨rfl, hb1⟩))
  refine bodyPost_ret (v := .tuple #[.int .i64 v, .int .i64 er]) (by simp [results, Try.results9, go_sem]) rfl ⟨rfl, k_then hb1 HB.out⟩


set_option maxRecDepth 100000 in
set_option maxHeartbeats 1000000 in
theorem Sends_any (r s : Int) : Calls Try.prog 17 #[.agg x.cells, spotV r s] w fun e w' => e = .returned (.tuple #[.int .i64 (tellP (hasP x r s) (sdP x r s)), .int .i64 (errP (hasP x r s))]) ∧ Below w.heap.size w w' := by
  have hmf : ∀ (fn : Fn) (first cap : Array Value) (w : World), (Instr.makeFunc fn first cap).run Try.prog w = .ok (.func fn first cap) w := fun _ _ _ _ => rfl
  obtain ⟨hb, h1, _, hp, hs⟩ := p_boxes3 x.cells #[.int .i64 r, .int .i64 s] w 23 25 53
  have HA := Lib.hid (answer_any (w := ((w.alloc (.cells x.cells 23)).alloc (.cells #[.int .i64 r, .int .i64 s] 25)).alloc (.cells x.cells 53)) 41 r s (sdP x r s) (enters_of Try.func41 (by kernel_rfl) rfl) (fun W B S h => sends_any B S h) hs)
  have HB := Lib.hid hb
  have H1 := Lib.hid h1
  have HS := Lib.hid x.cellsL
  have q0 := hp.cell 0
  have q1 := hp.cell 1
  clear hb h1 hp hs
  generalize x.cells = cs at *
  generalize tellP (hasP x r s) (sdP x r s) = v at *
  generalize errP (hasP x r s) = er at *
  go_enter Try.func17, Try.ntmps17
  go_wp2_with (first
    | (refine wpList_load_row rfl 23 _ rfl w.heap.size rfl 23 cs (0, 0) _ H1.out Try.underlying23 rfl HS.out.plan ?_)
    | (refine wpList_store_last rfl 53 _ _ rfl _ cs rfl rfl 53 _ (by simp) HS.out.sheet HS.out.size.symm HS.out.one ?_)
    | (go_at_call 32; refine HA.out.mono ?_; rintro e w1 ⟨rfl, hb1⟩))
  refine bodyPost_ret (v := .tuple #[.int .i64 v, .int .i64 er]) (by simp [results, Try.results17, go_sem]) rfl ⟨rfl, k_then hb1 HB.out⟩

/-- When a frame is expected, and its window. -/
def expV (b : Bool) (m wn : Int) : Value := .tuple #[.int .i64 (tellP b m), .int .i64 (tellP b (m - wn)), .int .i64 (tellP b (m + wn)), .int .i64 (errP b)]
set_option maxRecDepth 100000 in
set_option maxHeartbeats 4000000 in
theorem Expected_any (r s : Int) : Calls Try.prog 19 #[.agg x.cells, spotV r s] w fun e w' => e = .returned (expV (hasP x r s) (exP x r s) x.window) ∧ Below w.heap.size w w' := by
  have hmf : ∀ (fn : Fn) (first cap : Array Value) (w : World), (Instr.makeFunc fn first cap).run Try.prog w = .ok (.func fn first cap) w := fun _ _ _ _ => rfl
  obtain ⟨hb, h1, hpl, hp, hs⟩ := p_boxes3 x.cells #[.int .i64 r, .int .i64 s] w 23 25 53
  have HA := Lib.hid (answer_any (w := ((w.alloc (.cells x.cells 23)).alloc (.cells #[.int .i64 r, .int .i64 s] 25)).alloc (.cells x.cells 53)) 42 r s (exP x r s) (enters_of Try.func42 (by kernel_rfl) rfl) (fun W B S h => expected_any B S h) hs)
  have HB := Lib.hid hb
  have H1 := Lib.hid h1
  have HS := Lib.hid x.cellsL
  have q0 := hp.cell 0
  have q1 := hp.cell 1
  have HP := Lib.hid hpl
  clear hb h1 hpl hp hs
  cases hh : hasP x r s
  · rw [hh] at HA
    unfold tellP errP at HA
    simp only [Bool.false_eq_true, if_false] at HA
    generalize x.cells = cs at *
    clear HP hh
    go_enter Try.func19, Try.ntmps19
    go_wp2_with (first
      | (refine wpList_load_row rfl 23 _ rfl w.heap.size rfl 23 cs (0, 0) _ H1.out Try.underlying23 rfl HS.out.plan ?_)
      | (refine wpList_store_last rfl 53 _ _ rfl _ cs rfl rfl 53 _ (by simp) HS.out.sheet HS.out.size.symm HS.out.one ?_)
      | (go_at_call 32; refine HA.out.mono ?_; rintro e w1 ⟨rfl, hb1⟩))
    refine bodyPost_ret (v := .tuple #[.int .i64 0, .int .i64 0, .int .i64 0, .int .i64 90]) (by simp [results, Try.results19, go_sem]) rfl ⟨rfl, k_then hb1 HB.out⟩
  · obtain ⟨B, S⟩ := has_yes hh
    have b1 : 0 ≤ bgP x r s := S.b1
    have b2 : bgP x r s ≤ 36028797017915392 := S.b2
    have hse : exP x r s = bgP x r s + x.sendOff + mdP x := rfl
    obtain ⟨m1, m2, _⟩ := mid_bounds B
    obtain ⟨_, _, _, _, o1, o2, v1, v2, d1, d2, d3, _⟩ := B
    rw [hh] at HA
    unfold tellP errP at HA
    simp only [if_true] at HA
    have f1 : 0 ≤ exP x r s := by omega
    have f2 : exP x r s ≤ 36028797020012544 := by omega
    generalize exP x r s = m at *
    clear S hse b1 b2 m1 m2 d1 d2 d3 o1 o2 hh
    go_enter Try.func19, Try.ntmps19
    go_wp2_with (first
      | (refine wpList_load_row rfl 23 _ rfl w.heap.size rfl 23 x.cells (0, 0) _ H1.out Try.underlying23 rfl HS.out.plan ?_)
      | (refine wpList_store_last rfl 53 _ _ rfl _ x.cells rfl rfl 53 _ (by simp) HS.out.sheet HS.out.size.symm HS.out.one ?_)
      | (go_at_call 32; refine HA.out.mono ?_; rintro e w1 ⟨rfl, hb1⟩; obtain ⟨_, ⟨c4, _⟩, _⟩ := l_cells (k_later hb1 HP.out)))
    go_quiet (fail)
    go_wp2
    refine bodyPost_ret (v := .tuple #[.int .i64 m, .int .i64 (m - x.window), .int .i64 (m + x.window), .int .i64 0]) (by simp [results, Try.results19, go_sem]) rfl ⟨rfl, below_drewN (k_then hb1 HB.out) _⟩

set_option maxRecDepth 100000 in
set_option maxHeartbeats 1000000 in
theorem Listen_any (s : Int) : Calls Try.prog 21 #[.agg x.cells, .int .i64 s] w fun e w' => e = .returned (.tuple #[.int .i64 (tellP (hasP x 3 s) (bgP x 3 s)), .int .i64 (errP (hasP x 3 s))]) ∧ Below w.heap.size w w' := by
  obtain ⟨hb, hs⟩ := two_boxes x.cells w 23 53
  have HA := Lib.hid (silent_any (w := (w.alloc (.cells x.cells 23)).alloc (.cells x.cells 53)) 1 3 s (by omega) hs)
  have HB := Lib.hid hb
  have HS := Lib.hid x.cellsL
  clear hb hs
  generalize x.cells = cs at *
  generalize tellP (hasP x 3 s) (bgP x 3 s) = v at *
  generalize errP (hasP x 3 s) = er at *
  go_enter Try.func21, Try.ntmps21
  go_wp2_with (first
    | (refine wpList_load_row rfl 23 _ rfl w.heap.size rfl 23 cs (0, 0) _ (heap_alloc_last w _) Try.underlying23 rfl HS.out.plan ?_)
    | (refine wpList_store_last rfl 53 _ _ rfl _ cs rfl rfl 53 _ (by simp) HS.out.sheet HS.out.size.symm HS.out.one ?_)
    | (go_at_call 43; refine HA.out.mono ?_; rintro e w1 ⟨rfl, hb1⟩))
  refine bodyPost_ret (v := .tuple #[.int .i64 v, .int .i64 er]) (by simp [results, Try.results21, go_sem]) rfl ⟨rfl, k_then hb1 HB.out⟩

set_option maxRecDepth 100000 in
set_option maxHeartbeats 1000000 in
theorem Wait_any (s : Int) : Calls Try.prog 23 #[.agg x.cells, .int .i64 s] w fun e w' => e = .returned (.tuple #[.int .i64 (tellP (hasP x 1 s) (bgP x 1 s)), .int .i64 (errP (hasP x 1 s))]) ∧ Below w.heap.size w w' := by
  obtain ⟨hb, hs⟩ := two_boxes x.cells w 23 53
  have HA := Lib.hid (silent_any (w := (w.alloc (.cells x.cells 23)).alloc (.cells x.cells 53)) 0 1 s (by omega) hs)
  have HB := Lib.hid hb
  have HS := Lib.hid x.cellsL
  clear hb hs
  generalize x.cells = cs at *
  generalize tellP (hasP x 1 s) (bgP x 1 s) = v at *
  generalize errP (hasP x 1 s) = er at *
  go_enter Try.func23, Try.ntmps23
  go_wp2_with (first
    | (refine wpList_load_row rfl 23 _ rfl w.heap.size rfl 23 cs (0, 0) _ (heap_alloc_last w _) Try.underlying23 rfl HS.out.plan ?_)
    | (refine wpList_store_last rfl 53 _ _ rfl _ cs rfl rfl 53 _ (by simp) HS.out.sheet HS.out.size.symm HS.out.one ?_)
    | (go_at_call 43; refine HA.out.mono ?_; rintro e w1 ⟨rfl, hb1⟩))
  refine bodyPost_ret (v := .tuple #[.int .i64 v, .int .i64 er]) (by simp [results, Try.results23, go_sem]) rfl ⟨rfl, k_then hb1 HB.out⟩

set_option maxRecDepth 100000 in
set_option maxHeartbeats 1000000 in
theorem Middle_any : Calls Try.prog 27 #[.agg x.cells] w fun e w' => e = .returned (.int .i64 (tellP (okP x) (mdP x))) ∧ Below w.heap.size w w' := by
  obtain ⟨hb, hs⟩ := two_boxes x.cells w 23 53
  have HM := Lib.hid (mayBe_any hs)
  have HB := Lib.hid hb
  have HW := Lib.hid hs
  have HS := Lib.hid x.cellsL
  have HC := Lib.hid (fun (h : okP x = true) W (hW : Whole W (w.heap.size + 1) 53 x.cells) => middle_any (w := W) (bound_of h) hW)
  clear hb hs
  generalize mdP x = v at *
  cases hh : okP x
  · rw [hh] at HM
    clear hh
    go_enter Try.func27, Try.ntmps27
    go_wp2_with (first
      | (refine wpList_load_row rfl 23 _ rfl w.heap.size rfl 23 x.cells (0, 0) _ (heap_alloc_last w _) Try.underlying23 rfl HS.out.plan ?_)
      | (refine wpList_store_last rfl 53 _ _ rfl _ x.cells rfl rfl 53 _ (by simp) HS.out.sheet HS.out.size.symm HS.out.one ?_)
      | (go_at_call 36; refine HM.out.mono ?_; rintro e w1 ⟨rfl, hb1⟩))
    go_ret
    exact ⟨rfl, k_then hb1 HB.out⟩
  · rw [hh] at HM
    have HC2 := Lib.hid (HC.out hh)
    clear hh HC
    go_enter Try.func27, Try.ntmps27
    go_wp2_with (first
      | (refine wpList_load_row rfl 23 _ rfl w.heap.size rfl 23 x.cells (0, 0) _ (heap_alloc_last w _) Try.underlying23 rfl HS.out.plan ?_)
      | (refine wpList_store_last rfl 53 _ _ rfl _ x.cells rfl rfl 53 _ (by simp) HS.out.sheet HS.out.size.symm HS.out.one ?_)
      | (go_at_call 36; refine HM.out.mono ?_; rintro e w1 ⟨rfl, hb1⟩)
      | (go_at_call 44; refine (HC2.out _ (k_later hb1 HW.out)).mono ?_; rintro e w2 ⟨rfl, n, rfl⟩))
    go_ret
    exact ⟨rfl, below_drewN (k_then hb1 HB.out) _⟩

/-- Full frames: round and slot together are even. -/
def fullP (x : Pl) (r s : Int) : Bool := hasP x r s && ((r + s) % 2 == 0)
set_option maxRecDepth 100000 in
set_option maxHeartbeats 1000000 in
theorem Full_any (r s : Int) : Calls Try.prog 25 #[.agg x.cells, spotV r s] w fun e w' => e = .returned (.bool (fullP x r s)) ∧ Below w.heap.size w w' := by
  obtain ⟨hb, h1, _, hp, hs⟩ := p_boxes3 x.cells #[.int .i64 r, .int .i64 s] w 23 25 53
  have HA := Lib.hid (fun W b c u (h : Whole W (w.heap.size + 2) 53 x.cells) (hP : Whole W b u #[.int .i64 r, .int .i64 s]) => has1_any (w := W) r s b c u h hP)
  have hnw := Whole.new (((w.alloc (.cells x.cells 23)).alloc (.cells #[.int .i64 r, .int .i64 s] 25)).alloc (.cells x.cells 53)) 25 #[.int .i64 r, .int .i64 s]
  simp only [World.size_alloc] at hnw
  have HNW := Lib.hid hnw
  clear hnw
  have HB := Lib.hid hb
  have H1 := Lib.hid h1
  have HP := Lib.hid hp
  have HW := Lib.hid hs
  have HS := Lib.hid x.cellsL
  have q0 := hp.cell 0
  have q1 := hp.cell 1
  cases hh : hasP x r s
  · have HF := Lib.hid (show fullP x r s = false by simp [fullP, hh])
    rw [hh] at HA
    clear hb h1 hp hs hh
    generalize x.cells = cs at *
    go_enter Try.func25, Try.ntmps25
    go_upto_region 2 with (first
      | (refine wpList_load_row rfl 23 _ rfl w.heap.size rfl 23 cs (0, 0) _ H1.out Try.underlying23 rfl HS.out.plan ?_)
      | (refine wpList_store_last rfl 53 _ _ rfl _ cs rfl rfl 53 _ (by simp) HS.out.sheet HS.out.size.symm HS.out.one ?_))
    have hz3 : (((w.alloc (.cells cs 23)).alloc (.cells #[.int .i64 r, .int .i64 s] 25)).alloc (.cells cs 53)).heap.size = w.heap.size + 3 := by simp
    generalize ((w.alloc (.cells cs 23)).alloc (.cells #[.int .i64 r, .int .i64 s] 25)).alloc (.cells cs 53) = w3 at *
    go_wp2_with ((go_at_call 39; refine (HA.out _ _ _ 25 (HW.out.alloc _) HNW.out).mono ?_; rintro e w1 ⟨rfl, hb1⟩))
    go_ret
    exact ⟨by rw [HF.out]; rfl, k_then hb1 (HB.out.alloc HB.out.size _)⟩
  · have HF := Lib.hid (show fullP x r s = ((r + s) % 2 == 0) by simp [fullP, hh])
    obtain ⟨B, S⟩ := has_yes hh
    have n2 := B.n2
    obtain ⟨r1, r2, s1, s2, _⟩ := S
    have e1 : (r + s).tmod 2 = (r + s) % 2 := Int.tmod_eq_emod_of_nonneg (by omega)
    rw [hh] at HA
    clear hb h1 hp hs hh B
    generalize x.cells = cs at *
    go_enter Try.func25, Try.ntmps25
    go_upto_region 2 with (first
      | (refine wpList_load_row rfl 23 _ rfl w.heap.size rfl 23 cs (0, 0) _ H1.out Try.underlying23 rfl HS.out.plan ?_)
      | (refine wpList_store_last rfl 53 _ _ rfl _ cs rfl rfl 53 _ (by simp) HS.out.sheet HS.out.size.symm HS.out.one ?_))
    have hz3 : (((w.alloc (.cells cs 23)).alloc (.cells #[.int .i64 r, .int .i64 s] 25)).alloc (.cells cs 53)).heap.size = w.heap.size + 3 := by simp
    generalize ((w.alloc (.cells cs 23)).alloc (.cells #[.int .i64 r, .int .i64 s] 25)).alloc (.cells cs 53) = w3 at *
    go_wp2_with ((go_at_call 39; refine (HA.out _ _ _ 25 (HW.out.alloc _) HNW.out).mono ?_; rintro e w1 ⟨rfl, hb1⟩; obtain ⟨d0, d1, _⟩ := k_two (k_later hb1 (HP.out.alloc _)); clear q0 q1))
    go_ret
    exact ⟨by rw [HF.out]; rfl, k_then hb1 (HB.out.alloc HB.out.size _)⟩

end
end Go.Proofs.Ytdeiohcciafffaa
