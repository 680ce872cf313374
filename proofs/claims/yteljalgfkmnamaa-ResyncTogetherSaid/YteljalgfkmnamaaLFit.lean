/- begun and Fit: by contracts. No condition. -/
import Derived.Test.YteljalgfkmnamaaLMend
namespace Go.Proofs.Yteljalgfkmnamaa
open Go.RowKit Go.Shelf

/-- A draft that the loop comes to. -/
def OnL (x y : Pl) : Prop := (BaseL x ∧ MidL x y) ∨ (¬ BaseL x ∧ y = wishL x 1)
theorem on_begun (x : Pl) : OnL x (wishL x 1) := by
  by_cases h : BaseL x
  · exact .inl ⟨h, mid_begun h⟩
  · exact .inr ⟨h, rfl⟩
theorem on_done {x y : Pl} (h : OnL x y) (k : failsL y 11 = 0) : ∃ L, FitOk x L ∧ y = withL x L := by
  have hf := failsL_first y (last := 11) (by omega)
  rw [k] at hf
  rcases hf with ⟨_, hh⟩ | ⟨hh, _⟩
  · rcases h with ⟨hB, s, so, wi, pi, ca, de, ho, rfl, i⟩ | ⟨hB, rfl⟩
    · obtain ⟨a, b⟩ := mid_done hB i hh
      exact ⟨s, a, b⟩
    · exact absurd ⟨⟨hh 1 (by omega) (by omega), hh 2 (by omega) (by omega)⟩, (hh 3 (by omega) (by omega)).2⟩ hB
  · omega
structure StepL (x y : Pl) (r : Nat) : Prop where
  h1 : 1 ≤ r
  h2 : r ≤ 11
  hp : ∀ j, 1 ≤ j → j < r → holdL y j
  yes : mendB y r = true → OnL x (mendP y r) ∧ sumL y < sumL (mendP y r) ∧ sumL (mendP y r) ≤ 70000000000
  no : mendB y r = false → ¬ ∃ L, FitOk x L
theorem on_step {x y : Pl} (h : OnL x y) (k : failsL y 11 ≠ 0) : StepL x y (failsL y 11) := by
  have hf := failsL_first y (last := 11) (by omega)
  generalize failsL y 11 = r at *
  rcases hf with ⟨e, _⟩ | ⟨h1, h2, hn, hp⟩
  · exact absurd e k
  · refine (fun (g : (mendB y r = true → OnL x (mendP y r) ∧ sumL y < sumL (mendP y r) ∧ sumL (mendP y r) ≤ 70000000000) ∧ (mendB y r = false → ¬ ∃ L, FitOk x L)) => ⟨h1, h2, hp, g.1, g.2⟩) ?_
    rcases h with ⟨hB, s, so, wi, pi, ca, de, ho, rfl, i⟩ | ⟨hB, rfl⟩
    · obtain ⟨a, b⟩ := mid_step hB i h1 h2 hn hp
      exact ⟨fun e => ⟨.inl ⟨hB, (a e).1⟩, (a e).2, (a e).1.sum.2⟩, b⟩
    · have hr : r ≤ 3 := by
        by_cases g : r ≤ 3
        · exact g
        · exact absurd ⟨⟨hp 1 (by omega) (by omega), hp 2 (by omega) (by omega)⟩, (hp 3 (by omega) (by omega)).2⟩ hB
      have : r = 1 ∨ r = 2 ∨ r = 3 := by omega
      have hm : mendB (wishL x 1) r = false := by rcases this with rfl | rfl | rfl <;> rfl
      rw [hm]
      exact ⟨fun e => (by cases e), fun _ g => g.elim fun L q => hB q.2.2.2.2.1⟩

/-- How far a draft is from the most that it may come to, read off its block. -/
def leftW (g : Nat) (V : World) : Nat := match V.heap[g]? with
  | some (.cells cs _ _) => (70000000000 - (intOf (cs.getD 2 undef) + intOf (cs.getD 3 undef) + intOf (cs.getD 4 undef) + intOf (cs.getD 9 undef) + intOf (cs.getD 10 undef) + intOf (cs.getD 11 undef) + intOf (cs.getD 15 undef))).toNat
  | _ => 0
theorem leftW_eq {V : World} {g : Nat} {t : TypeId} {y : Pl} (h : Whole V g t y.cells) : leftW g V = (70000000000 - sumL y).toNat := by
  unfold leftW
  rw [show V.heap[g]? = _ from h]
  rfl

/-- A plan out of its cell, and a number behind it. -/
theorem results_cell_tmp {P : Program} {fn : Func} {p q : Tmp} {ty : TypeId} (h : fn.results = #[.cell p ty, .tmp q]) (tmps : Array Value) (w : World) (g : Nat) (t : TypeId) (cs : Array Value) (fr : Nat × Nat) (d : TypeDesc)
    (hp : tmps.getD p undef = .pointer (some ⟨g, 0, none⟩)) {v : Value} (hv : tmps.getD q undef = v) (hg : w.heap[g]? = some (.cells cs t fr))
    (hu : P.underlying ty = some d) (hd : (match d with | .struct _ | .array _ _ => true | _ => false) = true) (hi : (P.info? ty).map (·.size) = some cs.size) :
    (results fn tmps).run P w = .ok (.tuple #[.agg cs, v]) w := by
  subst hv
  have hp' : tmps[p]?.getD undef = .pointer (some ⟨g, 0, none⟩) := by simpa using hp
  simp [results, h, hp', asAddr, run_loadVar_row w g t ty cs fr d hg hu hd hi]

set_option maxRecDepth 100000 in
set_option maxHeartbeats 1000000 in
theorem begun_any (x : Pl) (w : World) : Calls Try.prog 35 #[.agg x.cells] w fun e w' => e = .returned (.agg (wishL x 1).cells) ∧ Below w.heap.size w w' := by
  obtain ⟨⟨z0, z1, _, _⟩, ⟨_, z5, z6, z7⟩, ⟨z8, _⟩, ⟨z12, z13, z14, _⟩⟩ := x.at
  have HS := Lib.hid (wishL x 1).cellsL
  have HB := Lib.hid (((Below.refl w.heap.size w).alloc (Nat.le_refl _) (.cells x.cells 23)).alloc (by simp) (.cells (wishL x 1).cells 66))
  have hW := Whole.new (w.alloc (.cells x.cells 23)) 66 (wishL x 1).cells
  rw [World.size_alloc] at hW
  have HW := Lib.hid hW
  clear hW
  generalize x.cells = cs at *
  go_enter Try.func35, Try.ntmps35
  go_wp2_with (refine wpList_store_last rfl 66 _ _ rfl _ (wishL x 1).cells rfl rfl 66 _ (by simp) HS.out.draft rfl HS.out.one ?_)
  refine bodyPost_ret (v := .agg (wishL x 1).cells) (results_cell_row rfl _ _ _ 66 (wishL x 1).cells (0, 0) _ rfl HW.out Try.underlying66 rfl HS.out.draft) rfl ⟨rfl, HB.out⟩

noncomputable def fitV (x : Pl) : Value := .tuple #[.agg (fitP x).cells, .int .i64 (fitE x)]

/-- The plan's box, and the answer's cell behind it. -/
theorem fit_frame (x : Pl) (w : World) : Below w.heap.size w ((w.alloc (.cells x.cells 23)).alloc (.cells zeroL.cells 23)) ∧
    Whole ((w.alloc (.cells x.cells 23)).alloc (.cells zeroL.cells 23)) w.heap.size 23 x.cells ∧
    Whole ((w.alloc (.cells x.cells 23)).alloc (.cells zeroL.cells 23)) (w.heap.size + 1) 23 zeroL.cells := by
  have hz := Whole.new (w.alloc (.cells x.cells 23)) 23 zeroL.cells
  rw [World.size_alloc] at hz
  exact ⟨((Below.refl _ _).alloc (Nat.le_refl _) _).alloc (by simp) _, (Whole.new w _ _).alloc _, hz⟩

theorem below_kept {S : Nat → Prop} {n : Nat} {a b c : World} (h : Below n a b) (k : Kept S b c) (hS : ∀ i, S i → n ≤ i) (hn : n ≤ b.heap.size) : Below n a c :=
  h.trans ⟨k.os, k.tape, k.output, k.size, fun i hi => k.block i (by omega) (fun hs => by have := hS i hs; omega)⟩

set_option maxRecDepth 100000 in
set_option maxHeartbeats 4000000 in
theorem Fit_any (x : Pl) (w : World) : Calls Try.prog 27 #[.agg x.cells] w fun e w' => e = .returned (fitV x) ∧ Below w.heap.size w w' := by
  have HX := Lib.hid (fit_frame x w)
  have HS := Lib.hid x.cellsL
  have HY := Lib.hid (wishL x 1).cellsL
  have HG := Lib.hid (fun W => begun_any x W)
  have HV := Lib.hid (show fitV x = .tuple #[.agg (fitP x).cells, .int .i64 (fitE x)] from rfl)
  have HF := Lib.hid (fun (y : Pl) (g : Nat) W (h : Whole W g 66 y.cells) => fails11 W h)
  have HM := Lib.hid (fun (y : Pl) (g : Nat) W (k : StepL x y (failsL y 11)) (h : Whole W g 66 y.cells) => mend_any k.h1 k.h2 k.hp h)
  go_enter Try.func27, Try.ntmps27
  go_upto_region 1 with fail
  obtain ⟨hb, h1, h2⟩ := HX.out
  change Code.wp _ _ _ _ ((w.alloc (.cells x.cells 23)).alloc (.cells zeroL.cells 23))
  generalize (w.alloc (.cells x.cells 23)).alloc (.cells zeroL.cells 23) = w1 at *
  have HB1 := Lib.hid hb
  have H1 := Lib.hid h1
  have H2 := Lib.hid h2
  clear hb h1 h2 HX
  go_upto_region 2 with (first
    | (refine wpList_load_row rfl 23 _ rfl _ rfl 23 x.cells (0, 0) _ H1.out Try.underlying23 rfl HS.out.plan ?_)
    | (refine wpList_store_last rfl 66 _ _ rfl _ (wishL x 1).cells rfl rfl 66 _ rfl HY.out.draft rfl HY.out.one ?_)
    | (go_at_call 35; refine (HG.out _).mono ?_; rintro e w2 ⟨rfl, hb2⟩))
  have hd := Whole.new w2 66 (wishL x 1).cells
  have hz0 := k_later hb2 H2.out
  have hk0 := k_then hb2 HB1.out
  have hne : w.heap.size + 1 < w2.heap.size := hz0.lt
  have hz := hz0.alloc (.cells (wishL x 1).cells 66)
  have hk := hk0.alloc hk0.size (.cells (wishL x 1).cells 66)
  generalize w2.alloc (.cells (wishL x 1).cells 66) = w3 at *
  generalize w2.heap.size = g0 at *
  clear hz0 hk0 hb2 H1 H2 HB1 HG HS HY
  have HD := Lib.hid hd
  have HZ := Lib.hid hz
  have HK := Lib.hid hk
  clear hd hz hk
  go_wp2_with (go_at_call 36; refine (HF.out (wishL x 1) g0 _ HD.out).mono ?_; rintro e w4 ⟨rfl, hb4⟩)
  go_loopw [5] (fun f V => ∃ y : Pl, f = .int .i64 ((failsL y 11 : Nat) : Int) ∧ OnL x y ∧ Whole V g0 66 y.cells ∧ Whole V (w.heap.size + 1) 23 zeroL.cells ∧ Below w.heap.size w V) (fun _ V => leftW g0 V)
  case atStart => exact ⟨wishL x 1, rfl, on_begun x, k_later hb4 HD.out, k_later hb4 HZ.out, k_then hb4 HK.out⟩
  case round =>
    obtain ⟨y, rfl, hon, hd, hz, hk⟩ := hrel
    have HD1 := Lib.hid hd
    have HZ1 := Lib.hid hz
    have HK1 := Lib.hid hk
    clear hd hz hk hb4 HD HZ HK
    by_cases h0 : failsL y 11 = 0
    · obtain ⟨L, hL, hy⟩ := on_done hon h0
      have HVy := Lib.hid (show fitV x = .tuple #[.agg y.cells, .int .i64 0] by rw [fitV, (fit_yes hL).1, (fit_yes hL).2, hy])
      have HC := Lib.hid y.cellsL
      rw [h0]
      clear h0 hon hL hy
      go_wp2_with (first
        | (refine wpList_load_row rfl 66 _ rfl _ rfl 66 y.cells (0, 0) _ HD1.out Try.underlying66 rfl HC.out.draft ?_)
        | (refine wpList_store_row rfl 23 _ _ rfl _ y.cells rfl rfl 23 zeroL.cells HZ1.out HC.out.plan rfl HC.out.one ?_))
      refine bodyPost_ret (v := fitV x) (by rw [HVy.out]; exact results_cell_tmp rfl _ _ _ 23 y.cells (0, 0) _ rfl rfl (setRow_heap _ _ _ _ _ _ HZ1.out) Try.underlying23 rfl HC.out.plan) rfl ⟨rfl, ?_⟩
      exact below_setRow HK1.out (by omega)
    · have K := on_step hon h0
      have e1 : (((failsL y 11 : Nat) : Int) == 0) = false := by rw [beq_eq_false_iff_ne]; omega
      have HMy := Lib.hid (HM.out y g0 wr K HD1.out)
      have hl := leftW_eq HD1.out
      clear h0 hon
      generalize failsL y 11 = r at *
      cases hmb : mendB y r
      · have HVz := Lib.hid (show fitV x = .tuple #[.agg zeroL.cells, .int .i64 71] by rw [fitV, (fit_no (K.no hmb)).1, (fit_no (K.no hmb)).2])
        rw [hmb] at HMy
        have HC := Lib.hid zeroL.cellsL
        clear hl K hmb
        go_wp2_with (first
          | (go_at_call 37; refine HMy.out.mono ?_; rintro e w5 ⟨rfl, hk5, hd5⟩; have HK5 := Lib.hid (below_kept HK1.out hk5 (fun i hi => by omega) HK1.out.size); have HZ5 := Lib.hid (HZ1.out.kept hk5 (by omega)))
          | (refine wpList_store_row rfl 23 _ _ rfl _ zeroL.cells rfl rfl 23 zeroL.cells HZ5.out HC.out.plan rfl HC.out.one ?_))
        refine bodyPost_ret (v := fitV x) (by rw [HVz.out]; exact results_cell_tmp rfl _ _ _ 23 zeroL.cells (0, 0) _ rfl rfl (setRow_heap _ _ _ _ _ _ HZ5.out) Try.underlying23 rfl HC.out.plan) rfl ⟨rfl, ?_⟩
        exact below_setRow HK5.out (by omega)
      · rw [hmb] at HMy
        obtain ⟨ka, kb, kc⟩ := K.yes hmb
        have HKa := Lib.hid ka
        have HKb := Lib.hid kb
        have HKc := Lib.hid kc
        have HLl := Lib.hid hl
        clear hl K hmb ka kb kc
        go_wp2_with (first
          | (go_at_call 37; refine HMy.out.mono ?_; rintro e w5 ⟨rfl, hk5, hd5⟩; have HK5 := Lib.hid (below_kept HK1.out hk5 (fun i hi => by omega) HK1.out.size); have HZ5 := Lib.hid (HZ1.out.kept hk5 (by omega)); have HD5 := Lib.hid hd5; clear hk5 hd5)
          | (go_at_call 36; refine (HF.out (mendP y r) g0 _ HD5.out).mono ?_; rintro e w6 ⟨rfl, hb6⟩))
        go_roundw
        case rel => exact ⟨mendP y r, rfl, HKa.out, k_later hb6 HD5.out, k_later hb6 HZ5.out, k_then hb6 HK5.out⟩
        case measure =>
          have e2 := leftW_eq (k_later hb6 HD5.out)
          have := HLl.out
          have := HKb.out
          have := HKc.out
          show leftW g0 _ < leftW g0 _
          omega

end Go.Proofs.Yteljalgfkmnamaa
