/- The least plan for the chapter's wishes; what the laws turn in it; turned, by a contract. No condition. -/
import Derived.Test.YtilnaaljakjgoaaLAlive
namespace Go.Proofs.Ytilnaaljakjgoaa
open Go.RowKit Go.Shelf

/-- The least plan for the chapter's wishes. -/
def leastS : Pl := ⟨4, 1, 512, 248, 96, 1, 1, 3, 100000, 88, 64, 10416, 2, 1, 4, 81920⟩
theorem some_fitok : FitOk someL 512 := by
  refine ⟨⟨by omega, by omega⟩, by decide, fun l h1 h2 h => ?_, fun j a b => ?_, ⟨⟨by decide, by decide⟩, by decide⟩, by decide⟩
  · rw [need_w, lPi_w, lCap_w] at h
    have e1 : gL (wishL someL l) = 2 * (2 * (4 * l) / 100000 + 4) := rfl
    have e2 : aL (wishL someL l) = 2 * (eL someL + gL (wishL someL l)) := rfl
    have e3 : eL someL = 8 := rfl
    have e4 : someL.dmax = 3 := rfl
    have e5 : someL.air = 1 := rfl
    omega
  · have : j = 1 ∨ j = 2 ∨ j = 3 ∨ j = 4 ∨ j = 5 ∨ j = 6 ∨ j = 7 ∨ j = 8 ∨ j = 9 ∨ j = 10 ∨ j = 11 := by omega
    rcases this with rfl | rfl | rfl | rfl | rfl | rfl | rfl | rfl | rfl | rfl | rfl <;> decide
theorem some_fit : fitV someL = .tuple #[.agg leastS.cells, .int .i64 0] := by
  rw [fitV, (fit_yes some_fitok).1, (fit_yes some_fitok).2]
  rfl
theorem fails_num {x : Pl} {n : Nat} (h : failsI x = n) : failsL x 11 = n := by
  have := fails_eq x
  omega

/-- A function that turns a least plan into y. -/
def TurnL (k : FuncId) (y : Pl) : Prop := ∀ (g : Nat) (W : World), Whole W g 23 leastS.cells →
  Calls Try.prog k #[.pointer (some ⟨g, 0, none⟩)] W fun e w' => e = .returned (.tuple #[]) ∧ Kept (fun j => j = g) W w' ∧ Whole w' g 23 y.cells

set_option maxRecDepth 100000 in
set_option maxHeartbeats 4000000 in
theorem turned_any {k : FuncId} {y : Pl} {n : Nat} (h : TurnL k y) (hent : ∀ (args : Array Value) (W : World), (callFunc k args).run Try.prog W = .ok (.enter k args) W) (hn : failsL y 11 = n) (w : World) :
    Calls Try.prog 19 #[.func (.func k) #[] #[]] w fun e w' => e = .returned (.int .i64 (n : Int)) ∧ Below w.heap.size w w' := by
  have HS := Lib.hid (fun W => some_any W)
  have hf := fun W => Fit_any someL W
  rw [some_fit] at hf
  have HF := Lib.hid hf
  have hg := fun W => Fails_any leastS W
  rw [show failsL leastS 11 = 0 from fails_num (n := 0) (by decide)] at hg
  have HG := Lib.hid hg
  have hj := fun W => Fails_any y W
  rw [hn] at hj
  have HJ := Lib.hid hj
  have HT := Lib.hid h
  have HC := Lib.hid leastS.cellsL
  have HY := Lib.hid y.cellsL
  have HK := Lib.hid (Below.refl w.heap.size w)
  clear hf hg hj h hn
  unfold TurnL at HT
  generalize leastS.cells = cs at *
  generalize y.cells = ys at *
  go_enter Try.func19, Try.ntmps19
  go_wp2_with (first
    | (refine wpList_store_last (w := w2) rfl 23 _ _ rfl _ cs rfl rfl 23 _ rfl HC.out.plan HC.out.size.symm HC.out.one ?_; have HP3 := Lib.hid (Whole.new w2 23 cs); have HK3 := Lib.hid (HK2.out.alloc HK2.out.size (.cells cs 23)))
    | (refine wpList_load_want rfl 23 _ rfl w2.heap.size rfl 23 cs (0, 0) _ HP3.out Try.underlying23 rfl HC.out.plan ?_)
    | (refine wpList_load_row rfl 23 _ rfl w2.heap.size rfl 23 ys (0, 0) _ HP5.out Try.underlying23 rfl HY.out.plan ?_)
    | (go_at_call 18; refine (HS.out _).mono ?_; rintro e w1 ⟨rfl, hb⟩; have HK1 := Lib.hid (k_then hb HK.out); clear hb)
    | (go_at_call 16; refine (HF.out _).mono ?_; rintro e w2 ⟨rfl, hb⟩; have HK2 := Lib.hid (k_then hb HK1.out); clear hb)
    | (go_at_call 10; refine (HG.out _).mono ?_; clear HG; rintro e w4 ⟨rfl, hb⟩; have HK4 := Lib.hid (k_then hb HK3.out); have HP4 := Lib.hid (k_later hb HP3.out); clear hb)
    | (refine (HT.out _ _ HP4.out).mono ?_; rintro e w5 ⟨rfl, hk5, hp5⟩; have HP5 := Lib.hid hp5; have HK5 := Lib.hid (below_kept HK4.out hk5 (fun i hi => by rw [hi]; exact HK2.out.size) HK4.out.size); clear hp5 hk5)
    | (go_at_call 10; refine (HJ.out _).mono ?_; rintro e w6 ⟨rfl, hb⟩; have HK6 := Lib.hid (k_then hb HK5.out); clear hb))
  go_ret
  exact ⟨rfl, HK6.out⟩

theorem turn_end {W : World} {g i : Nat} {ys : Array Value} {v : Value} (HW : Whole W g 23 leastS.cells) (hy : leastS.cells.setIfInBounds i v = ys) :
    Kept (fun j => j = g) W (W.setCell ⟨g, i, none⟩ v) ∧ Whole (W.setCell ⟨g, i, none⟩ v) g 23 ys :=
  ⟨Kept.setCell (S := fun j => j = g) (p := ⟨g, i, none⟩) (Kept.refl _ W) (.inl rfl) _, by rw [← hy]; exact HW.set _ _⟩

def turn1 : Pl := ⟨4, 2, 512, 248, 96, 1, 1, 3, 100000, 88, 64, 10416, 2, 1, 4, 81920⟩
set_option maxHeartbeats 1000000 in
theorem turn1_any : TurnL 20 turn1 := by
  intro g W HW
  have HX := Lib.hid (turn_end (v := .int .i64 2) HW (ys := turn1.cells) (i := 1) rfl)
  have hc : W.cell? ⟨g, 1, none⟩ = some (.int .i64 1) := HW.cell 1
  have hf : W.frozen? ⟨g, 1, none⟩ = false := HW.frozen 1
  clear HW
  go_enter Try.func20, Try.ntmps20
  go_wp2
  go_end0
  exact ⟨rfl, HX.out.1, HX.out.2⟩
theorem turned1 (w : World) : Calls Try.prog 19 #[.func (.func 20) #[] #[]] w fun e w' => e = .returned (.int .i64 1) ∧ Below w.heap.size w w' :=
  turned_any turn1_any (fun args W => by kernel_rfl) (fails_num (n := 1) (by decide)) w
def turn2 : Pl := ⟨17, 1, 512, 248, 96, 1, 1, 3, 100000, 88, 64, 10416, 2, 1, 4, 81920⟩
set_option maxHeartbeats 1000000 in
theorem turn2_any : TurnL 21 turn2 := by
  intro g W HW
  have HX := Lib.hid (turn_end (v := .int .i64 17) HW (ys := turn2.cells) (i := 0) rfl)
  have hc : W.cell? ⟨g, 0, none⟩ = some (.int .i64 4) := HW.cell 0
  have hf : W.frozen? ⟨g, 0, none⟩ = false := HW.frozen 0
  clear HW
  go_enter Try.func21, Try.ntmps21
  go_wp2
  go_end0
  exact ⟨rfl, HX.out.1, HX.out.2⟩
theorem turned2 (w : World) : Calls Try.prog 19 #[.func (.func 21) #[] #[]] w fun e w' => e = .returned (.int .i64 1) ∧ Below w.heap.size w w' :=
  turned_any turn2_any (fun args W => by kernel_rfl) (fails_num (n := 1) (by decide)) w
def turn3 : Pl := ⟨4, 1, 512, 248, 96, 0, 1, 3, 100000, 88, 64, 10416, 2, 1, 4, 81920⟩
set_option maxHeartbeats 1000000 in
theorem turn3_any : TurnL 22 turn3 := by
  intro g W HW
  have HX := Lib.hid (turn_end (v := .int .i64 0) HW (ys := turn3.cells) (i := 5) rfl)
  have hc : W.cell? ⟨g, 5, none⟩ = some (.int .i64 1) := HW.cell 5
  have hf : W.frozen? ⟨g, 5, none⟩ = false := HW.frozen 5
  clear HW
  go_enter Try.func22, Try.ntmps22
  go_wp2
  go_end0
  exact ⟨rfl, HX.out.1, HX.out.2⟩
theorem turned3 (w : World) : Calls Try.prog 19 #[.func (.func 22) #[] #[]] w fun e w' => e = .returned (.int .i64 2) ∧ Below w.heap.size w w' :=
  turned_any turn3_any (fun args W => by kernel_rfl) (fails_num (n := 2) (by decide)) w
def turn4 : Pl := ⟨4, 1, 512, 248, 96, 1, 4, 3, 100000, 88, 64, 10416, 2, 1, 4, 81920⟩
set_option maxHeartbeats 1000000 in
theorem turn4_any : TurnL 23 turn4 := by
  intro g W HW
  have HX := Lib.hid (turn_end (v := .int .i64 4) HW (ys := turn4.cells) (i := 6) rfl)
  have hc : W.cell? ⟨g, 6, none⟩ = some (.int .i64 1) := HW.cell 6
  have hf : W.frozen? ⟨g, 6, none⟩ = false := HW.frozen 6
  clear HW
  go_enter Try.func23, Try.ntmps23
  go_wp2
  go_end0
  exact ⟨rfl, HX.out.1, HX.out.2⟩
theorem turned4 (w : World) : Calls Try.prog 19 #[.func (.func 23) #[] #[]] w fun e w' => e = .returned (.int .i64 2) ∧ Below w.heap.size w w' :=
  turned_any turn4_any (fun args W => by kernel_rfl) (fails_num (n := 2) (by decide)) w
def turn5 : Pl := ⟨4, 1, 0, 248, 96, 1, 1, 3, 100000, 88, 64, 10416, 2, 1, 4, 81920⟩
set_option maxHeartbeats 1000000 in
theorem turn5_any : TurnL 24 turn5 := by
  intro g W HW
  have HX := Lib.hid (turn_end (v := .int .i64 0) HW (ys := turn5.cells) (i := 2) rfl)
  have hc : W.cell? ⟨g, 2, none⟩ = some (.int .i64 512) := HW.cell 2
  have hf : W.frozen? ⟨g, 2, none⟩ = false := HW.frozen 2
  clear HW
  go_enter Try.func24, Try.ntmps24
  go_wp2
  go_end0
  exact ⟨rfl, HX.out.1, HX.out.2⟩
theorem turned5 (w : World) : Calls Try.prog 19 #[.func (.func 24) #[] #[]] w fun e w' => e = .returned (.int .i64 3) ∧ Below w.heap.size w w' :=
  turned_any turn5_any (fun args W => by kernel_rfl) (fails_num (n := 3) (by decide)) w
def turn6 : Pl := ⟨4, 1, 512, 248, 96, 1, 1, 3, 3, 88, 64, 10416, 2, 1, 4, 81920⟩
set_option maxHeartbeats 1000000 in
theorem turn6_any : TurnL 25 turn6 := by
  intro g W HW
  have HX := Lib.hid (turn_end (v := .int .i64 3) HW (ys := turn6.cells) (i := 8) rfl)
  have hc : W.cell? ⟨g, 8, none⟩ = some (.int .i64 100000) := HW.cell 8
  have hf : W.frozen? ⟨g, 8, none⟩ = false := HW.frozen 8
  clear HW
  go_enter Try.func25, Try.ntmps25
  go_wp2
  go_end0
  exact ⟨rfl, HX.out.1, HX.out.2⟩
theorem turned6 (w : World) : Calls Try.prog 19 #[.func (.func 25) #[] #[]] w fun e w' => e = .returned (.int .i64 3) ∧ Below w.heap.size w w' :=
  turned_any turn6_any (fun args W => by kernel_rfl) (fails_num (n := 3) (by decide)) w
def turn7 : Pl := ⟨4, 1, 512, 248, 96, 1, 1, 3, 100000, 87, 64, 10416, 2, 1, 4, 81920⟩
set_option maxHeartbeats 1000000 in
theorem turn7_any : TurnL 26 turn7 := by
  intro g W HW
  have HX := Lib.hid (turn_end (v := .int .i64 87) HW (ys := turn7.cells) (i := 9) rfl)
  have hc : W.cell? ⟨g, 9, none⟩ = some (.int .i64 88) := HW.cell 9
  have hf : W.frozen? ⟨g, 9, none⟩ = false := HW.frozen 9
  clear HW
  go_enter Try.func26, Try.ntmps26
  go_wp2
  go_end0
  exact ⟨rfl, HX.out.1, HX.out.2⟩
theorem turned7 (w : World) : Calls Try.prog 19 #[.func (.func 26) #[] #[]] w fun e w' => e = .returned (.int .i64 4) ∧ Below w.heap.size w w' :=
  turned_any turn7_any (fun args W => by kernel_rfl) (fails_num (n := 4) (by decide)) w
def turn8 : Pl := ⟨4, 1, 512, 248, 95, 1, 1, 3, 100000, 88, 64, 10416, 2, 1, 4, 81920⟩
set_option maxHeartbeats 1000000 in
theorem turn8_any : TurnL 27 turn8 := by
  intro g W HW
  have HX := Lib.hid (turn_end (v := .int .i64 95) HW (ys := turn8.cells) (i := 4) rfl)
  have hc : W.cell? ⟨g, 4, none⟩ = some (.int .i64 96) := HW.cell 4
  have hf : W.frozen? ⟨g, 4, none⟩ = false := HW.frozen 4
  clear HW
  go_enter Try.func27, Try.ntmps27
  go_wp2
  go_end0
  exact ⟨rfl, HX.out.1, HX.out.2⟩
theorem turned8 (w : World) : Calls Try.prog 19 #[.func (.func 27) #[] #[]] w fun e w' => e = .returned (.int .i64 5) ∧ Below w.heap.size w w' :=
  turned_any turn8_any (fun args W => by kernel_rfl) (fails_num (n := 5) (by decide)) w
def turn9 : Pl := ⟨4, 1, 512, 248, 96, 1, 1, 3, 100000, 88, 63, 10416, 2, 1, 4, 81920⟩
set_option maxHeartbeats 1000000 in
theorem turn9_any : TurnL 28 turn9 := by
  intro g W HW
  have HX := Lib.hid (turn_end (v := .int .i64 63) HW (ys := turn9.cells) (i := 10) rfl)
  have hc : W.cell? ⟨g, 10, none⟩ = some (.int .i64 64) := HW.cell 10
  have hf : W.frozen? ⟨g, 10, none⟩ = false := HW.frozen 10
  clear HW
  go_enter Try.func28, Try.ntmps28
  go_wp2
  go_end0
  exact ⟨rfl, HX.out.1, HX.out.2⟩
theorem turned9 (w : World) : Calls Try.prog 19 #[.func (.func 28) #[] #[]] w fun e w' => e = .returned (.int .i64 6) ∧ Below w.heap.size w w' :=
  turned_any turn9_any (fun args W => by kernel_rfl) (fails_num (n := 6) (by decide)) w
def turn10 : Pl := ⟨4, 1, 512, 247, 96, 1, 1, 3, 100000, 88, 64, 10416, 2, 1, 4, 81920⟩
set_option maxHeartbeats 1000000 in
theorem turn10_any : TurnL 29 turn10 := by
  intro g W HW
  have HX := Lib.hid (turn_end (v := .int .i64 247) HW (ys := turn10.cells) (i := 3) rfl)
  have hc : W.cell? ⟨g, 3, none⟩ = some (.int .i64 248) := HW.cell 3
  have hf : W.frozen? ⟨g, 3, none⟩ = false := HW.frozen 3
  clear HW
  go_enter Try.func29, Try.ntmps29
  go_wp2
  go_end0
  exact ⟨rfl, HX.out.1, HX.out.2⟩
theorem turned10 (w : World) : Calls Try.prog 19 #[.func (.func 29) #[] #[]] w fun e w' => e = .returned (.int .i64 7) ∧ Below w.heap.size w w' :=
  turned_any turn10_any (fun args W => by kernel_rfl) (fails_num (n := 7) (by decide)) w
def turn11 : Pl := ⟨4, 1, 512, 248, 96, 2, 1, 3, 100000, 88, 64, 10416, 2, 1, 4, 81920⟩
set_option maxHeartbeats 1000000 in
theorem turn11_any : TurnL 30 turn11 := by
  intro g W HW
  have HX := Lib.hid (turn_end (v := .int .i64 2) HW (ys := turn11.cells) (i := 5) rfl)
  have hc : W.cell? ⟨g, 5, none⟩ = some (.int .i64 1) := HW.cell 5
  have hf : W.frozen? ⟨g, 5, none⟩ = false := HW.frozen 5
  clear HW
  go_enter Try.func30, Try.ntmps30
  go_wp2
  go_end0
  exact ⟨rfl, HX.out.1, HX.out.2⟩
theorem turned11 (w : World) : Calls Try.prog 19 #[.func (.func 30) #[] #[]] w fun e w' => e = .returned (.int .i64 8) ∧ Below w.heap.size w w' :=
  turned_any turn11_any (fun args W => by kernel_rfl) (fails_num (n := 8) (by decide)) w
def turn12 : Pl := ⟨4, 1, 512, 248, 96, 1, 1, 3, 100000, 88, 64, 10416, 0, 1, 4, 81920⟩
set_option maxHeartbeats 1000000 in
theorem turn12_any : TurnL 31 turn12 := by
  intro g W HW
  have HX := Lib.hid (turn_end (v := .int .i64 0) HW (ys := turn12.cells) (i := 12) rfl)
  have hc : W.cell? ⟨g, 12, none⟩ = some (.int .i64 2) := HW.cell 12
  have hf : W.frozen? ⟨g, 12, none⟩ = false := HW.frozen 12
  clear HW
  go_enter Try.func31, Try.ntmps31
  go_wp2
  go_end0
  exact ⟨rfl, HX.out.1, HX.out.2⟩
theorem turned12 (w : World) : Calls Try.prog 19 #[.func (.func 31) #[] #[]] w fun e w' => e = .returned (.int .i64 9) ∧ Below w.heap.size w w' :=
  turned_any turn12_any (fun args W => by kernel_rfl) (fails_num (n := 9) (by decide)) w
def turn13 : Pl := ⟨4, 1, 512, 248, 96, 1, 1, 3, 100000, 88, 64, 10416, 2, 9, 4, 81920⟩
set_option maxHeartbeats 1000000 in
theorem turn13_any : TurnL 32 turn13 := by
  intro g W HW
  have HX := Lib.hid (turn_end (v := .int .i64 9) HW (ys := turn13.cells) (i := 13) rfl)
  have hc : W.cell? ⟨g, 13, none⟩ = some (.int .i64 1) := HW.cell 13
  have hf : W.frozen? ⟨g, 13, none⟩ = false := HW.frozen 13
  clear HW
  go_enter Try.func32, Try.ntmps32
  go_wp2
  go_end0
  exact ⟨rfl, HX.out.1, HX.out.2⟩
theorem turned13 (w : World) : Calls Try.prog 19 #[.func (.func 32) #[] #[]] w fun e w' => e = .returned (.int .i64 9) ∧ Below w.heap.size w w' :=
  turned_any turn13_any (fun args W => by kernel_rfl) (fails_num (n := 9) (by decide)) w
def turn14 : Pl := ⟨4, 1, 512, 248, 96, 1, 1, 3, 100000, 88, 64, 10416, 2, 1, 33, 81920⟩
set_option maxHeartbeats 1000000 in
theorem turn14_any : TurnL 33 turn14 := by
  intro g W HW
  have HX := Lib.hid (turn_end (v := .int .i64 33) HW (ys := turn14.cells) (i := 14) rfl)
  have hc : W.cell? ⟨g, 14, none⟩ = some (.int .i64 4) := HW.cell 14
  have hf : W.frozen? ⟨g, 14, none⟩ = false := HW.frozen 14
  clear HW
  go_enter Try.func33, Try.ntmps33
  go_wp2
  go_end0
  exact ⟨rfl, HX.out.1, HX.out.2⟩
theorem turned14 (w : World) : Calls Try.prog 19 #[.func (.func 33) #[] #[]] w fun e w' => e = .returned (.int .i64 9) ∧ Below w.heap.size w w' :=
  turned_any turn14_any (fun args W => by kernel_rfl) (fails_num (n := 9) (by decide)) w
def turn15 : Pl := ⟨4, 1, 512, 248, 96, 1, 1, 3, 100000, 88, 64, 10415, 2, 1, 4, 81920⟩
set_option maxHeartbeats 1000000 in
theorem turn15_any : TurnL 34 turn15 := by
  intro g W HW
  have HX := Lib.hid (turn_end (v := .int .i64 10415) HW (ys := turn15.cells) (i := 11) rfl)
  have hc : W.cell? ⟨g, 11, none⟩ = some (.int .i64 10416) := HW.cell 11
  have hf : W.frozen? ⟨g, 11, none⟩ = false := HW.frozen 11
  clear HW
  go_enter Try.func34, Try.ntmps34
  go_wp2
  go_end0
  exact ⟨rfl, HX.out.1, HX.out.2⟩
theorem turned15 (w : World) : Calls Try.prog 19 #[.func (.func 34) #[] #[]] w fun e w' => e = .returned (.int .i64 10) ∧ Below w.heap.size w w' :=
  turned_any turn15_any (fun args W => by kernel_rfl) (fails_num (n := 10) (by decide)) w
def turn16 : Pl := ⟨4, 1, 512, 248, 96, 1, 1, 3, 100000, 88, 64, 10416, 3, 1, 4, 81920⟩
set_option maxHeartbeats 1000000 in
theorem turn16_any : TurnL 35 turn16 := by
  intro g W HW
  have HX := Lib.hid (turn_end (v := .int .i64 3) HW (ys := turn16.cells) (i := 12) rfl)
  have hc : W.cell? ⟨g, 12, none⟩ = some (.int .i64 2) := HW.cell 12
  have hf : W.frozen? ⟨g, 12, none⟩ = false := HW.frozen 12
  clear HW
  go_enter Try.func35, Try.ntmps35
  go_wp2
  go_end0
  exact ⟨rfl, HX.out.1, HX.out.2⟩
theorem turned16 (w : World) : Calls Try.prog 19 #[.func (.func 35) #[] #[]] w fun e w' => e = .returned (.int .i64 10) ∧ Below w.heap.size w w' :=
  turned_any turn16_any (fun args W => by kernel_rfl) (fails_num (n := 10) (by decide)) w
def turn17 : Pl := ⟨4, 1, 512, 248, 96, 1, 1, 3, 100000, 88, 64, 131073, 2, 1, 4, 81920⟩
set_option maxHeartbeats 1000000 in
theorem turn17_any : TurnL 36 turn17 := by
  intro g W HW
  have HX := Lib.hid (turn_end (v := .int .i64 131073) HW (ys := turn17.cells) (i := 11) rfl)
  have hc : W.cell? ⟨g, 11, none⟩ = some (.int .i64 10416) := HW.cell 11
  have hf : W.frozen? ⟨g, 11, none⟩ = false := HW.frozen 11
  clear HW
  go_enter Try.func36, Try.ntmps36
  go_wp2
  go_end0
  exact ⟨rfl, HX.out.1, HX.out.2⟩
theorem turned17 (w : World) : Calls Try.prog 19 #[.func (.func 36) #[] #[]] w fun e w' => e = .returned (.int .i64 10) ∧ Below w.heap.size w w' :=
  turned_any turn17_any (fun args W => by kernel_rfl) (fails_num (n := 10) (by decide)) w
def turn18 : Pl := ⟨4, 1, 512, 248, 96, 1, 1, 3, 100000, 88, 64, 10416, 2, 1, 4, 81919⟩
set_option maxHeartbeats 1000000 in
theorem turn18_any : TurnL 37 turn18 := by
  intro g W HW
  have HX := Lib.hid (turn_end (v := .int .i64 81919) HW (ys := turn18.cells) (i := 15) rfl)
  have hc : W.cell? ⟨g, 15, none⟩ = some (.int .i64 81920) := HW.cell 15
  have hf : W.frozen? ⟨g, 15, none⟩ = false := HW.frozen 15
  clear HW
  go_enter Try.func37, Try.ntmps37
  go_wp2
  go_end0
  exact ⟨rfl, HX.out.1, HX.out.2⟩
theorem turned18 (w : World) : Calls Try.prog 19 #[.func (.func 37) #[] #[]] w fun e w' => e = .returned (.int .i64 11) ∧ Below w.heap.size w w' :=
  turned_any turn18_any (fun args W => by kernel_rfl) (fails_num (n := 11) (by decide)) w
def turn19 : Pl := ⟨4, 1, 512, 248, 96, 1, 1, 3, 100000, 88, 64, 10416, 2, 1, 4, 2147483649⟩
set_option maxHeartbeats 1000000 in
theorem turn19_any : TurnL 38 turn19 := by
  intro g W HW
  have HX := Lib.hid (turn_end (v := .int .i64 2147483649) HW (ys := turn19.cells) (i := 15) rfl)
  have hc : W.cell? ⟨g, 15, none⟩ = some (.int .i64 81920) := HW.cell 15
  have hf : W.frozen? ⟨g, 15, none⟩ = false := HW.frozen 15
  clear HW
  go_enter Try.func38, Try.ntmps38
  go_wp2
  go_end0
  exact ⟨rfl, HX.out.1, HX.out.2⟩
theorem turned19 (w : World) : Calls Try.prog 19 #[.func (.func 38) #[] #[]] w fun e w' => e = .returned (.int .i64 11) ∧ Below w.heap.size w w' :=
  turned_any turn19_any (fun args W => by kernel_rfl) (fails_num (n := 11) (by decide)) w
def turn20 : Pl := ⟨4, 1, 512, 248, 96, 1, 1, 3, 100000, 88, 64, 10416, 2, 1, 4, 2147483648⟩
set_option maxHeartbeats 1000000 in
theorem turn20_any : TurnL 39 turn20 := by
  intro g W HW
  have HX := Lib.hid (turn_end (v := .int .i64 2147483648) HW (ys := turn20.cells) (i := 15) rfl)
  have hc : W.cell? ⟨g, 15, none⟩ = some (.int .i64 81920) := HW.cell 15
  have hf : W.frozen? ⟨g, 15, none⟩ = false := HW.frozen 15
  clear HW
  go_enter Try.func39, Try.ntmps39
  go_wp2
  go_end0
  exact ⟨rfl, HX.out.1, HX.out.2⟩
theorem turned20 (w : World) : Calls Try.prog 19 #[.func (.func 39) #[] #[]] w fun e w' => e = .returned (.int .i64 0) ∧ Below w.heap.size w w' :=
  turned_any turn20_any (fun args W => by kernel_rfl) (fails_num (n := 0) (by decide)) w

end Go.Proofs.Ytilnaaljakjgoaa
