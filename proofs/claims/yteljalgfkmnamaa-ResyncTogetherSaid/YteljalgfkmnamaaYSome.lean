/- some, corrected and alive, of the laws. No condition. -/
import Derived.Test.YteljalgfkmnamaaYTurn
import Derived.Test.YteljalgfkmnamaaLFit
namespace Go.Proofs.Yteljalgfkmnamaa
open Go.RowKit Go.Shelf

/-- The chapter's wishes, and the least plan for them. -/
def wishS : Pl := ⟨4, 1, 0, 0, 0, 1, 1, 3, 100000, 0, 0, 0, 2, 1, 4, 0⟩
def planS : Pl := ⟨4, 1, 512, 248, 96, 1, 1, 3, 100000, 88, 64, 10416, 2, 1, 4, 81920⟩
theorem wish_fitok : FitOk wishS 512 := by
  refine ⟨⟨by omega, by omega⟩, by decide, fun l h1 h2 h => ?_, fun j a b => ?_, ⟨⟨by decide, by decide⟩, by decide⟩, by decide⟩
  · rw [need_w, lPi_w, lCap_w] at h
    have e1 : gL (wishL wishS l) = 2 * (2 * (4 * l) / 100000 + 4) := rfl
    have e2 : aL (wishL wishS l) = 2 * (eL wishS + gL (wishL wishS l)) := rfl
    have e3 : eL wishS = 8 := rfl
    have e4 : wishS.dmax = 3 := rfl
    have e5 : wishS.air = 1 := rfl
    omega
  · have : j = 1 ∨ j = 2 ∨ j = 3 ∨ j = 4 ∨ j = 5 ∨ j = 6 ∨ j = 7 ∨ j = 8 ∨ j = 9 ∨ j = 10 ∨ j = 11 := by omega
    rcases this with rfl | rfl | rfl | rfl | rfl | rfl | rfl | rfl | rfl | rfl | rfl <;> decide
theorem wish_fit : fitV wishS = .tuple #[.agg planS.cells, .int .i64 0] := by
  rw [fitV, (fit_yes wish_fitok).1, (fit_yes wish_fitok).2]
  rfl
theorem planS_ok : planB planS = true := by decide

/-! The correction of written numbers. -/
theorem cor_bad {x : Pl} {l : List Int} (hv : okV l = false) : corE x l = 150 ∧ corB x l = 0 := by
  unfold corE corB
  rw [hv, Bool.and_false]
  exact ⟨rfl, rfl⟩
theorem cor_few {l : List Int} (hv : okV l = true) (hl : l.length < 3) : corE planS l = 0 ∧ corB planS l = 0 := by
  have hw : wantC planS l = 0 := by
    unfold wantC enoughB
    rw [planS_ok, Bool.true_and, if_neg]
    rw [decide_eq_true_eq]
    show ¬ (2 * 1 + 1 ≤ (l.length : Int))
    omega
  have ho : overB planS l = false := by
    unfold overB
    rw [hw]
    decide
  unfold corE corB
  rw [hv, planS_ok, ho, hw]
  exact ⟨rfl, rfl⟩
theorem want_lit {l : List Int} {a b : Int} (hv : okV l = true) (hl : 3 ≤ l.length) (ha : Spot l 1 a) (hb : Spot l (l.length - 1 - 1) b) : wantC planS l = -((a + b) / 2) := by
  obtain ⟨_, h, _⟩ := told_lit (k := 1) (by omega) hv ha hb
  unfold wantC enoughB
  rw [planS_ok, Bool.true_and, if_pos]
  · exact congrArg _ h
  · rw [decide_eq_true_eq]
    show 2 * 1 + 1 ≤ (l.length : Int)
    omega
theorem cor_in {l : List Int} {a b : Int} (hv : okV l = true) (hl : 3 ≤ l.length) (ha : Spot l 1 a) (hb : Spot l (l.length - 1 - 1) b) (c : Int) (hc : -((a + b) / 2) = c) (h : -64 ≤ c ∧ c ≤ 64) : corE planS l = 0 ∧ corB planS l = c := by
  have hw := want_lit hv hl ha hb
  rw [hc] at hw
  have ho : overB planS l = false := by
    unfold overB
    rw [hw]
    exact decide_eq_false (by show ¬ ((64 : Int) < c ∨ c < -64); omega)
  unfold corE corB
  rw [hv, planS_ok, ho, hw]
  exact ⟨rfl, rfl⟩
theorem cor_out {l : List Int} {a b : Int} (hv : okV l = true) (hl : 3 ≤ l.length) (ha : Spot l 1 a) (hb : Spot l (l.length - 1 - 1) b) (h : 64 < -((a + b) / 2) ∨ -((a + b) / 2) < -64) : corE planS l = 151 ∧ corB planS l = 0 := by
  have hw := want_lit hv hl ha hb
  have ho : overB planS l = true := by
    unfold overB
    rw [hw]
    exact decide_eq_true h
  unfold corE corB
  rw [hv, planS_ok, ho]
  exact ⟨rfl, rfl⟩
theorem turn_is {x : Pl} {y : Sy} {l : List Int} {e c : Int} (h : corE x l = e ∧ corB x l = c) {t : Tn} (ht : turnY e c y = t) : turnL x y l = t := by
  unfold turnL
  rw [h.1, h.2, ht]

set_option maxRecDepth 100000 in
set_option maxHeartbeats 1000000 in
theorem someS_any (w : World) : Calls Try.prog 15 #[] w fun e w' => e = .returned (.agg planS.cells) ∧ Below w.heap.size w w' := by
  have hf := fun W => Fit_any wishS W
  rw [wish_fit] at hf
  have HF := Lib.hid hf
  have HS := Lib.hid planS.cellsL
  have HB := Lib.hid ((Below.refl w.heap.size w).alloc (Nat.le_refl _) (.cells zeroL.cells 23))
  have HR := Lib.hid (Whole.new w 23 zeroL.cells)
  clear hf
  generalize planS.cells = cs at *
  go_enter Try.func15, Try.ntmps15
  go_wp2_with (first
    | (go_at_call 27; refine (HF.out _).mono ?_; rintro e w1 ⟨rfl, hb1⟩; have HB1 := Lib.hid ((k_then hb1 HB.out).alloc (k_then hb1 HB.out).size (.cells cs 23)); have HR1 := Lib.hid ((k_later hb1 HR.out).alloc (.cells cs 23)); have HX1 := Lib.hid (Whole.new w1 23 cs); clear hb1)
    | (refine wpList_store_last (w := w1) rfl 23 (.tmp 1) (.tmp 6) rfl _ cs rfl rfl 23 _ rfl HS.out.plan HS.out.size.symm HS.out.one ?_)
    | (refine wpList_load_row rfl 23 (.tmp 1) rfl w1.heap.size rfl 23 cs (0, 0) _ HX1.out Try.underlying23 rfl HS.out.plan ?_)
    | (refine wpList_store_row rfl 23 (.tmp 0) (.tmp 8) rfl w.heap.size cs rfl rfl 23 zeroL.cells HR1.out HS.out.plan HS.out.size.symm HS.out.one ?_))
  refine bodyPost_ret (v := .agg cs) (results_cell_row rfl _ _ _ 23 _ (0, 0) _ rfl (setRow_heap _ _ _ _ _ _ HR1.out) Try.underlying23 rfl HS.out.plan) rfl ⟨rfl, below_setRow HB1.out (Nat.le_refl _)⟩

set_option maxRecDepth 100000 in
set_option maxHeartbeats 1000000 in
theorem corrected_any (w : World) (s : Sl) (l : List Int) (h : RSrc inC 1 w s l) (hn : s.n ≤ 1000) : Calls Try.prog 16 #[s.v] w fun e w' => e = .returned (.int .i64 (if corE planS l = 0 then corB planS l else 1000 * corE planS l)) ∧ Below w.heap.size w w' := by
  have HSO := Lib.hid (fun W => someS_any W)
  have hc := fun W (hb : Below w.heap.size w W) => Correction_any planS W s l (h.later hb) hn
  unfold corV at hc
  have he := corE_is planS l
  generalize corE planS l = e at *
  generalize corB planS l = c at *
  have HC := Lib.hid hc
  obtain ⟨A, n, q⟩ := s
  unfold Sl.v at *
  dsimp only at *
  clear h hn hc
  rcases he with rfl | rfl | rfl
  · rw [if_pos rfl]
    go_enter Try.func16, Try.ntmps16
    go_wp2_with (first
      | (go_at_call 15; refine (HSO.out _).mono ?_; rintro e w1 ⟨rfl, hb⟩; have H1 := Lib.hid hb; clear hb)
      | (go_at_call 7; refine (HC.out _ H1.out).mono ?_; rintro e w2 ⟨rfl, hb⟩; have H2 := Lib.hid (k_then hb H1.out); clear hb))
    go_ret
    exact ⟨rfl, H2.out⟩
  · rw [if_neg (by decide)]
    go_enter Try.func16, Try.ntmps16
    go_wp2_with (first
      | (go_at_call 15; refine (HSO.out _).mono ?_; rintro e w1 ⟨rfl, hb⟩; have H1 := Lib.hid hb; clear hb)
      | (go_at_call 7; refine (HC.out _ H1.out).mono ?_; rintro e w2 ⟨rfl, hb⟩; have H2 := Lib.hid (k_then hb H1.out); clear hb))
    go_ret
    exact ⟨rfl, H2.out⟩
  · rw [if_neg (by decide)]
    go_enter Try.func16, Try.ntmps16
    go_wp2_with (first
      | (go_at_call 15; refine (HSO.out _).mono ?_; rintro e w1 ⟨rfl, hb⟩; have H1 := Lib.hid hb; clear hb)
      | (go_at_call 7; refine (HC.out _ H1.out).mono ?_; rintro e w2 ⟨rfl, hb⟩; have H2 := Lib.hid (k_then hb H1.out); clear hb))
    go_ret
    exact ⟨rfl, H2.out⟩

/-! Of numbers that were just written. -/
section
variable {W : World} {fs : List Int} {n : Nat} {cs : Array Value}
theorem src_new (hnl : fs.length = n) (hf : n ≤ 1000) (hcs : (fs.flatMap inC).toArray = cs) : RSrc inC 1 (W.alloc (.cells cs 2)) ⟨some ⟨W.heap.size, 0, none⟩, n, n⟩ fs ∧ Below W.heap.size W (W.alloc (.cells cs 2)) := by
  subst hnl
  exact ⟨rsrc_whole (cells := inC) (k := 1) (t := 2) (fun _ => rfl) (by rw [hcs]; exact Whole.new _ _ _) (by omega), (Below.refl _ _).alloc (Nat.le_refl _) _⟩
theorem cor_new (W : World) (v e c : Int) (hnl : fs.length = n) (hf : n ≤ 1000) (hcs : (fs.flatMap inC).toArray = cs) (h : corE planS fs = e ∧ corB planS fs = c) (hv : (if e = 0 then c else 1000 * e) = v) :
    Calls Try.prog 16 #[.slice (some ⟨W.heap.size, 0, none⟩) n n] (W.alloc (.cells cs 2)) fun e w' => e = .returned (.int .i64 v) ∧ Below W.heap.size W w' := by
  obtain ⟨hs, hb⟩ := src_new (W := W) hnl hf hcs
  rw [← hv, ← h.1, ← h.2]
  exact (corrected_any _ _ fs hs hf).mono fun _ _ ⟨e, k⟩ => ⟨e, k_then k hb⟩
theorem cor_nil (W : World) : Calls Try.prog 16 #[.slice none 0 0] W fun e w' => e = .returned (.int .i64 0) ∧ Below W.heap.size W w' := by
  obtain ⟨h1, h2⟩ := cor_few (l := []) (by decide) (by decide)
  have h := corrected_any W nilS [] (RSrc.nil W) (by decide)
  rw [h1, h2] at h
  exact h
theorem turn_new (W : World) (x : Pl) (y : Sy) (t : Tn) (hnl : fs.length = n) (hf : n ≤ 1000) (hcs : (fs.flatMap inC).toArray = cs) (h : turnL x y fs = t) :
    Calls Try.prog 9 #[.agg x.cells, y.v, .slice (some ⟨W.heap.size, 0, none⟩) n n] (W.alloc (.cells cs 2)) fun e w' => e = .returned t.v ∧ Below W.heap.size W w' := by
  obtain ⟨hs, hb⟩ := src_new (W := W) hnl hf hcs
  rw [← h]
  exact (Turn_any x y _ _ fs hs hf).mono fun _ _ ⟨e, k⟩ => ⟨e, k_then k hb⟩
theorem turn_nil (W : World) (x : Pl) (y : Sy) (t : Tn) (h : turnL x y [] = t) :
    Calls Try.prog 9 #[.agg x.cells, y.v, .slice none 0 0] W fun e w' => e = .returned t.v ∧ Below W.heap.size W w' := by
  rw [← h]
  exact Turn_any x y W nilS [] (RSrc.nil W) (by decide)
end

theorem cor_A : corE planS [0, 10, 20, 400] = 0 ∧ corB planS [0, 10, 20, 400] = -15 := cor_in (a := 10) (b := 20) (by decide) (by decide) ⟨by decide, by decide⟩ ⟨by decide, by decide⟩ _ (by decide) (by decide)
theorem cor_B : corE planS [0, -3] = 0 ∧ corB planS [0, -3] = 0 := cor_few (by decide) (by decide)
theorem cor_C : corE planS [0, 65, 66, 67] = 151 ∧ corB planS [0, 65, 66, 67] = 0 := cor_out (a := 65) (b := 66) (by decide) (by decide) ⟨by decide, by decide⟩ ⟨by decide, by decide⟩ (by decide)
set_option maxRecDepth 100000 in
set_option maxHeartbeats 2000000 in
theorem alive_any (w : World) : Calls Try.prog 17 #[] w fun e w' => e = .returned (.bool true) ∧ Below w.heap.size w w' := by
  have HSO := Lib.hid (fun W => someS_any W)
  have ht : turnL planS zeroY [0, 10, 20, 400] = ⟨⟨1, 1, -15, false⟩, -15, 0⟩ := turn_is cor_A (by rfl)
  have HT := Lib.hid (fun W => turn_new (n := 4) W planS zeroY _ rfl (by decide) (cs := #[.int .i64 0, .int .i64 10, .int .i64 20, .int .i64 400]) rfl ht)
  have HA := Lib.hid (fun W => cor_new (n := 4) W (-15) 0 (-15) rfl (by decide) (cs := #[.int .i64 0, .int .i64 10, .int .i64 20, .int .i64 400]) rfl cor_A rfl)
  have HB := Lib.hid (fun W => cor_new (n := 2) W 0 0 0 rfl (by decide) (cs := #[.int .i64 0, .int .i64 (-3)]) rfl cor_B rfl)
  have HC := Lib.hid (fun W => cor_new (n := 4) W 151000 151 0 rfl (by decide) (cs := #[.int .i64 0, .int .i64 65, .int .i64 66, .int .i64 67]) rfl cor_C rfl)
  clear ht
  unfold Tn.v Sy.v zeroY at *
  dsimp only at *
  generalize planS.cells = ps at *
  go_enter Try.func17, Try.ntmps17
  go_upto_region 2 with (first
    | (go_at_call 15; refine (HSO.out _).mono ?_; rintro e w1 ⟨rfl, hb⟩; have H1 := Lib.hid hb; clear hb)
    | (go_at_call 9; with_reducible refine (HT.out _).mono ?_; (rintro e w2 ⟨rfl, hb⟩; have H2 := Lib.hid (k_then hb H1.out); have HW := Lib.hid (Whole.new w2 25 #[.int .i64 1, .int .i64 1, .int .i64 (-15), .bool false]); have HB2 := Lib.hid (H2.out.alloc H2.out.size (.cells #[.int .i64 1, .int .i64 1, .int .i64 (-15), .bool false] 25)); clear hb HT)))
  generalize (w2.alloc _ : World) = V at *
  generalize w2.heap.size = g at *
  go_wp2_with (first
    | (go_at_call 16; with_reducible refine (HA.out _).mono ?_; (rintro e w3 ⟨rfl, hb⟩; have H3 := Lib.hid (k_then hb HB2.out); have HW3 := Lib.hid (k_later hb HW.out); clear hb HA))
    | (go_at_call 16; with_reducible refine (HB.out _).mono ?_; (rintro e w4 ⟨rfl, hb⟩; have H4 := Lib.hid (k_then hb H3.out); have HW4 := Lib.hid (k_later hb HW3.out); clear hb HB))
    | (go_at_call 16; with_reducible refine (HC.out _).mono ?_; (rintro e w5 ⟨rfl, hb⟩; have H5 := Lib.hid (k_then hb H4.out); have hw5 := k_later hb HW4.out; obtain ⟨a0, a1, a2, a3, -⟩ := y_four hw5; clear hb hw5 HC)))
  go_ret
  exact ⟨rfl, H5.out⟩
end Go.Proofs.Yteljalgfkmnamaa
