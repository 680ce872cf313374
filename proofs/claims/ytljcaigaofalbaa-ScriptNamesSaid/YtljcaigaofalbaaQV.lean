/- Decode of what may not be: an error. No condition. | bytes.Equal, sameHappening, EqualFunc and Same, by contracts. No condition. | Same of two scripts, by a contract. No condition. -/
import Derived.Test.YtljcaigaofalbaaQU
import Derived.Test.YtljcaigaofalbaaQK
namespace Go.Proofs.Ytljcaigaofalbaa
open Go.RowKit Go.Shelf

theorem chk_no {x : Pl} (hf : ¬ failsL x 11 = 0) (W : World) : Calls Try.prog 44 #[.agg x.cells] W fun e w' => e = .returned (.int .i64 70) ∧ Below W.heap.size W w' := by
  have := Check_any x W
  unfold chkL at this
  rwa [if_neg hf] at this
set_option maxRecDepth 100000 in
set_option maxHeartbeats 4000000 in
theorem decode_plan (x : Pl) (hf : ¬ failsL x 11 = 0) (A : Option Addr) (n c : Nat) (w : World) :
    Calls Try.prog 15 #[.agg x.cells, .slice A n c] w fun e w' => e = .returned (.tuple #[.agg ScV.zero.cells, .int .i64 110]) ∧ Below w.heap.size w w' := by
  obtain ⟨w0, hw0⟩ : ∃ w0, w0 = (w.alloc (.cells x.cells 23)).alloc (.cells ScV.zero.cells 29) := ⟨_, rfl⟩
  have hb0 : Below w.heap.size w w0 := by rw [hw0]; exact ((Below.refl _ _).alloc (Nat.le_refl _) _).alloc (by simp) _
  have hP0 : Whole w0 w.heap.size 23 x.cells := by rw [hw0]; exact (Whole.new w _ _).alloc _
  have hR0 : Whole w0 (w.heap.size + 1) 29 ScV.zero.cells := by
    rw [hw0]
    have := Whole.new (w.alloc (.cells x.cells 23)) 29 ScV.zero.cells
    simpa using this
  have HS := Lib.hid x.cellsL
  have HC := Lib.hid (chk_no hf)
  have H0 := Lib.hid (And.intro hb0 (And.intro hP0 hR0))
  have HW0 := Lib.hid hw0
  clear hw0 hb0 hP0 hR0
  go_enter Try.func15, Try.ntmps15
  go_wp2
  refine wp_scope_straight ?_
  have e0 : (w.alloc (.cells x.cells 23)).alloc (.cells #[.slice none 0 0, .slice none 0 0, .slice none 0 0, .slice none 0 0, .slice none 0 0] 29) = w0 := HW0.out.symm
  rw [e0]
  clear e0
  go_wp2_with (first
    | (refine wpList_load_row rfl 23 _ rfl w.heap.size rfl 23 x.cells (0, 0) _ H0.out.2.1 Try.underlying23 rfl HS.out.plan ?_)
    | (go_at_call 44; refine (HC.out _).mono ?_; rintro e w1 ⟨rfl, hb1⟩; have hR1 := k_later hb1 H0.out.2.2; have y0 := hR1.cell 0; have y1 := hR1.cell 1; have y2 := hR1.cell 2; have y3 := hR1.cell 3; have y4 := hR1.cell 4; have z0 := hR1.frozen 0; have z1 := hR1.frozen 1; have z2 := hR1.frozen 2; have z3 := hR1.frozen 3; have z4 := hR1.frozen 4; simp [ScV.cells, ScV.zero] at y0 y1 y2 y3 y4; have hlt1 := hR1.lt; have HB1 := Lib.hid (And.intro hb1 hR1); clear hb1 hR1))
  have hw : Whole (((((w1.setCell ⟨w.heap.size + 1, 0, none⟩ (.slice none 0 0)).setCell ⟨w.heap.size + 1, 1, none⟩ (.slice none 0 0)).setCell ⟨w.heap.size + 1, 2, none⟩ (.slice none 0 0)).setCell ⟨w.heap.size + 1, 3, none⟩ (.slice none 0 0)).setCell ⟨w.heap.size + 1, 4, none⟩ (.slice none 0 0)) (w.heap.size + 1) 29 ScV.zero.cells := ((((HB1.out.2.set 0 _).set 1 _).set 2 _).set 3 _).set 4 _
  have hk : Kept (fun i => i = w.heap.size + 1) w1 (((((w1.setCell ⟨w.heap.size + 1, 0, none⟩ (.slice none 0 0)).setCell ⟨w.heap.size + 1, 1, none⟩ (.slice none 0 0)).setCell ⟨w.heap.size + 1, 2, none⟩ (.slice none 0 0)).setCell ⟨w.heap.size + 1, 3, none⟩ (.slice none 0 0)).setCell ⟨w.heap.size + 1, 4, none⟩ (.slice none 0 0)) :=
    ((((Kept.setCell (S := fun i => i = w.heap.size + 1) (Kept.refl _ w1) (p := ⟨w.heap.size + 1, 0, none⟩) (.inl rfl) _).setCell (p := ⟨w.heap.size + 1, 1, none⟩) (.inl rfl) _).setCell (p := ⟨w.heap.size + 1, 2, none⟩) (.inl rfl) _).setCell (p := ⟨w.heap.size + 1, 3, none⟩) (.inl rfl) _).setCell (p := ⟨w.heap.size + 1, 4, none⟩) (.inl rfl) _
  dsimp only [Exit.noGoto]
  have hbb := k_then HB1.out.1 H0.out.1
  refine bodyPost_ret (v := .tuple #[.agg ScV.zero.cells, .int .i64 110]) (results_cell_tmp rfl _ _ (w.heap.size + 1) 29 ScV.zero.cells (0, 0) _ rfl rfl hw Try.underlying29 rfl (by kernel_rfl)) rfl ⟨rfl, ?_⟩
  have hz := hbb.size
  exact ((Kept.of_below hbb Empty).trans (hk.mono (T := fun i => w.heap.size ≤ i) fun i e => by have e : i = w.heap.size + 1 := e; omega) (T := fun i => w.heap.size ≤ i) (fun i hi hn => by have hn : w.heap.size ≤ i := hn; omega)).below (fun _ _ h => h)
set_option maxRecDepth 100000 in
set_option maxHeartbeats 4000000 in
theorem decode_long (x : Pl) (hf : failsL x 11 = 0) (A : Option Addr) (n c : Nat) (hn : 65536 < n) (w : World) :
    Calls Try.prog 15 #[.agg x.cells, .slice A n c] w fun e w' => e = .returned (.tuple #[.agg ScV.zero.cells, .int .i64 110]) ∧ Below w.heap.size w w' := by
  obtain ⟨w0, hw0⟩ : ∃ w0, w0 = (w.alloc (.cells x.cells 23)).alloc (.cells ScV.zero.cells 29) := ⟨_, rfl⟩
  have hb0 : Below w.heap.size w w0 := by rw [hw0]; exact ((Below.refl _ _).alloc (Nat.le_refl _) _).alloc (by simp) _
  have hP0 : Whole w0 w.heap.size 23 x.cells := by rw [hw0]; exact (Whole.new w _ _).alloc _
  have hR0 : Whole w0 (w.heap.size + 1) 29 ScV.zero.cells := by
    rw [hw0]
    have := Whole.new (w.alloc (.cells x.cells 23)) 29 ScV.zero.cells
    simpa using this
  have HS := Lib.hid x.cellsL
  have HC := Lib.hid (chk_yes hf)
  have H0 := Lib.hid (And.intro hb0 (And.intro hP0 hR0))
  have HW0 := Lib.hid hw0
  clear hw0 hb0 hP0 hR0
  have hni : (65536 : Int) < (n : Int) := by omega
  go_enter Try.func15, Try.ntmps15
  go_wp2
  refine wp_scope_straight ?_
  have e0 : (w.alloc (.cells x.cells 23)).alloc (.cells #[.slice none 0 0, .slice none 0 0, .slice none 0 0, .slice none 0 0, .slice none 0 0] 29) = w0 := HW0.out.symm
  rw [e0]
  clear e0
  go_wp2_with (first
    | (refine wpList_load_row rfl 23 _ rfl w.heap.size rfl 23 x.cells (0, 0) _ H0.out.2.1 Try.underlying23 rfl HS.out.plan ?_)
    | (go_at_call 44; refine (HC.out _).mono ?_; rintro e w1 ⟨rfl, hb1⟩; have hR1 := k_later hb1 H0.out.2.2; have y0 := hR1.cell 0; have y1 := hR1.cell 1; have y2 := hR1.cell 2; have y3 := hR1.cell 3; have y4 := hR1.cell 4; have z0 := hR1.frozen 0; have z1 := hR1.frozen 1; have z2 := hR1.frozen 2; have z3 := hR1.frozen 3; have z4 := hR1.frozen 4; simp [ScV.cells, ScV.zero] at y0 y1 y2 y3 y4; have hlt1 := hR1.lt; have HB1 := Lib.hid (And.intro hb1 hR1); clear hb1 hR1))
  have hw : Whole (((((w1.setCell ⟨w.heap.size + 1, 0, none⟩ (.slice none 0 0)).setCell ⟨w.heap.size + 1, 1, none⟩ (.slice none 0 0)).setCell ⟨w.heap.size + 1, 2, none⟩ (.slice none 0 0)).setCell ⟨w.heap.size + 1, 3, none⟩ (.slice none 0 0)).setCell ⟨w.heap.size + 1, 4, none⟩ (.slice none 0 0)) (w.heap.size + 1) 29 ScV.zero.cells := ((((HB1.out.2.set 0 _).set 1 _).set 2 _).set 3 _).set 4 _
  have hk : Kept (fun i => i = w.heap.size + 1) w1 (((((w1.setCell ⟨w.heap.size + 1, 0, none⟩ (.slice none 0 0)).setCell ⟨w.heap.size + 1, 1, none⟩ (.slice none 0 0)).setCell ⟨w.heap.size + 1, 2, none⟩ (.slice none 0 0)).setCell ⟨w.heap.size + 1, 3, none⟩ (.slice none 0 0)).setCell ⟨w.heap.size + 1, 4, none⟩ (.slice none 0 0)) :=
    ((((Kept.setCell (S := fun i => i = w.heap.size + 1) (Kept.refl _ w1) (p := ⟨w.heap.size + 1, 0, none⟩) (.inl rfl) _).setCell (p := ⟨w.heap.size + 1, 1, none⟩) (.inl rfl) _).setCell (p := ⟨w.heap.size + 1, 2, none⟩) (.inl rfl) _).setCell (p := ⟨w.heap.size + 1, 3, none⟩) (.inl rfl) _).setCell (p := ⟨w.heap.size + 1, 4, none⟩) (.inl rfl) _
  dsimp only [Exit.noGoto]
  have hbb := k_then HB1.out.1 H0.out.1
  refine bodyPost_ret (v := .tuple #[.agg ScV.zero.cells, .int .i64 110]) (results_cell_tmp rfl _ _ (w.heap.size + 1) 29 ScV.zero.cells (0, 0) _ rfl rfl hw Try.underlying29 rfl (by kernel_rfl)) rfl ⟨rfl, ?_⟩
  have hz := hbb.size
  exact ((Kept.of_below hbb Empty).trans (hk.mono (T := fun i => w.heap.size ≤ i) fun i e => by have e : i = w.heap.size + 1 := e; omega) (T := fun i => w.heap.size ≤ i) (fun i hi hn => by have hn : w.heap.size ≤ i := hn; omega)).below (fun _ _ h => h)

/-- Decode's answer. -/
theorem Decode_any (x : Pl) (A : Option Addr) (n c : Nat) (b : List UInt8) (w : World) (hs : Src w A n b) (hz : A = none → c = 0) :
    Calls Try.prog 15 #[.agg x.cells, .slice A n c] w fun e w' => if failsL x 11 = 0 ∧ n ≤ 65536 then DecD x b w e w' else e = .returned (.tuple #[.agg ScV.zero.cells, .int .i64 110]) ∧ Below w.heap.size w w' := by
  by_cases hf : failsL x 11 = 0
  · by_cases hn : n ≤ 65536
    · rw [show (fun (e : Ending) (w' : World) => if failsL x 11 = 0 ∧ n ≤ 65536 then DecD x b w e w' else e = .returned (.tuple #[.agg ScV.zero.cells, .int .i64 110]) ∧ Below w.heap.size w w') = DecD x b w from by funext e w'; rw [if_pos ⟨hf, hn⟩]]
      exact decode_walk x hf A n c b w hs hz hn
    · refine (decode_long x hf A n c (by omega) w).mono fun e w' h => ?_
      rw [if_neg (fun h => hn h.2)]
      exact h
  · refine (decode_plan x hf A n c w).mono fun e w' h => ?_
    rw [if_neg (fun h => hf h.1)]
    exact h
end Go.Proofs.Ytljcaigaofalbaa

namespace Go.Proofs.Ytljcaigaofalbaa
open Go.RowKit Go.Shelf

theorem str_beq (l m : List UInt8) : ((⟨l.toArray⟩ : ByteArray).toList == (⟨m.toArray⟩ : ByteArray).toList) = decide (l = m) := by
  rw [ByteArray.toList_eq, ByteArray.toList_eq, Bool.eq_iff_iff, beq_iff_eq, decide_eq_true_eq]

theorem bytesEq_any (A B : Option Addr) (n m c d : Nat) (l k : List UInt8) (w : World) (h1 : Src w A n l) (h2 : Src w B m k) :
    Calls Try.prog 102 #[.slice A n c, .slice B m d] w fun e w' => e = .returned (.bool (decide (l = k))) ∧ Below w.heap.size w w' := by
  have c1 := h1.convert (P := Try.prog) c 30 5 9 Try.underlying30 Try.underlying5 Try.underlying9
  have c2 := h2.convert (P := Try.prog) d 30 5 9 Try.underlying30 Try.underlying5 Try.underlying9
  have hb := str_beq l k
  generalize decide (l = k) = z at *
  obtain ⟨x, hx⟩ : ∃ x : ByteArray, x = ⟨l.toArray⟩ := ⟨_, rfl⟩
  obtain ⟨y, hy⟩ : ∃ y : ByteArray, y = ⟨k.toArray⟩ := ⟨_, rfl⟩
  rw [← hx] at c1 hb
  rw [← hy] at c2 hb
  clear hx hy h1 h2
  go_enter Try.func102, Try.ntmps102
  go_wp2
  go_ret
  exact ⟨rfl, Below.refl _ _⟩

theorem hp_same (y z : Hp) : decide (y = z) = (decide (y.k = z.k) && (decide (y.n = z.n) && (decide (y.t = z.t) && decide (y.pl = z.pl)))) := by
  rw [Bool.eq_iff_iff]
  obtain ⟨a, b, c, d⟩ := y
  obtain ⟨a', b', c', d'⟩ := z
  simp
set_option maxHeartbeats 2000000 in
theorem sameHap_any (y z : HpA) (w : World) (h1 : PlAt w y) (h2 : PlAt w z) :
    Calls Try.prog 70 #[.agg #[.int .i64 y.k, .int .i64 y.n, .int .i64 y.t, .slice y.A y.pl.length y.c], .agg #[.int .i64 z.k, .int .i64 z.n, .int .i64 z.t, .slice z.A z.pl.length z.c]] w fun e w' => e = .returned (.bool (decide (y.hp = z.hp))) ∧ Below w.heap.size w w' := by
  rw [hp_same]
  unfold HpA.hp
  dsimp only
  obtain ⟨a, b, c, A, d, l⟩ := y
  obtain ⟨a', b', c', A', d', l'⟩ := z
  dsimp only
  have hb : ∀ cs cs', Below w.heap.size w ((w.alloc (.cells cs 47)).alloc (.cells cs' 47)) := fun cs cs' => ((Below.refl _ _).alloc (Nat.le_refl _) _).alloc (by simp) _
  have H1 := Lib.hid (fun W (hW : Below w.heap.size w W) => bytesEq_any A A' l.length l'.length d d' l l' W (h1.src.below hW) (h2.src.below hW))
  have HB := Lib.hid hb
  clear hb h1 h2
  generalize decide (l = l') = e4 at *
  by_cases e1 : a = a'
  case neg =>
    rw [decide_eq_false e1, Bool.false_and]
    go_enter Try.func70, Try.ntmps70
    go_wp2
    go_ret
    exact ⟨rfl, HB.out _ _⟩
  rw [decide_eq_true e1, Bool.true_and]
  by_cases e2 : b = b'
  case neg =>
    rw [decide_eq_false e2, Bool.false_and]
    go_enter Try.func70, Try.ntmps70
    go_wp2
    go_ret
    exact ⟨rfl, HB.out _ _⟩
  rw [decide_eq_true e2, Bool.true_and]
  by_cases e3 : c = c'
  case neg =>
    rw [decide_eq_false e3, Bool.false_and]
    go_enter Try.func70, Try.ntmps70
    go_wp2
    go_ret
    exact ⟨rfl, HB.out _ _⟩
  rw [decide_eq_true e3, Bool.true_and]
  subst e1 e2 e3
  go_enter Try.func70, Try.ntmps70
  go_wp2_with (go_at_call 102; refine (H1.out _ (HB.out _ _)).mono ?_; rintro e w3 ⟨rfl, hb3⟩)
  go_ret
  exact ⟨by cases e4 <;> rfl, k_then hb3 (HB.out _ _)⟩
theorem k70 : ∀ args W, (callFunc 70 args).run Try.prog W = .ok (.enter 70 args) W := enters_of Try.func70 (by kernel_rfl) rfl

set_option maxRecDepth 100000 in
set_option maxHeartbeats 2000000 in
theorem same_hap (w : World) (s t : Sl) (es fs : List HpA) (h1 : HSrc w s es) (h2 : HSrc w t fs) :
    Calls Try.prog 69 #[s.v, t.v, .func (.func 70) #[] #[]] w fun e w' => e = .returned (.bool (decide (es.map HpA.hp = fs.map HpA.hp))) ∧ Below w.heap.size w w' := by
  have l1 := h1.row.len
  have l2 := h2.row.len
  have m1 := Nat.le_trans h1.row.cap h1.row.max
  have m2 := Nat.le_trans h2.row.cap h2.row.max
  obtain ⟨A, n, c⟩ := s
  obtain ⟨B, m, d⟩ := t
  unfold Sl.v
  dsimp only at *
  have E70 := k70
  by_cases hnm : n = m
  · subst hnm
    have hl : es.length = fs.length := l1.trans l2.symm
    have H := Lib.hid (And.intro h1 (And.intro h2 (And.intro hl l1)))
    clear h1 h2 hl l1 l2
    go_enter Try.func69, Try.ntmps69
    go_wp2
    go_loopw [17] (fun iv wr => ∃ (k : Nat), k ≤ n ∧ iv = .int .i64 (k : Int) ∧ Below w.heap.size w wr ∧ ∀ j, j < k → (es.getD j default).hp = (fs.getD j default).hp) (fun iv _ => n - (intOf iv).toNat)
    case atStart => exact ⟨0, Nat.zero_le _, rfl, Below.refl _ _, fun j hj => absurd hj (Nat.not_lt_zero _)⟩
    case round =>
      obtain ⟨k, hk, rfl, hwr, hall⟩ := hrel
      by_cases hlt : k < n
      · obtain ⟨g, o, hA0, hA2⟩ := (H.out.1.later hwr).row.get (i := k) hlt
        obtain ⟨g', o', hB0, hB2⟩ := (H.out.2.1.later hwr).row.get (i := k) hlt
        dsimp only at hA0 hB0
        subst hA0 hB0
        have p1 := (H.out.1.later hwr).pl _ (getD_mem (xs := es) (j := k) (by have := H.out.2.2.2; omega))
        have p2 := (H.out.2.1.later hwr).pl _ (getD_mem (xs := fs) (j := k) (by have := H.out.2.2; omega))
        obtain ⟨x, hx⟩ : ∃ x, x = es.getD k default := ⟨_, rfl⟩
        obtain ⟨y, hy⟩ : ∃ y, y = fs.getD k default := ⟨_, rfl⟩
        rw [← hx] at hA2 p1
        rw [← hy] at hB2 p2
        obtain ⟨a0, a1, a2, a3⟩ := hapC_cells hA2
        have hba : Below wr.heap.size wr (wr.alloc (.cells #[.int .i64 x.k, .int .i64 x.n, .int .i64 x.t, .slice x.A x.pl.length x.c] 47)) := (Below.refl _ _).alloc (Nat.le_refl _) _
        obtain ⟨b0', b1', b2', b3'⟩ := hapC_cells hB2
        have b0 := k_cell hba b0'
        have b1 := k_cell hba b1'
        have b2 := k_cell hba b2'
        have b3 := k_cell hba b3'
        clear hba b0' b1' b2' b3'
        have e1 : (0 : Int) ≤ (k : Int) := by omega
        have e2 : (k : Int) < (n : Int) := by omega
        have HW := Lib.hid hwr
        have HX := Lib.hid (And.intro hx (And.intro hy hall))
        have hbb : Below wr.heap.size wr ((wr.alloc (.cells #[.int .i64 x.k, .int .i64 x.n, .int .i64 x.t, .slice x.A x.pl.length x.c] 47)).alloc (.cells #[.int .i64 y.k, .int .i64 y.n, .int .i64 y.t, .slice y.A y.pl.length y.c] 47)) := ((Below.refl _ _).alloc (Nat.le_refl _) _).alloc (by simp) _
        have HBB2 := Lib.hid hbb
        have HC := Lib.hid (fun W (hW : Below wr.heap.size wr W) => sameHap_any x y W (p1.later hW) (p2.later hW))
        clear hA2 hB2 hwr hx hy hall hbb p1 p2
        generalize hb : decide (x.hp = y.hp) = b at *
        have HBB := Lib.hid hb
        clear hb
        cases b
        · have hne : decide (es.map HpA.hp = fs.map HpA.hp) = false := by
            simp only [decide_eq_false_iff_not]
            have hxy : ¬ x.hp = y.hp := by simpa using HBB.out
            rw [HX.out.1, HX.out.2.1] at hxy
            intro e
            have e9 := congrArg (fun l => l[k]?) e
            simp only [List.getElem?_map] at e9
            have k1 : k < es.length := by have := H.out.2.2.2; omega
            have k2 : k < fs.length := by have := H.out.2.2; omega
            rw [List.getD_eq_getElem?_getD, List.getD_eq_getElem?_getD] at hxy
            rw [List.getElem?_eq_getElem k1, List.getElem?_eq_getElem k2] at e9 hxy
            exact hxy (by simpa using e9)
          have HNE := Lib.hid hne
          clear hne
          go_wp2_with (refine (HC.out _ HBB2.out).mono ?_; rintro e w5 ⟨rfl, hb5⟩)
          go_ret
          exact ⟨by rw [HNE.out]; rfl, k_then hb5 (k_then HBB2.out HW.out)⟩
        · go_wp2_with (refine (HC.out _ HBB2.out).mono ?_; rintro e w5 ⟨rfl, hb5⟩)
          go_roundw
          case rel =>
            refine ⟨k + 1, by omega, by go_num, k_then hb5 (k_then HBB2.out HW.out), fun j hj => ?_⟩
            rcases Nat.lt_or_ge j k with h | h
            · exact HX.out.2.2 j h
            · obtain rfl : j = k := by omega
              rw [← HX.out.1, ← HX.out.2.1]
              simpa using HBB.out
          case measure => simp [intOf]; omega
      · have he : decide (es.map HpA.hp = fs.map HpA.hp) = true := by
          simp only [decide_eq_true_eq]
          apply List.ext_getElem (by rw [List.length_map, List.length_map]; exact H.out.2.2.1)
          intro j h1 h2
          have k1 : j < es.length := by simpa using h1
          have k2 : j < fs.length := by simpa using h2
          have := hall j (by have := H.out.2.2.2; omega)
          rw [List.getD_eq_getElem?_getD, List.getD_eq_getElem?_getD, List.getElem?_eq_getElem k1, List.getElem?_eq_getElem k2] at this
          simpa using this
        have HE := Lib.hid he
        have HW := Lib.hid hwr
        clear he hall hwr
        go_wp2
        go_ret
        exact ⟨by rw [HE.out]; rfl, HW.out⟩
  · have hne : decide (es.map HpA.hp = fs.map HpA.hp) = false := by
      simp only [decide_eq_false_iff_not]
      intro e
      have := congrArg List.length e
      rw [List.length_map, List.length_map, l1, l2] at this
      exact hnm this
    have HNE := Lib.hid hne
    have hnm2 : ((n : Int) == (m : Int)) = false := beq_eq_false_iff_ne.2 (by omega)
    have hnm3 : ((n : Int) != (m : Int)) = true := by simp [bne, hnm2]
    clear h1 h2 l1 l2 hne
    go_enter Try.func69, Try.ntmps69
    go_wp2
    go_ret
    exact ⟨by rw [HNE.out]; rfl, Below.refl _ _⟩
end Go.Proofs.Ytljcaigaofalbaa

namespace Go.Proofs.Ytljcaigaofalbaa
open Go.RowKit Go.Shelf

theorem held_below {w0 W : World} {l : List (Nat × TypeId × Array Value)} (h : Held w0 l W) : Below w0.heap.size w0 W := h.1
theorem sc_same (s t : Sc) : decide (s = t) = (decide (s.rates = t.rates) && (decide (s.on = t.on) && (decide (s.delays = t.delays) && (decide (s.haps = t.haps) && decide (s.faults = t.faults))))) := by
  rw [Bool.eq_iff_iff]
  obtain ⟨a, b, c, d, e⟩ := s
  obtain ⟨a', b', c', d', e'⟩ := t
  simp

set_option maxRecDepth 100000 in
set_option maxHeartbeats 4000000 in
theorem Same_any (V U : ScV) (s t : ScA) (w : World) (h1 : ScAt w V s) (h2 : ScAt w U t) :
    Calls Try.prog 24 #[.agg V.cells, .agg U.cells] w fun e w' => e = .returned (.bool (decide (s.sc = t.sc))) ∧ Below w.heap.size w w' := by
  rw [sc_same]
  have hX := held_new (held_new (held_start w) 29 V.cells) 29 U.cells
  simp only [List.nil_append, List.cons_append, World.size_alloc] at hX
  have HX := Lib.hid hX
  have C0 := Lib.hid (fun W (hW : Below w.heap.size w W) => same_rate W V.r U.r s.rates t.rates (h1.r.later hW) (h2.r.later hW))
  have C1 := Lib.hid (fun W (hW : Below w.heap.size w W) => same_int W V.o U.o s.on t.on (h1.o.later hW) (h2.o.later hW))
  have C2 := Lib.hid (fun W (hW : Below w.heap.size w W) => same_int W V.d U.d s.delays t.delays (h1.d.later hW) (h2.d.later hW))
  have C3 := Lib.hid (fun W (hW : Below w.heap.size w W) => same_hap W V.h U.h s.haps t.haps (h1.h.later hW) (h2.h.later hW))
  have C4 := Lib.hid (fun W (hW : Below w.heap.size w W) => same_ft W V.f U.f s.faults t.faults (h1.f.later hW) (h2.f.later hW))
  unfold ScA.sc
  dsimp only
  generalize decide (s.rates = t.rates) = z0 at *
  generalize decide (s.on = t.on) = z1 at *
  generalize decide (s.delays = t.delays) = z2 at *
  generalize decide (s.haps.map HpA.hp = t.haps.map HpA.hp) = z3 at *
  generalize decide (s.faults = t.faults) = z4 at *
  obtain ⟨a0, a1, a2, a3, a4⟩ := sc_cells (held1 hX)
  obtain ⟨b0, b1, b2, b3, b4⟩ := sc_cells (held2 hX)
  obtain ⟨⟨A0, q0, c0⟩, ⟨A1, q1, c1⟩, ⟨A2, q2, c2⟩, ⟨A3, q3, c3⟩, ⟨A4, q4, c4⟩⟩ := V
  obtain ⟨⟨B0, p0, d0⟩, ⟨B1, p1, d1⟩, ⟨B2, p2, d2⟩, ⟨B3, p3, d3⟩, ⟨B4, p4, d4⟩⟩ := U
  unfold ScV.cells Sl.v at *
  dsimp only at *
  clear h1 h2 hX
  cases z0
  case false =>
    simp only [Bool.false_and]
    go_enter Try.func24, Try.ntmps24
    go_wp2_with (first
      | (go_at_call 67; with_reducible refine (C0.out _ (held_below HX.out)).mono ?_; rintro e w1 ⟨rfl, hb⟩; clear C0 a0 a1 a2 a3 a4 b0 b1 b2 b3 b4; have HXs := HX; clear HX; have hX := held_later hb HXs.out; have HX := Lib.hid hX; clear HXs hb; obtain ⟨a0, a1, a2, a3, a4⟩ := sc_cells (V := ⟨⟨A0, q0, c0⟩, ⟨A1, q1, c1⟩, ⟨A2, q2, c2⟩, ⟨A3, q3, c3⟩, ⟨A4, q4, c4⟩⟩) (held1 hX); obtain ⟨b0, b1, b2, b3, b4⟩ := sc_cells (V := ⟨⟨B0, p0, d0⟩, ⟨B1, p1, d1⟩, ⟨B2, p2, d2⟩, ⟨B3, p3, d3⟩, ⟨B4, p4, d4⟩⟩) (held2 hX); unfold Sl.v at a0 a1 a2 a3 a4 b0 b1 b2 b3 b4; dsimp only at a0 a1 a2 a3 a4 b0 b1 b2 b3 b4; clear hX))
    go_ret
    exact ⟨rfl, HX.out.1⟩
  cases z1
  case false =>
    simp only [Bool.false_and, Bool.true_and]
    go_enter Try.func24, Try.ntmps24
    go_wp2_with (first
      | (go_at_call 67; with_reducible refine (C0.out _ (held_below HX.out)).mono ?_; rintro e w1 ⟨rfl, hb⟩; clear C0 a0 a1 a2 a3 a4 b0 b1 b2 b3 b4; have HXs := HX; clear HX; have hX := held_later hb HXs.out; have HX := Lib.hid hX; clear HXs hb; obtain ⟨a0, a1, a2, a3, a4⟩ := sc_cells (V := ⟨⟨A0, q0, c0⟩, ⟨A1, q1, c1⟩, ⟨A2, q2, c2⟩, ⟨A3, q3, c3⟩, ⟨A4, q4, c4⟩⟩) (held1 hX); obtain ⟨b0, b1, b2, b3, b4⟩ := sc_cells (V := ⟨⟨B0, p0, d0⟩, ⟨B1, p1, d1⟩, ⟨B2, p2, d2⟩, ⟨B3, p3, d3⟩, ⟨B4, p4, d4⟩⟩) (held2 hX); unfold Sl.v at a0 a1 a2 a3 a4 b0 b1 b2 b3 b4; dsimp only at a0 a1 a2 a3 a4 b0 b1 b2 b3 b4; clear hX)
      | (go_at_call 68; with_reducible refine (C1.out _ (held_below HX.out)).mono ?_; rintro e w2 ⟨rfl, hb⟩; clear C1 a0 a1 a2 a3 a4 b0 b1 b2 b3 b4; have HXs := HX; clear HX; have hX := held_later hb HXs.out; have HX := Lib.hid hX; clear HXs hb; obtain ⟨a0, a1, a2, a3, a4⟩ := sc_cells (V := ⟨⟨A0, q0, c0⟩, ⟨A1, q1, c1⟩, ⟨A2, q2, c2⟩, ⟨A3, q3, c3⟩, ⟨A4, q4, c4⟩⟩) (held1 hX); obtain ⟨b0, b1, b2, b3, b4⟩ := sc_cells (V := ⟨⟨B0, p0, d0⟩, ⟨B1, p1, d1⟩, ⟨B2, p2, d2⟩, ⟨B3, p3, d3⟩, ⟨B4, p4, d4⟩⟩) (held2 hX); unfold Sl.v at a0 a1 a2 a3 a4 b0 b1 b2 b3 b4; dsimp only at a0 a1 a2 a3 a4 b0 b1 b2 b3 b4; clear hX))
    go_ret
    exact ⟨rfl, HX.out.1⟩
  cases z2
  case false =>
    simp only [Bool.false_and, Bool.true_and]
    go_enter Try.func24, Try.ntmps24
    go_wp2_with (first
      | (go_at_call 67; with_reducible refine (C0.out _ (held_below HX.out)).mono ?_; rintro e w1 ⟨rfl, hb⟩; clear C0 a0 a1 a2 a3 a4 b0 b1 b2 b3 b4; have HXs := HX; clear HX; have hX := held_later hb HXs.out; have HX := Lib.hid hX; clear HXs hb; obtain ⟨a0, a1, a2, a3, a4⟩ := sc_cells (V := ⟨⟨A0, q0, c0⟩, ⟨A1, q1, c1⟩, ⟨A2, q2, c2⟩, ⟨A3, q3, c3⟩, ⟨A4, q4, c4⟩⟩) (held1 hX); obtain ⟨b0, b1, b2, b3, b4⟩ := sc_cells (V := ⟨⟨B0, p0, d0⟩, ⟨B1, p1, d1⟩, ⟨B2, p2, d2⟩, ⟨B3, p3, d3⟩, ⟨B4, p4, d4⟩⟩) (held2 hX); unfold Sl.v at a0 a1 a2 a3 a4 b0 b1 b2 b3 b4; dsimp only at a0 a1 a2 a3 a4 b0 b1 b2 b3 b4; clear hX)
      | (go_at_call 68; with_reducible refine (C1.out _ (held_below HX.out)).mono ?_; rintro e w2 ⟨rfl, hb⟩; clear C1 a0 a1 a2 a3 a4 b0 b1 b2 b3 b4; have HXs := HX; clear HX; have hX := held_later hb HXs.out; have HX := Lib.hid hX; clear HXs hb; obtain ⟨a0, a1, a2, a3, a4⟩ := sc_cells (V := ⟨⟨A0, q0, c0⟩, ⟨A1, q1, c1⟩, ⟨A2, q2, c2⟩, ⟨A3, q3, c3⟩, ⟨A4, q4, c4⟩⟩) (held1 hX); obtain ⟨b0, b1, b2, b3, b4⟩ := sc_cells (V := ⟨⟨B0, p0, d0⟩, ⟨B1, p1, d1⟩, ⟨B2, p2, d2⟩, ⟨B3, p3, d3⟩, ⟨B4, p4, d4⟩⟩) (held2 hX); unfold Sl.v at a0 a1 a2 a3 a4 b0 b1 b2 b3 b4; dsimp only at a0 a1 a2 a3 a4 b0 b1 b2 b3 b4; clear hX)
      | (go_at_call 68; with_reducible refine (C2.out _ (held_below HX.out)).mono ?_; rintro e w3 ⟨rfl, hb⟩; clear C2 a0 a1 a2 a3 a4 b0 b1 b2 b3 b4; have HXs := HX; clear HX; have hX := held_later hb HXs.out; have HX := Lib.hid hX; clear HXs hb; obtain ⟨a0, a1, a2, a3, a4⟩ := sc_cells (V := ⟨⟨A0, q0, c0⟩, ⟨A1, q1, c1⟩, ⟨A2, q2, c2⟩, ⟨A3, q3, c3⟩, ⟨A4, q4, c4⟩⟩) (held1 hX); obtain ⟨b0, b1, b2, b3, b4⟩ := sc_cells (V := ⟨⟨B0, p0, d0⟩, ⟨B1, p1, d1⟩, ⟨B2, p2, d2⟩, ⟨B3, p3, d3⟩, ⟨B4, p4, d4⟩⟩) (held2 hX); unfold Sl.v at a0 a1 a2 a3 a4 b0 b1 b2 b3 b4; dsimp only at a0 a1 a2 a3 a4 b0 b1 b2 b3 b4; clear hX))
    go_ret
    exact ⟨rfl, HX.out.1⟩
  cases z3
  case false =>
    simp only [Bool.false_and, Bool.true_and]
    go_enter Try.func24, Try.ntmps24
    go_wp2_with (first
      | (go_at_call 67; with_reducible refine (C0.out _ (held_below HX.out)).mono ?_; rintro e w1 ⟨rfl, hb⟩; clear C0 a0 a1 a2 a3 a4 b0 b1 b2 b3 b4; have HXs := HX; clear HX; have hX := held_later hb HXs.out; have HX := Lib.hid hX; clear HXs hb; obtain ⟨a0, a1, a2, a3, a4⟩ := sc_cells (V := ⟨⟨A0, q0, c0⟩, ⟨A1, q1, c1⟩, ⟨A2, q2, c2⟩, ⟨A3, q3, c3⟩, ⟨A4, q4, c4⟩⟩) (held1 hX); obtain ⟨b0, b1, b2, b3, b4⟩ := sc_cells (V := ⟨⟨B0, p0, d0⟩, ⟨B1, p1, d1⟩, ⟨B2, p2, d2⟩, ⟨B3, p3, d3⟩, ⟨B4, p4, d4⟩⟩) (held2 hX); unfold Sl.v at a0 a1 a2 a3 a4 b0 b1 b2 b3 b4; dsimp only at a0 a1 a2 a3 a4 b0 b1 b2 b3 b4; clear hX)
      | (go_at_call 68; with_reducible refine (C1.out _ (held_below HX.out)).mono ?_; rintro e w2 ⟨rfl, hb⟩; clear C1 a0 a1 a2 a3 a4 b0 b1 b2 b3 b4; have HXs := HX; clear HX; have hX := held_later hb HXs.out; have HX := Lib.hid hX; clear HXs hb; obtain ⟨a0, a1, a2, a3, a4⟩ := sc_cells (V := ⟨⟨A0, q0, c0⟩, ⟨A1, q1, c1⟩, ⟨A2, q2, c2⟩, ⟨A3, q3, c3⟩, ⟨A4, q4, c4⟩⟩) (held1 hX); obtain ⟨b0, b1, b2, b3, b4⟩ := sc_cells (V := ⟨⟨B0, p0, d0⟩, ⟨B1, p1, d1⟩, ⟨B2, p2, d2⟩, ⟨B3, p3, d3⟩, ⟨B4, p4, d4⟩⟩) (held2 hX); unfold Sl.v at a0 a1 a2 a3 a4 b0 b1 b2 b3 b4; dsimp only at a0 a1 a2 a3 a4 b0 b1 b2 b3 b4; clear hX)
      | (go_at_call 68; with_reducible refine (C2.out _ (held_below HX.out)).mono ?_; rintro e w3 ⟨rfl, hb⟩; clear C2 a0 a1 a2 a3 a4 b0 b1 b2 b3 b4; have HXs := HX; clear HX; have hX := held_later hb HXs.out; have HX := Lib.hid hX; clear HXs hb; obtain ⟨a0, a1, a2, a3, a4⟩ := sc_cells (V := ⟨⟨A0, q0, c0⟩, ⟨A1, q1, c1⟩, ⟨A2, q2, c2⟩, ⟨A3, q3, c3⟩, ⟨A4, q4, c4⟩⟩) (held1 hX); obtain ⟨b0, b1, b2, b3, b4⟩ := sc_cells (V := ⟨⟨B0, p0, d0⟩, ⟨B1, p1, d1⟩, ⟨B2, p2, d2⟩, ⟨B3, p3, d3⟩, ⟨B4, p4, d4⟩⟩) (held2 hX); unfold Sl.v at a0 a1 a2 a3 a4 b0 b1 b2 b3 b4; dsimp only at a0 a1 a2 a3 a4 b0 b1 b2 b3 b4; clear hX)
      | (go_at_call 69; with_reducible refine (C3.out _ (held_below HX.out)).mono ?_; rintro e w4 ⟨rfl, hb⟩; clear C3 a0 a1 a2 a3 a4 b0 b1 b2 b3 b4; have HXs := HX; clear HX; have hX := held_later hb HXs.out; have HX := Lib.hid hX; clear HXs hb; obtain ⟨a0, a1, a2, a3, a4⟩ := sc_cells (V := ⟨⟨A0, q0, c0⟩, ⟨A1, q1, c1⟩, ⟨A2, q2, c2⟩, ⟨A3, q3, c3⟩, ⟨A4, q4, c4⟩⟩) (held1 hX); obtain ⟨b0, b1, b2, b3, b4⟩ := sc_cells (V := ⟨⟨B0, p0, d0⟩, ⟨B1, p1, d1⟩, ⟨B2, p2, d2⟩, ⟨B3, p3, d3⟩, ⟨B4, p4, d4⟩⟩) (held2 hX); unfold Sl.v at a0 a1 a2 a3 a4 b0 b1 b2 b3 b4; dsimp only at a0 a1 a2 a3 a4 b0 b1 b2 b3 b4; clear hX))
    go_ret
    exact ⟨rfl, HX.out.1⟩
  cases z4
  case false =>
    simp only [Bool.true_and]
    go_enter Try.func24, Try.ntmps24
    go_wp2_with (first
      | (go_at_call 67; with_reducible refine (C0.out _ (held_below HX.out)).mono ?_; rintro e w1 ⟨rfl, hb⟩; clear C0 a0 a1 a2 a3 a4 b0 b1 b2 b3 b4; have HXs := HX; clear HX; have hX := held_later hb HXs.out; have HX := Lib.hid hX; clear HXs hb; obtain ⟨a0, a1, a2, a3, a4⟩ := sc_cells (V := ⟨⟨A0, q0, c0⟩, ⟨A1, q1, c1⟩, ⟨A2, q2, c2⟩, ⟨A3, q3, c3⟩, ⟨A4, q4, c4⟩⟩) (held1 hX); obtain ⟨b0, b1, b2, b3, b4⟩ := sc_cells (V := ⟨⟨B0, p0, d0⟩, ⟨B1, p1, d1⟩, ⟨B2, p2, d2⟩, ⟨B3, p3, d3⟩, ⟨B4, p4, d4⟩⟩) (held2 hX); unfold Sl.v at a0 a1 a2 a3 a4 b0 b1 b2 b3 b4; dsimp only at a0 a1 a2 a3 a4 b0 b1 b2 b3 b4; clear hX)
      | (go_at_call 68; with_reducible refine (C1.out _ (held_below HX.out)).mono ?_; rintro e w2 ⟨rfl, hb⟩; clear C1 a0 a1 a2 a3 a4 b0 b1 b2 b3 b4; have HXs := HX; clear HX; have hX := held_later hb HXs.out; have HX := Lib.hid hX; clear HXs hb; obtain ⟨a0, a1, a2, a3, a4⟩ := sc_cells (V := ⟨⟨A0, q0, c0⟩, ⟨A1, q1, c1⟩, ⟨A2, q2, c2⟩, ⟨A3, q3, c3⟩, ⟨A4, q4, c4⟩⟩) (held1 hX); obtain ⟨b0, b1, b2, b3, b4⟩ := sc_cells (V := ⟨⟨B0, p0, d0⟩, ⟨B1, p1, d1⟩, ⟨B2, p2, d2⟩, ⟨B3, p3, d3⟩, ⟨B4, p4, d4⟩⟩) (held2 hX); unfold Sl.v at a0 a1 a2 a3 a4 b0 b1 b2 b3 b4; dsimp only at a0 a1 a2 a3 a4 b0 b1 b2 b3 b4; clear hX)
      | (go_at_call 68; with_reducible refine (C2.out _ (held_below HX.out)).mono ?_; rintro e w3 ⟨rfl, hb⟩; clear C2 a0 a1 a2 a3 a4 b0 b1 b2 b3 b4; have HXs := HX; clear HX; have hX := held_later hb HXs.out; have HX := Lib.hid hX; clear HXs hb; obtain ⟨a0, a1, a2, a3, a4⟩ := sc_cells (V := ⟨⟨A0, q0, c0⟩, ⟨A1, q1, c1⟩, ⟨A2, q2, c2⟩, ⟨A3, q3, c3⟩, ⟨A4, q4, c4⟩⟩) (held1 hX); obtain ⟨b0, b1, b2, b3, b4⟩ := sc_cells (V := ⟨⟨B0, p0, d0⟩, ⟨B1, p1, d1⟩, ⟨B2, p2, d2⟩, ⟨B3, p3, d3⟩, ⟨B4, p4, d4⟩⟩) (held2 hX); unfold Sl.v at a0 a1 a2 a3 a4 b0 b1 b2 b3 b4; dsimp only at a0 a1 a2 a3 a4 b0 b1 b2 b3 b4; clear hX)
      | (go_at_call 69; with_reducible refine (C3.out _ (held_below HX.out)).mono ?_; rintro e w4 ⟨rfl, hb⟩; clear C3 a0 a1 a2 a3 a4 b0 b1 b2 b3 b4; have HXs := HX; clear HX; have hX := held_later hb HXs.out; have HX := Lib.hid hX; clear HXs hb; obtain ⟨a0, a1, a2, a3, a4⟩ := sc_cells (V := ⟨⟨A0, q0, c0⟩, ⟨A1, q1, c1⟩, ⟨A2, q2, c2⟩, ⟨A3, q3, c3⟩, ⟨A4, q4, c4⟩⟩) (held1 hX); obtain ⟨b0, b1, b2, b3, b4⟩ := sc_cells (V := ⟨⟨B0, p0, d0⟩, ⟨B1, p1, d1⟩, ⟨B2, p2, d2⟩, ⟨B3, p3, d3⟩, ⟨B4, p4, d4⟩⟩) (held2 hX); unfold Sl.v at a0 a1 a2 a3 a4 b0 b1 b2 b3 b4; dsimp only at a0 a1 a2 a3 a4 b0 b1 b2 b3 b4; clear hX)
      | (go_at_call 71; with_reducible refine (C4.out _ (held_below HX.out)).mono ?_; rintro e w5 ⟨rfl, hb⟩; clear C4 a0 a1 a2 a3 a4 b0 b1 b2 b3 b4; have HXs := HX; clear HX; have hX := held_later hb HXs.out; have HX := Lib.hid hX; clear HXs hb; obtain ⟨a0, a1, a2, a3, a4⟩ := sc_cells (V := ⟨⟨A0, q0, c0⟩, ⟨A1, q1, c1⟩, ⟨A2, q2, c2⟩, ⟨A3, q3, c3⟩, ⟨A4, q4, c4⟩⟩) (held1 hX); obtain ⟨b0, b1, b2, b3, b4⟩ := sc_cells (V := ⟨⟨B0, p0, d0⟩, ⟨B1, p1, d1⟩, ⟨B2, p2, d2⟩, ⟨B3, p3, d3⟩, ⟨B4, p4, d4⟩⟩) (held2 hX); unfold Sl.v at a0 a1 a2 a3 a4 b0 b1 b2 b3 b4; dsimp only at a0 a1 a2 a3 a4 b0 b1 b2 b3 b4; clear hX))
    go_ret
    exact ⟨rfl, HX.out.1⟩
  simp only [Bool.and_true]
  go_enter Try.func24, Try.ntmps24
  go_wp2_with (first
    | (go_at_call 67; with_reducible refine (C0.out _ (held_below HX.out)).mono ?_; rintro e w1 ⟨rfl, hb⟩; clear C0 a0 a1 a2 a3 a4 b0 b1 b2 b3 b4; have HXs := HX; clear HX; have hX := held_later hb HXs.out; have HX := Lib.hid hX; clear HXs hb; obtain ⟨a0, a1, a2, a3, a4⟩ := sc_cells (V := ⟨⟨A0, q0, c0⟩, ⟨A1, q1, c1⟩, ⟨A2, q2, c2⟩, ⟨A3, q3, c3⟩, ⟨A4, q4, c4⟩⟩) (held1 hX); obtain ⟨b0, b1, b2, b3, b4⟩ := sc_cells (V := ⟨⟨B0, p0, d0⟩, ⟨B1, p1, d1⟩, ⟨B2, p2, d2⟩, ⟨B3, p3, d3⟩, ⟨B4, p4, d4⟩⟩) (held2 hX); unfold Sl.v at a0 a1 a2 a3 a4 b0 b1 b2 b3 b4; dsimp only at a0 a1 a2 a3 a4 b0 b1 b2 b3 b4; clear hX)
    | (go_at_call 68; with_reducible refine (C1.out _ (held_below HX.out)).mono ?_; rintro e w2 ⟨rfl, hb⟩; clear C1 a0 a1 a2 a3 a4 b0 b1 b2 b3 b4; have HXs := HX; clear HX; have hX := held_later hb HXs.out; have HX := Lib.hid hX; clear HXs hb; obtain ⟨a0, a1, a2, a3, a4⟩ := sc_cells (V := ⟨⟨A0, q0, c0⟩, ⟨A1, q1, c1⟩, ⟨A2, q2, c2⟩, ⟨A3, q3, c3⟩, ⟨A4, q4, c4⟩⟩) (held1 hX); obtain ⟨b0, b1, b2, b3, b4⟩ := sc_cells (V := ⟨⟨B0, p0, d0⟩, ⟨B1, p1, d1⟩, ⟨B2, p2, d2⟩, ⟨B3, p3, d3⟩, ⟨B4, p4, d4⟩⟩) (held2 hX); unfold Sl.v at a0 a1 a2 a3 a4 b0 b1 b2 b3 b4; dsimp only at a0 a1 a2 a3 a4 b0 b1 b2 b3 b4; clear hX)
    | (go_at_call 68; with_reducible refine (C2.out _ (held_below HX.out)).mono ?_; rintro e w3 ⟨rfl, hb⟩; clear C2 a0 a1 a2 a3 a4 b0 b1 b2 b3 b4; have HXs := HX; clear HX; have hX := held_later hb HXs.out; have HX := Lib.hid hX; clear HXs hb; obtain ⟨a0, a1, a2, a3, a4⟩ := sc_cells (V := ⟨⟨A0, q0, c0⟩, ⟨A1, q1, c1⟩, ⟨A2, q2, c2⟩, ⟨A3, q3, c3⟩, ⟨A4, q4, c4⟩⟩) (held1 hX); obtain ⟨b0, b1, b2, b3, b4⟩ := sc_cells (V := ⟨⟨B0, p0, d0⟩, ⟨B1, p1, d1⟩, ⟨B2, p2, d2⟩, ⟨B3, p3, d3⟩, ⟨B4, p4, d4⟩⟩) (held2 hX); unfold Sl.v at a0 a1 a2 a3 a4 b0 b1 b2 b3 b4; dsimp only at a0 a1 a2 a3 a4 b0 b1 b2 b3 b4; clear hX)
    | (go_at_call 69; with_reducible refine (C3.out _ (held_below HX.out)).mono ?_; rintro e w4 ⟨rfl, hb⟩; clear C3 a0 a1 a2 a3 a4 b0 b1 b2 b3 b4; have HXs := HX; clear HX; have hX := held_later hb HXs.out; have HX := Lib.hid hX; clear HXs hb; obtain ⟨a0, a1, a2, a3, a4⟩ := sc_cells (V := ⟨⟨A0, q0, c0⟩, ⟨A1, q1, c1⟩, ⟨A2, q2, c2⟩, ⟨A3, q3, c3⟩, ⟨A4, q4, c4⟩⟩) (held1 hX); obtain ⟨b0, b1, b2, b3, b4⟩ := sc_cells (V := ⟨⟨B0, p0, d0⟩, ⟨B1, p1, d1⟩, ⟨B2, p2, d2⟩, ⟨B3, p3, d3⟩, ⟨B4, p4, d4⟩⟩) (held2 hX); unfold Sl.v at a0 a1 a2 a3 a4 b0 b1 b2 b3 b4; dsimp only at a0 a1 a2 a3 a4 b0 b1 b2 b3 b4; clear hX)
    | (go_at_call 71; with_reducible refine (C4.out _ (held_below HX.out)).mono ?_; rintro e w5 ⟨rfl, hb⟩; clear C4 a0 a1 a2 a3 a4 b0 b1 b2 b3 b4; have HXs := HX; clear HX; have hX := held_later hb HXs.out; have HX := Lib.hid hX; clear HXs hb; obtain ⟨a0, a1, a2, a3, a4⟩ := sc_cells (V := ⟨⟨A0, q0, c0⟩, ⟨A1, q1, c1⟩, ⟨A2, q2, c2⟩, ⟨A3, q3, c3⟩, ⟨A4, q4, c4⟩⟩) (held1 hX); obtain ⟨b0, b1, b2, b3, b4⟩ := sc_cells (V := ⟨⟨B0, p0, d0⟩, ⟨B1, p1, d1⟩, ⟨B2, p2, d2⟩, ⟨B3, p3, d3⟩, ⟨B4, p4, d4⟩⟩) (held2 hX); unfold Sl.v at a0 a1 a2 a3 a4 b0 b1 b2 b3 b4; dsimp only at a0 a1 a2 a3 a4 b0 b1 b2 b3 b4; clear hX))
  go_ret
  exact ⟨rfl, HX.out.1⟩
end Go.Proofs.Ytljcaigaofalbaa
