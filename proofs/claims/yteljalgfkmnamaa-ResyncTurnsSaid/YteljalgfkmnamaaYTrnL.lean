/- ResyncTurns, its walk. No condition. -/
import Derived.Test.YteljalgfkmnamaaYRefF
import Derived.Test.YteljalgfkmnamaaYRows
import Derived.Laws.OwnMore
namespace Go.Proofs.Yteljalgfkmnamaa
open Go.RowKit Go.Shelf

/-- What the law keeps: its boxes, and its own copy. -/
structure TB (w w0 : World) (x : Pl) (cs : Array Value) (s' : Sl) (l : List Int) (W : World) : Prop where
  below : Below w0.heap.size w0 W
  plan : Whole W w.heap.size 23 x.cells
  sync : Whole W (w.heap.size + 1) 25 cs
  own : RSrc inC 1 W s' l
theorem TB.later {w w0 W W' : World} {x : Pl} {cs : Array Value} {s' : Sl} {l : List Int} (h : TB w w0 x cs s' l W) (hb : Below W.heap.size W W') : TB w w0 x cs s' l W' :=
  ⟨k_then hb h.below, k_later hb h.plan, k_later hb h.sync, h.own.later hb⟩
theorem TB.alloc {w w0 W : World} {x : Pl} {cs : Array Value} {s' : Sl} {l : List Int} (h : TB w w0 x cs s' l W) (o : Obj) : TB w w0 x cs s' l (W.alloc o) := h.later ((Below.refl _ _).alloc (Nat.le_refl _) o)
theorem enough_is {x : Pl} (h : planB x = true) (many : Int) : enoughB x many = decide (2 * x.kk < many) := by
  unfold enoughB
  rw [h, Bool.true_and, decide_eq_decide]
  omega
theorem enough_no {x : Pl} (h : planB x = false) (many : Int) : enoughB x many = false := by
  unfold enoughB
  rw [h, Bool.false_and]

set_option maxRecDepth 100000 in
set_option maxHeartbeats 8000000 in
theorem resyncTurns_walk (x : Pl) (y : Sy) (s : Sl) (l : List Int) (S : Sl) (ss : List Sl) (L : List (List Int)) (many : Int) (w : World) (h : RSrc inC 1 w s l) (hr : Rws w S ss L) :
    Calls Try.prog 3 #[.agg x.cells, y.v, s.v, S.v, .int .i64 many] w fun e w' => e = .returned (.bool true) ∧ Below w.heap.size w w' := by
  have hl := h.len
  have hmx := Nat.le_trans h.cap h.max
  have hmS := Nat.le_trans hr.src.cap hr.src.max
  obtain ⟨r, t, u, b⟩ := y
  obtain ⟨w0, hw0⟩ : ∃ w0, w0 = (w.alloc (.cells x.cells 23)).alloc (.cells #[.int .i64 r, .int .i64 t, .int .i64 u, .bool b] 25) := ⟨_, rfl⟩
  have hb0 : Below w.heap.size w w0 := by rw [hw0]; exact ((Below.refl _ _).alloc (Nat.le_refl _) _).alloc (by simp) _
  have hP0 : Whole w0 w.heap.size 23 x.cells := by rw [hw0]; exact (Whole.new w _ _).alloc _
  have hY0 : Whole w0 (w.heap.size + 1) 25 #[.int .i64 r, .int .i64 t, .int .i64 u, .bool b] := by
    have h := Whole.new (w.alloc (.cells x.cells 23)) 25 #[.int .i64 r, .int .i64 t, .int .i64 u, .bool b]
    simp only [World.size_alloc] at h
    rw [hw0]; exact h
  have H0 := Lib.hid (And.intro hb0 (And.intro hP0 (And.intro hY0 (And.intro (h.later hb0) (hr.later hb0)))))
  have HW0 := Lib.hid hw0
  have HS := Lib.hid x.cellsL
  have HL := Lib.hid hl
  by_cases hN : s.n ≤ 50
  · by_cases hM : S.n ≤ 20
    · have HFA := Lib.hid (fun W (hb : Below w0.heap.size w0 W) (hsh : Short ss 50) => Fold_any x W S ss L (H0.out.2.2.2.2.later hb) (fun i hi => by have := hsh i hi; omega))
      have HFR := Lib.hid (fun W (hb : Below w0.heap.size w0 W) (hsh : Short ss 50) => refFold_any x W S ss L (H0.out.2.2.2.2.later hb) (fun i hi => by have := hsh i hi; omega))
      have HRC := Lib.hid (fun W (hb : Below w0.heap.size w0 W) => refCorrection_any x W s l (H0.out.2.2.2.1.later hb) (by omega))
      have HRT := Lib.hid (fun W (hb : Below w0.heap.size w0 W) => (show Calls Try.prog 10 #[.agg x.cells, .agg #[.int .i64 r, .int .i64 t, .int .i64 u, .bool b], s.v] W _ from refTurn_any x ⟨r, t, u, b⟩ W s l (H0.out.2.2.2.1.later hb) (by omega)))
      have HC := Lib.hid (fun W s' (hn : s'.n ≤ 50) (hr : RSrc inC 1 W s' l) => Correction_any x W s' l hr (by omega))
      have HT := Lib.hid (fun W s' (hn : s'.n ≤ 50) (hr : RSrc inC 1 W s' l) => (show Calls Try.prog 9 #[.agg x.cells, .agg #[.int .i64 r, .int .i64 t, .int .i64 u, .bool b], s'.v] W _ from Turn_any x ⟨r, t, u, b⟩ W s' l hr (by omega)))
      have HCK := Lib.hid (fun W => refCheck_any x W)
      have HEN := Lib.hid (fun W => Enough_any x many W)
      obtain ⟨⟨⟨r1, t1, u1, b1⟩, by1, e1⟩, hT1⟩ : ∃ N, N = turnL x ⟨r, t, u, b⟩ l := ⟨_, rfl⟩
      obtain ⟨⟨⟨r2, t2, u2, b2⟩, e2⟩, hF2⟩ : ∃ N, N = foldY x L L.length := ⟨_, rfl⟩
      unfold corV at HC HRC
      rw [← hT1] at HT HRT
      rw [← hF2] at HFA HFR
      generalize corB x l = cb at *
      generalize corE x l = ce at *
      unfold Tn.v at HT HRT
      clear hT1 hF2
      obtain ⟨i0, hi, hy0, hy1, hy2⟩ := info_parts i_i64
      obtain ⟨A, n, c⟩ := s
      obtain ⟨B, m, d⟩ := S
      unfold Sl.v Sy.v at *
      dsimp only at *
      clear h hr hl hw0 hb0 hP0 hY0
      go_enter Try.func3, Try.ntmps3
      go_wp2
      rw [← HW0.out]
      go_loopw [39] (fun iv wr => ∃ i : Nat, i ≤ m ∧ iv = .int .i64 (i : Int) ∧ wr = w0 ∧ ∀ j, j < i → (ss.getD j default).n ≤ 50) (fun iv _ => m - (intOf iv).toNat)
      case atStart => exact ⟨0, Nat.zero_le _, rfl, by simp⟩
      case round =>
        obtain ⟨i, hi', rfl, rfl, hsh⟩ := hrel
        by_cases hlt : i < m
        · obtain ⟨g, o, hA0, hA2⟩ := H0.out.2.2.2.2.src.get (i := i) hlt
          dsimp only at hA0
          subst hA0
          have a0 := slC_cells hA2
          rw [Nat.mul_one] at a0
          obtain ⟨⟨B', k, q⟩, hsl⟩ : ∃ sl, sl = ss.getD i default := ⟨_, rfl⟩
          rw [← hsl] at a0
          have e1 : (0 : Int) ≤ (i : Int) := by omega
          have e2 : (i : Int) < (m : Int) := by omega
          have HSL := Lib.hid hsl
          have HSH := Lib.hid hsh
          unfold Sl.v at a0
          dsimp only at a0
          clear hA2 hsl hsh
          by_cases hk : k ≤ 50
          · have e3 : decide ((50 : Int) < (k : Int)) = false := decide_eq_false (by omega)
            have HK := Lib.hid hk
            clear hk
            go_wp2
            go_roundw
            case rel =>
              refine ⟨i + 1, by omega, by go_num, by simp, fun j hj => ?_⟩
              rcases Nat.lt_or_ge j i with hji | hji
              · exact HSH.out j hji
              · obtain rfl : j = i := by omega
                rw [← HSL.out]; exact HK.out
            case measure => simp [intOf]; omega
          · have e3 : decide ((50 : Int) < (k : Int)) = true := decide_eq_true (by omega)
            clear hk
            go_wp2
            go_ret
            exact ⟨rfl, H0.out.1⟩
        · obtain rfl : i = m := by omega
          have hshort : Short ss 50 := fun j hj => hsh j (by have := H0.out.2.2.2.2.src.len; dsimp only at this; omega)
          have HSHO := Lib.hid hshort
          clear hsh hshort
          go_upto_region 10 with (at_builtin; refine wpList_append_ints _ rfl (.tmp 49) (.tmp 50) 26 rfl wr.heap.size 2 i0 u_ints hi hy0 hy1 hy2 _ 0 [] rfl (own_lit0 wr _) ⟨A, n, c⟩ l rfl (H0.out.2.2.2.1.later ((Below.refl _ _).alloc (Nat.le_refl _) _)) (by simp; omega) (by simp) ?_; intro v' w1 h1 h2 _; rw [Nat.zero_add, List.nil_append] at h1; obtain ⟨⟨A1, n1, c1⟩, rfl, hs1, _⟩ := rsrc_of_own (cells := inC) (fun _ => rfl) HL.out.symm h1; have hb1 : Below wr.heap.size wr w1 := ((Below.refl _ wr).alloc (Nat.le_refl _) _).grown h2 (by simp) (fun j hj => by cases hj; exact Nat.le_refl _); have HTB := Lib.hid (TB.mk (x := x) (cs := #[.int .i64 r, .int .i64 t, .int .i64 u, .bool b]) hb1 (k_later hb1 H0.out.2.1) (k_later hb1 H0.out.2.2.1) hs1); obtain rfl : n1 = n := (by have h := hs1.len; have h' := HL.out; dsimp only at h h'; omega); clear h1 h2 hs1 hb1; unfold Sl.v; dsimp only)
          obtain ⟨a0, a1, a2, a3, -⟩ := y_four HTB.out.sync
          go_upto_region 16 with (first
            | (refine wpList_load_row rfl 23 (.tmp 5) rfl w.heap.size rfl 23 x.cells (0, 0) _ HTB.out.plan Try.underlying23 rfl HS.out.plan ?_)
            | (go_at_call 7; refine (HC.out _ ⟨A1, n1, c1⟩ hN HTB.out.own).mono ?_; rintro e w2 ⟨rfl, hb⟩; have HTBo := HTB; clear HTB; have HTB := Lib.hid (HTBo.out.later hb); obtain ⟨a0, a1, a2, a3, -⟩ := y_four HTB.out.sync; clear hb HTBo)
            | (go_at_call 8; refine (HRC.out _ HTB.out.below).mono ?_; rintro e w3 ⟨rfl, hb⟩; have HTBo := HTB; clear HTB; have HTB := Lib.hid (HTBo.out.later hb); obtain ⟨a0, a1, a2, a3, -⟩ := y_four HTB.out.sync; clear hb HTBo)
            | (go_at_call 9; refine (HT.out _ ⟨A1, n1, c1⟩ hN HTB.out.own).mono ?_; rintro e w4 ⟨rfl, hb⟩; have HTBo := HTB; clear HTB; have HTB := Lib.hid ((HTBo.out.later hb).alloc (.cells #[.int .i64 r1, .int .i64 t1, .int .i64 u1, .bool b1] 25)); have HX17 := Lib.hid (Whole.new w4 25 #[.int .i64 r1, .int .i64 t1, .int .i64 u1, .bool b1]); obtain ⟨a0, a1, a2, a3, -⟩ := y_four HTB.out.sync; clear hb HTBo)
            | (go_at_call 10; refine (HRT.out _ HTB.out.below).mono ?_; rintro e w5 ⟨rfl, hb⟩; have HTBo := HTB; clear HTB; have HTB := Lib.hid ((HTBo.out.later hb).alloc (.cells #[.int .i64 r1, .int .i64 t1, .int .i64 u1, .bool b1] 25)); have HX17o := HX17; clear HX17; have HX17 := Lib.hid ((k_later hb HX17o.out).alloc (.cells #[.int .i64 r1, .int .i64 t1, .int .i64 u1, .bool b1] 25)); clear HX17o; have HX20 := Lib.hid (Whole.new w5 25 #[.int .i64 r1, .int .i64 t1, .int .i64 u1, .bool b1]); obtain ⟨a0, a1, a2, a3, -⟩ := y_four HTB.out.sync; clear hb HTBo)
            | (go_at_call 11; refine (HFA.out _ HTB.out.below HSHO.out).mono ?_; rintro e w6 ⟨rfl, hb⟩; have HTBo := HTB; clear HTB; have HTB := Lib.hid ((HTBo.out.later hb).alloc (.cells #[.int .i64 r2, .int .i64 t2, .int .i64 u2, .bool b2] 25)); have HX17o := HX17; clear HX17; have HX17 := Lib.hid ((k_later hb HX17o.out).alloc (.cells #[.int .i64 r2, .int .i64 t2, .int .i64 u2, .bool b2] 25)); clear HX17o; have HX20o := HX20; clear HX20; have HX20 := Lib.hid ((k_later hb HX20o.out).alloc (.cells #[.int .i64 r2, .int .i64 t2, .int .i64 u2, .bool b2] 25)); clear HX20o; have HX23 := Lib.hid (Whole.new w6 25 #[.int .i64 r2, .int .i64 t2, .int .i64 u2, .bool b2]); obtain ⟨a0, a1, a2, a3, -⟩ := y_four HTB.out.sync; clear hb HTBo)
            | (go_at_call 12; refine (HFR.out _ HTB.out.below HSHO.out).mono ?_; rintro e w7 ⟨rfl, hb⟩; have HTBo := HTB; clear HTB; have HTB := Lib.hid ((HTBo.out.later hb).alloc (.cells #[.int .i64 r2, .int .i64 t2, .int .i64 u2, .bool b2] 25)); have HX17o := HX17; clear HX17; have HX17 := Lib.hid ((k_later hb HX17o.out).alloc (.cells #[.int .i64 r2, .int .i64 t2, .int .i64 u2, .bool b2] 25)); clear HX17o; have HX20o := HX20; clear HX20; have HX20 := Lib.hid ((k_later hb HX20o.out).alloc (.cells #[.int .i64 r2, .int .i64 t2, .int .i64 u2, .bool b2] 25)); clear HX20o; have HX23o := HX23; clear HX23; have HX23 := Lib.hid ((k_later hb HX23o.out).alloc (.cells #[.int .i64 r2, .int .i64 t2, .int .i64 u2, .bool b2] 25)); clear HX23o; have HX25 := Lib.hid (Whole.new w7 25 #[.int .i64 r2, .int .i64 t2, .int .i64 u2, .bool b2]); obtain ⟨a0, a1, a2, a3, -⟩ := y_four HTB.out.sync; clear hb HTBo))
          have HLV := Lib.hid (H0.out.2.2.2.1.later HTB.out.below)
          generalize (w7.alloc _ : World) = V at *
          generalize w4.heap.size = g17 at *
          generalize w5.heap.size = g20 at *
          generalize w6.heap.size = g23 at *
          generalize w7.heap.size = g25 at *
          clear a0 a1 a2 a3 HC HRC HT HRT HFA HFR
          go_wp2
          go_loopw [94] (fun iv wv => ∃ j : Nat, j ≤ n1 ∧ iv = .int .i64 (j : Int) ∧ Below V.heap.size V wv) (fun iv _ => n1 - (intOf iv).toNat)
          case atStart => exact ⟨0, Nat.zero_le _, rfl, Below.refl _ _⟩
          case round =>
            obtain ⟨j, hj, rfl, hwv⟩ := hrel
            have HW := Lib.hid (HTB.out.later hwv)
            have HLW := Lib.hid (HLV.out.later hwv)
            have HX := Lib.hid (And.intro (k_later hwv HX17.out) (And.intro (k_later hwv HX20.out) (And.intro (k_later hwv HX23.out) (k_later hwv HX25.out))))
            have HBV := Lib.hid hwv
            by_cases hjn : j < n1
            · obtain ⟨ga, oa, hA0, hA2⟩ := HW.out.own.get (i := j) hjn
              obtain ⟨gb, ob, hB0, hB2⟩ := HLW.out.get (i := j) hjn
              dsimp only at hA0 hB0
              subst hA0 hB0
              obtain ⟨v, hv⟩ : ∃ v, v = l.getD j default := ⟨_, rfl⟩
              rw [← hv] at hA2 hB2
              have a0 := inC_cells hA2
              have b0 := inC_cells hB2
              rw [Nat.mul_one] at a0 b0
              have e1 : (0 : Int) ≤ (j : Int) := by omega
              have e2 : (j : Int) < (n1 : Int) := by omega
              have q2 : (v == v) = true := beq_iff_eq.2 rfl
              have q3 : (v != v) = false := by simp [bne]
              clear hA2 hB2 hv hwv
              go_wp2
              go_quiet (fail)
              go_wp2
              go_roundw
              case rel => exact ⟨j + 1, by omega, by go_num, below_drewN HBV.out _⟩
              case measure => simp [intOf]; omega
            · obtain rfl : j = n1 := by omega
              clear hwv HTB HLV HX17 HX20 HX23 HX25
              cases hpl : planB x
              · have hck := HCK.out
                rw [chk_no hpl] at hck
                have hen := HEN.out
                rw [enough_no hpl] at hen
                have HCK2 := Lib.hid hck
                have HEN2 := Lib.hid hen
                clear hck hen hpl HCK HEN
                go_wp2_with (first
                  | (refine wpList_load_row rfl 23 (.tmp 5) rfl w.heap.size rfl 23 x.cells (0, 0) _ HW.out.plan Try.underlying23 rfl HS.out.plan ?_)
                  | (go_at_call 13; refine (HCK2.out _).mono ?_; rintro e w8 ⟨rfl, hb⟩; have HB8 := Lib.hid hb; have c1 := kk_cell (k_later hb HW.out.plan); have HP8 := Lib.hid (k_later hb HW.out.plan); obtain ⟨p0, p1, p2, p3, -⟩ := y_four (k_later hb HX.out.1); obtain ⟨q0, q1, q2, q3, -⟩ := y_four (k_later hb HX.out.2.1); obtain ⟨f0, f1, f2, f3, -⟩ := y_four (k_later hb HX.out.2.2.1); obtain ⟨g0, g1, g2, g3, -⟩ := y_four (k_later hb HX.out.2.2.2); clear hb HCK2)
                  | (refine wpList_load_want rfl 23 (.tmp 5) rfl w.heap.size rfl 23 x.cells (0, 0) _ HP8.out Try.underlying23 rfl HS.out.plan ?_)
                  | (go_at_call 14; refine (HEN2.out _).mono ?_; rintro e w9 ⟨rfl, hb⟩; have HB9 := Lib.hid (k_then hb HB8.out); clear hb HEN2))
                go_ret
                exact ⟨rfl, k_then HB9.out (k_then HW.out.below H0.out.1)⟩
              · have hck := HCK.out
                rw [chk_yes hpl] at hck
                have hen := HEN.out
                rw [enough_is hpl] at hen
                have hk1 := (plan_tick hpl).k1
                have hk2 := (plan_tick hpl).k2
                have hk3 := (plan_tick hpl).n2
                have s1 : IntKind.i64.wrap (2 * x.kk) = 2 * x.kk := IntWalk.i64_in _ (by omega)
                have HCK2 := Lib.hid hck
                have HEN2 := Lib.hid hen
                clear hck hen hpl hk1 hk2 hk3 HCK HEN
                go_wp2_with (first
                  | (refine wpList_load_row rfl 23 (.tmp 5) rfl w.heap.size rfl 23 x.cells (0, 0) _ HW.out.plan Try.underlying23 rfl HS.out.plan ?_)
                  | (go_at_call 13; refine (HCK2.out _).mono ?_; rintro e w8 ⟨rfl, hb⟩; have HB8 := Lib.hid hb; have c1 := kk_cell (k_later hb HW.out.plan); have HP8 := Lib.hid (k_later hb HW.out.plan); obtain ⟨p0, p1, p2, p3, -⟩ := y_four (k_later hb HX.out.1); obtain ⟨q0, q1, q2, q3, -⟩ := y_four (k_later hb HX.out.2.1); obtain ⟨f0, f1, f2, f3, -⟩ := y_four (k_later hb HX.out.2.2.1); obtain ⟨g0, g1, g2, g3, -⟩ := y_four (k_later hb HX.out.2.2.2); clear hb HCK2)
                  | (refine wpList_load_want rfl 23 (.tmp 5) rfl w.heap.size rfl 23 x.cells (0, 0) _ HP8.out Try.underlying23 rfl HS.out.plan ?_)
                  | (go_at_call 14; refine (HEN2.out _).mono ?_; rintro e w9 ⟨rfl, hb⟩; have HB9 := Lib.hid (k_then hb HB8.out); clear hb HEN2))
                go_ret
                exact ⟨rfl, k_then HB9.out (k_then HW.out.below H0.out.1)⟩
    · have hM2 : (20 : Int) < (S.n : Int) := by omega
      obtain ⟨A, n, c⟩ := s
      obtain ⟨B, m, d⟩ := S
      unfold Sl.v Sy.v at *
      dsimp only at *
      clear h hr hl hw0 hb0 hP0 hY0
      have e1 : decide ((50 : Int) < (n : Int)) = false := decide_eq_false (by omega)
      have e2 : decide ((20 : Int) < (m : Int)) = true := decide_eq_true (by omega)
      go_enter Try.func3, Try.ntmps3
      go_wp2
      rw [← HW0.out]
      go_ret
      exact ⟨rfl, H0.out.1⟩
  · have hN2 : (50 : Int) < (s.n : Int) := by omega
    obtain ⟨A, n, c⟩ := s
    obtain ⟨B, m, d⟩ := S
    unfold Sl.v Sy.v at *
    dsimp only at *
    clear h hr hl hw0 hb0 hP0 hY0
    have e1 : decide ((50 : Int) < (n : Int)) = true := decide_eq_true (by omega)
    go_enter Try.func3, Try.ntmps3
    go_wp2
    rw [← HW0.out]
    go_ret
    exact ⟨rfl, H0.out.1⟩
end Go.Proofs.Yteljalgfkmnamaa
