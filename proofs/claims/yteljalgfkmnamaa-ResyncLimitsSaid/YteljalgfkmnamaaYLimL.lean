/- ResyncLimits, its walk. No condition. -/
import Derived.Test.YteljalgfkmnamaaYRefC
import Derived.Test.YteljalgfkmnamaaYSome
import Derived.Test.YteljalgfkmnamaaYRows
import Derived.Laws.OwnMore
namespace Go.Proofs.Yteljalgfkmnamaa
open Go.RowKit Go.Shelf

theorem turn_no150 {x : Pl} {y : Sy} {l : List Int} (h : (turnL x y l).e = 150) : turnL x y l = ⟨zeroY, 0, 150⟩ := by
  unfold turnL turnY at *
  split at h
  · rw [if_pos ‹_›]
  · rw [if_neg ‹_›]
    split at h
    · simp at h
    · rw [if_neg ‹_›]
      split at h
      · simp at h
      · rw [if_neg ‹_›]
theorem cor_some {x : Pl} {l : List Int} (h : corE x l ≠ 150) : planB x = true ∧ okV l = true := by
  unfold corE at h
  cases hp : planB x <;> cases hv : okV l <;> simp [hp, hv] at h ⊢
theorem cor_zero {x : Pl} {l : List Int} (h : corE x l = 0) : planB x = true ∧ corB x l = wantC x l ∧ -x.cap ≤ wantC x l ∧ wantC x l ≤ x.cap := by
  obtain ⟨hp, hv⟩ := cor_some (x := x) (l := l) (by omega)
  have ho : overB x l = false := by
    unfold corE at h
    rw [hp, hv] at h
    cases ho : overB x l
    · rfl
    · rw [ho] at h; simp at h
  have h2 := of_decide_eq_false ho
  unfold corB
  rw [hp, hv, ho]
  exact ⟨rfl, rfl, by omega, by omega⟩
theorem cor_nothing {x : Pl} (h : planB x = true) : corE x [] = 0 ∧ corB x [] = 0 := by
  have hw : wantC x [] = 0 := by
    unfold wantC enoughB
    rw [h, Bool.true_and, if_neg]
    have := (plan_tick h).k1
    rw [decide_eq_true_eq]
    simp
    omega
  have hc := plan_cap h
  have ho : overB x [] = false := by
    unfold overB
    rw [hw]
    exact decide_eq_false (by omega)
  unfold corE corB
  rw [h, ho, hw]
  exact ⟨rfl, rfl⟩
theorem turn_no151 {x : Pl} {y : Sy} {l : List Int} (h : (turnL x y l).e = 151) : turnL x y l = ⟨lostY y, 0, 151⟩ ∧ planB x = true ∧ mayY y = true := by
  unfold turnL turnY at *
  split at h
  · simp at h
  · rename_i h1
    rw [if_neg h1]
    have hc : corE x l ≠ 150 := fun e => h1 (.inl e)
    have hm : mayY y = true := by
      cases hm : mayY y
      · exact absurd (.inr hm) h1
      · rfl
    split at h
    · rw [if_pos ‹_›]
      exact ⟨rfl, (cor_some hc).1, hm⟩
    · split at h
      · simp at h
      · simp at h
theorem turn_again {x : Pl} {y : Sy} (hp : planB x = true) (hm : mayY y = true) : turnL x (lostY y) [] = ⟨lostY y, 0, 151⟩ := by
  obtain ⟨h1, h2⟩ := cor_nothing hp
  have hm2 : mayY (lostY y) = true := hm
  unfold turnL turnY
  rw [h1, h2, if_neg (by simp [hm2]), if_pos (.inr rfl)]
  rfl
theorem turn_ok0 {x : Pl} {y : Sy} {l : List Int} (h : (turnL x y l).e = 0) : ∃ by_, turnL x y l = ⟨nextY by_ y, by_, 0⟩ ∧ planB x = true ∧ mayY (nextY by_ y) = true ∧ -x.cap ≤ by_ ∧ by_ ≤ x.cap ∧ (enoughB x (l.length : Int) = false → by_ = 0) := by
  unfold turnL turnY at *
  split at h
  · simp at h
  · rename_i h1
    rw [if_neg h1]
    have hc : corE x l ≠ 150 := fun e => h1 (.inl e)
    split at h
    · simp at h
    · rename_i h2
      rw [if_neg h2]
      have hz : corE x l = 0 := by
        rcases corE_is x l with e | e | e
        · exact e
        · exact absurd e hc
        · exact absurd (.inl e) h2
      obtain ⟨hp, he, k1, k2⟩ := cor_zero hz
      split at h
      · rw [if_pos ‹_›]
        refine ⟨corB x l, rfl, hp, ‹_›, by omega, by omega, fun hen => ?_⟩
        rw [he]
        unfold wantC
        rw [hen]
        rfl
      · simp at h

theorem l_far {w : World} {n : Nat} {t : TypeId} {cs : Array Value} (k : Whole w n t cs) (v0 v1 v2 v3 : Value) : Whole ((((w.setCell ⟨n + 1, 0, none⟩ v0).setCell ⟨n + 1, 1, none⟩ v1).setCell ⟨n + 1, 2, none⟩ v2).setCell ⟨n + 1, 3, none⟩ v3) n t cs :=
  (((k.far (p := ⟨n + 1, 0, none⟩) (by simp) _).far (p := ⟨n + 1, 1, none⟩) (by simp) _).far (p := ⟨n + 1, 2, none⟩) (by simp) _).far (p := ⟨n + 1, 3, none⟩) (by simp) _
/-- What the law keeps: the plan's box, and the state's. -/
structure LB (w : World) (x : Pl) (r t u : Int) (b : Bool) (W : World) : Prop where
  below : Below w.heap.size w W
  plan : Whole W w.heap.size 23 x.cells
  sync : Whole W (w.heap.size + 1) 25 #[.int .i64 r, .int .i64 t, .int .i64 u, .bool b]
theorem LB.later {w W W' : World} {x : Pl} {r t u : Int} {b : Bool} (h : LB w x r t u b W) (hb : Below W.heap.size W W') : LB w x r t u b W' :=
  ⟨k_then hb h.below, k_later hb h.plan, k_later hb h.sync⟩
theorem LB.alloc {w W : World} {x : Pl} {r t u : Int} {b : Bool} (h : LB w x r t u b W) (o : Obj) : LB w x r t u b (W.alloc o) := h.later ((Below.refl _ _).alloc (Nat.le_refl _) o)

set_option maxRecDepth 100000 in
set_option maxHeartbeats 8000000 in
theorem resyncLimits_walk (x : Pl) (y : Sy) (S : Sl) (ss : List Sl) (L : List (List Int)) (w : World) (hr : Rws w S ss L) :
    Calls Try.prog 6 #[.agg x.cells, y.v, S.v] w fun e w' => e = .returned (.bool true) ∧ Below w.heap.size w w' := by
  have hmS := Nat.le_trans hr.src.cap hr.src.max
  have hl := hr.many
  obtain ⟨r, t, u, b⟩ := y
  obtain ⟨w0, hw0⟩ : ∃ w0, w0 = (w.alloc (.cells x.cells 23)).alloc (.cells #[.int .i64 r, .int .i64 t, .int .i64 u, .bool b] 25) := ⟨_, rfl⟩
  have hb0 : LB w x r t u b w0 := by
    refine ⟨?_, ?_, ?_⟩
    · rw [hw0]; exact ((Below.refl _ _).alloc (Nat.le_refl _) _).alloc (by simp) _
    · rw [hw0]; exact (Whole.new w _ _).alloc _
    · have h := Whole.new (w.alloc (.cells x.cells 23)) 25 #[.int .i64 r, .int .i64 t, .int .i64 u, .bool b]
      simp only [World.size_alloc] at h
      rw [hw0]; exact h
  have H0 := Lib.hid hb0
  have HW0 := Lib.hid hw0
  have HR := Lib.hid hr
  have HS := Lib.hid x.cellsL
  have HL := Lib.hid hl
  have HAL := Lib.hid (fun W => alive_any W)
  have HCA := Lib.hid (fun W => (show Calls Try.prog 8 #[.agg x.cells, .slice none 0 0] W _ from refCorrection_any x W nilS [] (RSrc.nil W) (by decide)))
  have HCK := Lib.hid (fun W => Check_any x W)
  have HEN := Lib.hid (fun W many => Enough_any x many W)
  obtain ⟨B, m, d⟩ := S
  unfold Sl.v Sy.v at *
  dsimp only at *
  clear hr hl hw0 hb0
  by_cases hM : m ≤ 20
  · have e20 : decide ((20 : Int) < (m : Int)) = false := decide_eq_false (by omega)
    go_enter Try.func6, Try.ntmps6
    go_wp2_with (go_at_call 17; rw [← HW0.out]; refine (HAL.out _).mono ?_; rintro e w1 ⟨rfl, hb⟩; have H1 := Lib.hid (H0.out.later hb); obtain ⟨a0, a1, a2, a3, -⟩ := y_four H1.out.sync; clear hb)
    go_quiet (fail)
    have H2 := Lib.hid (fun n => (H1.out.later (below_drewN (Below.refl w1.heap.size w1) n) : LB w x r t u b (w1.drewN n)))
    clear a0 a1 a2 a3 H0 HW0
    go_wp2
    go_loopw [8, 9, 35] (fun sv mv iv wr => ∃ (i : Nat) (r1 t1 u1 : Int) (b1 : Bool), i ≤ m ∧ iv = .int .i64 (i : Int) ∧ sv = .int .i64 u1 ∧ mv = .int .i64 r1 ∧ LB w x r1 t1 u1 b1 wr) (fun _ _ iv _ => m - (intOf iv).toNat)
    case atStart => exact ⟨0, r, t, u, b, Nat.zero_le _, rfl, rfl, rfl, H2.out _⟩
    case round =>
      obtain ⟨i, r1, t1, u1, b1, hi, rfl, rfl, rfl, hLB⟩ := hrel
      have HLB := Lib.hid hLB
      have hbw := hLB.below
      clear H1 H2 hLB
      by_cases hlt : i < m
      · have hrws := HR.out.later hbw
        have hiss : i < ss.length := by rw [hrws.src.len]; exact hlt
        obtain ⟨g, o, hA0, hA2⟩ := hrws.src.get (i := i) hlt
        dsimp only at hA0
        subst hA0
        have c0 := slC_cells hA2
        rw [Nat.mul_one] at c0
        have hrow := hrws.row i hiss
        obtain ⟨⟨B', k, q⟩, hsl⟩ : ∃ sl, sl = ss.getD i default := ⟨_, rfl⟩
        obtain ⟨l, hll⟩ : ∃ l, l = L.getD i [] := ⟨_, rfl⟩
        rw [← hsl, ← hll] at hrow
        rw [← hsl] at c0
        unfold Sl.v at c0
        dsimp only at c0
        have e1 : (0 : Int) ≤ (i : Int) := by omega
        have e2 : (i : Int) < (m : Int) := by omega
        obtain ⟨a0, a1, a2, a3, -⟩ := y_four HLB.out.sync
        have hll2 : l.length = k := hrow.len
        clear hA2 hsl hll hrws hiss
        by_cases hk : k ≤ 50
        · have e50 : decide ((50 : Int) < (k : Int)) = false := decide_eq_false (by omega)
          have ht := Turn_any x ⟨r1, t1, u1, b1⟩ wr ⟨B', k, q⟩ l hrow (by show k ≤ 1000; omega)
          rcases turn_e x ⟨r1, t1, u1, b1⟩ l with he | he | he
          · obtain ⟨by_, hT, hp, hm, hc1, hc2, hen⟩ := turn_ok0 he
            rw [hT] at ht
            unfold Tn.v nextY Sy.v Sl.v at ht
            dsimp only at ht
            have hmp := may_parts hm
            unfold nextY at hmp
            dsimp only at hmp
            have hcap := plan_cap hp
            obtain ⟨r2, hr2⟩ : ∃ r2, r2 = r1 + 1 := ⟨_, rfl⟩
            obtain ⟨t2, ht2⟩ : ∃ t2, t2 = t1 + oneN by_ := ⟨_, rfl⟩
            obtain ⟨u2, hu2⟩ : ∃ u2, u2 = u1 + by_ := ⟨_, rfl⟩
            have s1 : IntKind.i64.wrap (r1 + 1) = r2 := by rw [hr2]; exact IntWalk.i64_in _ (by omega)
            have s2 : IntKind.i64.wrap (u1 + by_) = u2 := by rw [hu2]; exact IntWalk.i64_in _ (by omega)
            rw [← hr2, ← ht2, ← hu2] at ht
            have hkc := fun (W : World) (hW : Whole W w.heap.size 23 x.cells) => cap_cell hW
            generalize x.cap = cc at *
            have s3 : IntKind.i64.wrap (-cc) = -cc := IntWalk.i64_in _ (by omega)
            have d1 : decide (cc < by_) = false := decide_eq_false (by omega)
            have d2 : decide (by_ < -cc) = false := decide_eq_false (by omega)
            have HKC := Lib.hid hkc
            have HT := Lib.hid ht
            have hEN := fun W => HEN.out W (k : Int)
            rw [hll2] at hen
            generalize enoughB x (k : Int) = en at *
            have HEN2 := Lib.hid hEN
            clear hT hp hm hc1 hc2 hmp hcap hr2 ht2 hu2 ht hkc hEN hll2 hrow hk HEN HCA HCK he
            cases en
            · have q2 : (by_ != 0) = false := by simp [bne, hen rfl]
              clear hen
              go_upto_region 11 with (first
                | (refine wpList_load_row rfl 23 (.tmp 3) rfl w.heap.size rfl 23 x.cells (0, 0) _ HLB.out.plan Try.underlying23 rfl HS.out.plan ?_)
                | (go_at_call 9; refine HT.out.mono ?_; rintro e w2 ⟨rfl, hb⟩; have H3 := Lib.hid ((HLB.out.later hb).alloc (.cells #[.int .i64 r2, .int .i64 t2, .int .i64 u2, .bool false] 25)); have HX := Lib.hid (Whole.new w2 25 #[.int .i64 r2, .int .i64 t2, .int .i64 u2, .bool false]); clear hb HT))
              generalize (w2.alloc _ : World) = V at *
              generalize w2.heap.size = g12 at *
              have c10 := HKC.out _ H3.out.plan
              obtain ⟨f0, f1, f2, f3, -⟩ := y_four HX.out
              clear a0 a1 a2 a3 c0
              go_wp2_with (first
                | (refine wpList_load_want rfl 23 (.tmp 3) rfl w.heap.size rfl 23 x.cells (0, 0) _ H3.out.plan Try.underlying23 rfl HS.out.plan ?_)
                | (go_at_call 14; refine (HEN2.out _).mono ?_; rintro e w3 ⟨rfl, hb⟩; have H4 := Lib.hid (H3.out.later hb); obtain ⟨m0, m1, m2, m3, m4⟩ := y_four H4.out.sync; have hx := k_later hb HX.out; clear f0 f1 f2 f3; obtain ⟨f0, f1, f2, f3, -⟩ := y_four hx; clear hb hx))
              go_roundw
              case rel => exact ⟨i + 1, r2, t2, u2, false, by omega, by go_num, rfl, rfl, y_below H4.out.below (by omega) _ _ _ _, l_far H4.out.plan _ _ _ _, y_store H4.out.sync _ _ _ _⟩
              case measure => simp [intOf]; omega
            · clear hen
              go_upto_region 11 with (first
                | (refine wpList_load_row rfl 23 (.tmp 3) rfl w.heap.size rfl 23 x.cells (0, 0) _ HLB.out.plan Try.underlying23 rfl HS.out.plan ?_)
                | (go_at_call 9; refine HT.out.mono ?_; rintro e w2 ⟨rfl, hb⟩; have H3 := Lib.hid ((HLB.out.later hb).alloc (.cells #[.int .i64 r2, .int .i64 t2, .int .i64 u2, .bool false] 25)); have HX := Lib.hid (Whole.new w2 25 #[.int .i64 r2, .int .i64 t2, .int .i64 u2, .bool false]); clear hb HT))
              generalize (w2.alloc _ : World) = V at *
              generalize w2.heap.size = g12 at *
              have c10 := HKC.out _ H3.out.plan
              obtain ⟨f0, f1, f2, f3, -⟩ := y_four HX.out
              clear a0 a1 a2 a3 c0
              go_wp2_with (first
                | (refine wpList_load_want rfl 23 (.tmp 3) rfl w.heap.size rfl 23 x.cells (0, 0) _ H3.out.plan Try.underlying23 rfl HS.out.plan ?_)
                | (go_at_call 14; refine (HEN2.out _).mono ?_; rintro e w3 ⟨rfl, hb⟩; have H4 := Lib.hid (H3.out.later hb); obtain ⟨m0, m1, m2, m3, m4⟩ := y_four H4.out.sync; have hx := k_later hb HX.out; clear f0 f1 f2 f3; obtain ⟨f0, f1, f2, f3, -⟩ := y_four hx; clear hb hx))
              go_roundw
              case rel => exact ⟨i + 1, r2, t2, u2, false, by omega, by go_num, rfl, rfl, y_below H4.out.below (by omega) _ _ _ _, l_far H4.out.plan _ _ _ _, y_store H4.out.sync _ _ _ _⟩
              case measure => simp [intOf]; omega
          · have hT := turn_no150 he
            rw [hT] at ht
            unfold Tn.v zeroY Sy.v Sl.v at ht
            dsimp only at ht
            have HT := Lib.hid ht
            clear hT ht hll2 hrow hk HEN HCA HCK he
            go_wp2_with (first
              | (refine wpList_load_row rfl 23 (.tmp 3) rfl w.heap.size rfl 23 x.cells (0, 0) _ HLB.out.plan Try.underlying23 rfl HS.out.plan ?_)
              | (go_at_call 9; refine HT.out.mono ?_; rintro e w2 ⟨rfl, hb⟩; have H3 := Lib.hid ((HLB.out.later hb).alloc (.cells #[.int .i64 0, .int .i64 0, .int .i64 0, .bool false] 25)); have HX := Lib.hid (Whole.new w2 25 #[.int .i64 0, .int .i64 0, .int .i64 0, .bool false]); clear hb HT))
            go_ret
            exact ⟨rfl, H3.out.below⟩
          · obtain ⟨hT, hp, hm⟩ := turn_no151 he
            rw [hT] at ht
            have hag := fun W => Turn_any x (lostY ⟨r1, t1, u1, b1⟩) W nilS [] (RSrc.nil W) (by decide)
            rw [turn_again hp hm] at hag
            unfold Tn.v lostY Sy.v Sl.v at ht hag
            unfold nilS at hag
            dsimp only at ht hag
            have HT := Lib.hid ht
            have HAG := Lib.hid hag
            clear hT hp hm ht hag hll2 hrow hk HEN HCA HCK he
            go_upto_region 11 with (first
              | (refine wpList_load_row rfl 23 (.tmp 3) rfl w.heap.size rfl 23 x.cells (0, 0) _ HLB.out.plan Try.underlying23 rfl HS.out.plan ?_)
              | (go_at_call 9; refine HT.out.mono ?_; rintro e w2 ⟨rfl, hb⟩; have H3 := Lib.hid ((HLB.out.later hb).alloc (.cells #[.int .i64 r1, .int .i64 t1, .int .i64 u1, .bool true] 25)); have HX := Lib.hid (Whole.new w2 25 #[.int .i64 r1, .int .i64 t1, .int .i64 u1, .bool true]); clear hb HT))
            generalize (w2.alloc _ : World) = V at *
            generalize w2.heap.size = g12 at *
            obtain ⟨f0, f1, f2, f3, -⟩ := y_four HX.out
            clear a0 a1 a2 a3 c0
            go_wp2_with (first
              | (refine wpList_load_row rfl 23 (.tmp 3) rfl w.heap.size rfl 23 x.cells (0, 0) _ H3.out.plan Try.underlying23 rfl HS.out.plan ?_)
              | (go_at_call 9; refine (HAG.out _).mono ?_; rintro e w3 ⟨rfl, hb⟩; have H4 := Lib.hid ((H3.out.later hb).alloc (.cells #[.int .i64 r1, .int .i64 t1, .int .i64 u1, .bool true] 25)); have hx : Whole (w3.alloc (.cells #[.int .i64 r1, .int .i64 t1, .int .i64 u1, .bool true] 25)) g12 25 _ := (k_later hb HX.out).alloc _; clear f0 f1 f2 f3; obtain ⟨f0, f1, f2, f3, -⟩ := y_four hx; clear hb hx))
            go_ret
            exact ⟨rfl, H4.out.below⟩
        · have e50 : decide ((50 : Int) < (k : Int)) = true := decide_eq_true (by omega)
          clear hrow hll2
          go_wp2
          go_ret
          exact ⟨rfl, HLB.out.below⟩
      · obtain rfl : i = m := by omega
        clear HEN
        have hca := HCA.out
        have hck := HCK.out
        cases hp : planB x
        · obtain ⟨k1, k2⟩ : corE x [] = 150 ∧ corB x [] = 0 := by unfold corE corB; rw [hp]; exact ⟨rfl, rfl⟩
          unfold corV at hca
          rw [k1, k2] at hca
          rw [chk_no hp] at hck
          have HCA2 := Lib.hid hca
          have HCK2 := Lib.hid hck
          clear hca hck k1 k2 hp HCA HCK
          go_wp2_with (first
            | (refine wpList_load_row rfl 23 (.tmp 3) rfl w.heap.size rfl 23 x.cells (0, 0) _ HLB.out.plan Try.underlying23 rfl HS.out.plan ?_)
            | (refine wpList_load_want rfl 23 (.tmp 3) rfl w.heap.size rfl 23 x.cells (0, 0) _ H5.out.plan Try.underlying23 rfl HS.out.plan ?_)
            | (go_at_call 8; refine (HCA2.out _).mono ?_; rintro e w5 ⟨rfl, hb⟩; have H5 := Lib.hid (HLB.out.later hb); clear hb)
            | (go_at_call 18; refine (HCK2.out _).mono ?_; rintro e w6 ⟨rfl, hb⟩; have H6 := Lib.hid (H5.out.later hb); clear hb))
          go_ret
          exact ⟨rfl, H6.out.below⟩
        · obtain ⟨k1, k2⟩ := cor_nothing hp
          unfold corV at hca
          rw [k1, k2] at hca
          rw [chk_yes hp] at hck
          have HCA2 := Lib.hid hca
          have HCK2 := Lib.hid hck
          clear hca hck k1 k2 hp HCA HCK
          go_wp2_with (first
            | (refine wpList_load_row rfl 23 (.tmp 3) rfl w.heap.size rfl 23 x.cells (0, 0) _ HLB.out.plan Try.underlying23 rfl HS.out.plan ?_)
            | (refine wpList_load_want rfl 23 (.tmp 3) rfl w.heap.size rfl 23 x.cells (0, 0) _ H5.out.plan Try.underlying23 rfl HS.out.plan ?_)
            | (go_at_call 8; refine (HCA2.out _).mono ?_; rintro e w5 ⟨rfl, hb⟩; have H5 := Lib.hid (HLB.out.later hb); clear hb)
            | (go_at_call 18; refine (HCK2.out _).mono ?_; rintro e w6 ⟨rfl, hb⟩; have H6 := Lib.hid (H5.out.later hb); clear hb))
          go_ret
          exact ⟨rfl, H6.out.below⟩
  · have e20 : decide ((20 : Int) < (m : Int)) = true := decide_eq_true (by omega)
    go_enter Try.func6, Try.ntmps6
    go_wp2_with (go_at_call 17; rw [← HW0.out]; refine (HAL.out _).mono ?_; rintro e w1 ⟨rfl, hb⟩; have H1 := Lib.hid (H0.out.later hb); clear hb)
    go_ret
    exact ⟨rfl, H1.out.below⟩
end Go.Proofs.Yteljalgfkmnamaa
