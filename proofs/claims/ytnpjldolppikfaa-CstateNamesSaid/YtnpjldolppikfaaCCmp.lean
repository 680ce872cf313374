/- Which of two C-states stands ahead: the program's and the document's, each by a contract. -/
import Derived.Test.YtnpjldolppikfaaCStep
import Derived.Test.YtnpjldolppikfaaLater
import Derived.StillTailTactics
namespace Go.Proofs.Ytnpjldolppikfaa
open Go.RowKit

def cmpI (a b : Int) : Int := if a < b then -1 else if b < a then 1 else 0
def orI (x y : Int) : Int := if x = 0 then y else x
def cmpC (r s r' s' : Int) : Int := orI (cmpI r r') (cmpI s s')

theorem isNaN_any (a : Int) (w : World) : Calls Try.prog 69 #[.int .i64 a] w fun e w' => e = .returned (.bool false) ∧ w = w' := by
  go_enter Try.func69, Try.ntmps69
  go_wp2
  go_ret
  exact ⟨rfl, rfl⟩

set_option maxHeartbeats 400000 in
theorem cmpI_any (a b : Int) (w : World) : Calls Try.prog 48 #[.int .i64 a, .int .i64 b] w fun e w' => e = .returned (.int .i64 (cmpI a b)) ∧ w = w' := by
  by_cases h1 : a < b
  · have HV := Lib.hid (show cmpI a b = -1 from if_pos h1)
    go_enter Try.func48, Try.ntmps48
    go_wp2_with (go_at_call 69; refine (isNaN_any _ _).mono ?_; rintro e w' ⟨rfl, rfl⟩)
    go_ret
    exact ⟨by rw [HV.out]; rfl, rfl⟩
  · have d1 : decide (a < b) = false := decide_eq_false h1
    by_cases h2 : b < a
    · have HV := Lib.hid (show cmpI a b = 1 from by rw [cmpI, if_neg h1, if_pos h2])
      clear h1
      go_enter Try.func48, Try.ntmps48
      go_wp2_with (go_at_call 69; refine (isNaN_any _ _).mono ?_; rintro e w' ⟨rfl, rfl⟩)
      go_ret
      exact ⟨by rw [HV.out]; rfl, rfl⟩
    · have HV := Lib.hid (show cmpI a b = 0 from by rw [cmpI, if_neg h1, if_neg h2])
      have d2 : decide (b < a) = false := decide_eq_false h2
      clear h1 h2
      go_enter Try.func48, Try.ntmps48
      go_wp2_with (go_at_call 69; refine (isNaN_any _ _).mono ?_; rintro e w' ⟨rfl, rfl⟩)
      go_ret
      exact ⟨by rw [HV.out]; rfl, rfl⟩

set_option maxHeartbeats 400000 in
theorem or2_any (x y : Int) (g : Nat) (w : World) (h : Whole w g 3 #[.int .i64 x, .int .i64 y]) : Calls Try.prog 47 #[.slice (some ⟨g, 0, none⟩) 2 2] w fun e w' => e = .returned (.int .i64 (orI x y)) ∧ w = w' := by
  have c0 : w.cell? ⟨g, 0, none⟩ = some (.int .i64 x) := h.cell 0
  have c1 : w.cell? ⟨g, 1, none⟩ = some (.int .i64 y) := h.cell 1
  clear h
  by_cases hx : x = 0
  · subst hx
    by_cases hy : y = 0
    · subst hy
      have HV := Lib.hid (show orI 0 0 = 0 from rfl)
      go_enter Try.func47, Try.ntmps47
      go_wp2
      refine wp_loop_rounds 3 ?_
      rw [rounds_succ]
      go_wp2
      rw [rounds_succ]
      go_wp2
      rw [rounds_succ]
      go_wp2
      go_ret
      exact ⟨by rw [HV.out]; rfl, rfl⟩
    · have HV := Lib.hid (show orI 0 y = y from rfl)
      have d : (y == 0) = false := by simp [hy]
      have d2 : (y != 0) = true := by simp [hy]
      go_enter Try.func47, Try.ntmps47
      go_wp2
      refine wp_loop_rounds 2 ?_
      rw [rounds_succ]
      go_wp2
      rw [rounds_succ]
      go_wp2
      go_ret
      exact ⟨by rw [HV.out]; rfl, rfl⟩
  · have HV := Lib.hid (show orI x y = x from if_neg hx)
    have d : (x == 0) = false := by simp [hx]
    have d2 : (x != 0) = true := by simp [hx]
    go_enter Try.func47, Try.ntmps47
    go_wp2
    refine wp_loop_rounds 1 ?_
    rw [rounds_succ]
    go_wp2
    go_ret
    exact ⟨by rw [HV.out]; rfl, rfl⟩

theorem cmpI_back (a b : Int) (w : World) : Calls Try.prog 48 #[.int .i64 a, .int .i64 b] w fun e w' => e = .returned (.int .i64 (cmpI a b)) ∧ w' = w := (cmpI_any a b w).mono fun _ _ h => ⟨h.1, h.2.symm⟩

set_option maxRecDepth 100000 in
set_option maxHeartbeats 1000000 in
theorem compare_any (r s m v r' s' m' v' : Int) (w : World) : Calls Try.prog 24 #[.agg #[.int .i64 r, .int .i64 s, .int .i64 m, .int .u16 v], .agg #[.int .i64 r', .int .i64 s', .int .i64 m', .int .u16 v']] w fun e w' => e = .returned (.int .i64 (cmpC r s r' s')) ∧ Below w.heap.size w w' := by
  obtain ⟨W, hWe⟩ : ∃ W, (w.alloc (.cells #[.int .i64 r, .int .i64 s, .int .i64 m, .int .u16 v] 25)).alloc (.cells #[.int .i64 r', .int .i64 s', .int .i64 m', .int .u16 v'] 25) = W := ⟨_, rfl⟩
  have hb : Below w.heap.size w W := by rw [← hWe]; exact ((Below.refl _ _).alloc (Nat.le_refl _) _).alloc (by simp) _
  have hW1 : Whole W w.heap.size 25 #[.int .i64 r, .int .i64 s, .int .i64 m, .int .u16 v] := by rw [← hWe]; exact (Whole.new w _ _).alloc _
  have hW2 : Whole W (w.heap.size + 1) 25 #[.int .i64 r', .int .i64 s', .int .i64 m', .int .u16 v'] := by
    rw [← hWe]
    have := Whole.new (w.alloc (.cells #[.int .i64 r, .int .i64 s, .int .i64 m, .int .u16 v] 25)) 25 #[.int .i64 r', .int .i64 s', .int .i64 m', .int .u16 v']
    simpa using this
  obtain ⟨c0, c1, c2, c3, cf⟩ := hW1.four
  obtain ⟨d0, d1, d2, d3, df⟩ := hW2.four
  have HV := Lib.hid (show cmpC r s r' s' = orI (cmpI r r') (cmpI s s') from rfl)
  have C1 := cmpI_back r r'
  have C2 := cmpI_back s s'
  generalize cmpI r r' = x at *
  generalize cmpI s s' = y at *
  have D1 := Lib.hid C1
  have D2 := Lib.hid C2
  clear C1 C2 hW1 hW2
  have HW := Lib.hid hWe
  clear hWe
  go_enter Try.func24, Try.ntmps24
  go_wp2
  rw [HW.out]
  go_still_tail 10, (by kernel_rfl)
  still_call (D1.out _)
  repeat still_step
  still_call (D2.out _)
  refine wpStill_nil ?_
  change wpList _ _ _ _ _ W.drew
  have hb2 : Below w.heap.size w W.drew := ⟨hb.os, hb.tape, hb.output, hb.size, hb.block⟩
  clear c0 c1 c2 c3 cf d0 d1 d2 d3 df HW hb
  generalize W.drew = W2 at *
  have hO := or2_any x y W2.heap.size (W2.alloc (.cells #[.int .i64 x, .int .i64 y] 3)) (Whole.new _ _ _)
  have hb3 := hb2.alloc hb2.size (.cells #[.int .i64 x, .int .i64 y] 3)
  go_wp2_with (go_at_call 47; refine hO.mono ?_; rintro e w' ⟨rfl, rfl⟩)
  go_ret
  exact ⟨by rw [HV.out]; rfl, hb3⟩

theorem refCmp_lt1 {r s r' s' : Int} (h : r < r') : cmpC r s r' s' = -1 := by
  rw [cmpC, cmpI, if_pos h]; rfl
theorem refCmp_lt2 {r s r' s' : Int} (h : r = r') (h2 : s < s') : cmpC r s r' s' = -1 := by
  rw [cmpC, cmpI, if_neg (by omega), if_neg (by omega), cmpI, if_pos h2]; rfl
theorem refCmp_eq {r s r' s' : Int} (h : r = r') (h2 : s = s') : cmpC r s r' s' = 0 := by
  rw [cmpC, cmpI, if_neg (by omega), if_neg (by omega), cmpI, if_neg (by omega), if_neg (by omega)]; rfl
theorem refCmp_gt1 {r s r' s' : Int} (h : r' < r) : cmpC r s r' s' = 1 := by
  rw [cmpC, cmpI, if_neg (by omega), if_pos h]; rfl
theorem refCmp_gt2 {r s r' s' : Int} (h : r = r') (h2 : s' < s) : cmpC r s r' s' = 1 := by
  rw [cmpC, cmpI, if_neg (by omega), if_neg (by omega), cmpI, if_neg (by omega), if_pos h2]; rfl

set_option maxHeartbeats 2000000 in
theorem refCompare_any (r s m v r' s' m' v' : Int) (w : World) : Calls Try.prog 25 #[.agg #[.int .i64 r, .int .i64 s, .int .i64 m, .int .u16 v], .agg #[.int .i64 r', .int .i64 s', .int .i64 m', .int .u16 v']] w fun e w' => e = .returned (.int .i64 (cmpC r s r' s')) ∧ Below w.heap.size w w' := by
  have hb : Below w.heap.size w ((w.alloc (.cells #[.int .i64 r, .int .i64 s, .int .i64 m, .int .u16 v] 25)).alloc (.cells #[.int .i64 r', .int .i64 s', .int .i64 m', .int .u16 v'] 25)) := ((Below.refl _ _).alloc (Nat.le_refl _) _).alloc (by simp) _
  by_cases h1 : r < r'
  · have HV := Lib.hid (refCmp_lt1 (s := s) (s' := s') h1)
    go_enter Try.func25, Try.ntmps25
    go_wp2
    go_ret
    exact ⟨by rw [HV.out]; rfl, hb⟩
  · have d1 : decide (r < r') = false := decide_eq_false h1
    by_cases h2 : r = r'
    · subst h2
      have d0 : decide (r < r) = false := decide_eq_false (by omega)
      by_cases h3 : s < s'
      · have HV := Lib.hid (refCmp_lt2 (r := r) rfl h3)
        clear h1
        go_enter Try.func25, Try.ntmps25
        go_wp2
        go_ret
        exact ⟨by rw [HV.out]; rfl, hb⟩
      · have d2 : decide (s < s') = false := decide_eq_false h3
        by_cases h4 : s = s'
        · subst h4
          have d3 : decide (s < s) = false := decide_eq_false (by omega)
          have HV := Lib.hid (refCmp_eq (r := r) (s := s) rfl rfl)
          clear h1 h3
          go_enter Try.func25, Try.ntmps25
          go_wp2
          go_ret
          exact ⟨by rw [HV.out]; rfl, hb⟩
        · have HV := Lib.hid (refCmp_gt2 (r := r) (s := s) (s' := s') rfl (by omega))
          have d4 : (s == s') = false := by simp [h4]
          clear h1 h3 h4
          go_enter Try.func25, Try.ntmps25
          go_wp2
          go_ret
          exact ⟨by rw [HV.out]; rfl, hb⟩
    · have HV := Lib.hid (refCmp_gt1 (r := r) (r' := r') (s := s) (s' := s') (by omega))
      have d4 : (r == r') = false := by simp [h2]
      clear h1 h2
      go_enter Try.func25, Try.ntmps25
      go_wp2
      go_ret
      exact ⟨by rw [HV.out]; rfl, hb⟩

end Go.Proofs.Ytnpjldolppikfaa
