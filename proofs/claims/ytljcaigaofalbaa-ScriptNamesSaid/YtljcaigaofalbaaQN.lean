/- The program's all and what of a script may be, by contracts. No condition. | What of a script may be, by the program: contracts. No condition. -/
import Derived.Test.YtljcaigaofalbaaQM
namespace Go.Proofs.Ytljcaigaofalbaa
open Go.RowKit Go.Shelf

/-- A test: a function value that, in whatever later world it is called with the element's value, answers so, and writes nothing that was there. -/
def TestOf {α : Type} (P : Program) (w : World) (v : Value) (val : α → Value) (p : α → Bool) : Prop :=
  ∃ (k : FuncId) (fst cap : Array Value), v = .func (.func k) fst cap ∧ (∀ args W, (callFunc k args).run P W = .ok (.enter k args) W) ∧ ∀ W y, Below w.heap.size w W → Calls P k (fst.push (val y) ++ cap) W fun e W' => e = .returned (.bool (p y)) ∧ Below W.heap.size W W'
def intV (n : Int) : Value := .int .i64 n
def rateV (r : Int × Int) : Value := .agg (rateC r).toArray
def hapV (h : HpA) : Value := .agg (hapC h).toArray
def ftV (f : Ft) : Value := .agg (ftC f).toArray


set_option maxRecDepth 100000 in
set_option maxHeartbeats 1000000 in
theorem allI_any (w : World) (s : Sl) (xs : List (Int)) (h : RSrc numC 1 w s xs) (kf : FuncId) (fst : Value) (p : Int → Bool)
    (he : ∀ args W, (callFunc kf args).run Try.prog W = .ok (.enter kf args) W) (hp : ∀ W y, Below w.heap.size w W → Calls Try.prog kf #[fst, intV y] W fun e W' => e = .returned (.bool (p y)) ∧ Below W.heap.size W W') :
    Calls Try.prog 97 #[s.v, .func (.func kf) #[fst] #[]] w fun e w' => e = .returned (.bool (xs.all p)) ∧ Below w.heap.size w w' := by
  have H := Lib.hid h
  have HP := Lib.hid hp
  have hl := h.len
  have hn := Nat.le_trans h.cap h.max
  have hz := bool_or (z := xs.all p) (C := ∀ j, j < xs.length → p (xs.getD j default) = true) (by
    rw [List.all_eq_true]
    exact ⟨fun h j hj => h _ (getD_mem hj), fun h => of_getD h⟩)
  generalize xs.all p = z at *
  have HZ := Lib.hid hz
  have HL := Lib.hid hl
  obtain ⟨A, n, c⟩ := s
  unfold Sl.v
  dsimp only at *
  clear h hp hz hl
  go_enter Try.func97, Try.ntmps97
  go_wp2
  go_loopw [9] (fun iv wr => ∃ k : Nat, k ≤ n ∧ iv = .int .i64 (k : Int) ∧ Below w.heap.size w wr ∧ ∀ j, j < k → p (xs.getD j default) = true) (fun iv _ => n - (intOf iv).toNat)
  case atStart => exact ⟨0, by omega, rfl, Below.refl _ _, fun j hj => absurd hj (Nat.not_lt_zero _)⟩
  case round =>
    obtain ⟨k, hk, rfl, hW, hall⟩ := hrel
    have HA := Lib.hid hall
    have HW := Lib.hid hW
    clear hW hall
    by_cases hlt : k < n
    · obtain ⟨g, o, hA, hR⟩ := (H.out.later HW.out).get (i := k) hlt
      dsimp only at hA
      subst hA
      obtain ⟨y, hy⟩ : ∃ y, y = xs.getD k default := ⟨_, rfl⟩
      rw [← hy] at hR
      have HY := Lib.hid hy
      have hno : ¬ p y = true → z = false := fun hc => by
        rcases HZ.out with ⟨_, h⟩ | ⟨h, _⟩
        · exact (hc (by rw [hy]; exact h k (by rw [HL.out]; exact hlt))).elim
        · exact h
      have HN := Lib.hid hno
      have f1 : (0 : Int) ≤ (k : Int) := by omega
      have f2 : (k : Int) < (n : Int) := by omega
      have HC := Lib.hid (fun W hW => HP.out W y hW)
      generalize hb : p y = b at *
      have HB := Lib.hid hb
      have r0 := numC_cell hR
      clear hy hno hb hR
      unfold intV at HC
      
      cases b
      case false =>
        go_wp2_with (refine (HC.out _ HW.out).mono ?_; rintro e w5 ⟨rfl, hb5⟩)
        go_ret
        exact ⟨by rw [HN.out (fun h => Bool.noConfusion h)]; rfl, k_then hb5 HW.out⟩
      case true =>
        go_wp2_with (refine (HC.out _ HW.out).mono ?_; rintro e w5 ⟨rfl, hb5⟩)
        go_roundw
        case rel =>
          refine ⟨k + 1, by omega, by go_num, k_then hb5 HW.out, fun j hj => ?_⟩
          rcases Nat.lt_or_ge j k with h | h
          · exact HA.out j h
          · obtain rfl : j = k := by omega
            rw [← HY.out]; exact HB.out
        case measure => simp [intOf]; omega
    · have hz : z = true := by
        rcases HZ.out with ⟨h, _⟩ | ⟨_, h⟩
        · exact h
        · exact (h (fun j hj => HA.out j (by have := HL.out; omega))).elim
      subst hz
      go_wp2
      go_ret
      exact ⟨rfl, HW.out⟩


set_option maxRecDepth 100000 in
set_option maxHeartbeats 1000000 in
theorem allR_any (w : World) (s : Sl) (xs : List (Int × Int)) (h : RSrc rateC 2 w s xs) (kf : FuncId) (fst : Value) (p : Int × Int → Bool)
    (he : ∀ args W, (callFunc kf args).run Try.prog W = .ok (.enter kf args) W) (hp : ∀ W y, Below w.heap.size w W → Calls Try.prog kf #[fst, rateV y] W fun e W' => e = .returned (.bool (p y)) ∧ Below W.heap.size W W') :
    Calls Try.prog 95 #[s.v, .func (.func kf) #[fst] #[]] w fun e w' => e = .returned (.bool (xs.all p)) ∧ Below w.heap.size w w' := by
  have H := Lib.hid h
  have HP := Lib.hid hp
  have hl := h.len
  have hn := Nat.le_trans h.cap h.max
  have hz := bool_or (z := xs.all p) (C := ∀ j, j < xs.length → p (xs.getD j default) = true) (by
    rw [List.all_eq_true]
    exact ⟨fun h j hj => h _ (getD_mem hj), fun h => of_getD h⟩)
  generalize xs.all p = z at *
  have HZ := Lib.hid hz
  have HL := Lib.hid hl
  obtain ⟨A, n, c⟩ := s
  unfold Sl.v
  dsimp only at *
  clear h hp hz hl
  go_enter Try.func95, Try.ntmps95
  go_wp2
  go_loopw [9] (fun iv wr => ∃ k : Nat, k ≤ n ∧ iv = .int .i64 (k : Int) ∧ Below w.heap.size w wr ∧ ∀ j, j < k → p (xs.getD j default) = true) (fun iv _ => n - (intOf iv).toNat)
  case atStart => exact ⟨0, by omega, rfl, Below.refl _ _, fun j hj => absurd hj (Nat.not_lt_zero _)⟩
  case round =>
    obtain ⟨k, hk, rfl, hW, hall⟩ := hrel
    have HA := Lib.hid hall
    have HW := Lib.hid hW
    clear hW hall
    by_cases hlt : k < n
    · obtain ⟨g, o, hA, hR⟩ := (H.out.later HW.out).get (i := k) hlt
      dsimp only at hA
      subst hA
      obtain ⟨y, hy⟩ : ∃ y, y = xs.getD k default := ⟨_, rfl⟩
      rw [← hy] at hR
      have HY := Lib.hid hy
      have hno : ¬ p y = true → z = false := fun hc => by
        rcases HZ.out with ⟨_, h⟩ | ⟨h, _⟩
        · exact (hc (by rw [hy]; exact h k (by rw [HL.out]; exact hlt))).elim
        · exact h
      have HN := Lib.hid hno
      have f1 : (0 : Int) ≤ (k : Int) := by omega
      have f2 : (k : Int) < (n : Int) := by omega
      have HC := Lib.hid (fun W hW => HP.out W y hW)
      generalize hb : p y = b at *
      have HB := Lib.hid hb
      obtain ⟨r0, r1⟩ := rateC_cells hR
      clear hy hno hb hR
      unfold rateV rateC at HC
      obtain ⟨ya, yb⟩ := y
      cases b
      case false =>
        go_wp2_with (refine (HC.out _ (HW.out.alloc HW.out.size _)).mono ?_; rintro e w5 ⟨rfl, hb5⟩)
        go_ret
        exact ⟨by rw [HN.out (fun h => Bool.noConfusion h)]; rfl, k_then hb5 (HW.out.alloc HW.out.size _)⟩
      case true =>
        go_wp2_with (refine (HC.out _ (HW.out.alloc HW.out.size _)).mono ?_; rintro e w5 ⟨rfl, hb5⟩)
        go_roundw
        case rel =>
          refine ⟨k + 1, by omega, by go_num, k_then hb5 (HW.out.alloc HW.out.size _), fun j hj => ?_⟩
          rcases Nat.lt_or_ge j k with h | h
          · exact HA.out j h
          · obtain rfl : j = k := by omega
            rw [← HY.out]; exact HB.out
        case measure => simp [intOf]; omega
    · have hz : z = true := by
        rcases HZ.out with ⟨h, _⟩ | ⟨_, h⟩
        · exact h
        · exact (h (fun j hj => HA.out j (by have := HL.out; omega))).elim
      subst hz
      go_wp2
      go_ret
      exact ⟨rfl, HW.out⟩


set_option maxRecDepth 100000 in
set_option maxHeartbeats 1000000 in
theorem allH_any (w : World) (s : Sl) (xs : List (HpA)) (h : RSrc hapC 4 w s xs) (kf : FuncId) (fst : Value) (p : HpA → Bool)
    (he : ∀ args W, (callFunc kf args).run Try.prog W = .ok (.enter kf args) W) (hp : ∀ W y, Below w.heap.size w W → Calls Try.prog kf #[fst, hapV y] W fun e W' => e = .returned (.bool (p y)) ∧ Below W.heap.size W W') :
    Calls Try.prog 98 #[s.v, .func (.func kf) #[fst] #[]] w fun e w' => e = .returned (.bool (xs.all p)) ∧ Below w.heap.size w w' := by
  have H := Lib.hid h
  have HP := Lib.hid hp
  have hl := h.len
  have hn := Nat.le_trans h.cap h.max
  have hz := bool_or (z := xs.all p) (C := ∀ j, j < xs.length → p (xs.getD j default) = true) (by
    rw [List.all_eq_true]
    exact ⟨fun h j hj => h _ (getD_mem hj), fun h => of_getD h⟩)
  generalize xs.all p = z at *
  have HZ := Lib.hid hz
  have HL := Lib.hid hl
  obtain ⟨A, n, c⟩ := s
  unfold Sl.v
  dsimp only at *
  clear h hp hz hl
  go_enter Try.func98, Try.ntmps98
  go_wp2
  go_loopw [9] (fun iv wr => ∃ k : Nat, k ≤ n ∧ iv = .int .i64 (k : Int) ∧ Below w.heap.size w wr ∧ ∀ j, j < k → p (xs.getD j default) = true) (fun iv _ => n - (intOf iv).toNat)
  case atStart => exact ⟨0, by omega, rfl, Below.refl _ _, fun j hj => absurd hj (Nat.not_lt_zero _)⟩
  case round =>
    obtain ⟨k, hk, rfl, hW, hall⟩ := hrel
    have HA := Lib.hid hall
    have HW := Lib.hid hW
    clear hW hall
    by_cases hlt : k < n
    · obtain ⟨g, o, hA, hR⟩ := (H.out.later HW.out).get (i := k) hlt
      dsimp only at hA
      subst hA
      obtain ⟨y, hy⟩ : ∃ y, y = xs.getD k default := ⟨_, rfl⟩
      rw [← hy] at hR
      have HY := Lib.hid hy
      have hno : ¬ p y = true → z = false := fun hc => by
        rcases HZ.out with ⟨_, h⟩ | ⟨h, _⟩
        · exact (hc (by rw [hy]; exact h k (by rw [HL.out]; exact hlt))).elim
        · exact h
      have HN := Lib.hid hno
      have f1 : (0 : Int) ≤ (k : Int) := by omega
      have f2 : (k : Int) < (n : Int) := by omega
      have HC := Lib.hid (fun W hW => HP.out W y hW)
      generalize hb : p y = b at *
      have HB := Lib.hid hb
      obtain ⟨r0, r1, r2, r3⟩ := hapC_cells hR
      clear hy hno hb hR
      unfold hapV hapC at HC
      
      cases b
      case false =>
        go_wp2_with (refine (HC.out _ (HW.out.alloc HW.out.size _)).mono ?_; rintro e w5 ⟨rfl, hb5⟩)
        go_ret
        exact ⟨by rw [HN.out (fun h => Bool.noConfusion h)]; rfl, k_then hb5 (HW.out.alloc HW.out.size _)⟩
      case true =>
        go_wp2_with (refine (HC.out _ (HW.out.alloc HW.out.size _)).mono ?_; rintro e w5 ⟨rfl, hb5⟩)
        go_roundw
        case rel =>
          refine ⟨k + 1, by omega, by go_num, k_then hb5 (HW.out.alloc HW.out.size _), fun j hj => ?_⟩
          rcases Nat.lt_or_ge j k with h | h
          · exact HA.out j h
          · obtain rfl : j = k := by omega
            rw [← HY.out]; exact HB.out
        case measure => simp [intOf]; omega
    · have hz : z = true := by
        rcases HZ.out with ⟨h, _⟩ | ⟨_, h⟩
        · exact h
        · exact (h (fun j hj => HA.out j (by have := HL.out; omega))).elim
      subst hz
      go_wp2
      go_ret
      exact ⟨rfl, HW.out⟩


set_option maxRecDepth 100000 in
set_option maxHeartbeats 1000000 in
theorem allF_any (w : World) (s : Sl) (xs : List (Ft)) (h : RSrc ftC 5 w s xs) (kf : FuncId) (fst : Value) (p : Ft → Bool)
    (he : ∀ args W, (callFunc kf args).run Try.prog W = .ok (.enter kf args) W) (hp : ∀ W y, Below w.heap.size w W → Calls Try.prog kf #[fst, ftV y] W fun e W' => e = .returned (.bool (p y)) ∧ Below W.heap.size W W') :
    Calls Try.prog 100 #[s.v, .func (.func kf) #[fst] #[]] w fun e w' => e = .returned (.bool (xs.all p)) ∧ Below w.heap.size w w' := by
  have H := Lib.hid h
  have HP := Lib.hid hp
  have hl := h.len
  have hn := Nat.le_trans h.cap h.max
  have hz := bool_or (z := xs.all p) (C := ∀ j, j < xs.length → p (xs.getD j default) = true) (by
    rw [List.all_eq_true]
    exact ⟨fun h j hj => h _ (getD_mem hj), fun h => of_getD h⟩)
  generalize xs.all p = z at *
  have HZ := Lib.hid hz
  have HL := Lib.hid hl
  obtain ⟨A, n, c⟩ := s
  unfold Sl.v
  dsimp only at *
  clear h hp hz hl
  go_enter Try.func100, Try.ntmps100
  go_wp2
  go_loopw [9] (fun iv wr => ∃ k : Nat, k ≤ n ∧ iv = .int .i64 (k : Int) ∧ Below w.heap.size w wr ∧ ∀ j, j < k → p (xs.getD j default) = true) (fun iv _ => n - (intOf iv).toNat)
  case atStart => exact ⟨0, by omega, rfl, Below.refl _ _, fun j hj => absurd hj (Nat.not_lt_zero _)⟩
  case round =>
    obtain ⟨k, hk, rfl, hW, hall⟩ := hrel
    have HA := Lib.hid hall
    have HW := Lib.hid hW
    clear hW hall
    by_cases hlt : k < n
    · obtain ⟨g, o, hA, hR⟩ := (H.out.later HW.out).get (i := k) hlt
      dsimp only at hA
      subst hA
      obtain ⟨y, hy⟩ : ∃ y, y = xs.getD k default := ⟨_, rfl⟩
      rw [← hy] at hR
      have HY := Lib.hid hy
      have hno : ¬ p y = true → z = false := fun hc => by
        rcases HZ.out with ⟨_, h⟩ | ⟨h, _⟩
        · exact (hc (by rw [hy]; exact h k (by rw [HL.out]; exact hlt))).elim
        · exact h
      have HN := Lib.hid hno
      have f1 : (0 : Int) ≤ (k : Int) := by omega
      have f2 : (k : Int) < (n : Int) := by omega
      have HC := Lib.hid (fun W hW => HP.out W y hW)
      generalize hb : p y = b at *
      have HB := Lib.hid hb
      obtain ⟨r0, r1, r2, r3, r4⟩ := ftC_cells hR
      clear hy hno hb hR
      unfold ftV ftC at HC
      
      cases b
      case false =>
        go_wp2_with (refine (HC.out _ (HW.out.alloc HW.out.size _)).mono ?_; rintro e w5 ⟨rfl, hb5⟩)
        go_ret
        exact ⟨by rw [HN.out (fun h => Bool.noConfusion h)]; rfl, k_then hb5 (HW.out.alloc HW.out.size _)⟩
      case true =>
        go_wp2_with (refine (HC.out _ (HW.out.alloc HW.out.size _)).mono ?_; rintro e w5 ⟨rfl, hb5⟩)
        go_roundw
        case rel =>
          refine ⟨k + 1, by omega, by go_num, k_then hb5 (HW.out.alloc HW.out.size _), fun j hj => ?_⟩
          rcases Nat.lt_or_ge j k with h | h
          · exact HA.out j h
          · obtain rfl : j = k := by omega
            rw [← HY.out]; exact HB.out
        case measure => simp [intOf]; omega
    · have hz : z = true := by
        rcases HZ.out with ⟨h, _⟩ | ⟨_, h⟩
        · exact h
        · exact (h (fun j hj => HA.out j (by have := HL.out; omega))).elim
      subst hz
      go_wp2
      go_ret
      exact ⟨rfl, HW.out⟩
end Go.Proofs.Ytljcaigaofalbaa

namespace Go.Proofs.Ytljcaigaofalbaa
open Go.RowKit Go.Shelf

section
variable {W : World} {g : Nat} {x : Pl}
theorem sp_rate (h : SpAt W g x) : W.cell? ⟨g, 1, none⟩ = some (.int .i64 4) ∧ W.cell? ⟨g, 2, none⟩ = some (.int .i64 (65536 - drL x)) ∧ W.cell? ⟨g, 3, none⟩ = some (.int .i64 (65536 + drL x)) := ⟨h.cell 1, h.cell 2, h.cell 3⟩
theorem sp_on (h : SpAt W g x) : W.cell? ⟨g, 4, none⟩ = some (.int .i64 4) ∧ W.cell? ⟨g, 5, none⟩ = some (.int .i64 (-1)) ∧ W.cell? ⟨g, 6, none⟩ = some (.int .i64 (lateL x)) := ⟨h.cell 4, h.cell 5, h.cell 6⟩
theorem sp_delays (h : SpAt W g x) : W.cell? ⟨g, 7, none⟩ = some (.int .i64 2) ∧ W.cell? ⟨g, 8, none⟩ = some (.int .i64 (0)) ∧ W.cell? ⟨g, 9, none⟩ = some (.int .i64 (256)) := ⟨h.cell 7, h.cell 8, h.cell 9⟩
theorem sp_delay (h : SpAt W g x) : W.cell? ⟨g, 10, none⟩ = some (.int .i64 4) ∧ W.cell? ⟨g, 11, none⟩ = some (.int .i64 (0)) ∧ W.cell? ⟨g, 12, none⟩ = some (.int .i64 (x.dmax - x.dmin)) := ⟨h.cell 10, h.cell 11, h.cell 12⟩
theorem sp_kind (h : SpAt W g x) : W.cell? ⟨g, 13, none⟩ = some (.int .i64 1) ∧ W.cell? ⟨g, 14, none⟩ = some (.int .i64 (0)) ∧ W.cell? ⟨g, 15, none⟩ = some (.int .i64 (3)) := ⟨h.cell 13, h.cell 14, h.cell 15⟩
theorem sp_node (h : SpAt W g x) : W.cell? ⟨g, 16, none⟩ = some (.int .i64 1) ∧ W.cell? ⟨g, 17, none⟩ = some (.int .i64 (0)) ∧ W.cell? ⟨g, 18, none⟩ = some (.int .i64 (x.nodes - 1)) := ⟨h.cell 16, h.cell 17, h.cell 18⟩
theorem sp_time (h : SpAt W g x) : W.cell? ⟨g, 19, none⟩ = some (.int .i64 4) ∧ W.cell? ⟨g, 20, none⟩ = some (.int .i64 (0)) ∧ W.cell? ⟨g, 21, none⟩ = some (.int .i64 (x.horizon)) := ⟨h.cell 19, h.cell 20, h.cell 21⟩
theorem sp_payload (h : SpAt W g x) : W.cell? ⟨g, 22, none⟩ = some (.int .i64 1) ∧ W.cell? ⟨g, 23, none⟩ = some (.int .i64 (0)) ∧ W.cell? ⟨g, 24, none⟩ = some (.int .i64 (255)) := ⟨h.cell 22, h.cell 23, h.cell 24⟩
theorem sp_nth (h : SpAt W g x) : W.cell? ⟨g, 25, none⟩ = some (.int .i64 2) ∧ W.cell? ⟨g, 26, none⟩ = some (.int .i64 (0)) ∧ W.cell? ⟨g, 27, none⟩ = some (.int .i64 (65535)) := ⟨h.cell 25, h.cell 26, h.cell 27⟩
theorem sp_receiver (h : SpAt W g x) : W.cell? ⟨g, 28, none⟩ = some (.int .i64 1) ∧ W.cell? ⟨g, 29, none⟩ = some (.int .i64 (0)) ∧ W.cell? ⟨g, 30, none⟩ = some (.int .i64 (x.nodes)) := ⟨h.cell 28, h.cell 29, h.cell 30⟩
theorem sp_channels (h : SpAt W g x) : W.cell? ⟨g, 31, none⟩ = some (.int .i64 1) ∧ W.cell? ⟨g, 32, none⟩ = some (.int .i64 (1)) ∧ W.cell? ⟨g, 33, none⟩ = some (.int .i64 (3)) := ⟨h.cell 31, h.cell 32, h.cell 33⟩
theorem sp_cut (h : SpAt W g x) : W.cell? ⟨g, 34, none⟩ = some (.int .i64 1) ∧ W.cell? ⟨g, 35, none⟩ = some (.int .i64 (0)) ∧ W.cell? ⟨g, 36, none⟩ = some (.int .i64 (1)) := ⟨h.cell 34, h.cell 35, h.cell 36⟩
theorem sp_nodes (h : SpAt W g x) : W.cell? ⟨g, 0, none⟩ = some (.int .i64 x.nodes) := h.cell 0
theorem SpAt.later {W' : World} (h : SpAt W g x) (hb : Below W.heap.size W W') : SpAt W' g x := k_later hb h
end

set_option maxRecDepth 100000 in
set_option maxHeartbeats 1000000 in
theorem holdRate_any (x : Pl) (g : Nat) (w : World) (h : SpAt w g x) (y : Int × Int) : Calls Try.prog 96 #[.pointer (some ⟨g, 0, none⟩), rateV y] w fun e w' => e = .returned (.bool (okRate x y)) ∧ Below w.heap.size w w' := by
  obtain ⟨num, den⟩ := y
  have hq : okRate x (num, den) = (decide (den = 65536) && hasB (65536 - drL x) (65536 + drL x) num) := rfl
  rw [hq]
  have HC := Lib.hid (fun W => has_any 4 (65536 - drL x) (65536 + drL x) num W)
  generalize hasB (65536 - drL x) (65536 + drL x) num = b at *
  obtain ⟨W7, hW7⟩ : ∃ W7, W7 = w.alloc (.cells #[.int .i64 num, .int .i64 den] 52) := ⟨_, rfl⟩
  have hb7 : Below w.heap.size w W7 := by rw [hW7]; exact (Below.refl _ _).alloc (Nat.le_refl _) _
  have HB7 := Lib.hid hb7
  obtain ⟨s1, s2, s3⟩ := sp_rate (h.later hb7)
  have m0 : W7.cell? ⟨w.heap.size, 0, none⟩ = some (.int .i64 num) := by rw [hW7]; exact (Whole.new w _ _).cell 0
  have m1 : W7.cell? ⟨w.heap.size, 1, none⟩ = some (.int .i64 den) := by rw [hW7]; exact (Whole.new w _ _).cell 1
  have s1 := fun z : Later W7 => z.cell s1
  have s2 := fun z : Later W7 => z.cell s2
  have s3 := fun z : Later W7 => z.cell s3
  have m0 := fun z : Later W7 => z.cell m0
  have m1 := fun z : Later W7 => z.cell m1
  unfold rateV rateC
  dsimp only
  clear h hb7 hq
  by_cases h0 : den = 65536
  · have e0 : (den == 65536) = true := by simp [h0]
    have e1 : decide (den = 65536) = true := decide_eq_true h0
    clear h0
    rw [e1, Bool.true_and]
    go_enter Try.func96, Try.ntmps96
    go_wp2
    rw [← hW7]
    refine wp_region_later (by kernel_rfl) (by kernel_rfl) ?_
    repeat (go_big_quiet_step (first | (go_at_call 94; exact later_of _ HC.out)))
    apply wpQuiet_nil
    rintro _ ⟨z7, rfl⟩
    go_wp2
    go_ret
    exact ⟨rfl, k_then z7.below HB7.out⟩
  · have e0 : (den == 65536) = false := by simp [h0]
    have e1 : decide (den = 65536) = false := decide_eq_false h0
    clear h0
    rw [e1, Bool.false_and]
    go_enter Try.func96, Try.ntmps96
    go_wp2
    rw [← hW7]
    refine wp_region_later (by kernel_rfl) (by kernel_rfl) ?_
    repeat (go_big_quiet_step (fail))
    apply wpQuiet_nil
    rintro _ ⟨z7, rfl⟩
    go_wp2
    go_ret
    exact ⟨rfl, k_then z7.below HB7.out⟩

set_option maxRecDepth 100000 in
set_option maxHeartbeats 4000000 in
theorem holdFault_any (x : Pl) (g : Nat) (w : World) (h : SpAt w g x) (y : Ft) : Calls Try.prog 101 #[.pointer (some ⟨g, 0, none⟩), ftV y] w fun e w' => e = .returned (.bool (okFt x y)) ∧ Below w.heap.size w w' := by
  obtain ⟨s, n, r, c, cut⟩ := y
  have hq : okFt x ⟨s, n, r, c, cut⟩ = (hasB 0 (x.nodes - 1) s && (hasB 0 65535 n && (hasB 0 x.nodes r && hasB 1 3 c))) := by simp only [okFt, hasB, show decide (s < x.nodes) = decide (s ≤ x.nodes - 1) by congr 1; exact propext ⟨fun h => by omega, fun h => by omega⟩]
  rw [show okFt x ⟨s, n, r, c, cut⟩ = (hasB 0 (x.nodes - 1) s && (hasB 0 65535 n && (hasB 0 x.nodes r && hasB 1 3 c))) from hq]
  have hc0 := fun W => has_any 1 0 (x.nodes - 1) s W
  have hc1 := fun W => has_any 2 0 65535 n W
  have hc2 := fun W => has_any 1 0 x.nodes r W
  have hc3 := fun W => has_any 1 1 3 c W
  generalize hasB 0 (x.nodes - 1) s = b0 at *
  generalize hasB 0 65535 n = b1 at *
  generalize hasB 0 x.nodes r = b2 at *
  generalize hasB 1 3 c = b3 at *
  have HC0 := Lib.hid hc0
  have HC1 := Lib.hid hc1
  have HC2 := Lib.hid hc2
  have HC3 := Lib.hid hc3
  obtain ⟨W7, hW7⟩ : ∃ W7, W7 = w.alloc (.cells #[.int .i64 s, .int .i64 n, .int .i64 r, .int .i64 c, .bool cut] 54) := ⟨_, rfl⟩
  have hb7 : Below w.heap.size w W7 := by rw [hW7]; exact (Below.refl _ _).alloc (Nat.le_refl _) _
  have HB7 := Lib.hid hb7
  obtain ⟨node1, node2, node3⟩ := sp_node (h.later hb7)
  obtain ⟨nth1, nth2, nth3⟩ := sp_nth (h.later hb7)
  obtain ⟨receiver1, receiver2, receiver3⟩ := sp_receiver (h.later hb7)
  obtain ⟨channels1, channels2, channels3⟩ := sp_channels (h.later hb7)
  have m0 : W7.cell? ⟨w.heap.size, 0, none⟩ = some (.int .i64 s) := by rw [hW7]; exact (Whole.new w _ _).cell 0
  have m1 : W7.cell? ⟨w.heap.size, 1, none⟩ = some (.int .i64 n) := by rw [hW7]; exact (Whole.new w _ _).cell 1
  have m2 : W7.cell? ⟨w.heap.size, 2, none⟩ = some (.int .i64 r) := by rw [hW7]; exact (Whole.new w _ _).cell 2
  have m3 : W7.cell? ⟨w.heap.size, 3, none⟩ = some (.int .i64 c) := by rw [hW7]; exact (Whole.new w _ _).cell 3
  have m4 : W7.cell? ⟨w.heap.size, 4, none⟩ = some (.bool cut) := by rw [hW7]; exact (Whole.new w _ _).cell 4
  have node1 := fun z : Later W7 => z.cell node1
  have node2 := fun z : Later W7 => z.cell node2
  have node3 := fun z : Later W7 => z.cell node3
  have nth1 := fun z : Later W7 => z.cell nth1
  have nth2 := fun z : Later W7 => z.cell nth2
  have nth3 := fun z : Later W7 => z.cell nth3
  have receiver1 := fun z : Later W7 => z.cell receiver1
  have receiver2 := fun z : Later W7 => z.cell receiver2
  have receiver3 := fun z : Later W7 => z.cell receiver3
  have channels1 := fun z : Later W7 => z.cell channels1
  have channels2 := fun z : Later W7 => z.cell channels2
  have channels3 := fun z : Later W7 => z.cell channels3
  have m0 := fun z : Later W7 => z.cell m0
  have m1 := fun z : Later W7 => z.cell m1
  have m2 := fun z : Later W7 => z.cell m2
  have m3 := fun z : Later W7 => z.cell m3
  have m4 := fun z : Later W7 => z.cell m4
  unfold ftV ftC
  dsimp only
  clear h hb7 hq hc0 hc1 hc2 hc3
  by_cases h0 : b0 = true
  case neg =>
    rw [Bool.not_eq_true] at h0
    rw [h0] at HC0
    rw [h0]
    clear h0
    go_enter Try.func101, Try.ntmps101
    go_wp2
    rw [← hW7]
    refine wp_region_later (by kernel_rfl) (by kernel_rfl) ?_
    repeat (go_big_quiet_step (first | (go_at_call 94; with_reducible exact later_of _ HC0.out) | (go_at_call 94; with_reducible exact later_of _ HC1.out) | (go_at_call 94; with_reducible exact later_of _ HC2.out) | (go_at_call 94; with_reducible exact later_of _ HC3.out)))
    apply wpQuiet_nil
    rintro _ ⟨z7, rfl⟩
    go_wp2
    go_ret
    exact ⟨by simp, k_then z7.below HB7.out⟩
  rw [h0] at HC0
  rw [h0]
  clear h0
  by_cases h1 : b1 = true
  case neg =>
    rw [Bool.not_eq_true] at h1
    rw [h1] at HC1
    rw [h1]
    clear h1
    go_enter Try.func101, Try.ntmps101
    go_wp2
    rw [← hW7]
    refine wp_region_later (by kernel_rfl) (by kernel_rfl) ?_
    repeat (go_big_quiet_step (first | (go_at_call 94; with_reducible exact later_of _ HC0.out) | (go_at_call 94; with_reducible exact later_of _ HC1.out) | (go_at_call 94; with_reducible exact later_of _ HC2.out) | (go_at_call 94; with_reducible exact later_of _ HC3.out)))
    apply wpQuiet_nil
    rintro _ ⟨z7, rfl⟩
    go_wp2
    go_ret
    exact ⟨by simp, k_then z7.below HB7.out⟩
  rw [h1] at HC1
  rw [h1]
  clear h1
  by_cases h2 : b2 = true
  case neg =>
    rw [Bool.not_eq_true] at h2
    rw [h2] at HC2
    rw [h2]
    clear h2
    go_enter Try.func101, Try.ntmps101
    go_wp2
    rw [← hW7]
    refine wp_region_later (by kernel_rfl) (by kernel_rfl) ?_
    repeat (go_big_quiet_step (first | (go_at_call 94; with_reducible exact later_of _ HC0.out) | (go_at_call 94; with_reducible exact later_of _ HC1.out) | (go_at_call 94; with_reducible exact later_of _ HC2.out) | (go_at_call 94; with_reducible exact later_of _ HC3.out)))
    apply wpQuiet_nil
    rintro _ ⟨z7, rfl⟩
    go_wp2
    go_ret
    exact ⟨by simp, k_then z7.below HB7.out⟩
  rw [h2] at HC2
  rw [h2]
  clear h2
  go_enter Try.func101, Try.ntmps101
  go_wp2
  rw [← hW7]
  refine wp_region_later (by kernel_rfl) (by kernel_rfl) ?_
  repeat (go_big_quiet_step (first | (go_at_call 94; with_reducible exact later_of _ HC0.out) | (go_at_call 94; with_reducible exact later_of _ HC1.out) | (go_at_call 94; with_reducible exact later_of _ HC2.out) | (go_at_call 94; with_reducible exact later_of _ HC3.out)))
  apply wpQuiet_nil
  rintro _ ⟨z7, rfl⟩
  go_wp2
  go_ret
  exact ⟨by simp, k_then z7.below HB7.out⟩

set_option maxRecDepth 100000 in
set_option maxHeartbeats 4000000 in
theorem holdHap_any (x : Pl) (g : Nat) (w : World) (h : SpAt w g x) (y : HpA) : Calls Try.prog 99 #[.pointer (some ⟨g, 0, none⟩), hapV y] w fun e w' => e = .returned (.bool (okHap x y.hp)) ∧ Below w.heap.size w w' := by
  obtain ⟨k, n, t, A, c, pl⟩ := y
  have hq : okHap x ⟨k, n, t, pl⟩ = (decide (0 ≤ k) && (decide (k ≤ 2) && (hasB 0 (x.nodes - 1) n && (hasB 0 x.horizon t && (hasB 0 255 (pl.length : Int) && (decide (k = 2) || decide (pl.length = 0))))))) := by simp only [okHap, hasB, show decide (n < x.nodes) = decide (n ≤ x.nodes - 1) by congr 1; exact propext ⟨fun h => by omega, fun h => by omega⟩, show decide (pl.length ≤ 255) = (decide ((0 : Int) ≤ (pl.length : Int)) && decide ((pl.length : Int) ≤ 255)) by rw [decide_eq_true (show (0 : Int) ≤ (pl.length : Int) by omega), Bool.true_and]; congr 1; exact propext ⟨fun h => by omega, fun h => by omega⟩, Bool.and_assoc]
  rw [show okHap x (HpA.hp ⟨k, n, t, A, c, pl⟩) = (decide (0 ≤ k) && (decide (k ≤ 2) && (hasB 0 (x.nodes - 1) n && (hasB 0 x.horizon t && (hasB 0 255 (pl.length : Int) && (decide (k = 2) || decide (pl.length = 0))))))) from hq]
  have hc0 := fun W => has_any 1 0 (x.nodes - 1) n W
  have hc1 := fun W => has_any 4 0 x.horizon t W
  have hc2 := fun W => has_any 1 0 255 (pl.length : Int) W
  generalize hasB 0 (x.nodes - 1) n = b0 at *
  generalize hasB 0 x.horizon t = b1 at *
  generalize hasB 0 255 (pl.length : Int) = b2 at *
  have hl : ((pl.length : Int) == 0) = decide (pl.length = 0) := by rw [Bool.eq_iff_iff]; simp
  generalize decide (pl.length = 0) = d at *
  have HC0 := Lib.hid hc0
  have HC1 := Lib.hid hc1
  have HC2 := Lib.hid hc2
  obtain ⟨W7, hW7⟩ : ∃ W7, W7 = w.alloc (.cells #[.int .i64 k, .int .i64 n, .int .i64 t, .slice A pl.length c] 47) := ⟨_, rfl⟩
  have hb7 : Below w.heap.size w W7 := by rw [hW7]; exact (Below.refl _ _).alloc (Nat.le_refl _) _
  have HB7 := Lib.hid hb7
  obtain ⟨node1, node2, node3⟩ := sp_node (h.later hb7)
  obtain ⟨time1, time2, time3⟩ := sp_time (h.later hb7)
  obtain ⟨payload1, payload2, payload3⟩ := sp_payload (h.later hb7)
  have m0 : W7.cell? ⟨w.heap.size, 0, none⟩ = some (.int .i64 k) := by rw [hW7]; exact (Whole.new w _ _).cell 0
  have m1 : W7.cell? ⟨w.heap.size, 1, none⟩ = some (.int .i64 n) := by rw [hW7]; exact (Whole.new w _ _).cell 1
  have m2 : W7.cell? ⟨w.heap.size, 2, none⟩ = some (.int .i64 t) := by rw [hW7]; exact (Whole.new w _ _).cell 2
  have m3 : W7.cell? ⟨w.heap.size, 3, none⟩ = some (.slice A pl.length c) := by rw [hW7]; exact (Whole.new w _ _).cell 3
  have node1 := fun z : Later W7 => z.cell node1
  have node2 := fun z : Later W7 => z.cell node2
  have node3 := fun z : Later W7 => z.cell node3
  have time1 := fun z : Later W7 => z.cell time1
  have time2 := fun z : Later W7 => z.cell time2
  have time3 := fun z : Later W7 => z.cell time3
  have payload1 := fun z : Later W7 => z.cell payload1
  have payload2 := fun z : Later W7 => z.cell payload2
  have payload3 := fun z : Later W7 => z.cell payload3
  have m0 := fun z : Later W7 => z.cell m0
  have m1 := fun z : Later W7 => z.cell m1
  have m2 := fun z : Later W7 => z.cell m2
  have m3 := fun z : Later W7 => z.cell m3
  unfold hapV hapC
  dsimp only
  clear h hb7 hq hc0 hc1 hc2
  by_cases h0 : 0 ≤ k
  case neg =>
    have q0 := decide_eq_false h0
    simp only [q0]
    clear h0
    go_enter Try.func99, Try.ntmps99
    go_wp2
    rw [← hW7]
    refine wp_region_later (by kernel_rfl) (by kernel_rfl) ?_
    repeat (go_big_quiet_step (first | (go_at_call 94; with_reducible exact later_of _ HC0.out) | (go_at_call 94; with_reducible exact later_of _ HC1.out) | (go_at_call 94; with_reducible exact later_of _ HC2.out)))
    apply wpQuiet_nil
    rintro _ ⟨z7, rfl⟩
    go_wp2
    go_ret
    exact ⟨by simp, k_then z7.below HB7.out⟩
  have q0 := decide_eq_true h0
  simp only [q0]
  clear h0
  by_cases h1 : k ≤ 2
  case neg =>
    have q1 := decide_eq_false h1
    simp only [q1]
    clear h1
    go_enter Try.func99, Try.ntmps99
    go_wp2
    rw [← hW7]
    refine wp_region_later (by kernel_rfl) (by kernel_rfl) ?_
    repeat (go_big_quiet_step (first | (go_at_call 94; with_reducible exact later_of _ HC0.out) | (go_at_call 94; with_reducible exact later_of _ HC1.out) | (go_at_call 94; with_reducible exact later_of _ HC2.out)))
    apply wpQuiet_nil
    rintro _ ⟨z7, rfl⟩
    go_wp2
    go_ret
    exact ⟨by simp, k_then z7.below HB7.out⟩
  have q1 := decide_eq_true h1
  simp only [q1]
  clear h1
  by_cases h2 : b0 = true
  case neg =>
    rw [Bool.not_eq_true] at h2
    rw [h2] at HC0
    rw [h2]
    clear h2
    go_enter Try.func99, Try.ntmps99
    go_wp2
    rw [← hW7]
    refine wp_region_later (by kernel_rfl) (by kernel_rfl) ?_
    repeat (go_big_quiet_step (first | (go_at_call 94; with_reducible exact later_of _ HC0.out) | (go_at_call 94; with_reducible exact later_of _ HC1.out) | (go_at_call 94; with_reducible exact later_of _ HC2.out)))
    apply wpQuiet_nil
    rintro _ ⟨z7, rfl⟩
    go_wp2
    go_ret
    exact ⟨by simp, k_then z7.below HB7.out⟩
  rw [h2] at HC0
  rw [h2]
  clear h2
  by_cases h3 : b1 = true
  case neg =>
    rw [Bool.not_eq_true] at h3
    rw [h3] at HC1
    rw [h3]
    clear h3
    go_enter Try.func99, Try.ntmps99
    go_wp2
    rw [← hW7]
    refine wp_region_later (by kernel_rfl) (by kernel_rfl) ?_
    repeat (go_big_quiet_step (first | (go_at_call 94; with_reducible exact later_of _ HC0.out) | (go_at_call 94; with_reducible exact later_of _ HC1.out) | (go_at_call 94; with_reducible exact later_of _ HC2.out)))
    apply wpQuiet_nil
    rintro _ ⟨z7, rfl⟩
    go_wp2
    go_ret
    exact ⟨by simp, k_then z7.below HB7.out⟩
  rw [h3] at HC1
  rw [h3]
  clear h3
  by_cases h4 : b2 = true
  case neg =>
    rw [Bool.not_eq_true] at h4
    rw [h4] at HC2
    rw [h4]
    clear h4
    go_enter Try.func99, Try.ntmps99
    go_wp2
    rw [← hW7]
    refine wp_region_later (by kernel_rfl) (by kernel_rfl) ?_
    repeat (go_big_quiet_step (first | (go_at_call 94; with_reducible exact later_of _ HC0.out) | (go_at_call 94; with_reducible exact later_of _ HC1.out) | (go_at_call 94; with_reducible exact later_of _ HC2.out)))
    apply wpQuiet_nil
    rintro _ ⟨z7, rfl⟩
    go_wp2
    go_ret
    exact ⟨by simp, k_then z7.below HB7.out⟩
  rw [h4] at HC2
  rw [h4]
  clear h4
  by_cases h5 : k = 2
  case neg =>
    have e5 : (k == 2) = false := by simp [h5]
    have q5 := decide_eq_false h5
    simp only [q5]
    clear h5
    go_enter Try.func99, Try.ntmps99
    go_wp2
    rw [← hW7]
    refine wp_region_later (by kernel_rfl) (by kernel_rfl) ?_
    repeat (go_big_quiet_step (first | (go_at_call 94; with_reducible exact later_of _ HC0.out) | (go_at_call 94; with_reducible exact later_of _ HC1.out) | (go_at_call 94; with_reducible exact later_of _ HC2.out)))
    apply wpQuiet_nil
    rintro _ ⟨z7, rfl⟩
    go_wp2
    go_ret
    exact ⟨by simp, k_then z7.below HB7.out⟩
  have e5 : (k == 2) = true := by simp [h5]
  have q5 := decide_eq_true h5
  simp only [q5]
  clear h5
  go_enter Try.func99, Try.ntmps99
  go_wp2
  rw [← hW7]
  refine wp_region_later (by kernel_rfl) (by kernel_rfl) ?_
  repeat (go_big_quiet_step (first | (go_at_call 94; with_reducible exact later_of _ HC0.out) | (go_at_call 94; with_reducible exact later_of _ HC1.out) | (go_at_call 94; with_reducible exact later_of _ HC2.out)))
  apply wpQuiet_nil
  rintro _ ⟨z7, rfl⟩
  go_wp2
  go_ret
  exact ⟨by simp, k_then z7.below HB7.out⟩
end Go.Proofs.Ytljcaigaofalbaa
