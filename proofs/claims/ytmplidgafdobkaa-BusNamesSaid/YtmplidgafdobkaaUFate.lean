/- A sending's fate at a node on a channel, by a contract. No condition. -/
import Derived.Test.YtmplidgafdobkaaUDue
namespace Go.Proofs.Ytmplidgafdobkaa
open Go.RowKit Go.Shelf

theorem info_fa : (Try.prog.info? 47).map (·.size) = some 3 := by kernel_rfl
/-- What fate answers. -/
def FateD (s : Sd) (n c : Int) (w : World) (e : Ending) (w' : World) : Prop := e = .returned (.tuple #[.agg #[.int .i64 (faS s n c).d, .bool (faS s n c).lost, .bool (faS s n c).cut], .bool (thereS s n c)]) ∧ Below w.heap.size w w'
section
variable {w : World} {gb o : Nat} {a : SdA}
set_option maxRecDepth 100000 in
set_option maxHeartbeats 4000000 in
theorem fate_no (y3 : w.cell? ⟨gb, o + 3, none⟩ = some a.f0.v) (y4 : w.cell? ⟨gb, o + 4, none⟩ = some a.f1.v) (h : SdAt w a) (n c : Int) (hno : inS a.s n c = false) :
    Calls Try.prog 37 #[.pointer (some ⟨gb, o, none⟩), .int .i64 n, .int .i64 c] w (FateD a.s n c w) := by
  have l0 := h.r0.len
  have l1 := h.r1.len
  have hA : faS a.s n c = ⟨0, false, false⟩ := by unfold faS; rw [hno]; rfl
  have hT : thereS a.s n c = false := by unfold thereS; rw [hno]; rfl
  unfold FateD
  rw [hA, hT]
  have hb : Below w.heap.size w (w.alloc (.cells #[.int .i64 0, .bool false, .bool false] 47)) := (Below.refl _ _).alloc (Nat.le_refl _) _
  have hw : Whole (w.alloc (.cells #[.int .i64 0, .bool false, .bool false] 47)) w.heap.size 47 #[.int .i64 0, .bool false, .bool false] := Whole.new _ _ _
  have HB := Lib.hid (And.intro hb hw)
  clear hb hw
  have hcase : c < 0 ∨ 2 ≤ c ∨ (0 ≤ c ∧ c < 2 ∧ n < 0) ∨ (c = 0 ∧ 0 ≤ n ∧ (a.f0.n : Int) ≤ n) ∨ (c = 1 ∧ 0 ≤ n ∧ (a.f1.n : Int) ≤ n) := by
    unfold inS Sd.ch at hno
    by_cases h1 : c < 0
    · exact .inl h1
    · by_cases h2 : 2 ≤ c
      · exact .inr (.inl h2)
      · by_cases h3 : n < 0
        · exact .inr (.inr (.inl ⟨by omega, by omega, h3⟩))
        · by_cases h4 : c = 0
          · rw [if_pos h4] at hno
            simp at hno
            exact .inr (.inr (.inr (.inl ⟨h4, by omega, by omega⟩)))
          · rw [if_neg h4] at hno
            simp at hno
            exact .inr (.inr (.inr (.inr ⟨by omega, by omega, by omega⟩)))
  clear hno hA hT l0 l1 h
  unfold Sl.v at y3 y4
  have bgb := World.block_lt_of_cell? _ _ y3
  rcases hcase with h1 | h1 | ⟨h1, h2, h3⟩ | ⟨rfl, h1, h2⟩ | ⟨rfl, h1, h2⟩
  · go_enter Try.func37, Try.ntmps37
    go_wp2
    exact bodyPost_ret (u_results1 rfl _ _ w.heap.size 47 _ (0, 0) _ rfl rfl HB.out.2 Try.underlying47 rfl info_fa) rfl ⟨rfl, HB.out.1⟩
  · go_enter Try.func37, Try.ntmps37
    go_wp2
    exact bodyPost_ret (u_results1 rfl _ _ w.heap.size 47 _ (0, 0) _ rfl rfl HB.out.2 Try.underlying47 rfl info_fa) rfl ⟨rfl, HB.out.1⟩
  · go_enter Try.func37, Try.ntmps37
    go_wp2
    exact bodyPost_ret (u_results1 rfl _ _ w.heap.size 47 _ (0, 0) _ rfl rfl HB.out.2 Try.underlying47 rfl info_fa) rfl ⟨rfl, HB.out.1⟩
  · go_enter Try.func37, Try.ntmps37
    go_wp2
    exact bodyPost_ret (u_results1 rfl _ _ w.heap.size 47 _ (0, 0) _ rfl rfl HB.out.2 Try.underlying47 rfl info_fa) rfl ⟨rfl, HB.out.1⟩
  · go_enter Try.func37, Try.ntmps37
    go_wp2
    exact bodyPost_ret (u_results1 rfl _ _ w.heap.size 47 _ (0, 0) _ rfl rfl HB.out.2 Try.underlying47 rfl info_fa) rfl ⟨rfl, HB.out.1⟩
set_option maxRecDepth 100000 in
set_option maxHeartbeats 4000000 in
theorem fate_0 (y : w.cell? ⟨gb, o + (3 + 0), none⟩ = some a.f0.v) (h : SdAt w a) (j : Nat) (hj : j < a.f0.n) :
    Calls Try.prog 37 #[.pointer (some ⟨gb, o, none⟩), .int .i64 (j : Int), .int .i64 0] w fun e w' => e = .returned (.tuple #[.agg #[.int .i64 (a.s.l0.getD j default).d, .bool (a.s.l0.getD j default).lost, .bool (a.s.l0.getD j default).cut], .bool (!(a.s.l0.getD j default).lost)]) ∧ Below w.heap.size w w' := by
  obtain ⟨g1, o1, hA0, hA2⟩ := h.r0.get (i := j) hj
  obtain ⟨x, hx⟩ : ∃ x, x = a.s.l0.getD j default := ⟨_, rfl⟩
  rw [← hx] at hA2 ⊢
  obtain ⟨a0, a1, a2⟩ := faC_cells hA2
  obtain ⟨d, lo, cu⟩ := x
  dsimp only at a0 a1 a2 ⊢
  unfold Sl.v at y
  rw [hA0] at y
  have e1 : (0 : Int) ≤ (j : Int) := by omega
  have e2 : (j : Int) < (a.f0.n : Int) := by omega
  have e3 : ¬ ((a.f0.n : Int) ≤ (j : Int)) := by omega
  have bg := World.block_lt_of_cell? _ _ a0
  have bgb := World.block_lt_of_cell? _ _ y
  have hm := Nat.le_trans h.r0.cap h.r0.max
  clear hx hA2 hA0
  have hb : Below w.heap.size w ((w.alloc (.cells #[.int .i64 0, .bool false, .bool false] 47)).alloc (.cells #[.int .i64 d, .bool lo, .bool cu] 47)) := ((Below.refl _ _).alloc (Nat.le_refl _) _).alloc (by simp) _
  obtain ⟨w2, hw2⟩ : ∃ w2, w2 = ((w.alloc (.cells #[.int .i64 0, .bool false, .bool false] 47)).alloc (.cells #[.int .i64 d, .bool lo, .bool cu] 47)) := ⟨_, rfl⟩
  have h6 : Whole w2 w.heap.size 47 #[.int .i64 0, .bool false, .bool false] := hw2 ▸ (Whole.new _ _ _).alloc _
  have h8 : Whole w2 (w.heap.size + 1) 47 #[.int .i64 d, .bool lo, .bool cu] := by
    have := Whole.new (w.alloc (.cells #[.int .i64 0, .bool false, .bool false] 47)) 47 #[.int .i64 d, .bool lo, .bool cu]
    rw [← hw2] at this
    simpa using this
  rw [← hw2] at hb
  have k0 := h8.cell 0
  have k1 := h8.cell 1
  have k2 := h8.cell 2
  have m0 := h6.cell 0
  have m1 := h6.cell 1
  have m2 := h6.cell 2
  have mf := h6.frozen
  simp at k0 k1 k2 m0 m1 m2
  have H := Lib.hid (And.intro hb h6)
  have HW := Lib.hid hw2
  clear hb h6 h8 hw2 h
  go_enter Try.func37, Try.ntmps37
  go_upto_region 4 with fail
  rw [← HW.out]
  clear y a0 a1 a2
  go_region
  all_goals (go_wp2; exact bodyPost_ret (u_results1 rfl _ _ w.heap.size 47 _ (0, 0) _ rfl rfl (((H.out.2.set 0 (.int .i64 d)).set 1 (.bool lo)).set 2 (.bool cu)) Try.underlying47 rfl info_fa) rfl ⟨rfl, (((H.out.1.setCell (p := ⟨w.heap.size, 0, none⟩) (Nat.le_refl _) _).setCell (p := ⟨w.heap.size, 1, none⟩) (Nat.le_refl _) _).setCell (p := ⟨w.heap.size, 2, none⟩) (Nat.le_refl _) _).drew⟩)
set_option maxRecDepth 100000 in
set_option maxHeartbeats 4000000 in
theorem fate_1 (y : w.cell? ⟨gb, o + (3 + 1), none⟩ = some a.f1.v) (h : SdAt w a) (j : Nat) (hj : j < a.f1.n) :
    Calls Try.prog 37 #[.pointer (some ⟨gb, o, none⟩), .int .i64 (j : Int), .int .i64 1] w fun e w' => e = .returned (.tuple #[.agg #[.int .i64 (a.s.l1.getD j default).d, .bool (a.s.l1.getD j default).lost, .bool (a.s.l1.getD j default).cut], .bool (!(a.s.l1.getD j default).lost)]) ∧ Below w.heap.size w w' := by
  obtain ⟨g1, o1, hA0, hA2⟩ := h.r1.get (i := j) hj
  obtain ⟨x, hx⟩ : ∃ x, x = a.s.l1.getD j default := ⟨_, rfl⟩
  rw [← hx] at hA2 ⊢
  obtain ⟨a0, a1, a2⟩ := faC_cells hA2
  obtain ⟨d, lo, cu⟩ := x
  dsimp only at a0 a1 a2 ⊢
  unfold Sl.v at y
  rw [hA0] at y
  have e1 : (0 : Int) ≤ (j : Int) := by omega
  have e2 : (j : Int) < (a.f1.n : Int) := by omega
  have e3 : ¬ ((a.f1.n : Int) ≤ (j : Int)) := by omega
  have bg := World.block_lt_of_cell? _ _ a0
  have bgb := World.block_lt_of_cell? _ _ y
  have hm := Nat.le_trans h.r1.cap h.r1.max
  clear hx hA2 hA0
  have hb : Below w.heap.size w ((w.alloc (.cells #[.int .i64 0, .bool false, .bool false] 47)).alloc (.cells #[.int .i64 d, .bool lo, .bool cu] 47)) := ((Below.refl _ _).alloc (Nat.le_refl _) _).alloc (by simp) _
  obtain ⟨w2, hw2⟩ : ∃ w2, w2 = ((w.alloc (.cells #[.int .i64 0, .bool false, .bool false] 47)).alloc (.cells #[.int .i64 d, .bool lo, .bool cu] 47)) := ⟨_, rfl⟩
  have h6 : Whole w2 w.heap.size 47 #[.int .i64 0, .bool false, .bool false] := hw2 ▸ (Whole.new _ _ _).alloc _
  have h8 : Whole w2 (w.heap.size + 1) 47 #[.int .i64 d, .bool lo, .bool cu] := by
    have := Whole.new (w.alloc (.cells #[.int .i64 0, .bool false, .bool false] 47)) 47 #[.int .i64 d, .bool lo, .bool cu]
    rw [← hw2] at this
    simpa using this
  rw [← hw2] at hb
  have k0 := h8.cell 0
  have k1 := h8.cell 1
  have k2 := h8.cell 2
  have m0 := h6.cell 0
  have m1 := h6.cell 1
  have m2 := h6.cell 2
  have mf := h6.frozen
  simp at k0 k1 k2 m0 m1 m2
  have H := Lib.hid (And.intro hb h6)
  have HW := Lib.hid hw2
  clear hb h6 h8 hw2 h
  go_enter Try.func37, Try.ntmps37
  go_upto_region 4 with fail
  rw [← HW.out]
  clear y a0 a1 a2
  go_region
  all_goals (go_wp2; exact bodyPost_ret (u_results1 rfl _ _ w.heap.size 47 _ (0, 0) _ rfl rfl (((H.out.2.set 0 (.int .i64 d)).set 1 (.bool lo)).set 2 (.bool cu)) Try.underlying47 rfl info_fa) rfl ⟨rfl, (((H.out.1.setCell (p := ⟨w.heap.size, 0, none⟩) (Nat.le_refl _) _).setCell (p := ⟨w.heap.size, 1, none⟩) (Nat.le_refl _) _).setCell (p := ⟨w.heap.size, 2, none⟩) (Nat.le_refl _) _).drew⟩)
theorem fate_any (y3 : w.cell? ⟨gb, o + 3, none⟩ = some a.f0.v) (y4 : w.cell? ⟨gb, o + 4, none⟩ = some a.f1.v) (h : SdAt w a) (n c : Int) :
    Calls Try.prog 37 #[.pointer (some ⟨gb, o, none⟩), .int .i64 n, .int .i64 c] w (FateD a.s n c w) := by
  cases hi : inS a.s n c
  · exact fate_no y3 y4 h n c hi
  · have l0 := h.r0.len
    have l1 := h.r1.len
    unfold FateD faS thereS
    unfold faS
    rw [hi, if_pos rfl, Bool.true_and]
    unfold inS Sd.ch at hi
    unfold Sd.ch
    by_cases h0 : c = 0
    · subst h0
      rw [if_pos rfl] at hi ⊢
      simp at hi
      obtain ⟨j, rfl⟩ := Int.eq_ofNat_of_zero_le (a := n) (by omega)
      rw [Int.toNat_natCast]
      exact fate_0 y3 h j (by omega)
    · rw [if_neg h0] at hi ⊢
      simp at hi
      obtain rfl : c = 1 := by omega
      obtain ⟨j, rfl⟩ := Int.eq_ofNat_of_zero_le (a := n) (by omega)
      rw [Int.toNat_natCast]
      exact fate_1 y4 h j (by omega)
end
end Go.Proofs.Ytmplidgafdobkaa
