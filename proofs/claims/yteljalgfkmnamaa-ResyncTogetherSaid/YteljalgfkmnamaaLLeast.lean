/- What each of the draft's numbers has to be at least: by contracts. -/
import Derived.Test.YteljalgfkmnamaaLNum
namespace Go.Proofs.Yteljalgfkmnamaa
open Go.RowKit Go.Shelf

theorem num_bounds {x : Pl} (T : TickL x) : 6 ≤ eL x ∧ eL x ≤ 1048582 ∧ 8 ≤ gL x ∧ gL x ≤ 16777224 ∧ 28 ≤ aL x ∧ aL x ≤ 35651612 := by
  obtain ⟨_, _, _, _, _, _, d1, d2, d3, _, _, r1, r2, m1, m2, q1, q2⟩ := T
  unfold aL gL eL
  omega
theorem frac_bounds {x : Pl} (h : holdL x 9) : 0 ≤ frL x ∧ frL x ≤ 71 ∧ (x.queue + x.burst - 1).tdiv x.burst = frL x := by
  obtain ⟨⟨⟨q1, q2⟩, b1, b2⟩, _⟩ := h
  refine ⟨Int.ediv_nonneg (by omega) (by omega), ?_, Int.tdiv_eq_ediv_of_nonneg (by omega)⟩
  have := Int.ediv_le_self (a := x.queue + x.burst - 1) x.burst (by omega)
  unfold frL
  omega
theorem del_bounds {x : Pl} (T : TickL x) (h : holdL x 9) : 0 ≤ (frL x + 3) * rdL x ∧ (frL x + 3) * rdL x ≤ 1241513984 := by
  obtain ⟨f1, f2, _⟩ := frac_bounds h
  have m1 := T.m1
  have m2 := T.m2
  have h2 : (frL x + 3) * rdL x ≤ 74 * 16777216 := Int.mul_le_mul (by omega) m2 m1 (by omega)
  exact ⟨Int.mul_nonneg (by omega) m1, by omega⟩

section
variable {x : Pl} {g : Nat} {t : TypeId} {w : World}

set_option maxHeartbeats 1000000 in
theorem leastPi_any (T : TickL x) (hW : Whole w g t x.cells) :
    Calls Try.prog 41 #[.pointer (some ⟨g, 0, none⟩)] w fun e w' => e = .returned (.int .i64 (lPi x)) ∧ ∃ n, w' = w.drewN n := by
  have HN := Lib.hid (numbers_any T hW)
  obtain ⟨e1, e2, g1, g2, i1, i2⟩ := num_bounds T
  have H := Lib.hid (show lPi x = 2 * (aL x + gL x) + eL x from rfl)
  generalize eL x = e at *
  generalize gL x = g' at *
  generalize aL x = a at *
  clear hW T
  go_enter Try.func41, Try.ntmps41
  go_wp2_with (go_at_call 62; refine HN.out.mono ?_; rintro e' w1 ⟨rfl, hn⟩)
  go_ret
  exact ⟨by rw [H.out]; rfl, hn⟩

set_option maxHeartbeats 1000000 in
theorem leastWin_any (T : TickL x) (p1 : 0 ≤ x.pi) (p2 : x.pi ≤ 1048576) (hW : Whole w g t x.cells) :
    Calls Try.prog 42 #[.pointer (some ⟨g, 0, none⟩)] w fun e w' => e = .returned (.int .i64 (lWin x)) ∧ ∃ n, w' = w.drewN n := by
  have HN := Lib.hid (numbers_any T hW)
  obtain ⟨e1, e2, g1, g2, i1, i2⟩ := num_bounds T
  obtain ⟨_, _, ⟨_, c9, _⟩, _⟩ := l_cells hW
  have HC := Lib.hid (fun n => (c9 : (w.drewN n).cell? ⟨g, 9, none⟩ = some (.int .i64 x.pi)))
  have H := Lib.hid (show lWin x = x.pi + eL x from rfl)
  generalize eL x = e at *
  generalize gL x = g' at *
  generalize aL x = a at *
  clear hW T
  go_enter Try.func42, Try.ntmps42
  go_wp2_with (go_at_call 62; refine HN.out.mono ?_; rintro e' w1 ⟨rfl, n, rfl⟩)
  go_ret
  exact ⟨by rw [H.out]; rfl, n, rfl⟩

set_option maxHeartbeats 1000000 in
theorem leastCap_any (T : TickL x) (hW : Whole w g t x.cells) :
    Calls Try.prog 43 #[.pointer (some ⟨g, 0, none⟩)] w fun e w' => e = .returned (.int .i64 (lCap x)) ∧ ∃ n, w' = w.drewN n := by
  have HN := Lib.hid (numbers_any T hW)
  obtain ⟨e1, e2, g1, g2, i1, i2⟩ := num_bounds T
  have H := Lib.hid (show lCap x = aL x + 2 * gL x + 2 * eL x from rfl)
  generalize eL x = e at *
  generalize gL x = g' at *
  generalize aL x = a at *
  clear hW T
  go_enter Try.func43, Try.ntmps43
  go_wp2_with (go_at_call 62; refine HN.out.mono ?_; rintro e' w1 ⟨rfl, hn⟩)
  go_ret
  exact ⟨by rw [H.out]; rfl, hn⟩

set_option maxHeartbeats 1000000 in
theorem leastSend_any (p1 : 0 ≤ x.pi) (p2 : x.pi ≤ 1048576) (w1 : 0 ≤ x.window) (w2 : x.window ≤ 1048576) (k1 : 0 ≤ x.cap) (k2 : x.cap ≤ 1048576) (hW : Whole w g t x.cells) :
    Calls Try.prog 44 #[.pointer (some ⟨g, 0, none⟩)] w fun e w' => e = .returned (.int .i64 (lSend x)) ∧ ∃ n, w' = w.drewN n := by
  obtain ⟨_, ⟨c4, _⟩, ⟨_, c9, c10, _⟩, _⟩ := l_cells hW
  have H := Lib.hid (show lSend x = x.window + x.cap + x.pi from rfl)
  clear hW
  go_enter Try.func44, Try.ntmps44
  go_wp2
  go_quiet (fail)
  go_wp2
  go_ret
  exact ⟨by rw [H.out]; rfl, _, rfl⟩

set_option maxHeartbeats 1000000 in
theorem leastSlot_any (T : TickL x) (p1 : 0 ≤ x.pi) (p2 : x.pi ≤ 1048576) (w1 : 0 ≤ x.window) (w2 : x.window ≤ 1048576) (k1 : 0 ≤ x.cap) (k2 : x.cap ≤ 1048576) (s1 : 0 ≤ x.sendOff) (s2 : x.sendOff ≤ 1048576) (hW : Whole w g t x.cells) :
    Calls Try.prog 45 #[.pointer (some ⟨g, 0, none⟩)] w fun e w' => e = .returned (.int .i64 (lSlot x)) ∧ ∃ n, w' = w.drewN n := by
  obtain ⟨⟨_, _, _, c3⟩, ⟨c4, c5, c6, c7⟩, ⟨_, c9, c10, _⟩, _⟩ := l_cells hW
  obtain ⟨_, _, _, _, a1, a2, d1, d2, d3, _⟩ := T
  have H := Lib.hid (show lSlot x = x.sendOff + x.window + 2 * (x.dmax + x.air) + x.cap + x.pi + 8 from rfl)
  clear hW
  go_enter Try.func45, Try.ntmps45
  go_wp2
  go_quiet (fail)
  go_wp2
  go_ret
  exact ⟨by rw [H.out]; rfl, _, rfl⟩

set_option maxHeartbeats 1000000 in
theorem leastDel_any (T : TickL x) (h9 : holdL x 9) (p1 : 0 ≤ x.pi) (p2 : x.pi ≤ 1048576) (hW : Whole w g t x.cells) :
    Calls Try.prog 46 #[.pointer (some ⟨g, 0, none⟩)] w fun e w' => e = .returned (.int .i64 (lDel x)) ∧ ∃ n, w' = w.drewN n := by
  have HR := Lib.hid (fun W (h : Whole W g t x.cells) => round_any T h)
  have HW := Lib.hid hW
  obtain ⟨_, _, ⟨_, c9, _, _⟩, ⟨c12, c13, _⟩, _⟩ := l_cells hW
  obtain ⟨f1, f2, f3⟩ := frac_bounds h9
  obtain ⟨m3, m4⟩ := del_bounds T h9
  have m1 := T.m1
  have m2 := T.m2
  obtain ⟨⟨⟨q1, q2⟩, b1, b2⟩, _⟩ := h9
  have H := Lib.hid (show lDel x = (frL x + 3) * rdL x + 2 * x.pi from rfl)
  generalize frL x = f at *
  generalize rdL x = m at *
  generalize hv : (f + 3) * m = v at *
  have HC := Lib.hid (fun n => (⟨c9, rfl⟩ : (w.drewN n).cell? ⟨g, 9, none⟩ = some (.int .i64 x.pi) ∧ (w.drewN n).heap = w.heap))
  clear hW T
  go_enter Try.func46, Try.ntmps46
  go_wp2
  go_quiet (fail)
  obtain ⟨k9, hh⟩ := HC.out nq
  have HH := Lib.hid hh
  clear c9 c12 c13 hh
  go_wp2
  generalize hu : w.drewN nq = W1 at *
  have HU := Lib.hid hu
  clear hu
  go_quiet ((go_at_call 63; refine Calls.quiet_of (HR.out _ ?_); unfold Whole; exact HH.out ▸ HW.out))
  go_wp2
  go_ret
  refine ⟨by rw [H.out]; rfl, ?_⟩
  rw [← HU.out]
  exact ⟨_, drew_add⟩

set_option maxHeartbeats 1000000 in
theorem leastHor_any (T : TickL x) (hW : Whole w g t x.cells) :
    Calls Try.prog 47 #[.pointer (some ⟨g, 0, none⟩)] w fun e w' => e = .returned (.int .i64 (lHor x)) ∧ ∃ n, w' = w.drewN n := by
  have HR := Lib.hid (round_any T hW)
  have m1 := T.m1
  have m2 := T.m2
  have H := Lib.hid (show lHor x = 40 * rdL x from rfl)
  generalize rdL x = m at *
  clear hW T
  go_enter Try.func47, Try.ntmps47
  go_wp2_with (go_at_call 63; refine HR.out.mono ?_; rintro e' w1 ⟨rfl, hn⟩)
  go_ret
  exact ⟨by rw [H.out]; rfl, hn⟩

end
end Go.Proofs.Yteljalgfkmnamaa
