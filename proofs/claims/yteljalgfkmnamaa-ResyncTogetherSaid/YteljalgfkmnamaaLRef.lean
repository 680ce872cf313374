/- The document's Fails and the words it stands on, by contracts. No condition. -/
import Derived.Test.YteljalgfkmnamaaLCode
namespace Go.Proofs.Yteljalgfkmnamaa
open Go.RowKit Go.Shelf

/-- The number of the first condition that does not hold, written out. -/
def firstI (x : Pl) : Int := if (4 ≤ x.nodes ∧ x.nodes ≤ 16) ∧ (0 ≤ x.kk ∧ 2 * x.kk + 2 ≤ x.nodes) then (if (1 ≤ x.air ∧ x.air ≤ 1048576) ∧ 0 ≤ x.dmin ∧ (x.dmin ≤ x.dmax ∧ x.dmax ≤ 1048576) then (if (1 ≤ x.slot ∧ x.slot ≤ 1048576) ∧ (4 ≤ x.rho ∧ x.rho ≤ 1048576) then (0) else 3) else 2) else 1
def failsI (x : Pl) : Int := if (4 ≤ x.nodes ∧ x.nodes ≤ 16) ∧ (0 ≤ x.kk ∧ 2 * x.kk + 2 ≤ x.nodes) then (if (1 ≤ x.air ∧ x.air ≤ 1048576) ∧ 0 ≤ x.dmin ∧ (x.dmin ≤ x.dmax ∧ x.dmax ≤ 1048576) then (if (1 ≤ x.slot ∧ x.slot ≤ 1048576) ∧ (4 ≤ x.rho ∧ x.rho ≤ 1048576) then (if 2 * (aL x + gL x) + eL x ≤ x.pi ∧ x.pi ≤ 1048576 then (if x.pi + eL x ≤ x.window ∧ x.window ≤ 1048576 then (if aL x + 2 * gL x + 2 * eL x ≤ x.cap ∧ x.cap ≤ 1048576 then (if x.window + x.cap + x.pi ≤ x.sendOff ∧ x.sendOff ≤ 1048576 then (if x.sendOff + x.window + 2 * (x.dmax + x.air) + x.cap + x.pi + 8 ≤ x.slot then (if ((1 ≤ x.queue ∧ x.queue ≤ 64) ∧ (1 ≤ x.burst ∧ x.burst ≤ 8)) ∧ (1 ≤ x.payload ∧ x.payload ≤ 32) then (if (frL x + 3) * rdL x + 2 * x.pi ≤ x.delta ∧ x.delta ≤ 64 * rdL x then (if 40 * rdL x ≤ x.horizon ∧ x.horizon ≤ 2147483648 then (0) else 11) else 10) else 9) else 8) else 7) else 6) else 5) else 4) else 3) else 2) else 1
theorem first_eq (x : Pl) : (failsL x 3 : Int) = firstI x := by
  have h := failsL_first x (last := 3) (by omega)
  generalize failsL x 3 = r at *
  unfold firstI
  rcases h with ⟨rfl, h⟩ | ⟨h1, h2, h3, h4⟩
  · exact ((if_pos (h 1 (by omega) (by omega))).trans ((if_pos (h 2 (by omega) (by omega))).trans (if_pos (h 3 (by omega) (by omega))))).symm
  · have : r = 1 ∨ r = 2 ∨ r = 3 := by omega
    rcases this with rfl | rfl | rfl
    · exact (if_neg h3).symm
    · exact ((if_pos (h4 1 (by omega) (by omega))).trans (if_neg h3)).symm
    · exact ((if_pos (h4 1 (by omega) (by omega))).trans ((if_pos (h4 2 (by omega) (by omega))).trans (if_neg h3))).symm
theorem fails_eq (x : Pl) : (failsL x 11 : Int) = failsI x := by
  have h := failsL_first x (last := 11) (by omega)
  generalize failsL x 11 = r at *
  unfold failsI
  rcases h with ⟨rfl, h⟩ | ⟨h1, h2, h3, h4⟩
  · exact ((if_pos (h 1 (by omega) (by omega))).trans ((if_pos (h 2 (by omega) (by omega))).trans ((if_pos (h 3 (by omega) (by omega))).trans ((if_pos (h 4 (by omega) (by omega))).trans ((if_pos (h 5 (by omega) (by omega))).trans ((if_pos (h 6 (by omega) (by omega))).trans ((if_pos (h 7 (by omega) (by omega))).trans ((if_pos (h 8 (by omega) (by omega))).trans ((if_pos (h 9 (by omega) (by omega))).trans ((if_pos (h 10 (by omega) (by omega))).trans (if_pos (h 11 (by omega) (by omega))))))))))))).symm
  · have : r = 1 ∨ r = 2 ∨ r = 3 ∨ r = 4 ∨ r = 5 ∨ r = 6 ∨ r = 7 ∨ r = 8 ∨ r = 9 ∨ r = 10 ∨ r = 11 := by omega
    rcases this with rfl | rfl | rfl | rfl | rfl | rfl | rfl | rfl | rfl | rfl | rfl
    · exact (if_neg h3).symm
    · exact ((if_pos (h4 1 (by omega) (by omega))).trans (if_neg h3)).symm
    · exact ((if_pos (h4 1 (by omega) (by omega))).trans ((if_pos (h4 2 (by omega) (by omega))).trans (if_neg h3))).symm
    · exact ((if_pos (h4 1 (by omega) (by omega))).trans ((if_pos (h4 2 (by omega) (by omega))).trans ((if_pos (h4 3 (by omega) (by omega))).trans (if_neg h3)))).symm
    · exact ((if_pos (h4 1 (by omega) (by omega))).trans ((if_pos (h4 2 (by omega) (by omega))).trans ((if_pos (h4 3 (by omega) (by omega))).trans ((if_pos (h4 4 (by omega) (by omega))).trans (if_neg h3))))).symm
    · exact ((if_pos (h4 1 (by omega) (by omega))).trans ((if_pos (h4 2 (by omega) (by omega))).trans ((if_pos (h4 3 (by omega) (by omega))).trans ((if_pos (h4 4 (by omega) (by omega))).trans ((if_pos (h4 5 (by omega) (by omega))).trans (if_neg h3)))))).symm
    · exact ((if_pos (h4 1 (by omega) (by omega))).trans ((if_pos (h4 2 (by omega) (by omega))).trans ((if_pos (h4 3 (by omega) (by omega))).trans ((if_pos (h4 4 (by omega) (by omega))).trans ((if_pos (h4 5 (by omega) (by omega))).trans ((if_pos (h4 6 (by omega) (by omega))).trans (if_neg h3))))))).symm
    · exact ((if_pos (h4 1 (by omega) (by omega))).trans ((if_pos (h4 2 (by omega) (by omega))).trans ((if_pos (h4 3 (by omega) (by omega))).trans ((if_pos (h4 4 (by omega) (by omega))).trans ((if_pos (h4 5 (by omega) (by omega))).trans ((if_pos (h4 6 (by omega) (by omega))).trans ((if_pos (h4 7 (by omega) (by omega))).trans (if_neg h3)))))))).symm
    · exact ((if_pos (h4 1 (by omega) (by omega))).trans ((if_pos (h4 2 (by omega) (by omega))).trans ((if_pos (h4 3 (by omega) (by omega))).trans ((if_pos (h4 4 (by omega) (by omega))).trans ((if_pos (h4 5 (by omega) (by omega))).trans ((if_pos (h4 6 (by omega) (by omega))).trans ((if_pos (h4 7 (by omega) (by omega))).trans ((if_pos (h4 8 (by omega) (by omega))).trans (if_neg h3))))))))).symm
    · exact ((if_pos (h4 1 (by omega) (by omega))).trans ((if_pos (h4 2 (by omega) (by omega))).trans ((if_pos (h4 3 (by omega) (by omega))).trans ((if_pos (h4 4 (by omega) (by omega))).trans ((if_pos (h4 5 (by omega) (by omega))).trans ((if_pos (h4 6 (by omega) (by omega))).trans ((if_pos (h4 7 (by omega) (by omega))).trans ((if_pos (h4 8 (by omega) (by omega))).trans ((if_pos (h4 9 (by omega) (by omega))).trans (if_neg h3)))))))))).symm
    · exact ((if_pos (h4 1 (by omega) (by omega))).trans ((if_pos (h4 2 (by omega) (by omega))).trans ((if_pos (h4 3 (by omega) (by omega))).trans ((if_pos (h4 4 (by omega) (by omega))).trans ((if_pos (h4 5 (by omega) (by omega))).trans ((if_pos (h4 6 (by omega) (by omega))).trans ((if_pos (h4 7 (by omega) (by omega))).trans ((if_pos (h4 8 (by omega) (by omega))).trans ((if_pos (h4 9 (by omega) (by omega))).trans ((if_pos (h4 10 (by omega) (by omega))).trans (if_neg h3))))))))))).symm

/-- A plan's cells, one by one. -/
theorem Pl.at (x : Pl) : (x.cells[0]? = some (.int .i64 x.nodes) ∧ x.cells[1]? = some (.int .i64 x.kk) ∧ x.cells[2]? = some (.int .i64 x.slot) ∧ x.cells[3]? = some (.int .i64 x.sendOff)) ∧
    (x.cells[4]? = some (.int .i64 x.window) ∧ x.cells[5]? = some (.int .i64 x.air) ∧ x.cells[6]? = some (.int .i64 x.dmin) ∧ x.cells[7]? = some (.int .i64 x.dmax)) ∧
    (x.cells[8]? = some (.int .i64 x.rho) ∧ x.cells[9]? = some (.int .i64 x.pi) ∧ x.cells[10]? = some (.int .i64 x.cap) ∧ x.cells[11]? = some (.int .i64 x.delta)) ∧
    (x.cells[12]? = some (.int .i64 x.queue) ∧ x.cells[13]? = some (.int .i64 x.burst) ∧ x.cells[14]? = some (.int .i64 x.payload) ∧ x.cells[15]? = some (.int .i64 x.horizon)) :=
  ⟨⟨rfl, rfl, rfl, rfl⟩, ⟨rfl, rfl, rfl, rfl⟩, ⟨rfl, rfl, rfl, rfl⟩, ⟨rfl, rfl, rfl, rfl⟩⟩

set_option maxHeartbeats 4000000 in
theorem first_any (x : Pl) (w : World) : Calls Try.prog 33 #[.agg x.cells] w fun e w' => e = .returned (.int .i64 (firstI x)) ∧ Below w.heap.size w w' := by
  have HB := Lib.hid ((Below.refl w.heap.size w).alloc (Nat.le_refl _) (.cells x.cells 23))
  obtain ⟨⟨z0, z1, z2, _⟩, ⟨_, z5, z6, z7⟩, ⟨z8, _⟩, _⟩ := x.at
  generalize x.cells = cs at *
  go_enter Try.func33, Try.ntmps33
  go_wp2
  all_goals
    refine bodyPost_ret (v := .int .i64 (firstI x)) (by simp [results, Try.results33, go_sem]; unfold firstI; omega) rfl ⟨rfl, HB.out⟩

set_option maxHeartbeats 4000000 in
theorem refNumbers_any {x : Pl} (T : TickL x) (w : World) : Calls Try.prog 34 #[.agg x.cells] w fun e w' => e = .returned (.tuple #[.int .i64 (eL x), .int .i64 (gL x), .int .i64 (aL x)]) ∧ Below w.heap.size w w' := by
  have HB := Lib.hid ((Below.refl w.heap.size w).alloc (Nat.le_refl _) (.cells x.cells 23))
  obtain ⟨⟨z0, _, z2, _⟩, ⟨_, _, z6, z7⟩, ⟨z8, _⟩, _⟩ := x.at
  obtain ⟨_, _, _, _, _, _, d1, d2, d3, _, _, r1, r2, m1, m2, q1, q2⟩ := T
  have e0 : (2 * rdL x).tdiv x.rho = 2 * rdL x / x.rho := Int.tdiv_eq_ediv_of_nonneg (by omega)
  have H1 := Lib.hid (show eL x = x.dmax - x.dmin + 6 from rfl)
  have H2 := Lib.hid (show gL x = 2 * (2 * rdL x / x.rho + 4) from rfl)
  have H3 := Lib.hid (show aL x = 2 * (x.dmax - x.dmin + 6 + 2 * (2 * rdL x / x.rho + 4)) from rfl)
  have hm : x.nodes * x.slot = rdL x := rfl
  generalize rdL x = m at *
  generalize hq : 2 * m / x.rho = q at *
  generalize x.cells = cs at *
  go_enter Try.func34, Try.ntmps34
  go_wp2
  refine bodyPost_ret (v := .tuple #[.int .i64 (eL x), .int .i64 (gL x), .int .i64 (aL x)]) (by rw [H1.out, H2.out, H3.out]; simp [results, Try.results34, go_sem]) rfl ⟨rfl, HB.out⟩

end Go.Proofs.Yteljalgfkmnamaa
