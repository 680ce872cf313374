/- The document's Fails and the words it stands on, by contracts. No condition. -/
import Derived.Test.YtdeiohcciafffaaGreatDoorLCode
namespace Go.Proofs.YtdeiohcciafffaaGreatDoor
open Go.RowKit Go.Shelf

/-- The number of the first condition that does not hold, written out. -/
def firstI (x : Pl) : Int := if (4 ≤ x.nodes ∧ x.nodes ≤ 16) ∧ (0 ≤ x.kk ∧ 2 * x.kk + 2 ≤ x.nodes) then (if (1 ≤ x.air ∧ x.air ≤ 1048576) ∧ 0 ≤ x.dmin ∧ (x.dmin ≤ x.dmax ∧ x.dmax ≤ 1048576) then (if (1 ≤ x.slot ∧ x.slot ≤ 1048576) ∧ (4 ≤ x.rho ∧ x.rho ≤ 1048576) then (0) else 3) else 2) else 1
def failsI (x : Pl) : Int := if (4 ≤ x.nodes ∧ x.nodes ≤ 16) ∧ (0 ≤ x.kk ∧ 2 * x.kk + 2 ≤ x.nodes) then (if (1 ≤ x.air ∧ x.air ≤ 1048576) ∧ 0 ≤ x.dmin ∧ (x.dmin ≤ x.dmax ∧ x.dmax ≤ 1048576) then (if (1 ≤ x.slot ∧ x.slot ≤ 1048576) ∧ (4 ≤ x.rho ∧ x.rho ≤ 1048576) then (if 2 * (aL x + gL x) + eL x ≤ x.pi ∧ x.pi ≤ 1048576 then (if x.pi + eL x ≤ x.window ∧ x.window ≤ 1048576 then (if aL x + 2 * gL x + 2 * eL x ≤ x.cap ∧ x.cap ≤ 1048576 then (if x.window + x.cap + x.pi ≤ x.sendOff ∧ x.sendOff ≤ 1048576 then (if x.sendOff + x.window + 2 * (x.dmax + x.air) + x.cap + x.pi + 8 ≤ x.slot then (if ((1 ≤ x.queue ∧ x.queue ≤ 64) ∧ (1 ≤ x.burst ∧ x.burst ≤ 8)) ∧ (1 ≤ x.payload ∧ x.payload ≤ 32) then (if (frL x + 3) * rdL x + 2 * x.pi ≤ x.delta ∧ x.delta ≤ 64 * rdL x then (if 40 * rdL x ≤ x.horizon ∧ x.horizon ≤ 2147483648 then (0) else 11) else 10) else 9) else 8) else 7) else 6) else 5) else 4) else 3) else 2) else 1
theorem first_eq (x : Pl) : (failsL x 3 : Int) = firstI x := by
  have h := failsL_first x (last := 3) (by omega)
  generalize failsL x 3 = r at *
  unfold firstI
  rcases h with ⟨rfl, h⟩ | ⟨h1, h2, h3, h4⟩
  · exact ((if_pos (h 1 (by omega) (by omega))).trans ((if_pos (h 2 (by omega) (by omega))).trans (if_pos (h 3 (by omega) (by omega))))).symm
  · have : r = 1 ∨ r = 2 ∨ r = 3 := by omega
    rcases this with rfl | rfl | rfl
    · exact (if_neg h3).symm
    · exact ((if_pos (h4 1 (by omega) (by omega))).trans (if_neg h3)).symm
    · exact ((if_pos (h4 1 (by omega) (by omega))).trans ((if_pos (h4 2 (by omega) (by omega))).trans (if_neg h3))).symm
theorem fails_eq (x : Pl) : (failsL x 11 : Int) = failsI x := by
  have h := failsL_first x (last := 11) (by omega)
  generalize failsL x 11 = r at *
  unfold failsI
  rcases h with ⟨rfl, h⟩ | ⟨h1, h2, h3, h4⟩
  · exact ((if_pos (h 1 (by omega) (by omega))).trans ((if_pos (h 2 (by omega) (by omega))).trans ((if_pos (h 3 (by omega) (by omega))).trans ((if_pos (h 4 (by omega) (by omega))).trans ((if_pos (h 5 (by omega) (by omega))).trans ((if_pos (h 6 (by omega) (by omega))).trans ((if_pos (h 7 (by omega) (by omega))).trans ((if_pos (h 8 (by omega) (by omega))).trans ((if_pos (h 9 (by omega) (by omega))).trans ((if_pos (h 10 (by omega) (by omega))).trans (if_pos (h 11 (by omega) (by omega))))))))))))).symm
  · have : r = 1 ∨ r = 2 ∨ r = 3 ∨ r = 4 ∨ r = 5 ∨ r = 6 ∨ r = 7 ∨ r = 8 ∨ r = 9 ∨ r = 10 ∨ r = 11 := by omega
    rcases this with rfl | rfl | rfl | rfl | rfl | rfl | rfl | rfl | rfl | rfl | rfl
    · exact (if_neg h3).symm
    · exact ((if_pos (h4 1 (by omega) (by omega))).trans (if_neg h3)).symm
    · exact ((if_pos (h4 1 (by omega) (by omega))).trans ((if_pos (h4 2 (by omega) (by omega))).trans (if_neg h3))).symm
    · exact ((if_pos (h4 1 (by omega) (by omega))).trans ((if_pos (h4 2 (by omega) (by omega))).trans ((if_pos (h4 3 (by omega) (by omega))).trans (if_neg h3)))).symm
    · exact ((if_pos (h4 1 (by omega) (by omega))).trans ((if_pos (h4 2 (by omega) (by omega))).trans ((if_pos (h4 3 (by omega) (by omega))).trans ((if_pos (h4 4 (by omega) (by omega))).trans (if_neg h3))))).symm
    · exact ((if_pos (h4 1 (by omega) (by omega))).trans ((if_pos (h4 2 (by omega) (by omega))).trans ((if_pos (h4 3 (by omega) (by omega))).trans ((if_pos (h4 4 (by omega) (by omega))).trans ((if_pos (h4 5 (by omega) (by omega))).trans (if_neg h3)))))).symm
    · exact ((if_pos (h4 1 (by omega) (by omega))).trans ((if_pos (h4 2 (by omega) (by omega))).trans ((if_pos (h4 3 (by omega) (by omega))).trans ((if_pos (h4 4 (by omega) (by omega))).trans ((if_pos (h4 5 (by omega) (by omega))).trans ((if_pos (h4 6 (by omega) (by omega))).trans (if_neg h3))))))).symm
    · exact ((if_pos (h4 1 (by omega) (by omega))).trans ((if_pos (h4 2 (by omega) (by omega))).trans ((if_pos (h4 3 (by omega) (by omega))).trans ((if_pos (h4 4 (by omega) (by omega))).trans ((if_pos (h4 5 (by omega) (by omega))).trans ((if_pos (h4 6 (by omega) (by omega))).trans ((if_pos (h4 7 (by omega) (by omega))).trans (if_neg h3)))))))).symm
    · exact ((if_pos (h4 1 (by omega) (by omega))).trans ((if_pos (h4 2 (by omega) (by omega))).trans ((if_pos (h4 3 (by omega) (by omega))).trans ((if_pos (h4 4 (by omega) (by omega))).trans ((if_pos (h4 5 (by omega) (by omega))).trans ((if_pos (h4 6 (by omega) (by omega))).trans ((if_pos (h4 7 (by omega) (by omega))).trans ((if_pos (h4 8 (by omega) (by omega))).trans (if_neg h3))))))))).symm
    · exact ((if_pos (h4 1 (by omega) (by omega))).trans ((if_pos (h4 2 (by omega) (by omega))).trans ((if_pos (h4 3 (by omega) (by omega))).trans ((if_pos (h4 4 (by omega) (by omega))).trans ((if_pos (h4 5 (by omega) (by omega))).trans ((if_pos (h4 6 (by omega) (by omega))).trans ((if_pos (h4 7 (by omega) (by omega))).trans ((if_pos (h4 8 (by omega) (by omega))).trans ((if_pos (h4 9 (by omega) (by omega))).trans (if_neg h3)))))))))).symm
    · exact ((if_pos (h4 1 (by omega) (by omega))).trans ((if_pos (h4 2 (by omega) (by omega))).trans ((if_pos (h4 3 (by omega) (by omega))).trans ((if_pos (h4 4 (by omega) (by omega))).trans ((if_pos (h4 5 (by omega) (by omega))).trans ((if_pos (h4 6 (by omega) (by omega))).trans ((if_pos (h4 7 (by omega) (by omega))).trans ((if_pos (h4 8 (by omega) (by omega))).trans ((if_pos (h4 9 (by omega) (by omega))).trans ((if_pos (h4 10 (by omega) (by omega))).trans (if_neg h3))))))))))).symm

/-- A plan's cells, one by one. -/
theorem Pl.at (x : Pl) : (x.cells[0]? = some (.int .i64 x.nodes) ∧ x.cells[1]? = some (.int .i64 x.kk) ∧ x.cells[2]? = some (.int .i64 x.slot) ∧ x.cells[3]? = some (.int .i64 x.sendOff)) ∧
    (x.cells[4]? = some (.int .i64 x.window) ∧ x.cells[5]? = some (.int .i64 x.air) ∧ x.cells[6]? = some (.int .i64 x.dmin) ∧ x.cells[7]? = some (.int .i64 x.dmax)) ∧
    (x.cells[8]? = some (.int .i64 x.rho) ∧ x.cells[9]? = some (.int .i64 x.pi) ∧ x.cells[10]? = some (.int .i64 x.cap) ∧ x.cells[11]? = some (.int .i64 x.delta)) ∧
    (x.cells[12]? = some (.int .i64 x.queue) ∧ x.cells[13]? = some (.int .i64 x.burst) ∧ x.cells[14]? = some (.int .i64 x.payload) ∧ x.cells[15]? = some (.int .i64 x.horizon)) :=
  ⟨⟨rfl, rfl, rfl, rfl⟩, ⟨rfl, rfl, rfl, rfl⟩, ⟨rfl, rfl, rfl, rfl⟩, ⟨rfl, rfl, rfl, rfl⟩⟩

end Go.Proofs.YtdeiohcciafffaaGreatDoor
