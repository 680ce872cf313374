/- The functions by which a plan's numbers are got and set; the table, by a contract. No condition. -/
import Derived.Test.YtdeiohcciafffaaGreatDoorTDef
namespace Go.Proofs.YtdeiohcciafffaaGreatDoor
open Go.RowKit Go.Shelf

theorem get0 (x : Pl) (b : Nat) (w : World) (h : Whole w b 23 x.cells) : Calls Tryz.prog 42 #[.pointer (some ⟨b, 0, none⟩)] w fun e w' => e = .returned (.int .i64 (x.nth 0)) ∧ w' = w := by
  have hc : w.cell? ⟨b, 0, none⟩ = some (.int .i64 (x.nth 0)) := (h.cell 0).trans (nth_cell x (by decide))
  clear h
  generalize x.nth 0 = y at *
  go_enter Tryz.func42, Tryz.ntmps42
  go_wp2
  go_ret
  exact ⟨rfl, rfl⟩
theorem set0 (x : Pl) (v : Int) (b : Nat) (w : World) (h : Whole w b 23 x.cells) : Calls Tryz.prog 43 #[.pointer (some ⟨b, 0, none⟩), .int .i64 v] w fun e w' => e = .returned (.tuple #[]) ∧ w' = w.setCell ⟨b, 0, none⟩ (.int .i64 v) := by
  have hc : w.cell? ⟨b, 0, none⟩ = some (.int .i64 (x.nth 0)) := (h.cell 0).trans (nth_cell x (by decide))
  have hf : w.frozen? ⟨b, 0, none⟩ = false := h.frozen 0
  clear h
  generalize x.nth 0 = y at *
  go_enter Tryz.func43, Tryz.ntmps43
  go_wp2
  go_end0
  exact ⟨rfl, rfl⟩

theorem get1 (x : Pl) (b : Nat) (w : World) (h : Whole w b 23 x.cells) : Calls Tryz.prog 44 #[.pointer (some ⟨b, 0, none⟩)] w fun e w' => e = .returned (.int .i64 (x.nth 1)) ∧ w' = w := by
  have hc : w.cell? ⟨b, 1, none⟩ = some (.int .i64 (x.nth 1)) := (h.cell 1).trans (nth_cell x (by decide))
  clear h
  generalize x.nth 1 = y at *
  go_enter Tryz.func44, Tryz.ntmps44
  go_wp2
  go_ret
  exact ⟨rfl, rfl⟩
theorem set1 (x : Pl) (v : Int) (b : Nat) (w : World) (h : Whole w b 23 x.cells) : Calls Tryz.prog 45 #[.pointer (some ⟨b, 0, none⟩), .int .i64 v] w fun e w' => e = .returned (.tuple #[]) ∧ w' = w.setCell ⟨b, 1, none⟩ (.int .i64 v) := by
  have hc : w.cell? ⟨b, 1, none⟩ = some (.int .i64 (x.nth 1)) := (h.cell 1).trans (nth_cell x (by decide))
  have hf : w.frozen? ⟨b, 1, none⟩ = false := h.frozen 1
  clear h
  generalize x.nth 1 = y at *
  go_enter Tryz.func45, Tryz.ntmps45
  go_wp2
  go_end0
  exact ⟨rfl, rfl⟩

theorem get2 (x : Pl) (b : Nat) (w : World) (h : Whole w b 23 x.cells) : Calls Tryz.prog 46 #[.pointer (some ⟨b, 0, none⟩)] w fun e w' => e = .returned (.int .i64 (x.nth 2)) ∧ w' = w := by
  have hc : w.cell? ⟨b, 2, none⟩ = some (.int .i64 (x.nth 2)) := (h.cell 2).trans (nth_cell x (by decide))
  clear h
  generalize x.nth 2 = y at *
  go_enter Tryz.func46, Tryz.ntmps46
  go_wp2
  go_ret
  exact ⟨rfl, rfl⟩
theorem set2 (x : Pl) (v : Int) (b : Nat) (w : World) (h : Whole w b 23 x.cells) : Calls Tryz.prog 47 #[.pointer (some ⟨b, 0, none⟩), .int .i64 v] w fun e w' => e = .returned (.tuple #[]) ∧ w' = w.setCell ⟨b, 2, none⟩ (.int .i64 v) := by
  have hc : w.cell? ⟨b, 2, none⟩ = some (.int .i64 (x.nth 2)) := (h.cell 2).trans (nth_cell x (by decide))
  have hf : w.frozen? ⟨b, 2, none⟩ = false := h.frozen 2
  clear h
  generalize x.nth 2 = y at *
  go_enter Tryz.func47, Tryz.ntmps47
  go_wp2
  go_end0
  exact ⟨rfl, rfl⟩

theorem get3 (x : Pl) (b : Nat) (w : World) (h : Whole w b 23 x.cells) : Calls Tryz.prog 48 #[.pointer (some ⟨b, 0, none⟩)] w fun e w' => e = .returned (.int .i64 (x.nth 3)) ∧ w' = w := by
  have hc : w.cell? ⟨b, 3, none⟩ = some (.int .i64 (x.nth 3)) := (h.cell 3).trans (nth_cell x (by decide))
  clear h
  generalize x.nth 3 = y at *
  go_enter Tryz.func48, Tryz.ntmps48
  go_wp2
  go_ret
  exact ⟨rfl, rfl⟩
theorem set3 (x : Pl) (v : Int) (b : Nat) (w : World) (h : Whole w b 23 x.cells) : Calls Tryz.prog 49 #[.pointer (some ⟨b, 0, none⟩), .int .i64 v] w fun e w' => e = .returned (.tuple #[]) ∧ w' = w.setCell ⟨b, 3, none⟩ (.int .i64 v) := by
  have hc : w.cell? ⟨b, 3, none⟩ = some (.int .i64 (x.nth 3)) := (h.cell 3).trans (nth_cell x (by decide))
  have hf : w.frozen? ⟨b, 3, none⟩ = false := h.frozen 3
  clear h
  generalize x.nth 3 = y at *
  go_enter Tryz.func49, Tryz.ntmps49
  go_wp2
  go_end0
  exact ⟨rfl, rfl⟩

theorem get4 (x : Pl) (b : Nat) (w : World) (h : Whole w b 23 x.cells) : Calls Tryz.prog 50 #[.pointer (some ⟨b, 0, none⟩)] w fun e w' => e = .returned (.int .i64 (x.nth 4)) ∧ w' = w := by
  have hc : w.cell? ⟨b, 4, none⟩ = some (.int .i64 (x.nth 4)) := (h.cell 4).trans (nth_cell x (by decide))
  clear h
  generalize x.nth 4 = y at *
  go_enter Tryz.func50, Tryz.ntmps50
  go_wp2
  go_ret
  exact ⟨rfl, rfl⟩
theorem set4 (x : Pl) (v : Int) (b : Nat) (w : World) (h : Whole w b 23 x.cells) : Calls Tryz.prog 51 #[.pointer (some ⟨b, 0, none⟩), .int .i64 v] w fun e w' => e = .returned (.tuple #[]) ∧ w' = w.setCell ⟨b, 4, none⟩ (.int .i64 v) := by
  have hc : w.cell? ⟨b, 4, none⟩ = some (.int .i64 (x.nth 4)) := (h.cell 4).trans (nth_cell x (by decide))
  have hf : w.frozen? ⟨b, 4, none⟩ = false := h.frozen 4
  clear h
  generalize x.nth 4 = y at *
  go_enter Tryz.func51, Tryz.ntmps51
  go_wp2
  go_end0
  exact ⟨rfl, rfl⟩

theorem get5 (x : Pl) (b : Nat) (w : World) (h : Whole w b 23 x.cells) : Calls Tryz.prog 52 #[.pointer (some ⟨b, 0, none⟩)] w fun e w' => e = .returned (.int .i64 (x.nth 5)) ∧ w' = w := by
  have hc : w.cell? ⟨b, 5, none⟩ = some (.int .i64 (x.nth 5)) := (h.cell 5).trans (nth_cell x (by decide))
  clear h
  generalize x.nth 5 = y at *
  go_enter Tryz.func52, Tryz.ntmps52
  go_wp2
  go_ret
  exact ⟨rfl, rfl⟩
theorem set5 (x : Pl) (v : Int) (b : Nat) (w : World) (h : Whole w b 23 x.cells) : Calls Tryz.prog 53 #[.pointer (some ⟨b, 0, none⟩), .int .i64 v] w fun e w' => e = .returned (.tuple #[]) ∧ w' = w.setCell ⟨b, 5, none⟩ (.int .i64 v) := by
  have hc : w.cell? ⟨b, 5, none⟩ = some (.int .i64 (x.nth 5)) := (h.cell 5).trans (nth_cell x (by decide))
  have hf : w.frozen? ⟨b, 5, none⟩ = false := h.frozen 5
  clear h
  generalize x.nth 5 = y at *
  go_enter Tryz.func53, Tryz.ntmps53
  go_wp2
  go_end0
  exact ⟨rfl, rfl⟩

theorem get6 (x : Pl) (b : Nat) (w : World) (h : Whole w b 23 x.cells) : Calls Tryz.prog 54 #[.pointer (some ⟨b, 0, none⟩)] w fun e w' => e = .returned (.int .i64 (x.nth 6)) ∧ w' = w := by
  have hc : w.cell? ⟨b, 6, none⟩ = some (.int .i64 (x.nth 6)) := (h.cell 6).trans (nth_cell x (by decide))
  clear h
  generalize x.nth 6 = y at *
  go_enter Tryz.func54, Tryz.ntmps54
  go_wp2
  go_ret
  exact ⟨rfl, rfl⟩
theorem set6 (x : Pl) (v : Int) (b : Nat) (w : World) (h : Whole w b 23 x.cells) : Calls Tryz.prog 55 #[.pointer (some ⟨b, 0, none⟩), .int .i64 v] w fun e w' => e = .returned (.tuple #[]) ∧ w' = w.setCell ⟨b, 6, none⟩ (.int .i64 v) := by
  have hc : w.cell? ⟨b, 6, none⟩ = some (.int .i64 (x.nth 6)) := (h.cell 6).trans (nth_cell x (by decide))
  have hf : w.frozen? ⟨b, 6, none⟩ = false := h.frozen 6
  clear h
  generalize x.nth 6 = y at *
  go_enter Tryz.func55, Tryz.ntmps55
  go_wp2
  go_end0
  exact ⟨rfl, rfl⟩

theorem get7 (x : Pl) (b : Nat) (w : World) (h : Whole w b 23 x.cells) : Calls Tryz.prog 56 #[.pointer (some ⟨b, 0, none⟩)] w fun e w' => e = .returned (.int .i64 (x.nth 7)) ∧ w' = w := by
  have hc : w.cell? ⟨b, 7, none⟩ = some (.int .i64 (x.nth 7)) := (h.cell 7).trans (nth_cell x (by decide))
  clear h
  generalize x.nth 7 = y at *
  go_enter Tryz.func56, Tryz.ntmps56
  go_wp2
  go_ret
  exact ⟨rfl, rfl⟩
theorem set7 (x : Pl) (v : Int) (b : Nat) (w : World) (h : Whole w b 23 x.cells) : Calls Tryz.prog 57 #[.pointer (some ⟨b, 0, none⟩), .int .i64 v] w fun e w' => e = .returned (.tuple #[]) ∧ w' = w.setCell ⟨b, 7, none⟩ (.int .i64 v) := by
  have hc : w.cell? ⟨b, 7, none⟩ = some (.int .i64 (x.nth 7)) := (h.cell 7).trans (nth_cell x (by decide))
  have hf : w.frozen? ⟨b, 7, none⟩ = false := h.frozen 7
  clear h
  generalize x.nth 7 = y at *
  go_enter Tryz.func57, Tryz.ntmps57
  go_wp2
  go_end0
  exact ⟨rfl, rfl⟩

theorem get8 (x : Pl) (b : Nat) (w : World) (h : Whole w b 23 x.cells) : Calls Tryz.prog 58 #[.pointer (some ⟨b, 0, none⟩)] w fun e w' => e = .returned (.int .i64 (x.nth 8)) ∧ w' = w := by
  have hc : w.cell? ⟨b, 8, none⟩ = some (.int .i64 (x.nth 8)) := (h.cell 8).trans (nth_cell x (by decide))
  clear h
  generalize x.nth 8 = y at *
  go_enter Tryz.func58, Tryz.ntmps58
  go_wp2
  go_ret
  exact ⟨rfl, rfl⟩
theorem set8 (x : Pl) (v : Int) (b : Nat) (w : World) (h : Whole w b 23 x.cells) : Calls Tryz.prog 59 #[.pointer (some ⟨b, 0, none⟩), .int .i64 v] w fun e w' => e = .returned (.tuple #[]) ∧ w' = w.setCell ⟨b, 8, none⟩ (.int .i64 v) := by
  have hc : w.cell? ⟨b, 8, none⟩ = some (.int .i64 (x.nth 8)) := (h.cell 8).trans (nth_cell x (by decide))
  have hf : w.frozen? ⟨b, 8, none⟩ = false := h.frozen 8
  clear h
  generalize x.nth 8 = y at *
  go_enter Tryz.func59, Tryz.ntmps59
  go_wp2
  go_end0
  exact ⟨rfl, rfl⟩

theorem get9 (x : Pl) (b : Nat) (w : World) (h : Whole w b 23 x.cells) : Calls Tryz.prog 60 #[.pointer (some ⟨b, 0, none⟩)] w fun e w' => e = .returned (.int .i64 (x.nth 9)) ∧ w' = w := by
  have hc : w.cell? ⟨b, 9, none⟩ = some (.int .i64 (x.nth 9)) := (h.cell 9).trans (nth_cell x (by decide))
  clear h
  generalize x.nth 9 = y at *
  go_enter Tryz.func60, Tryz.ntmps60
  go_wp2
  go_ret
  exact ⟨rfl, rfl⟩
theorem set9 (x : Pl) (v : Int) (b : Nat) (w : World) (h : Whole w b 23 x.cells) : Calls Tryz.prog 61 #[.pointer (some ⟨b, 0, none⟩), .int .i64 v] w fun e w' => e = .returned (.tuple #[]) ∧ w' = w.setCell ⟨b, 9, none⟩ (.int .i64 v) := by
  have hc : w.cell? ⟨b, 9, none⟩ = some (.int .i64 (x.nth 9)) := (h.cell 9).trans (nth_cell x (by decide))
  have hf : w.frozen? ⟨b, 9, none⟩ = false := h.frozen 9
  clear h
  generalize x.nth 9 = y at *
  go_enter Tryz.func61, Tryz.ntmps61
  go_wp2
  go_end0
  exact ⟨rfl, rfl⟩

theorem get10 (x : Pl) (b : Nat) (w : World) (h : Whole w b 23 x.cells) : Calls Tryz.prog 62 #[.pointer (some ⟨b, 0, none⟩)] w fun e w' => e = .returned (.int .i64 (x.nth 10)) ∧ w' = w := by
  have hc : w.cell? ⟨b, 10, none⟩ = some (.int .i64 (x.nth 10)) := (h.cell 10).trans (nth_cell x (by decide))
  clear h
  generalize x.nth 10 = y at *
  go_enter Tryz.func62, Tryz.ntmps62
  go_wp2
  go_ret
  exact ⟨rfl, rfl⟩
theorem set10 (x : Pl) (v : Int) (b : Nat) (w : World) (h : Whole w b 23 x.cells) : Calls Tryz.prog 63 #[.pointer (some ⟨b, 0, none⟩), .int .i64 v] w fun e w' => e = .returned (.tuple #[]) ∧ w' = w.setCell ⟨b, 10, none⟩ (.int .i64 v) := by
  have hc : w.cell? ⟨b, 10, none⟩ = some (.int .i64 (x.nth 10)) := (h.cell 10).trans (nth_cell x (by decide))
  have hf : w.frozen? ⟨b, 10, none⟩ = false := h.frozen 10
  clear h
  generalize x.nth 10 = y at *
  go_enter Tryz.func63, Tryz.ntmps63
  go_wp2
  go_end0
  exact ⟨rfl, rfl⟩

theorem get11 (x : Pl) (b : Nat) (w : World) (h : Whole w b 23 x.cells) : Calls Tryz.prog 64 #[.pointer (some ⟨b, 0, none⟩)] w fun e w' => e = .returned (.int .i64 (x.nth 11)) ∧ w' = w := by
  have hc : w.cell? ⟨b, 11, none⟩ = some (.int .i64 (x.nth 11)) := (h.cell 11).trans (nth_cell x (by decide))
  clear h
  generalize x.nth 11 = y at *
  go_enter Tryz.func64, Tryz.ntmps64
  go_wp2
  go_ret
  exact ⟨rfl, rfl⟩
theorem set11 (x : Pl) (v : Int) (b : Nat) (w : World) (h : Whole w b 23 x.cells) : Calls Tryz.prog 65 #[.pointer (some ⟨b, 0, none⟩), .int .i64 v] w fun e w' => e = .returned (.tuple #[]) ∧ w' = w.setCell ⟨b, 11, none⟩ (.int .i64 v) := by
  have hc : w.cell? ⟨b, 11, none⟩ = some (.int .i64 (x.nth 11)) := (h.cell 11).trans (nth_cell x (by decide))
  have hf : w.frozen? ⟨b, 11, none⟩ = false := h.frozen 11
  clear h
  generalize x.nth 11 = y at *
  go_enter Tryz.func65, Tryz.ntmps65
  go_wp2
  go_end0
  exact ⟨rfl, rfl⟩

theorem get12 (x : Pl) (b : Nat) (w : World) (h : Whole w b 23 x.cells) : Calls Tryz.prog 66 #[.pointer (some ⟨b, 0, none⟩)] w fun e w' => e = .returned (.int .i64 (x.nth 12)) ∧ w' = w := by
  have hc : w.cell? ⟨b, 12, none⟩ = some (.int .i64 (x.nth 12)) := (h.cell 12).trans (nth_cell x (by decide))
  clear h
  generalize x.nth 12 = y at *
  go_enter Tryz.func66, Tryz.ntmps66
  go_wp2
  go_ret
  exact ⟨rfl, rfl⟩
theorem set12 (x : Pl) (v : Int) (b : Nat) (w : World) (h : Whole w b 23 x.cells) : Calls Tryz.prog 67 #[.pointer (some ⟨b, 0, none⟩), .int .i64 v] w fun e w' => e = .returned (.tuple #[]) ∧ w' = w.setCell ⟨b, 12, none⟩ (.int .i64 v) := by
  have hc : w.cell? ⟨b, 12, none⟩ = some (.int .i64 (x.nth 12)) := (h.cell 12).trans (nth_cell x (by decide))
  have hf : w.frozen? ⟨b, 12, none⟩ = false := h.frozen 12
  clear h
  generalize x.nth 12 = y at *
  go_enter Tryz.func67, Tryz.ntmps67
  go_wp2
  go_end0
  exact ⟨rfl, rfl⟩

theorem get13 (x : Pl) (b : Nat) (w : World) (h : Whole w b 23 x.cells) : Calls Tryz.prog 68 #[.pointer (some ⟨b, 0, none⟩)] w fun e w' => e = .returned (.int .i64 (x.nth 13)) ∧ w' = w := by
  have hc : w.cell? ⟨b, 13, none⟩ = some (.int .i64 (x.nth 13)) := (h.cell 13).trans (nth_cell x (by decide))
  clear h
  generalize x.nth 13 = y at *
  go_enter Tryz.func68, Tryz.ntmps68
  go_wp2
  go_ret
  exact ⟨rfl, rfl⟩
theorem set13 (x : Pl) (v : Int) (b : Nat) (w : World) (h : Whole w b 23 x.cells) : Calls Tryz.prog 69 #[.pointer (some ⟨b, 0, none⟩), .int .i64 v] w fun e w' => e = .returned (.tuple #[]) ∧ w' = w.setCell ⟨b, 13, none⟩ (.int .i64 v) := by
  have hc : w.cell? ⟨b, 13, none⟩ = some (.int .i64 (x.nth 13)) := (h.cell 13).trans (nth_cell x (by decide))
  have hf : w.frozen? ⟨b, 13, none⟩ = false := h.frozen 13
  clear h
  generalize x.nth 13 = y at *
  go_enter Tryz.func69, Tryz.ntmps69
  go_wp2
  go_end0
  exact ⟨rfl, rfl⟩

theorem get14 (x : Pl) (b : Nat) (w : World) (h : Whole w b 23 x.cells) : Calls Tryz.prog 70 #[.pointer (some ⟨b, 0, none⟩)] w fun e w' => e = .returned (.int .i64 (x.nth 14)) ∧ w' = w := by
  have hc : w.cell? ⟨b, 14, none⟩ = some (.int .i64 (x.nth 14)) := (h.cell 14).trans (nth_cell x (by decide))
  clear h
  generalize x.nth 14 = y at *
  go_enter Tryz.func70, Tryz.ntmps70
  go_wp2
  go_ret
  exact ⟨rfl, rfl⟩
theorem set14 (x : Pl) (v : Int) (b : Nat) (w : World) (h : Whole w b 23 x.cells) : Calls Tryz.prog 71 #[.pointer (some ⟨b, 0, none⟩), .int .i64 v] w fun e w' => e = .returned (.tuple #[]) ∧ w' = w.setCell ⟨b, 14, none⟩ (.int .i64 v) := by
  have hc : w.cell? ⟨b, 14, none⟩ = some (.int .i64 (x.nth 14)) := (h.cell 14).trans (nth_cell x (by decide))
  have hf : w.frozen? ⟨b, 14, none⟩ = false := h.frozen 14
  clear h
  generalize x.nth 14 = y at *
  go_enter Tryz.func71, Tryz.ntmps71
  go_wp2
  go_end0
  exact ⟨rfl, rfl⟩

theorem get15 (x : Pl) (b : Nat) (w : World) (h : Whole w b 23 x.cells) : Calls Tryz.prog 72 #[.pointer (some ⟨b, 0, none⟩)] w fun e w' => e = .returned (.int .i64 (x.nth 15)) ∧ w' = w := by
  have hc : w.cell? ⟨b, 15, none⟩ = some (.int .i64 (x.nth 15)) := (h.cell 15).trans (nth_cell x (by decide))
  clear h
  generalize x.nth 15 = y at *
  go_enter Tryz.func72, Tryz.ntmps72
  go_wp2
  go_ret
  exact ⟨rfl, rfl⟩
theorem set15 (x : Pl) (v : Int) (b : Nat) (w : World) (h : Whole w b 23 x.cells) : Calls Tryz.prog 73 #[.pointer (some ⟨b, 0, none⟩), .int .i64 v] w fun e w' => e = .returned (.tuple #[]) ∧ w' = w.setCell ⟨b, 15, none⟩ (.int .i64 v) := by
  have hc : w.cell? ⟨b, 15, none⟩ = some (.int .i64 (x.nth 15)) := (h.cell 15).trans (nth_cell x (by decide))
  have hf : w.frozen? ⟨b, 15, none⟩ = false := h.frozen 15
  clear h
  generalize x.nth 15 = y at *
  go_enter Tryz.func73, Tryz.ntmps73
  go_wp2
  go_end0
  exact ⟨rfl, rfl⟩

theorem get_any (x : Pl) (b : Nat) (w : World) (h : Whole w b 23 x.cells) {k : Nat} (hk : k < 16) : Calls Tryz.prog (getF k) #[.pointer (some ⟨b, 0, none⟩)] w fun e w' => e = .returned (.int .i64 (x.nth k)) ∧ w' = w := by
  revert hk
  have := case16 (p := fun k => Calls Tryz.prog (getF k) #[.pointer (some ⟨b, 0, none⟩)] w fun e w' => e = .returned (.int .i64 (x.nth k)) ∧ w' = w) (get0 x b w h) (get1 x b w h) (get2 x b w h) (get3 x b w h) (get4 x b w h) (get5 x b w h) (get6 x b w h) (get7 x b w h) (get8 x b w h) (get9 x b w h) (get10 x b w h) (get11 x b w h) (get12 x b w h) (get13 x b w h) (get14 x b w h) (get15 x b w h)
  exact this k
theorem set_any (x : Pl) (v : Int) (b : Nat) (w : World) (h : Whole w b 23 x.cells) {k : Nat} (hk : k < 16) : Calls Tryz.prog (setF k) #[.pointer (some ⟨b, 0, none⟩), .int .i64 v] w fun e w' => e = .returned (.tuple #[]) ∧ w' = w.setCell ⟨b, k, none⟩ (.int .i64 v) := by
  revert hk
  have := case16 (p := fun k => Calls Tryz.prog (setF k) #[.pointer (some ⟨b, 0, none⟩), .int .i64 v] w fun e w' => e = .returned (.tuple #[]) ∧ w' = w.setCell ⟨b, k, none⟩ (.int .i64 v)) (set0 x v b w h) (set1 x v b w h) (set2 x v b w h) (set3 x v b w h) (set4 x v b w h) (set5 x v b w h) (set6 x v b w h) (set7 x v b w h) (set8 x v b w h) (set9 x v b w h) (set10 x v b w h) (set11 x v b w h) (set12 x v b w h) (set13 x v b w h) (set14 x v b w h) (set15 x v b w h)
  exact this k
theorem get_enters {k : Nat} (hk : k < 16) : ∀ (args : Array Value) (W : World), (callFunc (getF k) args).run Tryz.prog W = .ok (.enter (getF k) args) W := by
  revert hk
  have := case16 (p := fun k => ∀ (args : Array Value) (W : World), (callFunc (getF k) args).run Tryz.prog W = .ok (.enter (getF k) args) W) (fun _ _ => by kernel_rfl) (fun _ _ => by kernel_rfl) (fun _ _ => by kernel_rfl) (fun _ _ => by kernel_rfl) (fun _ _ => by kernel_rfl) (fun _ _ => by kernel_rfl) (fun _ _ => by kernel_rfl) (fun _ _ => by kernel_rfl) (fun _ _ => by kernel_rfl) (fun _ _ => by kernel_rfl) (fun _ _ => by kernel_rfl) (fun _ _ => by kernel_rfl) (fun _ _ => by kernel_rfl) (fun _ _ => by kernel_rfl) (fun _ _ => by kernel_rfl) (fun _ _ => by kernel_rfl)
  exact this k
theorem set_enters {k : Nat} (hk : k < 16) : ∀ (args : Array Value) (W : World), (callFunc (setF k) args).run Tryz.prog W = .ok (.enter (setF k) args) W := by
  revert hk
  have := case16 (p := fun k => ∀ (args : Array Value) (W : World), (callFunc (setF k) args).run Tryz.prog W = .ok (.enter (setF k) args) W) (fun _ _ => by kernel_rfl) (fun _ _ => by kernel_rfl) (fun _ _ => by kernel_rfl) (fun _ _ => by kernel_rfl) (fun _ _ => by kernel_rfl) (fun _ _ => by kernel_rfl) (fun _ _ => by kernel_rfl) (fun _ _ => by kernel_rfl) (fun _ _ => by kernel_rfl) (fun _ _ => by kernel_rfl) (fun _ _ => by kernel_rfl) (fun _ _ => by kernel_rfl) (fun _ _ => by kernel_rfl) (fun _ _ => by kernel_rfl) (fun _ _ => by kernel_rfl) (fun _ _ => by kernel_rfl)
  exact this k

set_option maxRecDepth 100000 in
set_option maxHeartbeats 4000000 in
/-- The table: a new row. -/
theorem tabled_any (w : World) : Calls Tryz.prog 23 #[] w fun e w' => e = .returned (.slice (some ⟨w.heap.size, 0, none⟩) 16 16) ∧ w' = w.alloc (.cells tabC 58) := by
  go_enter Tryz.func23, Tryz.ntmps23
  go_wp2
  go_ret
  exact ⟨rfl, rfl⟩
end Go.Proofs.YtdeiohcciafffaaGreatDoor
