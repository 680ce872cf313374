/- PlantextNames' plan: its text, and what is read of it. No condition. -/
import Derived.Test.YtdeiohcciafffaaGreatDoorTBackM
namespace Go.Proofs.YtdeiohcciafffaaGreatDoor
open Go.RowKit Go.Shelf

def iL (n : Nat) : List UInt8 := if n < 10 then [UInt8.ofNat (48 + n)] else [UInt8.ofNat (48 + n / 10), UInt8.ofNat (48 + n % 10)]
theorem itoa_small {n : Nat} (h : n < 100) : Lib.itoa (n : Int) = iL n := by
  rw [Lib.itoa_nonneg, iL]
  split
  · rename_i h1; exact Lib.decDigits_one h1
  · rename_i h1; exact Lib.decDigits_two h1 h
def planN : Pl := ⟨4, 1, 2, 3, 4, 5, 6, 7, 8, 9, 10, 11, 12, 13, 14, 15⟩
def valN (k : Nat) : Nat := if k = 0 then 4 else k
theorem planN_nth {k : Nat} (hk : k < 16) : planN.nth k = (valN k : Int) := by
  revert hk
  exact fun hk => case16 (p := fun k => planN.nth k = (valN k : Int)) rfl rfl rfl rfl rfl rfl rfl rfl rfl rfl rfl rfl rfl rfl rfl rfl k hk
def textN : List UInt8 := (List.range 16).flatMap fun k => nameL k ++ [32, 61, 32] ++ iL (valN k) ++ [10]
theorem shownN : shownL planN = textN := by
  unfold shownL shownT textN
  rw [List.flatMap_def, List.flatMap_def]
  congr 1
  apply List.map_congr_left
  intro k hk
  have hk2 := List.mem_range.1 hk
  have hv : valN k < 100 := by unfold valN; split <;> omega
  rw [lineL, planN_nth hk2, itoa_small hv]
theorem errN : errT textN = false := by kernel_rfl
theorem planN_read : planT textN = planN := by kernel_rfl
theorem loadN : loadE textN = 70 := by kernel_rfl
theorem lenN : textN.length = 157 := by kernel_rfl
/-- The text made as long as it may be, by a remark; and longer. -/
def longN : List UInt8 := textN ++ List.replicate 3843 35
theorem longN_len : longN.length = 4000 := by rw [longN, List.length_append, lenN, List.length_replicate]
theorem longN_err : errT longN = false := by kernel_rfl
theorem longN_plan : planT longN = planN := by kernel_rfl
theorem longer_err {l : List UInt8} (h : 4000 < l.length) : errT l = true ∧ lineNo l = 0 := ⟨by simp [errT, h], if_pos h⟩
/-- What says asks for, of the law's own lines. -/
theorem saidN : ([([61], 1), ([110, 111, 100, 101, 115, 32, 52], 1), ([110, 111, 100, 101, 115, 32, 61, 32, 45, 52], 1), ([110, 111, 100, 101, 115, 32, 61, 32, 52, 32, 53], 1), ([110, 111, 100, 101, 115, 32, 61, 32], 1), ([78, 111, 100, 101, 115, 32, 61, 32, 52], 1)] : List (List UInt8 × Nat)).all (fun p => errT p.1 && decide (lineNo p.1 = p.2)) = true := by kernel_rfl
end Go.Proofs.YtdeiohcciafffaaGreatDoor
