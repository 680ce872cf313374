/- A group's text, by a contract. -/
import Derived.Test.YtnpjldolppikfaaGNext
import Derived.Test.YtnpjldolppikfaaGOnes
namespace Go.Proofs.Ytnpjldolppikfaa
open Go.RowKit

/-- The digits, in order. -/
def digsL : List UInt8 := [48, 49, 50, 51, 52, 53, 54, 55, 56, 57, 97, 98, 99, 100, 101, 102]
def digOf (x : Int) : UInt8 := digsL.getD x.toNat 0
/-- A group's text, as bytes. -/
def textG (g : Nat) : List UInt8 := if g = 0 then [45] else (listI g).map digOf

theorem dig_index {P : Program} (w : World) (t : TypeId) (x : Int) (h : P.underlying t = some .string) (h0 : 0 ≤ x) (h1 : x ≤ 15) :
    (Instr.index t (.string ⟨#[48, 49, 50, 51, 52, 53, 54, 55, 56, 57, 97, 98, 99, 100, 101, 102]⟩) (.int .i64 x)).run P w = .ok (.int .u8 ((digOf x).toNat : Int)) w := by
  have hi : 0 ≤ x ∧ x < ((⟨#[48, 49, 50, 51, 52, 53, 54, 55, 56, 57, 97, 98, 99, 100, 101, 102]⟩ : ByteArray).size : Int) := ⟨h0, by rw [show (⟨#[48, 49, 50, 51, 52, 53, 54, 55, 56, 57, 97, 98, 99, 100, 101, 102]⟩ : ByteArray).size = 16 from rfl]; omega⟩
  rw [run_index_string w t _ .i64 x h, dif_pos hi]
  obtain ⟨k, rfl⟩ := Int.eq_ofNat_of_zero_le h0
  have hk : k < 16 := by omega
  have hc : k = 0 ∨ k = 1 ∨ k = 2 ∨ k = 3 ∨ k = 4 ∨ k = 5 ∨ k = 6 ∨ k = 7 ∨ k = 8 ∨ k = 9 ∨ k = 10 ∨ k = 11 ∨ k = 12 ∨ k = 13 ∨ k = 14 ∨ k = 15 := by omega
  rcases hc with rfl | rfl | rfl | rfl | rfl | rfl | rfl | rfl | rfl | rfl | rfl | rfl | rfl | rfl | rfl | rfl <;> rfl

theorem listI_get {g k : Nat} (h : k < (listI g).length) : 0 ≤ (listI g)[k] ∧ (listI g)[k] ≤ 15 := by
  have h' : k < (listG g).length := by simpa [listI] using h
  have := listG_get_lt h'
  simp only [listI, List.getElem_map]
  omega

theorem u8_row : (Try.prog.info? 5).map (fun i => (i.zero, i.size, i.bytes)) = some (some (.int .u8 0), 1, 1) := by kernel_rfl

/-- What the call says: the text, and that nothing that was there has changed. -/
def SaysText (w : World) (l : List UInt8) (e : Ending) (w' : World) : Prop := e = .returned (.string ⟨l.toArray⟩) ∧ Below w.heap.size w w'

end Go.Proofs.Ytnpjldolppikfaa
