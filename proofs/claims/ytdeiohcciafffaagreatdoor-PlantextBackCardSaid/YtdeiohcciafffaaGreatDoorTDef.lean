/- The names of a plan's numbers; a plan's numbers by place; the table as it lies in memory. No condition. -/
import Derived.Test.YtdeiohcciafffaaGreatDoorLDef
namespace Go.Proofs.YtdeiohcciafffaaGreatDoor
open Go.RowKit Go.Shelf

/-- The names, in order. -/
def namesL : List (List UInt8) := [[110, 111, 100, 101, 115],
  [107],
  [115, 108, 111, 116],
  [115, 101, 110, 100, 111, 102, 102],
  [119, 105, 110, 100, 111, 119],
  [97, 105, 114],
  [100, 109, 105, 110],
  [100, 109, 97, 120],
  [114, 104, 111],
  [112, 105],
  [99, 97, 112],
  [100, 101, 108, 116, 97],
  [113, 117, 101, 117, 101],
  [98, 117, 114, 115, 116],
  [112, 97, 121, 108, 111, 97, 100],
  [104, 111, 114, 105, 122, 111, 110]]
def nameL (k : Nat) : List UInt8 := namesL.getD k []
/-- A plan's number at a place. -/
def Pl.nth (x : Pl) : Nat → Int
  | 0 => x.nodes
  | 1 => x.kk
  | 2 => x.slot
  | 3 => x.sendOff
  | 4 => x.window
  | 5 => x.air
  | 6 => x.dmin
  | 7 => x.dmax
  | 8 => x.rho
  | 9 => x.pi
  | 10 => x.cap
  | 11 => x.delta
  | 12 => x.queue
  | 13 => x.burst
  | 14 => x.payload
  | 15 => x.horizon
  | _ => 0
/-- A plan with another number at a place. -/
def Pl.put (x : Pl) (v : Int) : Nat → Pl
  | 0 => { x with nodes := v }
  | 1 => { x with kk := v }
  | 2 => { x with slot := v }
  | 3 => { x with sendOff := v }
  | 4 => { x with window := v }
  | 5 => { x with air := v }
  | 6 => { x with dmin := v }
  | 7 => { x with dmax := v }
  | 8 => { x with rho := v }
  | 9 => { x with pi := v }
  | 10 => { x with cap := v }
  | 11 => { x with delta := v }
  | 12 => { x with queue := v }
  | 13 => { x with burst := v }
  | 14 => { x with payload := v }
  | 15 => { x with horizon := v }
  | _ => x
/-- The plan of sixteen numbers. -/
def planL (f : Nat → Int) : Pl := ⟨f 0, f 1, f 2, f 3, f 4, f 5, f 6, f 7, f 8, f 9, f 10, f 11, f 12, f 13, f 14, f 15⟩
def zeroP : Pl := ⟨0, 0, 0, 0, 0, 0, 0, 0, 0, 0, 0, 0, 0, 0, 0, 0⟩
/-- The functions that get a number, and those that set it. -/
def getF : Nat → FuncId
  | 0 => 42
  | 1 => 44
  | 2 => 46
  | 3 => 48
  | 4 => 50
  | 5 => 52
  | 6 => 54
  | 7 => 56
  | 8 => 58
  | 9 => 60
  | 10 => 62
  | 11 => 64
  | 12 => 66
  | 13 => 68
  | 14 => 70
  | 15 => 72
  | _ => 0
def setF : Nat → FuncId
  | 0 => 43
  | 1 => 45
  | 2 => 47
  | 3 => 49
  | 4 => 51
  | 5 => 53
  | 6 => 55
  | 7 => 57
  | 8 => 59
  | 9 => 61
  | 10 => 63
  | 11 => 65
  | 12 => 67
  | 13 => 69
  | 14 => 71
  | 15 => 73
  | _ => 0
/-- The table's cells. -/
def tabC : Array Value := #[.string ⟨#[110, 111, 100, 101, 115]⟩, .func (.func 42) #[] #[], .func (.func 43) #[] #[],
  .string ⟨#[107]⟩, .func (.func 44) #[] #[], .func (.func 45) #[] #[],
  .string ⟨#[115, 108, 111, 116]⟩, .func (.func 46) #[] #[], .func (.func 47) #[] #[],
  .string ⟨#[115, 101, 110, 100, 111, 102, 102]⟩, .func (.func 48) #[] #[], .func (.func 49) #[] #[],
  .string ⟨#[119, 105, 110, 100, 111, 119]⟩, .func (.func 50) #[] #[], .func (.func 51) #[] #[],
  .string ⟨#[97, 105, 114]⟩, .func (.func 52) #[] #[], .func (.func 53) #[] #[],
  .string ⟨#[100, 109, 105, 110]⟩, .func (.func 54) #[] #[], .func (.func 55) #[] #[],
  .string ⟨#[100, 109, 97, 120]⟩, .func (.func 56) #[] #[], .func (.func 57) #[] #[],
  .string ⟨#[114, 104, 111]⟩, .func (.func 58) #[] #[], .func (.func 59) #[] #[],
  .string ⟨#[112, 105]⟩, .func (.func 60) #[] #[], .func (.func 61) #[] #[],
  .string ⟨#[99, 97, 112]⟩, .func (.func 62) #[] #[], .func (.func 63) #[] #[],
  .string ⟨#[100, 101, 108, 116, 97]⟩, .func (.func 64) #[] #[], .func (.func 65) #[] #[],
  .string ⟨#[113, 117, 101, 117, 101]⟩, .func (.func 66) #[] #[], .func (.func 67) #[] #[],
  .string ⟨#[98, 117, 114, 115, 116]⟩, .func (.func 68) #[] #[], .func (.func 69) #[] #[],
  .string ⟨#[112, 97, 121, 108, 111, 97, 100]⟩, .func (.func 70) #[] #[], .func (.func 71) #[] #[],
  .string ⟨#[104, 111, 114, 105, 122, 111, 110]⟩, .func (.func 72) #[] #[], .func (.func 73) #[] #[]]
theorem case16 {p : Nat → Prop} (h0 : p 0) (h1 : p 1) (h2 : p 2) (h3 : p 3) (h4 : p 4) (h5 : p 5) (h6 : p 6) (h7 : p 7) (h8 : p 8) (h9 : p 9) (h10 : p 10) (h11 : p 11) (h12 : p 12) (h13 : p 13) (h14 : p 14) (h15 : p 15) (k : Nat) (hk : k < 16) : p k := by
  have : k = 0 ∨ k = 1 ∨ k = 2 ∨ k = 3 ∨ k = 4 ∨ k = 5 ∨ k = 6 ∨ k = 7 ∨ k = 8 ∨ k = 9 ∨ k = 10 ∨ k = 11 ∨ k = 12 ∨ k = 13 ∨ k = 14 ∨ k = 15 := by omega
  rcases this with rfl | rfl | rfl | rfl | rfl | rfl | rfl | rfl | rfl | rfl | rfl | rfl | rfl | rfl | rfl | rfl <;> assumption
theorem tab_row {k : Nat} (hk : k < 16) : tabC[3 * k]? = some (.string ⟨(nameL k).toArray⟩) ∧ tabC[3 * k + 1]? = some (.func (.func (getF k)) #[] #[]) ∧ tabC[3 * k + 2]? = some (.func (.func (setF k)) #[] #[]) := by
  revert hk
  have := case16 (p := fun k => tabC[3 * k]? = some (.string ⟨(nameL k).toArray⟩) ∧ tabC[3 * k + 1]? = some (.func (.func (getF k)) #[] #[]) ∧ tabC[3 * k + 2]? = some (.func (.func (setF k)) #[] #[]))
    ⟨rfl, rfl, rfl⟩ ⟨rfl, rfl, rfl⟩ ⟨rfl, rfl, rfl⟩ ⟨rfl, rfl, rfl⟩ ⟨rfl, rfl, rfl⟩ ⟨rfl, rfl, rfl⟩ ⟨rfl, rfl, rfl⟩ ⟨rfl, rfl, rfl⟩ ⟨rfl, rfl, rfl⟩ ⟨rfl, rfl, rfl⟩ ⟨rfl, rfl, rfl⟩ ⟨rfl, rfl, rfl⟩ ⟨rfl, rfl, rfl⟩ ⟨rfl, rfl, rfl⟩ ⟨rfl, rfl, rfl⟩ ⟨rfl, rfl, rfl⟩
  exact this k
theorem nth_cell (x : Pl) {k : Nat} (hk : k < 16) : x.cells[k]? = some (.int .i64 (x.nth k)) := by
  revert hk
  have := case16 (p := fun k => x.cells[k]? = some (.int .i64 (x.nth k))) rfl rfl rfl rfl rfl rfl rfl rfl rfl rfl rfl rfl rfl rfl rfl rfl
  exact this k
theorem put_cells (x : Pl) (v : Int) {k : Nat} (hk : k < 16) : x.cells.setIfInBounds k (.int .i64 v) = (x.put v k).cells := by
  revert hk
  have := case16 (p := fun k => x.cells.setIfInBounds k (.int .i64 v) = (x.put v k).cells) rfl rfl rfl rfl rfl rfl rfl rfl rfl rfl rfl rfl rfl rfl rfl rfl
  exact this k
theorem namesL_length : namesL.length = 16 := rfl
theorem nameL_get {k : Nat} (hk : k < 16) : namesL[k]? = some (nameL k) := by
  revert hk
  have := case16 (p := fun k => namesL[k]? = some (nameL k)) rfl rfl rfl rfl rfl rfl rfl rfl rfl rfl rfl rfl rfl rfl rfl rfl
  exact this k

end Go.Proofs.YtdeiohcciafffaaGreatDoor
