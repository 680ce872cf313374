/- A list of calls that came in, and the guard great over it. -/
import Derived.Test.YtnpjldolppikfaaOct
namespace Go.Proofs.Ytnpjldolppikfaa
open Go.RowKit

/-- A call, as data. -/
structure OpD where
  kind : Int
  n : Int
  v : Nat
  b : List UInt8

/-- A call's four cells at place p of block g. -/
def OpAt (w : World) (g p : Nat) (x : OpD) : Prop :=
  x.v < 18446744073709551616 ∧ w.cell? ⟨g, p, none⟩ = some (.int .i64 x.kind) ∧ w.cell? ⟨g, p + 1, none⟩ = some (.int .i64 x.n) ∧ w.cell? ⟨g, p + 2, none⟩ = some (.int .u64 (x.v : Int)) ∧
    ∃ B c, w.cell? ⟨g, p + 3, none⟩ = some (.slice B x.b.length c) ∧ Src w B x.b.length x.b ∧ (B = none → c = 0) ∧ x.b.length ≤ 140737488351232 ∧ (0 < x.b.length → ∀ ad, B = some ad → ad.block < w.heap.size)

/-- The slice with address A, of n elements, reads as the calls xs. -/
def Ops (w : World) (A : Option Addr) (n : Nat) (xs : List OpD) : Prop :=
  xs.length = n ∧ (0 < n → ∃ g o, A = some ⟨g, o, none⟩ ∧ g < w.heap.size ∧ ∀ i (h : i < xs.length), OpAt w g (o + i * 4) xs[i])

theorem OpAt.below {w w' : World} {g p : Nat} {x : OpD} (h : OpAt w g p x) (hg : g < w.heap.size) (hb : Below w.heap.size w w') : OpAt w' g p x := by
  obtain ⟨h0, h1, h2, h3, B, c, h4, h5, h6, h7, h8⟩ := h
  refine ⟨h0, (hb.cell (p := ⟨g, p, none⟩) hg).trans h1, (hb.cell (p := ⟨g, p + 1, none⟩) hg).trans h2, (hb.cell (p := ⟨g, p + 2, none⟩) hg).trans h3, B, c, (hb.cell (p := ⟨g, p + 3, none⟩) hg).trans h4, h5.below hb, h6, h7, fun h0 ad e => Nat.lt_of_lt_of_le (h8 h0 ad e) hb.size⟩

def opsSum (xs : List OpD) : Nat := xs.foldl (fun a x => a + x.b.length) 0
theorem opsSum_snoc (xs : List OpD) (x : OpD) : opsSum (xs ++ [x]) = opsSum xs + x.b.length := by simp [opsSum]
theorem opsSum_le (xs : List OpD) (h : ∀ x ∈ xs, x.b.length ≤ 140737488351232) : opsSum xs ≤ 140737488351232 * xs.length := by
  rw [← List.reverse_reverse xs] at *
  generalize xs.reverse = ys at *
  induction ys with
  | nil => simp [opsSum]
  | cons y ys ih =>
    rw [List.reverse_cons, opsSum_snoc, List.length_append, List.length_singleton, Nat.mul_add]
    have h1 := ih (fun x hx => h x (by rw [List.reverse_cons]; exact List.mem_append_left _ hx))
    have h2 := h y (by rw [List.reverse_cons]; exact List.mem_append_right _ (by simp))
    omega

def greatB (xs : List OpD) : Bool := decide (100 < xs.length) || decide (20000 < opsSum xs)

theorem not_great {xs : List OpD} (h : greatB xs = false) : xs.length ≤ 100 ∧ opsSum xs ≤ 20000 := by
  simp [greatB] at h
  omega

end Go.Proofs.Ytnpjldolppikfaa
