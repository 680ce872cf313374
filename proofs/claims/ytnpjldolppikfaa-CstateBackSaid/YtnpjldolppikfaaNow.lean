/- Calls that came in, read in a later world. -/
import Derived.Test.YtnpjldolppikfaaTrio
namespace Go.Proofs.Ytnpjldolppikfaa
open Go.RowKit

theorem Ops.below {w W : World} {A : Option Addr} {n : Nat} {xs : List OpD} (h : Ops w A n xs) (hb : Below w.heap.size w W) : Ops W A n xs := ⟨h.1, fun h0 => by
  obtain ⟨g, o, e, hg, hat⟩ := h.2 h0
  exact ⟨g, o, e, Nat.lt_of_lt_of_le hg hb.size, fun i hi => (hat i hi).below hg hb⟩⟩

/-- A call's cells in a later world, its bytes' memory older than w. -/
def OpNow (w W : World) (g p : Nat) (x : OpD) (Q : Option Addr) (cq : Nat) : Prop :=
  x.v < 18446744073709551616 ∧ W.cell? ⟨g, p, none⟩ = some (.int .i64 x.kind) ∧ W.cell? ⟨g, p + 1, none⟩ = some (.int .i64 x.n) ∧ W.cell? ⟨g, p + 2, none⟩ = some (.int .u64 (x.v : Int)) ∧ W.cell? ⟨g, p + 3, none⟩ = some (.slice Q x.b.length cq) ∧ Src W Q x.b.length x.b ∧ (0 < x.b.length → ∀ ad, Q = some ad → ad.block < w.heap.size)

theorem Ops.now {w W : World} {A : Option Addr} {n : Nat} {xs : List OpD} (h : Ops w A n xs) (hb : Below w.heap.size w W) {j : Nat} (hj : j < xs.length) : ∃ g o Q cq, A = some ⟨g, o, none⟩ ∧ OpNow w W g (o + j * 4) xs[j] Q cq := by
  obtain ⟨g, o, e, hg, hat⟩ := h.2 (by have := h.1; omega)
  obtain ⟨h0, h1, h2, h3, B, c, h4, h5, h6, h7, h8⟩ := hat j hj
  exact ⟨g, o, B, c, e, h0, (hb.cell (p := ⟨g, _, none⟩) hg).trans h1, (hb.cell (p := ⟨g, _, none⟩) hg).trans h2, (hb.cell (p := ⟨g, _, none⟩) hg).trans h3, (hb.cell (p := ⟨g, _, none⟩) hg).trans h4, h5.below hb, h8⟩

theorem Src.on {w W W' : World} {S : Nat → Prop} {Q : Option Addr} {l : List UInt8} (h : Src W Q l.length l) (k : Kept S W W') (hq : 0 < l.length → ∀ ad, Q = some ad → ad.block < w.heap.size) (hS : ∀ i, S i → w.heap.size ≤ i) : Src W' Q l.length l := by
  rcases Nat.eq_zero_or_pos l.length with h0 | h0
  · exact ⟨rfl, fun h => absurd h (by omega)⟩
  · exact h.kept k (fun ad e hs => by have h1 := hq h0 ad e; have h2 := hS _ hs; omega)

theorem far_of {w : World} {S : Nat → Prop} {Q : Option Addr} {W : World} {n : Nat} (hq : 0 < n → ∀ ad, Q = some ad → ad.block < w.heap.size) (hS : ∀ i, S i → w.heap.size ≤ i) (hz : w.heap.size ≤ W.heap.size) : 0 < n → ∀ ad, Q = some ad → ¬ S ad.block ∧ ad.block < W.heap.size := fun h0 ad e =>
  ⟨fun hs => by have h1 := hq h0 ad e; have h2 := hS _ hs; omega, by have h1 := hq h0 ad e; omega⟩

/-- A call's cells in every later world. -/
theorem Ops.each {w : World} {A : Option Addr} {n : Nat} {xs : List OpD} (h : Ops w A n xs) {j : Nat} (hj : j < xs.length) : ∃ g o Q cq, A = some ⟨g, o, none⟩ ∧ ∀ W, Below w.heap.size w W → OpNow w W g (o + j * 4) xs[j] Q cq := by
  obtain ⟨g, o, e, hg, hat⟩ := h.2 (by have := h.1; omega)
  obtain ⟨h0, h1, h2, h3, B, c, h4, h5, h6, h7, h8⟩ := hat j hj
  exact ⟨g, o, B, c, e, fun W hb => ⟨h0, (hb.cell (p := ⟨g, _, none⟩) hg).trans h1, (hb.cell (p := ⟨g, _, none⟩) hg).trans h2, (hb.cell (p := ⟨g, _, none⟩) hg).trans h3, (hb.cell (p := ⟨g, _, none⟩) hg).trans h4, h5.below hb, h8⟩⟩

end Go.Proofs.Ytnpjldolppikfaa
