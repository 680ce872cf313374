/- alive: the chapter's first example answers true, and writes nothing that was there. -/
import Derived.Test.YtnpjldolppikfaaPutb
import Derived.Lib.SlBytesConst
namespace Go.Proofs.Ytnpjldolppikfaa
open Go.RowKit

theorem all_some (w : World) (S : Nat → Prop) (a : Nat) (l : List UInt8) (h : OutAt w S a (some l)) (hlen : l.length ≤ 549755813888) :
    Calls Try.prog 34 #[.pointer (some ⟨a, 0, none⟩)] w (Fresh w l) := all_any w S a (some l) h hlen
theorem OutAt.new (w : World) : OutAt (w.alloc (.cells #[.pointer none, .int .i64 0, .bool false] 66)) (fun k => k = w.heap.size) w.heap.size (some []) :=
  ⟨fun k e => by subst e; simp, rfl, .inr (.inl ⟨rfl, ⟨Whole.new w _ _⟩⟩)⟩

theorem Kept.on {B : Nat} {S : Nat → Prop} {w w0 w1 : World} (h : Below B w w0) (k : Kept S w0 w1) (hS : ∀ i, S i → B ≤ i) (hB : B ≤ w0.heap.size) : Below B w w1 :=
  h.trans ⟨k.os, k.tape, k.output, k.size, fun i hi => k.block i (by omega) (fun hs => by have := hS i hs; omega)⟩
theorem Grow.on {B : Nat} {S : Nat → Prop} {w0 w1 : World} (hS : ∀ i, S i → B ≤ i) (hB : B ≤ w0.heap.size) : ∀ i, Grow S w0 w1 i → B ≤ i := by
  rintro i (h | h)
  · exact hS i h
  · omega

end Go.Proofs.Ytnpjldolppikfaa
