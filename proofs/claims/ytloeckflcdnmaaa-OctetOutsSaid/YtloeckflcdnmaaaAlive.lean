/- alive: the chapter's first example answers true, and writes nothing that was there. -/
import Derived.Test.YtloeckflcdnmaaaPutb
import Derived.Lib.SlBytesConst
namespace Go.Proofs.Ytloeckflcdnmaaa
open Go.RowKit

theorem all_some (w : World) (S : Nat → Prop) (a : Nat) (l : List UInt8) (h : OutAt w S a (some l)) (hlen : l.length ≤ 549755813888) :
    Calls Try.prog 15 #[.pointer (some ⟨a, 0, none⟩)] w (Fresh w l) := all_any w S a (some l) h hlen
theorem len_some (w : World) (S : Nat → Prop) (a : Nat) (l : List UInt8) (h : OutAt w S a (some l)) (hlen : l.length ≤ 549755813888) :
    Calls Try.prog 16 #[.pointer (some ⟨a, 0, none⟩)] w fun e w' => e = .returned (.int .i64 (l.length : Int)) ∧ ∃ k, w' = w.drewN k := len_any w S a (some l) h hlen

theorem OutAt.new (w : World) : OutAt (w.alloc (.cells #[.pointer none, .int .i64 0, .bool false] 26)) (fun k => k = w.heap.size) w.heap.size (some []) :=
  ⟨fun k e => by subst e; simp, rfl, .inr (.inl ⟨rfl, ⟨Whole.new w _ _⟩⟩)⟩

theorem Kept.on {B : Nat} {S : Nat → Prop} {w w0 w1 : World} (h : Below B w w0) (k : Kept S w0 w1) (hS : ∀ i, S i → B ≤ i) (hB : B ≤ w0.heap.size) : Below B w w1 :=
  h.trans ⟨k.os, k.tape, k.output, k.size, fun i hi => k.block i (by omega) (fun hs => by have := hS i hs; omega)⟩
theorem Grow.on {B : Nat} {S : Nat → Prop} {w0 w1 : World} (hS : ∀ i, S i → B ≤ i) (hB : B ≤ w0.heap.size) : ∀ i, Grow S w0 w1 i → B ≤ i := by
  rintro i (h | h)
  · exact hS i h
  · omega

set_option maxRecDepth 100000 in
set_option maxHeartbeats 1000000 in
theorem alive_any (w : World) : Calls Try.prog 26 #[] w fun e w' => e = .returned (.bool true) ∧ Below w.heap.size w w' := by
  have kc := fun (w : World) (C : Array Value) (n c : Nat) => Lib.run_convert_bytes_const (P := Try.prog) w 28 5 C n c Try.underlying28 Try.underlying5
  have o0 := OutAt.new w
  go_enter Try.func26, Try.ntmps26
  go_wp2_with fail
  refine (put_any _ _ _ 2 258 _ o0 (by omega) (by simp)).mono ?_
  rintro e w1 ⟨rfl, o1, k1⟩
  go_wp2_with fail
  refine (put_any _ _ _ 1 7 _ o1 (by omega) (by decide)).mono ?_
  rintro e w2 ⟨rfl, o2, k2⟩
  have s0 : ∀ i, i = w.heap.size → w.heap.size ≤ i := fun i e => by omega
  have z0 : w.heap.size ≤ (w.alloc (.cells #[.pointer none, .int .i64 0, .bool false] 26)).heap.size := by simp
  have b1 : Below w.heap.size w w1 := k1.on ((Below.refl _ _).alloc (Nat.le_refl _) _) s0 z0
  have s1 := Grow.on (w1 := w1) s0 z0
  have b2 : Below w.heap.size w w2 := k2.on b1 s1 b1.size
  have s2 := Grow.on (w1 := w2) s1 b1.size
  clear s0 z0 s1 b1 k1 k2 o0 o1
  have e1 : putSt (putSt (some []) 2 258) 1 7 = some [1, 2, 7] := by decide
  rw [e1] at o2
  clear e1
  revert o2 s2
  generalize Grow (Grow _ _ w1) w1 w2 = S
  intro o2 s2
  have o3 := o2.keep (w' := w2.alloc (.cells #[.int .u8 97, .int .u8 98] 5 (2, 3))) ((Kept.refl Empty w2).alloc _) (fun _ _ h => h)
  have hsrc : Src (w2.alloc (.cells #[.int .u8 97, .int .u8 98] 5 (2, 3))) (some ⟨w2.heap.size, 0, none⟩) 2 [97, 98] := ⟨rfl, fun _ => ⟨_, _, rfl, fun i hi => by
    rw [World.cell?_alloc_mark]
    match i, hi with
    | 0, _ => rfl
    | 1, _ => rfl⟩⟩
  have hS : ∀ ad, some (⟨w2.heap.size, 0, none⟩ : Addr) = some ad → ¬ S ad.block := fun ad e hs => by
    cases e
    have := o2.lt _ hs
    simp at this
  go_wp2_with fail
  refine (tail_good _ S w.heap.size [1, 2, 7] _ 2 2 [97, 98] o3 hsrc (fun _ => hS) (by simp)).mono ?_
  rintro e w3 ⟨rfl, o4, k4⟩
  have b3 : Below w.heap.size w w3 := k4.on (b2.alloc b2.size _) s2 (by have := b2.size; simp; omega)
  clear o2 o3 hsrc hS k4 b2 s2
  revert o4
  generalize Grow S _ w3 = S3
  intro o4
  go_wp2_with fail
  refine (all_any _ S3 _ _ o4 (by simp)).mono ?_
  rintro e w4 ⟨v, rfl, hown, hb⟩
  have o5 := o4.keep (Kept.of_below hb Empty) (fun _ _ h => h)
  obtain ⟨A, c, rfl, _, hs4, _⟩ := Src.of_own hown
  have hcv := Src.convert (P := Try.prog) hs4 c 28 5 9 Try.underlying28 Try.underlying5 Try.underlying9
  have b4 : Below w.heap.size w w4 := b3.trans (hb.mono b3.size)
  clear hown hs4 b3 hb o4
  simp at hcv
  go_wp2_with fail
  refine (len_any _ S3 _ _ o5 (by simp)).mono ?_
  rintro e w5 ⟨rfl, k, rfl⟩
  have o6 := o5.drewN k
  go_wp2_with fail
  refine (spoilt_any _ _ _ _ _ o6.good.choose_spec).mono ?_
  rintro e w' ⟨rfl, rfl⟩
  go_wp2
  go_ret
  exact ⟨rfl, b4.os, b4.tape, b4.output, b4.size, b4.block⟩

end Go.Proofs.Ytloeckflcdnmaaa
