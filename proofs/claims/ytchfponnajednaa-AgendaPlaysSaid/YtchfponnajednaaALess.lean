/- Less, Swap, Len and first of the list: by contracts. No condition. -/
import Derived.Test.YtchfponnajednaaACmp
import Derived.Deep.DrawnRows
import Derived.StillTailTactics
namespace Go.Proofs.Ytchfponnajednaa
open Go.RowKit Go.Shelf

/-- The six cells of an entry. -/
theorem six_of {w : World} {g o : Nat} {x : En} (h : w.rangeAt g o x.cells) :
    w.cell? ⟨g, o, none⟩ = some (.int .i64 x.e.t) ∧ w.cell? ⟨g, o + 1, none⟩ = some (.int .i64 x.e.k) ∧ w.cell? ⟨g, o + 2, none⟩ = some (.int .i64 x.e.n) ∧
    w.cell? ⟨g, o + 3, none⟩ = some (.int .i64 x.e.m) ∧ w.cell? ⟨g, o + 4, none⟩ = some (.int .i64 x.e.v) ∧ w.cell? ⟨g, o + 5, none⟩ = some (.int .u64 (x.u : Int)) :=
  ⟨h 0 _ rfl, h 1 _ rfl, h 2 _ rfl, h 3 _ rfl, h 4 _ rfl, h 5 _ rfl⟩

theorem len_any (A : Option Addr) (n c : Nat) (w : World) : Calls Try.prog 29 #[.slice A n c] w fun e w' => e = .returned (.int .i64 (n : Int)) ∧ w = w' := by
  go_enter Try.func29, Try.ntmps29
  go_wp2
  go_ret
  exact ⟨rfl, rfl⟩

theorem ints5 {w : World} {g : Nat} {t : TypeId} {a b c d e : Int} (h : Whole w g t #[.int .i64 a, .int .i64 b, .int .i64 c, .int .i64 d, .int .i64 e]) :
    ∀ k (hk : k < [a, b, c, d, e].length), w.cell? ⟨g, k, none⟩ = some (.int .i64 [a, b, c, d, e][k]) := by
  intro k hk
  rw [h.cell k]
  match k, hk with
  | 0, _ => rfl
  | 1, _ => rfl
  | 2, _ => rfl
  | 3, _ => rfl
  | 4, _ => rfl

set_option maxRecDepth 100000 in
set_option maxHeartbeats 4000000 in
theorem less_any (w : World) (g cap n : Nat) (l : List En) (i j : Nat) (x y : En) (h : RowAt w g cap l) (hn : l.length = n) (hi : l[i]? = some x) (hj : l[j]? = some y) :
    Calls Try.prog 60 #[.slice (some ⟨g, 0, none⟩) n cap, .int .i64 (i : Int), .int .i64 (j : Int)] w fun e w' => e = .returned (.bool (lessB x y)) ∧ Below w.heap.size w w' := by
  have hil : i < n := by rw [← hn]; exact (List.getElem?_eq_some_iff.1 hi).1
  have hjl : j < n := by rw [← hn]; exact (List.getElem?_eq_some_iff.1 hj).1
  have HA := Lib.hid (h.cells i x hi)
  have HB := Lib.hid (h.cells j y hj)
  have hmx : n ≤ 9223372036854775807 := by have h1 := h.fits; have h2 := h.small; unfold maxLen at h2; omega
  have e1 : (0 : Int) ≤ (i : Int) := by omega
  have e2 : (i : Int) < (n : Int) := by omega
  have e3 : (0 : Int) ≤ (j : Int) := by omega
  have e4 : (j : Int) < (n : Int) := by omega
  have HL := less_cmp x y
  have HLS := Lib.hid HL
  clear HL h hi hj hn
  go_enter Try.func60, Try.ntmps60
  go_wp2
  go_quiet (fail)
  go_wp2
  have hb : Below w.heap.size w (w.drewN nq).drew := below_drewN (Below.refl _ w) (nq + 1)
  have hA : (w.drewN nq).rangeAt g (i * 6) x.cells := HA.out
  have hB : (w.drewN nq).rangeAt g (j * 6) y.cells := HB.out
  have hA2 : (w.drewN nq).drew.rangeAt g (i * 6) x.cells := HA.out
  have hB2 : (w.drewN nq).drew.rangeAt g (j * 6) y.cells := HB.out
  have HBL := Lib.hid hb
  clear hb HA HB
  generalize w.drewN nq = W at *
  obtain ⟨a0, a1, a2, a3, a4, a5⟩ := six_of hA
  obtain ⟨b0, b1, b2, b3, b4, b5⟩ := six_of hB
  clear hA hB hA2 hB2
  have back : ∀ {P : Program} {f : FuncId} {args : Array Value} {W : World} {v : Value}, Calls P f args W (fun e w' => e = .returned v ∧ W = w') → Calls P f args W (fun e w' => e = .returned v ∧ w' = W) := fun h => h.mono fun _ _ k => ⟨k.1, k.2.symm⟩
  go_still_tail 53, (by kernel_rfl)
  still_call (back (cmp64_any _ _ _))
  repeat still_step
  still_call (back (cmp_any _ _ _))
  repeat still_step
  still_call (back (cmp_any _ _ _))
  repeat still_step
  still_call (back (cmp_any _ _ _))
  repeat still_step
  still_call (back (cmpu_any _ _ _))
  refine wpStill_nil ?_
  change wpList _ _ _ _ _ W.drew
  clear a0 a1 a2 a3 a4 a5 b0 b1 b2 b3 b4 b5
  generalize W.drew = W2 at *
  generalize cmpZ x.e.t y.e.t = c0 at *
  generalize cmpZ x.e.k y.e.k = c1 at *
  generalize cmpZ x.e.n y.e.n = c2 at *
  generalize cmpZ x.e.m y.e.m = c3 at *
  generalize cmpZ (x.u : Int) (y.u : Int) = c4 at *
  have hO := or_any [c0, c1, c2, c3, c4] W2.heap.size 5 (W2.alloc (.cells #[.int .i64 c0, .int .i64 c1, .int .i64 c2, .int .i64 c3, .int .i64 c4] 3)) (ints5 (Whole.new _ _ _)) (by simp)
  generalize orL [c0, c1, c2, c3, c4] = o at *
  have HO := Lib.hid hO
  clear hO
  go_wp2_with (go_at_call 64; refine HO.out.mono ?_; rintro e w' ⟨rfl, rfl⟩)
  go_ret
  exact ⟨by rw [← HLS.out]; rfl, HBL.out.alloc HBL.out.size _⟩

end Go.Proofs.Ytchfponnajednaa
