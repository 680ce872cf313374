/- A range over a function whose rounds are numbered: the body is told which round it is. (The library's laws tell it only that rounds have come.) No condition. -/
import Derived.RangeFuncNested
import Derived.RangeFuncBound
import Derived.RangeFuncCalls
import Derived.RangeFuncLeaves
import Derived.RangeFuncBox
import Derived.Shelf.Abstract
import Derived.Shelf.RegionOpen
import Derived.OwnWalkIn
import Derived.TacticsInMore
import Derived.LoopNIn
import Derived.LoopIn
import Derived.Test.YteljalgfkmnamaaLDef
namespace Go.Proofs.Yteljalgfkmnamaa
open Go.RowKit

/-- What was laid from N on, and lay in A, lies in B as it lay. -/
def Since (N : Nat) (A B : World) : Prop := ∀ i, N ≤ i → i < A.heap.size → B.heap[i]? = A.heap[i]?

/-- The iterator hands 'encs 1', 'encs 2' and on, 'encs M' last, unless a round says that it is enough. -/
def Rounds (m : Nat) (P : Program) (gf : Nat) (lb : Array Value) (encs : Nat → Array Value) (M : Nat) (w : World) : Prop :=
  ∀ (l : Nat) (J Jx : Nat → World → Prop) (W : World), Below w.heap.size w W → (∀ k A o, J k A → J k (A.alloc o)) →
    (∀ k A, k < M → J k A → YieldAt Fence.wide (m - 1) P l (encs (k + 1)) A fun e B =>
      (e = .returned (.bool true) ∧ J (k + 1) B ∧ Since W.heap.size A B) ∨ (e = .returned (.bool false) ∧ Jx (k + 1) B)) →
    J 0 W → CallsIn Fence.wide m P gf (#[.func (.yield l) #[] #[]] ++ lb) W fun e B => (∃ v, e = .returned v) ∧ (J M B ∨ ∃ k, 1 ≤ k ∧ k ≤ M ∧ Jx k B)

/-- How the body of round k may be left: blocks outside S lie as they lay. -/
def roundEnd (S : Nat → Prop) (I : Nat → World → Prop) (X : Code → Nat → World → Prop) (k : Nat) (W : World) : Exit → Act → World → Prop
  | .normal, _, V => Kept S W V ∧ I k V
  | .ret, _, V => Kept S W V ∧ X .ret k V
  | .exit id, _, V => Kept S W V ∧ X (.exit id) k V
  | .goto t, _, V => Kept S W V ∧ X (.goto t) k V
  | .panic _, _, _ => False
  | .outgrown, _, _ => False

theorem Kept.putObj {S : Nat → Prop} {a b : World} (h : Kept S a b) {l : Nat} (hl : a.heap.size ≤ l) (o : Obj) : Kept S a (b.putObj l o) :=
  ⟨h.os, h.tape, h.output, by simpa using h.size, fun i hi hn => (World.putObj_heap_other (by omega)).trans (h.block i hi hn)⟩

section
variable {P : Program} {n : Nat} {g : Operand} {ps : Array Tmp} {assign body : Code} {Q : Exit → Act → World → Prop} {a : Act} {w : World}

theorem wpIn_rounds {S : Nat → Prop} (hS : ∀ i, S i → i < w.heap.size) (h1 : 1 ≤ n) {gf : Nat} {lb : Array Value} (hg : a.eval g = .func (.func gf) #[] lb)
    (eg : ∀ args W, (callFunc gf args).run P W = .ok (.enter gf args) W) {encs : Nat → Array Value} {M : Nat} (hps : ∀ k, (encs k).size = ps.size) (hseq : Rounds (n - 1) P gf lb encs M w)
    (I : Nat → World → Prop) (X : Code → Nat → World → Prop) (hI : ∀ k A B, (∀ i, S i → B.heap[i]? = A.heap[i]?) → I k A → I k B) (hX : ∀ c k A B, (∀ i, S i → B.heap[i]? = A.heap[i]?) → X c k A → X c k B)
    (h0 : I 0 w) (a₁ : Nat → Act)
    (hassign : ∀ (l k : Nat) (W : World) (K : Act → World → Prop), K (a₁ k) W →
      assign.wpIn (Fence.wide.inRound l) (n - 1 - 1) P (Exit.then K (fun _ _ _ => False)) { tmps := (ps.zip (encs k)).foldl (fun t (p, v) => t.setIfInBounds p v) a.tmps, defers := [] } W)
    (hbody : ∀ (l k : Nat) (W : World), k < M → Kept S w W → I k W → body.wpIn (Fence.wide.inRound l) (n - 1 - 1) P (roundEnd S I X (k + 1) W) (a₁ (k + 1)) W)
    (hdone : ∀ (D : Nat) (W : World), w.heap.size ≤ D → Kept S w W → I M W → W.heap[D]? = some (.deferred (some [])) → Q .normal { a with defers := { target := .collected D, args := #[] } :: a.defers } W)
    (hstop : ∀ (D : Nat) (c : Code) (k : Nat) (W : World), w.heap.size ≤ D → 1 ≤ k → k ≤ M → Kept S w W → X c k W → W.heap[D]? = some (.deferred (some [])) →
      c.wpIn Fence.wide n P Q { a with defers := { target := .collected D, args := #[] } :: a.defers } W) :
    (Code.rangeFunc g ps assign body).wpIn Fence.wide n P Q a w := by
  refine wpIn_rangeFunc fun fn _ => ?_
  let R : LoopState → Option Code → Loop := fun st pe => { state := st, pending := pe, fn, tmps := a.tmps, params := ps, assign, body, defers := w.heap.size }
  let d0 := w.alloc (.deferred (some []))
  let W1 := d0.alloc (.loop (R .ready none))
  have z0 : d0.heap.size = w.heap.size + 1 := by simp [d0]
  have z1 : W1.heap.size = w.heap.size + 2 := by simp [W1, z0]
  have b1 : Below w.heap.size w W1 := ((Below.refl _ w).alloc (Nat.le_refl _) _).alloc (by simp) _
  have l1 : W1.heap[w.heap.size + 1]? = some (.loop (R .ready none)) := by rw [← z0]; exact World.alloc_heap_new d0 _
  have c1 : W1.heap[w.heap.size]? = some (.deferred (some [])) := (Below.heap_alloc d0 _ _ (by omega)).trans (World.alloc_heap_new w _)
  have sOf : ∀ {A B : World}, (∀ i, i < w.heap.size → B.heap[i]? = A.heap[i]?) → ∀ i, S i → B.heap[i]? = A.heap[i]? := fun h i hi => h i (hS i hi)
  have far : ∀ {A : World} {l : Nat} {o : Obj}, w.heap.size ≤ l → ∀ i, i < w.heap.size → (A.putObj l o).heap[i]? = A.heap[i]? := fun hl i hi => World.putObj_heap_other (by omega)
  refine ⟨w.heap.size + 1, [{ target := .collected w.heap.size, args := #[] }], W1, { target := .fn (.func gf) lb, args := #[.func (.yield (w.heap.size + 1)) #[] #[]] }, W1, gf,
    #[.func (.yield (w.heap.size + 1)) #[] #[]] ++ lb, W1, run_enterLoop_outer _ _ _ _ _, ?_, fun _ _ => trivial, ?_, fun _ => h1, ?_⟩
  · simp only [resolve, hg]
    simp [go_sem]
  · simp [invoke, go_sem, eg]
  refine (hseq (w.heap.size + 1) (fun k V => Kept S w V ∧ I k V ∧ V.heap[w.heap.size + 1]? = some (.loop (R .ready none)) ∧ V.heap[w.heap.size]? = some (.deferred (some [])))
    (fun k V => ∃ c, Kept S w V ∧ X c k V ∧ V.heap[w.heap.size + 1]? = some (.loop (R .done (some c))) ∧ V.heap[w.heap.size]? = some (.deferred (some [])))
    W1 b1 ?_ ?_ ⟨Kept.of_below b1 S, hI 0 w W1 (sOf fun i hi => b1.block i hi) h0, l1, c1⟩).mono ?_
  · rintro k A o ⟨hk, hi, hl, hc⟩
    have up : ∀ i, i < A.heap.size → (A.alloc o).heap[i]? = A.heap[i]? := fun i h => Below.heap_alloc A o i h
    have hs := hk.size
    exact ⟨hk.alloc o, hI k A _ (sOf fun i h => up i (by omega)) hi, (up _ (Array.getElem?_eq_some_iff.1 hl).1).trans hl, (up _ (Array.getElem?_eq_some_iff.1 hc).1).trans hc⟩
  · rintro k A hkM ⟨hk, hi, hl, hc⟩
    have hlt : w.heap.size + 1 < A.heap.size := (Array.getElem?_eq_some_iff.1 hl).1
    let B := A.putObj (w.heap.size + 1) (.loop { R .ready none with state := .busy })
    have hlB : B.heap[w.heap.size + 1]? = some (.loop { R .ready none with state := .busy }) := World.putObj_heap_same hlt
    have hcB : B.heap[w.heap.size]? = some (.deferred (some [])) := (World.putObj_heap_other (by omega)).trans hc
    refine ⟨fn, _, assign, body, run_yield hl (hps (k + 1)), roundIn_of_wpIn trivial (hassign (w.heap.size + 1) (k + 1) A _ ⟨B, run_beginRound hl rfl, ?_⟩)⟩
    refine wpIn_mono (hbody _ k B hkM (hk.putObj (by omega) _) (hI k A B (sOf (far (by omega))) hi)) ?_
    have last : ∀ (jump : Option Code) (V : World), Kept S B V →
        (Instr.endRound (w.heap.size + 1) jump).run P V = .ok (.bool jump.isNone) (V.putObj (w.heap.size + 1) (.loop (R (if jump.isNone then .ready else .done) jump))) ∧
        Kept S w (V.putObj (w.heap.size + 1) (.loop (R (if jump.isNone then .ready else .done) jump))) ∧
        (V.putObj (w.heap.size + 1) (.loop (R (if jump.isNone then .ready else .done) jump))).heap[w.heap.size + 1]? = some (.loop (R (if jump.isNone then .ready else .done) jump)) ∧
        (V.putObj (w.heap.size + 1) (.loop (R (if jump.isNone then .ready else .done) jump))).heap[w.heap.size]? = some (.deferred (some [])) ∧
        Since W1.heap.size A (V.putObj (w.heap.size + 1) (.loop (R (if jump.isNone then .ready else .done) jump))) := fun jump V hV => by
      have out : ∀ i, w.heap.size ≤ i → ¬ S i := fun i hi hs => by have := hS i hs; omega
      have hBz : B.heap.size = A.heap.size := by simp [B]
      have hlV : V.heap[w.heap.size + 1]? = _ := (hV.block _ (by omega) (out _ (by omega))).trans hlB
      refine ⟨run_endRound jump hlV, ((hk.putObj (by omega) _).trans hV fun i _ h => h).putObj (by omega) _, World.putObj_heap_same (Array.getElem?_eq_some_iff.1 hlV).1,
        (World.putObj_heap_other (by omega)).trans ((hV.block _ (by omega) (out _ (Nat.le_refl _))).trans hcB), fun i h2 h3 => ?_⟩
      exact (World.putObj_heap_other (by omega)).trans ((hV.block i (by omega) (out i (by omega))).trans (World.putObj_heap_other (by omega)))
    rintro e a3 V hp
    cases e with
    | normal =>
      obtain ⟨hr, hk2, hl2, hc2, hs2⟩ := last none V hp.1
      exact ⟨_, _, hr, .inl ⟨rfl, ⟨hk2, hI _ _ _ (sOf (far (by omega))) hp.2, hl2, hc2⟩, hs2⟩⟩
    | ret =>
      obtain ⟨hr, hk2, hl2, hc2, _⟩ := last (some .ret) V hp.1
      exact ⟨_, _, hr, .inr ⟨rfl, _, hk2, hX _ _ _ _ (sOf (far (by omega))) hp.2, hl2, hc2⟩⟩
    | exit id =>
      obtain ⟨hr, hk2, hl2, hc2, _⟩ := last (some (.exit id)) V hp.1
      exact ⟨_, _, hr, .inr ⟨rfl, _, hk2, hX _ _ _ _ (sOf (far (by omega))) hp.2, hl2, hc2⟩⟩
    | goto t =>
      obtain ⟨hr, hk2, hl2, hc2, _⟩ := last (some (.goto t)) V hp.1
      exact ⟨_, _, hr, .inr ⟨rfl, _, hk2, hX _ _ _ _ (sOf (far (by omega))) hp.2, hl2, hc2⟩⟩
    | panic ch => exact hp.elim
    | outgrown => exact hp.elim
  · rintro e V ⟨⟨v, rfl⟩, (⟨hk, hi, hl, hc⟩ | ⟨k, k1, k2, c, hk, hx, hl, hc⟩)⟩
    · exact ⟨none, _, run_endLoop hl (by simp [R]), hdone _ _ (Nat.le_refl _) (hk.putObj (by omega) _) (hI _ _ _ (sOf (far (by omega))) hi) ((World.putObj_heap_other (by omega)).trans hc)⟩
    · exact ⟨some c, _, run_endLoop hl (by simp [R]), hstop _ c k _ (Nat.le_refl _) k1 k2 (hk.putObj (by omega) _) (hX _ _ _ _ (sOf (far (by omega))) hx) ((World.putObj_heap_other (by omega)).trans hc)⟩
end

end Go.Proofs.Yteljalgfkmnamaa
