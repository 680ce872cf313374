/- A range over a function whose iterator may write blocks of its own between two rounds, and whose body writes what is its own, and grows: a law. No condition. -/
import Derived.RangeFuncNested
import Derived.RangeFuncBound
import Derived.RangeFuncCalls
import Derived.RangeFuncLeaves
import Derived.RangeFuncBox
import Derived.Shelf.Abstract
import Derived.Shelf.RegionOpen
import Derived.OwnWalkIn
import Derived.TacticsInMore
import Derived.LoopNIn
import Derived.LoopIn
import Derived.Test.YtjgbgakdnapdhaaMem
namespace Go.Proofs.Ytjgbgakdnapdhaa
open Go.RowKit Go.Shelf

/-- Of the first N blocks those outside S are as they were. -/
structure KeptTo (N : Nat) (S : Nat → Prop) (w w' : World) : Prop where
  os : w'.os = w.os
  tape : w'.tape = w.tape
  output : w'.output = w.output
  size : w.heap.size ≤ w'.heap.size
  block : ∀ k, k < N → ¬ S k → w'.heap[k]? = w.heap[k]?
theorem KeptTo.refl (N : Nat) (S : Nat → Prop) (w : World) : KeptTo N S w w := ⟨rfl, rfl, rfl, Nat.le_refl _, fun _ _ _ => rfl⟩
theorem KeptTo.trans {N : Nat} {S : Nat → Prop} {a b c : World} (h : KeptTo N S a b) (k : KeptTo N S b c) : KeptTo N S a c :=
  ⟨k.os.trans h.os, k.tape.trans h.tape, k.output.trans h.output, Nat.le_trans h.size k.size, fun i hi hn => (k.block i hi hn).trans (h.block i hi hn)⟩
theorem KeptTo.mono {N M : Nat} {S T : Nat → Prop} {a b : World} (h : KeptTo N S a b) (hM : M ≤ N) (hT : ∀ i, S i → T i) : KeptTo M T a b :=
  ⟨h.os, h.tape, h.output, h.size, fun i hi hn => h.block i (by omega) (fun hs => hn (hT i hs))⟩
theorem KeptTo.of_kept {N : Nat} {S T : Nat → Prop} {a b : World} (h : Kept T a b) (hN : N ≤ a.heap.size) (hT : ∀ i, T i → S i) : KeptTo N S a b :=
  ⟨h.os, h.tape, h.output, h.size, fun i hi hn => h.block i (by omega) (fun ht => hn (hT i ht))⟩
theorem KeptTo.kept {S : Nat → Prop} {a b : World} (h : KeptTo a.heap.size S a b) : Kept S a b := ⟨h.os, h.tape, h.output, h.size, h.block⟩
theorem KeptTo.putObj {N : Nat} {S : Nat → Prop} {a b : World} (h : KeptTo N S a b) {l : Nat} (hl : N ≤ l) (o : Obj) : KeptTo N S a (b.putObj l o) :=
  ⟨h.os, h.tape, h.output, by simpa using h.size, fun i hi hn => (World.putObj_heap_other (by omega)).trans (h.block i hi hn)⟩
theorem kept_putObj {T : Nat → Prop} {a : World} {l : Nat} (hl : T l) (o : Obj) : Kept T a (a.putObj l o) :=
  ⟨rfl, rfl, rfl, by simp, fun i _ hn => World.putObj_heap_other (fun e => hn (by rw [e]; exact hl))⟩

/-- The iterator hands 'encs 1', 'encs 2' and on, 'encs M' last, unless a round says that it is enough; it turns blocks of T alone, and new ones; of a round it asks that K's blocks stay. -/
def TurnsOf (m : Nat) (P : Program) (gf : Nat) (lb : Array Value) (encs : Nat → Array Value) (M : Nat) (T K : Nat → Prop) (E : Nat → World → Prop) (w : World) : Prop :=
  ∀ (l : Nat) (J Jx : Nat → World → Prop) (W : World), Below w.heap.size w W → (∀ k A B, Kept T A B → J k A → J k B) →
    (∀ k A, k < M → J k A → YieldAt Fence.wide (m - 1) P l (encs (k + 1)) A fun e B =>
      (e = .returned (.bool true) ∧ J (k + 1) B ∧ ∀ i, K i → B.heap[i]? = A.heap[i]?) ∨ (e = .returned (.bool false) ∧ Jx (k + 1) B ∧ ∀ i, K i → B.heap[i]? = A.heap[i]?)) →
    J 0 W → CallsIn Fence.wide m P gf (#[.func (.yield l) #[] #[]] ++ lb) W fun e B => (∃ v, e = .returned v) ∧ ((J M B ∧ E M B) ∨ ∃ k, 1 ≤ k ∧ k ≤ M ∧ Jx k B ∧ E (k - 1) B)

/-- How the body of round k may be left. -/
def turnEnd (N : Nat) (S : Nat → Prop) (I : Nat → World → Prop) (X : Code → Nat → World → Prop) (k : Nat) (W : World) : Exit → Act → World → Prop
  | .normal, _, V => KeptTo N S W V ∧ I k V
  | .ret, _, V => KeptTo N S W V ∧ X .ret k V
  | .exit id, _, V => KeptTo N S W V ∧ X (.exit id) k V
  | .goto t, _, V => KeptTo N S W V ∧ X (.goto t) k V
  | .panic _, _, _ => False
  | .outgrown, _, _ => False

section
variable {P : Program} {n : Nat} {g : Operand} {ps : Array Tmp} {assign body : Code} {Q : Exit → Act → World → Prop} {a : Act} {w : World}

theorem wpIn_turns {S T K : Nat → Prop} (hS : ∀ i, S i → i < w.heap.size) (hT : ∀ i, T i → i < w.heap.size) (hK : ∀ i, K i → i < w.heap.size ∧ ¬ S i) (h1 : 1 ≤ n) {gf : Nat} {lb : Array Value} (hg : a.eval g = .func (.func gf) #[] lb)
    (eg : ∀ args W, (callFunc gf args).run P W = .ok (.enter gf args) W) {encs : Nat → Array Value} {M : Nat} (hps : ∀ k, (encs k).size = ps.size) {E : Nat → World → Prop} (hE : ∀ k A B, (∀ i, K i → B.heap[i]? = A.heap[i]?) → E k A → E k B) (hseq : TurnsOf (n - 1) P gf lb encs M T K E w)
    (I : Nat → World → Prop) (X : Code → Nat → World → Prop) (Ax : Nat → Act → World → Prop)
    (hI : ∀ k A B, Kept (fun i => T i ∨ i = w.heap.size ∨ i = w.heap.size + 1) A B → I k A → I k B) (hX : ∀ c k A B, Kept (fun i => T i ∨ i = w.heap.size ∨ i = w.heap.size + 1) A B → X c k A → X c k B)
    (hAx : ∀ k a2 A B, Kept (fun i => i = w.heap.size ∨ i = w.heap.size + 1) A B → Ax k a2 A → Ax k a2 B)
    (h0 : I 0 w)
    (hassign : ∀ (l k : Nat) (W : World) (K : Act → World → Prop), w.heap.size + 2 ≤ W.heap.size → (∀ a2 W2, Below W.heap.size W W2 → Ax k a2 W2 → K a2 W2) →
      assign.wpIn (Fence.wide.inRound l) (n - 1 - 1) P (Exit.then K (fun _ _ _ => False)) { tmps := (ps.zip (encs k)).foldl (fun t (p, v) => t.setIfInBounds p v) a.tmps, defers := [] } W)
    (hbody : ∀ (l k : Nat) (W : World) (a2 : Act), k < M → w.heap.size + 2 ≤ W.heap.size → KeptTo w.heap.size (fun i => S i ∨ T i) w W → I k W → Ax (k + 1) a2 W → body.wpIn (Fence.wide.inRound l) (n - 1 - 1) P (turnEnd (w.heap.size + 2) S I X (k + 1) W) a2 W)
    (hdone : ∀ (D : Nat) (W : World), w.heap.size ≤ D → KeptTo w.heap.size (fun i => S i ∨ T i) w W → I M W → E M W → W.heap[D]? = some (.deferred (some [])) → Q .normal { a with defers := { target := .collected D, args := #[] } :: a.defers } W)
    (hstop : ∀ (D : Nat) (c : Code) (k : Nat) (W : World), w.heap.size ≤ D → 1 ≤ k → k ≤ M → KeptTo w.heap.size (fun i => S i ∨ T i) w W → X c k W → E (k - 1) W → W.heap[D]? = some (.deferred (some [])) →
      c.wpIn Fence.wide n P Q { a with defers := { target := .collected D, args := #[] } :: a.defers } W) :
    (Code.rangeFunc g ps assign body).wpIn Fence.wide n P Q a w := by
  refine wpIn_rangeFunc fun fn _ => ?_
  let R : LoopState → Option Code → Loop := fun st pe => { state := st, pending := pe, fn, tmps := a.tmps, params := ps, assign, body, defers := w.heap.size }
  let d0 := w.alloc (.deferred (some []))
  let W1 := d0.alloc (.loop (R .ready none))
  have z0 : d0.heap.size = w.heap.size + 1 := by simp [d0]
  have z1 : W1.heap.size = w.heap.size + 2 := by simp [W1, z0]
  have b1 : Below w.heap.size w W1 := ((Below.refl _ w).alloc (Nat.le_refl _) _).alloc (by simp) _
  have l1 : W1.heap[w.heap.size + 1]? = some (.loop (R .ready none)) := by rw [← z0]; exact World.alloc_heap_new d0 _
  have c1 : W1.heap[w.heap.size]? = some (.deferred (some [])) := (Below.heap_alloc d0 _ _ (by omega)).trans (World.alloc_heap_new w _)
  have noS : ∀ i, w.heap.size ≤ i → ¬ S i := fun i hi hs => by have := hS i hs; omega
  have noT : ∀ i, w.heap.size ≤ i → ¬ T i := fun i hi hs => by have := hT i hs; omega
  refine ⟨w.heap.size + 1, [{ target := .collected w.heap.size, args := #[] }], W1, { target := .fn (.func gf) lb, args := #[.func (.yield (w.heap.size + 1)) #[] #[]] }, W1, gf,
    #[.func (.yield (w.heap.size + 1)) #[] #[]] ++ lb, W1, run_enterLoop_outer _ _ _ _ _, ?_, fun _ _ => trivial, ?_, fun _ => h1, ?_⟩
  · simp only [resolve, hg]
    simp [go_sem]
  · simp [invoke, go_sem, eg]
  refine (hseq (w.heap.size + 1) (fun k V => KeptTo w.heap.size (fun i => S i ∨ T i) w V ∧ I k V ∧ V.heap[w.heap.size + 1]? = some (.loop (R .ready none)) ∧ V.heap[w.heap.size]? = some (.deferred (some [])))
    (fun k V => ∃ c, KeptTo w.heap.size (fun i => S i ∨ T i) w V ∧ X c k V ∧ V.heap[w.heap.size + 1]? = some (.loop (R .done (some c))) ∧ V.heap[w.heap.size]? = some (.deferred (some [])))
    W1 b1 ?_ ?_ ⟨KeptTo.of_kept (Kept.of_below b1 S) (Nat.le_refl _) (fun _ h => .inl h), hI 0 w W1 (Kept.of_below b1 _) h0, l1, c1⟩).mono ?_
  · rintro k A B hb ⟨hk, hi, hl, hc⟩
    have hs := hk.size
    exact ⟨hk.trans (KeptTo.of_kept hb hs (fun _ h => .inr h)), hI k A _ (hb.mono fun _ h => .inl h) hi, (hb.block _ (Array.getElem?_eq_some_iff.1 hl).1 (noT _ (by omega))).trans hl, (hb.block _ (Array.getElem?_eq_some_iff.1 hc).1 (noT _ (Nat.le_refl _))).trans hc⟩
  · rintro k A hkM ⟨hk, hi, hl, hc⟩
    have hlt : w.heap.size + 1 < A.heap.size := (Array.getElem?_eq_some_iff.1 hl).1
    refine ⟨fn, _, assign, body, run_yield hl (hps (k + 1)), roundIn_of_wpIn trivial (hassign (w.heap.size + 1) (k + 1) A _ (by omega) fun a2 W2 hb2 hax => ?_)⟩
    have hl2 : W2.heap[w.heap.size + 1]? = some (.loop (R .ready none)) := (hb2.block _ hlt).trans hl
    have hc2 : W2.heap[w.heap.size]? = some (.deferred (some [])) := (hb2.block _ (by omega)).trans hc
    have hs2 := hb2.size
    let B := W2.putObj (w.heap.size + 1) (.loop { R .ready none with state := .busy })
    have hlB : B.heap[w.heap.size + 1]? = some (.loop { R .ready none with state := .busy }) := World.putObj_heap_same (by omega)
    have hcB : B.heap[w.heap.size]? = some (.deferred (some [])) := (World.putObj_heap_other (by omega)).trans hc2
    have hBz : B.heap.size = W2.heap.size := by simp [B]
    have hkB : KeptTo w.heap.size (fun i => S i ∨ T i) w B := (hk.trans (KeptTo.of_kept (Kept.of_below hb2 S) hk.size (fun _ h => .inl h))).putObj (by omega) _
    have hIB : I k B := hI k W2 B (kept_putObj (.inr (.inr rfl)) _) (hI k A W2 (Kept.of_below hb2 _) hi)
    refine ⟨B, run_beginRound hl2 rfl, ?_⟩
    refine wpIn_mono (hbody _ k B a2 hkM (by omega) hkB hIB (hAx _ _ W2 B (kept_putObj (.inr rfl) _) hax)) ?_
    have last : ∀ (jump : Option Code) (V : World), KeptTo (w.heap.size + 2) S B V →
        (Instr.endRound (w.heap.size + 1) jump).run P V = .ok (.bool jump.isNone) (V.putObj (w.heap.size + 1) (.loop (R (if jump.isNone then .ready else .done) jump))) ∧
        KeptTo w.heap.size (fun i => S i ∨ T i) w (V.putObj (w.heap.size + 1) (.loop (R (if jump.isNone then .ready else .done) jump))) ∧
        (V.putObj (w.heap.size + 1) (.loop (R (if jump.isNone then .ready else .done) jump))).heap[w.heap.size + 1]? = some (.loop (R (if jump.isNone then .ready else .done) jump)) ∧
        (V.putObj (w.heap.size + 1) (.loop (R (if jump.isNone then .ready else .done) jump))).heap[w.heap.size]? = some (.deferred (some [])) ∧
        (∀ i, K i → (V.putObj (w.heap.size + 1) (.loop (R (if jump.isNone then .ready else .done) jump))).heap[i]? = A.heap[i]?) := fun jump V hV => by
      have hlV : V.heap[w.heap.size + 1]? = _ := (hV.block _ (by omega) (noS _ (by omega))).trans hlB
      refine ⟨run_endRound jump hlV, (hkB.trans (hV.mono (by omega) (fun _ h => .inl h))).putObj (by omega) _, World.putObj_heap_same (Array.getElem?_eq_some_iff.1 hlV).1,
        (World.putObj_heap_other (by omega)).trans ((hV.block _ (by omega) (noS _ (Nat.le_refl _))).trans hcB), fun i hi => ?_⟩
      obtain ⟨k1, k2⟩ := hK i hi
      exact (World.putObj_heap_other (by omega)).trans ((hV.block i (by omega) k2).trans ((World.putObj_heap_other (by omega)).trans (hb2.block i (by omega))))
    have hIe : ∀ (k' : Nat) (V : World) (o : Obj), I k' V → I k' (V.putObj (w.heap.size + 1) o) := fun k' V o h => hI k' V _ (kept_putObj (.inr (.inr rfl)) _) h
    have hXe : ∀ (c : Code) (k' : Nat) (V : World) (o : Obj), X c k' V → X c k' (V.putObj (w.heap.size + 1) o) := fun c k' V o h => hX c k' V _ (kept_putObj (.inr (.inr rfl)) _) h
    rintro e a3 V hp
    cases e with
    | normal =>
      obtain ⟨hr, hk2, hl2, hc2, hs2⟩ := last none V hp.1
      exact ⟨_, _, hr, .inl ⟨rfl, ⟨hk2, hIe _ _ _ hp.2, hl2, hc2⟩, hs2⟩⟩
    | ret =>
      obtain ⟨hr, hk2, hl2, hc2, hs2⟩ := last (some .ret) V hp.1
      exact ⟨_, _, hr, .inr ⟨rfl, ⟨_, hk2, hXe _ _ _ _ hp.2, hl2, hc2⟩, hs2⟩⟩
    | exit id =>
      obtain ⟨hr, hk2, hl2, hc2, hs2⟩ := last (some (.exit id)) V hp.1
      exact ⟨_, _, hr, .inr ⟨rfl, ⟨_, hk2, hXe _ _ _ _ hp.2, hl2, hc2⟩, hs2⟩⟩
    | goto t =>
      obtain ⟨hr, hk2, hl2, hc2, hs2⟩ := last (some (.goto t)) V hp.1
      exact ⟨_, _, hr, .inr ⟨rfl, ⟨_, hk2, hXe _ _ _ _ hp.2, hl2, hc2⟩, hs2⟩⟩
    | panic ch => exact hp.elim
    | outgrown => exact hp.elim
  · have hEe : ∀ (k' : Nat) (V : World) (o : Obj), E k' V → E k' (V.putObj (w.heap.size + 1) o) := fun k' V o h => hE k' V _ (fun i hi => World.putObj_heap_other (by have := (hK i hi).1; omega)) h
    rintro e V ⟨⟨v, rfl⟩, (⟨⟨hk, hi, hl, hc⟩, he⟩ | ⟨k, k1, k2, ⟨c, hk, hx, hl, hc⟩, he⟩)⟩
    · exact ⟨none, _, run_endLoop hl (by simp [R]), hdone _ _ (Nat.le_refl _) (hk.putObj (by omega) _) (hI _ _ _ (kept_putObj (.inr (.inr rfl)) _) hi) (hEe _ _ _ he) ((World.putObj_heap_other (by omega)).trans hc)⟩
    · exact ⟨some c, _, run_endLoop hl (by simp [R]), hstop _ c k _ (Nat.le_refl _) k1 k2 (hk.putObj (by omega) _) (hX _ _ _ _ (kept_putObj (.inr (.inr rfl)) _) hx) (hEe _ _ _ he) ((World.putObj_heap_other (by omega)).trans hc)⟩
end
end Go.Proofs.Ytjgbgakdnapdhaa
