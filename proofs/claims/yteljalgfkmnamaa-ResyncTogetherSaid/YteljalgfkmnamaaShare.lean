/- A range over a function whose iterator keeps blocks of its own, begins with all that was there, and whose body keeps others, both of which grow: a law. No condition. -/
import Derived.RangeFuncNested
import Derived.RangeFuncBound
import Derived.RangeFuncCalls
import Derived.RangeFuncLeaves
import Derived.RangeFuncBox
import Derived.Shelf.Abstract
import Derived.Shelf.RegionOpen
import Derived.OwnWalkIn
import Derived.TacticsInMore
import Derived.LoopNIn
import Derived.LoopIn
import Derived.Test.YteljalgfkmnamaaMem
namespace Go.Proofs.Yteljalgfkmnamaa
open Go.RowKit Go.Shelf

theorem kept_putObj {T : Nat → Prop} {a : World} {l : Nat} (hl : T l) (o : Obj) : Kept T a (a.putObj l o) :=
  ⟨rfl, rfl, rfl, by simp, fun i _ hn => World.putObj_heap_other (fun e => hn (by rw [e]; exact hl))⟩

/-- The iterator hands what Enc says, M times, unless a round says that it is enough. F are its own blocks, G those of whoever ranges over it: neither touches the other's. -/
def ShareB (m : Nat) (P : Program) (gf : Nat) (lb : Array Value) (M : Nat) (Enc : Nat → Array Value → (Nat → Prop) → World → Prop) (F0 : Nat → Prop) (w : World) : Prop :=
  ∀ (l : Nat) (J Jx : Nat → (Nat → Prop) → World → Prop) (W : World) (G0 : Nat → Prop), Below w.heap.size w W → (∀ i, G0 i → i < W.heap.size ∧ ¬ F0 i) →
    (∀ k G A B, J k G A → (∀ i, G i → i < A.heap.size) → Kept (fun i => ¬ G i) A B → J k G B) →
    (∀ k G F args A, k < M → J k G A → (∀ i, G i → i < A.heap.size ∧ ¬ F i) → (∀ i, F i → i < A.heap.size) → Enc (k + 1) args F A →
      YieldAt Fence.wide (m - 1) P l args A fun e B => ∃ G', Kept G A B ∧ (∀ i, G' i → i < B.heap.size ∧ ¬ F i) ∧ ((e = .returned (.bool true) ∧ J (k + 1) G' B) ∨ (e = .returned (.bool false) ∧ Jx (k + 1) G' B))) →
    J 0 G0 W → CallsIn Fence.wide m P gf (#[.func (.yield l) #[] #[]] ++ lb) W fun e B => (∃ v, e = .returned v) ∧ ∃ G, (∀ i, G i → i < B.heap.size) ∧ (J M G B ∨ ∃ k, 1 ≤ k ∧ k ≤ M ∧ Jx k G B)

/-- How the body of a round may be left. -/
def shareEndB (I : (Nat → Prop) → World → Prop) (X : Code → (Nat → Prop) → World → Prop) (G F : Nat → Prop) (z : Nat) (A : World) : Exit → Act → World → Prop
  | .normal, _, V => ∃ G', Kept G A V ∧ (∀ i, G' i → i < V.heap.size ∧ ¬ F i ∧ i ≠ z ∧ i ≠ z + 1) ∧ I G' V
  | .ret, _, V => ∃ G', Kept G A V ∧ (∀ i, G' i → i < V.heap.size ∧ ¬ F i ∧ i ≠ z ∧ i ≠ z + 1) ∧ X .ret G' V
  | .exit id, _, V => ∃ G', Kept G A V ∧ (∀ i, G' i → i < V.heap.size ∧ ¬ F i ∧ i ≠ z ∧ i ≠ z + 1) ∧ X (.exit id) G' V
  | .goto t, _, V => ∃ G', Kept G A V ∧ (∀ i, G' i → i < V.heap.size ∧ ¬ F i ∧ i ≠ z ∧ i ≠ z + 1) ∧ X (.goto t) G' V
  | .panic _, _, _ => False
  | .outgrown, _, _ => False

section
variable {P : Program} {n : Nat} {g : Operand} {ps : Array Tmp} {assign body : Code} {Q : Exit → Act → World → Prop} {a : Act} {w : World}

theorem wpIn_shareB {F0 G0 : Nat → Prop} (hF : ∀ i, F0 i → i < w.heap.size) (hG : ∀ i, G0 i → i < w.heap.size ∧ ¬ F0 i) (h1 : 1 ≤ n) {gf : Nat} {lb : Array Value} (hg : a.eval g = .func (.func gf) #[] lb)
    (eg : ∀ args W, (callFunc gf args).run P W = .ok (.enter gf args) W) {Enc : Nat → Array Value → (Nat → Prop) → World → Prop} {M : Nat} (hps : ∀ k args F A, Enc k args F A → args.size = ps.size) (hseq : ShareB (n - 1) P gf lb M Enc F0 w)
    (I : Nat → (Nat → Prop) → World → Prop) (X : Code → Nat → (Nat → Prop) → World → Prop) (Ax : Nat → (Nat → Prop) → Act → World → Prop)
    (hI : ∀ k G A B, I k G A → (∀ i, G i → i < A.heap.size) → Kept (fun i => ¬ G i) A B → I k G B) (hX : ∀ c k G A B, X c k G A → (∀ i, G i → i < A.heap.size) → Kept (fun i => ¬ G i) A B → X c k G B)
    (hAx : ∀ k F a2 A B, Kept (fun i => i = w.heap.size + 1) A B → Ax k F a2 A → Ax k F a2 B)
    (h0 : I 0 G0 w)
    (hassign : ∀ (l k : Nat) (args : Array Value) (F : Nat → Prop) (A : World) (K : Act → World → Prop), w.heap.size + 2 ≤ A.heap.size → Enc k args F A → (∀ i, F i → i < A.heap.size) → (∀ i, F i → i ≠ w.heap.size + 1) → (∀ i, (i = w.heap.size ∨ i = w.heap.size + 1) → ∀ cs t p, A.heap[i]? ≠ some (.cells cs t p)) → (∀ a2 W2, Below A.heap.size A W2 → Ax k F a2 W2 → K a2 W2) →
      assign.wpIn (Fence.wide.inRound l) (n - 1 - 1) P (Exit.then K (fun _ _ _ => False)) { tmps := (ps.zip args).foldl (fun t (p, v) => t.setIfInBounds p v) a.tmps, defers := [] } A)
    (hbody : ∀ (l k : Nat) (F G : Nat → Prop) (A : World) (a2 : Act), k < M → w.heap.size + 2 ≤ A.heap.size → I k G A → (∀ i, G i → i < A.heap.size ∧ ¬ F i ∧ i ≠ w.heap.size ∧ i ≠ w.heap.size + 1) → (∀ i, F i → i < A.heap.size) → (∀ i, (i = w.heap.size ∨ i = w.heap.size + 1) → ∀ cs t p, A.heap[i]? ≠ some (.cells cs t p)) → Ax (k + 1) F a2 A →
      body.wpIn (Fence.wide.inRound l) (n - 1 - 1) P (shareEndB (I (k + 1)) (fun c => X c (k + 1)) G F w.heap.size A) a2 A)
    (hdone : ∀ (D : Nat) (W : World) (G : Nat → Prop), w.heap.size ≤ D → I M G W → (∀ i, G i → i < W.heap.size ∧ i ≠ D) → W.heap[D]? = some (.deferred (some [])) → Q .normal { a with defers := { target := .collected D, args := #[] } :: a.defers } W)
    (hstop : ∀ (D : Nat) (c : Code) (k : Nat) (W : World) (G : Nat → Prop), w.heap.size ≤ D → 1 ≤ k → k ≤ M → X c k G W → (∀ i, G i → i < W.heap.size ∧ i ≠ D) → W.heap[D]? = some (.deferred (some [])) →
      c.wpIn Fence.wide n P Q { a with defers := { target := .collected D, args := #[] } :: a.defers } W) :
    (Code.rangeFunc g ps assign body).wpIn Fence.wide n P Q a w := by
  refine wpIn_rangeFunc fun fn _ => ?_
  let R : LoopState → Option Code → Loop := fun st pe => { state := st, pending := pe, fn, tmps := a.tmps, params := ps, assign, body, defers := w.heap.size }
  let d0 := w.alloc (.deferred (some []))
  let W1 := d0.alloc (.loop (R .ready none))
  have z0 : d0.heap.size = w.heap.size + 1 := by simp [d0]
  have z1 : W1.heap.size = w.heap.size + 2 := by simp [W1, z0]
  have b1 : Below w.heap.size w W1 := ((Below.refl _ w).alloc (Nat.le_refl _) _).alloc (by simp) _
  have l1 : W1.heap[w.heap.size + 1]? = some (.loop (R .ready none)) := by rw [← z0]; exact World.alloc_heap_new d0 _
  have c1 : W1.heap[w.heap.size]? = some (.deferred (some [])) := (Below.heap_alloc d0 _ _ (by omega)).trans (World.alloc_heap_new w _)
  refine ⟨w.heap.size + 1, [{ target := .collected w.heap.size, args := #[] }], W1, { target := .fn (.func gf) lb, args := #[.func (.yield (w.heap.size + 1)) #[] #[]] }, W1, gf,
    #[.func (.yield (w.heap.size + 1)) #[] #[]] ++ lb, W1, run_enterLoop_outer _ _ _ _ _, ?_, fun _ _ => trivial, ?_, fun _ => h1, ?_⟩
  · simp only [resolve, hg]
    simp [go_sem]
  · simp [invoke, go_sem, eg]
  refine (hseq (w.heap.size + 1)
    (fun k Gj V => ∃ G, (∀ i, Gj i ↔ (G i ∨ i = w.heap.size ∨ i = w.heap.size + 1)) ∧ I k G V ∧ ¬ G w.heap.size ∧ ¬ G (w.heap.size + 1) ∧ V.heap[w.heap.size + 1]? = some (.loop (R .ready none)) ∧ V.heap[w.heap.size]? = some (.deferred (some [])))
    (fun k Gj V => ∃ c G, (∀ i, Gj i ↔ (G i ∨ i = w.heap.size ∨ i = w.heap.size + 1)) ∧ X c k G V ∧ ¬ G w.heap.size ∧ ¬ G (w.heap.size + 1) ∧ V.heap[w.heap.size + 1]? = some (.loop (R .done (some c))) ∧ V.heap[w.heap.size]? = some (.deferred (some [])))
    W1 (fun i => G0 i ∨ i = w.heap.size ∨ i = w.heap.size + 1) b1 ?_ ?_ ?_ ⟨G0, fun _ => Iff.rfl, hI 0 G0 w W1 h0 (fun i hi => (hG i hi).1) (Kept.of_below b1 _), fun h => by have := (hG _ h).1; omega, fun h => by have := (hG _ h).1; omega, l1, c1⟩).mono ?_
  · rintro i (h | h | h)
    · have := hG i h
      exact ⟨by omega, this.2⟩
    · exact ⟨by omega, fun hf => by have := hF i hf; omega⟩
    · exact ⟨by omega, fun hf => by have := hF i hf; omega⟩
  · rintro k Gj A B ⟨G, he, hi, n0, n1, hl, hc⟩ hlt hk
    have hkG : Kept (fun i => ¬ G i) A B := hk.mono (fun i hn hg' => hn ((he i).2 (.inl hg')))
    have hsame : ∀ i, Gj i → B.heap[i]? = A.heap[i]? := fun i hgj => hk.block i (hlt i hgj) (fun hn => hn hgj)
    exact ⟨G, he, hI k G A B hi (fun i hg' => hlt i ((he i).2 (.inl hg'))) hkG, n0, n1, (hsame _ ((he _).2 (.inr (.inr rfl)))).trans hl, (hsame _ ((he _).2 (.inr (.inl rfl)))).trans hc⟩
  · rintro k Gj F args A hkM ⟨G, he, hi, n0, n1, hl, hc⟩ hdis hFl henc
    have hlt : w.heap.size + 1 < A.heap.size := (Array.getElem?_eq_some_iff.1 hl).1
    have nF0 : ∀ i, F i → i ≠ w.heap.size := fun i hf e => (hdis i ((he i).2 (.inr (.inl e)))).2 hf
    have nF1 : ∀ i, F i → i ≠ w.heap.size + 1 := fun i hf e => (hdis i ((he i).2 (.inr (.inr e)))).2 hf
    refine ⟨fn, _, assign, body, run_yield hl (hps _ _ _ _ henc), roundIn_of_wpIn trivial (hassign (w.heap.size + 1) (k + 1) args F A _ (by omega) henc hFl nF1 (by
      rintro i (rfl | rfl) cs t p e
      · rw [hc] at e; cases e
      · rw [hl] at e; cases e) fun a2 W2 hb2 hax => ?_)⟩
    have hl2 : W2.heap[w.heap.size + 1]? = some (.loop (R .ready none)) := (hb2.block _ hlt).trans hl
    have hc2 : W2.heap[w.heap.size]? = some (.deferred (some [])) := (hb2.block _ (by omega)).trans hc
    have hs2 := hb2.size
    let B := W2.putObj (w.heap.size + 1) (.loop { R .ready none with state := .busy })
    have hlB : B.heap[w.heap.size + 1]? = some (.loop { R .ready none with state := .busy }) := World.putObj_heap_same (by omega)
    have hcB : B.heap[w.heap.size]? = some (.deferred (some [])) := (World.putObj_heap_other (by omega)).trans hc2
    have hBz : B.heap.size = W2.heap.size := by simp [B]
    have kAB : Kept (fun i => i = w.heap.size + 1) A B := (Kept.of_below hb2 _).trans (kept_putObj (T := fun i => i = w.heap.size + 1) rfl _) (fun _ _ h => h)
    have hGl : ∀ i, G i → i < A.heap.size ∧ ¬ F i ∧ i ≠ w.heap.size ∧ i ≠ w.heap.size + 1 := fun i hg' => by
      have := hdis i ((he i).2 (.inl hg'))
      exact ⟨this.1, this.2, fun e => n0 (e ▸ hg'), fun e => n1 (e ▸ hg')⟩
    have hIB : I k G B := hI k G A B hi (fun i hg' => (hGl i hg').1) (kAB.mono (fun i e hg' => (hGl i hg').2.2.2 e))
    refine ⟨B, run_beginRound hl2 rfl, ?_⟩
    refine wpIn_mono (hbody _ k F G B a2 hkM (by omega) hIB (fun i hg' => ⟨by have := (hGl i hg').1; omega, (hGl i hg').2⟩) (fun i hf => by have := hFl i hf; omega) (by
      rintro i (rfl | rfl) cs t p e
      · rw [hcB] at e; cases e
      · rw [hlB] at e; cases e) (hAx _ _ _ W2 B (kept_putObj (T := fun i => i = w.heap.size + 1) rfl _) hax)) ?_
    have last : ∀ (jump : Option Code) (V : World), Kept G B V →
        (Instr.endRound (w.heap.size + 1) jump).run P V = .ok (.bool jump.isNone) (V.putObj (w.heap.size + 1) (.loop (R (if jump.isNone then .ready else .done) jump))) ∧
        Kept Gj A (V.putObj (w.heap.size + 1) (.loop (R (if jump.isNone then .ready else .done) jump))) ∧
        (V.putObj (w.heap.size + 1) (.loop (R (if jump.isNone then .ready else .done) jump))).heap[w.heap.size + 1]? = some (.loop (R (if jump.isNone then .ready else .done) jump)) ∧
        (V.putObj (w.heap.size + 1) (.loop (R (if jump.isNone then .ready else .done) jump))).heap[w.heap.size]? = some (.deferred (some [])) := fun jump V hV => by
      have hlV : V.heap[w.heap.size + 1]? = _ := (hV.block _ (by omega) n1).trans hlB
      refine ⟨run_endRound jump hlV, ?_, World.putObj_heap_same (Array.getElem?_eq_some_iff.1 hlV).1,
        (World.putObj_heap_other (by omega)).trans ((hV.block _ (by omega) n0).trans hcB)⟩
      exact ((kAB.mono (fun i e => (he i).2 (.inr (.inr e)))).trans (hV.mono (fun i h => (he i).2 (.inl h))) (fun _ _ h => h)).trans (kept_putObj (T := Gj) ((he _).2 (.inr (.inr rfl))) _) (fun _ _ h => h)
    have more : ∀ (V : World) (o : Obj) (G' : Nat → Prop), (∀ i, G' i → i < V.heap.size ∧ ¬ F i ∧ i ≠ w.heap.size ∧ i ≠ w.heap.size + 1) → w.heap.size + 1 < V.heap.size →
        (∀ i, (G' i ∨ i = w.heap.size ∨ i = w.heap.size + 1) → i < (V.putObj (w.heap.size + 1) o).heap.size ∧ ¬ F i) ∧ Kept (fun i => ¬ G' i) V (V.putObj (w.heap.size + 1) o) := fun V o G' hb hz => by
      refine ⟨fun i hi => ?_, kept_putObj (T := fun i => ¬ G' i) (fun hg' => (hb _ hg').2.2.2 rfl) _⟩
      have hz' : (V.putObj (w.heap.size + 1) o).heap.size = V.heap.size := by simp
      rcases hi with h | h | h
      · exact ⟨by have := (hb i h).1; omega, (hb i h).2.1⟩
      · exact ⟨by omega, fun hf => nF0 i hf h⟩
      · exact ⟨by omega, fun hf => nF1 i hf h⟩
    rintro e a3 V hp
    cases e with
    | normal =>
      obtain ⟨G', hk, hb, hi'⟩ := hp
      obtain ⟨hr, hk2, hl2, hc2⟩ := last none V hk
      have hz := hk.size
      obtain ⟨m1, m2⟩ := more V (.loop (R .ready none)) G' hb (by omega)
      exact ⟨_, _, hr, _, hk2, m1, .inl ⟨rfl, G', fun _ => Iff.rfl, hI _ _ _ _ hi' (fun i h => (hb i h).1) m2, fun h => (hb _ h).2.2.1 rfl, fun h => (hb _ h).2.2.2 rfl, hl2, hc2⟩⟩
    | ret =>
      obtain ⟨G', hk, hb, hi'⟩ := hp
      obtain ⟨hr, hk2, hl2, hc2⟩ := last (some .ret) V hk
      have hz := hk.size
      obtain ⟨m1, m2⟩ := more V (.loop (R .done (some .ret))) G' hb (by omega)
      exact ⟨_, _, hr, _, hk2, m1, .inr ⟨rfl, _, G', fun _ => Iff.rfl, hX _ _ _ _ _ hi' (fun i h => (hb i h).1) m2, fun h => (hb _ h).2.2.1 rfl, fun h => (hb _ h).2.2.2 rfl, hl2, hc2⟩⟩
    | exit id =>
      obtain ⟨G', hk, hb, hi'⟩ := hp
      obtain ⟨hr, hk2, hl2, hc2⟩ := last (some (.exit id)) V hk
      have hz := hk.size
      obtain ⟨m1, m2⟩ := more V (.loop (R .done (some (.exit id)))) G' hb (by omega)
      exact ⟨_, _, hr, _, hk2, m1, .inr ⟨rfl, _, G', fun _ => Iff.rfl, hX _ _ _ _ _ hi' (fun i h => (hb i h).1) m2, fun h => (hb _ h).2.2.1 rfl, fun h => (hb _ h).2.2.2 rfl, hl2, hc2⟩⟩
    | goto t =>
      obtain ⟨G', hk, hb, hi'⟩ := hp
      obtain ⟨hr, hk2, hl2, hc2⟩ := last (some (.goto t)) V hk
      have hz := hk.size
      obtain ⟨m1, m2⟩ := more V (.loop (R .done (some (.goto t)))) G' hb (by omega)
      exact ⟨_, _, hr, _, hk2, m1, .inr ⟨rfl, _, G', fun _ => Iff.rfl, hX _ _ _ _ _ hi' (fun i h => (hb i h).1) m2, fun h => (hb _ h).2.2.1 rfl, fun h => (hb _ h).2.2.2 rfl, hl2, hc2⟩⟩
    | panic ch => exact hp.elim
    | outgrown => exact hp.elim
  · rintro e V ⟨⟨v, rfl⟩, Gj, hlt, (⟨G, he, hi, n0, n1, hl, hc⟩ | ⟨k, k1, k2, c, G, he, hx, n0, n1, hl, hc⟩)⟩
    · have hGl : ∀ i, G i → i < V.heap.size := fun i h => hlt i ((he i).2 (.inl h))
      refine ⟨none, _, run_endLoop hl (by simp [R]), hdone _ _ G (Nat.le_refl _) (hI _ _ _ _ hi hGl (kept_putObj (T := fun i => ¬ G i) n1 _)) (fun i h => ⟨by simpa using hGl i h, fun e => n0 (e ▸ h)⟩) ((World.putObj_heap_other (by omega)).trans hc)⟩
    · have hGl : ∀ i, G i → i < V.heap.size := fun i h => hlt i ((he i).2 (.inl h))
      refine ⟨some c, _, run_endLoop hl (by simp [R]), hstop _ c k _ G (Nat.le_refl _) k1 k2 (hX _ _ _ _ _ hx hGl (kept_putObj (T := fun i => ¬ G i) n1 _)) (fun i h => ⟨by simpa using hGl i h, fun e => n0 (e ▸ h)⟩) ((World.putObj_heap_other (by omega)).trans hc)⟩
end
end Go.Proofs.Yteljalgfkmnamaa
