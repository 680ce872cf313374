/- A range over a function whose iterator keeps blocks of its own, and whose body keeps others, both of which grow: a law. No condition. | The reader's entries, told one by one: the iterator by its contract. No condition. -/
import Derived.RangeFuncNested
import Derived.RangeFuncBound
import Derived.RangeFuncCalls
import Derived.RangeFuncLeaves
import Derived.RangeFuncBox
import Derived.Shelf.Abstract
import Derived.Shelf.RegionOpen
import Derived.OwnWalkIn
import Derived.TacticsInMore
import Derived.LoopNIn
import Derived.LoopIn
import Derived.Test.YtljcaigaofalbaaQA
import Derived.Test.YtljcaigaofalbaaQR
namespace Go.Proofs.Ytljcaigaofalbaa
open Go.RowKit Go.Shelf

theorem kept_putObj {T : Nat → Prop} {a : World} {l : Nat} (hl : T l) (o : Obj) : Kept T a (a.putObj l o) :=
  ⟨rfl, rfl, rfl, by simp, fun i _ hn => World.putObj_heap_other (fun e => hn (by rw [e]; exact hl))⟩

/-- The iterator hands what Enc says, M times, unless a round says that it is enough. F are its own blocks, G those of whoever ranges over it: neither touches the other's. -/
def ShareOf (m : Nat) (P : Program) (gf : Nat) (lb : Array Value) (M : Nat) (Enc : Nat → Array Value → (Nat → Prop) → World → Prop) (F0 : Nat → Prop) (w : World) : Prop :=
  ∀ (l : Nat) (J Jx : Nat → (Nat → Prop) → World → Prop) (W : World) (G0 : Nat → Prop), Kept (fun i => ¬ F0 i) w W → (∀ i, G0 i → i < W.heap.size ∧ ¬ F0 i) →
    (∀ k G A B, J k G A → (∀ i, G i → i < A.heap.size) → Kept (fun i => ¬ G i) A B → J k G B) →
    (∀ k G F args A, k < M → J k G A → (∀ i, G i → i < A.heap.size ∧ ¬ F i) → (∀ i, F i → i < A.heap.size) → Enc (k + 1) args F A →
      YieldAt Fence.wide (m - 1) P l args A fun e B => ∃ G', Kept G A B ∧ (∀ i, G' i → i < B.heap.size ∧ ¬ F i) ∧ ((e = .returned (.bool true) ∧ J (k + 1) G' B) ∨ (e = .returned (.bool false) ∧ Jx (k + 1) G' B))) →
    J 0 G0 W → CallsIn Fence.wide m P gf (#[.func (.yield l) #[] #[]] ++ lb) W fun e B => (∃ v, e = .returned v) ∧ ∃ G, (∀ i, G i → i < B.heap.size) ∧ (J M G B ∨ ∃ k, 1 ≤ k ∧ k ≤ M ∧ Jx k G B)

/-- How the body of a round may be left. -/
def shareEnd (I : (Nat → Prop) → World → Prop) (X : Code → (Nat → Prop) → World → Prop) (G F : Nat → Prop) (z : Nat) (A : World) : Exit → Act → World → Prop
  | .normal, _, V => ∃ G', Kept G A V ∧ (∀ i, G' i → i < V.heap.size ∧ ¬ F i ∧ i ≠ z ∧ i ≠ z + 1) ∧ I G' V
  | .ret, _, V => ∃ G', Kept G A V ∧ (∀ i, G' i → i < V.heap.size ∧ ¬ F i ∧ i ≠ z ∧ i ≠ z + 1) ∧ X .ret G' V
  | .exit id, _, V => ∃ G', Kept G A V ∧ (∀ i, G' i → i < V.heap.size ∧ ¬ F i ∧ i ≠ z ∧ i ≠ z + 1) ∧ X (.exit id) G' V
  | .goto t, _, V => ∃ G', Kept G A V ∧ (∀ i, G' i → i < V.heap.size ∧ ¬ F i ∧ i ≠ z ∧ i ≠ z + 1) ∧ X (.goto t) G' V
  | .panic _, _, _ => False
  | .outgrown, _, _ => False

section
variable {P : Program} {n : Nat} {g : Operand} {ps : Array Tmp} {assign body : Code} {Q : Exit → Act → World → Prop} {a : Act} {w : World}

theorem wpIn_share {F0 G0 : Nat → Prop} (hF : ∀ i, F0 i → i < w.heap.size) (hG : ∀ i, G0 i → i < w.heap.size ∧ ¬ F0 i) (h1 : 1 ≤ n) {gf : Nat} {lb : Array Value} (hg : a.eval g = .func (.func gf) #[] lb)
    (eg : ∀ args W, (callFunc gf args).run P W = .ok (.enter gf args) W) {Enc : Nat → Array Value → (Nat → Prop) → World → Prop} {M : Nat} (hps : ∀ k args F A, Enc k args F A → args.size = ps.size) (hseq : ShareOf (n - 1) P gf lb M Enc F0 w)
    (I : Nat → (Nat → Prop) → World → Prop) (X : Code → Nat → (Nat → Prop) → World → Prop) (Ax : Nat → (Nat → Prop) → Act → World → Prop)
    (hI : ∀ k G A B, I k G A → (∀ i, G i → i < A.heap.size) → Kept (fun i => ¬ G i) A B → I k G B) (hX : ∀ c k G A B, X c k G A → (∀ i, G i → i < A.heap.size) → Kept (fun i => ¬ G i) A B → X c k G B)
    (hAx : ∀ k F a2 A B, Kept (fun i => i = w.heap.size + 1) A B → Ax k F a2 A → Ax k F a2 B)
    (h0 : I 0 G0 w)
    (hassign : ∀ (l k : Nat) (args : Array Value) (F : Nat → Prop) (A : World) (K : Act → World → Prop), w.heap.size + 2 ≤ A.heap.size → Enc k args F A → (∀ i, F i → i < A.heap.size) → (∀ i, F i → i ≠ w.heap.size + 1) → (∀ i, (i = w.heap.size ∨ i = w.heap.size + 1) → ∀ cs t p, A.heap[i]? ≠ some (.cells cs t p)) → (∀ a2 W2, Below A.heap.size A W2 → Ax k F a2 W2 → K a2 W2) →
      assign.wpIn (Fence.wide.inRound l) (n - 1 - 1) P (Exit.then K (fun _ _ _ => False)) { tmps := (ps.zip args).foldl (fun t (p, v) => t.setIfInBounds p v) a.tmps, defers := [] } A)
    (hbody : ∀ (l k : Nat) (F G : Nat → Prop) (A : World) (a2 : Act), k < M → w.heap.size + 2 ≤ A.heap.size → I k G A → (∀ i, G i → i < A.heap.size ∧ ¬ F i ∧ i ≠ w.heap.size ∧ i ≠ w.heap.size + 1) → (∀ i, F i → i < A.heap.size) → (∀ i, (i = w.heap.size ∨ i = w.heap.size + 1) → ∀ cs t p, A.heap[i]? ≠ some (.cells cs t p)) → Ax (k + 1) F a2 A →
      body.wpIn (Fence.wide.inRound l) (n - 1 - 1) P (shareEnd (I (k + 1)) (fun c => X c (k + 1)) G F w.heap.size A) a2 A)
    (hdone : ∀ (D : Nat) (W : World) (G : Nat → Prop), w.heap.size ≤ D → I M G W → (∀ i, G i → i < W.heap.size ∧ i ≠ D) → W.heap[D]? = some (.deferred (some [])) → Q .normal { a with defers := { target := .collected D, args := #[] } :: a.defers } W)
    (hstop : ∀ (D : Nat) (c : Code) (k : Nat) (W : World) (G : Nat → Prop), w.heap.size ≤ D → 1 ≤ k → k ≤ M → X c k G W → (∀ i, G i → i < W.heap.size ∧ i ≠ D) → W.heap[D]? = some (.deferred (some [])) →
      c.wpIn Fence.wide n P Q { a with defers := { target := .collected D, args := #[] } :: a.defers } W) :
    (Code.rangeFunc g ps assign body).wpIn Fence.wide n P Q a w := by
  refine wpIn_rangeFunc fun fn _ => ?_
  let R : LoopState → Option Code → Loop := fun st pe => { state := st, pending := pe, fn, tmps := a.tmps, params := ps, assign, body, defers := w.heap.size }
  let d0 := w.alloc (.deferred (some []))
  let W1 := d0.alloc (.loop (R .ready none))
  have z0 : d0.heap.size = w.heap.size + 1 := by simp [d0]
  have z1 : W1.heap.size = w.heap.size + 2 := by simp [W1, z0]
  have b1 : Below w.heap.size w W1 := ((Below.refl _ w).alloc (Nat.le_refl _) _).alloc (by simp) _
  have l1 : W1.heap[w.heap.size + 1]? = some (.loop (R .ready none)) := by rw [← z0]; exact World.alloc_heap_new d0 _
  have c1 : W1.heap[w.heap.size]? = some (.deferred (some [])) := (Below.heap_alloc d0 _ _ (by omega)).trans (World.alloc_heap_new w _)
  refine ⟨w.heap.size + 1, [{ target := .collected w.heap.size, args := #[] }], W1, { target := .fn (.func gf) lb, args := #[.func (.yield (w.heap.size + 1)) #[] #[]] }, W1, gf,
    #[.func (.yield (w.heap.size + 1)) #[] #[]] ++ lb, W1, run_enterLoop_outer _ _ _ _ _, ?_, fun _ _ => trivial, ?_, fun _ => h1, ?_⟩
  · simp only [resolve, hg]
    simp [go_sem]
  · simp [invoke, go_sem, eg]
  refine (hseq (w.heap.size + 1)
    (fun k Gj V => ∃ G, (∀ i, Gj i ↔ (G i ∨ i = w.heap.size ∨ i = w.heap.size + 1)) ∧ I k G V ∧ ¬ G w.heap.size ∧ ¬ G (w.heap.size + 1) ∧ V.heap[w.heap.size + 1]? = some (.loop (R .ready none)) ∧ V.heap[w.heap.size]? = some (.deferred (some [])))
    (fun k Gj V => ∃ c G, (∀ i, Gj i ↔ (G i ∨ i = w.heap.size ∨ i = w.heap.size + 1)) ∧ X c k G V ∧ ¬ G w.heap.size ∧ ¬ G (w.heap.size + 1) ∧ V.heap[w.heap.size + 1]? = some (.loop (R .done (some c))) ∧ V.heap[w.heap.size]? = some (.deferred (some [])))
    W1 (fun i => G0 i ∨ i = w.heap.size ∨ i = w.heap.size + 1) (Kept.of_below b1 _) ?_ ?_ ?_ ⟨G0, fun _ => Iff.rfl, hI 0 G0 w W1 h0 (fun i hi => (hG i hi).1) (Kept.of_below b1 _), fun h => by have := (hG _ h).1; omega, fun h => by have := (hG _ h).1; omega, l1, c1⟩).mono ?_
  · rintro i (h | h | h)
    · have := hG i h
      exact ⟨by omega, this.2⟩
    · exact ⟨by omega, fun hf => by have := hF i hf; omega⟩
    · exact ⟨by omega, fun hf => by have := hF i hf; omega⟩
  · rintro k Gj A B ⟨G, he, hi, n0, n1, hl, hc⟩ hlt hk
    have hkG : Kept (fun i => ¬ G i) A B := hk.mono (fun i hn hg' => hn ((he i).2 (.inl hg')))
    have hsame : ∀ i, Gj i → B.heap[i]? = A.heap[i]? := fun i hgj => hk.block i (hlt i hgj) (fun hn => hn hgj)
    exact ⟨G, he, hI k G A B hi (fun i hg' => hlt i ((he i).2 (.inl hg'))) hkG, n0, n1, (hsame _ ((he _).2 (.inr (.inr rfl)))).trans hl, (hsame _ ((he _).2 (.inr (.inl rfl)))).trans hc⟩
  · rintro k Gj F args A hkM ⟨G, he, hi, n0, n1, hl, hc⟩ hdis hFl henc
    have hlt : w.heap.size + 1 < A.heap.size := (Array.getElem?_eq_some_iff.1 hl).1
    have nF0 : ∀ i, F i → i ≠ w.heap.size := fun i hf e => (hdis i ((he i).2 (.inr (.inl e)))).2 hf
    have nF1 : ∀ i, F i → i ≠ w.heap.size + 1 := fun i hf e => (hdis i ((he i).2 (.inr (.inr e)))).2 hf
    refine ⟨fn, _, assign, body, run_yield hl (hps _ _ _ _ henc), roundIn_of_wpIn trivial (hassign (w.heap.size + 1) (k + 1) args F A _ (by omega) henc hFl nF1 (by
      rintro i (rfl | rfl) cs t p e
      · rw [hc] at e; cases e
      · rw [hl] at e; cases e) fun a2 W2 hb2 hax => ?_)⟩
    have hl2 : W2.heap[w.heap.size + 1]? = some (.loop (R .ready none)) := (hb2.block _ hlt).trans hl
    have hc2 : W2.heap[w.heap.size]? = some (.deferred (some [])) := (hb2.block _ (by omega)).trans hc
    have hs2 := hb2.size
    let B := W2.putObj (w.heap.size + 1) (.loop { R .ready none with state := .busy })
    have hlB : B.heap[w.heap.size + 1]? = some (.loop { R .ready none with state := .busy }) := World.putObj_heap_same (by omega)
    have hcB : B.heap[w.heap.size]? = some (.deferred (some [])) := (World.putObj_heap_other (by omega)).trans hc2
    have hBz : B.heap.size = W2.heap.size := by simp [B]
    have kAB : Kept (fun i => i = w.heap.size + 1) A B := (Kept.of_below hb2 _).trans (kept_putObj (T := fun i => i = w.heap.size + 1) rfl _) (fun _ _ h => h)
    have hGl : ∀ i, G i → i < A.heap.size ∧ ¬ F i ∧ i ≠ w.heap.size ∧ i ≠ w.heap.size + 1 := fun i hg' => by
      have := hdis i ((he i).2 (.inl hg'))
      exact ⟨this.1, this.2, fun e => n0 (e ▸ hg'), fun e => n1 (e ▸ hg')⟩
    have hIB : I k G B := hI k G A B hi (fun i hg' => (hGl i hg').1) (kAB.mono (fun i e hg' => (hGl i hg').2.2.2 e))
    refine ⟨B, run_beginRound hl2 rfl, ?_⟩
    refine wpIn_mono (hbody _ k F G B a2 hkM (by omega) hIB (fun i hg' => ⟨by have := (hGl i hg').1; omega, (hGl i hg').2⟩) (fun i hf => by have := hFl i hf; omega) (by
      rintro i (rfl | rfl) cs t p e
      · rw [hcB] at e; cases e
      · rw [hlB] at e; cases e) (hAx _ _ _ W2 B (kept_putObj (T := fun i => i = w.heap.size + 1) rfl _) hax)) ?_
    have last : ∀ (jump : Option Code) (V : World), Kept G B V →
        (Instr.endRound (w.heap.size + 1) jump).run P V = .ok (.bool jump.isNone) (V.putObj (w.heap.size + 1) (.loop (R (if jump.isNone then .ready else .done) jump))) ∧
        Kept Gj A (V.putObj (w.heap.size + 1) (.loop (R (if jump.isNone then .ready else .done) jump))) ∧
        (V.putObj (w.heap.size + 1) (.loop (R (if jump.isNone then .ready else .done) jump))).heap[w.heap.size + 1]? = some (.loop (R (if jump.isNone then .ready else .done) jump)) ∧
        (V.putObj (w.heap.size + 1) (.loop (R (if jump.isNone then .ready else .done) jump))).heap[w.heap.size]? = some (.deferred (some [])) := fun jump V hV => by
      have hlV : V.heap[w.heap.size + 1]? = _ := (hV.block _ (by omega) n1).trans hlB
      refine ⟨run_endRound jump hlV, ?_, World.putObj_heap_same (Array.getElem?_eq_some_iff.1 hlV).1,
        (World.putObj_heap_other (by omega)).trans ((hV.block _ (by omega) n0).trans hcB)⟩
      exact ((kAB.mono (fun i e => (he i).2 (.inr (.inr e)))).trans (hV.mono (fun i h => (he i).2 (.inl h))) (fun _ _ h => h)).trans (kept_putObj (T := Gj) ((he _).2 (.inr (.inr rfl))) _) (fun _ _ h => h)
    have more : ∀ (V : World) (o : Obj) (G' : Nat → Prop), (∀ i, G' i → i < V.heap.size ∧ ¬ F i ∧ i ≠ w.heap.size ∧ i ≠ w.heap.size + 1) → w.heap.size + 1 < V.heap.size →
        (∀ i, (G' i ∨ i = w.heap.size ∨ i = w.heap.size + 1) → i < (V.putObj (w.heap.size + 1) o).heap.size ∧ ¬ F i) ∧ Kept (fun i => ¬ G' i) V (V.putObj (w.heap.size + 1) o) := fun V o G' hb hz => by
      refine ⟨fun i hi => ?_, kept_putObj (T := fun i => ¬ G' i) (fun hg' => (hb _ hg').2.2.2 rfl) _⟩
      have hz' : (V.putObj (w.heap.size + 1) o).heap.size = V.heap.size := by simp
      rcases hi with h | h | h
      · exact ⟨by have := (hb i h).1; omega, (hb i h).2.1⟩
      · exact ⟨by omega, fun hf => nF0 i hf h⟩
      · exact ⟨by omega, fun hf => nF1 i hf h⟩
    rintro e a3 V hp
    cases e with
    | normal =>
      obtain ⟨G', hk, hb, hi'⟩ := hp
      obtain ⟨hr, hk2, hl2, hc2⟩ := last none V hk
      have hz := hk.size
      obtain ⟨m1, m2⟩ := more V (.loop (R .ready none)) G' hb (by omega)
      exact ⟨_, _, hr, _, hk2, m1, .inl ⟨rfl, G', fun _ => Iff.rfl, hI _ _ _ _ hi' (fun i h => (hb i h).1) m2, fun h => (hb _ h).2.2.1 rfl, fun h => (hb _ h).2.2.2 rfl, hl2, hc2⟩⟩
    | ret =>
      obtain ⟨G', hk, hb, hi'⟩ := hp
      obtain ⟨hr, hk2, hl2, hc2⟩ := last (some .ret) V hk
      have hz := hk.size
      obtain ⟨m1, m2⟩ := more V (.loop (R .done (some .ret))) G' hb (by omega)
      exact ⟨_, _, hr, _, hk2, m1, .inr ⟨rfl, _, G', fun _ => Iff.rfl, hX _ _ _ _ _ hi' (fun i h => (hb i h).1) m2, fun h => (hb _ h).2.2.1 rfl, fun h => (hb _ h).2.2.2 rfl, hl2, hc2⟩⟩
    | exit id =>
      obtain ⟨G', hk, hb, hi'⟩ := hp
      obtain ⟨hr, hk2, hl2, hc2⟩ := last (some (.exit id)) V hk
      have hz := hk.size
      obtain ⟨m1, m2⟩ := more V (.loop (R .done (some (.exit id)))) G' hb (by omega)
      exact ⟨_, _, hr, _, hk2, m1, .inr ⟨rfl, _, G', fun _ => Iff.rfl, hX _ _ _ _ _ hi' (fun i h => (hb i h).1) m2, fun h => (hb _ h).2.2.1 rfl, fun h => (hb _ h).2.2.2 rfl, hl2, hc2⟩⟩
    | goto t =>
      obtain ⟨G', hk, hb, hi'⟩ := hp
      obtain ⟨hr, hk2, hl2, hc2⟩ := last (some (.goto t)) V hk
      have hz := hk.size
      obtain ⟨m1, m2⟩ := more V (.loop (R .done (some (.goto t)))) G' hb (by omega)
      exact ⟨_, _, hr, _, hk2, m1, .inr ⟨rfl, _, G', fun _ => Iff.rfl, hX _ _ _ _ _ hi' (fun i h => (hb i h).1) m2, fun h => (hb _ h).2.2.1 rfl, fun h => (hb _ h).2.2.2 rfl, hl2, hc2⟩⟩
    | panic ch => exact hp.elim
    | outgrown => exact hp.elim
  · rintro e V ⟨⟨v, rfl⟩, Gj, hlt, (⟨G, he, hi, n0, n1, hl, hc⟩ | ⟨k, k1, k2, c, G, he, hx, n0, n1, hl, hc⟩)⟩
    · have hGl : ∀ i, G i → i < V.heap.size := fun i h => hlt i ((he i).2 (.inl h))
      refine ⟨none, _, run_endLoop hl (by simp [R]), hdone _ _ G (Nat.le_refl _) (hI _ _ _ _ hi hGl (kept_putObj (T := fun i => ¬ G i) n1 _)) (fun i h => ⟨by simpa using hGl i h, fun e => n0 (e ▸ h)⟩) ((World.putObj_heap_other (by omega)).trans hc)⟩
    · have hGl : ∀ i, G i → i < V.heap.size := fun i h => hlt i ((he i).2 (.inl h))
      refine ⟨some c, _, run_endLoop hl (by simp [R]), hstop _ c k _ G (Nat.le_refl _) k1 k2 (hX _ _ _ _ _ hx hGl (kept_putObj (T := fun i => ¬ G i) n1 _)) (fun i h => ⟨by simpa using hGl i h, fun e => n0 (e ▸ h)⟩) ((World.putObj_heap_other (by omega)).trans hc)⟩
end
end Go.Proofs.Ytljcaigaofalbaa

namespace Go.Proofs.Ytljcaigaofalbaa
open Go.RowKit Go.Shelf
attribute [local go_sem] Oper.semAt_some

/-- An entry's cells. -/
def entC : Sum HpA Ft → Array Value
  | .inl y => #[.int .i64 y.k, .int .i64 y.k, .int .i64 y.n, .int .i64 y.t, .slice y.A y.pl.length y.c, .int .i64 0, .int .i64 0, .int .i64 0, .int .i64 0, .bool false]
  | .inr f => #[.int .i64 3, .int .i64 0, .int .i64 0, .int .i64 0, .slice none 0 0, .int .i64 f.s, .int .i64 f.n, .int .i64 f.r, .int .i64 f.c, .bool f.cut]
/-- An entry in memory: its payload lies there, and in none of F's blocks. -/
def EntAt (N : Nat) (A : World) (F : Nat → Prop) : Sum HpA Ft → Sum Hp Ft → Prop
  | .inl y, .inl h => y.hp = h ∧ ¬ y.k = 3 ∧ PlAt A y ∧ ∀ ad, y.A = some ad → ¬ F ad.block ∧ ad.block < A.heap.size ∧ UB A ad.block ∧ N ≤ ad.block
  | .inr f, .inr f' => f = f'
  | _, _ => False
def EncE (N : Nat) (es : List (Sum Hp Ft)) (k : Nat) (args : Array Value) (F : Nat → Prop) (A : World) : Prop :=
  ∃ y z, args = #[.agg (entC y)] ∧ es[k - 1]? = some z ∧ EntAt N A F y z

/-- How many bytes a reader has left. -/
def leftR (r : Nat) (w : World) : Nat := match w.cell? ⟨r, 0, none⟩ with
  | some (.pointer (some a)) => match w.cell? ⟨a.block, 0, none⟩ with
    | some (.slice _ n _) => n
    | _ => 0
  | _ => 0
theorem leftR_eq {w : World} {S : Nat → Prop} {r : Nat} {l : List UInt8} (h : RdAt w S r l) : leftR r w = l.length := by
  obtain ⟨i, T, h1, h2, _⟩ := h.rd
  have c0 := h1.cell 0
  rcases h2.shape with ⟨e, _⟩ | ⟨l', A, c, e, hw, _⟩
  · cases e
  · cases e
    have c1 := hw.cell 0
    simp at c0 c1
    unfold leftR
    rw [c0]
    simp only [c1]
theorem RdW.again {w0 V B : World} {S0 S G : Nat → Prop} {r : Nat} {l : List UInt8} {y : Nat × TypeId × Array Value} {hl : List (Nat × TypeId × Array Value)} (h : RdW w0 S0 V S r l (y :: hl)) (hk : Kept G V B) (hS : ∀ i, S i → ¬ G i) (hH : ∀ z ∈ hl, ¬ G z.1) : RdW B S B S r l hl :=
  ⟨h.rd.kept hk hS, fun z hz => ⟨(h.held z (List.mem_cons_of_mem _ hz)).1.kept hk (hH z hz), (h.held z (List.mem_cons_of_mem _ hz)).2⟩, by have := h.nodup; rw [List.map_cons, List.nodup_cons] at this; exact this.2, Kept.refl _ _, fun _ h => .inl h⟩

theorem ent_left {w : World} {S : Nat → Prop} {r : Nat} {l : List UInt8} (h : RdAt w S r l) : ∃ i, w.cell? ⟨r, 0, none⟩ = some (.pointer (some ⟨i, 0, none⟩)) ∧ Calls Try.prog 90 #[.pointer (some ⟨i, 0, none⟩)] w fun e w' => e = .returned (.int .i64 (l.length : Int)) ∧ w = w' := by
  obtain ⟨i, T, h1, h2, _⟩ := h.rd
  exact ⟨i, h1.cell 0, by simpa using inLeft_any h2⟩

theorem hpR_len (k : Int) (l : List UInt8) : (hpR k l).length ≤ l.length := by
  unfold hpR
  split <;> simp
theorem one_ft {x : Pl} {l : List UInt8} (h : num 1 4 l = 3) : oneE x l = (.inr (ftD x (l.drop 1)), (l.drop 1).drop 6) := by
  unfold oneE ftD
  rw [if_pos h]
  simp only [List.drop_drop, Nat.reduceAdd]
theorem one_hap {x : Pl} {l : List UInt8} (h : ¬ num 1 4 l = 3) : oneE x l = (.inl (hpD x (num 1 4 l) (l.drop 1)), hpR (num 1 4 l) (l.drop 1)) := by
  unfold oneE hpD hpR
  rw [if_neg h]
  by_cases h2 : num 1 4 l = 2
  · rw [if_pos h2, if_pos h2, if_pos h2, h2]
    simp only [List.drop_drop, Nat.reduceAdd]
    rw [show 1 + (6 + (num 1 256 (List.drop 6 l)).toNat) = 7 + (num 1 256 (List.drop 6 l)).toNat by omega]
  · rw [if_neg h2, if_neg h2, if_neg h2]
    simp only [List.drop_drop, Nat.reduceAdd]

set_option maxHeartbeats 1000000 in
theorem entries_in (n : Nat) (r g : Nat) (w : World) :
    CallsIn Fence.wide n Try.prog 55 #[.pointer (some ⟨r, 0, none⟩), .pointer (some ⟨g, 0, none⟩)] w fun e w' => e = .returned (.func (.func 89) #[] #[.pointer (some ⟨w.heap.size, 0, none⟩), .pointer (some ⟨w.heap.size + 1, 0, none⟩)]) ∧
      w' = (w.alloc (.cells #[.pointer (some ⟨r, 0, none⟩)] 85)).alloc (.cells #[.pointer (some ⟨g, 0, none⟩)] 77) := by
  have hmf : ∀ (fn : Fn) (first cap : Array Value) (w : World), (Instr.makeFunc fn first cap).run Try.prog w = .ok (.func fn first cap) w := fun _ _ _ _ => rfl
  refine callsIn_of_wp Try.func55 rfl trivial ?_ rfl
  simp only [Try.ntmps55, List.size_toArray, List.length_cons, List.length_nil, Nat.reduceAdd, Nat.reduceSub, Array.replicate_succ, Array.replicate_zero, List.push_toArray, List.append_toArray, List.nil_append, List.cons_append]
  gi_wp2
  go_ret
  exact ⟨rfl, rfl⟩

/-- The iterator's own blocks. -/
def entF (S : Nat → Prop) (b B1 B2 g : Nat) : Nat → Prop := fun i => S i ∨ i = b ∨ i = B1 ∨ i = B2 ∨ i = g

/-- A round: the reader's blocks stay apart from whoever ranges over it. -/
theorem yield_ready {P : Program} {N m lp k r b B1 B2 g E : Nat} {J Jx : Nat → (Nat → Prop) → World → Prop} {es : List (Sum Hp Ft)} {x : Pl} {G S S2 : Nat → Prop} {wr V : World} {l' : List UInt8} {t : TypeId} {cs : Array Value} {y : Sum HpA Ft} {z : Sum Hp Ft}
    (HJ : ∀ k G A B, J k G A → (∀ i, G i → i < A.heap.size) → Kept (fun i => ¬ G i) A B → J k G B)
    (HY : ∀ k G F args A, k < es.length → J k G A → (∀ i, G i → i < A.heap.size ∧ ¬ F i) → (∀ i, F i → i < A.heap.size) → EncE N es (k + 1) args F A →
      YieldAt Fence.wide (m - 1) P lp args A fun e B => ∃ G', Kept G A B ∧ (∀ i, G' i → i < B.heap.size ∧ ¬ F i) ∧ ((e = .returned (.bool true) ∧ J (k + 1) G' B) ∨ (e = .returned (.bool false) ∧ Jx (k + 1) G' B)))
    (hJk : J k G wr) (hG : ∀ i, G i → i < wr.heap.size ∧ ¬ entF S b B1 B2 g i) (hkM : k < es.length) (hRV : RdW wr S V S2 r l' ((E, t, cs) :: [(b, 85, #[.pointer (some ⟨r, 0, none⟩)]), (B1, 85, #[.pointer (some ⟨r, 0, none⟩)]), (B2, 77, #[.pointer (some ⟨g, 0, none⟩)]), (g, 80, spansC x)])) (hz : es[k]? = some z) (hent : EntAt N V (entF S2 b B1 B2 g) y z) :
    YieldAt Fence.wide (m - 1) P lp #[.agg (entC y)] V fun e B => ∃ G', Kept G V B ∧ (∀ i, G' i → i < B.heap.size ∧ ¬ entF S2 b B1 B2 g i) ∧ ((e = .returned (.bool true) ∧ J (k + 1) G' B) ∨ (e = .returned (.bool false) ∧ Jx (k + 1) G' B)) := by
  have hk := hRV.kept
  have hsz := hk.size
  have hd : ∀ i, G i → i < V.heap.size ∧ ¬ entF S2 b B1 B2 g i := fun i hi => by
    have h1 := hG i hi
    refine ⟨by omega, fun hf => ?_⟩
    rcases hf with a | a
    · rcases hRV.grow i a with c | c
      · exact h1.2 (.inl c)
      · omega
    · exact h1.2 (.inr a)
  refine HY k G (entF S2 b B1 B2 g) _ V hkM (HJ k G wr V hJk (fun i hi => (hG i hi).1) (hk.mono fun i hs hg' => (hG i hg').2 (.inl hs))) hd (fun i hf => ?_) ⟨y, z, rfl, by rw [Nat.add_sub_cancel]; exact hz, hent⟩
  rcases hf with a | rfl | rfl | rfl | rfl
  · exact hRV.rd.lt _ a
  · exact (hRV.whole (y := (i, 85, #[.pointer (some ⟨r, 0, none⟩)])) (by simp)).lt
  · exact (hRV.whole (y := (i, 85, #[.pointer (some ⟨r, 0, none⟩)])) (by simp)).lt
  · exact (hRV.whole (y := (i, 77, #[.pointer (some ⟨g, 0, none⟩)])) (by simp)).lt
  · exact (hRV.whole (y := (i, 80, spansC x)) (by simp)).lt
/-- .. and goes on. -/
theorem round_on {r b B1 B2 g E : Nat} {x : Pl} {G S S2 : Nat → Prop} {wr V B : World} {l' : List UInt8} {t : TypeId} {cs : Array Value} (hG : ∀ i, G i → i < wr.heap.size ∧ ¬ entF S b B1 B2 g i)
    (hRV : RdW wr S V S2 r l' ((E, t, cs) :: [(b, 85, #[.pointer (some ⟨r, 0, none⟩)]), (B1, 85, #[.pointer (some ⟨r, 0, none⟩)]), (B2, 77, #[.pointer (some ⟨g, 0, none⟩)]), (g, 80, spansC x)])) (hk : Kept G V B) : RdW B S2 B S2 r l' [(b, 85, #[.pointer (some ⟨r, 0, none⟩)]), (B1, 85, #[.pointer (some ⟨r, 0, none⟩)]), (B2, 77, #[.pointer (some ⟨g, 0, none⟩)]), (g, 80, spansC x)] := by
  refine hRV.again hk (fun i hs hg' => ?_) (fun z hz hg' => ?_)
  · have h1 := hG i hg'
    rcases hRV.grow i hs with c | c
    · exact h1.2 (.inl c)
    · omega
  · refine (hG _ hg').2 (.inr ?_)
    simp only [List.mem_cons, List.not_mem_nil, or_false] at hz
    rcases hz with rfl | rfl | rfl | rfl <;> simp

theorem hap_pack {w0 W W' : World} {S0 S : Nat → Prop} {r E : Nat} {l l' : List UInt8} {t : TypeId} {cs : Array Value} {hl : List (Nat × TypeId × Array Value)} {hp : Hp} {e : Ending} (h : RdW w0 S0 W S r l ((E, t, cs) :: hl)) (hh : Hapd W S r hp l' e W') :
    ∃ (y : HpA) (S' : Nat → Prop), e = .returned (hapV y) ∧ y.hp = hp ∧ PlAt W' y ∧ RdW w0 S0 W' S' r l' ((E, t, cs) :: hl) ∧ ∀ ad, y.A = some ad → ¬ S' ad.block ∧ W.heap.size ≤ ad.block ∧ ad.block < W'.heap.size ∧ UB W' ad.block := by
  obtain ⟨y, S', rfl, h1, h2, h3, h4, h5, h6⟩ := hh
  have hz := h.kept.size
  have hz2 := h4.size
  refine ⟨y, S', rfl, h1, h2, ⟨h3, fun z hz' => ?_, h.nodup, h.kept.trans h4 (fun i hi hs => ?_), fun k hk => ?_⟩, h6⟩
  · obtain ⟨a, b⟩ := h.held z hz'
    exact ⟨a.kept h4 b, fun hg => by
      rcases h5 _ hg with hg | hg
      · exact b hg
      · have := a.lt; omega⟩
  · rcases h.grow i hs with hg | hg
    · exact hg
    · omega
  · rcases h5 k hk with hk | hk
    · rcases h.grow k hk with hg | hg
      · exact .inl hg
      · exact .inr ⟨hg.1, by omega⟩
    · exact .inr ⟨by omega, hk.2⟩
theorem hap_ready {N : Nat} {wr w1 w2 : World} {S S1 S2 : Nat → Prop} {r b B1 B2 g : Nat} {x : Pl} {l1 : List UInt8} {o : Obj} {k n t : Int} {A : Option Addr} {c : Nat} {pl : List UInt8} {hp : Hp} {v1 v2 v3 v4 : Value} (h1 : RdW wr S w1 S1 r l1 [(b, 85, #[.pointer (some ⟨r, 0, none⟩)]), (B1, 85, #[.pointer (some ⟨r, 0, none⟩)]), (B2, 77, #[.pointer (some ⟨g, 0, none⟩)]), (g, 80, spansC x)]) (h3 : ¬ k = 3) (hN : N ≤ b)
    (hyp : HpA.hp ⟨k, n, t, A, c, pl⟩ = hp) (hpl : PlAt w2 ⟨k, n, t, A, c, pl⟩) (hsep : ∀ ad, A = some ad → ¬ S2 ad.block ∧ (w1.alloc o).heap.size ≤ ad.block ∧ ad.block < w2.heap.size ∧ UB w2 ad.block) :
    EntAt N ((((w2.setCell ⟨w1.heap.size, 1, none⟩ v1).setCell ⟨w1.heap.size, 2, none⟩ v2).setCell ⟨w1.heap.size, 3, none⟩ v3).setCell ⟨w1.heap.size, 4, none⟩ v4) (entF S2 b B1 B2 g) (.inl ⟨k, n, t, A, c, pl⟩) (.inl hp) := by
  have hk : Kept (fun i => i = w1.heap.size) w2 ((((w2.setCell ⟨w1.heap.size, 1, none⟩ v1).setCell ⟨w1.heap.size, 2, none⟩ v2).setCell ⟨w1.heap.size, 3, none⟩ v3).setCell ⟨w1.heap.size, 4, none⟩ v4) :=
    (((Kept.setCell (S := fun i => i = w1.heap.size) (Kept.refl _ w2) (p := ⟨w1.heap.size, 1, none⟩) (.inl rfl) _).setCell (p := ⟨w1.heap.size, 2, none⟩) (.inl rfl) _).setCell (p := ⟨w1.heap.size, 3, none⟩) (.inl rfl) _).setCell (p := ⟨w1.heap.size, 4, none⟩) (.inl rfl) _
  have hb : ∀ ad, A = some ad → w1.heap.size < ad.block := fun ad e => by have := (hsep ad e).2.1; simp at this; omega
  refine ⟨hyp, h3, hpl.kept hk (fun ad e h => by have := hb ad e; have h : ad.block = w1.heap.size := h; omega), fun ad e => ⟨fun hf => ?_, by have := (hsep ad e).2.2.1; have := hk.size; omega, (hsep ad e).2.2.2.kept hk (fun h => by have := hb ad e; have h : ad.block = w1.heap.size := h; omega), by have := hb ad e; have := (h1.whole (y := (b, 85, #[.pointer (some ⟨r, 0, none⟩)])) (by simp)).lt; simp only at this; omega⟩⟩
  have h5 := hb ad e
  rcases hf with a | a | a | a | a
  · exact (hsep ad e).1 a
  · have := (h1.whole (y := (b, 85, #[.pointer (some ⟨r, 0, none⟩)])) (by simp)).lt; simp only at this; omega
  · have := (h1.whole (y := (B1, 85, #[.pointer (some ⟨r, 0, none⟩)])) (by simp)).lt; simp only at this; omega
  · have := (h1.whole (y := (B2, 77, #[.pointer (some ⟨g, 0, none⟩)])) (by simp)).lt; simp only at this; omega
  · have := (h1.whole (y := (g, 80, spansC x)) (by simp)).lt; simp only at this; omega


set_option maxRecDepth 100000 in
set_option maxHeartbeats 8000000 in
theorem entries_any (m : Nat) (hm : 1 ≤ m) (x : Pl) (hx : OkP x) (r g B1 B2 : Nat) (S0 : Nat → Prop) (l0 : List UInt8) (hl0 : l0.length ≤ 1000000000) (w : World)
    (h0 : RdW w S0 w S0 r l0 [(B1, 85, #[.pointer (some ⟨r, 0, none⟩)]), (B2, 77, #[.pointer (some ⟨g, 0, none⟩)]), (g, 80, spansC x)]) :
    ShareOf m Try.prog 89 #[.pointer (some ⟨B1, 0, none⟩), .pointer (some ⟨B2, 0, none⟩)] (entsL x l0).length (EncE w.heap.size (entsL x l0)) (entF S0 B1 B1 B2 g) w := fun lp J Jx W G0 hW hG0 hJ hY hJ0 => by
  have hF0 : ∀ i, entF S0 B1 B1 B2 g i → ¬ ¬ entF S0 B1 B1 B2 g i := fun i h hn => hn h
  have hR0 : RdW W S0 W S0 r l0 [(B1, 85, #[.pointer (some ⟨r, 0, none⟩)]), (B2, 77, #[.pointer (some ⟨g, 0, none⟩)]), (g, 80, spansC x)] :=
    ⟨h0.rd.kept hW (fun i hi hn => hn (.inl hi)), fun z hz => ⟨(h0.held z hz).1.kept hW (fun hn => hn (by
      simp only [List.mem_cons, List.not_mem_nil, or_false] at hz
      rcases hz with rfl | rfl | rfl
      · exact .inr (.inl rfl)
      · exact .inr (.inr (.inr (.inl rfl)))
      · exact .inr (.inr (.inr (.inr rfl))))), (h0.held z hz).2⟩, h0.nodup, Kept.refl _ _, fun _ h => .inl h⟩
  obtain ⟨es, hes⟩ : ∃ es, es = entsL x l0 := ⟨_, rfl⟩
  rw [← hes] at hY ⊢
  obtain ⟨b, hb⟩ : ∃ b, b = W.heap.size := ⟨_, rfl⟩
  have hR1 := hR0.alloc 85 #[.pointer (some ⟨r, 0, none⟩)]
  have hRb : RdW (W.alloc (.cells #[.pointer (some ⟨r, 0, none⟩)] 85)) S0 (W.alloc (.cells #[.pointer (some ⟨r, 0, none⟩)] 85)) S0 r l0 [(b, 85, #[.pointer (some ⟨r, 0, none⟩)]), (B1, 85, #[.pointer (some ⟨r, 0, none⟩)]), (B2, 77, #[.pointer (some ⟨g, 0, none⟩)]), (g, 80, spansC x)] := by
    rw [hb]
    exact ⟨hR1.rd, hR1.held, hR1.nodup, Kept.refl _ _, fun _ h => .inl h⟩
  have hJb := hJ 0 G0 W (W.alloc (.cells #[.pointer (some ⟨r, 0, none⟩)] 85)) hJ0 (fun i hi => (hG0 i hi).1) ((Kept.refl _ W).alloc _)
  have hGb : ∀ i, G0 i → i < (W.alloc (.cells #[.pointer (some ⟨r, 0, none⟩)] 85)).heap.size ∧ ¬ entF S0 b B1 B2 g i := fun i hi => by
    have h1 := hG0 i hi
    refine ⟨by simp; omega, fun hf => ?_⟩
    rcases hf with a | a | a | a | a
    · exact h1.2 (.inl a)
    · omega
    · exact h1.2 (.inr (.inl a))
    · exact h1.2 (.inr (.inr (.inr (.inl a))))
    · exact h1.2 (.inr (.inr (.inr (.inr a))))
  have c1 := (hR0.whole (y := (B1, 85, #[.pointer (some ⟨r, 0, none⟩)])) (by simp)).cell 0
  simp at c1
  have HST := Lib.hid (And.intro hRb (And.intro hJb hGb))
  have HES := Lib.hid hes
  have HY := Lib.hid hY
  have HJ := Lib.hid hJ
  have HB := Lib.hid hb
  have HNB := Lib.hid (show w.heap.size ≤ b from by have := hW.size; omega)
  have kk := k87
  clear hY hJ hR0 hR1 hRb hJb hGb hes hW hG0 hJ0 h0 hF0 hb
  refine callsIn_of_wp Try.func89 rfl trivial ?_ rfl
  simp only [Try.ntmps89, List.size_toArray, List.length_cons, List.length_nil, Nat.reduceAdd, Nat.reduceSub, Array.replicate_succ, Array.replicate_zero, List.push_toArray, List.append_toArray, List.nil_append, List.cons_append]
  gi_wp2_with (refine ⟨trivial, ?_⟩; gi_at_call 54; refine (callsIn_wide.2 (folding_any _ _)).mono ?_; rintro e w1 ⟨rfl, hw1⟩; have HW1 := Lib.hid hw1; clear hw1)
  rw [← HB.out]
  rw [← HW1.out] at HST
  gi_loopw [5] (fun _ wr => ∃ (k : Nat) (l : List UInt8) (G S : Nat → Prop), k ≤ es.length ∧ es.drop k = entsL x l ∧ J k G wr ∧ RdW wr S wr S r l [(b, 85, #[.pointer (some ⟨r, 0, none⟩)]), (B1, 85, #[.pointer (some ⟨r, 0, none⟩)]), (B2, 77, #[.pointer (some ⟨g, 0, none⟩)]), (g, 80, spansC x)] ∧ (∀ i, G i → i < wr.heap.size ∧ ¬ entF S b B1 B2 g i) ∧ l.length ≤ 1000000000) (fun _ wr => leftR r wr)
  case atStart => exact ⟨0, l0, G0, S0, Nat.zero_le _, by rw [List.drop_zero]; exact HES.out, HST.out.2.1, HST.out.1, HST.out.2.2, hl0⟩
  case round =>
    obtain ⟨k, l, G, S, hk, hel, hJk, hR, hG, hll⟩ := hrel
    clear HST c1
    by_cases hln : l = []
    · have hkM : k = es.length := by
        have := congrArg List.length hel
        rw [hln, ents_nil, List.length_drop, List.length_nil] at this
        omega
      subst hln
      obtain ⟨i, cr, hL⟩ := ent_left hR.rd
      have c1 := (hR.whole (y := (B1, 85, #[.pointer (some ⟨r, 0, none⟩)])) (by simp)).cell 0
      simp at c1
      have HL := Lib.hid hL
      have HF := Lib.hid (show ∃ G, (∀ i, G i → i < wr.heap.size) ∧ (J es.length G wr ∨ ∃ k, 1 ≤ k ∧ k ≤ es.length ∧ Jx k G wr) from ⟨G, fun i hi => (hG i hi).1, .inl (hkM ▸ hJk)⟩)
      clear hL hJk hR hG hel hkM hk
      gi_wp2_with (refine ⟨trivial, ?_⟩; gi_at_call 90; refine (callsIn_wide.2 HL.out).mono ?_; rintro e w' ⟨rfl, rfl⟩)
      all_goals (first | (go_end0; exact ⟨⟨_, rfl⟩, HF.out⟩) | (refine ⟨fun _ _ => trivial, ?_⟩; gi_wp2; go_end0; exact ⟨⟨_, rfl⟩, HF.out⟩) | (refine ⟨fun _ _ => trivial, ?_⟩; gi_wp2; refine ⟨fun _ _ => trivial, ?_⟩; gi_wp2; go_end0; exact ⟨⟨_, rfl⟩, HF.out⟩))
    · have hst := ents_step x hln
      rw [← hel] at hst
      have hkl : k < es.length := by
        rcases Nat.lt_or_ge k es.length with h | h
        · exact h
        · rw [List.drop_eq_nil_of_le h] at hst; cases hst
      have hdc := List.drop_eq_getElem_cons hkl
      rw [hdc, List.cons.injEq] at hst
      have hek : es[k]? = some (oneE x l).1 := by rw [List.getElem?_eq_getElem hkl, hst.1]
      have hel2 := hst.2
      have hlpos : 0 < l.length := List.length_pos_iff.2 hln
      have hless := oneE_less x hln
      have hlr := leftR_eq hR.rd
      obtain ⟨i, cr, hL⟩ := ent_left hR.rd
      obtain ⟨N, hN⟩ : ∃ N, N = l.length := ⟨_, rfl⟩
      rw [← hN] at hL hlpos hless hlr hll
      have c1 := (hR.whole (y := (B1, 85, #[.pointer (some ⟨r, 0, none⟩)])) (by simp)).cell 0
      have c2 := (hR.whole (y := (B2, 77, #[.pointer (some ⟨g, 0, none⟩)])) (by simp)).cell 0
      obtain ⟨s1, s2, s3⟩ := sp_kind (hR.whole (y := (g, 80, spansC x)) (by simp))
      simp at c1 c2
      have hlp : (0 : Int) < (N : Int) := by omega
      have hld : (l.drop 1).length ≤ 1000000000 := by rw [List.length_drop]; omega
      have HL := Lib.hid hL
      have HR := Lib.hid hR
      have HX := Lib.hid (And.intro hJk (And.intro hG (And.intro hek (And.intro hel2 (And.intro hless (And.intro hlr hN))))))
      have HLD := Lib.hid hld
      have HLL := Lib.hid (show l.length ≤ 1000000000 by rw [← hN]; exact hll)
      clear hL hR hJk hG hek hel2 hless hlr hN hst hdc hel hld hln
      by_cases hq : num 1 4 l = 3
      · have hone := one_ft (x := x) hq
        have HO := Lib.hid hone
        have HQ := Lib.hid (show 0 + num 1 (3 - 0 + 1) l = 3 by rw [show (3 : Int) - 0 + 1 = 4 by omega, Int.zero_add]; exact hq)
        obtain ⟨f, hf⟩ : ∃ f, f = ftD x (l.drop 1) := ⟨_, rfl⟩
        have HFt := Lib.hid hf
        obtain ⟨fs, fn, fr, fc, fb⟩ := f
        clear hone hq hf
        gi_wp2_with (first
          | (refine ⟨trivial, ?_⟩; gi_at_call 90; refine (callsIn_wide.2 HL.out).mono ?_; rintro e w' ⟨rfl, rfl⟩)
          | (refine ⟨trivial, ?_⟩; gi_at_call 87; refine (callsIn_wide.2 (fold_w HR.out (b := b) (t := 85) (by simp) 1 0 3 (l.drop 1) 3 rfl HQ.out rfl (by decide) HLL.out (by omega) (by omega) (by omega))).mono ?_; rintro e w1 ⟨rfl, S1, hR1⟩; have hRA := hR1.alloc 96 #[.int .i64 3, .int .i64 0, .int .i64 0, .int .i64 0, .slice none 0 0, .int .i64 0, .int .i64 0, .int .i64 0, .int .i64 0, .bool false]; have a1 := (hRA.whole (y := (B1, 85, #[.pointer (some ⟨r, 0, none⟩)])) (by simp)).cell 0; have a2 := (hRA.whole (y := (B2, 77, #[.pointer (some ⟨g, 0, none⟩)])) (by simp)).cell 0; simp at a1 a2; have HRA := Lib.hid hRA; have HZ := Lib.hid (show wr.heap.size ≤ w1.heap.size from hR1.kept.size); clear hRA hR1 s1 s2 s3 c1 c2 cr)
          | (refine ⟨trivial, ?_⟩; gi_at_call 91; refine (callsIn_wide.2 (fault_any x hx _ S1 r g (l.drop 1) HRA.out.rd (HRA.out.whole (y := (g, 80, spansC x)) (by simp)) (HRA.out.held (g, 80, spansC x) (by simp)).2 HLD.out)).mono ?_; rintro e w2 hred; obtain ⟨rfl, hR2⟩ := HRA.out.called hred; rw [← HFt.out]; unfold ftV ftC; dsimp only; have q := hR2.whole (List.mem_cons_self ..); have e0 := q.cell 0; have e1 := q.cell 1; have e2 := q.cell 2; have e3 := q.cell 3; have e4 := q.cell 4; have e5 := q.cell 5; have e6 := q.cell 6; have e7 := q.cell 7; have e8 := q.cell 8; have e9 := q.cell 9; have f5 := q.frozen 5; have f6 := q.frozen 6; have f7 := q.frozen 7; have f8 := q.frozen 8; have f9 := q.frozen 9; simp at e0 e1 e2 e3 e4 e5 e6 e7 e8 e9; have hRV := ((((hR2.set HZ.out 5 (.int .i64 fs)).set HZ.out 6 (.int .i64 fn)).set HZ.out 7 (.int .i64 fr)).set HZ.out 8 (.int .i64 fc)).set HZ.out 9 (.bool fb); have hyl := yield_ready HJ.out HY.out HX.out.1 HX.out.2.1 hkl hRV HX.out.2.2.1 (y := .inr ⟨fs, fn, fr, fc, fb⟩) (by rw [HO.out]; exact HFt.out); obtain ⟨fn', tmps', assign', body', hy, hRR⟩ := hyl; unfold entC at hy; dsimp only at hy; have HRV := Lib.hid hRV; clear hRV hR2 a1 a2 hred q))
        refine hRR.mono ?_
        rintro e B ⟨G', hkG, hG', (⟨rfl, hJB⟩ | ⟨rfl, hJx⟩)⟩
        · have hR3 := round_on HX.out.2.1 HRV.out hkG
          have hlr := leftR_eq hR3.rd
          have HJB := Lib.hid hJB
          have HR3 := Lib.hid hR3
          have HG3 := Lib.hid hG'
          have HLR := Lib.hid hlr
          clear hR3 hJB hG' hlr hkG hy hRR
          gi_wp2
          go_roundw
          case rel => exact ⟨k + 1, _, G', _, by omega, by rw [HX.out.2.2.2.1, HO.out], HJB.out, HR3.out, HG3.out, by simp only [List.length_drop]; have := HLD.out; simp only [List.length_drop] at this; omega⟩
          case measure =>
            have h1 := HX.out.2.2.2.2.1
            have h2 := HX.out.2.2.2.2.2.1
            rw [HO.out] at h1
            rw [HLR.out, h2]
            exact h1
        · have HFX := Lib.hid (show ∃ G, (∀ i, G i → i < B.heap.size) ∧ (J es.length G B ∨ ∃ k, 1 ≤ k ∧ k ≤ es.length ∧ Jx k G B) from ⟨G', fun i hi => (hG' i hi).1, .inr ⟨k + 1, by omega, by omega, hJx⟩⟩)
          clear hkG hy hRR hG' hJx
          gi_wp2
          first | (go_end0; exact ⟨⟨_, rfl⟩, HFX.out⟩) | (refine bodyPost_ret (v := .tuple #[]) (results_none rfl _ _ _) rfl ⟨⟨_, rfl⟩, HFX.out⟩)
      · have hone := one_hap (x := x) hq
        have HO := Lib.hid hone
        obtain ⟨q, hqq⟩ : ∃ q, q = num 1 4 l := ⟨_, rfl⟩
        have HQ := Lib.hid (show 0 + num 1 (3 - 0 + 1) l = q by rw [show (3 : Int) - 0 + 1 = 4 by omega, Int.zero_add]; exact hqq.symm)
        rw [← hqq] at HO hq
        have hq3 : (q == 3) = false := by simp [hq]
        have HQ3 := Lib.hid hq
        clear hone hq hqq
        gi_wp2_with (first
          | (refine ⟨trivial, ?_⟩; gi_at_call 90; refine (callsIn_wide.2 HL.out).mono ?_; rintro e w' ⟨rfl, rfl⟩)
          | (refine ⟨trivial, ?_⟩; gi_at_call 87; refine (callsIn_wide.2 (fold_w HR.out (b := b) (t := 85) (by simp) 1 0 3 (l.drop 1) q rfl HQ.out rfl (by decide) HLL.out (by omega) (by omega) (by omega))).mono ?_; rintro e w1 ⟨rfl, S1, hR1⟩; have hRA := hR1.alloc 96 #[.int .i64 q, .int .i64 0, .int .i64 0, .int .i64 0, .slice none 0 0, .int .i64 0, .int .i64 0, .int .i64 0, .int .i64 0, .bool false]; have a1 := (hRA.whole (y := (B1, 85, #[.pointer (some ⟨r, 0, none⟩)])) (by simp)).cell 0; have a2 := (hRA.whole (y := (B2, 77, #[.pointer (some ⟨g, 0, none⟩)])) (by simp)).cell 0; simp at a1 a2; have HRA := Lib.hid hRA; have HZ := Lib.hid (show wr.heap.size ≤ w1.heap.size from hR1.kept.size); have HR1 := Lib.hid hR1; clear hRA hR1 s1 s2 s3 c1 c2 cr)
          | (refine ⟨trivial, ?_⟩; gi_at_call 92; refine (callsIn_wide.2 (happening_any x hx _ S1 r g q (l.drop 1) HRA.out.rd (HRA.out.whole (y := (g, 80, spansC x)) (by simp)) (HRA.out.held (g, 80, spansC x) (by simp)).2 HLD.out)).mono ?_; rintro e w2 hhap; obtain ⟨y, S2, rfl, hyp, hpl, hR2, hsep⟩ := hap_pack HRA.out hhap; obtain ⟨yk, yn, yt, yA, yc, ypl⟩ := y; obtain rfl : yk = q := congrArg Hp.k hyp; unfold hapV hapC; dsimp only; have z := hR2.whole (List.mem_cons_self ..); have e0 := z.cell 0; have e1 := z.cell 1; have e2 := z.cell 2; have e3 := z.cell 3; have e4 := z.cell 4; have e5 := z.cell 5; have e6 := z.cell 6; have e7 := z.cell 7; have e8 := z.cell 8; have e9 := z.cell 9; have f1 := z.frozen 1; have f2 := z.frozen 2; have f3 := z.frozen 3; have f4 := z.frozen 4; simp at e0 e1 e2 e3 e4 e5 e6 e7 e8 e9; have hRV := (((hR2.set HZ.out 1 (.int .i64 yk)).set HZ.out 2 (.int .i64 yn)).set HZ.out 3 (.int .i64 yt)).set HZ.out 4 (.slice yA ypl.length yc); have hyl := yield_ready HJ.out HY.out HX.out.1 HX.out.2.1 hkl hRV HX.out.2.2.1 (y := .inl ⟨yk, yn, yt, yA, yc, ypl⟩) (by rw [HO.out]; exact hap_ready HR1.out HQ3.out HNB.out hyp hpl hsep); obtain ⟨fn', tmps', assign', body', hy, hRR⟩ := hyl; unfold entC at hy; dsimp only at hy; have HRV := Lib.hid hRV; clear hRV hR2 a1 a2 hhap z hyp hpl hsep))
        refine hRR.mono ?_
        rintro e B ⟨G', hkG, hG', (⟨rfl, hJB⟩ | ⟨rfl, hJx⟩)⟩
        · have hR3 := round_on HX.out.2.1 HRV.out hkG
          have hlr := leftR_eq hR3.rd
          have HJB := Lib.hid hJB
          have HR3 := Lib.hid hR3
          have HG3 := Lib.hid hG'
          have HLR := Lib.hid hlr
          clear hR3 hJB hG' hlr hkG hy hRR
          gi_wp2
          go_roundw
          case rel => exact ⟨k + 1, _, G', _, by omega, by rw [HX.out.2.2.2.1, HO.out], HJB.out, HR3.out, HG3.out, Nat.le_trans (hpR_len _ _) HLD.out⟩
          case measure =>
            have h1 := HX.out.2.2.2.2.1
            have h2 := HX.out.2.2.2.2.2.1
            rw [HO.out] at h1
            rw [HLR.out, h2]
            exact h1
        · have HFX := Lib.hid (show ∃ G, (∀ i, G i → i < B.heap.size) ∧ (J es.length G B ∨ ∃ k, 1 ≤ k ∧ k ≤ es.length ∧ Jx k G B) from ⟨G', fun i hi => (hG' i hi).1, .inr ⟨k + 1, by omega, by omega, hJx⟩⟩)
          clear hkG hy hRR hG' hJx
          gi_wp2
          first | (go_end0; exact ⟨⟨_, rfl⟩, HFX.out⟩) | (refine bodyPost_ret (v := .tuple #[]) (results_none rfl _ _ _) rfl ⟨⟨_, rfl⟩, HFX.out⟩)
end Go.Proofs.Ytljcaigaofalbaa
