/- A range over a function whose rounds are numbered: the body is told which round it is. (The library's laws tell it only that rounds have come.) No condition. | The draft's round, its numbers, and what each of its numbers has to be at least: by contracts. | What each of the draft's numbers has to be at least: by contracts. | The conditions of a draft, each asked by its own method: by contracts. | The iterator that tells the conditions with their numbers, in order: by its contract. | Each condition's method, where the conditions ahead of it hold: one contract for all. | The first of a draft's conditions that does not hold: by a contract. -/
import Derived.RangeFuncNested
import Derived.RangeFuncBound
import Derived.RangeFuncCalls
import Derived.RangeFuncLeaves
import Derived.RangeFuncBox
import Derived.Shelf.Abstract
import Derived.Shelf.RegionOpen
import Derived.OwnWalkIn
import Derived.TacticsInMore
import Derived.LoopNIn
import Derived.LoopIn
import Derived.Test.YtljcaigaofalbaaQA
namespace Go.Proofs.Ytljcaigaofalbaa
open Go.RowKit

/-- What was laid from N on, and lay in A, lies in B as it lay. -/
def Since (N : Nat) (A B : World) : Prop := ∀ i, N ≤ i → i < A.heap.size → B.heap[i]? = A.heap[i]?

/-- The iterator hands 'encs 1', 'encs 2' and on, 'encs M' last, unless a round says that it is enough. -/
def Rounds (m : Nat) (P : Program) (gf : Nat) (lb : Array Value) (encs : Nat → Array Value) (M : Nat) (w : World) : Prop :=
  ∀ (l : Nat) (J Jx : Nat → World → Prop) (W : World), Below w.heap.size w W → (∀ k A o, J k A → J k (A.alloc o)) →
    (∀ k A, k < M → J k A → YieldAt Fence.wide (m - 1) P l (encs (k + 1)) A fun e B =>
      (e = .returned (.bool true) ∧ J (k + 1) B ∧ Since W.heap.size A B) ∨ (e = .returned (.bool false) ∧ Jx (k + 1) B)) →
    J 0 W → CallsIn Fence.wide m P gf (#[.func (.yield l) #[] #[]] ++ lb) W fun e B => (∃ v, e = .returned v) ∧ (J M B ∨ ∃ k, 1 ≤ k ∧ k ≤ M ∧ Jx k B)

/-- How the body of round k may be left: blocks outside S lie as they lay. -/
def roundEnd (S : Nat → Prop) (I : Nat → World → Prop) (X : Code → Nat → World → Prop) (k : Nat) (W : World) : Exit → Act → World → Prop
  | .normal, _, V => Kept S W V ∧ I k V
  | .ret, _, V => Kept S W V ∧ X .ret k V
  | .exit id, _, V => Kept S W V ∧ X (.exit id) k V
  | .goto t, _, V => Kept S W V ∧ X (.goto t) k V
  | .panic _, _, _ => False
  | .outgrown, _, _ => False

theorem Kept.putObj {S : Nat → Prop} {a b : World} (h : Kept S a b) {l : Nat} (hl : a.heap.size ≤ l) (o : Obj) : Kept S a (b.putObj l o) :=
  ⟨h.os, h.tape, h.output, by simpa using h.size, fun i hi hn => (World.putObj_heap_other (by omega)).trans (h.block i hi hn)⟩

section
variable {P : Program} {n : Nat} {g : Operand} {ps : Array Tmp} {assign body : Code} {Q : Exit → Act → World → Prop} {a : Act} {w : World}

theorem wpIn_rounds {S : Nat → Prop} (hS : ∀ i, S i → i < w.heap.size) (h1 : 1 ≤ n) {gf : Nat} {lb : Array Value} (hg : a.eval g = .func (.func gf) #[] lb)
    (eg : ∀ args W, (callFunc gf args).run P W = .ok (.enter gf args) W) {encs : Nat → Array Value} {M : Nat} (hps : ∀ k, (encs k).size = ps.size) (hseq : Rounds (n - 1) P gf lb encs M w)
    (I : Nat → World → Prop) (X : Code → Nat → World → Prop) (hI : ∀ k A B, (∀ i, S i → B.heap[i]? = A.heap[i]?) → I k A → I k B) (hX : ∀ c k A B, (∀ i, S i → B.heap[i]? = A.heap[i]?) → X c k A → X c k B)
    (h0 : I 0 w) (a₁ : Nat → Act)
    (hassign : ∀ (l k : Nat) (W : World) (K : Act → World → Prop), K (a₁ k) W →
      assign.wpIn (Fence.wide.inRound l) (n - 1 - 1) P (Exit.then K (fun _ _ _ => False)) { tmps := (ps.zip (encs k)).foldl (fun t (p, v) => t.setIfInBounds p v) a.tmps, defers := [] } W)
    (hbody : ∀ (l k : Nat) (W : World), k < M → Kept S w W → I k W → body.wpIn (Fence.wide.inRound l) (n - 1 - 1) P (roundEnd S I X (k + 1) W) (a₁ (k + 1)) W)
    (hdone : ∀ (D : Nat) (W : World), w.heap.size ≤ D → Kept S w W → I M W → W.heap[D]? = some (.deferred (some [])) → Q .normal { a with defers := { target := .collected D, args := #[] } :: a.defers } W)
    (hstop : ∀ (D : Nat) (c : Code) (k : Nat) (W : World), w.heap.size ≤ D → 1 ≤ k → k ≤ M → Kept S w W → X c k W → W.heap[D]? = some (.deferred (some [])) →
      c.wpIn Fence.wide n P Q { a with defers := { target := .collected D, args := #[] } :: a.defers } W) :
    (Code.rangeFunc g ps assign body).wpIn Fence.wide n P Q a w := by
  refine wpIn_rangeFunc fun fn _ => ?_
  let R : LoopState → Option Code → Loop := fun st pe => { state := st, pending := pe, fn, tmps := a.tmps, params := ps, assign, body, defers := w.heap.size }
  let d0 := w.alloc (.deferred (some []))
  let W1 := d0.alloc (.loop (R .ready none))
  have z0 : d0.heap.size = w.heap.size + 1 := by simp [d0]
  have z1 : W1.heap.size = w.heap.size + 2 := by simp [W1, z0]
  have b1 : Below w.heap.size w W1 := ((Below.refl _ w).alloc (Nat.le_refl _) _).alloc (by simp) _
  have l1 : W1.heap[w.heap.size + 1]? = some (.loop (R .ready none)) := by rw [← z0]; exact World.alloc_heap_new d0 _
  have c1 : W1.heap[w.heap.size]? = some (.deferred (some [])) := (Below.heap_alloc d0 _ _ (by omega)).trans (World.alloc_heap_new w _)
  have sOf : ∀ {A B : World}, (∀ i, i < w.heap.size → B.heap[i]? = A.heap[i]?) → ∀ i, S i → B.heap[i]? = A.heap[i]? := fun h i hi => h i (hS i hi)
  have far : ∀ {A : World} {l : Nat} {o : Obj}, w.heap.size ≤ l → ∀ i, i < w.heap.size → (A.putObj l o).heap[i]? = A.heap[i]? := fun hl i hi => World.putObj_heap_other (by omega)
  refine ⟨w.heap.size + 1, [{ target := .collected w.heap.size, args := #[] }], W1, { target := .fn (.func gf) lb, args := #[.func (.yield (w.heap.size + 1)) #[] #[]] }, W1, gf,
    #[.func (.yield (w.heap.size + 1)) #[] #[]] ++ lb, W1, run_enterLoop_outer _ _ _ _ _, ?_, fun _ _ => trivial, ?_, fun _ => h1, ?_⟩
  · simp only [resolve, hg]
    simp [go_sem]
  · simp [invoke, go_sem, eg]
  refine (hseq (w.heap.size + 1) (fun k V => Kept S w V ∧ I k V ∧ V.heap[w.heap.size + 1]? = some (.loop (R .ready none)) ∧ V.heap[w.heap.size]? = some (.deferred (some [])))
    (fun k V => ∃ c, Kept S w V ∧ X c k V ∧ V.heap[w.heap.size + 1]? = some (.loop (R .done (some c))) ∧ V.heap[w.heap.size]? = some (.deferred (some [])))
    W1 b1 ?_ ?_ ⟨Kept.of_below b1 S, hI 0 w W1 (sOf fun i hi => b1.block i hi) h0, l1, c1⟩).mono ?_
  · rintro k A o ⟨hk, hi, hl, hc⟩
    have up : ∀ i, i < A.heap.size → (A.alloc o).heap[i]? = A.heap[i]? := fun i h => Below.heap_alloc A o i h
    have hs := hk.size
    exact ⟨hk.alloc o, hI k A _ (sOf fun i h => up i (by omega)) hi, (up _ (Array.getElem?_eq_some_iff.1 hl).1).trans hl, (up _ (Array.getElem?_eq_some_iff.1 hc).1).trans hc⟩
  · rintro k A hkM ⟨hk, hi, hl, hc⟩
    have hlt : w.heap.size + 1 < A.heap.size := (Array.getElem?_eq_some_iff.1 hl).1
    let B := A.putObj (w.heap.size + 1) (.loop { R .ready none with state := .busy })
    have hlB : B.heap[w.heap.size + 1]? = some (.loop { R .ready none with state := .busy }) := World.putObj_heap_same hlt
    have hcB : B.heap[w.heap.size]? = some (.deferred (some [])) := (World.putObj_heap_other (by omega)).trans hc
    refine ⟨fn, _, assign, body, run_yield hl (hps (k + 1)), roundIn_of_wpIn trivial (hassign (w.heap.size + 1) (k + 1) A _ ⟨B, run_beginRound hl rfl, ?_⟩)⟩
    refine wpIn_mono (hbody _ k B hkM (hk.putObj (by omega) _) (hI k A B (sOf (far (by omega))) hi)) ?_
    have last : ∀ (jump : Option Code) (V : World), Kept S B V →
        (Instr.endRound (w.heap.size + 1) jump).run P V = .ok (.bool jump.isNone) (V.putObj (w.heap.size + 1) (.loop (R (if jump.isNone then .ready else .done) jump))) ∧
        Kept S w (V.putObj (w.heap.size + 1) (.loop (R (if jump.isNone then .ready else .done) jump))) ∧
        (V.putObj (w.heap.size + 1) (.loop (R (if jump.isNone then .ready else .done) jump))).heap[w.heap.size + 1]? = some (.loop (R (if jump.isNone then .ready else .done) jump)) ∧
        (V.putObj (w.heap.size + 1) (.loop (R (if jump.isNone then .ready else .done) jump))).heap[w.heap.size]? = some (.deferred (some [])) ∧
        Since W1.heap.size A (V.putObj (w.heap.size + 1) (.loop (R (if jump.isNone then .ready else .done) jump))) := fun jump V hV => by
      have out : ∀ i, w.heap.size ≤ i → ¬ S i := fun i hi hs => by have := hS i hs; omega
      have hBz : B.heap.size = A.heap.size := by simp [B]
      have hlV : V.heap[w.heap.size + 1]? = _ := (hV.block _ (by omega) (out _ (by omega))).trans hlB
      refine ⟨run_endRound jump hlV, ((hk.putObj (by omega) _).trans hV fun i _ h => h).putObj (by omega) _, World.putObj_heap_same (Array.getElem?_eq_some_iff.1 hlV).1,
        (World.putObj_heap_other (by omega)).trans ((hV.block _ (by omega) (out _ (Nat.le_refl _))).trans hcB), fun i h2 h3 => ?_⟩
      exact (World.putObj_heap_other (by omega)).trans ((hV.block i (by omega) (out i (by omega))).trans (World.putObj_heap_other (by omega)))
    rintro e a3 V hp
    cases e with
    | normal =>
      obtain ⟨hr, hk2, hl2, hc2, hs2⟩ := last none V hp.1
      exact ⟨_, _, hr, .inl ⟨rfl, ⟨hk2, hI _ _ _ (sOf (far (by omega))) hp.2, hl2, hc2⟩, hs2⟩⟩
    | ret =>
      obtain ⟨hr, hk2, hl2, hc2, _⟩ := last (some .ret) V hp.1
      exact ⟨_, _, hr, .inr ⟨rfl, _, hk2, hX _ _ _ _ (sOf (far (by omega))) hp.2, hl2, hc2⟩⟩
    | exit id =>
      obtain ⟨hr, hk2, hl2, hc2, _⟩ := last (some (.exit id)) V hp.1
      exact ⟨_, _, hr, .inr ⟨rfl, _, hk2, hX _ _ _ _ (sOf (far (by omega))) hp.2, hl2, hc2⟩⟩
    | goto t =>
      obtain ⟨hr, hk2, hl2, hc2, _⟩ := last (some (.goto t)) V hp.1
      exact ⟨_, _, hr, .inr ⟨rfl, _, hk2, hX _ _ _ _ (sOf (far (by omega))) hp.2, hl2, hc2⟩⟩
    | panic ch => exact hp.elim
    | outgrown => exact hp.elim
  · rintro e V ⟨⟨v, rfl⟩, (⟨hk, hi, hl, hc⟩ | ⟨k, k1, k2, c, hk, hx, hl, hc⟩)⟩
    · exact ⟨none, _, run_endLoop hl (by simp [R]), hdone _ _ (Nat.le_refl _) (hk.putObj (by omega) _) (hI _ _ _ (sOf (far (by omega))) hi) ((World.putObj_heap_other (by omega)).trans hc)⟩
    · exact ⟨some c, _, run_endLoop hl (by simp [R]), hstop _ c k _ (Nat.le_refl _) k1 k2 (hk.putObj (by omega) _) (hX _ _ _ _ (sOf (far (by omega))) hx) ((World.putObj_heap_other (by omega)).trans hc)⟩
end

end Go.Proofs.Ytljcaigaofalbaa

namespace Go.Proofs.Ytljcaigaofalbaa
open Go.RowKit Go.Shelf

theorem drew_add {W : World} {a b : Nat} : (W.drewN a).drewN b = W.drewN (a + b) := World.drewN_drewN ..
theorem cell_drewN {w : World} {p : Addr} {v : Value} (h : w.cell? p = some v) (n : Nat) : (w.drewN n).cell? p = some v := h
theorem l_drewN {w : World} {g : Nat} {t : TypeId} {cs : Array Value} (h : Whole w g t cs) (n : Nat) : Whole (w.drewN n) g t cs := h

/-- n is from l to m. -/
def inL (l n m : Int) : Bool := decide (l ≤ n ∧ n ≤ m)
set_option maxHeartbeats 1000000 in
theorem within_any (n l m : Int) (w : World) : Calls Try.prog 139 #[.int .i64 n, .int .i64 l, .int .i64 m] w fun e w' => e = .returned (.bool (inL l n m)) ∧ w' = w := by
  by_cases h1 : l ≤ n
  · by_cases h2 : n ≤ m
    · have H := Lib.hid (show inL l n m = true from decide_eq_true ⟨h1, h2⟩)
      go_enter Try.func139, Try.ntmps139
      go_wp2
      go_ret
      exact ⟨by rw [H.out]; rfl, rfl⟩
    · have H := Lib.hid (show inL l n m = false from decide_eq_false fun h => h2 h.2)
      have d2 : decide (n ≤ m) = false := decide_eq_false h2
      go_enter Try.func139, Try.ntmps139
      go_wp2
      go_ret
      exact ⟨by rw [H.out]; rfl, rfl⟩
  · have H := Lib.hid (show inL l n m = false from decide_eq_false fun h => h1 h.1)
    have d1 : decide (l ≤ n) = false := decide_eq_false h1
    go_enter Try.func139, Try.ntmps139
    go_wp2
    go_ret
    exact ⟨by rw [H.out]; rfl, rfl⟩

set_option maxHeartbeats 1000000 in
theorem round_any {x : Pl} {g : Nat} {t : TypeId} {w : World} (T : TickL x) (hW : Whole w g t x.cells) :
    Calls Try.prog 79 #[.pointer (some ⟨g, 0, none⟩)] w fun e w' => e = .returned (.int .i64 (rdL x)) ∧ ∃ n, w' = w.drewN n := by
  obtain ⟨⟨c0, _, c2, _⟩, _⟩ := l_cells hW
  have m1 : 0 ≤ x.nodes * x.slot := T.m1
  have m2 : x.nodes * x.slot ≤ 16777216 := T.m2
  have H := Lib.hid (show rdL x = x.nodes * x.slot from rfl)
  generalize hm : x.nodes * x.slot = m at *
  clear hW T
  go_enter Try.func79, Try.ntmps79
  go_wp2
  go_quiet (fail)
  go_wp2
  go_ret
  exact ⟨by rw [H.out]; rfl, _, rfl⟩

set_option maxHeartbeats 1000000 in
theorem numbers_any {x : Pl} {g : Nat} {t : TypeId} {w : World} (T : TickL x) (hW : Whole w g t x.cells) :
    Calls Try.prog 138 #[.pointer (some ⟨g, 0, none⟩)] w fun e w' => e = .returned (.tuple #[.int .i64 (eL x), .int .i64 (gL x), .int .i64 (aL x)]) ∧ ∃ n, w' = w.drewN n := by
  have HR := Lib.hid (fun W (h : Whole W g t x.cells) => round_any T h)
  have HW := Lib.hid hW
  obtain ⟨_, ⟨_, _, c6, c7⟩, ⟨c8, _⟩, _⟩ := l_cells hW
  obtain ⟨_, _, _, _, _, _, d1, d2, d3, _, _, r1, r2, m1, m2, q1, q2⟩ := T
  have e0 : (2 * rdL x).tdiv x.rho = 2 * rdL x / x.rho := Int.tdiv_eq_ediv_of_nonneg (by omega)
  have H1 := Lib.hid (show eL x = x.dmax - x.dmin + 6 from rfl)
  have H2 := Lib.hid (show gL x = 2 * (2 * rdL x / x.rho + 4) from rfl)
  have H3 := Lib.hid (show aL x = 2 * (x.dmax - x.dmin + 6 + 2 * (2 * rdL x / x.rho + 4)) from rfl)
  generalize rdL x = m at *
  generalize hq : 2 * m / x.rho = q at *
  clear hW
  have HC := Lib.hid (fun n => (⟨c8, rfl⟩ : (w.drewN n).cell? ⟨g, 8, none⟩ = some (.int .i64 x.rho) ∧ (w.drewN n).heap = w.heap))
  go_enter Try.func138, Try.ntmps138
  go_wp2
  go_quiet (fail)
  obtain ⟨k8, hh⟩ := HC.out nq
  have HH := Lib.hid hh
  clear c6 c7 c8 hh
  go_wp2
  generalize hv : w.drewN nq = W1 at *
  have HV := Lib.hid hv
  clear hv
  go_quiet ((go_at_call 79; refine Calls.quiet_of (HR.out _ ?_); unfold Whole; exact HH.out ▸ HW.out))
  go_wp2
  refine bodyPost_ret (v := .tuple #[.int .i64 (eL x), .int .i64 (gL x), .int .i64 (aL x)]) (by rw [H1.out, H2.out, H3.out]; simp [results, Try.results138, go_sem]) rfl ⟨rfl, ?_⟩
  rw [← HV.out]
  exact ⟨_, drew_add⟩

end Go.Proofs.Ytljcaigaofalbaa

namespace Go.Proofs.Ytljcaigaofalbaa
open Go.RowKit Go.Shelf

theorem num_bounds {x : Pl} (T : TickL x) : 6 ≤ eL x ∧ eL x ≤ 1048582 ∧ 8 ≤ gL x ∧ gL x ≤ 16777224 ∧ 28 ≤ aL x ∧ aL x ≤ 35651612 := by
  obtain ⟨_, _, _, _, _, _, d1, d2, d3, _, _, r1, r2, m1, m2, q1, q2⟩ := T
  unfold aL gL eL
  omega
theorem frac_bounds {x : Pl} (h : holdL x 9) : 0 ≤ frL x ∧ frL x ≤ 71 ∧ (x.queue + x.burst - 1).tdiv x.burst = frL x := by
  obtain ⟨⟨⟨q1, q2⟩, b1, b2⟩, _⟩ := h
  refine ⟨Int.ediv_nonneg (by omega) (by omega), ?_, Int.tdiv_eq_ediv_of_nonneg (by omega)⟩
  have := Int.ediv_le_self (a := x.queue + x.burst - 1) x.burst (by omega)
  unfold frL
  omega
theorem del_bounds {x : Pl} (T : TickL x) (h : holdL x 9) : 0 ≤ (frL x + 3) * rdL x ∧ (frL x + 3) * rdL x ≤ 1241513984 := by
  obtain ⟨f1, f2, _⟩ := frac_bounds h
  have m1 := T.m1
  have m2 := T.m2
  have h2 : (frL x + 3) * rdL x ≤ 74 * 16777216 := Int.mul_le_mul (by omega) m2 m1 (by omega)
  exact ⟨Int.mul_nonneg (by omega) m1, by omega⟩

section
variable {x : Pl} {g : Nat} {t : TypeId} {w : World}

set_option maxHeartbeats 1000000 in
theorem leastPi_any (T : TickL x) (hW : Whole w g t x.cells) :
    Calls Try.prog 117 #[.pointer (some ⟨g, 0, none⟩)] w fun e w' => e = .returned (.int .i64 (lPi x)) ∧ ∃ n, w' = w.drewN n := by
  have HN := Lib.hid (numbers_any T hW)
  obtain ⟨e1, e2, g1, g2, i1, i2⟩ := num_bounds T
  have H := Lib.hid (show lPi x = 2 * (aL x + gL x) + eL x from rfl)
  generalize eL x = e at *
  generalize gL x = g' at *
  generalize aL x = a at *
  clear hW T
  go_enter Try.func117, Try.ntmps117
  go_wp2_with (go_at_call 138; refine HN.out.mono ?_; rintro e' w1 ⟨rfl, hn⟩)
  go_ret
  exact ⟨by rw [H.out]; rfl, hn⟩

set_option maxHeartbeats 1000000 in
theorem leastWin_any (T : TickL x) (p1 : 0 ≤ x.pi) (p2 : x.pi ≤ 1048576) (hW : Whole w g t x.cells) :
    Calls Try.prog 118 #[.pointer (some ⟨g, 0, none⟩)] w fun e w' => e = .returned (.int .i64 (lWin x)) ∧ ∃ n, w' = w.drewN n := by
  have HN := Lib.hid (numbers_any T hW)
  obtain ⟨e1, e2, g1, g2, i1, i2⟩ := num_bounds T
  obtain ⟨_, _, ⟨_, c9, _⟩, _⟩ := l_cells hW
  have HC := Lib.hid (fun n => (c9 : (w.drewN n).cell? ⟨g, 9, none⟩ = some (.int .i64 x.pi)))
  have H := Lib.hid (show lWin x = x.pi + eL x from rfl)
  generalize eL x = e at *
  generalize gL x = g' at *
  generalize aL x = a at *
  clear hW T
  go_enter Try.func118, Try.ntmps118
  go_wp2_with (go_at_call 138; refine HN.out.mono ?_; rintro e' w1 ⟨rfl, n, rfl⟩)
  go_ret
  exact ⟨by rw [H.out]; rfl, n, rfl⟩

set_option maxHeartbeats 1000000 in
theorem leastCap_any (T : TickL x) (hW : Whole w g t x.cells) :
    Calls Try.prog 119 #[.pointer (some ⟨g, 0, none⟩)] w fun e w' => e = .returned (.int .i64 (lCap x)) ∧ ∃ n, w' = w.drewN n := by
  have HN := Lib.hid (numbers_any T hW)
  obtain ⟨e1, e2, g1, g2, i1, i2⟩ := num_bounds T
  have H := Lib.hid (show lCap x = aL x + 2 * gL x + 2 * eL x from rfl)
  generalize eL x = e at *
  generalize gL x = g' at *
  generalize aL x = a at *
  clear hW T
  go_enter Try.func119, Try.ntmps119
  go_wp2_with (go_at_call 138; refine HN.out.mono ?_; rintro e' w1 ⟨rfl, hn⟩)
  go_ret
  exact ⟨by rw [H.out]; rfl, hn⟩

set_option maxHeartbeats 1000000 in
theorem leastSend_any (p1 : 0 ≤ x.pi) (p2 : x.pi ≤ 1048576) (w1 : 0 ≤ x.window) (w2 : x.window ≤ 1048576) (k1 : 0 ≤ x.cap) (k2 : x.cap ≤ 1048576) (hW : Whole w g t x.cells) :
    Calls Try.prog 120 #[.pointer (some ⟨g, 0, none⟩)] w fun e w' => e = .returned (.int .i64 (lSend x)) ∧ ∃ n, w' = w.drewN n := by
  obtain ⟨_, ⟨c4, _⟩, ⟨_, c9, c10, _⟩, _⟩ := l_cells hW
  have H := Lib.hid (show lSend x = x.window + x.cap + x.pi from rfl)
  clear hW
  go_enter Try.func120, Try.ntmps120
  go_wp2
  go_quiet (fail)
  go_wp2
  go_ret
  exact ⟨by rw [H.out]; rfl, _, rfl⟩

set_option maxHeartbeats 1000000 in
theorem leastSlot_any (T : TickL x) (p1 : 0 ≤ x.pi) (p2 : x.pi ≤ 1048576) (w1 : 0 ≤ x.window) (w2 : x.window ≤ 1048576) (k1 : 0 ≤ x.cap) (k2 : x.cap ≤ 1048576) (s1 : 0 ≤ x.sendOff) (s2 : x.sendOff ≤ 1048576) (hW : Whole w g t x.cells) :
    Calls Try.prog 121 #[.pointer (some ⟨g, 0, none⟩)] w fun e w' => e = .returned (.int .i64 (lSlot x)) ∧ ∃ n, w' = w.drewN n := by
  obtain ⟨⟨_, _, _, c3⟩, ⟨c4, c5, c6, c7⟩, ⟨_, c9, c10, _⟩, _⟩ := l_cells hW
  obtain ⟨_, _, _, _, a1, a2, d1, d2, d3, _⟩ := T
  have H := Lib.hid (show lSlot x = x.sendOff + x.window + 2 * (x.dmax + x.air) + x.cap + x.pi + 8 from rfl)
  clear hW
  go_enter Try.func121, Try.ntmps121
  go_wp2
  go_quiet (fail)
  go_wp2
  go_ret
  exact ⟨by rw [H.out]; rfl, _, rfl⟩

set_option maxHeartbeats 1000000 in
theorem leastDel_any (T : TickL x) (h9 : holdL x 9) (p1 : 0 ≤ x.pi) (p2 : x.pi ≤ 1048576) (hW : Whole w g t x.cells) :
    Calls Try.prog 122 #[.pointer (some ⟨g, 0, none⟩)] w fun e w' => e = .returned (.int .i64 (lDel x)) ∧ ∃ n, w' = w.drewN n := by
  have HR := Lib.hid (fun W (h : Whole W g t x.cells) => round_any T h)
  have HW := Lib.hid hW
  obtain ⟨_, _, ⟨_, c9, _, _⟩, ⟨c12, c13, _⟩, _⟩ := l_cells hW
  obtain ⟨f1, f2, f3⟩ := frac_bounds h9
  obtain ⟨m3, m4⟩ := del_bounds T h9
  have m1 := T.m1
  have m2 := T.m2
  obtain ⟨⟨⟨q1, q2⟩, b1, b2⟩, _⟩ := h9
  have H := Lib.hid (show lDel x = (frL x + 3) * rdL x + 2 * x.pi from rfl)
  generalize frL x = f at *
  generalize rdL x = m at *
  generalize hv : (f + 3) * m = v at *
  have HC := Lib.hid (fun n => (⟨c9, rfl⟩ : (w.drewN n).cell? ⟨g, 9, none⟩ = some (.int .i64 x.pi) ∧ (w.drewN n).heap = w.heap))
  clear hW T
  go_enter Try.func122, Try.ntmps122
  go_wp2
  go_quiet (fail)
  obtain ⟨k9, hh⟩ := HC.out nq
  have HH := Lib.hid hh
  clear c9 c12 c13 hh
  go_wp2
  generalize hu : w.drewN nq = W1 at *
  have HU := Lib.hid hu
  clear hu
  go_quiet ((go_at_call 79; refine Calls.quiet_of (HR.out _ ?_); unfold Whole; exact HH.out ▸ HW.out))
  go_wp2
  go_ret
  refine ⟨by rw [H.out]; rfl, ?_⟩
  rw [← HU.out]
  exact ⟨_, drew_add⟩

set_option maxHeartbeats 1000000 in
theorem leastHor_any (T : TickL x) (hW : Whole w g t x.cells) :
    Calls Try.prog 123 #[.pointer (some ⟨g, 0, none⟩)] w fun e w' => e = .returned (.int .i64 (lHor x)) ∧ ∃ n, w' = w.drewN n := by
  have HR := Lib.hid (round_any T hW)
  have m1 := T.m1
  have m2 := T.m2
  have H := Lib.hid (show lHor x = 40 * rdL x from rfl)
  generalize rdL x = m at *
  clear hW T
  go_enter Try.func123, Try.ntmps123
  go_wp2_with (go_at_call 79; refine HR.out.mono ?_; rintro e' w1 ⟨rfl, hn⟩)
  go_ret
  exact ⟨by rw [H.out]; rfl, hn⟩

end
end Go.Proofs.Ytljcaigaofalbaa

namespace Go.Proofs.Ytljcaigaofalbaa
open Go.RowKit Go.Shelf

def holdB (x : Pl) (k : Nat) : Bool := decide (holdL x k)
theorem in_iff {l n m : Int} {b : Bool} (h : (l ≤ n ∧ n ≤ m) ↔ b = true) : inL l n m = b := by
  unfold inL
  cases b
  · exact decide_eq_false fun g => absurd (h.1 g) Bool.false_ne_true
  · exact decide_eq_true (h.2 rfl)
theorem in_yes {l n m : Int} (h : l ≤ n ∧ n ≤ m) : inL l n m = true := decide_eq_true h
theorem in_no {l n m : Int} (h : ¬ (l ≤ n ∧ n ≤ m)) : inL l n m = false := decide_eq_false h
/-- What is asked of one number alone. -/
theorem hold_in {x : Pl} {k : Nat} {l n m : Int} (h : holdL x k ↔ (l ≤ n ∧ n ≤ m)) : holdB x k = inL l n m := by
  unfold holdB inL
  exact decide_eq_decide.2 h
theorem within_is {n l m : Int} {b : Bool} (h : inL l n m = b) (w : World) : Calls Try.prog 139 #[.int .i64 n, .int .i64 l, .int .i64 m] w fun e w' => e = .returned (.bool b) ∧ w' = w := by
  subst h
  exact within_any n l m w

section
variable {x : Pl} {g : Nat} {t : TypeId} {w : World}

set_option maxHeartbeats 1000000 in
theorem nodesHold_any (hW : Whole w g t x.cells) :
    Calls Try.prog 125 #[.pointer (some ⟨g, 0, none⟩)] w fun e w' => e = .returned (.bool (holdB x 1)) ∧ ∃ n, w' = w.drewN n := by
  obtain ⟨⟨c0, c1, _⟩, _⟩ := l_cells hW
  clear hW
  by_cases h : 4 ≤ x.nodes ∧ x.nodes ≤ 16
  · have e0 : (x.nodes - 2).tdiv 2 = (x.nodes - 2) / 2 := Int.tdiv_eq_ediv_of_nonneg (by omega)
    have H := Lib.hid (show holdB x 1 = inL 0 x.kk ((x.nodes - 2) / 2) from hold_in (by
      show ((4 ≤ x.nodes ∧ x.nodes ≤ 16) ∧ (0 ≤ x.kk ∧ 2 * x.kk + 2 ≤ x.nodes)) ↔ _
      omega))
    have HA := Lib.hid (within_is (in_yes h))
    have HB := Lib.hid (within_any x.kk 0 ((x.nodes - 2) / 2))
    generalize inL 0 x.kk ((x.nodes - 2) / 2) = b at *
    obtain ⟨h1, h2⟩ := h
    go_enter Try.func125, Try.ntmps125
    go_wp2
    go_quiet ((first | (go_at_call 139; with_reducible exact Calls.quiet_of_same (HA.out _)) | (go_at_call 139; with_reducible exact Calls.quiet_of_same (HB.out _))))
    go_wp2
    go_ret
    exact ⟨by rw [H.out]; rfl, _, rfl⟩
  · have H := Lib.hid (show holdB x 1 = false from decide_eq_false fun k => h k.1)
    have HA := Lib.hid (within_is (in_no h))
    clear h
    go_enter Try.func125, Try.ntmps125
    go_wp2
    go_quiet ((go_at_call 139; with_reducible exact Calls.quiet_of_same (HA.out _)))
    go_wp2
    go_ret
    exact ⟨by rw [H.out]; rfl, _, rfl⟩

set_option maxHeartbeats 1000000 in
theorem delaysHold_any (hW : Whole w g t x.cells) :
    Calls Try.prog 126 #[.pointer (some ⟨g, 0, none⟩)] w fun e w' => e = .returned (.bool (holdB x 2)) ∧ ∃ n, w' = w.drewN n := by
  obtain ⟨_, ⟨_, c5, c6, c7⟩, _⟩ := l_cells hW
  clear hW
  by_cases h : 1 ≤ x.air ∧ x.air ≤ 1048576
  · have HA := Lib.hid (within_is (in_yes h))
    by_cases h2 : 0 ≤ x.dmin
    · have H := Lib.hid (show holdB x 2 = inL x.dmin x.dmax 1048576 from hold_in (by
        show ((1 ≤ x.air ∧ x.air ≤ 1048576) ∧ 0 ≤ x.dmin ∧ (x.dmin ≤ x.dmax ∧ x.dmax ≤ 1048576)) ↔ _
        omega))
      have HB := Lib.hid (within_any x.dmax x.dmin 1048576)
      generalize inL x.dmin x.dmax 1048576 = b at *
      clear h
      go_enter Try.func126, Try.ntmps126
      go_wp2
      go_quiet ((first | (go_at_call 139; with_reducible exact Calls.quiet_of_same (HA.out _)) | (go_at_call 139; with_reducible exact Calls.quiet_of_same (HB.out _))))
      go_wp2
      go_ret
      exact ⟨by rw [H.out]; rfl, _, rfl⟩
    · have H := Lib.hid (show holdB x 2 = false from decide_eq_false fun k => h2 k.2.1)
      have d2 : decide (0 ≤ x.dmin) = false := decide_eq_false h2
      clear h h2
      go_enter Try.func126, Try.ntmps126
      go_wp2
      go_quiet ((go_at_call 139; with_reducible exact Calls.quiet_of_same (HA.out _)))
      go_wp2
      go_ret
      exact ⟨by rw [H.out]; rfl, _, rfl⟩
  · have H := Lib.hid (show holdB x 2 = false from decide_eq_false fun k => h k.1)
    have HA := Lib.hid (within_is (in_no h))
    clear h
    go_enter Try.func126, Try.ntmps126
    go_wp2
    go_quiet ((go_at_call 139; with_reducible exact Calls.quiet_of_same (HA.out _)))
    go_wp2
    go_ret
    exact ⟨by rw [H.out]; rfl, _, rfl⟩

set_option maxHeartbeats 1000000 in
theorem ticksHold_any (hW : Whole w g t x.cells) :
    Calls Try.prog 127 #[.pointer (some ⟨g, 0, none⟩)] w fun e w' => e = .returned (.bool (holdB x 3)) ∧ ∃ n, w' = w.drewN n := by
  obtain ⟨⟨_, _, c2, _⟩, _, ⟨c8, _⟩, _⟩ := l_cells hW
  clear hW
  by_cases h : 1 ≤ x.slot ∧ x.slot ≤ 1048576
  · have HA := Lib.hid (within_is (in_yes h))
    have H := Lib.hid (show holdB x 3 = inL 4 x.rho 1048576 from hold_in (by
      show ((1 ≤ x.slot ∧ x.slot ≤ 1048576) ∧ (4 ≤ x.rho ∧ x.rho ≤ 1048576)) ↔ _
      omega))
    have HB := Lib.hid (within_any x.rho 4 1048576)
    generalize inL 4 x.rho 1048576 = b at *
    clear h
    go_enter Try.func127, Try.ntmps127
    go_wp2_with (first | (go_at_call 139; with_reducible refine (HA.out _).mono ?_; rintro e' w1 ⟨rfl, rfl⟩) | (go_at_call 139; with_reducible refine (HB.out _).mono ?_; rintro e' w1 ⟨rfl, rfl⟩))
    go_ret
    exact ⟨by rw [H.out]; rfl, 0, rfl⟩
  · have H := Lib.hid (show holdB x 3 = false from decide_eq_false fun k => h k.1)
    have HA := Lib.hid (within_is (in_no h))
    clear h
    go_enter Try.func127, Try.ntmps127
    go_wp2_with (go_at_call 139; with_reducible refine (HA.out _).mono ?_; rintro e' w1 ⟨rfl, rfl⟩)
    go_ret
    exact ⟨by rw [H.out]; rfl, 0, rfl⟩

set_option maxHeartbeats 1000000 in
theorem piHolds_any (T : TickL x) (hW : Whole w g t x.cells) :
    Calls Try.prog 128 #[.pointer (some ⟨g, 0, none⟩)] w fun e w' => e = .returned (.bool (holdB x 4)) ∧ ∃ n, w' = w.drewN n := by
  obtain ⟨_, _, ⟨_, c, _, _⟩, _, _⟩ := l_cells hW
  have HW := Lib.hid hW
  have H := Lib.hid (show holdB x 4 = inL (lPi x) x.pi 1048576 from hold_in Iff.rfl)
  have HL := Lib.hid (fun W (h : Whole W g t x.cells) => leastPi_any T h)
  have HA := Lib.hid (within_any x.pi (lPi x) 1048576)
  generalize inL (lPi x) x.pi 1048576 = b at *
  generalize lPi x = l at *
  clear hW
  go_enter Try.func128, Try.ntmps128
  go_wp2
  go_quiet ((first | (go_at_call 117; refine Calls.quiet_of (HL.out _ ?_); exact HW.out) | (go_at_call 139; with_reducible exact Calls.quiet_of_same (HA.out _))))
  go_wp2
  go_ret
  exact ⟨by rw [H.out]; rfl, _, rfl⟩

set_option maxHeartbeats 1000000 in
theorem windowHolds_any (T : TickL x) (p1 : 0 ≤ x.pi) (p2 : x.pi ≤ 1048576) (hW : Whole w g t x.cells) :
    Calls Try.prog 129 #[.pointer (some ⟨g, 0, none⟩)] w fun e w' => e = .returned (.bool (holdB x 5)) ∧ ∃ n, w' = w.drewN n := by
  obtain ⟨_, ⟨c, _, _, _⟩, _, _, _⟩ := l_cells hW
  have HW := Lib.hid hW
  have H := Lib.hid (show holdB x 5 = inL (lWin x) x.window 1048576 from hold_in Iff.rfl)
  have HL := Lib.hid (fun W (h : Whole W g t x.cells) => leastWin_any T p1 p2 h)
  have HA := Lib.hid (within_any x.window (lWin x) 1048576)
  generalize inL (lWin x) x.window 1048576 = b at *
  generalize lWin x = l at *
  clear hW
  go_enter Try.func129, Try.ntmps129
  go_wp2
  go_quiet ((first | (go_at_call 118; refine Calls.quiet_of (HL.out _ ?_); exact HW.out) | (go_at_call 139; with_reducible exact Calls.quiet_of_same (HA.out _))))
  go_wp2
  go_ret
  exact ⟨by rw [H.out]; rfl, _, rfl⟩

set_option maxHeartbeats 1000000 in
theorem capHolds_any (T : TickL x) (hW : Whole w g t x.cells) :
    Calls Try.prog 130 #[.pointer (some ⟨g, 0, none⟩)] w fun e w' => e = .returned (.bool (holdB x 6)) ∧ ∃ n, w' = w.drewN n := by
  obtain ⟨_, _, ⟨_, _, c, _⟩, _, _⟩ := l_cells hW
  have HW := Lib.hid hW
  have H := Lib.hid (show holdB x 6 = inL (lCap x) x.cap 1048576 from hold_in Iff.rfl)
  have HL := Lib.hid (fun W (h : Whole W g t x.cells) => leastCap_any T h)
  have HA := Lib.hid (within_any x.cap (lCap x) 1048576)
  generalize inL (lCap x) x.cap 1048576 = b at *
  generalize lCap x = l at *
  clear hW
  go_enter Try.func130, Try.ntmps130
  go_wp2
  go_quiet ((first | (go_at_call 119; refine Calls.quiet_of (HL.out _ ?_); exact HW.out) | (go_at_call 139; with_reducible exact Calls.quiet_of_same (HA.out _))))
  go_wp2
  go_ret
  exact ⟨by rw [H.out]; rfl, _, rfl⟩

set_option maxHeartbeats 1000000 in
theorem sendOffHolds_any (p1 : 0 ≤ x.pi) (p2 : x.pi ≤ 1048576) (w1 : 0 ≤ x.window) (w2 : x.window ≤ 1048576) (k1 : 0 ≤ x.cap) (k2 : x.cap ≤ 1048576) (hW : Whole w g t x.cells) :
    Calls Try.prog 131 #[.pointer (some ⟨g, 0, none⟩)] w fun e w' => e = .returned (.bool (holdB x 7)) ∧ ∃ n, w' = w.drewN n := by
  obtain ⟨⟨_, _, _, c⟩, _, _, _, _⟩ := l_cells hW
  have HW := Lib.hid hW
  have H := Lib.hid (show holdB x 7 = inL (lSend x) x.sendOff 1048576 from hold_in Iff.rfl)
  have HL := Lib.hid (fun W (h : Whole W g t x.cells) => leastSend_any p1 p2 w1 w2 k1 k2 h)
  have HA := Lib.hid (within_any x.sendOff (lSend x) 1048576)
  generalize inL (lSend x) x.sendOff 1048576 = b at *
  generalize lSend x = l at *
  clear hW
  go_enter Try.func131, Try.ntmps131
  go_wp2
  go_quiet ((first | (go_at_call 120; refine Calls.quiet_of (HL.out _ ?_); exact HW.out) | (go_at_call 139; with_reducible exact Calls.quiet_of_same (HA.out _))))
  go_wp2
  go_ret
  exact ⟨by rw [H.out]; rfl, _, rfl⟩

set_option maxHeartbeats 1000000 in
theorem slotHolds_any (T : TickL x) (p1 : 0 ≤ x.pi) (p2 : x.pi ≤ 1048576) (w1 : 0 ≤ x.window) (w2 : x.window ≤ 1048576) (k1 : 0 ≤ x.cap) (k2 : x.cap ≤ 1048576) (s1 : 0 ≤ x.sendOff) (s2 : x.sendOff ≤ 1048576) (hW : Whole w g t x.cells) :
    Calls Try.prog 132 #[.pointer (some ⟨g, 0, none⟩)] w fun e w' => e = .returned (.bool (holdB x 8)) ∧ ∃ n, w' = w.drewN n := by
  obtain ⟨⟨_, _, c2, _⟩, _⟩ := l_cells hW
  have HW := Lib.hid hW
  have H := Lib.hid (show holdB x 8 = decide (lSlot x ≤ x.slot) from rfl)
  have HL := Lib.hid (fun W (h : Whole W g t x.cells) => leastSlot_any T p1 p2 w1 w2 k1 k2 s1 s2 h)
  generalize lSlot x = l at *
  clear hW
  go_enter Try.func132, Try.ntmps132
  go_wp2
  go_quiet ((go_at_call 121; refine Calls.quiet_of (HL.out _ ?_); exact HW.out))
  go_wp2
  go_ret
  exact ⟨by rw [H.out]; rfl, _, rfl⟩

set_option maxHeartbeats 1000000 in
theorem queueHolds_any (hW : Whole w g t x.cells) :
    Calls Try.prog 133 #[.pointer (some ⟨g, 0, none⟩)] w fun e w' => e = .returned (.bool (holdB x 9)) ∧ ∃ n, w' = w.drewN n := by
  obtain ⟨_, _, _, ⟨c12, c13, c14, _⟩, _⟩ := l_cells hW
  clear hW
  by_cases h : 1 ≤ x.queue ∧ x.queue ≤ 64
  · have HA := Lib.hid (within_is (in_yes h))
    by_cases h2 : 1 ≤ x.burst ∧ x.burst ≤ 8
    · have HB := Lib.hid (within_is (in_yes h2))
      have H := Lib.hid (show holdB x 9 = inL 1 x.payload 32 from hold_in (by
        show (((1 ≤ x.queue ∧ x.queue ≤ 64) ∧ (1 ≤ x.burst ∧ x.burst ≤ 8)) ∧ (1 ≤ x.payload ∧ x.payload ≤ 32)) ↔ _
        omega))
      have HC := Lib.hid (within_any x.payload 1 32)
      generalize inL 1 x.payload 32 = b at *
      clear h h2
      go_enter Try.func133, Try.ntmps133
      go_wp2_with (first | (go_at_call 139; with_reducible refine (HA.out _).mono ?_; rintro e' w1 ⟨rfl, rfl⟩) | (go_at_call 139; with_reducible refine (HB.out _).mono ?_; rintro e' w1 ⟨rfl, rfl⟩) | (go_at_call 139; with_reducible refine (HC.out _).mono ?_; rintro e' w1 ⟨rfl, rfl⟩))
      go_ret
      exact ⟨by rw [H.out]; rfl, 0, rfl⟩
    · have HB := Lib.hid (within_is (in_no h2))
      have H := Lib.hid (show holdB x 9 = false from decide_eq_false fun k => h2 k.1.2)
      clear h h2
      go_enter Try.func133, Try.ntmps133
      go_wp2_with (first | (go_at_call 139; with_reducible refine (HA.out _).mono ?_; rintro e' w1 ⟨rfl, rfl⟩) | (go_at_call 139; with_reducible refine (HB.out _).mono ?_; rintro e' w1 ⟨rfl, rfl⟩))
      go_ret
      exact ⟨by rw [H.out]; rfl, 0, rfl⟩
  · have HA := Lib.hid (within_is (in_no h))
    have H := Lib.hid (show holdB x 9 = false from decide_eq_false fun k => h k.1.1)
    clear h
    go_enter Try.func133, Try.ntmps133
    go_wp2_with (go_at_call 139; with_reducible refine (HA.out _).mono ?_; rintro e' w1 ⟨rfl, rfl⟩)
    go_ret
    exact ⟨by rw [H.out]; rfl, 0, rfl⟩

set_option maxHeartbeats 1000000 in
theorem deltaHolds_any (T : TickL x) (h9 : holdL x 9) (p1 : 0 ≤ x.pi) (p2 : x.pi ≤ 1048576) (hW : Whole w g t x.cells) :
    Calls Try.prog 134 #[.pointer (some ⟨g, 0, none⟩)] w fun e w' => e = .returned (.bool (holdB x 10)) ∧ ∃ n, w' = w.drewN n := by
  obtain ⟨_, _, ⟨_, _, _, c11⟩, _⟩ := l_cells hW
  have HW := Lib.hid hW
  have m1 := T.m1
  have m2 := T.m2
  have H := Lib.hid (show holdB x 10 = inL (lDel x) x.delta (64 * rdL x) from hold_in Iff.rfl)
  have HL := Lib.hid (fun W (h : Whole W g t x.cells) => leastDel_any T h9 p1 p2 h)
  have HR := Lib.hid (fun W (h : Whole W g t x.cells) => round_any T h)
  have HA := Lib.hid (within_any x.delta (lDel x) (64 * rdL x))
  generalize inL (lDel x) x.delta (64 * rdL x) = b at *
  generalize lDel x = l at *
  generalize rdL x = m at *
  clear hW
  go_enter Try.func134, Try.ntmps134
  go_wp2
  go_quiet ((first
    | (go_at_call 122; refine Calls.quiet_of (HL.out _ ?_); exact HW.out)
    | (go_at_call 79; refine Calls.quiet_of (HR.out _ ?_); exact HW.out)
    | (go_at_call 139; with_reducible exact Calls.quiet_of_same (HA.out _))))
  go_wp2
  go_ret
  exact ⟨by rw [H.out]; rfl, _, rfl⟩

set_option maxHeartbeats 1000000 in
theorem horizonHolds_any (T : TickL x) (hW : Whole w g t x.cells) :
    Calls Try.prog 135 #[.pointer (some ⟨g, 0, none⟩)] w fun e w' => e = .returned (.bool (holdB x 11)) ∧ ∃ n, w' = w.drewN n := by
  obtain ⟨_, _, _, ⟨_, _, _, c⟩, _⟩ := l_cells hW
  have HW := Lib.hid hW
  have H := Lib.hid (show holdB x 11 = inL (lHor x) x.horizon 2147483648 from hold_in Iff.rfl)
  have HL := Lib.hid (fun W (h : Whole W g t x.cells) => leastHor_any T h)
  have HA := Lib.hid (within_any x.horizon (lHor x) 2147483648)
  generalize inL (lHor x) x.horizon 2147483648 = b at *
  generalize lHor x = l at *
  clear hW
  go_enter Try.func135, Try.ntmps135
  go_wp2
  go_quiet ((first | (go_at_call 123; refine Calls.quiet_of (HL.out _ ?_); exact HW.out) | (go_at_call 139; with_reducible exact Calls.quiet_of_same (HA.out _))))
  go_wp2
  go_ret
  exact ⟨by rw [H.out]; rfl, _, rfl⟩

end
end Go.Proofs.Ytljcaigaofalbaa

namespace Go.Proofs.Ytljcaigaofalbaa
open Go.RowKit Go.Shelf
attribute [local go_sem] Oper.semAt_some

/-- The method that asks a condition. -/
def methL : Nat → Nat
  | 1 => 125
  | 2 => 126
  | 3 => 127
  | 4 => 128
  | 5 => 129
  | 6 => 130
  | 7 => 131
  | 8 => 132
  | 9 => 133
  | 10 => 134
  | _ => 135
/-- The method, bound to the draft. -/
def boundL (g k : Nat) : Value := .func (.func (methL k)) #[.pointer (some ⟨g, 0, none⟩)] #[]
abbrev encL (g k : Nat) : Array Value := #[.int .i64 (k : Int), boundL g k]
/-- The iterator's array. -/
def allL (g : Nat) : Array Value := #[.nilFunc, boundL g 1, boundL g 2, boundL g 3, boundL g 4, boundL g 5, boundL g 6, boundL g 7, boundL g 8, boundL g 9, boundL g 10, boundL g 11]
theorem allL_at (g k : Nat) (h1 : 1 ≤ k) (h2 : k ≤ 11) : (allL g)[k]? = some (boundL g k) := by
  have : k = 1 ∨ k = 2 ∨ k = 3 ∨ k = 4 ∨ k = 5 ∨ k = 6 ∨ k = 7 ∨ k = 8 ∨ k = 9 ∨ k = 10 ∨ k = 11 := by omega
  rcases this with rfl | rfl | rfl | rfl | rfl | rfl | rfl | rfl | rfl | rfl | rfl <;> rfl

set_option maxHeartbeats 1000000 in
theorem conditions_in (m g : Nat) (w : World) :
    CallsIn Fence.wide m Try.prog 105 #[.pointer (some ⟨g, 0, none⟩)] w fun e w' => e = .returned (.func (.func 124) #[] #[.pointer (some ⟨w.heap.size, 0, none⟩)]) ∧
      w' = w.alloc (.cells #[.pointer (some ⟨g, 0, none⟩)] 152) := by
  have hmf : ∀ (fn : Fn) (first cap : Array Value) (w : World), (Instr.makeFunc fn first cap).run Try.prog w = .ok (.func fn first cap) w := fun _ _ _ _ => rfl
  refine callsIn_of_wp Try.func105 rfl trivial ?_ rfl
  simp only [Try.ntmps105, List.size_toArray, List.length_cons, List.length_nil, Nat.reduceAdd, Nat.reduceSub, Array.replicate_succ, Array.replicate_zero, List.push_toArray, List.append_toArray, List.nil_append, List.cons_append]
  gi_wp2
  go_ret
  exact ⟨rfl, rfl⟩

set_option maxRecDepth 100000 in
set_option maxHeartbeats 4000000 in
theorem rounds_any (m : Nat) (hm : 1 ≤ m) (b g : Nat) (w : World) (hb : b < w.heap.size) (hc : w.cell? ⟨b, 0, none⟩ = some (.pointer (some ⟨g, 0, none⟩))) :
    Rounds m Try.prog 124 #[.pointer (some ⟨b, 0, none⟩)] (encL g) 11 w := fun l J Jx W hW hJ hY h0 => by
  have hmf : ∀ (fn : Fn) (first cap : Array Value) (w : World), (Instr.makeFunc fn first cap).run Try.prog w = .ok (.func fn first cap) w := fun _ _ _ _ => rfl
  have hc1 : W.cell? ⟨b, 0, none⟩ = some (.pointer (some ⟨g, 0, none⟩)) := (hW.cell (p := ⟨b, 0, none⟩) hb).trans hc
  have hJ1 : J 0 (W.alloc (.cells (allL g) 165)) := hJ 0 W _ h0
  have hA := Whole.new W 165 (allL g)
  have HJ := Lib.hid hJ1
  have HA := Lib.hid hA
  have HY := Lib.hid hY
  clear hJ1 hA hY hJ h0 hW hc hb
  refine callsIn_of_wp Try.func124 rfl trivial ?_ rfl
  simp only [Try.ntmps124, List.size_toArray, List.length_cons, List.length_nil, Nat.reduceAdd, Nat.reduceSub, Array.replicate_succ, Array.replicate_zero, List.push_toArray, List.append_toArray, List.nil_append, List.cons_append]
  gi_wp2
  gi_loopw [4] (fun i wr => ∃ k : Nat, k ≤ 11 ∧ i = .int .i64 ((k : Int) + 1) ∧ J k wr ∧ Whole wr W.heap.size 165 (allL g)) (fun i _ => 12 - (intOf i).toNat)
  case atStart => exact ⟨0, by omega, rfl, HJ.out, HA.out⟩
  case round =>
    obtain ⟨k, hk, rfl, hJk, hA⟩ := hrel
    have hlt' := hA.lt
    by_cases hlt : k < 11
    · obtain ⟨fn, tmps, assign, body, hy, hR⟩ := HY.out k wr hlt hJk
      have hc : wr.cell? ⟨W.heap.size, k + 1, none⟩ = some (boundL g (k + 1)) := (hA.cell (k + 1)).trans (allL_at g (k + 1) (by omega) (by omega))
      have em : (((k + 1 : Nat)) : Int) = (k : Int) + 1 := by omega
      rw [encL, em] at hy
      unfold boundL at hc hy
      have HW := Lib.hid hA
      clear em hA hJk
      generalize methL (k + 1) = f at *
      gi_wp2
      refine hR.mono ?_
      rintro e W3 (⟨rfl, hJ3, hk3⟩ | ⟨rfl, hJx3⟩)
      · have hA3 : Whole W3 W.heap.size 165 (allL g) := (hk3 _ (Nat.le_refl _) hlt').trans HW.out
        have HA3 := Lib.hid hA3
        clear hk3 hA3 hR hy hc
        gi_wp2
        go_roundw
        case rel => exact ⟨k + 1, by omega, by go_num, hJ3, HA3.out⟩
        case measure => simp [intOf]; omega
      · clear hR hy hc
        gi_wp2
        refine bodyPost_ret (results_none rfl _ _ _) rfl ?_
        exact ⟨⟨_, rfl⟩, .inr ⟨k + 1, by omega, by omega, hJx3⟩⟩
    · obtain rfl : k = 11 := by omega
      clear hA
      gi_wp2
      go_end0
      exact ⟨⟨_, rfl⟩, .inl hJk⟩

end Go.Proofs.Ytljcaigaofalbaa

namespace Go.Proofs.Ytljcaigaofalbaa
open Go.RowKit Go.Shelf

section
variable {x : Pl} {g : Nat} {t : TypeId} {w : World}

theorem lPi_pos (T : TickL x) : 0 ≤ lPi x := by
  have := num_bounds T
  unfold lPi
  omega
theorem lCap_pos (T : TickL x) : 0 ≤ lCap x := by
  have := num_bounds T
  unfold lCap
  omega
/-- What conditions 4 to 7 leave of their numbers. -/
theorem pi_of (T : TickL x) (h : holdL x 4) : 0 ≤ x.pi ∧ x.pi ≤ 1048576 := ⟨Int.le_trans (lPi_pos T) h.1, h.2⟩
theorem win_of (T : TickL x) (h : holdL x 4) (k : holdL x 5) : 0 ≤ x.window ∧ x.window ≤ 1048576 := by
  have := num_bounds T
  have := pi_of T h
  refine ⟨Int.le_trans ?_ k.1, k.2⟩
  unfold lWin
  omega
theorem cap_of (T : TickL x) (h : holdL x 6) : 0 ≤ x.cap ∧ x.cap ≤ 1048576 := ⟨Int.le_trans (lCap_pos T) h.1, h.2⟩
theorem send_of (T : TickL x) (h4 : holdL x 4) (h5 : holdL x 5) (h6 : holdL x 6) (h : holdL x 7) : 0 ≤ x.sendOff ∧ x.sendOff ≤ 1048576 := by
  have := pi_of T h4
  have := win_of T h4 h5
  have := cap_of T h6
  refine ⟨Int.le_trans ?_ h.1, h.2⟩
  unfold lSend
  omega

theorem enters_meth (k : Nat) : ∀ (args : Array Value) (W : World), (callFunc (methL k) args).run Try.prog W = .ok (.enter (methL k) args) W := by
  unfold methL
  split
  · exact enters_of Try.func125 (by kernel_rfl) rfl
  · exact enters_of Try.func126 (by kernel_rfl) rfl
  · exact enters_of Try.func127 (by kernel_rfl) rfl
  · exact enters_of Try.func128 (by kernel_rfl) rfl
  · exact enters_of Try.func129 (by kernel_rfl) rfl
  · exact enters_of Try.func130 (by kernel_rfl) rfl
  · exact enters_of Try.func131 (by kernel_rfl) rfl
  · exact enters_of Try.func132 (by kernel_rfl) rfl
  · exact enters_of Try.func133 (by kernel_rfl) rfl
  · exact enters_of Try.func134 (by kernel_rfl) rfl
  · exact enters_of Try.func135 (by kernel_rfl) rfl

theorem meth_any (k : Nat) (h1 : 1 ≤ k) (h2 : k ≤ 11) (hp : ∀ j, 1 ≤ j → j < k → holdL x j) (hW : Whole w g t x.cells) :
    Calls Try.prog (methL k) #[.pointer (some ⟨g, 0, none⟩)] w fun e w' => e = .returned (.bool (holdB x k)) ∧ ∃ n, w' = w.drewN n := by
  have hT : 3 < k → TickL x := fun h => tick_three (hp 1 (by omega) (by omega)) (hp 2 (by omega) (by omega)) (hp 3 (by omega) (by omega))
  have : k = 1 ∨ k = 2 ∨ k = 3 ∨ k = 4 ∨ k = 5 ∨ k = 6 ∨ k = 7 ∨ k = 8 ∨ k = 9 ∨ k = 10 ∨ k = 11 := by omega
  rcases this with rfl | rfl | rfl | rfl | rfl | rfl | rfl | rfl | rfl | rfl | rfl
  · exact nodesHold_any hW
  · exact delaysHold_any hW
  · exact ticksHold_any hW
  · exact piHolds_any (hT (by omega)) hW
  · have T := hT (by omega)
    obtain ⟨p1, p2⟩ := pi_of T (hp 4 (by omega) (by omega))
    exact windowHolds_any T p1 p2 hW
  · exact capHolds_any (hT (by omega)) hW
  · have T := hT (by omega)
    obtain ⟨p1, p2⟩ := pi_of T (hp 4 (by omega) (by omega))
    obtain ⟨w1, w2⟩ := win_of T (hp 4 (by omega) (by omega)) (hp 5 (by omega) (by omega))
    obtain ⟨k1, k2⟩ := cap_of T (hp 6 (by omega) (by omega))
    exact sendOffHolds_any p1 p2 w1 w2 k1 k2 hW
  · have T := hT (by omega)
    obtain ⟨p1, p2⟩ := pi_of T (hp 4 (by omega) (by omega))
    obtain ⟨w1, w2⟩ := win_of T (hp 4 (by omega) (by omega)) (hp 5 (by omega) (by omega))
    obtain ⟨k1, k2⟩ := cap_of T (hp 6 (by omega) (by omega))
    obtain ⟨s1, s2⟩ := send_of T (hp 4 (by omega) (by omega)) (hp 5 (by omega) (by omega)) (hp 6 (by omega) (by omega)) (hp 7 (by omega) (by omega))
    exact slotHolds_any T p1 p2 w1 w2 k1 k2 s1 s2 hW
  · exact queueHolds_any hW
  · have T := hT (by omega)
    obtain ⟨p1, p2⟩ := pi_of T (hp 4 (by omega) (by omega))
    exact deltaHolds_any T (hp 9 (by omega) (by omega)) p1 p2 hW
  · exact horizonHolds_any (hT (by omega)) hW

end
end Go.Proofs.Ytljcaigaofalbaa

namespace Go.Proofs.Ytljcaigaofalbaa
open Go.RowKit Go.Shelf
attribute [local go_sem] Oper.semAt_some

theorem wpIn_scope_any {n : Nat} {P : Program} {c : Code} {Q : Exit → Act → World → Prop} {a : Act} {w : World} (h : c.wpIn Fence.wide n P (Exit.noGoto Q) a w) : (Code.scope c).wpIn Fence.wide n P Q a w :=
  wpIn_wide.2 (wp_scope_straight (wpIn_wide.1 h))

/-- Between two rounds: k conditions hold. -/
def HeldL (x : Pl) (last B k : Nat) (W : World) : Prop := Boxed W B 123 (.int .i64 0) ∧ ∀ j, 1 ≤ j → j ≤ k → holdL x j ∧ j ≤ last
/-- Round k has left. -/
def LeftL (x : Pl) (last B k : Nat) (W : World) : Prop :=
  (∀ j, 1 ≤ j → j < k → holdL x j ∧ j ≤ last) ∧ ((last < k ∧ Boxed W B 123 (.int .i64 0)) ∨ (k ≤ last ∧ ¬ holdL x k ∧ Boxed W B 123 (.int .i64 (k : Int))))

theorem below_last {S : Nat → Prop} {a b c : World} (h : Below a.heap.size a b) (k : Kept S b c) (hS : ∀ i, S i → a.heap.size ≤ i) {D : Nat} (hD : a.heap.size ≤ D) {ds : List Deferred} (hc : c.heap[D]? = some (.deferred (some ds))) :
    Below a.heap.size a (c.putObj D (.deferred none)) := by
  have hz := h.size
  have h2 : Below a.heap.size a c := h.trans ⟨k.os, k.tape, k.output, k.size, fun i hi => k.block i (by omega) (fun hs => by have := hS i hs; omega)⟩
  exact h2.trans (belowK_b (w := a) (Nat.le_refl _) c D _ _ hD hc rfl rfl)

set_option maxRecDepth 100000 in
set_option maxHeartbeats 4000000 in
theorem failsIn_any {x : Pl} {g : Nat} {t : TypeId} (last : Nat) (hl : last ≤ 11) (w : World) (hW : Whole w g t x.cells) :
    Calls Try.prog 78 #[.pointer (some ⟨g, 0, none⟩), .int .i64 (last : Int)] w fun e w' => e = .returned (.int .i64 (failsL x last : Int)) ∧ Below w.heap.size w w' := by
  have HF := Lib.hid (fun r (h : FirstL x last r) => failsL_of h hl)
  have hg := hW.lt
  refine (callsIn_wide (n := 5)).1 ?_
  refine callsIn_of_wp_marks Try.func78 rfl trivial ?_ rfl
  simp only [Try.ntmps78, List.size_toArray, List.length_cons, List.length_nil, Nat.reduceAdd, Nat.reduceSub, Array.replicate_succ, Array.replicate_zero, List.push_toArray, List.append_toArray, List.nil_append, List.cons_append]
  gi_wp2
  refine wpIn_scope_any ?_
  gi_wp2
  refine wpIn_label ?_
  gi_wp2_with (refine ⟨trivial, ?_⟩; gi_at_call 105; refine (conditions_in _ _ _).mono ?_; rintro e w' ⟨rfl, rfl⟩)
  have bL := Boxed.new w 123 (.int .i64 (last : Int))
  have bF := Boxed.new (w.alloc (.cells #[.int .i64 (last : Int)] 123)) 123 (.int .i64 0)
  have bD := Boxed.new ((w.alloc (.cells #[.int .i64 (last : Int)] 123)).alloc (.cells #[.int .i64 0] 123)) 152 (.pointer (some ⟨g, 0, none⟩))
  simp only [World.size_alloc] at bF bD
  have hB0 : Below w.heap.size w (((w.alloc (.cells #[.int .i64 (last : Int)] 123)).alloc (.cells #[.int .i64 0] 123)).alloc (.cells #[.pointer (some ⟨g, 0, none⟩)] 152)) := (((Below.refl _ w).alloc (Nat.le_refl _) _).alloc (by simp) _).alloc (by simp; omega) _
  have hz : (((w.alloc (.cells #[.int .i64 (last : Int)] 123)).alloc (.cells #[.int .i64 0] 123)).alloc (.cells #[.pointer (some ⟨g, 0, none⟩)] 152)).heap.size = w.heap.size + 1 + 1 + 1 := by simp
  have bL2 := (bL.alloc (.cells #[.int .i64 0] 123)).alloc (.cells #[.pointer (some ⟨g, 0, none⟩)] 152)
  have bF2 := bF.alloc (.cells #[.pointer (some ⟨g, 0, none⟩)] 152)
  have hW2 : Whole (((w.alloc (.cells #[.int .i64 (last : Int)] 123)).alloc (.cells #[.int .i64 0] 123)).alloc (.cells #[.pointer (some ⟨g, 0, none⟩)] 152)) g t x.cells := hW.below hB0 hg
  clear bL bF
  generalize hw3 : (((w.alloc (.cells #[.int .i64 (last : Int)] 123)).alloc (.cells #[.int .i64 0] 123)).alloc (.cells #[.pointer (some ⟨g, 0, none⟩)] 152)) = w3 at *
  clear hw3
  have HB0 := Lib.hid hB0
  refine wpIn_rounds (S := fun i => i = w.heap.size + 1) (fun i h => by omega) (by omega) (gf := 124) (lb := #[.pointer (some ⟨w.heap.size + 1 + 1, 0, none⟩)]) rfl
    (enters_of Try.func124 (by kernel_rfl) rfl) (encs := encL g) (M := 11) (fun _ => rfl)
    (rounds_any 4 (by omega) (w.heap.size + 1 + 1) g w3 (by omega) bD.cell)
    (HeldL x last (w.heap.size + 1)) (fun c k W => c = .exit 0 ∧ LeftL x last (w.heap.size + 1) k W)
    (fun k A B h i => ⟨(h _ rfl).trans i.1, i.2⟩)
    (fun c k A B h i => ⟨i.1, i.2.1, i.2.2.imp (fun j => ⟨j.1, (h _ rfl).trans j.2⟩) (fun j => ⟨j.1, j.2.1, (h _ rfl).trans j.2.2⟩)⟩)
    ⟨bF2, fun j a b => by omega⟩
    (fun k => { tmps := #[.pointer (some ⟨g, 0, none⟩), .int .i64 (last : Int), undef, .pointer (some ⟨w.heap.size, 0, none⟩), .int .i64 0, .pointer (some ⟨w.heap.size + 1, 0, none⟩), .int .i64 (k : Int), boundL g k, .pointer (some ⟨g, 0, none⟩),
      .func (.func 124) #[] #[.pointer (some ⟨w.heap.size + 1 + 1, 0, none⟩)], .int .i64 (k : Int), boundL g k, undef, undef, undef, undef, undef, undef, undef, undef, undef, undef], defers := [] }) ?assign ?body ?done ?stop
  case assign =>
    intro l k W K hK
    unfold encL boundL at *
    generalize methL k = f at *
    gi_wp2
    exact hK
  case body =>
    rintro l k W hkM hK ⟨hbF, hHeld⟩
    have hbL : Boxed W w.heap.size 123 (.int .i64 (last : Int)) := (hK.block _ (by omega) (by omega)).trans bL2
    have hWW : Whole W g t x.cells := (hK.block _ (by omega) (by omega)).trans hW2
    have hcL := hbL.cell
    have hcF := hbF.cell
    have hfF := hbF.frozen
    clear bL2 bF2 hW2 bD hB0 hW hK hbL
    have HH := Lib.hid hHeld
    have HBF := Lib.hid hbF
    clear hHeld hbF
    by_cases hlk : last < k + 1
    · have hlk2 : (last : Int) < (k : Int) + 1 := by omega
      have HL := Lib.hid hlk
      clear hlk
      unfold boundL
      gi_wp2
      exact ⟨Kept.refl _ _, rfl, fun j a b => HH.out j a (by omega), .inl ⟨HL.out, HBF.out⟩⟩
    · have hlk2 : (k : Int) + 1 ≤ (last : Int) := by omega
      have hm := meth_any (k + 1) (by omega) (by omega) (fun j a b => (HH.out j a (by omega)).1) hWW
      have en := enters_meth (k + 1)
      have HL := Lib.hid hlk
      clear hlk hWW
      unfold boundL
      generalize methL (k + 1) = f at *
      cases hb : holdB x (k + 1)
      · have hnot : ¬ holdL x (k + 1) := of_decide_eq_false hb
        rw [hb] at hm
        have HM := Lib.hid hm
        have HN := Lib.hid hnot
        clear hb hm hnot
        gi_wp2
        refine ⟨trivial, (CallsIn.inRound l (callsIn_wide.2 HM.out)).mono ?_⟩
        rintro e w' ⟨rfl, n, rfl⟩
        gi_wp2
        have hbx : Boxed (W.drewN n) (w.heap.size + 1) 123 (.int .i64 0) := HBF.out
        exact ⟨Kept.setCell (S := fun i => i = w.heap.size + 1) (p := ⟨w.heap.size + 1, 0, none⟩) ((Kept.refl _ W).drewN n) (.inl rfl) _, rfl, fun j a b => HH.out j a (by omega), .inr ⟨by omega, HN.out, hbx.set _⟩⟩
      · have hyes : holdL x (k + 1) := of_decide_eq_true hb
        rw [hb] at hm
        have HM := Lib.hid hm
        have HY := Lib.hid hyes
        clear hb hm hyes
        gi_wp2
        refine ⟨trivial, (CallsIn.inRound l (callsIn_wide.2 HM.out)).mono ?_⟩
        rintro e w' ⟨rfl, n, rfl⟩
        gi_wp2
        refine ⟨(Kept.refl _ W).drewN n, HBF.out, fun j a b => ?_⟩
        by_cases hj : j = k + 1
        · subst hj; exact ⟨HY.out, by omega⟩
        · exact HH.out j a (by omega)
  case done =>
    rintro D W hD hK ⟨hbF, hHeld⟩ hDD
    have hc := hbF.cell
    have HH := Lib.hid (HF.out 0 (.inl ⟨rfl, fun j a b => (hHeld j a (by omega)).1⟩))
    have HB := Lib.hid (below_last hB0 hK (fun i h => by omega) (by omega) hDD)
    clear hHeld hbF bL2 bF2 hW2 bD hB0 hW hK
    gi_wp2
    rw [Exit.noGoto_ret]
    refine ⟨by simp, .inl ⟨_, _, rfl, run_takeDeferred hDD, ?_⟩⟩
    exact ⟨_, results_tmp rfl _ _ _, by rw [HH.out]; rfl, HB.out⟩
  case stop =>
    rintro D c k W hD h1 h2 hK ⟨rfl, hHeld, hleft⟩ hDD
    have HB := Lib.hid (below_last hB0 hK (fun i h => by omega) (by omega) hDD)
    clear bL2 bF2 hW2 bD hB0 hW hK
    rcases hleft with ⟨h3, hbF⟩ | ⟨h3, h4, hbF⟩
    · have HH := Lib.hid (HF.out 0 (.inl ⟨rfl, fun j a b => (hHeld j a (by omega)).1⟩))
      have hc := hbF.cell
      clear hHeld hbF h3
      gi_wp2
      rw [Exit.noGoto_ret]
      refine ⟨by simp, .inl ⟨_, _, rfl, run_takeDeferred hDD, ?_⟩⟩
      exact ⟨_, results_tmp rfl _ _ _, by rw [HH.out]; rfl, HB.out⟩
    · have HH := Lib.hid (HF.out k (.inr ⟨h1, h3, h4, fun j a b => (hHeld j a b).1⟩))
      have hc := hbF.cell
      clear hHeld hbF h3 h4
      gi_wp2
      rw [Exit.noGoto_ret]
      refine ⟨by simp, .inl ⟨_, _, rfl, run_takeDeferred hDD, ?_⟩⟩
      exact ⟨_, results_tmp rfl _ _ _, by rw [HH.out]; rfl, HB.out⟩

end Go.Proofs.Ytljcaigaofalbaa
