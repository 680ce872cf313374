/- OctetOuts, plain facts: the two Outs side by side, and a row of the call's own. -/
import Derived.Test.YtloeckflcdnmaaaROut
import Derived.Test.YtloeckflcdnmaaaIns
import Derived.Test.YtloeckflcdnmaaaBackD
namespace Go.Proofs.Ytloeckflcdnmaaa
open Go.RowKit

/-- The program's Out, the document's, and a row of the call's own that belongs to neither. -/
structure OPair (w W : World) (a r : Nat) (S R : Nat → Prop) (so sr : Option (List UInt8)) (v : Value) (lo : List UInt8) : Prop where
  out : OutAt W S a so
  ref : ROut W R r sr
  apart : ∀ i, S i → ¬ R i
  newS : ∀ i, S i → w.heap.size ≤ i
  newR : ∀ i, R i → w.heap.size ≤ i
  below : Below w.heap.size w W
  row : W.ownsRow w.heap.size 5 1 v lo.length (bv lo)
  rowS : ∀ g, v.ownBlock = some g → ¬ S g
  rowR : ∀ g, v.ownBlock = some g → ¬ R g

section
variable {w W W' : World} {a r : Nat} {S R : Nat → Prop} {so sr : Option (List UInt8)} {v : Value} {lo : List UInt8}

theorem OPair.noRow (h : OPair w W a r S R so sr v lo) : OPair w W a r S R so sr (.slice none 0 0) [] :=
  ⟨h.out, h.ref, h.apart, h.newS, h.newR, h.below, World.ownsRow_nil _ _ _ _, fun g e => by simp [Value.ownBlock] at e, fun g e => by simp [Value.ownBlock] at e⟩

theorem OPair.keep {Q : Nat → Prop} (h : OPair w W a r S R so sr v lo) (hk : Kept Q W W') (hS : ∀ i, S i → ¬ Q i) (hR : ∀ i, R i → ¬ Q i) (hv : ∀ g, v.ownBlock = some g → ¬ Q g) (hQ : ∀ i, Q i → w.heap.size ≤ i) : OPair w W' a r S R so sr v lo :=
  ⟨h.out.keep hk hS, h.ref.keep hk hR, h.apart, h.newS, h.newR, hk.on h.below hQ h.below.size, ownsRow_kept h.row hk hv, h.rowS, h.rowR⟩
theorem OPair.drew (h : OPair w W a r S R so sr v lo) : OPair w W.drew a r S R so sr v lo := h.keep (Kept.refl Empty W).drew (fun _ _ h => h) (fun _ _ h => h) (fun _ _ h => h) (fun _ h => h.elim)
theorem OPair.drewN (h : OPair w W a r S R so sr v lo) (n : Nat) : OPair w (W.drewN n) a r S R so sr v lo := h.keep ((Kept.refl Empty W).drewN n) (fun _ _ h => h) (fun _ _ h => h) (fun _ _ h => h) (fun _ h => h.elim)

/-- New memory was laid, with a row in it. -/
theorem OPair.rowed {v2 : Value} {l2 : List UInt8} (h : OPair w W a r S R so sr v lo) (hb : Below W.heap.size W W') (hr : W'.ownsRow W.heap.size 5 1 v2 l2.length (bv l2)) : OPair w W' a r S R so sr v2 l2 := by
  have k : Kept Empty W W' := Kept.of_below hb Empty
  refine ⟨h.out.keep k (fun _ _ h => h), h.ref.keep k (fun _ _ h => h), h.apart, h.newS, h.newR, k.on h.below (fun _ h => h.elim) h.below.size, ownsRow_base hr h.below.size, fun g e hs => ?_, fun g e hs => ?_⟩
  · have h1 := (hr.lt g e).1
    have h2 := h.out.lt g hs
    omega
  · have h1 := (hr.lt g e).1
    have h2 := h.ref.lt g hs
    omega

/-- The row's bytes were counted up. -/
theorem OPair.inc {A : Option Addr} {n c : Nat} (h : OPair w W a r S R so sr (.slice A n c) lo) (hk : Kept (fun i => ∃ ad, A = some ad ∧ ad.block = i) W W') : OPair w W' a r S R so sr (.slice none 0 0) [] := by
  have hA : ∀ i, (∃ ad, A = some ad ∧ ad.block = i) → (Value.slice A n c).ownBlock = some i := by
    rintro i ⟨ad, rfl, rfl⟩
    rfl
  exact h.noRow.keep hk (fun i hi hq => h.rowS i (hA i hq) hi) (fun i hi hq => h.rowR i (hA i hq) hi) (fun g e => by simp [Value.ownBlock] at e) (fun i hq => (h.row.lt i (hA i hq)).1)

theorem OPair.onO {s : Option (List UInt8)} (h : OPair w W a r S R so sr v lo) (ho : OutAt W' (Grow S W W') a s) (hk : Kept S W W') : OPair w W' a r (Grow S W W') R s sr v lo := by
  refine ⟨ho, h.ref.keep hk (fun i hi hs => h.apart i hs hi), fun i hi hr => ?_, Grow.on h.newS h.below.size, h.newR, hk.on h.below h.newS h.below.size, ownsRow_kept h.row hk h.rowS, not_grow h.row h.rowS, h.rowR⟩
  rcases hi with hi | hi
  · exact h.apart i hi hr
  · have := h.ref.lt i hr
    omega
theorem OPair.onR {s : Option (List UInt8)} (h : OPair w W a r S R so sr v lo) (ho : ROut W' (Grow R W W') r s) (hk : Kept R W W') : OPair w W' a r S (Grow R W W') so s v lo := by
  refine ⟨h.out.keep hk h.apart, ho, fun i hi hr => ?_, h.newS, Grow.on h.newR h.below.size, hk.on h.below h.newR h.below.size, ownsRow_kept h.row hk h.rowR, h.rowS, not_grow h.row h.rowR⟩
  rcases hr with hr | hr
  · exact h.apart i hi hr
  · have := h.out.lt i hi
    omega

theorem opair_put (n : Int) (x : Nat) (h : OPair w W a r S R so sr v lo) (hx : x < 18446744073709551616) (hl : (so.getD []).length ≤ 274877906944) : Calls Try.prog 12 #[.pointer (some ⟨a, 0, none⟩), .int .i64 n, .int .u64 (x : Int)] W fun e w' => e = .returned (.pointer (some ⟨a, 0, none⟩)) ∧ ∃ S', OPair w w' a r S' R (putSt so n x) sr v lo :=
  (put_any W S a n x so h.out hx hl).mono fun _ _ ⟨he, ho, hk⟩ => ⟨he, _, h.onO ho hk⟩
theorem opair_rput (n : Int) (x : Nat) (h : OPair w W a r S R so sr v lo) (hx : x < 18446744073709551616) (hl : (sr.getD []).length ≤ 274877906944) : Calls Try.prog 11 #[.pointer (some ⟨r, 0, none⟩), .int .i64 n, .int .u64 (x : Int)] W fun e w' => e = .returned (.tuple #[]) ∧ ∃ R', OPair w w' a r S R' so (putSt sr n x) v lo :=
  (rput_any n x h.ref hx hl).mono fun _ _ ⟨he, ho, hk⟩ => ⟨he, _, h.onR ho hk⟩
theorem opair_rtail (Q : Option Addr) (c : Nat) (b : List UInt8) (h : OPair w W a r S R so sr v lo) (hb : Src W Q b.length b) (hl : (sr.getD []).length + b.length ≤ 549755813888) : Calls Try.prog 13 #[.pointer (some ⟨r, 0, none⟩), .slice Q b.length c] W fun e w' => e = .returned (.tuple #[]) ∧ ∃ R', OPair w w' a r S R' so (sr.map (· ++ b)) v lo :=
  (rtail_any Q c b h.ref hb hl).mono fun _ _ ⟨he, ho, hk⟩ => ⟨he, _, h.onR ho hk⟩
theorem opair_tail (A : Option Addr) (c : Nat) (h : OPair w W a r S R so sr (.slice A lo.length c) lo) (hl : (so.getD []).length + lo.length ≤ 549755813888) : Calls Try.prog 14 #[.pointer (some ⟨a, 0, none⟩), .slice A lo.length c] W fun e w' => e = .returned (.pointer (some ⟨a, 0, none⟩)) ∧ ∃ S', OPair w w' a r S' R (so.map (· ++ lo)) sr (.slice A lo.length c) lo := by
  obtain ⟨A', c', e, _, hs, hA, _⟩ := Src.of_own h.row
  simp only [Value.slice.injEq, true_and] at e
  obtain ⟨rfl, rfl⟩ := e
  exact (tail_any W S a so A c lo h.out hs (fun _ ad e => h.rowS _ (hA ad e).1) hl).mono fun _ _ ⟨he, ho, hk⟩ => ⟨he, _, h.onO ho hk⟩
theorem opair_all (h : OPair w W a r S R so sr v lo) (hl : (so.getD []).length ≤ 549755813888) : Calls Try.prog 15 #[.pointer (some ⟨a, 0, none⟩)] W fun e w' => ∃ A c, e = .returned (.slice A (so.getD []).length c) ∧ OPair w w' a r S R so sr (.slice A (so.getD []).length c) (so.getD []) :=
  (all_any W S a so h.out hl).mono fun _ _ ⟨v2, he, ho, hb⟩ => by
    obtain ⟨A, c, rfl⟩ := rowSl ho
    exact ⟨A, c, he, h.rowed hb ho⟩
theorem opair_twin (Q : Option Addr) (c : Nat) (b : List UInt8) (h : OPair w W a r S R so sr v lo) (hb : Src W Q b.length b) (hl : b.length ≤ 549755813888) : Calls Try.prog 10 #[.slice Q b.length c] W fun e w' => ∃ A c, e = .returned (.slice A b.length c) ∧ OPair w w' a r S R so sr (.slice A b.length c) b :=
  (twin_any Q _ c b W hb hl).mono fun _ _ ⟨v2, he, ho, hbl⟩ => by
    obtain ⟨A, c, rfl⟩ := rowSl ho
    exact ⟨A, c, he, h.rowed hbl ho⟩

/-- The row as a slice that reads so. -/
theorem OPair.src {A : Option Addr} {n c : Nat} (h : OPair w W a r S R so sr (.slice A n c) lo) : Src W A lo.length lo := by
  obtain ⟨A', c', e, _, hs, _, _⟩ := Src.of_own h.row
  simp only [Value.slice.injEq] at e
  obtain ⟨rfl, _, rfl⟩ := e
  exact hs

theorem putSt_len (st : Option (List UInt8)) (n : Int) (x : Nat) : ((putSt st n x).getD []).length ≤ (st.getD []).length + 8 := by
  unfold putSt
  split
  · rename_i h
    cases st with
    | none => simp
    | some l =>
      have hn : n.toNat ≤ 8 := by simp [fitsW, isW] at h; omega
      simp only [Option.map_some, Option.getD_some, List.length_append, beBytes_length]
      omega
  · simp
theorem tailSt_len (st : Option (List UInt8)) (b : List UInt8) : ((st.map (· ++ b)).getD []).length ≤ (st.getD []).length + b.length := by
  cases st with
  | none => simp
  | some l => simp

/-- What the loop over the calls has. -/
def OutsRel (w : World) (xs : List OpD) (a r : Nat) (k : Value) (W : World) : Prop :=
  ∃ j S R st, j ≤ xs.length ∧ k = .int .i64 (j : Int) ∧ OPair w W a r S R st st (.slice none 0 0) [] ∧ (st.getD []).length ≤ 8 * j + opsSum (xs.take j)

theorem outs_next {xs : List OpD} {j : Nat} {st : Option (List UInt8)} (hj : j < xs.length) (hp : OPair w W a r S R st st (.slice none 0 0) []) (hl : (st.getD []).length ≤ 8 * j + opsSum (xs.take j) + 8 + xs[j].b.length) : OutsRel w xs a r (.int .i64 ((j + 1 : Nat) : Int)) W := by
  refine ⟨j + 1, S, R, st, hj, rfl, hp, ?_⟩
  rw [List.take_succ_eq_append_getElem hj, opsSum_snoc]
  omega
end

end Go.Proofs.Ytloeckflcdnmaaa
