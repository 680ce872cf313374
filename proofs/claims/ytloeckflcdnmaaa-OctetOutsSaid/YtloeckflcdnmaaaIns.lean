/- OctetIns, plain facts: bytes that are counted up in place; the two Ins side by side. -/
import Derived.Test.YtloeckflcdnmaaaRef
import Derived.Test.YtloeckflcdnmaaaNow
import Derived.Deep.RegionHeld3
namespace Go.Proofs.Ytloeckflcdnmaaa
open Go.RowKit

/-- Bytes at A, the first n, are being counted up: nothing else has turned since W0. -/
def Inc (W0 : World) (A : Option Addr) (n : Nat) (k : Value) (W : World) : Prop :=
  ∃ j, j ≤ n ∧ k = .int .i64 (j : Int) ∧ Kept (fun i => ∃ ad, A = some ad ∧ ad.block = i) W0 W ∧
    (0 < n → ∃ g cs, A = some ⟨g, 0, none⟩ ∧ Whole W g 5 cs ∧ ∀ i, i < n → ∃ z, cs[i]? = some (.int .u8 z))

theorem inc_start {W : World} {base n c : Nat} {A : Option Addr} {l : List UInt8} (h : W.ownsRow base 5 1 (.slice A n c) n (bv l)) : Inc W A n (.int .i64 0) W := by
  refine ⟨0, Nat.zero_le _, rfl, Kept.refl _ _, fun h0 => ?_⟩
  have hl : (bv l).length = n := by have := h.1; omega
  rcases h.2 with ⟨_, hn⟩ | ⟨g, cap, cur, hv, _, hg, hnc, _, hcs, ht⟩
  · omega
  · simp only [Value.slice.injEq] at hv
    obtain ⟨rfl, _, rfl⟩ := hv
    refine ⟨g, cur, rfl, hg, fun i hi => ?_⟩
    have hi' : i < l.length := by rw [bv_length] at hl; omega
    refine ⟨(l[i].toNat : Int), ?_⟩
    have e : (cur.toList.take (n * 1))[i]? = cur.toList[i]? := by rw [List.getElem?_take_of_lt (by omega)]
    rw [ht] at e
    rw [← Array.getElem?_toList, ← e]
    simp [bv, List.getElem?_eq_getElem hi']

theorem inc_read {W0 W : World} {A : Option Addr} {n j : Nat} (hi : ∃ g cs, A = some ⟨g, 0, none⟩ ∧ Whole W g 5 cs ∧ ∀ i, i < n → ∃ z, cs[i]? = some (.int .u8 z)) (hk : Kept (fun i => ∃ ad, A = some ad ∧ ad.block = i) W0 W) (hj : j < n) :
    ∃ g z, A = some ⟨g, 0, none⟩ ∧ W.cell? ⟨g, j, none⟩ = some (.int .u8 z) ∧ W.frozen? ⟨g, j, none⟩ = false ∧ ∀ y, Inc W0 A n (.int .i64 ((j + 1 : Nat) : Int)) (W.setCell ⟨g, j, none⟩ (.int .u8 y)) := by
  obtain ⟨g, cs, rfl, hw, hz⟩ := hi
  obtain ⟨z, hzj⟩ := hz j hj
  refine ⟨g, z, rfl, (hw.cell j).trans hzj, hw.frozen j, fun y => ⟨j + 1, hj, rfl, hk.setCell (p := ⟨g, j, none⟩) (.inl ⟨⟨g, 0, none⟩, rfl, rfl⟩) _, fun _ => ⟨g, _, rfl, hw.set j _, fun i hin => ?_⟩⟩⟩
  by_cases hij : j = i
  · subst hij
    refine ⟨y, ?_⟩
    rw [Array.getElem?_setIfInBounds_self_of_lt (Array.getElem?_eq_some_iff.1 hzj).1]
  · rw [Array.getElem?_setIfInBounds_ne hij]
    exact hz i hin

theorem refAt_new {W : World} {base c : Nat} {B : Option Addr} {l : List UInt8} (h : W.ownsRow base 5 1 (.slice B l.length c) l.length (bv l)) :
    RefAt (W.alloc (.cells #[.slice B l.length c, .bool false] 46)) (fun k => k = W.heap.size ∨ (Value.slice B l.length c).ownBlock = some k) W.heap.size (some l) := by
  obtain ⟨B', c', e, hc, hs, hB, hn⟩ := Src.of_own h
  simp only [Value.slice.injEq, true_and] at e
  obtain ⟨rfl, rfl⟩ := e
  refine ⟨fun k hk => ?_, .inl rfl, .inr ⟨l, B, c, rfl, Whole.new _ _ _, hs.kept ((Kept.refl Empty _).alloc _) (fun _ _ h => h), hc, fun e => (hn e).2, fun ad e => ⟨.inr (hB ad e).1, ?_⟩⟩⟩
  · rcases hk with rfl | hk
    · simp
    · have := (h.lt k hk).2
      simp
      omega
  · have := (h.lt _ (hB ad e).1).2
    omega

/-- The program's In, and the document's, side by side. -/
structure Pair (w W : World) (x r : Nat) (T R : Nat → Prop) (sx sr : Option (List UInt8)) : Prop where
  inn : InAt W T x sx
  ref : RefAt W R r sr
  apart : ∀ i, T i → ¬ R i
  newT : ∀ i, T i → w.heap.size ≤ i
  newR : ∀ i, R i → w.heap.size ≤ i
  below : Below w.heap.size w W

section
variable {w W W' : World} {x r : Nat} {T R : Nat → Prop} {sx sr : Option (List UInt8)}
theorem Pair.keep {Q : Nat → Prop} (h : Pair w W x r T R sx sr) (hk : Kept Q W W') (hT : ∀ i, T i → ¬ Q i) (hR : ∀ i, R i → ¬ Q i) (hQ : ∀ i, Q i → w.heap.size ≤ i) : Pair w W' x r T R sx sr :=
  ⟨h.inn.keep hk hT, h.ref.keep hk hR, h.apart, h.newT, h.newR, hk.on h.below hQ h.below.size⟩
theorem Pair.drewN (h : Pair w W x r T R sx sr) (n : Nat) : Pair w (W.drewN n) x r T R sx sr := h.keep ((Kept.refl Empty W).drewN n) (fun _ _ h => h) (fun _ _ h => h) (fun _ h => h.elim)
theorem Pair.drew (h : Pair w W x r T R sx sr) : Pair w W.drew x r T R sx sr := h.keep (Kept.refl Empty W).drew (fun _ _ h => h) (fun _ _ h => h) (fun _ h => h.elim)
theorem Pair.onX {s : Option (List UInt8)} (h : Pair w W x r T R sx sr) (hi : InAt W' T x s) (hk : Kept (fun k => k = x) W W') : Pair w W' x r T R s sr :=
  ⟨hi, h.ref.keep hk (fun i hi e => h.apart x h.inn.own (by rw [← e]; exact hi)), h.apart, h.newT, h.newR, hk.on h.below (fun i e => by rw [e]; exact h.newT _ h.inn.own) h.below.size⟩
theorem Pair.onR {s : Option (List UInt8)} (h : Pair w W x r T R sx sr) (hi : RefAt W' R r s) (hk : Kept (fun k => k = r) W W') : Pair w W' x r T R sx s :=
  ⟨h.inn.keep hk (fun i hi e => h.apart r (by rw [← e]; exact hi) h.ref.own), hi, h.apart, h.newT, h.newR, hk.on h.below (fun i e => by rw [e]; exact h.newR _ h.ref.own) h.below.size⟩

theorem pair_getX (n : Int) (h : Pair w W x r T R sx sr) (hl : (sx.getD []).length ≤ 549755813888) : Calls Try.prog 19 #[.pointer (some ⟨x, 0, none⟩), .int .i64 n] W fun e w' => e = .returned (.int .u64 ((getSt sx n).2 : Int)) ∧ Pair w w' x r T R (getSt sx n).1 sr :=
  (get_any W T x sx n h.inn hl).mono fun _ _ ⟨he, hi, hk⟩ => ⟨he, h.onX hi hk⟩
theorem pair_getR (n : Int) (h : Pair w W x r T R sx sr) (hl : (sr.getD []).length ≤ 549755813888) : Calls Try.prog 20 #[.pointer (some ⟨r, 0, none⟩), .int .i64 n] W fun e w' => e = .returned (.int .u64 ((getSt sr n).2 : Int)) ∧ Pair w w' x r T R sx (getSt sr n).1 :=
  (refGet_any n h.ref hl).mono fun _ _ ⟨he, hi, hk⟩ => ⟨he, h.onR hi hk⟩
theorem pair_takeX (n : Int) (h : Pair w W x r T R sx sr) (hl : (sx.getD []).length ≤ 549755813888) : Calls Try.prog 21 #[.pointer (some ⟨x, 0, none⟩), .int .i64 n] W fun e w' => ∃ v, e = .returned v ∧ w'.ownsRow W.heap.size 5 1 v (takeSt sx n).2.length (bv (takeSt sx n).2) ∧ Pair w w' x r T R (takeSt sx n).1 sr :=
  (inTake_any n h.inn hl).mono fun _ _ ⟨v, he, ho, hi, hk⟩ => ⟨v, he, ho, h.onX hi hk⟩
theorem pair_takeR (n : Int) (h : Pair w W x r T R sx sr) (hl : (sr.getD []).length ≤ 549755813888) : Calls Try.prog 22 #[.pointer (some ⟨r, 0, none⟩), .int .i64 n] W fun e w' => ∃ v, e = .returned v ∧ w'.ownsRow W.heap.size 5 1 v (takeSt sr n).2.length (bv (takeSt sr n).2) ∧ Pair w w' x r T R sx (takeSt sr n).1 ∧ Kept (fun k => k = r) W w' :=
  (refTake_any n h.ref hl).mono fun _ _ ⟨v, he, ho, hi, hk⟩ => ⟨v, he, ho, h.onR hi hk, hk⟩

/-- Bytes of the call's own, laid behind the two, are counted up: the two are as they were. -/
theorem Pair.inc {B : Nat} {A : Option Addr} (h : Pair w W x r T R sx sr) (hk : Kept (fun i => ∃ ad, A = some ad ∧ ad.block = i) W W') (hA : ∀ ad, A = some ad → B ≤ ad.block) (hT : ∀ i, T i → i < B) (hR : ∀ i, R i → i < B) (hB : w.heap.size ≤ B) : Pair w W' x r T R sx sr := by
  refine h.keep hk (fun i hi ⟨ad, e, hb⟩ => ?_) (fun i hi ⟨ad, e, hb⟩ => ?_) (fun i ⟨ad, e, hb⟩ => ?_)
  · have h1 := hA ad e
    have h2 := hT i hi
    omega
  · have h1 := hA ad e
    have h2 := hR i hi
    omega
  · have h1 := hA ad e
    omega
end

/-- What the loop over the calls has. -/
def InsRel (w : World) (xs : List OpD) (x r : Nat) (T R : Nat → Prop) (k : Value) (W : World) : Prop :=
  ∃ j st, j ≤ xs.length ∧ k = .int .i64 (j : Int) ∧ Pair w W x r T R st st ∧ (st.getD []).length ≤ 20000

theorem ins_next {w W : World} {xs : List OpD} {x r j : Nat} {T R : Nat → Prop} {st : Option (List UInt8)} (hj : j < xs.length) (hp : Pair w W x r T R st st) (hl : (st.getD []).length ≤ 20000) (n : Nat) :
    InsRel w xs x r T R (.int .i64 ((j + 1 : Nat) : Int)) (W.drewN n) := ⟨j + 1, st, hj, rfl, hp.drewN n, hl⟩

theorem takeSt_left (st : Option (List UInt8)) (n : Int) : ((takeSt st n).1.getD []).length ≤ (st.getD []).length := by
  cases st with
  | none => simp [takeSt]
  | some l =>
    simp only [takeSt]
    split
    · simp
    · simp
theorem getSt_left (st : Option (List UInt8)) (n : Int) : ((getSt st n).1.getD []).length ≤ (st.getD []).length := by
  unfold getSt
  split
  · exact takeSt_left st n
  · simp

theorem quiet_same {P : Program} {f : FuncId} {args : Array Value} {w : World} {n : Nat} {v : Value} (h : Calls P f args (w.drewN n) fun e w' => e = .returned v ∧ w.drewN n = w') : Calls P f args (w.drewN n) fun e w'' => e = .returned v ∧ ∃ m, w'' = w.drewN m :=
  h.mono fun _ _ ⟨he, hm⟩ => ⟨he, n, hm.symm⟩

end Go.Proofs.Ytloeckflcdnmaaa
