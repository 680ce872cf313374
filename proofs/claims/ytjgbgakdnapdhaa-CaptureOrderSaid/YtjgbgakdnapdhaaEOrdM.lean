/- CaptureOrder's words: the list with 0 laid in, step by step. No condition. -/
import Derived.Test.YtjgbgakdnapdhaaEAgW
namespace Go.Proofs.Ytjgbgakdnapdhaa
open Go.RowKit Go.Shelf

/-- A step of the law's loop. -/
def stepW (n : Nat) (s : List Int × Bool) (x : De) : List Int × Bool :=
  let t := if n ≤ x.n ∧ s.2 = false then (s.1 ++ [0], true) else s
  if x.n = n then t else (t.1 ++ [x.v], t.2)
def stW (n : Nat) (L : List De) : List Int × Bool := L.foldl (stepW n) ([], false)
theorem stW_snoc (n : Nat) (L : List De) (x : De) : stW n (L ++ [x]) = stepW n (stW n L) x := by unfold stW; rw [List.foldl_append]; rfl
theorem takeD_more {L : List De} {k : Nat} (hk : k < L.length) : L.take (k + 1) = L.take k ++ [L.getD k default] := by
  rw [List.take_add_one, List.getD_eq_getElem?_getD, List.getElem?_eq_getElem hk]
  rfl
section
variable {n : Nat} {s : List Int × Bool} {x : De}
theorem step_lt (h : x.n < n) : stepW n s x = (s.1 ++ [x.v], s.2) := by
  have h1 : ¬ (n ≤ x.n ∧ s.2 = false) := by omega
  have h2 : ¬ x.n = n := by omega
  simp only [stepW, h1, h2, if_false]
theorem step_at (h : x.n = n) (hs : s.2 = false) : stepW n s x = (s.1 ++ [0], true) := by
  have h1 : n ≤ x.n ∧ s.2 = false := ⟨by omega, hs⟩
  simp only [stepW, if_pos h1, if_pos h]
theorem step_in (h : x.n = n) (hs : s.2 = true) : stepW n s x = s := by
  have h1 : ¬ (n ≤ x.n ∧ s.2 = false) := by rw [hs]; simp
  simp only [stepW, if_neg h1, if_pos h]
theorem step_gt (h : n < x.n) (hs : s.2 = true) : stepW n s x = (s.1 ++ [x.v], s.2) := by
  have h1 : ¬ (n ≤ x.n ∧ s.2 = false) := by rw [hs]; simp
  have h2 : ¬ x.n = n := by omega
  simp only [stepW, if_neg h1, if_neg h2]
theorem step_go (h : n < x.n) (hs : s.2 = false) : stepW n s x = (s.1 ++ [0] ++ [x.v], true) := by
  have h1 : n ≤ x.n ∧ s.2 = false := ⟨by omega, hs⟩
  have h2 : ¬ x.n = n := by omega
  simp only [stepW, if_pos h1, if_neg h2]
end
theorem stW_inv (f : Ca) (n : Nat) : ∀ k, (k ≤ n → (stW n (listTo f k)).2 = false ∧ (stW n (listTo f k)).1 = (listTo (setN f n (some 0) none) k).map De.v) ∧
    (n < k → ((stW n (listTo f k)).2 = true ∧ (stW n (listTo f k)).1 = (listTo (setN f n (some 0) none) k).map De.v) ∨ ((stW n (listTo f k)).2 = false ∧ (stW n (listTo f k)).1 ++ [0] = (listTo (setN f n (some 0) none) k).map De.v))
  | 0 => ⟨fun _ => ⟨rfl, rfl⟩, fun h => absurd h (by omega)⟩
  | k + 1 => by
    obtain ⟨h1, h2⟩ := stW_inv f n k
    rw [listTo_succ f k, listTo_succ (setN f n (some 0) none) k, dev_set, List.map_append]
    rcases Nat.lt_trichotomy k n with hk | hk | hk
    · obtain ⟨e1, e2⟩ := h1 (by omega)
      refine ⟨fun _ => ?_, fun h => absurd h (by omega)⟩
      rw [if_neg (by omega)]
      cases hd : devF f k with
      | none => simpa using ⟨e1, e2⟩
      | some v =>
        rw [stW_snoc, step_lt (show k < n from hk)]
        exact ⟨e1, by rw [e2]; rfl⟩
    · subst hk
      obtain ⟨e1, e2⟩ := h1 (Nat.le_refl _)
      refine ⟨fun h => absurd h (by omega), fun _ => ?_⟩
      rw [if_pos rfl]
      cases hd : devF f k with
      | none =>
        right
        rw [List.append_nil]
        exact ⟨e1, by rw [e2]; rfl⟩
      | some v =>
        left
        rw [stW_snoc, step_at (show (De.mk k v).n = k from rfl) e1]
        exact ⟨rfl, by rw [e2]; rfl⟩
    · refine ⟨fun h => absurd h (by omega), fun _ => ?_⟩
      rw [if_neg (by omega)]
      have h3 := h2 hk
      cases hd : devF f k with
      | none => simpa using h3
      | some v =>
        left
        rw [stW_snoc]
        rcases h3 with ⟨e1, e2⟩ | ⟨e1, e2⟩
        · rw [step_gt (show n < k from hk) e1]
          exact ⟨e1, by rw [e2]; rfl⟩
        · rw [step_go (show n < k from hk) e1]
          refine ⟨rfl, ?_⟩
          show (_ ++ [0]) ++ [v] = _
          rw [e2]
          rfl
theorem stW_all (f : Ca) {n : Nat} (hn : n < 16) : ((stW n (listC f)).2 = true ∧ (stW n (listC f)).1 = valC f (n : Int)) ∨ ((stW n (listC f)).2 = false ∧ (stW n (listC f)).1 ++ [0] = valC f (n : Int)) := by
  have := (stW_inv f n 16).2 hn
  unfold valC ownC
  rw [nodeB_iff.2 ⟨n, hn, rfl⟩, if_pos rfl, Int.toNat_natCast]
  exact this
theorem step_len (n : Nat) (s : List Int × Bool) (x : De) : (stepW n s x).1.length ≤ s.1.length + 2 := by
  rcases Nat.lt_trichotomy x.n n with h | h | h
  · rw [step_lt h]; simp
  · cases hs : s.2
    · rw [step_at h hs]; simp
    · rw [step_in h hs]; omega
  · cases hs : s.2
    · rw [step_go h hs]; simp
    · rw [step_gt h hs]; simp
theorem fold_len (n : Nat) : ∀ (L : List De) (s : List Int × Bool), (L.foldl (stepW n) s).1.length ≤ s.1.length + 2 * L.length
  | [], s => by simp
  | x :: L, s => by
    rw [List.foldl_cons, List.length_cons]
    have := fold_len n L (stepW n s x)
    have := step_len n s x
    omega
theorem stW_len (n : Nat) (L : List De) : (stW n L).1.length ≤ 2 * L.length := by
  have := fold_len n L ([], false)
  simpa [stW] using this

section
variable {w W w8 : World} {d : Nat} {f : Ca} {v : Value} {n k : Nat} {t : TypeId} {xs : List Value} {ob : Obj}
/-- A row of one's own grows: a capture stays. -/
theorem law_grown (h : LawC w d f W) (hr : W.ownsRow w.heap.size t k v n xs) (ht : t ≠ 31) (q2 : (W.alloc ob).grownBy w8 v.ownBlock) : LawC w d f w8 := by
  have hk : Kept (fun i => some i = v.ownBlock) W w8 := ((Kept.refl _ W).alloc ob).grown q2 (fun i hi => .inl hi.symm)
  refine ⟨h.cap.kept hk (fun e => ?_), below_on h.below hk (fun i hi => (own_typed hr hi.symm).1) h.below.size, h.own⟩
  obtain ⟨_, cur, hc⟩ := own_typed hr e.symm
  exact typed_apart hc h.cap.whole ht rfl
theorem below_grown {b : Nat} (h : Below b w W) (hb : b ≤ W.heap.size) (hr : W.ownsRow b t k v n xs) (q2 : (W.alloc ob).grownBy w8 v.ownBlock) : Below b w w8 := by
  have hk : Kept (fun i => some i = v.ownBlock) W w8 := ((Kept.refl _ W).alloc ob).grown q2 (fun i hi => .inl hi.symm)
  exact below_on h hk (fun i hi => (own_typed hr hi.symm).1) hb
end
theorem longs_same {W : World} {A1 A2 : Option Addr} {n m c1 c2 : Nat} {L : List Int} (h1 : RSrc inC 1 W ⟨A1, n, c1⟩ L) (h2 : RSrc inC 1 W ⟨A2, m, c2⟩ L) : Calls Try.prog 17 #[.slice A1 n c1, .slice A2 m c2] W fun e w' => e = .returned (.bool true) ∧ Below W.heap.size W w' :=
  (longs_any W ⟨A1, n, c1⟩ ⟨A2, m, c2⟩ L L h1 h2).mono fun _ _ ⟨e, k⟩ => ⟨by rw [e, decide_eq_true (rfl : L = L)], k⟩
end Go.Proofs.Ytjgbgakdnapdhaa
