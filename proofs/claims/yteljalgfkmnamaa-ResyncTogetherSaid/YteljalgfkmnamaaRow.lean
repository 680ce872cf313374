/- Slices in memory that read as rows of things of k cells each: how they are opened, kept, and made of a row of one's own. No condition. -/
import Derived.Deep.Slices
import Derived.Deep.Fields
import Derived.ChangeSame
import Derived.ProofKit
import Derived.OpenShut
import Derived.Lib.SmallJoins
import Derived.Test.YteljalgfkmnamaaHeld
namespace Go.Proofs.Yteljalgfkmnamaa
open Go.ChangeShapes Go.WideShapes Go.ChangeAt Go.RowKit Go.Deep Go.Joins

/-- A slice: its address, length, capacity. -/
structure Sl where
  A : Option Addr
  n : Nat
  c : Nat
def Sl.v (s : Sl) : Value := .slice s.A s.n s.c
def nilS : Sl := ⟨none, 0, 0⟩
/-- The slice reads as xs, each of k cells. -/
structure RSrc {α : Type} (cells : α → List Value) (k : Nat) (w : World) (s : Sl) (xs : List α) : Prop where
  len : xs.length = s.n
  cap : s.n ≤ s.c
  max : s.c ≤ 9223372036854775807
  no : s.A = none → s.c = 0
  at_ : 0 < s.n → ∃ g o, s.A = some ⟨g, o, none⟩ ∧ ∀ i x, xs[i]? = some x → w.rangeAt g (o + i * k) (cells x)
section
variable {α : Type} {cells : α → List Value} {k : Nat} {w w' : World} {s : Sl} {xs : List α}
theorem RSrc.nil (w : World) : RSrc cells k w nilS [] := ⟨rfl, Nat.le_refl _, by decide, fun _ => rfl, fun h => absurd h (by decide)⟩
theorem RSrc.kept {S : Nat → Prop} (h : RSrc cells k w s xs) (hk : Kept S w w') (hS : ∀ ad, s.A = some ad → 0 < s.n → ¬ S ad.block) : RSrc cells k w' s xs :=
  ⟨h.len, h.cap, h.max, h.no, fun hn => by
    obtain ⟨g, o, e, hc⟩ := h.at_ hn
    exact ⟨g, o, e, fun i x hx j v hv => hk.cell (hc i x hx j v hv) (show ¬ S g from hS ⟨g, o, none⟩ e hn)⟩⟩
theorem RSrc.later (h : RSrc cells k w s xs) (hb : Below w.heap.size w w') : RSrc cells k w' s xs := h.kept (Kept.of_below hb Empty) (fun _ _ _ h => h)
theorem RSrc.lt (h : RSrc cells k w s xs) (hc : ∀ a, 0 < (cells a).length) {ad : Addr} (hA : s.A = some ad) (h0 : 0 < s.n) : ad.block < w.heap.size := by
  obtain ⟨g, o, e, hcs⟩ := h.at_ h0
  rw [hA] at e
  cases e
  have hl := h.len
  have hx : xs[0]? = some (xs[0]'(by omega)) := List.getElem?_eq_getElem (by omega)
  have := hcs 0 _ hx 0 _ (List.getElem?_eq_getElem (hc _))
  exact World.block_lt_of_cell? _ ⟨g, o + 0 * k + 0, none⟩ this
theorem RSrc.spot (h : RSrc cells k w s xs) {i : Nat} {x : α} (hx : xs[i]? = some x) : ∃ g o, s.A = some ⟨g, o, none⟩ ∧ w.rangeAt g (o + i * k) (cells x) := by
  obtain ⟨g, o, e, hc⟩ := h.at_ (by have := (List.getElem?_eq_some_iff.1 hx).1; have := h.len; omega)
  exact ⟨g, o, e, hc i x hx⟩
theorem RSrc.get [Inhabited α] (h : RSrc cells k w s xs) {i : Nat} (hi : i < s.n) : ∃ g o, s.A = some ⟨g, o, none⟩ ∧ w.rangeAt g (o + i * k) (cells (xs.getD i default)) :=
  h.spot (by rw [List.getD_eq_getElem?_getD, List.getElem?_eq_getElem (by rw [h.len]; exact hi)]; rfl)
end

/-! Opened. -/
theorem plain_add (b o k : Nat) : (⟨b, o, none⟩ : Addr).add k = ⟨b, o + k, none⟩ := by unfold Addr.add; split <;> simp_all
theorem list_of {α : Type} {P : Nat → α → Prop} (n : Nat) (h : ∀ i, i < n → ∃ x, P i x) : ∃ xs : List α, xs.length = n ∧ ∀ i (hi : i < xs.length), P i xs[i] := by
  induction n with
  | zero => exact ⟨[], rfl, fun i hi => absurd hi (by simp)⟩
  | succ n ih =>
    obtain ⟨xs, hl, hx⟩ := ih (fun i hi => h i (by omega))
    obtain ⟨x, hp⟩ := h n (by omega)
    refine ⟨xs ++ [x], by simp [hl], fun i hi => ?_⟩
    by_cases hin : i < xs.length
    · rw [List.getElem_append_left hin]
      exact hx i hin
    · have : i = xs.length := by simp at hi; omega
      subst this
      simp only [List.getElem_concat_length]
      rw [hl]
      exact hp

theorem open_rows {H : Type} {enc : TypeId × Value → H} {P : Program} {W : World} {α : Type} {cells : α → List Value} {k : Nat} {Q : α → Prop} {t e : TypeId} {fuel : Nat} {cs : List Value} {x : DataW H × List MemPlace}
    (ht : P.underlying t = some (.slice e)) (hk : P.cellsOf e = k) (hk0 : 0 < k) (hcl : ∀ a, (cells a).length = k)
    (hel : ∀ n cs y, cs.length = k → DataW.trod enc P W 0 (fun _ => true) true n e cs = some y → ∃ a, cs = cells a ∧ Q a)
    (h : DataW.trod enc P W 0 (fun _ => true) true fuel t cs = some x) : ∃ s xs, cs = [Sl.v s] ∧ RSrc cells k W s xs ∧ ∀ a ∈ xs, Q a := by
  rcases open_slice ht h with ⟨hcs, _⟩ | ⟨a, len, cap, m, n, D, Pl, hcs, _, hl, hm, hmm, hx, hi⟩
  · exact ⟨nilS, [], hcs, RSrc.nil W, fun _ h => by cases h⟩
  · have hmc : m = cap := by rw [hmm, if_pos rfl]
    subst hmc
    have each : ∀ i, i < len → ∃ x : α, (∀ b o, a = ⟨b, o, none⟩ → W.rangeAt b (o + i * k) (cells x)) ∧ Q x := fun i hil => by
      obtain ⟨cs', hc, ht'⟩ := hi i (by omega)
      rw [hk] at hc
      obtain ⟨_, hcl', hat⟩ := World.cells?_some hc
      obtain ⟨y, rfl, hq⟩ := hel n cs' _ hcl' ht'
      refine ⟨y, fun b o e => ?_, hq⟩
      subst e
      intro j v hj
      have hjl : j < k := by have := (List.getElem?_eq_some_iff.1 hj).1; rw [hcl] at this; exact this
      have g := hat j hjl
      simp only [plain_add] at g
      rw [g]
      exact hj
    obtain ⟨xs, hxl, hxs⟩ := list_of len each
    refine ⟨⟨some a, len, m⟩, xs, hcs, ⟨hxl, hl, by simp only [maxLen] at hm; show m ≤ _; omega, fun e => absurd e (by simp), fun h0 => ?_⟩, fun y hy => ?_⟩
    · have h0 : 0 < len := h0
      obtain ⟨cs', hc, _⟩ := hi 0 (by omega)
      rw [hk] at hc
      obtain ⟨_, hcl', hat⟩ := World.cells?_some hc
      obtain ⟨b, off, spot⟩ := a
      have h00 := hat 0 hk0
      rw [List.getElem?_eq_getElem (by omega)] at h00
      have hspot : spot = none := by simpa [Addr.add] using World.cell?_spot h00
      subst hspot
      refine ⟨b, off, rfl, fun i x hx => ?_⟩
      obtain ⟨hil, rfl⟩ := List.getElem?_eq_some_iff.1 hx
      exact (hxs i hil).1 b off rfl
    · obtain ⟨i, hi', rfl⟩ := List.mem_iff_getElem.1 hy
      exact (hxs i hi').2

theorem own_typed {w : World} {b k n : Nat} {e : TypeId} {v : Value} {xs : List Value} (h : w.ownsRow b e k v n xs) {g : Nat} (hg : v.ownBlock = some g) : b ≤ g ∧ ∃ cur, w.heap[g]? = some (.cells cur e (0, 0)) := by
  rcases h.2 with ⟨rfl, _⟩ | ⟨g', cap, cur, rfl, hb, hh, _⟩
  · cases hg
  · cases hg; exact ⟨hb, cur, hh⟩
theorem typed_apart {w : World} {g g' : Nat} {e e' : TypeId} {c c' : Array Value} (h : w.heap[g]? = some (.cells c e (0, 0))) (h' : w.heap[g']? = some (.cells c' e' (0, 0))) (hne : e ≠ e') : g ≠ g' := by
  rintro rfl
  have := h.symm.trans h'
  simp at this
  exact hne this.2
theorem own_kept {w w' : World} {S : Nat → Prop} {b : Nat} {e : TypeId} {size : Nat} {v : Value} {n : Nat} {xs : List Value} (h : w.ownsRow b e size v n xs) (hk : Kept S w w') (hg : ∀ g, v.ownBlock = some g → ¬ S g) : w'.ownsRow b e size v n xs := by
  refine ⟨h.1, ?_⟩
  rcases h.2 with h0 | ⟨g, cap, cur, rfl, hb, hgb, h3⟩
  · exact .inl h0
  · exact .inr ⟨g, cap, cur, rfl, hb, (hk.block g (Array.getElem?_eq_some_iff.1 hgb).1 (hg g rfl)).trans hgb, h3⟩
theorem flat_len {α : Type} {cells : α → List Value} {k : Nat} (hc : ∀ a, (cells a).length = k) : ∀ xs : List α, (xs.flatMap cells).length = xs.length * k
  | [] => by simp
  | a :: xs => by rw [List.flatMap_cons, List.length_append, hc, flat_len hc xs, List.length_cons, Nat.succ_mul, Nat.add_comm]
theorem flat_get {α : Type} {cells : α → List Value} {k : Nat} (hc : ∀ a, (cells a).length = k) : ∀ (xs : List α) (i : Nat) (x : α) (j : Nat), xs[i]? = some x → j < k → (xs.flatMap cells)[i * k + j]? = (cells x)[j]?
  | [], i, x, j, h, _ => by simp at h
  | y :: xs, 0, x, j, h, hj => by
    obtain rfl : y = x := by simpa using h
    rw [List.flatMap_cons, Nat.zero_mul, Nat.zero_add, List.getElem?_append_left (by rw [hc]; exact hj)]
  | y :: xs, i + 1, x, j, h, hj => by
    rw [List.flatMap_cons, List.getElem?_append_right (by rw [hc, Nat.succ_mul]; omega), hc, show (i + 1) * k + j - k = i * k + j by rw [Nat.succ_mul]; omega]
    exact flat_get hc xs i x j (by simpa using h) hj
/-- A row of one's own reads as a slice. -/
theorem rsrc_of_own {α : Type} {cells : α → List Value} {k : Nat} (hc : ∀ a, (cells a).length = k) {w : World} {b n : Nat} {e : TypeId} {v : Value} {xs : List α} (hn : n = xs.length) (h : w.ownsRow b e k v n (xs.flatMap cells)) : ∃ s : Sl, v = s.v ∧ RSrc cells k w s xs ∧ s.A.map (·.block) = v.ownBlock := by
  subst hn
  rcases h.2 with ⟨rfl, h0⟩ | ⟨g, cap, cur, rfl, _, hg, hnc, hcm, hsz, htk⟩
  · obtain rfl : xs = [] := List.eq_nil_of_length_eq_zero h0
    exact ⟨nilS, rfl, RSrc.nil w, rfl⟩
  · refine ⟨⟨some ⟨g, 0, none⟩, xs.length, cap⟩, rfl, ⟨rfl, hnc, by simpa only [maxLen] using hcm, fun e => absurd e (by simp), fun _ => ⟨g, 0, rfl, fun i x hx j u hu => ?_⟩⟩, rfl⟩
    have hj : j < k := by have := (List.getElem?_eq_some_iff.1 hu).1; rwa [hc] at this
    have := h.cells (g := g) rfl (i * k + j) u (by rw [flat_get hc xs i x j hx hj]; exact hu)
    rw [plain_add] at this
    rw [Nat.zero_add, ← Nat.zero_add (i * k + j)]
    exact this

theorem rsrc_news {α : Type} {cells : α → List Value} {k : Nat} {w : World} {s : Sl} {xs : List α} (hc : ∀ a, (cells a).length = k) (hk : 0 < k) (h : RSrc cells k w s xs) {ad : Addr} (hA : s.A = some ad) :
    ∀ j u, (xs.flatMap cells)[j]? = some u → w.cell? (ad.add j) = some u := by
  intro j u hj
  have hlt : j < xs.length * k := by
    have := (List.getElem?_eq_some_iff.1 hj).1
    rwa [flat_len hc] at this
  have hi : j / k < xs.length := (Nat.div_lt_iff_lt_mul hk).2 hlt
  have hr : j % k < k := Nat.mod_lt _ hk
  have e : j / k * k + j % k = j := Nat.div_add_mod' j k
  have hx : xs[j / k]? = some xs[j / k] := List.getElem?_eq_getElem hi
  obtain ⟨g, o, hg, hcells⟩ := h.spot hx
  rw [hA] at hg
  cases hg
  rw [plain_add]
  have h2 := flat_get hc xs (j / k) _ (j % k) hx hr
  rw [e, hj] at h2
  have := hcells (j % k) u h2.symm
  rwa [Nat.add_assoc, e] at this
theorem flat_one {α : Type} {cells : α → List Value} (h1 : ∀ a, ∀ u ∈ cells a, u.oneCell' = true) : ∀ xs : List α, ∀ u ∈ xs.flatMap cells, u.oneCell' = true := by
  intro xs u hu
  obtain ⟨a, _, ha⟩ := List.mem_flatMap.1 hu
  exact h1 a u ha

theorem below_on {S : Nat → Prop} {n : Nat} {a b c : World} (h : Below n a b) (k : Kept S b c) (hS : ∀ i, S i → n ≤ i) (hn : n ≤ b.heap.size) : Below n a c :=
  h.trans ⟨k.os, k.tape, k.output, k.size, fun i hi => k.block i (by omega) (fun hs => by have := hS i hs; omega)⟩
/-- A byte's cell. -/
def u8C (b : UInt8) : List Value := [.int .u8 (b.toNat : Int)]
end Go.Proofs.Yteljalgfkmnamaa
