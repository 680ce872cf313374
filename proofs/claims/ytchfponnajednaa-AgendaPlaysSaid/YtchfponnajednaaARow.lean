/- Rows of entries in memory, and the pile that has one: words for the walks. No condition. -/
import Derived.Test.YtchfponnajednaaADef
import Derived.Deep.MidRow
import Derived.Deep.RegionHeld3
namespace Go.Proofs.Ytchfponnajednaa
open Go.RowKit Go.Shelf

def flatE (l : List En) : List Value := l.flatMap En.cells
theorem flatE_length (l : List En) : (flatE l).length = l.length * 6 := by
  induction l with
  | nil => rfl
  | cons x l ih => simp only [flatE, List.flatMap_cons, List.length_append, En.cells_length, List.length_cons] at ih ⊢; omega
theorem flatE_append (l m : List En) : flatE (l ++ m) = flatE l ++ flatE m := by simp [flatE]
theorem flatE_get : ∀ (l : List En) (i : Nat) (x : En) (j : Nat), l[i]? = some x → j < 6 → (flatE l)[i * 6 + j]? = x.cells[j]?
  | [], i, x, j, h, _ => by simp at h
  | y :: l, 0, x, j, h, hj => by
    obtain rfl : y = x := by simpa using h
    show (y.cells ++ flatE l)[0 * 6 + j]? = _
    rw [Nat.zero_mul, Nat.zero_add, List.getElem?_append_left (by rw [En.cells_length]; exact hj)]
  | y :: l, i + 1, x, j, h, hj => by
    show (y.cells ++ flatE l)[(i + 1) * 6 + j]? = _
    rw [List.getElem?_append_right (by rw [En.cells_length]; omega), En.cells_length, show (i + 1) * 6 + j - 6 = i * 6 + j by omega]
    exact flatE_get l i x j (by simpa using h) hj
theorem flatE_one {l : List En} : ∀ u ∈ flatE l, u.oneCell' = true := by
  intro u hu
  obtain ⟨x, _, hx⟩ := List.mem_flatMap.1 hu
  simp only [En.cells, List.mem_cons, List.not_mem_nil, or_false] at hx
  rcases hx with rfl | rfl | rfl | rfl | rfl | rfl <;> rfl
theorem En.cells_one (x : En) : ∀ v ∈ x.cells, v.oneCell' = true := fun v hv => flatE_one (l := [x]) v (by simpa [flatE] using hv)
theorem Ev.cells_one (x : Ev) : ∀ v ∈ x.cells, v.oneCell' = true := by
  intro u hx
  simp only [Ev.cells, List.mem_cons, List.not_mem_nil, or_false] at hx
  rcases hx with rfl | rfl | rfl | rfl | rfl <;> rfl
theorem ev_info : (Try.prog.info? 36).map (·.size) = some 5 := by kernel_rfl
theorem en_info : (Try.prog.info? 70).map (·.size) = some 6 := by kernel_rfl

/-- Block g is a row of room for cap entries, the first of which are l. -/
structure RowAt (w : World) (g cap : Nat) (l : List En) : Prop where
  room : ∃ cur, w.heap[g]? = some (.cells cur 70 (0, 0)) ∧ cur.size = cap * 6
  cells : ∀ (i : Nat) (x : En), l[i]? = some x → w.rangeAt g (i * 6) x.cells
  fits : l.length ≤ cap
  small : cap ≤ maxLen
section
variable {w w' : World} {g cap : Nat} {l : List En}
theorem RowAt.lt (h : RowAt w g cap l) : g < w.heap.size := by
  obtain ⟨cur, h, _⟩ := h.room
  exact (Array.getElem?_eq_some_iff.1 h).1
theorem RowAt.there (h : RowAt w g cap l) (i : Nat) (hi : i < cap) : w.there g (i * 6) 6 := by
  obtain ⟨cur, h, hs⟩ := h.room
  intro j hj
  refine ⟨?_, by simp [World.frozen?, h]⟩
  rw [cell_of_row w g _ cur _ _ h, Array.getElem?_eq_getElem (by omega)]
  rfl
theorem RowAt.same (h : RowAt w g cap l) (hb : w'.heap[g]? = w.heap[g]?) : RowAt w' g cap l := by
  obtain ⟨cur, hc, hs⟩ := h.room
  refine ⟨⟨cur, hb.trans hc, hs⟩, fun i x hx j v hv => ?_, h.fits, h.small⟩
  exact (World.cell?_of_block (a := ⟨g, i * 6 + j, none⟩) hb).trans (h.cells i x hx j v hv)
theorem RowAt.later (h : RowAt w g cap l) (hb : Below w.heap.size w w') : RowAt w' g cap l := h.same (hb.block g h.lt)
theorem RowAt.kept {S : Nat → Prop} (h : RowAt w g cap l) (hk : Kept S w w') (hg : ¬ S g) : RowAt w' g cap l := h.same (hk.block g h.lt hg)
theorem RowAt.take (h : RowAt w g cap l) (k : Nat) : RowAt w g cap (l.take k) :=
  ⟨h.room, fun i x hx => h.cells i x (by
    rw [List.getElem?_take] at hx
    split at hx
    · exact hx
    · cases hx), by rw [List.length_take]; have := h.fits; omega, h.small⟩
theorem setCells_block (b : Nat) : ∀ (vs : List Value) (o : Nat) (w : World) (k : Nat), k ≠ b → (w.setCells b o vs).heap[k]? = w.heap[k]?
  | [], _, _, _, _ => rfl
  | v :: r, o, w, k, hk => (setCells_block b r (o + 1) _ k hk).trans (Below.heap_setCell w ⟨b, o, none⟩ v k hk)
theorem setCells_size (b : Nat) : ∀ (vs : List Value) (o : Nat) (w : World), (w.setCells b o vs).heap.size = w.heap.size
  | [], _, _ => rfl
  | v :: r, o, w => (setCells_size b r (o + 1) _).trans (by simp [World.setCell])
theorem setCells_os (b : Nat) : ∀ (vs : List Value) (o : Nat) (w : World), (w.setCells b o vs).os = w.os ∧ (w.setCells b o vs).tape = w.tape ∧ (w.setCells b o vs).output = w.output
  | [], _, _ => ⟨rfl, rfl, rfl⟩
  | v :: r, o, w => setCells_os b r (o + 1) (w.setCell ⟨b, o, none⟩ v)
theorem setCells_row (b : Nat) (t : TypeId) : ∀ (vs : List Value) (o : Nat) (w : World) (cur : Array Value), w.heap[b]? = some (.cells cur t (0, 0)) → ∃ cur', (w.setCells b o vs).heap[b]? = some (.cells cur' t (0, 0)) ∧ cur'.size = cur.size
  | [], _, _, cur, h => ⟨cur, h, rfl⟩
  | v :: r, o, w, cur, h => by
    obtain ⟨c', h', hs⟩ := setCells_row b t r (o + 1) (w.setCell ⟨b, o, none⟩ v) (cur.setIfInBounds o v) (Whole.set (show Whole w b t cur from h) o v)
    exact ⟨c', h', by rw [hs]; simp⟩
theorem Kept.setCells {S : Nat → Prop} {a b : World} (h : Kept S a b) (p o : Nat) (hp : S p ∨ a.heap.size ≤ p) (vs : List Value) : Kept S a (b.setCells p o vs) := by
  obtain ⟨h1, h2, h3⟩ := setCells_os p vs o b
  refine ⟨h1.trans h.os, h2.trans h.tape, h3.trans h.output, by rw [setCells_size]; exact h.size, fun i hi hn => ?_⟩
  refine (setCells_block p vs o b i ?_).trans (h.block i hi hn)
  rintro rfl
  rcases hp with hp | hp
  · exact hn hp
  · omega
/-- An entry stored at its place. -/
theorem RowAt.store (h : RowAt w g cap l) (i : Nat) (y : En) (hi : i < l.length) : RowAt (w.setCells g (i * 6) y.cells) g cap (l.set i y) := by
  obtain ⟨cur, hc, hs⟩ := h.room
  obtain ⟨cur', hc', hs'⟩ := setCells_row g 70 y.cells (i * 6) w cur hc
  refine ⟨⟨cur', hc', hs'.trans hs⟩, fun k x hx => ?_, by rw [List.length_set]; exact h.fits, h.small⟩
  by_cases e : i = k
  · subst e
    obtain rfl : y = x := by simpa [hi] using hx
    exact World.rangeAt_setCells_same _ _ _ _ (h.there i (Nat.lt_of_lt_of_le hi h.fits))
  · rw [List.getElem?_set_ne e] at hx
    refine World.rangeAt_setCells_apart (h.cells k x hx) _ _ _ (.inr ?_)
    rw [En.cells_length, En.cells_length]
    omega
/-- Rows as the library has them. -/
theorem RowAt.own (h : RowAt w g cap l) : w.ownsRow 0 70 6 (.slice (some ⟨g, 0, none⟩) l.length cap) l.length (flatE l) := by
  obtain ⟨cur, hc, hs⟩ := h.room
  refine ⟨flatE_length l, .inr ⟨g, cap, cur, rfl, Nat.zero_le _, hc, h.fits, h.small, hs, ?_⟩⟩
  apply List.ext_getElem?
  intro q
  have hf := h.fits
  by_cases hq : q < l.length * 6
  · have hi : q / 6 < l.length := by omega
    have e := flatE_get l (q / 6) _ (q % 6) (List.getElem?_eq_getElem hi) (by omega)
    rw [show q / 6 * 6 + q % 6 = q by omega] at e
    rw [List.getElem?_take, if_pos hq, Array.getElem?_toList, e]
    have := h.cells (q / 6) _ (List.getElem?_eq_getElem hi) (q % 6) _ (List.getElem?_eq_getElem (by rw [En.cells_length]; omega))
    rw [cell_of_row w g _ cur _ _ hc, show q / 6 * 6 + q % 6 = q by omega] at this
    rw [this, List.getElem?_eq_getElem]
  · rw [List.getElem?_take, if_neg hq, List.getElem?_eq_none (by rw [flatE_length]; omega)]
theorem RowAt.of_own {v : Value} {n : Nat} (h : w.ownsRow 0 70 6 v n (flatE l)) (hn : 0 < n) : n = l.length ∧ ∃ g cap, v = .slice (some ⟨g, 0, none⟩) n cap ∧ RowAt w g cap l := by
  have hl : n = l.length := by have := h.1; rw [flatE_length] at this; omega
  refine ⟨hl, ?_⟩
  rcases h.2 with ⟨_, h0⟩ | ⟨g, cap, cur, rfl, _, hg, hnc, hcm, hs, ht⟩
  · omega
  · refine ⟨g, cap, rfl, ⟨cur, hg, hs⟩, fun i x hx j v hv => ?_, by omega, hcm⟩
    have hj : j < 6 := by
      have := (List.getElem?_eq_some_iff.1 hv).1
      rwa [En.cells_length] at this
    have hi : i < l.length := (List.getElem?_eq_some_iff.1 hx).1
    have e := flatE_get l i x j hx hj
    rw [← ht, List.getElem?_take, if_pos (by omega), Array.getElem?_toList] at e
    rw [cell_of_row w g _ cur _ _ hg, e, hv]
end

/-- Block p is a pile whose list is l, at the value v, and whose next turn is nx. -/
structure PileAt (w : World) (p : Nat) (v : Value) (nx : Nat) (l : List En) : Prop where
  whole : Whole w p 63 #[v, .int .u64 (nx : Int)]
  row : w.ownsRow 0 70 6 v l.length (flatE l)
section
variable {w w' : World} {p nx : Nat} {v : Value} {l : List En}
theorem PileAt.cell0 (h : PileAt w p v nx l) : w.cell? ⟨p, 0, none⟩ = some v := h.whole.cell 0
theorem PileAt.cell1 (h : PileAt w p v nx l) : w.cell? ⟨p, 1, none⟩ = some (.int .u64 (nx : Int)) := h.whole.cell 1
theorem PileAt.ne (h : PileAt w p v nx l) : some p ≠ v.ownBlock := h.whole.not_row (by decide) h.row
theorem own_kept {S : Nat → Prop} {base : Nat} {e : TypeId} {size n : Nat} {xs : List Value} (h : w.ownsRow base e size v n xs) (hk : Kept S w w') (hg : ∀ g, v.ownBlock = some g → ¬ S g) : w'.ownsRow base e size v n xs := by
  refine ⟨h.1, ?_⟩
  rcases h.2 with h0 | ⟨g, cap, cur, rfl, hb, hgb, h3⟩
  · exact .inl h0
  · exact .inr ⟨g, cap, cur, rfl, hb, (hk.block g (Array.getElem?_eq_some_iff.1 hgb).1 (hg g rfl)).trans hgb, h3⟩
theorem PileAt.kept {S : Nat → Prop} (h : PileAt w p v nx l) (hk : Kept S w w') (hp : ¬ S p) (hg : ∀ g, v.ownBlock = some g → ¬ S g) : PileAt w' p v nx l :=
  ⟨h.whole.kept hk hp, own_kept h.row hk hg⟩
theorem PileAt.later (h : PileAt w p v nx l) (hb : Below w.heap.size w w') : PileAt w' p v nx l := h.kept (Kept.of_below hb Empty) (fun h => h) (fun _ _ h => h)
end

end Go.Proofs.Ytchfponnajednaa
