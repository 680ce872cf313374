/- A frame's fates, by channels: a contract. No condition. -/
import Derived.Test.YtmplidgafdobkaaUBef
import Derived.Laws.MakeOwn
import Derived.StillTailTactics
import Derived.Test.YtmplidgafdobkaaLRow
namespace Go.Proofs.Ytmplidgafdobkaa
open Go.RowKit Go.Shelf

/-- A row of n fates, the first k of which are told. -/
def rowTo (p : Pl) (told : List Fa) (f : Int) (c n k : Nat) : List Fa := (List.range n).map fun i => if i < k then fateL p told f c i else default
theorem rowTo_length (p : Pl) (told : List Fa) (f : Int) (c n k : Nat) : (rowTo p told f c n k).length = n := by simp [rowTo]
theorem rowTo_zero (p : Pl) (told : List Fa) (f : Int) (c n : Nat) : rowTo p told f c n 0 = List.replicate n default := by
  apply List.ext_getElem
  · simp [rowTo]
  · intro i h1 h2
    simp [rowTo]
theorem rowTo_all (p : Pl) (told : List Fa) (f : Int) (c n : Nat) (h : p.nodes.toNat = n) : rowTo p told f c n n = spreadL p told f c := by
  unfold rowTo spreadL
  rw [h]
  exact List.map_congr_left fun i hi => by rw [if_pos (List.mem_range.1 hi)]
theorem rowTo_set (p : Pl) (told : List Fa) (f : Int) (c n k : Nat) : (rowTo p told f c n k).set k (fateL p told f c k) = rowTo p told f c n (k + 1) := by
  apply List.ext_getElem
  · simp [rowTo]
  · intro i h1 h2
    rw [List.getElem_set]
    simp only [rowTo, List.getElem_map, List.getElem_range]
    by_cases e : k = i
    · subst e
      rw [if_pos rfl, if_pos (by omega)]
    · rw [if_neg e]
      by_cases h : i < k
      · rw [if_pos h, if_pos (by omega)]
      · rw [if_neg h, if_neg (by omega)]
theorem i_fa : (Try.prog.info? 47).map (fun i => (i.zero, i.size, i.bytes)) = some (some (.agg #[.int .i64 0, .bool false, .bool false]), 3, 16) := by kernel_rfl
theorem made_fa (n : Nat) : madeCells #[.int .i64 0, .bool false, .bool false] (n * 3) = ((List.replicate n (default : Fa)).flatMap faC).toArray := by
  have hl := flat_len (cells := faC) (k := 3) (fun _ => rfl) (List.replicate n (default : Fa))
  rw [List.length_replicate] at hl
  apply Array.ext
  · rw [size_madeCells, List.size_toArray, hl]
  · intro i h1 h2
    rw [size_madeCells] at h1
    have e := flat_get (cells := faC) (k := 3) (fun _ => rfl) (List.replicate n (default : Fa)) (i / 3) default (i % 3) (by rw [List.getElem?_replicate, if_pos (by omega)]) (by omega)
    rw [show i / 3 * 3 + i % 3 = i by omega] at e
    have e2 : ((List.replicate n (default : Fa)).flatMap faC).toArray[i]? = (faC default)[i % 3]? := by rw [List.getElem?_toArray]; exact e
    rw [Array.getElem?_eq_getElem h2] at e2
    have e3 : (faC default)[i % 3]? = some ((madeCells #[.int .i64 0, .bool false, .bool false] (n * 3))[i]'(by rw [size_madeCells]; exact h1)) := by
      simp only [madeCells, Array.getElem_map, Array.getElem_range]
      have : i % 3 = 0 ∨ i % 3 = 1 ∨ i % 3 = 2 := by omega
      rcases this with h | h | h <;> (simp [h]; rfl)
    rw [e3] at e2
    exact (Option.some.inj e2).symm
theorem make_fa (n : Nat) (h1 : 4 ≤ n) (h2 : n ≤ 16) (w : World) : (Instr.makeSlice 34 (.int .i64 (n : Int)) (.int .i64 (n : Int))).run Try.prog w = .ok (.slice (some ⟨w.heap.size, 0, none⟩) n n) (w.alloc (.cells ((List.replicate n (default : Fa)).flatMap faC).toArray 47)) := by
  obtain ⟨i0, hi, hz0, hz1, hz2⟩ := info_parts i_fa
  have := run_make (P := Try.prog) w 34 47 i0 (.agg #[.int .i64 0, .bool false, .bool false]) Try.underlying34 hi hz0 .i64 .i64 (n : Int) (n : Int) (by omega) (by omega) (by rw [hz2]; omega) (by omega)
  rw [this, hz1]
  simp only [Int.toNat_natCast]
  rw [← made_fa n]
  rfl
theorem fa_len (f : Fa) : (faC f).length = 3 := rfl
/-- A fate stored into a row. -/
theorem fa_set : ∀ (xs : List Fa) (k : Nat) (d : Int) (lo cu : Bool), k < xs.length → (((xs.flatMap faC).set (k * 3) (.int .i64 d)).set (k * 3 + 1) (.bool lo)).set (k * 3 + 2) (.bool cu) = (xs.set k ⟨d, lo, cu⟩).flatMap faC
  | [], k, d, lo, cu, h => by simp at h
  | x :: xs, 0, d, lo, cu, _ => by simp [faC]
  | x :: xs, k + 1, d, lo, cu, h => by
    have ih := fa_set xs k d lo cu (by simpa using h)
    have e1 : (k + 1) * 3 = k * 3 + 1 + 1 + 1 := by omega
    have e2 : (k + 1) * 3 + 1 = k * 3 + 1 + 1 + 1 + 1 := by omega
    have e3 : (k + 1) * 3 + 2 = k * 3 + 2 + 1 + 1 + 1 := by omega
    rw [e1, List.flatMap_cons, List.set_cons_succ, List.flatMap_cons, ← ih]
    simp [faC]
/-- A row of fates, whole. -/
def FaRow (w : World) (g : Nat) (xs : List Fa) : Prop := Whole w g 47 (xs.flatMap faC).toArray
theorem FaRow.cells {w : World} {g : Nat} {xs : List Fa} (h : FaRow w g xs) (k : Nat) (hk : k < xs.length) : (w.cell? ⟨g, k * 3, none⟩ = some (.int .i64 (xs.getD k default).d) ∧ w.cell? ⟨g, k * 3 + 1, none⟩ = some (.bool (xs.getD k default).lost) ∧ w.cell? ⟨g, k * 3 + 2, none⟩ = some (.bool (xs.getD k default).cut)) := by
  have e : xs[k]? = some (xs.getD k default) := by rw [List.getD_eq_getElem?_getD, List.getElem?_eq_getElem hk]; rfl
  have at_ : ∀ j, j < 3 → w.cell? ⟨g, k * 3 + j, none⟩ = (faC (xs.getD k default))[j]? := fun j hj => by
    rw [Whole.cell h (k * 3 + j), List.getElem?_toArray, flat_get fa_len xs k _ j e hj]
  exact ⟨at_ 0 (by decide), at_ 1 (by decide), at_ 2 (by decide)⟩
theorem FaRow.store {w : World} {g : Nat} {xs : List Fa} (h : FaRow w g xs) (k : Nat) (hk : k < xs.length) (d : Int) (lo cu : Bool) : FaRow (((w.setCell ⟨g, k * 3, none⟩ (.int .i64 d)).setCell ⟨g, k * 3 + 1, none⟩ (.bool lo)).setCell ⟨g, k * 3 + 2, none⟩ (.bool cu)) g (xs.set k ⟨d, lo, cu⟩) := by
  have h3 := ((Whole.set h (k * 3) (.int .i64 d)).set (k * 3 + 1) (.bool lo)).set (k * 3 + 2) (.bool cu)
  unfold FaRow
  rw [← fa_set xs k d lo cu hk]
  simpa using h3
theorem FaRow.src {w : World} {g : Nat} {xs : List Fa} (h : FaRow w g xs) (hm : xs.length ≤ 1000000) : RSrc faC 3 w ⟨some ⟨g, 0, none⟩, xs.length, xs.length⟩ xs :=
  ⟨rfl, Nat.le_refl _, Nat.le_trans hm (by decide), fun e => by simp at e, fun _ => ⟨g, 0, rfl, fun i x hx j v hv => by
    obtain ⟨hi, rfl⟩ := List.getElem?_eq_some_iff.1 hx
    obtain ⟨a, b, c⟩ := h.cells i hi
    rw [List.getD_eq_getElem?_getD, List.getElem?_eq_getElem hi] at a b c
    rw [Nat.zero_add]
    match j, hv with
    | 0, hv => cases hv; exact a
    | 1, hv => cases hv; exact b
    | 2, hv => cases hv; exact c⟩⟩
end Go.Proofs.Ytmplidgafdobkaa
