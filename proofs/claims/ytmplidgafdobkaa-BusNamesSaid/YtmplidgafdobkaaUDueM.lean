/- Where a frame is there: words. No condition. -/
import Derived.Test.YtmplidgafdobkaaUNew
namespace Go.Proofs.Ytmplidgafdobkaa
open Go.RowKit Go.Shelf

theorem dueTo_zero (c t : Int) (l : List Fa) : dueTo c t l 0 = [] := rfl
theorem dueTo_lost {c t : Int} {l : List Fa} {k : Nat} (h : (l.getD k default).lost = true) : dueTo c t l (k + 1) = dueTo c t l k := by
  unfold dueTo
  rw [List.range_succ, List.filterMap_append, List.filterMap_cons_none (by rw [h, if_pos rfl]), List.filterMap_nil, List.append_nil]
theorem dueTo_here {c t : Int} {l : List Fa} {k : Nat} (h : (l.getD k default).lost = false) : dueTo c t l (k + 1) = dueTo c t l k ++ [⟨(k : Int), c, t + (l.getD k default).d⟩] := by
  unfold dueTo
  rw [List.range_succ, List.filterMap_append, List.filterMap_cons_some (by rw [h, if_neg (by decide)]), List.filterMap_nil]
theorem dueTo_length (c t : Int) (l : List Fa) (k : Nat) : (dueTo c t l k).length ≤ k := by
  unfold dueTo
  exact Nat.le_trans (List.length_filterMap_le _ _) (by rw [List.length_range]; exact Nat.le_refl _)
/-- A row with something in it is a slice. -/
theorem own_slice {w : World} {base n k : Nat} {e : TypeId} {v : Value} {xs : List Value} (h : w.ownsRow base e k v (n + 1) xs) : ∃ gv cv, v = .slice (some ⟨gv, 0, none⟩) (n + 1) cv := by
  rcases h.2 with ⟨_, h0⟩ | ⟨gv, cv, cur, e, _⟩
  · omega
  · exact ⟨gv, cv, e⟩
theorem du_len (d : Du) : (duC d).length = 3 := rfl
theorem du_one (d : Du) : ∀ u ∈ duC d, u.oneCell' = true := by
  intro u hu
  simp only [duC, List.mem_cons, List.not_mem_nil, or_false] at hu
  rcases hu with rfl | rfl | rfl <;> rfl
theorem i_du : (Try.prog.info? 65).map (fun i => (i.zero, i.size, i.bytes)) = some (some (.agg #[.int .i64 0, .int .i64 0, .int .i64 0]), 3, 24) := by kernel_rfl

/-- A sending's cells. -/
theorem sd_cells {w : World} {S : Nat → Prop} {b l : Nat} {v : Value} {As : List SdA} {g : Lg} (h : BusAt w S b l v As g) (i : Nat) (hi : i < As.length) :
    ∃ gb cap, v = .slice (some ⟨gb, 0, none⟩) As.length cap ∧ As.length ≤ cap ∧ cap ≤ 9223372036854775807 ∧ (w.cell? ⟨gb, i * 5, none⟩ = some (.int .i64 (As.getD i default).s.f) ∧ w.cell? ⟨gb, i * 5 + 1, none⟩ = some (.int .i64 (As.getD i default).s.t) ∧ w.cell? ⟨gb, i * 5 + 2, none⟩ = some ((As.getD i default).rw.v) ∧
      w.cell? ⟨gb, i * 5 + 3, none⟩ = some ((As.getD i default).f0.v) ∧ w.cell? ⟨gb, i * 5 + 4, none⟩ = some ((As.getD i default).f1.v)) ∧ gb < w.heap.size := by
  rcases h.row.2 with ⟨_, h0⟩ | ⟨gb, cap, cur, rfl, _, hg, hnc, hcm, hsz, htk⟩
  · omega
  · have e : As[i]? = some (As.getD i default) := by rw [List.getD_eq_getElem?_getD, List.getElem?_eq_getElem hi]; rfl
    have at_ : ∀ j u, j < 5 → (sdC (As.getD i default))[j]? = some u → w.cell? ⟨gb, i * 5 + j, none⟩ = some u := fun j u hj hu => by
      have := h.row.cells (g := gb) rfl (i * 5 + j) u (by rw [flat_get sd_len As i _ j e hj]; exact hu)
      rw [plain_add, Nat.zero_add] at this
      exact this
    exact ⟨gb, cap, rfl, hnc, by simpa only [maxLen] using hcm, ⟨at_ 0 _ (by decide) rfl, at_ 1 _ (by decide) rfl, at_ 2 _ (by decide) rfl, at_ 3 _ (by decide) rfl, at_ 4 _ (by decide) rfl⟩, (Array.getElem?_eq_some_iff.1 hg).1⟩
/-- .. and its content. -/
theorem sd_get {w : World} {S : Nat → Prop} {b l : Nat} {v : Value} {As : List SdA} {g : Lg} (h : BusAt w S b l v As g) (i : Nat) (hi : i < As.length) : SdAt w (As.getD i default) ∧ (As.getD i default).s = g.L.getD i default ∧ (As.getD i default).s ∈ g.L := by
  have e : As[i]? = some (As.getD i default) := by rw [List.getD_eq_getElem?_getD, List.getElem?_eq_getElem hi]; rfl
  have hm : As.getD i default ∈ As := List.mem_of_getElem? e
  refine ⟨(h.src _ hm).1, ?_, ?_⟩
  · rw [← h.sds]
    rw [List.getD_eq_getElem?_getD, List.getD_eq_getElem?_getD, List.getElem?_map, List.getElem?_eq_getElem hi]
    rfl
  · rw [← h.sds]
    exact List.mem_map_of_mem hm
end Go.Proofs.Ytmplidgafdobkaa
