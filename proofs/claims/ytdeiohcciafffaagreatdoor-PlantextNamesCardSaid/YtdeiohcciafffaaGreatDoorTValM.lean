/- A shown plan's lines. No condition. -/
import Derived.Test.YtdeiohcciafffaaGreatDoorTSplit
namespace Go.Proofs.YtdeiohcciafffaaGreatDoor
open Go.RowKit Go.Shelf

theorem dec_digits : ∀ (u : Nat), ∀ d ∈ Lib.decDigits u, digitB d = true
  | u, d, hd => by
    unfold Lib.decDigits at hd
    split at hd
    · rw [List.mem_singleton] at hd
      subst hd
      have h : (UInt8.ofNat (48 + u)).toNat = 48 + u := by simp [UInt8.toNat_ofNat]; omega
      exact decide_eq_true (by rw [h]; omega)
    · rw [List.mem_append] at hd
      rcases hd with hd | hd
      · exact dec_digits (u / 10) d hd
      · rw [List.mem_singleton] at hd
        subst hd
        have h : (UInt8.ofNat (48 + u % 10)).toNat = 48 + u % 10 := by simp [UInt8.toNat_ofNat]; omega
        exact decide_eq_true (by rw [h]; omega)
theorem itoa_no (n : Int) : (Lib.itoa n).contains 10 = false := by
  have key : ∀ u, (10 : UInt8) ∉ Lib.decDigits u := fun u h => by have := dec_digits u 10 h; revert this; decide
  unfold Lib.itoa
  rw [List.contains_eq_mem, decide_eq_false_iff_not]
  split
  · rw [List.mem_cons]
    rintro (h | h)
    · revert h; decide
    · exact key _ h
  · exact key _
theorem name_no {k : Nat} (hk : k < 16) : (nameL k).contains 10 = false := by
  revert hk
  exact fun hk => case16 (p := fun k => (nameL k).contains 10 = false) (by decide) (by decide) (by decide) (by decide) (by decide) (by decide) (by decide) (by decide) (by decide) (by decide) (by decide) (by decide) (by decide) (by decide) (by decide) (by decide) k hk
theorem body_no (x : Pl) {k : Nat} (hk : k < 16) : (bodyL x k).contains 10 = false := by
  have h1 := name_no hk
  have h2 := itoa_no (x.nth k)
  unfold bodyL
  simp only [List.contains_eq_mem, List.mem_append, decide_eq_false_iff_not] at h1 h2 ⊢
  rintro ((h | h) | h)
  · exact h1 h
  · revert h; decide
  · exact h2 h
theorem lines_shown (x : Pl) (r : List UInt8) : ∀ (ks : List Nat), (∀ k ∈ ks, k < 16) → linesT (ks.flatMap (lineL x) ++ r) = ks.map (bodyL x) ++ linesT r
  | [], _ => rfl
  | k :: ks, h => by
    have h1 : k < 16 := h k (by simp)
    have ih := lines_shown x r ks fun j hj => h j (by simp [hj])
    have e : (k :: ks).flatMap (lineL x) ++ r = bodyL x k ++ 10 :: (ks.flatMap (lineL x) ++ r) := by simp [List.flatMap_cons, lineL_body]
    rw [e, linesT_app (body_no x h1), ih]
    rfl
/-- What is shown, split: sixteen lines, and nothing behind the last line feed. -/
theorem shown_lines (x : Pl) : linesT (shownL x) = (List.range 16).map (bodyL x) ++ [[]] := by
  have h := lines_shown x [] (List.range 16) (fun k hk => List.mem_range.1 hk)
  rw [List.append_nil] at h
  exact h
theorem shown_len (x : Pl) : (linesT (shownL x)).length = 17 := by rw [shown_lines]; simp
theorem shown_get (x : Pl) {k : Nat} (hk : k < 16) : (strV (linesT (shownL x)))[k]? = some (.string (txt (bodyL x k))) := by
  rw [shown_lines, strV, List.getElem?_map, List.getElem?_append_left (by simpa using hk), List.getElem?_map, List.getElem?_range hk]
  rfl
theorem shown_last (x : Pl) : (strV (linesT (shownL x)))[16]? = some (.string (txt [])) := by
  rw [shown_lines, strV, List.getElem?_map, List.getElem?_append_right (by simp)]
  simp
theorem body_prefix (x : Pl) (k : Nat) : Lib.hasPrefix (bodyL x k) (nameL k ++ [32, 61, 32]) = true := by
  unfold Lib.hasPrefix bodyL
  rw [List.isPrefixOf_iff_prefix]
  exact List.prefix_append _ _
theorem names_apart {k : Nat} (hk : k < 16) (h0 : 0 < k) : nameL k ≠ nameL (k - 1) := by
  intro e
  have h1 := placeL_nameL hk
  have h2 := placeL_nameL (k := k - 1) (by omega)
  rw [e] at h1
  omega
end Go.Proofs.YtdeiohcciafffaaGreatDoor
