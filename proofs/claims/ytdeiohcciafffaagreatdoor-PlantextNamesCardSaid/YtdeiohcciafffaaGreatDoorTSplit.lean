/- A text split at its line feeds is its lines. -/
import Derived.Test.YtdeiohcciafffaaGreatDoorTAlive
namespace Go.Proofs.YtdeiohcciafffaaGreatDoor
open Go.RowKit Go.Shelf

theorem split_lines : ∀ (n : Nat) (l : List UInt8), l.length ≤ n → Lib.splitK [10] 0 (Lib.count l [10]) l = linesT l
  | n, l, hn => by
    cases h : l.contains 10
    · have hi : Lib.index l [10] = -1 := by rw [Lib.index_one]; exact index_neg.2 h
      rw [Lib.count_miss hi, linesT_last h]
      rfl
    · obtain ⟨i1, i2, i3⟩ := cut_found 10 l h
      have hlt := behind_lt h
      have hi : Lib.index l [10] = ((Lib.indexByte l 10).toNat : Nat) := by rw [Lib.index_one]; omega
      have hne : ¬ (Lib.index l [10] == -1) = true := fun e => by have := beq_iff_eq.1 e; omega
      have hlen : ([10] : List UInt8).length = 1 := rfl
      rw [Lib.count_hit (by simp) hi, Nat.add_comm 1, Lib.splitK, if_neg hne, hi, Int.toNat_natCast, hlen, Nat.add_zero, i2, i3, linesT_more h]
      cases n with
      | zero => omega
      | succ n => rw [split_lines n _ (by omega)]
theorem split_txt (l : List UInt8) : (Lib.splitB ⟨#[10]⟩ 0 (Lib.countB (txt l) ⟨#[10]⟩) (txt l)).map Value.string = strV (linesT l) := by
  have h := Lib.splitB_data ⟨#[10]⟩ 0 (Lib.countB (txt l) ⟨#[10]⟩) (txt l)
  have e : Lib.splitK (⟨#[10]⟩ : ByteArray).data.toList 0 (Lib.countB (txt l) ⟨#[10]⟩) (txt l).data.toList = linesT l := split_lines l.length l (Nat.le_refl _)
  rw [e] at h
  rw [strV, ← h, List.map_map]
  rfl
theorem split_count (l : List UInt8) : Lib.countB (txt l) ⟨#[10]⟩ + 1 = (linesT l).length := by
  have h := congrArg List.length (split_txt l)
  rw [List.length_map, strV_length, Lib.splitB_all ⟨#[10]⟩ (by decide) 0 _ _ rfl] at h
  exact h
theorem split_any (l : List UInt8) (q : Int) (w : World) (hl : l.length ≤ 4000000) (hm : Sized q w) :
    Calls Tryz.prog 19 #[.string (txt l), .string ⟨#[10]⟩] w fun e w' => e = .returned (.slice (some ⟨w.heap.size, 0, none⟩) (linesT l).length (linesT l).length) ∧ w' = w.alloc (.cells (strV (linesT l)).toArray 9) := by
  have h := Tryz.strings_Split (txt l) ⟨#[10]⟩ q w (by rw [txt_size]; omega) hm (by decide)
  rw [split_count, split_txt] at h
  exact h

/-- A shown line without its line feed. -/
def bodyL (x : Pl) (k : Nat) : List UInt8 := nameL k ++ [32, 61, 32] ++ Lib.itoa (x.nth k)
theorem lineL_body (x : Pl) (k : Nat) : lineL x k = bodyL x k ++ [10] := rfl
end Go.Proofs.YtdeiohcciafffaaGreatDoor
