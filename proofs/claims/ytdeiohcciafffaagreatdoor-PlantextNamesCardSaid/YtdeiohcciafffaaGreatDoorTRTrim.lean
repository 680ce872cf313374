/- The document's blank, trim and number, by contracts. No condition. -/
import Derived.Test.YtdeiohcciafffaaGreatDoorTSay
namespace Go.Proofs.YtdeiohcciafffaaGreatDoor
open Go.RowKit Go.Shelf

theorem blank_bool (d : UInt8) : blanksL.contains d = (decide ((d.toNat : Int) = 32) || decide ((d.toNat : Int) = 9)) := by
  have h1 : (d = 32) ↔ d.toNat = 32 := ⟨fun h => by rw [h]; rfl, fun h => UInt8.toNat_inj.1 h⟩
  have h2 : (d = 9) ↔ d.toNat = 9 := ⟨fun h => by rw [h]; rfl, fun h => UInt8.toNat_inj.1 h⟩
  rw [Bool.eq_iff_iff]
  simp [blanksL, h1, h2]
  omega
theorem trim_parts {l : List UInt8} {a b : Nat} (hab : a ≤ b) (hb : b ≤ l.length) (h1 : ∀ j (h : j < l.length), j < a → blanksL.contains l[j] = true) (h2 : ∀ (h : a < l.length), blanksL.contains l[a] = false)
    (h3 : ∀ j (h : j < l.length), b ≤ j → blanksL.contains l[j] = true) (h4 : ∀ (h : b - 1 < l.length), a < b → blanksL.contains l[b - 1] = false) : (l.take b).drop a = Lib.trimS l blanksL := by
  rcases Nat.lt_or_ge a b with h | h
  · have e1 : Lib.trimRightS l blanksL = l.take b := Lib.trimRightS_take l blanksL b hb (fun j x hj hx => by
      obtain ⟨hl, rfl⟩ := List.getElem?_eq_some_iff.1 hx
      exact h3 j hl hj) (fun x _ hx => by
      obtain ⟨hl, rfl⟩ := List.getElem?_eq_some_iff.1 hx
      exact h4 hl h)
    have e2 : Lib.trimLeftS (l.take b) blanksL = (l.take b).drop a := Lib.trimLeftS_drop (l.take b) blanksL a (by rw [List.length_take]; omega) (fun j x hj hx => by
      rw [List.getElem?_take_of_lt (by omega)] at hx
      obtain ⟨hl, rfl⟩ := List.getElem?_eq_some_iff.1 hx
      exact h1 j hl hj) (fun x hx => by
      rw [List.getElem?_take_of_lt (by omega)] at hx
      obtain ⟨hl, rfl⟩ := List.getElem?_eq_some_iff.1 hx
      exact h2 hl)
    rw [Lib.trimS, e1, e2]
  · have e1 : Lib.trimRightS l blanksL = l.take 0 := Lib.trimRightS_take l blanksL 0 (by omega) (fun j x _ hx => by
      obtain ⟨hl, rfl⟩ := List.getElem?_eq_some_iff.1 hx
      rcases Nat.lt_or_ge j a with g | g
      · exact h1 j hl g
      · exact h3 j hl (by omega)) (fun x h0 _ => by omega)
    rw [Lib.trimS, e1]
    have : (l.take b).drop a = [] := List.drop_eq_nil_of_le (by rw [List.length_take]; omega)
    rw [this]
    rfl

theorem txt_extract (l : List UInt8) (a b : Nat) : (txt l).extract a b = txt ((l.take b).drop a) := by
  apply ByteArray.ext
  apply Array.ext'
  simp [List.drop_take]

end Go.Proofs.YtdeiohcciafffaaGreatDoor
