/- The library's contracts that the text's reader leans on: Cut at one sign, the three trims at blanks. They ask what a variable of the library's holds: some number. -/
import Derived.Test.YtdeiohcciafffaaGreatDoorTPure
import Derived.Test.YtdeiohcciafffaaGreatDoorShelf
namespace Go.Proofs.YtdeiohcciafffaaGreatDoor
open Go.RowKit Go.Shelf

/-- The library's variable MaxLen holds some number. -/
def Sized (m : Int) (w : World) : Prop := w.cell? ⟨0, 0, none⟩ = some (.int .i64 m)
theorem Sized.later {m : Int} {w w' : World} (h : Sized m w) (hk : Below w.heap.size w w') : Sized m w' := k_cell hk h

theorem cut_any (s : ByteArray) (c : UInt8) (m : Int) (w : World) (hs : s.size < 4294967281) (hm : Sized m w) :
    Calls Tryz.prog 21 #[.string s, .string ⟨#[c]⟩] w fun e w' => e = .returned (.tuple #[.string ⟨(aheadL c s.data.toList).toArray⟩, .string ⟨(behindL c s.data.toList).toArray⟩, .bool (s.data.toList.contains c)]) ∧ ∃ n, w' = w.drewN n := by
  have h := Tryz.strings_Cut s ⟨#[c]⟩ m w hs hm
  have e : (⟨#[c]⟩ : ByteArray).data.toList = [c] := rfl
  rw [e, cut_eq] at h
  exact h
theorem blanks_ascii : ∀ (j : Nat) b, (⟨#[32, 9]⟩ : ByteArray).data.toList[j]? = some b → b.toNat < 128 := ascii_of_all (by decide)
theorem trim_any (s : ByteArray) (w : World) (hs : s.size ≤ 9223372036854775807) :
    Calls Tryz.prog 94 #[.string s, .string ⟨#[32, 9]⟩] w fun e w' => e = .returned (.string ⟨(Lib.trimS s.data.toList blanksL).toArray⟩) ∧ Below w.heap.size w w' :=
  Any.strings_Trim_laid Tryz.lays160 (by kernel_rfl) s ⟨#[32, 9]⟩ w hs (by decide) blanks_ascii
theorem trimRight_any (s : ByteArray) (w : World) (hs : s.size ≤ 9223372036854775807) :
    Calls Tryz.prog 95 #[.string s, .string ⟨#[32, 9]⟩] w fun e w' => e = .returned (.string ⟨(Lib.trimRightS s.data.toList blanksL).toArray⟩) ∧ Below w.heap.size w w' :=
  Any.strings_TrimRight_laid Tryz.lays162 (by kernel_rfl) s ⟨#[32, 9]⟩ w hs (by decide) blanks_ascii
theorem trimLeft_any (s : ByteArray) (w : World) :
    Calls Tryz.prog 97 #[.string s, .string ⟨#[32, 9]⟩] w fun e w' => e = .returned (.string ⟨(Lib.trimLeftS s.data.toList blanksL).toArray⟩) ∧ Below w.heap.size w w' :=
  Any.strings_TrimLeft_laid Tryz.lays161 (by kernel_rfl) s ⟨#[32, 9]⟩ w (by decide) blanks_ascii

/-- A text as bytes. -/
abbrev txt (l : List UInt8) : ByteArray := ⟨l.toArray⟩
theorem txt_size (l : List UInt8) : (txt l).size = l.length := by simp [ByteArray.size]
theorem txt_list (l : List UInt8) : (txt l).data.toList = l := rfl

set_option maxRecDepth 100000 in
set_option maxHeartbeats 1000000 in
theorem counted_any (l : List UInt8) (m : Int) (w : World) (hl : l.length ≤ 4000000) (hm : Sized m w) :
    Calls Tryz.prog 77 #[.string (txt l)] w fun e w' => e = .returned (.string (txt (countT l))) ∧ Below w.heap.size w w' := by
  obtain ⟨tl, htl⟩ : ∃ tl, tl = txt l := ⟨_, rfl⟩
  have hz : tl.size = l.length := by rw [htl]; exact txt_size l
  have hlist : tl.data.toList = l := by rw [htl]
  obtain ⟨ah, hah⟩ : ∃ ah, ah = txt (aheadL 35 l) := ⟨_, rfl⟩
  have h1 := ahead_le 35 l
  have hz2 : ah.size = (aheadL 35 l).length := by rw [hah]; exact txt_size _
  have hl2 : ah.data.toList = aheadL 35 l := by rw [hah]
  have hc := fun W h => cut_any tl 35 m W (by omega) h
  have ht := fun W => trim_any ah W (by omega)
  rw [hlist] at hc
  rw [hl2] at ht
  rw [← htl]
  have HC := Lib.hid hc
  have HT := Lib.hid ht
  have HM := Lib.hid hm
  unfold countT txt
  unfold txt at hah
  rw [← hah] at HC
  clear hc ht hm h1 hlist hl2 htl hah hz hz2
  generalize (⟨(behindL 35 l).toArray⟩ : ByteArray) = bh at *
  generalize (⟨(Lib.trimS (aheadL 35 l) blanksL).toArray⟩ : ByteArray) = ct at *
  generalize l.contains 35 = bo at *
  go_enter Tryz.func77, Tryz.ntmps77
  go_wp2_with (first
    | (go_at_call 21; refine (HC.out _ HM.out).mono ?_; rintro e w2 ⟨rfl, n, rfl⟩)
    | (go_at_call 94; refine (HT.out _).mono ?_; rintro e w3 ⟨rfl, hb⟩; have HB := Lib.hid hb; clear hb))
  go_ret
  exact ⟨rfl, (below_drewN (Below.refl _ w) _).trans HB.out⟩
end Go.Proofs.YtdeiohcciafffaaGreatDoor
