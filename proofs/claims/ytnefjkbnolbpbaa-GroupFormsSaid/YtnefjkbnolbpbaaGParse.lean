/- Parse of a group, by a contract. -/
import Derived.Test.YtnefjkbnolbpbaaGRune2
namespace Go.Proofs.Ytnefjkbnolbpbaa
open Go.RowKit

theorem nodeI_bounds (r : Int) : -1 ≤ nodeI r ∧ nodeI r ≤ 15 := by
  unfold nodeI
  split
  · have key : ∀ c : Fin 256, Lib.indexByte digsL (UInt8.ofNat c.val) ≤ 15 := by decide +kernel
    refine ⟨Lib.indexByte_ge _ _, ?_⟩
    have h := key ⟨(r.toNat.toUInt8).toNat, UInt8.toNat_lt _⟩
    rw [show UInt8.ofNat (r.toNat.toUInt8).toNat = r.toNat.toUInt8 from UInt8.ofNat_toNat] at h
    exact h
  · omega

/-- What is read of a text's bytes, digit by digit. -/
def parseL : List UInt8 → Nat → Int → Option Nat
  | [], g, _ => some g
  | b :: l, g, before => if nodeI (b.toNat : Int) ≤ before then none else parseL l (withG g (nodeI (b.toNat : Int))) (nodeI (b.toNat : Int))
/-- The group of a text, if it is one. -/
def parseG (l : List UInt8) : Option Nat := if l = [] then none else if l = [45] then some 0 else parseL l 0 (-1)
def parV (l : List UInt8) : Nat := (parseG l).getD 0
def parE (l : List UInt8) : Int := if (parseG l).isSome = true then 0 else 2

/-- What Parse says. -/
def SaysParse (w : World) (l : List UInt8) (e : Ending) (w' : World) : Prop := e = .returned (.tuple #[.int .u16 ((parV l : Nat) : Int), .int .i64 (parE l)]) ∧ Below w.heap.size w w'
theorem SaysParse.bad {w w' : World} {l : List UInt8} (h : parseG l = none) (hb : Below w.heap.size w w') : SaysParse w l (.returned (.tuple #[.int .u16 0, .int .i64 2])) w' := by
  refine ⟨?_, hb⟩
  rw [parV, parE, h]
  rfl
theorem SaysParse.good {w w' : World} {l : List UInt8} {g : Nat} (h : parseG l = some g) (hb : Below w.heap.size w w') : SaysParse w l (.returned (.tuple #[.int .u16 (g : Int), .int .i64 0])) w' := by
  refine ⟨?_, hb⟩
  rw [parV, parE, h]
  rfl

theorem nodeOf_ascii (r : Int) (w : World) (h0 : 0 ≤ r) (h1 : r < 128) : Calls Try.prog 44 #[.int .i32 r] w fun e w' => e = .returned (.int .i64 (nodeI r)) ∧ w = w' := by
  rw [nodeI, if_pos h1]
  go_enter Try.func44, Try.ntmps44
  go_wp2_with (go_at_call 46; refine (indexRune_ascii _ _ h0 h1).mono ?_; rintro e w' ⟨rfl, rfl⟩)
  go_ret
  exact ⟨rfl, rfl⟩

theorem drop_at (s : ByteArray) (k : Nat) (h : k < s.size) : s.data.toList.drop k = s[k] :: s.data.toList.drop (k + 1) := by
  have h' : k < s.data.toList.length := by simpa using h
  rw [List.drop_eq_getElem_cons h']
  rfl

set_option maxHeartbeats 2000000 in
theorem parse_any (s : ByteArray) (w : World) : Calls Try.prog 34 #[.string s] w (SaysParse w s.data.toList) := by
  by_cases h0 : s.data.toList = []
  · obtain ⟨⟨l⟩⟩ := s
    obtain rfl : l = [] := h0
    go_enter Try.func34, Try.ntmps34
    go_wp2_with fail
    go_ret2
    exact SaysParse.bad (by decide) (Below.refl _ _)
  by_cases h1 : s.data.toList = [45]
  · obtain ⟨⟨l⟩⟩ := s
    obtain rfl : l = [45] := h1
    go_enter Try.func34, Try.ntmps34
    go_wp2_with fail
    go_ret2
    exact SaysParse.good (g := 0) (by decide) (Below.refl _ _)
  have hp : parseG s.data.toList = parseL s.data.toList 0 (-1) := by rw [parseG, if_neg h0, if_neg h1]
  have e0 : s.toList.isEmpty = false := by
    rw [ByteArray.toList_eq]
    cases hl : s.data.toList with
    | nil => exact absurd hl h0
    | cons b l => rfl
  have e1 : (s.toList == [45]) = false := by rw [ByteArray.toList_eq, beq_eq_false_iff_ne]; exact h1
  have e2 : (s.toList == []) = false := by rw [ByteArray.toList_eq, beq_eq_false_iff_ne]; exact h0
  have e3 : ¬ s.toList = [] := by rw [ByteArray.toList_eq]; exact h0
  have HP := Lib.hid hp
  clear hp h0 h1
  go_enter Try.func34, Try.ntmps34
  go_wp2_with fail
  go_loopw [4, 5] (fun g b wr => ∃ (pos gv : Nat) (bv : Int), pos ≤ s.size ∧ wr = w.iter s pos ∧ g = .int .u16 (gv : Int) ∧ b = .int .i64 bv ∧ gv < 65536 ∧ -1 ≤ bv ∧ bv ≤ 15 ∧ parseL (s.data.toList.drop pos) gv bv = parseL s.data.toList 0 (-1)) (fun _ _ wr => s.size - wr.iterPos w.heap.size)
  case atStart => exact ⟨0, 0, -1, by omega, rfl, rfl, rfl, by omega, by omega, by omega, by rw [List.drop_zero]⟩
  case round =>
    obtain ⟨pos, gv, bv, hpos, rfl, rfl, rfl, hgv, hb0, hb1, hpar⟩ := hrel
    by_cases hlt : pos < s.size
    · rw [drop_at s pos hlt, parseL] at hpar
      by_cases ha : (s[pos]'hlt).toNat < 128
      · have hnx : ∀ ty, (Instr.next (.pointer (some ⟨w.heap.size, 0, none⟩)) true ty).run Try.prog (w.iter s pos) = _ := fun ty => run_next_ascii w s pos ty hlt ha
        generalize (s[pos]'hlt).toNat = b at *
        have hn := nodeI_bounds (b : Int)
        have NO := fun W => nodeOf_ascii (b : Int) W (by omega) (by omega)
        generalize nodeI (b : Int) = n at *
        have HN := Lib.hid NO
        clear NO
        obtain ⟨hn0, hn1⟩ := hn
        by_cases hle : n ≤ bv
        · rw [if_pos hle, ← HP.out] at hpar
          have HPar := Lib.hid hpar.symm
          clear hpar
          go_wp2_with (go_at_call 44; refine (HN.out _).mono ?_; rintro e w' ⟨rfl, rfl⟩)
          go_ret2
          exact SaysParse.bad HPar.out ((Below.refl _ _).alloc (Nat.le_refl _) _)
        · rw [if_neg hle] at hpar
          have HPar := Lib.hid hpar
          have hwl := withG_lt n hgv
          have hle' : decide (n ≤ bv) = false := decide_eq_false hle
          clear hpar
          go_wp2_with (first
            | (go_at_call 44; refine (HN.out _).mono ?_; rintro e w' ⟨rfl, rfl⟩)
            | (go_at_call 16; refine (with_any _ _ _ hgv).mono ?_; rintro e w' ⟨rfl, rfl⟩))
          go_roundw
          case rel => exact ⟨pos + 1, withG gv n, n, by omega, rfl, rfl, rfl, hwl, hn0, hn1, HPar.out⟩
          case measure => simp; omega
      · have hd := decode_high s pos hlt (by omega)
        have hle := decode_le s pos
        have hnx : ∀ ty, (Instr.next (.pointer (some ⟨w.heap.size, 0, none⟩)) true ty).run Try.prog (w.iter s pos) = _ := fun ty => run_next_any w s pos ty hlt
        have hni : nodeI (((s[pos]'hlt).toNat : Nat) : Int) = -1 := if_neg (by omega)
        rw [hni, if_pos hb0, ← HP.out] at hpar
        generalize Utf8.decode s pos = d at *
        obtain ⟨r, wd⟩ := d
        have NO : ∀ W, Calls Try.prog 44 #[.int .i32 (r : Int)] W fun e w' => e = .returned (.int .i64 (-1)) ∧ Below W.heap.size W w' := fun W => by
          have hr : nodeI (r : Int) = -1 := if_neg (by have := hd.1; omega)
          rw [← hr]
          exact nodeOf_any _ W (by omega)
        have HN := Lib.hid NO
        have HPar := Lib.hid hpar.symm
        clear NO hpar hni
        go_wp2_with (go_at_call 44; refine (HN.out _).mono ?_; rintro e w' ⟨rfl, bl⟩)
        go_ret2
        exact SaysParse.bad HPar.out (((Below.refl _ w).alloc (Nat.le_refl _) _).trans (bl.mono (by simp [World.iter])))
    · have hdr : s.data.toList.drop pos = [] := List.drop_eq_nil_of_le (by simp; omega)
      rw [hdr, parseL, ← HP.out] at hpar
      have HPar := Lib.hid hpar.symm
      have hnx : ∀ ty, (Instr.next (.pointer (some ⟨w.heap.size, 0, none⟩)) true ty).run Try.prog (w.iter s pos) = _ := fun ty => run_next_end w s pos ty hlt
      clear hpar hdr
      go_wp2_with fail
      go_ret2
      exact SaysParse.good HPar.out ((Below.refl _ _).alloc (Nat.le_refl _) _)

end Go.Proofs.Ytnefjkbnolbpbaa
