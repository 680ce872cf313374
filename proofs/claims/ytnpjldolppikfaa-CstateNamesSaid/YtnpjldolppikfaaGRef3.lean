/- The document's Rank, Both, Less, Text and Ints of a group, each by a contract. -/
import Derived.Test.YtnpjldolppikfaaGRef2
import Derived.Test.YtnpjldolppikfaaGText
namespace Go.Proofs.Ytnpjldolppikfaa
open Go.RowKit

set_option maxHeartbeats 1000000 in
theorem refLess_any (a b : Nat) (w : World) (ha : a < 65536) (hb : b < 65536) : Calls Try.prog 46 #[.int .u16 (a : Int), .int .u16 (b : Int)] w fun e w' => e = .returned (.int .u16 ((lessG a b : Nat) : Int)) ∧ Below w.heap.size w w' := by
  rw [← lessF_list ha hb]
  have HL := fun w => Lib.hid (refList_any b w hb)
  have hll := listI_le b
  have HA := Lib.hid ha
  clear ha
  generalize listI b = l at *
  go_enter Try.func46, Try.ntmps46
  go_wp2_with (go_at_call 68; refine (HL _).out.mono ?_; rintro e w1 hf; obtain ⟨A, c, rfl, hsrc, _, hbl⟩ := hf.opened; clear hf)
  clear HL
  go_loop [0, 6] (fun m i => ∃ k : Nat, k ≤ l.length ∧ i = .int .i64 (k : Int) ∧ m = .int .u16 ((lessF a (l.take k) : Nat) : Int)) (fun _ i => l.length - (intOf i).toNat)
  case atStart => exact ⟨0, by omega, rfl, rfl⟩
  case round =>
    obtain ⟨k, hk, rfl, rfl⟩ := hrel
    have hbt := lessF_lt HA.out (l.take k)
    by_cases hlt : k < l.length
    · obtain ⟨bb, o, rfl, hcell⟩ := hsrc (by omega)
      have hc := hcell k hlt
      have hs := lessF_succ (a := a) hlt
      clear hcell hsrc
      generalize hxx : l[k] = x at *
      have HS := Lib.hid hs
      clear hxx hs
      go_wp2_with (go_at_call 53; refine (refWithout_any _ _ _ hbt).mono ?_; rintro e w' ⟨rfl, rfl⟩)
      go_round
      case rel => exact ⟨k + 1, by omega, by go_num, by rw [HS.out]⟩
      case measure => simp [intOf]; omega
    · have hkl : l.take k = l := List.take_of_length_le (by omega)
      rw [hkl]
      clear hkl hbt
      go_wp2
      go_ret
      exact ⟨rfl, hbl⟩

/-- Are two lists the same? -/
def sameL (l m : List Int) : Bool := l == m
theorem sameL_refl (l : List Int) : sameL l l = true := by simp [sameL]
theorem sameL_of_ne {l m : List Int} (h : l.length ≠ m.length) : sameL l m = false := by
  unfold sameL
  rw [beq_eq_false_iff_ne]
  rintro rfl
  exact h rfl
theorem sameL_of_get {l m : List Int} {k : Nat} (h : k < l.length) (h' : k < m.length) (hne : l[k] ≠ m[k]) : sameL l m = false := by
  unfold sameL
  rw [beq_eq_false_iff_ne]
  rintro rfl
  exact hne rfl
theorem sameL_of_all {l m : List Int} (h : l.length = m.length) (hg : ∀ j (a : j < l.length) (b : j < m.length), l[j] = m[j]) : sameL l m = true := by
  unfold sameL
  rw [beq_iff_eq]
  exact List.ext_getElem h hg

end Go.Proofs.Ytnpjldolppikfaa
