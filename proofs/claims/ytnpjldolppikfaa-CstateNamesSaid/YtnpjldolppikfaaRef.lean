/- The document's own Twin, Width, Number, and its In: each by a contract. -/
import Derived.Test.YtnpjldolppikfaaGet
namespace Go.Proofs.Ytnpjldolppikfaa
open Go.RowKit

theorem twin_any (A : Option Addr) (m c : Nat) (l : List UInt8) (w : World) (h : Src w A m l) (hm : m ≤ 549755813888) :
    Calls Try.prog 11 #[.slice A m c] w fun e w' => ∃ v, e = .returned v ∧ w'.ownsRow w.heap.size 5 1 v m (bv l) ∧ Below w.heap.size w w' := by
  obtain ⟨i0, hi, hz0, hz1, hz2⟩ := info_parts u8_info
  go_enter Try.func11, Try.ntmps11
  go_wp2_with (at_builtin; refine wpList_append_src _ rfl (.tmp 4) (.tmp 5) _ rfl w.heap.size 5 i0 Try.underlying26 hi hz0 hz1 hz2 (.slice none 0 0) 0 [] rfl (World.ownsRow_nil _ _ _ _) A m c l rfl h (by omega) (Nat.le_refl _) ?_; intro v w1 h1 h2 h3)
  go_ret
  refine ⟨v, rfl, by simpa using h1, (Below.refl _ _).grown h2 (Nat.le_refl _) (fun k hk => ?_)⟩
  simp [Value.ownBlock] at hk

set_option maxHeartbeats 400000 in
theorem width_any (n : Int) (w : World) : Calls Try.prog 75 #[.int .i64 n] w fun e w' => e = .returned (.bool (isW n)) ∧ w = w' := by
  by_cases h1 : n = 1
  · subst h1
    go_enter Try.func75, Try.ntmps75
    go_wp2
    go_ret
    exact ⟨rfl, rfl⟩
  by_cases h2 : n = 2
  · subst h2
    go_enter Try.func75, Try.ntmps75
    go_wp2
    go_ret
    exact ⟨rfl, rfl⟩
  by_cases h4 : n = 4
  · subst h4
    go_enter Try.func75, Try.ntmps75
    go_wp2
    go_ret
    exact ⟨rfl, rfl⟩
  have b1 : (n == 1) = false := by simp [h1]
  have b2 : (n == 2) = false := by simp [h2]
  have b4 : (n == 4) = false := by simp [h4]
  have HV := Lib.hid (show isW n = (n == 8) by simp [isW, h1, h2, h4])
  clear h1 h2 h4
  go_enter Try.func75, Try.ntmps75
  go_wp2
  go_ret
  exact ⟨by rw [HV.out]; rfl, rfl⟩

theorem number_any (A : Option Addr) (m c : Nat) (l : List UInt8) (w : World) (h : Src w A m l) (hm : m ≤ 8) :
    Calls Try.prog 41 #[.slice A m c] w fun e w' => e = .returned (.int .u64 (beVal l : Int)) ∧ w = w' := by
  obtain ⟨rfl, hs⟩ := h
  go_enter Try.func41, Try.ntmps41
  go_wp2
  go_loop [3, 4] (fun t k => ∃ j : Nat, j ≤ l.length ∧ k = .int .i64 (j : Int) ∧ t = .int .u64 (beVal (l.take j) : Int)) (fun _ k => l.length - (intOf k).toNat)
  case atStart => exact ⟨0, Nat.zero_le _, rfl, rfl⟩
  case round =>
    obtain ⟨j, hj, rfl, rfl⟩ := hrel
    by_cases hlt : j < l.length
    · obtain ⟨b, o, rfl, hc⟩ := hs (by omega)
      have hcj := hc j hlt
      have hv := beVal_lt (l.take j)
      have hb := l[j].toNat_lt
      have HS := Lib.hid (show beVal (l.take (j + 1)) = 256 * beVal (l.take j) + l[j].toNat by rw [List.take_succ_eq_append_getElem hlt, beVal_snoc])
      have hv' : beVal (l.take j) < 72057594037927936 := by
        refine Nat.lt_of_lt_of_le hv ?_
        rw [show (72057594037927936 : Nat) = 2 ^ 56 from rfl]
        exact Nat.pow_le_pow_right (by decide) (by rw [List.length_take]; omega)
      clear hv
      generalize beVal (l.take j) = t at *
      go_wp2
      refine ⟨⟨j + 1, by omega, by go_num, ?_⟩, by simp [intOf]; omega⟩
      rw [HS.out]
      simp only [Value.int.injEq, true_and]
      omega
    · go_wp2
      go_ret
      have e : l.take j = l := List.take_of_length_le (by omega)
      rw [e]
      exact ⟨rfl, rfl⟩

section
variable {w w' : World} {S T : Nat → Prop} {r : Nat} {st : Option (List UInt8)}
theorem takeSt_w {st : Option (List UInt8)} {n : Int} (hn : isW n = true) : (takeSt st n).2.length ≤ 8 := by
  cases st with
  | none => simp [takeSt]
  | some l =>
    simp only [takeSt]
    split
    · simp [isW] at hn; simp; omega
    · simp

theorem takeSt_neg (st : Option (List UInt8)) : takeSt st (-1) = (none, []) := by
  cases st with
  | none => rfl
  | some l => simp [takeSt]

end

end Go.Proofs.Ytnpjldolppikfaa
