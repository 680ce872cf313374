/- sort.Search of a question that turns once, by a contract. No condition. -/
import Derived.Test.YtmplidgafdobkaaUHeard
namespace Go.Proofs.Ytmplidgafdobkaa
open Go.RowKit Go.Shelf

/-- r is the first of n for which it is so; n, if there is none. -/
structure FirstOf (p : Nat → Bool) (n r : Nat) : Prop where
  le : r ≤ n
  no : ∀ j, j < r → p j = false
  yes : r < n → p r = true
/-- A function value that answers p i for each i below n, in whatever later world. -/
def Asks (P : Program) (w : World) (k : FuncId) (cap : Array Value) (p : Nat → Bool) (n : Nat) : Prop :=
  ∀ W, Below w.heap.size w W → ∀ i, i < n → Calls P k (#[.int .i64 (i : Int)] ++ cap) W fun e W' => e = .returned (.bool (p i)) ∧ Below W.heap.size W W'

set_option maxRecDepth 100000 in
set_option maxHeartbeats 4000000 in
theorem search_any (w : World) (n : Nat) (k : FuncId) (cap : Array Value) (p : Nat → Bool) (hn : n ≤ 1000000) (hk : ∀ args W, (callFunc k args).run Try.prog W = .ok (.enter k args) W) (ha : Asks Try.prog w k cap p n) (hm : ∀ i j, i ≤ j → j < n → p i = true → p j = true) :
    Calls Try.prog 54 #[.int .i64 (n : Int), .func (.func k) #[] cap] w fun e w' => ∃ r : Nat, e = .returned (.int .i64 (r : Int)) ∧ FirstOf p n r ∧ Below w.heap.size w w' := by
  have HA := Lib.hid ha
  have HM := Lib.hid hm
  clear ha hm
  go_enter Try.func54, Try.ntmps54
  go_wp2
  go_loopw [5, 6] (fun iv jv wr => ∃ i j : Nat, i ≤ j ∧ j ≤ n ∧ iv = .int .i64 (i : Int) ∧ jv = .int .i64 (j : Int) ∧ Below w.heap.size w wr ∧ (∀ q, q < i → p q = false) ∧ (∀ q, j ≤ q → q < n → p q = true)) (fun iv jv _ => (intOf jv).toNat - (intOf iv).toNat)
  case atStart => exact ⟨0, n, by omega, by omega, rfl, rfl, Below.refl _ _, fun q h => absurd h (by omega), fun q h1 h2 => absurd h1 (by omega)⟩
  case round =>
    obtain ⟨i, j, hij, hjn, rfl, rfl, hb, h1, h2⟩ := hrel
    have HB := Lib.hid hb
    have H1 := Lib.hid h1
    have H2 := Lib.hid h2
    clear hb h1 h2
    by_cases hlt : i < j
    · obtain ⟨h, hh⟩ : ∃ h : Nat, h = (i + j) / 2 := ⟨_, rfl⟩
      have hz : ((i : Int) + (j : Int)) / 2 = (h : Int) := by omega
      have q1 : i ≤ h := by omega
      have q2 : h < j := by omega
      have hc := HA.out wr HB.out h (by omega)
      obtain ⟨ans, hans⟩ : ∃ ans, ans = p h := ⟨_, rfl⟩
      rw [← hans] at hc
      have HC := Lib.hid hc
      have HAN := Lib.hid hans
      clear hc hans hh
      go_wp2_with fail
      refine HC.out.mono ?_
      rintro e W2 ⟨rfl, hb2⟩
      have HB2 := Lib.hid (k_then hb2 HB.out)
      clear hb2 HC
      cases ans
      · have H3 := Lib.hid (show ∀ q, q < h + 1 → p q = false from fun q hq => by
          rcases Nat.lt_or_ge q i with g | g
          · exact H1.out q g
          · cases hpq : p q
            · rfl
            · have := HM.out q h (by omega) (by omega) hpq
              rw [← HAN.out] at this
              cases this)
        go_wp2
        go_roundw
        case rel => exact ⟨h + 1, j, by omega, by omega, by go_num, rfl, HB2.out, H3.out, H2.out⟩
        case measure => simp [intOf]; omega
      · have H3 := Lib.hid (show ∀ q, h ≤ q → q < n → p q = true from fun q g1 g2 => HM.out h q g1 g2 HAN.out.symm)
        go_wp2
        go_roundw
        case rel => exact ⟨i, h, by omega, by omega, rfl, rfl, HB2.out, H1.out, H3.out⟩
        case measure => simp [intOf]; omega
    · obtain rfl : i = j := by omega
      go_wp2
      go_ret
      exact ⟨i, rfl, ⟨hjn, H1.out, fun g => H2.out i (by omega) g⟩, HB.out⟩
end Go.Proofs.Ytmplidgafdobkaa
