/- A number's bytes, read as a number, are that number. -/
import Derived.Test.YtnpjldolppikfaaBytes
import Derived.Test.YtnpjldolppikfaaGet
namespace Go.Proofs.Ytnpjldolppikfaa
open Go.RowKit

theorem beVal_append_one (l : List UInt8) (x : UInt8) : beVal (x :: l) = x.toNat * 256 ^ l.length + beVal l := by
  rw [← List.reverse_reverse l]
  generalize l.reverse = m
  induction m with
  | nil => simp [beVal]
  | cons b m ih =>
    rw [List.reverse_cons, ← List.cons_append, beVal_snoc, beVal_snoc, ih, List.length_append, List.length_singleton, Nat.pow_succ]
    rw [Nat.mul_add]
    have : 256 * (x.toNat * 256 ^ m.reverse.length) = x.toNat * (256 ^ m.reverse.length * 256) := by rw [Nat.mul_comm 256, Nat.mul_assoc]
    omega

theorem beVal_beBytes (k : Nat) : ∀ x, x < 2 ^ (8 * k) → beVal (beBytes k x) = x := by
  induction k with
  | zero => intro x hx; simp at hx; subst hx; rfl
  | succ k ih =>
    intro x hx
    have hp : 0 < 2 ^ (8 * k) := Nat.two_pow_pos _
    have hi := ih (x % 2 ^ (8 * k)) (Nat.mod_lt _ hp)
    rw [beBytes_mod k x k (Nat.le_refl _)] at hi
    rw [beBytes_succ, beVal_append_one, hi, beBytes_length, UInt8.toNat_ofNat', Nat.mod_eq_of_lt (div_lt_256 hx)]
    rw [show (256 : Nat) ^ k = 2 ^ (8 * k) from by rw [Nat.pow_mul]]
    rw [Nat.mul_comm]
    exact Nat.div_add_mod x _

end Go.Proofs.Ytnpjldolppikfaa
