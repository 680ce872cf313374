/- A C-state is read from its bytes, and bytes from what is read of them: plain facts. -/
import Derived.Test.YtnpjldolppikfaaCDecR
import Derived.Test.YtnpjldolppikfaaCEncR
namespace Go.Proofs.Ytnpjldolppikfaa
open Go.RowKit

theorem beBytes_beVal : ∀ l : List UInt8, beBytes l.length (beVal l) = l
  | [] => rfl
  | x :: l => by
    have h := beVal_lt l
    have e : (256 : Nat) ^ l.length = 2 ^ (8 * l.length) := by rw [Nat.pow_mul]
    have hp : 0 < 2 ^ (8 * l.length) := Nat.two_pow_pos _
    rw [List.length_cons, beBytes_succ, beVal_append_one, e]
    have e1 : (x.toNat * 2 ^ (8 * l.length) + beVal l) / 2 ^ (8 * l.length) = x.toNat := by
      rw [Nat.mul_comm, Nat.mul_add_div hp, Nat.div_eq_of_lt h, Nat.add_zero]
    have e2 : (x.toNat * 2 ^ (8 * l.length) + beVal l) % 2 ^ (8 * l.length) = beVal l := by
      rw [Nat.mul_comm, Nat.mul_add_mod, Nat.mod_eq_of_lt h]
    rw [e1, ← beBytes_mod l.length _ l.length (Nat.le_refl _), e2, beBytes_beVal l]
    simp

theorem encL_parts (R S M G : Nat) : encL R S M G = beBytes 4 R ++ (beBytes 1 S ++ (beBytes 1 M ++ beBytes 2 G)) := by simp [encL]

theorem getSt_front {k x : Nat} (rest : List UInt8) (hk : isW (k : Int) = true) (hx : x < 2 ^ (8 * k)) : getSt (some (beBytes k x ++ rest)) (k : Int) = (some rest, x) := by
  have hl := beBytes_length k x
  rw [getSt_take _ k hk (by simp [hl])]
  rw [List.drop_left' hl, List.take_left' hl, beVal_beBytes k x hx]

section
variable {R S M G : Nat} (hR : R ≤ 2147483647) (hS : S ≤ 15) (hM : M ≤ 7) (hG : G < 65536)
include hR
theorem rd1_enc : rd1 (encL R S M G) = (some (beBytes 1 S ++ (beBytes 1 M ++ beBytes 2 G)), R) := by
  rw [encL_parts]
  exact getSt_front (k := 4) _ (by decide) (by omega)
include hS
theorem rd2_enc : rd2 (encL R S M G) = (some (beBytes 1 M ++ beBytes 2 G), S) := by
  rw [rd2, rd1_enc hR]
  exact getSt_front (k := 1) _ (by decide) (by omega)
include hM
theorem rd3_enc : rd3 (encL R S M G) = (some (beBytes 2 G), M) := by
  rw [rd3, rd2_enc hR hS]
  exact getSt_front (k := 1) _ (by decide) (by omega)
include hG
theorem rd4_enc : rd4 (encL R S M G) = (some [], G) := by
  rw [rd4, rd3_enc hR hS hM, show beBytes 2 G = beBytes 2 G ++ [] from (List.append_nil _).symm]
  exact getSt_front (k := 2) _ (by decide) (by omega)
theorem decT_enc : decT (encL R S M G) = .tuple #[.agg #[.int .i64 (R : Int), .int .i64 (S : Int), .int .i64 (M : Int), .int .u16 (G : Int)], .int .i64 0] := by
  rw [decT_yes (by rw [decB, rd4_enc hR hS hM hG, rd3_enc hR hS hM, rd2_enc hR hS, rd1_enc hR]; simp only [isDone, List.isEmpty_nil, Bool.true_and]; exact okC_mk (by omega)), rd4_enc hR hS hM hG, rd3_enc hR hS hM, rd2_enc hR hS, rd1_enc hR]
end

theorem enc_take (R S M G G' : Nat) : (encL R S M G).take 6 = (encL R S M G').take 6 := by
  have h : ∀ x, (encL R S M x).take 6 = beBytes 4 R ++ beBytes 1 S ++ beBytes 1 M := fun x => by
    unfold encL
    exact List.take_left' (by simp [beBytes_length])
  rw [h, h]
theorem enc_inj {R S M G G' : Nat} (hG : G < 65536) (hG' : G' < 65536) (h : encL R S M G = encL R S M G') : G = G' := by
  unfold encL at h
  have h2 := List.append_cancel_left h
  have h3 := congrArg beVal h2
  rwa [beVal_beBytes 2 G (by omega), beVal_beBytes 2 G' (by omega)] at h3

theorem split_eight (x0 x1 x2 x3 x4 x5 x6 x7 : UInt8) : encL (beVal [x0, x1, x2, x3]) x4.toNat x5.toNat (beVal [x6, x7]) = [x0, x1, x2, x3, x4, x5, x6, x7] := by
  have h4 : beBytes 4 (beVal [x0, x1, x2, x3]) = [x0, x1, x2, x3] := beBytes_beVal [x0, x1, x2, x3]
  have h2 : beBytes 2 (beVal [x6, x7]) = [x6, x7] := beBytes_beVal [x6, x7]
  rw [encL_parts, h4, h2, be_one, be_one]
  simp

/-- What is read has just these bytes. -/
theorem dec_back {l : List UInt8} (h : decB l = true) : encV (decR l) (decS l) (decM l) (decG l) = l ∧ chkC (decR l) (decS l) (decM l) = 0 ∧ decG l < 65536 := by
  have hl := dec_len h
  match l, hl, h with
  | [x0, x1, x2, x3, x4, x5, x6, x7], _, h =>
    have hk : okC (beVal [x0, x1, x2, x3] : Int) (x4.toNat : Int) (x5.toNat : Int) = true := by rw [← decB_eight]; exact h
    have eR : decR [x0, x1, x2, x3, x4, x5, x6, x7] = beVal [x0, x1, x2, x3] := by rw [decR, if_pos h, rd1_eight]
    have eS : decS [x0, x1, x2, x3, x4, x5, x6, x7] = x4.toNat := by rw [decS, if_pos h, rd2_eight]
    have eM : decM [x0, x1, x2, x3, x4, x5, x6, x7] = x5.toNat := by rw [decM, if_pos h, rd3_eight]
    have eG : decG [x0, x1, x2, x3, x4, x5, x6, x7] = beVal [x6, x7] := by rw [decG, if_pos h, rd4_eight]
    rw [eR, eS, eM, eG]
    refine ⟨?_, by simp [chkC, hk], by have := beVal_lt [x6, x7]; simpa using this⟩
    rw [encV, if_pos hk]
    exact split_eight x0 x1 x2 x3 x4 x5 x6 x7

end Go.Proofs.Ytnpjldolppikfaa
