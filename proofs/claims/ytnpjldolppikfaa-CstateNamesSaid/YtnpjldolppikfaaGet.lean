/- Get of an In, by a contract. -/
import Derived.Test.YtnpjldolppikfaaIn
import Derived.Laws.BitsAllLaws
namespace Go.Proofs.Ytnpjldolppikfaa
open Go.RowKit

/-- Bytes, the highest first, as a number. -/
def beVal (l : List UInt8) : Nat := l.foldl (fun a b => 256 * a + b.toNat) 0
theorem beVal_snoc (l : List UInt8) (b : UInt8) : beVal (l ++ [b]) = 256 * beVal l + b.toNat := by simp [beVal]
theorem beVal_lt (l : List UInt8) : beVal l < 2 ^ (8 * l.length) := by
  rw [← List.reverse_reverse l]
  generalize l.reverse = m
  induction m with
  | nil => simp [beVal]
  | cons b m ih =>
    rw [List.reverse_cons, beVal_snoc, List.length_append, List.length_singleton, Nat.mul_add, Nat.pow_add]
    have := b.toNat_lt
    omega

theorem or_step (v : Nat) (x : UInt8) (hv : v < 72057594037927936) : bits .or .u64 (IntKind.u64.wrap ((v : Int) * 256)) (x.toNat : Int) = ((256 * v + x.toNat : Nat) : Int) := by
  have hx := x.toNat_lt
  have e1 : IntKind.u64.wrap ((v : Int) * 256) = ((v * 256 : Nat) : Int) := by rw [IntKind.wrap_u64]; omega
  rw [e1, u64_or_nat _ _ (by omega) (by omega)]
  have h := Nat.shiftLeft_add_eq_or_of_lt (i := 8) (b := x.toNat) hx v
  rw [Nat.shiftLeft_eq, show (2 : Nat) ^ 8 = 256 from rfl] at h
  rw [← h, Nat.mul_comm]

/-- What Get makes of an In: the In behind it, and the number. -/
def getSt (st : Option (List UInt8)) (n : Int) : Option (List UInt8) × Nat := if isW n then ((takeSt st n).1, beVal (takeSt st n).2) else (none, 0)

def Got (w : World) (S : Nat → Prop) (i : Nat) (r : Option (List UInt8) × Nat) (e : Ending) (w' : World) : Prop :=
  e = .returned (.int .u64 (r.2 : Int)) ∧ InAt w' S i r.1 ∧ Kept (fun k => k = i) w w'

set_option maxHeartbeats 1000000 in
theorem get_yes (w : World) (S : Nat → Prop) (i : Nat) (st : Option (List UInt8)) (n : Int) (h : InAt w S i st) (hl : (st.getD []).length ≤ 549755813888) (hn : isW n = true) :
    Calls Try.prog 39 #[.pointer (some ⟨i, 0, none⟩), .int .i64 n] w (Got w S i ((takeSt st n).1, beVal (takeSt st n).2)) := by
  have HN := Lib.hid (next_any n h hl)
  have hlen : (takeSt st n).2.length ≤ 8 := by
    cases st with
    | none => simp [takeSt]
    | some l =>
      simp only [takeSt]
      split
      · simp [isW] at hn; simp; omega
      · simp
  generalize takeSt st n = r at *
  obtain ⟨st', l⟩ := r
  simp only at hlen
  go_enter Try.func39, Try.ntmps39
  go_wp2_with (first | (go_at_call 64; refine (isWidth_any _ _).mono ?_; rintro e w' ⟨rfl, rfl⟩) | (go_at_call 66; refine HN.out.mono ?_; rintro e w1 ⟨A, c, rfl, hs, hz, hA, hin, hk⟩))

  go_loop [5, 7, 17] (fun t _ k => ∃ j : Nat, j ≤ l.length ∧ k = .int .i64 (j : Int) ∧ t = .int .u64 (beVal (l.take j) : Int)) (fun _ _ k => l.length - (intOf k).toNat)
  case atStart => exact ⟨0, Nat.zero_le _, rfl, rfl⟩
  case round =>
    obtain ⟨j, hj, rfl, rfl⟩ := hrel
    by_cases hlt : j < l.length
    · obtain ⟨b, o, rfl, hc⟩ := hs.2 (by omega)
      have hcj := hc j hlt
      have hv := beVal_lt (l.take j)
      have hb := l[j].toNat_lt
      have hstep : beVal (l.take (j + 1)) = 256 * beVal (l.take j) + l[j].toNat := by rw [List.take_succ_eq_append_getElem hlt, beVal_snoc]
      have hv' : beVal (l.take j) < 72057594037927936 := by
        refine Nat.lt_of_lt_of_le hv ?_
        rw [show (72057594037927936 : Nat) = 2 ^ 56 from rfl]
        exact Nat.pow_le_pow_right (by decide) (by rw [List.length_take]; omega)
      have HO := Lib.hid (or_step (beVal (l.take j)) l[j] hv')
      have HS := Lib.hid hstep
      clear hstep hv hv'
      go_wp2
      refine ⟨⟨j + 1, by omega, by go_num, ?_⟩, by simp [intOf]; omega⟩
      rw [HS.out, HO.out]
    · go_wp2
      go_ret
      have e : l.take j = l := List.take_of_length_le (by omega)
      rw [e]
      exact ⟨rfl, hin, hk⟩

theorem get_no (w : World) (S : Nat → Prop) (i : Nat) (st : Option (List UInt8)) (n : Int) (h : InAt w S i st) (hn : isW n = false) :
    Calls Try.prog 39 #[.pointer (some ⟨i, 0, none⟩), .int .i64 n] w (Got w S i (none, 0)) := by
  have HP := Lib.hid (inSpoil_any h)
  go_enter Try.func39, Try.ntmps39
  go_wp2_with (first
    | (go_at_call 64; refine (isWidth_any _ _).mono ?_; rintro e w' ⟨rfl, rfl⟩)
    | (go_at_call 65; refine HP.out.mono ?_; rintro e w1 ⟨rfl, h1, k1⟩)
    | (go_at_call 66; refine (next_bad n h1).mono ?_; rintro e w2 ⟨A, c, rfl, hs, hz, hA, hin, hk⟩))
  go_loop [5, 7, 17] (fun t _ k => t = .int .u64 0 ∧ k = .int .i64 0) (fun _ _ k => 1 - (intOf k).toNat)
  case atStart => exact ⟨rfl, rfl⟩
  case round =>
    obtain ⟨rfl, rfl⟩ := hrel
    go_wp2
    go_ret
    exact ⟨rfl, hin, k1.trans hk (fun _ _ h => h)⟩

theorem get_any (w : World) (S : Nat → Prop) (i : Nat) (st : Option (List UInt8)) (n : Int) (h : InAt w S i st) (hl : (st.getD []).length ≤ 549755813888) :
    Calls Try.prog 39 #[.pointer (some ⟨i, 0, none⟩), .int .i64 n] w (Got w S i (getSt st n)) := by
  cases hn : isW n with
  | true => simp only [getSt, hn, if_true]; exact get_yes w S i st n h hl hn
  | false => simp only [getSt, hn]; exact get_no w S i st n h hn

theorem takeSt_take (l : List UInt8) (k : Nat) (h : k ≤ l.length) : takeSt (some l) (k : Int) = (some (l.drop k), l.take k) := by
  simp only [takeSt]
  rw [if_pos ⟨by omega, by omega⟩]
  rfl
theorem takeSt_short (l : List UInt8) (k : Int) (h : (l.length : Int) < k) : takeSt (some l) k = (none, []) := by
  simp only [takeSt]
  rw [if_neg (by omega)]
theorem getSt_take (l : List UInt8) (k : Nat) (hk : isW k = true) (h : k ≤ l.length) : getSt (some l) (k : Int) = (some (l.drop k), beVal (l.take k)) := by
  unfold getSt
  rw [if_pos hk, takeSt_take l k h]
theorem getSt_short (l : List UInt8) (k : Int) (h : (l.length : Int) < k) : getSt (some l) k = (none, 0) := by
  unfold getSt
  rw [takeSt_short l k h]
  split <;> rfl
theorem getSt_none (k : Int) : getSt none k = (none, 0) := by
  unfold getSt
  split <;> rfl

end Go.Proofs.Ytnpjldolppikfaa
