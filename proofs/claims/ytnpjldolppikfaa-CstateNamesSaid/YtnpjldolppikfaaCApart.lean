/- In whom two C-states differ: the program's and the document's, each by a contract. -/
import Derived.Test.YtnpjldolppikfaaCStep
import Derived.Test.YtnpjldolppikfaaGRef3
import Derived.BigQuiet
import Derived.Deep.QuietTactic

namespace Go.Proofs.Ytnpjldolppikfaa
open Go.RowKit

def apG (a b : Nat) : Nat := lessG a b ||| lessG b a
def sameC (r s m r' s' m' : Int) : Bool := decide (r = r') && decide (s = s') && decide (m = m')

theorem apG_lt {a b : Nat} (ha : a < 65536) (hb : b < 65536) : apG a b < 65536 := or_lt (lessG_lt ha) (lessG_lt hb)
theorem less_apart {a b : Nat} (ha : a < 65536) (hb : b < 65536) : lessG a b &&& lessG b a = 0 := by
  refine bits_ext (Nat.lt_of_le_of_lt Nat.and_le_left (lessG_lt ha)) (by decide) fun i hi => ?_
  rw [Nat.testBit_and, bit_less hb hi, bit_less ha hi, Nat.zero_testBit]
  cases a.testBit i <;> cases b.testBit i <;> rfl
theorem sum_or {x y : Nat} (hx : x < 65536) (hy : y < 65536) (h : x &&& y = 0) : x + y = x ||| y := by
  have e := BitVec.add_eq_or_of_and_eq_zero (BitVec.ofNat 17 x) (BitVec.ofNat 17 y) (by
    apply BitVec.eq_of_toNat_eq
    simp only [BitVec.toNat_and, BitVec.toNat_ofNat]
    rw [Nat.mod_eq_of_lt (show x < 2 ^ 17 by omega), Nat.mod_eq_of_lt (show y < 2 ^ 17 by omega), h])
  have e2 := congrArg BitVec.toNat e
  have hor : x ||| y < 65536 := or_lt hx hy
  simp only [BitVec.toNat_add, BitVec.toNat_or, BitVec.toNat_ofNat] at e2
  rw [Nat.mod_eq_of_lt (show x < 2 ^ 17 by omega), Nat.mod_eq_of_lt (show y < 2 ^ 17 by omega)] at e2
  omega
theorem ap_sum {a b : Nat} (ha : a < 65536) (hb : b < 65536) : lessG a b + lessG b a = apG a b := sum_or (lessG_lt ha) (lessG_lt hb) (less_apart ha hb)


def ApartAt (g g' : Nat) (b : Bool) (w : World) (e : Ending) (w' : World) : Prop := e = .returned (.tuple #[.int .u16 ((apG g g' : Nat) : Int), .bool b]) ∧ Below w.heap.size w w'


set_option maxHeartbeats 1000000 in
theorem apart_no1 (r s m r' s' m' : Int) (g g' : Nat) (w : World) (hg : g < 65536) (hg' : g' < 65536) (h : ¬ r = r') : Calls Try.prog 22 #[.agg #[.int .i64 r, .int .i64 s, .int .i64 m, .int .u16 (g : Int)], .agg #[.int .i64 r', .int .i64 s', .int .i64 m', .int .u16 (g' : Int)]] w (ApartAt g g' false w) := by
  have L1 := Lib.hid (fun W => less_any g g' W hg hg')
  have L2 := Lib.hid (fun W => less_any g' g W hg' hg)
  have hor : bits .or .u16 ((lessG g g' : Nat) : Int) ((lessG g' g : Nat) : Int) = ((apG g g' : Nat) : Int) := u16_or_nat _ _ (lessG_lt hg) (lessG_lt hg')
  have hb : Below w.heap.size w ((w.alloc (.cells #[.int .i64 r, .int .i64 s, .int .i64 m, .int .u16 (g : Int)] 25)).alloc (.cells #[.int .i64 r', .int .i64 s', .int .i64 m', .int .u16 (g' : Int)] 25)) := ((Below.refl _ _).alloc (Nat.le_refl _) _).alloc (by simp) _
  clear hg hg'
  have d : (r == r') = false := by simp [h]
  clear h
  go_enter Try.func22, Try.ntmps22
  go_wp2_with fail
  go_quiet (first
    | (go_at_call 45; exact Calls.quiet_of_same ((L1.out _).mono fun _ _ h => ⟨h.1, h.2.symm⟩))
    | (go_at_call 45; exact Calls.quiet_of_same ((L2.out _).mono fun _ _ h => ⟨h.1, h.2.symm⟩)))
  go_wp2_with fail
  go_quiet (fail)
  go_wp2
  go_ret2
  exact ⟨rfl, below_drewN ((below_drewN hb _).setCell (p := ⟨w.heap.size, 3, none⟩) (Nat.le_refl _) _) _⟩

set_option maxHeartbeats 1000000 in
theorem apart_no2 (r s m s' m' : Int) (g g' : Nat) (w : World) (hg : g < 65536) (hg' : g' < 65536) (h : ¬ s = s') : Calls Try.prog 22 #[.agg #[.int .i64 r, .int .i64 s, .int .i64 m, .int .u16 (g : Int)], .agg #[.int .i64 r, .int .i64 s', .int .i64 m', .int .u16 (g' : Int)]] w (ApartAt g g' false w) := by
  have L1 := Lib.hid (fun W => less_any g g' W hg hg')
  have L2 := Lib.hid (fun W => less_any g' g W hg' hg)
  have hor : bits .or .u16 ((lessG g g' : Nat) : Int) ((lessG g' g : Nat) : Int) = ((apG g g' : Nat) : Int) := u16_or_nat _ _ (lessG_lt hg) (lessG_lt hg')
  have hb : Below w.heap.size w ((w.alloc (.cells #[.int .i64 r, .int .i64 s, .int .i64 m, .int .u16 (g : Int)] 25)).alloc (.cells #[.int .i64 r, .int .i64 s', .int .i64 m', .int .u16 (g' : Int)] 25)) := ((Below.refl _ _).alloc (Nat.le_refl _) _).alloc (by simp) _
  clear hg hg'
  have d : (s == s') = false := by simp [h]
  clear h
  go_enter Try.func22, Try.ntmps22
  go_wp2_with fail
  go_quiet (first
    | (go_at_call 45; exact Calls.quiet_of_same ((L1.out _).mono fun _ _ h => ⟨h.1, h.2.symm⟩))
    | (go_at_call 45; exact Calls.quiet_of_same ((L2.out _).mono fun _ _ h => ⟨h.1, h.2.symm⟩)))
  go_wp2_with fail
  go_quiet (fail)
  go_wp2
  go_ret2
  exact ⟨rfl, below_drewN ((below_drewN hb _).setCell (p := ⟨w.heap.size, 3, none⟩) (Nat.le_refl _) _) _⟩

set_option maxHeartbeats 1000000 in
theorem apart_no3 (r s m m' : Int) (g g' : Nat) (w : World) (hg : g < 65536) (hg' : g' < 65536) (h : ¬ m = m') : Calls Try.prog 22 #[.agg #[.int .i64 r, .int .i64 s, .int .i64 m, .int .u16 (g : Int)], .agg #[.int .i64 r, .int .i64 s, .int .i64 m', .int .u16 (g' : Int)]] w (ApartAt g g' false w) := by
  have L1 := Lib.hid (fun W => less_any g g' W hg hg')
  have L2 := Lib.hid (fun W => less_any g' g W hg' hg)
  have hor : bits .or .u16 ((lessG g g' : Nat) : Int) ((lessG g' g : Nat) : Int) = ((apG g g' : Nat) : Int) := u16_or_nat _ _ (lessG_lt hg) (lessG_lt hg')
  have hb : Below w.heap.size w ((w.alloc (.cells #[.int .i64 r, .int .i64 s, .int .i64 m, .int .u16 (g : Int)] 25)).alloc (.cells #[.int .i64 r, .int .i64 s, .int .i64 m', .int .u16 (g' : Int)] 25)) := ((Below.refl _ _).alloc (Nat.le_refl _) _).alloc (by simp) _
  clear hg hg'
  have d : (m == m') = false := by simp [h]
  clear h
  go_enter Try.func22, Try.ntmps22
  go_wp2_with fail
  go_quiet (first
    | (go_at_call 45; exact Calls.quiet_of_same ((L1.out _).mono fun _ _ h => ⟨h.1, h.2.symm⟩))
    | (go_at_call 45; exact Calls.quiet_of_same ((L2.out _).mono fun _ _ h => ⟨h.1, h.2.symm⟩)))
  go_wp2_with fail
  go_quiet (fail)
  go_wp2
  go_ret2
  exact ⟨rfl, below_drewN ((below_drewN hb _).setCell (p := ⟨w.heap.size, 3, none⟩) (Nat.le_refl _) _) _⟩

set_option maxHeartbeats 1000000 in
theorem apart_yes (r s m : Int) (g g' : Nat) (w : World) (hg : g < 65536) (hg' : g' < 65536)  : Calls Try.prog 22 #[.agg #[.int .i64 r, .int .i64 s, .int .i64 m, .int .u16 (g : Int)], .agg #[.int .i64 r, .int .i64 s, .int .i64 m, .int .u16 (g' : Int)]] w (ApartAt g g' true w) := by
  have L1 := Lib.hid (fun W => less_any g g' W hg hg')
  have L2 := Lib.hid (fun W => less_any g' g W hg' hg)
  have hor : bits .or .u16 ((lessG g g' : Nat) : Int) ((lessG g' g : Nat) : Int) = ((apG g g' : Nat) : Int) := u16_or_nat _ _ (lessG_lt hg) (lessG_lt hg')
  have hb : Below w.heap.size w ((w.alloc (.cells #[.int .i64 r, .int .i64 s, .int .i64 m, .int .u16 (g : Int)] 25)).alloc (.cells #[.int .i64 r, .int .i64 s, .int .i64 m, .int .u16 (g' : Int)] 25)) := ((Below.refl _ _).alloc (Nat.le_refl _) _).alloc (by simp) _
  clear hg hg'
  go_enter Try.func22, Try.ntmps22
  go_wp2_with fail
  go_quiet (first
    | (go_at_call 45; exact Calls.quiet_of_same ((L1.out _).mono fun _ _ h => ⟨h.1, h.2.symm⟩))
    | (go_at_call 45; exact Calls.quiet_of_same ((L2.out _).mono fun _ _ h => ⟨h.1, h.2.symm⟩)))
  go_wp2_with fail
  go_quiet (fail)
  go_wp2
  go_ret2
  exact ⟨rfl, below_drewN ((below_drewN hb _).setCell (p := ⟨w.heap.size, 3, none⟩) (Nat.le_refl _) _) _⟩

theorem apart_any (r s m r' s' m' : Int) (g g' : Nat) (w : World) (hg : g < 65536) (hg' : g' < 65536) : Calls Try.prog 22 #[.agg #[.int .i64 r, .int .i64 s, .int .i64 m, .int .u16 (g : Int)], .agg #[.int .i64 r', .int .i64 s', .int .i64 m', .int .u16 (g' : Int)]] w (ApartAt g g' (sameC r s m r' s' m') w) := by
  by_cases h1 : r = r'
  · subst h1
    by_cases h2 : s = s'
    · subst h2
      by_cases h3 : m = m'
      · subst h3
        rw [show sameC r s m r s m = true from by simp [sameC]]
        exact apart_yes r s m g g' w hg hg'
      · rw [show sameC r s m r s m' = false from by simp [sameC, h3]]
        exact apart_no3 r s m m' g g' w hg hg' h3
    · rw [show sameC r s m r s' m' = false from by simp [sameC, h2]]
      exact apart_no2 r s m s' m' g g' w hg hg' h2
  · rw [show sameC r s m r' s' m' = false from by simp [sameC, h1]]
    exact apart_no1 r s m r' s' m' g g' w hg hg' h1

end Go.Proofs.Ytnpjldolppikfaa
