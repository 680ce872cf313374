/- The slot so many slots ago: the program's, by a contract. -/
import Derived.Test.YtnpjldolppikfaaCStep
import Derived.IntWalk
namespace Go.Proofs.Ytnpjldolppikfaa
open Go.RowKit

def agoB (r s m n k : Int) : Bool := amongB r s m n && decide (0 ≤ k) && decide (k ≤ r * n + s)
def agoR (r s m n k : Int) : Int := if agoB r s m n k then (r * n + s - k) / n else 0
def agoS (r s m n k : Int) : Int := if agoB r s m n k then (r * n + s - k) % n else 0
def agoE (r s m n k : Int) : Int := if agoB r s m n k then 0 else 40
def AgoAt (r s m n k : Int) (w : World) (e : Ending) (w' : World) : Prop := e = .returned (.tuple #[.int .i64 (agoR r s m n k), .int .i64 (agoS r s m n k), .int .i64 (agoE r s m n k)]) ∧ Below w.heap.size w w'
theorem AgoAt.no {r s m n k : Int} (h : agoB r s m n k = false) {w w' : World} (hb : Below w.heap.size w w') : AgoAt r s m n k w (.returned (.tuple #[.int .i64 0, .int .i64 0, .int .i64 40])) w' := by
  refine ⟨?_, hb⟩
  simp [agoR, agoS, agoE, h]
theorem AgoAt.yes {r s m n k : Int} (h : agoB r s m n k = true) {w w' : World} (hb : Below w.heap.size w w') {a b : Int} (ha : a = (r * n + s - k) / n) (hs : b = (r * n + s - k) % n) : AgoAt r s m n k w (.returned (.tuple #[.int .i64 a, .int .i64 b, .int .i64 0])) w' := by
  refine ⟨?_, hb⟩
  simp [agoR, agoS, agoE, h, ha, hs]
theorem agoB_no1 {r s m n k : Int} (h : amongB r s m n = false) : agoB r s m n k = false := by simp [agoB, h]
theorem agoB_no2 {r s m n k : Int} (h : k < 0) : agoB r s m n k = false := by simp [agoB]; intro _ _; omega
theorem agoB_no3 {r s m n k : Int} (h : r * n + s < k) : agoB r s m n k = false := by simp [agoB]; intro _ _; omega
theorem agoB_yes {r s m n k : Int} (h : amongB r s m n = true) (h1 : 0 ≤ k) (h2 : k ≤ r * n + s) : agoB r s m n k = true := by simp [agoB, h, h1, h2]
theorem prod_bd {r n : Int} (h1 : 0 ≤ r) (h2 : r ≤ 2147483647) (h3 : 1 ≤ n) (h4 : n ≤ 16) : 0 ≤ r * n ∧ r * n ≤ 34359738352 := by
  refine ⟨Int.mul_nonneg h1 (by omega), ?_⟩
  have e1 : r * n ≤ 2147483647 * n := Int.mul_le_mul_of_nonneg_right h2 (by omega)
  omega

set_option maxHeartbeats 1000000 in
theorem ago_no1 (r s m v n k : Int) (w : World) (h : amongB r s m n = false) : Calls Try.prog 20 #[.agg #[.int .i64 r, .int .i64 s, .int .i64 m, .int .u16 v], .int .i64 n, .int .i64 k] w (AgoAt r s m n k w) := by
  have hb : Below w.heap.size w (w.alloc (.cells #[.int .i64 r, .int .i64 s, .int .i64 m, .int .u16 v] 25)) := (Below.refl _ _).alloc (Nat.le_refl _) _
  have HA := Lib.hid (amongE_no h)
  have HB := Lib.hid (agoB_no1 (k := k) h)
  clear h
  go_enter Try.func20, Try.ntmps20
  go_wp2_with (go_at_call 43; refine (among_any _ _ _ _ _ _).mono ?_; rintro e w' ⟨rfl, hb2⟩; rw [HA.out]; have hb3 := below_then hb2 hb)
  go_ret3
  exact AgoAt.no HB.out hb3

set_option maxHeartbeats 1000000 in
theorem ago_yes (r s m v n k : Int) (w : World) (h : amongB r s m n = true) : Calls Try.prog 20 #[.agg #[.int .i64 r, .int .i64 s, .int .i64 m, .int .u16 v], .int .i64 n, .int .i64 k] w (AgoAt r s m n k w) := by
  have hb : Below w.heap.size w (w.alloc (.cells #[.int .i64 r, .int .i64 s, .int .i64 m, .int .u16 v] 25)) := (Below.refl _ _).alloc (Nat.le_refl _) _
  have hW1 := Whole.new w 25 #[.int .i64 r, .int .i64 s, .int .i64 m, .int .u16 v]
  obtain ⟨⟨n1, n2⟩, s3, hk⟩ := amongB_yes h
  obtain ⟨⟨r1, r2⟩, ⟨s1, s2⟩, ⟨m1, m2⟩⟩ := okC_yes hk
  obtain ⟨p1, p2⟩ := prod_bd r1 r2 n1 n2
  have HA := Lib.hid (amongE_yes h)
  clear hk
  by_cases k1 : k < 0
  · have HB := Lib.hid (agoB_no2 (r := r) (s := s) (m := m) (n := n) k1)
    clear h
    go_enter Try.func20, Try.ntmps20
    go_wp2_with (go_at_call 43; refine (among_any _ _ _ _ _ _).mono ?_; rintro e w' ⟨rfl, hb2⟩; rw [HA.out]; have hb3 := below_then hb2 hb; obtain ⟨c0, c1, c2, c3, cf⟩ := (whole_later hb2 hW1).four)
    go_ret3
    exact AgoAt.no HB.out hb3
  by_cases k2 : r * n + s < k
  · have HB := Lib.hid (agoB_no3 (m := m) k2)
    have d1 : decide (k < 0) = false := decide_eq_false k1
    clear h
    go_enter Try.func20, Try.ntmps20
    go_wp2_with (go_at_call 43; refine (among_any _ _ _ _ _ _).mono ?_; rintro e w' ⟨rfl, hb2⟩; rw [HA.out]; have hb3 := below_then hb2 hb; obtain ⟨c0, c1, c2, c3, cf⟩ := (whole_later hb2 hW1).four)
    go_ret3
    exact AgoAt.no HB.out hb3
  · have HB := Lib.hid (agoB_yes h (by omega) (by omega : k ≤ r * n + s))
    have d1 : decide (k < 0) = false := decide_eq_false k1
    have d2 : decide (r * n + s < k) = false := decide_eq_false k2
    clear h
    go_enter Try.func20, Try.ntmps20
    go_wp2_with (go_at_call 43; refine (among_any _ _ _ _ _ _).mono ?_; rintro e w' ⟨rfl, hb2⟩; rw [HA.out]; have hb3 := below_then hb2 hb; obtain ⟨c0, c1, c2, c3, cf⟩ := (whole_later hb2 hW1).four)
    go_quiet (fail)
    go_wp2
    go_ret3
    exact AgoAt.yes HB.out (below_drewN hb3 _) rfl rfl

end Go.Proofs.Ytnpjldolppikfaa
