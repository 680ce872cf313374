/- The sendings that came from a first time to a last one: the iterator, by contracts. No condition. -/
import Derived.Test.YtmplidgafdobkaaUSearch
import Derived.Test.YtmplidgafdobkaaTRange
namespace Go.Proofs.Ytmplidgafdobkaa
open Go.RowKit Go.Shelf
attribute [local go_sem] Oper.semAt_some

/-- The iterator's three variables, and the bus. -/
structure WinAt (W : World) (B3 B4 B5 : Nat) (first last : Int) (S : Nat → Prop) (b l : Nat) (A : Option Addr) (c : Nat) (As : List SdA) (g : Lg) : Prop where
  v3 : W.cell? ⟨B3, 0, none⟩ = some (.pointer (some ⟨l, 0, none⟩))
  v4 : W.cell? ⟨B4, 0, none⟩ = some (.int .i64 first)
  v5 : W.cell? ⟨B5, 0, none⟩ = some (.int .i64 last)
  bus : BusAt W S b l (.slice A As.length c) As g
theorem WinAt.later {W W' : World} {B3 B4 B5 : Nat} {first last : Int} {S : Nat → Prop} {b l : Nat} {A : Option Addr} {c : Nat} {As : List SdA} {g : Lg} (h : WinAt W B3 B4 B5 first last S b l A c As g) (hb : Below W.heap.size W W') : WinAt W' B3 B4 B5 first last S b l A c As g :=
  ⟨k_cell hb h.v3, k_cell hb h.v4, k_cell hb h.v5, h.bus.later hb⟩

section
variable {W : World} {B3 B4 B5 : Nat} {first last : Int} {S : Nat → Prop} {b l : Nat} {A : Option Addr} {c : Nat} {As : List SdA} {g : Lg}
set_option maxRecDepth 100000 in
set_option maxHeartbeats 4000000 in
theorem came_any (h : WinAt W B3 B4 B5 first last S b l A c As g) (i : Nat) (hi : i < As.length) :
    Calls Try.prog 52 #[.int .i64 (i : Int), .pointer (some ⟨B3, 0, none⟩), .pointer (some ⟨B4, 0, none⟩)] W fun e W' => e = .returned (.bool (decide (first ≤ (As.getD i default).s.t))) ∧ Below W.heap.size W W' := by
  obtain ⟨gb, cap, e, h1, h2, ⟨_, y1, _⟩, _⟩ := sd_cells h.bus i hi
  cases e
  have c3 := h.v3
  have c4 := h.v4
  obtain ⟨_, ⟨c16, _, _⟩, _⟩ := log_cells h.bus.log
  have e1 : (0 : Int) ≤ (i : Int) := by omega
  have e2 : (i : Int) < (As.length : Int) := by omega
  generalize (As.getD i default).s.t = t at *
  clear h
  go_enter Try.func52, Try.ntmps52
  go_wp2
  go_quiet (fail)
  go_wp2
  go_ret
  exact ⟨rfl, below_drewN (Below.refl _ _) _⟩
set_option maxRecDepth 100000 in
set_option maxHeartbeats 4000000 in
theorem falls_any (h : WinAt W B3 B4 B5 first last S b l A c As g) (i : Nat) :
    Calls Try.prog 53 #[.int .i64 (i : Int), .pointer (some ⟨B3, 0, none⟩), .pointer (some ⟨B5, 0, none⟩)] W fun e W' => e = .returned (.bool (decide (i < As.length) && decide ((As.getD i default).s.t ≤ last))) ∧ Below W.heap.size W W' := by
  have c3 := h.v3
  have c5 := h.v5
  obtain ⟨_, ⟨c16, _, _⟩, _⟩ := log_cells h.bus.log
  have e1 : (0 : Int) ≤ (i : Int) := by omega
  by_cases hi : i < As.length
  · obtain ⟨gb, cap, e, h1, h2, ⟨_, y1, _⟩, _⟩ := sd_cells h.bus i hi
    cases e
    have e2 : (i : Int) < (As.length : Int) := by omega
    have d1 : decide ((i : Int) < (As.length : Int)) = true := decide_eq_true e2
    rw [decide_eq_true hi, Bool.true_and]
    generalize (As.getD i default).s.t = t at *
    clear h hi
    go_enter Try.func53, Try.ntmps53
    go_wp2
    go_quiet (fail)
    go_wp2
    go_ret
    exact ⟨rfl, below_drewN (Below.refl _ _) _⟩
  · have d1 : decide ((i : Int) < (As.length : Int)) = false := decide_eq_false (by omega)
    have d2 : decide (i < As.length) = false := decide_eq_false hi
    rw [decide_eq_false hi, Bool.false_and]
    generalize (As.getD i default).s.t = t at *
    clear h hi
    go_enter Try.func53, Try.ntmps53
    go_wp2
    go_quiet (fail)
    go_wp2
    go_ret
    exact ⟨rfl, below_drewN (Below.refl _ _) _⟩
set_option maxHeartbeats 1000000 in
theorem within_in (n : Nat) (l : Nat) (first last : Int) (w : World) :
    CallsIn Fence.wide n Try.prog 45 #[.pointer (some ⟨l, 0, none⟩), .int .i64 first, .int .i64 last] w fun e w' => e = .returned (.func (.func 51) #[] #[.pointer (some ⟨w.heap.size, 0, none⟩), .pointer (some ⟨w.heap.size + 1, 0, none⟩), .pointer (some ⟨w.heap.size + 1 + 1, 0, none⟩)]) ∧
      w' = ((w.alloc (.cells #[.pointer (some ⟨l, 0, none⟩)] 58)).alloc (.cells #[.int .i64 first] 2)).alloc (.cells #[.int .i64 last] 2) := by
  have hmf : ∀ (fn : Fn) (first cap : Array Value) (w : World), (Instr.makeFunc fn first cap).run Try.prog w = .ok (.func fn first cap) w := fun _ _ _ _ => rfl
  refine callsIn_of_wp Try.func45 rfl trivial ?_ rfl
  simp only [Try.ntmps45, List.size_toArray, List.length_cons, List.length_nil, Nat.reduceAdd, Nat.reduceSub, Array.replicate_succ, Array.replicate_zero, List.push_toArray, List.append_toArray, List.nil_append, List.cons_append]
  gi_wp2
  go_ret
  exact ⟨rfl, rfl⟩
end
end Go.Proofs.Ytmplidgafdobkaa
