/- The iterator that tells the conditions with their numbers, in order: by its contract. -/
import Derived.Test.YteljalgfkmnamaaLRange
import Derived.Test.YteljalgfkmnamaaLHold
namespace Go.Proofs.Yteljalgfkmnamaa
open Go.RowKit Go.Shelf
attribute [local go_sem] Oper.semAt_some

/-- The method that asks a condition. -/
def methL : Nat → Nat
  | 1 => 51
  | 2 => 52
  | 3 => 53
  | 4 => 54
  | 5 => 55
  | 6 => 56
  | 7 => 57
  | 8 => 58
  | 9 => 59
  | 10 => 60
  | _ => 61
/-- The method, bound to the draft. -/
def boundL (g k : Nat) : Value := .func (.func (methL k)) #[.pointer (some ⟨g, 0, none⟩)] #[]
abbrev encL (g k : Nat) : Array Value := #[.int .i64 (k : Int), boundL g k]
/-- The iterator's array. -/
def allL (g : Nat) : Array Value := #[.nilFunc, boundL g 1, boundL g 2, boundL g 3, boundL g 4, boundL g 5, boundL g 6, boundL g 7, boundL g 8, boundL g 9, boundL g 10, boundL g 11]
theorem allL_at (g k : Nat) (h1 : 1 ≤ k) (h2 : k ≤ 11) : (allL g)[k]? = some (boundL g k) := by
  have : k = 1 ∨ k = 2 ∨ k = 3 ∨ k = 4 ∨ k = 5 ∨ k = 6 ∨ k = 7 ∨ k = 8 ∨ k = 9 ∨ k = 10 ∨ k = 11 := by omega
  rcases this with rfl | rfl | rfl | rfl | rfl | rfl | rfl | rfl | rfl | rfl | rfl <;> rfl

set_option maxHeartbeats 1000000 in
theorem conditions_in (m g : Nat) (w : World) :
    CallsIn Fence.wide m Try.prog 39 #[.pointer (some ⟨g, 0, none⟩)] w fun e w' => e = .returned (.func (.func 50) #[] #[.pointer (some ⟨w.heap.size, 0, none⟩)]) ∧
      w' = w.alloc (.cells #[.pointer (some ⟨g, 0, none⟩)] 74) := by
  have hmf : ∀ (fn : Fn) (first cap : Array Value) (w : World), (Instr.makeFunc fn first cap).run Try.prog w = .ok (.func fn first cap) w := fun _ _ _ _ => rfl
  refine callsIn_of_wp Try.func39 rfl trivial ?_ rfl
  simp only [Try.ntmps39, List.size_toArray, List.length_cons, List.length_nil, Nat.reduceAdd, Nat.reduceSub, Array.replicate_succ, Array.replicate_zero, List.push_toArray, List.append_toArray, List.nil_append, List.cons_append]
  gi_wp2
  go_ret
  exact ⟨rfl, rfl⟩

set_option maxRecDepth 100000 in
set_option maxHeartbeats 4000000 in
theorem rounds_any (m : Nat) (hm : 1 ≤ m) (b g : Nat) (w : World) (hb : b < w.heap.size) (hc : w.cell? ⟨b, 0, none⟩ = some (.pointer (some ⟨g, 0, none⟩))) :
    Rounds m Try.prog 50 #[.pointer (some ⟨b, 0, none⟩)] (encL g) 11 w := fun l J Jx W hW hJ hY h0 => by
  have hmf : ∀ (fn : Fn) (first cap : Array Value) (w : World), (Instr.makeFunc fn first cap).run Try.prog w = .ok (.func fn first cap) w := fun _ _ _ _ => rfl
  have hc1 : W.cell? ⟨b, 0, none⟩ = some (.pointer (some ⟨g, 0, none⟩)) := (hW.cell (p := ⟨b, 0, none⟩) hb).trans hc
  have hJ1 : J 0 (W.alloc (.cells (allL g) 86)) := hJ 0 W _ h0
  have hA := Whole.new W 86 (allL g)
  have HJ := Lib.hid hJ1
  have HA := Lib.hid hA
  have HY := Lib.hid hY
  clear hJ1 hA hY hJ h0 hW hc hb
  refine callsIn_of_wp Try.func50 rfl trivial ?_ rfl
  simp only [Try.ntmps50, List.size_toArray, List.length_cons, List.length_nil, Nat.reduceAdd, Nat.reduceSub, Array.replicate_succ, Array.replicate_zero, List.push_toArray, List.append_toArray, List.nil_append, List.cons_append]
  gi_wp2
  gi_loopw [4] (fun i wr => ∃ k : Nat, k ≤ 11 ∧ i = .int .i64 ((k : Int) + 1) ∧ J k wr ∧ Whole wr W.heap.size 86 (allL g)) (fun i _ => 12 - (intOf i).toNat)
  case atStart => exact ⟨0, by omega, rfl, HJ.out, HA.out⟩
  case round =>
    obtain ⟨k, hk, rfl, hJk, hA⟩ := hrel
    have hlt' := hA.lt
    by_cases hlt : k < 11
    · obtain ⟨fn, tmps, assign, body, hy, hR⟩ := HY.out k wr hlt hJk
      have hc : wr.cell? ⟨W.heap.size, k + 1, none⟩ = some (boundL g (k + 1)) := (hA.cell (k + 1)).trans (allL_at g (k + 1) (by omega) (by omega))
      have em : (((k + 1 : Nat)) : Int) = (k : Int) + 1 := by omega
      rw [encL, em] at hy
      unfold boundL at hc hy
      have HW := Lib.hid hA
      clear em hA hJk
      generalize methL (k + 1) = f at *
      gi_wp2
      refine hR.mono ?_
      rintro e W3 (⟨rfl, hJ3, hk3⟩ | ⟨rfl, hJx3⟩)
      · have hA3 : Whole W3 W.heap.size 86 (allL g) := (hk3 _ (Nat.le_refl _) hlt').trans HW.out
        have HA3 := Lib.hid hA3
        clear hk3 hA3 hR hy hc
        gi_wp2
        go_roundw
        case rel => exact ⟨k + 1, by omega, by go_num, hJ3, HA3.out⟩
        case measure => simp [intOf]; omega
      · clear hR hy hc
        gi_wp2
        refine bodyPost_ret (results_none rfl _ _ _) rfl ?_
        exact ⟨⟨_, rfl⟩, .inr ⟨k + 1, by omega, by omega, hJx3⟩⟩
    · obtain rfl : k = 11 := by omega
      clear hA
      gi_wp2
      go_end0
      exact ⟨⟨_, rfl⟩, .inl hJk⟩

end Go.Proofs.Yteljalgfkmnamaa
