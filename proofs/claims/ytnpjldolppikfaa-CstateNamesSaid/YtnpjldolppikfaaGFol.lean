/- The iterator that tells nodes as they follow one another, by its contract; List and Next. -/
import Derived.RangeFuncNested
import Derived.RangeFuncBound
import Derived.RangeFuncCalls
import Derived.RangeFuncLeaves
import Derived.RangeFuncBox
import Derived.Shelf.Abstract
import Derived.Shelf.RegionOpen
import Derived.OwnWalkIn
import Derived.TacticsInMore
import Derived.LoopNIn
import Derived.LoopIn
import Derived.Maps.AppendAt
import Derived.Test.YtnpjldolppikfaaGFun
namespace Go.Proofs.Ytnpjldolppikfaa
open Go.RowKit Go.Shelf
attribute [local go_sem] Oper.semAt_some

/-- The box that the iterator reads holds what it held. -/
def KpC (B : Nat) (W W' : World) : Prop := W'.cell? ⟨B, 0, none⟩ = W.cell? ⟨B, 0, none⟩

/-- The nodes that follow n, n last; none, if n is no node. -/
def folI (n : Int) : List Nat := if nodeB n = true then folG n.toNat else []
theorem folG_length (m : Nat) : (folG m).length = 16 := by simp [folG]
theorem folG_take (m k : Nat) (h : k < 16) : (folG m).take (k + 1) = (folG m).take k ++ [(m + 1 + k) % 16] := by
  rw [List.take_succ_eq_append_getElem (by rw [folG_length]; exact h)]
  simp [folG]
theorem folI_length (n : Int) : (folI n).length ≤ 16 := by
  unfold folI
  split
  · rw [folG_length]; exact Nat.le_refl _
  · exact Nat.zero_le _

abbrev encN (i : Nat) : Array Value := #[.int .i64 (i : Int)]

theorem isNode_in (n : Int) (k : Nat) (w : World) : CallsIn Fence.wide k Try.prog 73 #[.int .i64 n] w fun e w' => e = .returned (.bool (nodeB n)) ∧ w = w' := callsIn_wide.2 (isNode_any n w)

set_option maxRecDepth 100000 in
set_option maxHeartbeats 1000000 in
theorem fol1_yes (n : Nat) (hn : 1 ≤ n) (l Bw m : Nat) (hm : m ≤ 15) (J Jx : List Nat → World → Prop)
    (hY : ∀ pre i W, J pre W → pre.length < 16 → YieldAt Fence.wide (n - 1) Try.prog l (encN i) W fun e W' =>
      (e = .returned (.bool true) ∧ J (pre ++ [i]) W' ∧ KpC Bw W W') ∨ (e = .returned (.bool false) ∧ Jx (pre ++ [i]) W'))
    (W : World) (hw : W.cell? ⟨Bw, 0, none⟩ = some (.int .i64 (m : Int))) (h0 : J [] W) :
    CallsIn Fence.wide n Try.prog 72 #[.func (.yield l) #[] #[], .pointer (some ⟨Bw, 0, none⟩)] W fun e W' => (∃ v, e = .returned v) ∧
      ((∃ ys, ys = folG m ∧ J ys W') ∨ (∃ pre, pre <+: folG m ∧ Jx pre W')) := by
  have hnode : nodeB (m : Int) = true := node_nat (by omega)
  have HN := Lib.hid hnode
  clear hnode
  refine callsIn_of_wp Try.func72 rfl trivial ?_ rfl
  simp only [Try.ntmps72, List.size_toArray, List.length_cons, List.length_nil, Nat.reduceAdd, Nat.reduceSub, Array.replicate_succ, Array.replicate_zero, List.push_toArray, List.append_toArray, List.nil_append, List.cons_append]
  gi_wp2_with (refine ⟨trivial, ?_⟩; gi_at_call 73; refine (isNode_in _ _ _).mono ?_; rintro e w' ⟨rfl, rfl⟩; rw [HN.out])
  gi_loopw [7] (fun i wr => ∃ k : Nat, k ≤ 16 ∧ i = .int .i64 (k : Int) ∧ J ((folG m).take k) wr ∧ wr.cell? ⟨Bw, 0, none⟩ = some (.int .i64 (m : Int))) (fun i _ => 16 - (intOf i).toNat)
  case atStart => exact ⟨0, by omega, rfl, h0, hw⟩
  case round =>
    obtain ⟨k, hk, rfl, hJ, hw1⟩ := hrel
    by_cases hlt : k < 16
    · have hlen : ((folG m).take k).length < 16 := by rw [List.length_take, folG_length]; omega
      obtain ⟨fn, tmps, assign, body, hy, hR⟩ := hY _ ((m + 1 + k) % 16) wr hJ hlen
      have em : (((m + 1 + k) % 16 : Nat) : Int) = ((m : Int) + 1 + k) % 16 := by omega
      rw [encN, em] at hy
      clear hlen em
      gi_wp2
      refine hR.mono ?_
      rintro e W3 (⟨rfl, hJ3, hk3⟩ | ⟨rfl, hJx3⟩)
      · have hw3 := hk3.trans hw1
        rw [← folG_take m k hlt] at hJ3
        gi_wp2
        go_roundw
        case rel => exact ⟨k + 1, by omega, by go_num, hJ3, hw3⟩
        case measure => simp [intOf]; omega
      · rw [← folG_take m k hlt] at hJx3
        gi_wp2
        refine bodyPost_ret (results_none rfl _ _ _) rfl ?_
        exact ⟨⟨_, rfl⟩, .inr ⟨_, List.take_prefix _ _, hJx3⟩⟩
    · have hJ' : J (folG m) wr := by
        rw [List.take_of_length_le (by rw [folG_length]; omega)] at hJ
        exact hJ
      gi_wp2
      go_end0
      exact ⟨⟨_, rfl⟩, .inl ⟨_, rfl, hJ'⟩⟩

set_option maxRecDepth 100000 in
set_option maxHeartbeats 1000000 in
theorem fol1_no (n : Nat) (hn : 1 ≤ n) (l Bw : Nat) (m : Int) (hm : nodeB m = false) (W : World) (hw : W.cell? ⟨Bw, 0, none⟩ = some (.int .i64 m)) :
    CallsIn Fence.wide n Try.prog 72 #[.func (.yield l) #[] #[], .pointer (some ⟨Bw, 0, none⟩)] W fun e W' => (∃ v, e = .returned v) ∧ W = W' := by
  have HN := Lib.hid hm
  clear hm
  refine callsIn_of_wp Try.func72 rfl trivial ?_ rfl
  simp only [Try.ntmps72, List.size_toArray, List.length_cons, List.length_nil, Nat.reduceAdd, Nat.reduceSub, Array.replicate_succ, Array.replicate_zero, List.push_toArray, List.append_toArray, List.nil_append, List.cons_append]
  gi_wp2_with (refine ⟨trivial, ?_⟩; gi_at_call 73; refine (isNode_in _ _ _).mono ?_; rintro e w' ⟨rfl, rfl⟩; rw [HN.out])
  refine bodyPost_ret (results_none rfl _ _ _) rfl ?_
  exact ⟨⟨_, rfl⟩, rfl⟩

set_option maxHeartbeats 1000000 in
theorem following_in (n : Nat) (m : Int) (w : World) :
    CallsIn Fence.wide n Try.prog 54 #[.int .i64 m] w fun e w' => e = .returned (.func (.func 72) #[] #[.pointer (some ⟨w.heap.size, 0, none⟩)]) ∧
      w' = w.alloc (.cells #[.int .i64 m] 3) := by
  refine callsIn_of_wp Try.func54 rfl trivial ?_ rfl
  simp only [Try.ntmps54, List.size_toArray, List.length_cons, List.length_nil, Nat.reduceAdd, Nat.reduceSub, Array.replicate_succ, Array.replicate_zero, List.push_toArray, List.append_toArray, List.nil_append, List.cons_append]
  gi_wp2
  go_ret
  exact ⟨rfl, rfl⟩

theorem fol_stops (n : Nat) (hn : 1 ≤ n) (Bw : Nat) (m : Int) (w : World) (hBw : Bw < w.heap.size) (hw : w.cell? ⟨Bw, 0, none⟩ = some (.int .i64 m)) :
    SeqStopsK Fence.wide n Try.prog 72 #[.pointer (some ⟨Bw, 0, none⟩)] encN (KpC Bw) (fun ys => ys = folI m) (fun pre => pre <+: folI m) 16 w := fun l J Jx W hW _ _ hY h0 => by
  have hw1 := (hW.cell (p := ⟨Bw, 0, none⟩) hBw).trans hw
  cases h : nodeB m
  · refine (fol1_no n hn l Bw m h W hw1).mono ?_
    rintro e W' ⟨hv, rfl⟩
    exact ⟨hv, .inl ⟨[], by simp [folI, h], h0⟩⟩
  · obtain ⟨a, b⟩ := node_yes h
    obtain ⟨k, rfl⟩ := Int.eq_ofNat_of_zero_le a
    have e : folI (k : Int) = folG k := by rw [folI, if_pos h, Int.toNat_natCast]
    rw [e]
    exact fol1_yes n hn l Bw k (by omega) J Jx hY W hw1 h0

end Go.Proofs.Ytnpjldolppikfaa
