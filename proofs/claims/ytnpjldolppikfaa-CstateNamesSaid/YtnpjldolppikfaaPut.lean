/- bytesOf and its iterator; Put of an Out, by a contract. -/
import Derived.RangeFuncNested
import Derived.RangeFuncBound
import Derived.RangeFuncCalls
import Derived.RangeFuncLeaves
import Derived.RangeFuncBox
import Derived.Shelf.Abstract
import Derived.Shelf.RegionOpen
import Derived.OwnWalkIn
import Derived.TacticsInMore
import Derived.LoopNIn
import Derived.LoopIn
import Derived.Test.YtnpjldolppikfaaOut
namespace Go.Proofs.Ytnpjldolppikfaa
open Go.RowKit Go.Shelf
attribute [local go_sem] Oper.semAt_some

theorem wpIn_scope_wide {n : Nat} {P : Program} {c : Code} {Q : Exit → Act → World → Prop} {a : Act} {w : World} (h : c.wpIn Fence.wide n P (Exit.noGoto Q) a w) : (Code.scope c).wpIn Fence.wide n P Q a w :=
  wpIn_wide.2 (wp_scope_straight (wpIn_wide.1 h))

/-- The two boxes that the iterator reads hold what they held. -/
def KpB (Bw Bn : Nat) (W W' : World) : Prop := W'.cell? ⟨Bw, 0, none⟩ = W.cell? ⟨Bw, 0, none⟩ ∧ W'.cell? ⟨Bn, 0, none⟩ = W.cell? ⟨Bn, 0, none⟩

/-- The bytes of a number, the highest first. -/
def beBytes (width x : Nat) : List UInt8 := (List.range width).map fun i => UInt8.ofNat (x / 2 ^ (8 * (width - 1 - i)))
theorem beBytes_length (width x : Nat) : (beBytes width x).length = width := by simp [beBytes]
theorem beBytes_take (width x k : Nat) (h : k < width) : (beBytes width x).take (k + 1) = (beBytes width x).take k ++ [UInt8.ofNat (x / 2 ^ (8 * (width - 1 - k)))] := by
  rw [List.take_succ_eq_append_getElem (by rw [beBytes_length]; exact h)]
  simp [beBytes]
theorem u8_of_shift (x k : Nat) : (((UInt8.ofNat (x / 2 ^ k)).toNat : Nat) : Int) = (x : Int) / 2 ^ k % 256 := by
  simp

set_option maxRecDepth 100000 in
set_option maxHeartbeats 1000000 in
theorem bytesOf1_in (n : Nat) (hn : 1 ≤ n) (l Bw Bn width x : Nat) (J Jx : List UInt8 → World → Prop)
    (hY : ∀ pre b W, J pre W → pre.length < width → YieldAt Fence.wide (n - 1) Try.prog l #[.int .u8 (b.toNat : Int)] W fun e W' =>
      (e = .returned (.bool true) ∧ J (pre ++ [b]) W' ∧ KpB Bw Bn W W') ∨ (e = .returned (.bool false) ∧ Jx (pre ++ [b]) W'))
    (W : World) (hw : W.cell? ⟨Bw, 0, none⟩ = some (.int .i64 (width : Int))) (hx : W.cell? ⟨Bn, 0, none⟩ = some (.int .u64 (x : Int))) (h0 : J [] W) (h8 : width ≤ 8) :
    CallsIn Fence.wide n Try.prog 74 #[.func (.yield l) #[] #[], .pointer (some ⟨Bw, 0, none⟩), .pointer (some ⟨Bn, 0, none⟩)] W fun e W' => (∃ v, e = .returned v) ∧
      ((∃ ys, ys = beBytes width x ∧ J ys W') ∨ (∃ pre, pre <+: beBytes width x ∧ Jx pre W')) := by
  refine callsIn_of_wp Try.func74 rfl trivial ?_ rfl
  simp only [Try.ntmps74, List.size_toArray, List.length_cons, List.length_nil, Nat.reduceAdd, Nat.reduceSub, Array.replicate_succ, Array.replicate_zero, List.push_toArray, List.append_toArray, List.nil_append, List.cons_append]
  gi_wp2
  refine wpIn_scope_wide ?_
  refine wpIn_seq_k (fun K hK => wpIn_label ?_)
  refine hK _ _ ?_
  clear hK
  gi_wp2
  gi_loopw [4, 6] (fun _ i wr => ∃ k : Nat, k ≤ width ∧ i = .int .i64 (k : Int) ∧ J ((beBytes width x).take k) wr ∧ wr.cell? ⟨Bw, 0, none⟩ = some (.int .i64 (width : Int)) ∧ wr.cell? ⟨Bn, 0, none⟩ = some (.int .u64 (x : Int))) (fun _ i _ => width - (intOf i).toNat)
  case atStart => exact ⟨0, Nat.zero_le _, rfl, h0, hw, hx⟩
  case round =>
    obtain ⟨k, hk, rfl, hJ, hw1, hx1⟩ := hrel
    by_cases hlt : k < width
    · have hlen : ((beBytes width x).take k).length < width := by rw [List.length_take, beBytes_length]; omega
      obtain ⟨fn, tmps, assign, body, hy, hR⟩ := hY _ (UInt8.ofNat (x / 2 ^ (8 * (width - 1 - k)))) wr hJ hlen
      clear hlen
      rw [u8_of_shift] at hy
      gi_wp2
      refine hR.mono ?_
      rintro e W3 (⟨rfl, hJ3, hk3⟩ | ⟨rfl, hJx3⟩)
      · have hw3 := hk3.1.trans hw1
        have hx3 := hk3.2.trans hx1
        rw [← beBytes_take width x k hlt] at hJ3
        gi_wp2
        go_roundw
        case rel => exact ⟨k + 1, by omega, by go_num, hJ3, hw3, hx3⟩
        case measure => simp [intOf]; omega
      · rw [← beBytes_take width x k hlt] at hJx3
        gi_wp2
        rw [Exit.noGoto_normal]
        go_end0
        exact ⟨⟨_, rfl⟩, .inr ⟨_, List.take_prefix _ _, hJx3⟩⟩
    · have hJ' : J (beBytes width x) wr := by
        rw [List.take_of_length_le (by rw [beBytes_length]; omega)] at hJ
        exact hJ
      gi_wp2
      rw [Exit.noGoto_normal]
      go_end0
      exact ⟨⟨_, rfl⟩, .inl ⟨_, rfl, hJ'⟩⟩

set_option maxHeartbeats 1000000 in
theorem bytesOf_in (n : Nat) (width x : Nat) (w : World) :
    CallsIn Fence.wide n Try.prog 60 #[.int .i64 (width : Int), .int .u64 (x : Int)] w fun e w' => e = .returned (.func (.func 74) #[] #[.pointer (some ⟨w.heap.size, 0, none⟩), .pointer (some ⟨w.heap.size + 1, 0, none⟩)]) ∧
      w' = (w.alloc (.cells #[.int .i64 (width : Int)] 3)).alloc (.cells #[.int .u64 (x : Int)] 74) := by
  refine callsIn_of_wp Try.func60 rfl trivial ?_ rfl
  simp only [Try.ntmps60, List.size_toArray, List.length_cons, List.length_nil, Nat.reduceAdd, Nat.reduceSub, Array.replicate_succ, Array.replicate_zero, List.push_toArray, List.append_toArray, List.nil_append, List.cons_append]
  gi_wp2
  go_ret
  exact ⟨rfl, rfl⟩

theorem bytesOf_stops (n : Nat) (hn : 1 ≤ n) (Bw Bn width x : Nat) (w : World) (hBw : Bw < w.heap.size) (hBn : Bn < w.heap.size)
    (hw : w.cell? ⟨Bw, 0, none⟩ = some (.int .i64 (width : Int))) (hx : w.cell? ⟨Bn, 0, none⟩ = some (.int .u64 (x : Int))) (h8 : width ≤ 8) :
    SeqStopsK Fence.wide n Try.prog 74 #[.pointer (some ⟨Bw, 0, none⟩), .pointer (some ⟨Bn, 0, none⟩)] (fun b : UInt8 => #[Value.int .u8 (b.toNat : Int)]) (KpB Bw Bn) (fun ys => ys = beBytes width x) (fun pre => pre <+: beBytes width x) width w := fun l J Jx W hW _ _ hY h0 =>
  bytesOf1_in n hn l Bw Bn width x J Jx hY W ((hW.cell (p := ⟨Bw, 0, none⟩) hBw).trans hw) ((hW.cell (p := ⟨Bn, 0, none⟩) hBn).trans hx) h0 h8

/-! A round's operation is carried out as everywhere, unless it defers. -/
section
variable {F : Fence} {n : Nat} {P : Program} {ops : Array Oper} {Q : Exit → Act → World → Prop} {md : Region.Mode}
theorem wpIn_inRound {o : Oper} {a : Act} {w : World} {K : Act → World → Prop} (l : Nat) (hro : F.round = none) (hd : ∀ c, o.op ≠ .defer c) (h : o.wpIn F n P a w K Q) : o.wpIn (F.inRound l) n P a w K Q := by
  unfold Oper.wpIn at *
  refine ⟨h.1, ?_⟩
  rw [Fence.inRound_round, Oper.semAt_some _ _ _ hd]
  have h2 := h.2
  rw [hro, Oper.semAt_none] at h2
  exact h2
theorem wpOpIn_inRound {i : Nat} {a : Act} {w : World} {K : Act → World → Prop} (l : Nat) (hro : F.round = none) (hd : ∀ (i : Nat) (o : Oper) c, ops[i]? = some o → o.op ≠ .defer c) (h : wpOpIn F n P ops Q i K a w) : wpOpIn (F.inRound l) n P ops Q i K a w := by
  unfold wpOpIn at *
  split
  · rename_i ho; simpa [ho] using h
  · rename_i o ho
    simp only [ho] at h
    split
    · rename_i hw; simp only [hw, if_true] at h; exact wpIn_inRound l hro (hd i o · ho) h
    · rename_i hw; simp only [hw] at h; exact h
theorem wpAnyIn_inRound (l : Nat) (hro : F.round = none) (hd : ∀ (i : Nat) (o : Oper) c, ops[i]? = some o → o.op ≠ .defer c) : ∀ (fuel : Nat) (listed : Array Bool) (a : Act) (w : World), wpAnyIn F n P md ops Q fuel listed a w → wpAnyIn (F.inRound l) n P md ops Q fuel listed a w
  | 0, _, _, _, h => h
  | fuel + 1, _, _, _, h => ⟨h.1, fun i hi => wpOpIn_inRound l hro hd (wpOpIn_mono (fun a w => wpAnyIn_inRound l hro hd fuel _ a w) (h.2 i hi))⟩

theorem stepIn_append_src {w : World} {o : Oper} {a : Act} {K : Act → World → Prop} {E : Prop} (hro : F.round = none) (hgd : o.guard = none) (s x : Operand) (t : TypeId)
    (ho : o.op = .call { callee := .builtin .append, args := #[s, x], argTypes := #[t, t] })
    (base : Nat) (e : TypeId) (i : TypeInfo) (ht : P.underlying t = some (.slice e)) (hi : P.info? e = some i) (hz : i.zero = some (.int .u8 0)) (hsize : i.size = 1) (hby : i.bytes = 1)
    (v : Value) (k : Nat) (xs : List Value) (hs : a.eval s = v) (hown : w.ownsRow base e 1 v k xs)
    (A : Option Addr) (m c : Nat) (b : List UInt8) (hx : a.eval x = .slice A m c) (hr : Src w A m b) (hlen : k + m ≤ 1099511627776) (hbase : base ≤ w.heap.size)
    (h : ∀ v' w', w'.ownsRow base e 1 v' (k + m) (xs ++ bv b) → w.grownBy w' v.ownBlock → (v'.ownBlock = v.ownBlock ∨ v'.ownBlock = some w.heap.size) → K (a.put o.dst v') w') :
    if Region.wanted o (yielded ops a.tmps) = true then Oper.wpIn F n P o a w K Q else E := by
  have hw : Region.wanted o (yielded ops a.tmps) = true := by simp [Region.wanted, hgd]
  rw [if_pos hw]
  obtain ⟨v', w', hrun, h2, h3, h4⟩ := run_append_src (P := P) w base t o.type e i ht hi hz hsize hby v k xs hown A m c b hr hlen hbase
  unfold Oper.wpIn
  refine ⟨fun f hf => ?_, ?_⟩
  · simp [Oper.about, ho, Target.leads, resolve] at hf
  · rw [hro, Oper.semAt_none]
    unfold execOp
    simp only [ho, resolve, invoke, builtin, Sem.run_bind, Sem.run_pure, Result.andThen_ok, List.map_toArray, List.map_cons, List.map_nil, hs, hx, hrun]
    exact h v' w' h2 h3 h4
end

end Go.Proofs.Ytnpjldolppikfaa
