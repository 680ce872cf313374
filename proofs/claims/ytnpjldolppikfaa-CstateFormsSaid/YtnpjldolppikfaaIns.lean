/- OctetIns, plain facts: bytes that are counted up in place; the two Ins side by side. -/
import Derived.Test.YtnpjldolppikfaaRef
import Derived.Test.YtnpjldolppikfaaNow
import Derived.Deep.RegionHeld3
namespace Go.Proofs.Ytnpjldolppikfaa
open Go.RowKit

/-- Bytes at A, the first n, are being counted up: nothing else has turned since W0. -/
def Inc (W0 : World) (A : Option Addr) (n : Nat) (k : Value) (W : World) : Prop :=
  ∃ j, j ≤ n ∧ k = .int .i64 (j : Int) ∧ Kept (fun i => ∃ ad, A = some ad ∧ ad.block = i) W0 W ∧
    (0 < n → ∃ g cs, A = some ⟨g, 0, none⟩ ∧ Whole W g 5 cs ∧ ∀ i, i < n → ∃ z, cs[i]? = some (.int .u8 z))

theorem inc_start {W : World} {base n c : Nat} {A : Option Addr} {l : List UInt8} (h : W.ownsRow base 5 1 (.slice A n c) n (bv l)) : Inc W A n (.int .i64 0) W := by
  refine ⟨0, Nat.zero_le _, rfl, Kept.refl _ _, fun h0 => ?_⟩
  have hl : (bv l).length = n := by have := h.1; omega
  rcases h.2 with ⟨_, hn⟩ | ⟨g, cap, cur, hv, _, hg, hnc, _, hcs, ht⟩
  · omega
  · simp only [Value.slice.injEq] at hv
    obtain ⟨rfl, _, rfl⟩ := hv
    refine ⟨g, cur, rfl, hg, fun i hi => ?_⟩
    have hi' : i < l.length := by rw [bv_length] at hl; omega
    refine ⟨(l[i].toNat : Int), ?_⟩
    have e : (cur.toList.take (n * 1))[i]? = cur.toList[i]? := by rw [List.getElem?_take_of_lt (by omega)]
    rw [ht] at e
    rw [← Array.getElem?_toList, ← e]
    simp [bv, List.getElem?_eq_getElem hi']

theorem inc_read {W0 W : World} {A : Option Addr} {n j : Nat} (hi : ∃ g cs, A = some ⟨g, 0, none⟩ ∧ Whole W g 5 cs ∧ ∀ i, i < n → ∃ z, cs[i]? = some (.int .u8 z)) (hk : Kept (fun i => ∃ ad, A = some ad ∧ ad.block = i) W0 W) (hj : j < n) :
    ∃ g z, A = some ⟨g, 0, none⟩ ∧ W.cell? ⟨g, j, none⟩ = some (.int .u8 z) ∧ W.frozen? ⟨g, j, none⟩ = false ∧ ∀ y, Inc W0 A n (.int .i64 ((j + 1 : Nat) : Int)) (W.setCell ⟨g, j, none⟩ (.int .u8 y)) := by
  obtain ⟨g, cs, rfl, hw, hz⟩ := hi
  obtain ⟨z, hzj⟩ := hz j hj
  refine ⟨g, z, rfl, (hw.cell j).trans hzj, hw.frozen j, fun y => ⟨j + 1, hj, rfl, hk.setCell (p := ⟨g, j, none⟩) (.inl ⟨⟨g, 0, none⟩, rfl, rfl⟩) _, fun _ => ⟨g, _, rfl, hw.set j _, fun i hin => ?_⟩⟩⟩
  by_cases hij : j = i
  · subst hij
    refine ⟨y, ?_⟩
    rw [Array.getElem?_setIfInBounds_self_of_lt (Array.getElem?_eq_some_iff.1 hzj).1]
  · rw [Array.getElem?_setIfInBounds_ne hij]
    exact hz i hin

section
variable {w W W' : World} {x r : Nat} {T R : Nat → Prop} {sx sr : Option (List UInt8)}
end

theorem takeSt_left (st : Option (List UInt8)) (n : Int) : ((takeSt st n).1.getD []).length ≤ (st.getD []).length := by
  cases st with
  | none => simp [takeSt]
  | some l =>
    simp only [takeSt]
    split
    · simp
    · simp
theorem getSt_left (st : Option (List UInt8)) (n : Int) : ((getSt st n).1.getD []).length ≤ (st.getD []).length := by
  unfold getSt
  split
  · exact takeSt_left st n
  · simp

theorem quiet_same {P : Program} {f : FuncId} {args : Array Value} {w : World} {n : Nat} {v : Value} (h : Calls P f args (w.drewN n) fun e w' => e = .returned v ∧ w.drewN n = w') : Calls P f args (w.drewN n) fun e w'' => e = .returned v ∧ ∃ m, w'' = w.drewN m :=
  h.mono fun _ _ ⟨he, hm⟩ => ⟨he, n, hm.symm⟩

end Go.Proofs.Ytnpjldolppikfaa
