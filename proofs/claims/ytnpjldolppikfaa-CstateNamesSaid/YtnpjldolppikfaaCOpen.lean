/- An argument that is a C-state, opened. -/
import Derived.Test.YtnpjldolppikfaaOpsP
import Derived.Lib.SmallJoins
namespace Go.Proofs.Ytnpjldolppikfaa
open Go.ChangeShapes Go.WideShapes Go.ChangeAt Go.RowKit Go.Deep Go.Joins

def I64 (n : Int) : Prop := -9223372036854775808 ≤ n ∧ n ≤ 9223372036854775807

set_option maxRecDepth 100000 in
theorem open_cstate {H : Type} {enc : TypeId × Value → H} {W : World} {base : Nat} {v : Value} {d : DataW H} {p : List MemPlace} (hv : Value.okWide Try.prog W .any base 25 v) (h : DataW.Trod enc Try.prog W 0 (fun _ => true) true 25 v d p) :
    ∃ (r s m : Int) (g : Nat), v = .agg #[.int .i64 r, .int .i64 s, .int .i64 m, .int .u16 (g : Int)] ∧ I64 r ∧ I64 s ∧ I64 m ∧ g < 65536 := by
  obtain ⟨v0, v1, v2, v3, y0, y1, y2, y3, n, rfl, _, _, f0, f1, f2, f3⟩ := open_agg4 Try.underlying25 (by kernel_rfl) (by kernel_rfl) hv h
  obtain ⟨k0, e0, _, w0⟩ := DataW.trod_int Try.underlying3 f0
  obtain ⟨k1, e1, _, w1⟩ := DataW.trod_int Try.underlying3 f1
  obtain ⟨k2, e2, _, w2⟩ := DataW.trod_int Try.underlying3 f2
  obtain ⟨k3, e3, _, w3⟩ := DataW.trod_int Try.underlying23 f3
  simp at e0 e1 e2 e3
  subst e0 e1 e2 e3
  have b3 := bounds_u16 w3
  obtain ⟨g, rfl⟩ := Int.eq_ofNat_of_zero_le b3.1
  exact ⟨k0, k1, k2, g, rfl, bounds_i64 w0, bounds_i64 w1, bounds_i64 w2, by omega⟩

theorem open_b {H : Type} {enc : TypeId × Value → H} {W : World} {a0 : Option Addr} {len0 cap0 : Nat} {d : DataW H} {p : List MemPlace} (h : DataW.Trod enc Try.prog W 0 (fun _ => true) true 26 (.slice a0 len0 cap0) d p) (hsz : ∀ k ∈ DataW.weights Try.prog 26 d, k ≤ reachBytes) :
    ∃ bs, Src W a0 len0 bs ∧ len0 ≤ cap0 ∧ (a0 = none → cap0 = 0) ∧ len0 ≤ 140737488351232 := by
  obtain ⟨fuel, hf⟩ := h
  obtain ⟨B, l, c, hcs, hsrc, hc, hz, hlen, _⟩ := open_bytes hf hsz
  simp at hcs
  obtain ⟨rfl, rfl, rfl⟩ := hcs
  exact ⟨l, hsrc, hc, hz, hlen⟩

end Go.Proofs.Ytnpjldolppikfaa
