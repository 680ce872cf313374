/- How many bits are 1: the library's count, and what leans on it, each by a contract. -/
import Derived.Test.YtnpjldolppikfaaGFun
import Derived.Lib.Tables
namespace Go.Proofs.Ytnpjldolppikfaa
open Go.RowKit

theorem pop8_cnt : ∀ n : Fin 256, Lib.pop8 (n.val : Int) = (cnt8 n.val : Int) := by decide +kernel
theorem pop8_nat (x : Nat) (h : x < 256) : Lib.pop8 (x : Int) = (cnt8 x : Int) := pop8_cnt ⟨x, h⟩
theorem and_255 (g : Nat) (h : g < 65536) : bits .and .u16 (g : Int) 255 = ((g % 256 : Nat) : Int) := by
  have e : g &&& 255 = g % 256 := Nat.and_two_pow_sub_one_eq_mod g 8
  rw [← e]
  exact u16_and_nat g 255 h (by decide)

/-- An index into the table, where the region is walked in the text's order. -/
theorem quiet_index_pop8 {P : Program} {C : World → Prop} {a : Act} {o : Oper} {K : Act → Prop} (b : ByteArray) (t : TypeId) (x : Operand) (k : IntKind) (i : Nat) (ho : o.op = .index t (.const (.string b)) x) (hb : b = Lib.pop8tab)
    (ht : P.underlying t = some .string) (hx : a.eval x = .int k (i : Int)) (hi : i < 256) (h : K (a.put o.dst (.int .u8 (cnt8 i : Int)))) : o.quiet P a C K := by
  subst hb
  refine ⟨_, fun w _ => ?_, h⟩
  have hr := Lib.run_index_pop8tab (P := P) w t k (i : Int) ht (by omega) (by omega)
  rw [pop8_nat i hi] at hr
  unfold Oper.quietAt execOp
  simp only [ho]
  rw [show a.eval (.const (.string Lib.pop8tab)) = .string Lib.pop8tab from rfl, hx]
  simp only [Sem.run_bind, hr, Result.andThen_ok, Sem.run_pure]
  exact ⟨rfl, rfl⟩

theorem fold_pop8 (b : Array UInt8) (h : b = Lib.pop8tab.data) : (⟨b⟩ : ByteArray) = Lib.pop8tab := by subst h; rfl

end Go.Proofs.Ytnpjldolppikfaa
