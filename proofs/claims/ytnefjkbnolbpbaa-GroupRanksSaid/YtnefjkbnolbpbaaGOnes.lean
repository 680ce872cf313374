/- How many bits are 1: the library's count, and what leans on it, each by a contract. -/
import Derived.Test.YtnefjkbnolbpbaaGFun
import Derived.Lib.Tables
namespace Go.Proofs.Ytnefjkbnolbpbaa
open Go.RowKit

theorem pop8_cnt : ∀ n : Fin 256, Lib.pop8 (n.val : Int) = (cnt8 n.val : Int) := by decide +kernel
theorem pop8_nat (x : Nat) (h : x < 256) : Lib.pop8 (x : Int) = (cnt8 x : Int) := pop8_cnt ⟨x, h⟩
theorem and_255 (g : Nat) (h : g < 65536) : bits .and .u16 (g : Int) 255 = ((g % 256 : Nat) : Int) := by
  have e : g &&& 255 = g % 256 := Nat.and_two_pow_sub_one_eq_mod g 8
  rw [← e]
  exact u16_and_nat g 255 h (by decide)

/-- An index into the table, where the region is walked in the text's order. -/
theorem quiet_index_pop8 {P : Program} {C : World → Prop} {a : Act} {o : Oper} {K : Act → Prop} (b : ByteArray) (t : TypeId) (x : Operand) (k : IntKind) (i : Nat) (ho : o.op = .index t (.const (.string b)) x) (hb : b = Lib.pop8tab)
    (ht : P.underlying t = some .string) (hx : a.eval x = .int k (i : Int)) (hi : i < 256) (h : K (a.put o.dst (.int .u8 (cnt8 i : Int)))) : o.quiet P a C K := by
  subst hb
  refine ⟨_, fun w _ => ?_, h⟩
  have hr := Lib.run_index_pop8tab (P := P) w t k (i : Int) ht (by omega) (by omega)
  rw [pop8_nat i hi] at hr
  unfold Oper.quietAt execOp
  simp only [ho]
  rw [show a.eval (.const (.string Lib.pop8tab)) = .string Lib.pop8tab from rfl, hx]
  simp only [Sem.run_bind, hr, Result.andThen_ok, Sem.run_pure]
  exact ⟨rfl, rfl⟩

theorem fold_pop8 (b : Array UInt8) (h : b = Lib.pop8tab.data) : (⟨b⟩ : ByteArray) = Lib.pop8tab := by subst h; rfl

set_option maxRecDepth 100000 in
set_option maxHeartbeats 1000000 in
theorem ones_any (g : Nat) (w : World) (hg : g < 65536) : Calls Try.prog 42 #[.int .u16 (g : Int)] w fun e w' => e = .returned (.int .i64 ((countG g : Nat) : Int)) ∧ ∃ k, w' = w.drewN k := by
  have ha := and_255 g hg
  have c1 := cnt8_le (g / 256)
  have c2 := cnt8_le (g % 256)
  have hc := countG_halves g
  have l1 : g / 256 < 256 := by omega
  have l2 : g % 256 < 256 := by omega
  have HC := Lib.hid hc
  clear hc
  go_enter Try.func42, Try.ntmps42
  rw [fold_pop8]
  rotate_left
  · kernel_rfl
  go_wp2
  refine wp_region_quiet_lit (by kernel_rfl) (by kernel_rfl) ?_
  go_big_quiet_step (fail)
  go_big_quiet_step (fail)
  go_big_quiet_want
  refine quiet_index_pop8 _ _ _ .u16 (g / 256) rfl (by kernel_rfl) Try.underlying9 (by first | rfl | simp) l1 ?_
  go_big_quiet_on
  simp only [Act.put, List.setIfInBounds_toArray, List.set_cons_succ, List.set_cons_zero]
  go_big_quiet_step (fail)
  go_big_quiet_step (fail)
  go_big_quiet_want
  refine quiet_index_pop8 _ _ _ .u16 (g % 256) rfl (by kernel_rfl) Try.underlying9 (by first | rfl | simp) l2 ?_
  go_big_quiet_on
  simp only [Act.put, List.setIfInBounds_toArray, List.set_cons_succ, List.set_cons_zero]
  repeat (go_big_quiet_step (fail))
  refine wpQuiet_nil ?_
  intro _ hw'
  obtain ⟨nq, hw''⟩ := hw'
  subst hw''
  go_wp2
  go_ret
  exact ⟨by rw [HC.out]; rfl, nq, rfl⟩

theorem count_any (g : Nat) (w : World) (hg : g < 65536) : Calls Try.prog 20 #[.int .u16 (g : Int)] w fun e w' => e = .returned (.int .i64 ((countG g : Nat) : Int)) ∧ ∃ k, w' = w.drewN k := by
  go_enter Try.func20, Try.ntmps20
  go_wp2_with (go_at_call 42; refine (ones_any _ _ hg).mono ?_; rintro e w' ⟨rfl, k, rfl⟩)
  go_ret
  exact ⟨rfl, k, rfl⟩

theorem rank_any (g : Nat) (n : Int) (w : World) (hg : g < 65536) : Calls Try.prog 24 #[.int .u16 (g : Int), .int .i64 n] w fun e w' => e = .returned (.int .i64 ((rankG g n : Nat) : Int)) ∧ ∃ k, w' = w.drewN k := by
  have hf := firstG_lt n
  have hb := bothG_lt (b := firstG n) hg
  rw [rankG_eq]
  go_enter Try.func24, Try.ntmps24
  go_wp2_with (first | (go_at_call 26; refine (first_any _ _).mono ?_; rintro e w' ⟨rfl, rfl⟩) | (go_at_call 28; refine (both_any _ _ _ hg hf).mono ?_; rintro e w' ⟨rfl, rfl⟩) | (go_at_call 20; refine (count_any _ _ hb).mono ?_; rintro e w' ⟨rfl, k, rfl⟩))
  go_ret
  exact ⟨rfl, k, rfl⟩

end Go.Proofs.Ytnefjkbnolbpbaa
