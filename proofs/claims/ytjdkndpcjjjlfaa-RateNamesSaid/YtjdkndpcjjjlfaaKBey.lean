/- The doubt whether a number lies between two: made, and asked. No condition. -/
import Derived.Test.YtjdkndpcjjjlfaaKMem
namespace Go.Proofs.Ytjdkndpcjjjlfaa
open Go.RowKit Go.Shelf

def outB (n a b : Int) : Bool := decide (n < a) || decide (b < n)

set_option maxHeartbeats 400000 in
theorem bey1_any (n a b : Int) (x y z : Nat) (t1 t2 t3 : TypeId) (w : World) (h1 : Whole w x t1 #[.int .i64 n]) (h2 : Whole w y t2 #[.int .i64 a]) (h3 : Whole w z t3 #[.int .i64 b]) :
    Calls Try.prog 32 #[.pointer (some ⟨x, 0, none⟩), .pointer (some ⟨y, 0, none⟩), .pointer (some ⟨z, 0, none⟩)] w fun e w' => e = .returned (.bool (outB n a b)) ∧ Below w.heap.size w w' := by
  obtain ⟨c1, f1⟩ := k_one h1
  obtain ⟨c2, f2⟩ := k_one h2
  obtain ⟨c3, f3⟩ := k_one h3
  have hv : outB n a b = (decide (n < a) || decide (b < n)) := rfl
  by_cases g1 : n < a
  · have HV := Lib.hid (show outB n a b = true by simp [hv, g1])
    clear hv
    go_enter Try.func32, Try.ntmps32
    go_wp2
    go_ret
    exact ⟨by rw [HV.out]; rfl, Below.refl _ _⟩
  · have d1 : decide (n < a) = false := decide_eq_false g1
    have HV := Lib.hid (show outB n a b = decide (b < n) by simp [hv, g1])
    clear hv
    go_enter Try.func32, Try.ntmps32
    go_wp2
    go_ret
    exact ⟨by rw [HV.out]; rfl, Below.refl _ _⟩

set_option maxHeartbeats 400000 in
theorem beyond_any (n a b : Int) (w : World) : Calls Try.prog 26 #[.int .i64 n, .int .i64 a, .int .i64 b] w fun e w' => ∃ v, e = .returned v ∧ Doubt Try.prog w' v (outB n a b) ∧ Below w.heap.size w w' := by
  have hmf : ∀ (fn : Fn) (first cap : Array Value) (w : World), (Instr.makeFunc fn first cap).run Try.prog w = .ok (.func fn first cap) w := fun _ _ _ _ => rfl
  go_enter Try.func26, Try.ntmps26
  go_wp2
  go_ret
  have b1 : Below w.heap.size w (((w.alloc (.cells #[.int .i64 n] 2)).alloc (.cells #[.int .i64 a] 2)).alloc (.cells #[.int .i64 b] 2)) := (((Below.refl _ _).alloc (Nat.le_refl _) _).alloc (by simp) _).alloc (by simp; omega) _
  have w1 := ((Whole.new w 2 #[.int .i64 n]).alloc (.cells #[.int .i64 a] 2)).alloc (.cells #[.int .i64 b] 2)
  have w2 := (Whole.new (w.alloc (.cells #[.int .i64 n] 2)) 2 #[.int .i64 a]).alloc (.cells #[.int .i64 b] 2)
  have w3 := Whole.new ((w.alloc (.cells #[.int .i64 n] 2)).alloc (.cells #[.int .i64 a] 2)) 2 #[.int .i64 b]
  simp only [World.size_alloc] at w2 w3
  exact ⟨_, rfl, ⟨_, _, rfl, enters_of Try.func32 (by kernel_rfl) rfl, fun W hW => bey1_any n a b _ _ _ _ _ _ W (k_later hW w1) (k_later hW w2) (k_later hW w3)⟩, b1⟩

end Go.Proofs.Ytjdkndpcjjjlfaa
