/- The bytes of a C-state: the program's and the document's, each by a contract. -/
import Derived.Test.YtnpjldolppikfaaCStep
import Derived.Test.YtnpjldolppikfaaRPut
import Derived.Test.YtnpjldolppikfaaAlive
import Derived.Outline
namespace Go.Proofs.Ytnpjldolppikfaa
open Go.RowKit

def encL (R S M G : Nat) : List UInt8 := beBytes 4 R ++ beBytes 1 S ++ beBytes 1 M ++ beBytes 2 G
theorem encL_length (R S M G : Nat) : (encL R S M G).length = 8 := by simp [encL, beBytes_length]
def encV (r s m : Int) (G : Nat) : List UInt8 := if okC r s m then encL r.toNat s.toNat m.toNat G else []

theorem put_yes (l : List UInt8) (n : Nat) (x : Nat) (hn : isW n = true) (hx : x < 2 ^ (8 * n)) : putSt (some l) (n : Int) x = some (l ++ beBytes n x) := by
  simp [putSt, fitsW, hn, hx]

/-- What an Out becomes by a call that writes on: w the world from which on all is its own. -/
def Onto (w : World) (S : Nat → Prop) (a : Nat) (l : List UInt8) (w' : World) : Prop := OutAt w' (Grow S w w') a (some l) ∧ Kept S w w'

theorem put_on {w w1 : World} {S : Nat → Prop} {a : Nat} {l : List UInt8} (hlt : ∀ k, S k → k < w.heap.size) (h : Onto w S a l w1) (m : Int) (n x : Nat) (hm : m = (n : Int)) (hn : isW n = true) (hx : x < 2 ^ (8 * n)) (hn8 : n ≤ 8) (hl : l.length ≤ 100) :
    Calls Try.prog 33 #[.pointer (some ⟨a, 0, none⟩), .int .i64 m, .int .u64 (x : Int)] w1 fun e w2 => e = .returned (.pointer (some ⟨a, 0, none⟩)) ∧ Onto w S a (l ++ beBytes n x) w2 ∧ Kept (Grow S w w1) w1 w2 := by
  have h64 : x < 18446744073709551616 := by
    have : 2 ^ (8 * n) ≤ 2 ^ 64 := Nat.pow_le_pow_right (by decide) (by omega)
    omega
  subst hm
  refine (put_any w1 _ a n x _ h.1 h64 (by simp; omega)).mono ?_
  rintro e w2 ⟨rfl, o2, k2⟩
  rw [put_yes l n x hn hx] at o2
  exact ⟨rfl, ⟨o2.more (Grow.twice h.2.size k2.size) (Grow.lt hlt (Nat.le_trans h.2.size k2.size)), h.2.trans k2 (fun i hi hg => by
    rcases hg with hg | hg
    · exact hg
    · omega)⟩, k2⟩

set_option maxHeartbeats 1000000 in
theorem write4_any (R S M G : Nat) (a : Nat) (T : Nat → Prop) (w : World) (o : OutAt w T a (some [])) (hR : R ≤ 2147483647) (hS : S ≤ 15) (hM : M ≤ 7) (hG : G < 65536) :
    Calls Try.prog 32 #[.agg #[.int .i64 (R : Int), .int .i64 (S : Int), .int .i64 (M : Int), .int .u16 (G : Int)], .func (.func 33) #[.pointer (some ⟨a, 0, none⟩)] #[]] w fun e w' => e = .returned (.tuple #[]) ∧ OutAt w' (Grow T w w') a (some (encL R S M G)) ∧ Kept T w w' := by
  obtain ⟨w0, hw0⟩ : ∃ w0, w.alloc (.cells #[.int .i64 (R : Int), .int .i64 (S : Int), .int .i64 (M : Int), .int .u16 (G : Int)] 25) = w0 := ⟨_, rfl⟩
  have k0 : Kept T w w0 := by rw [← hw0]; exact (Kept.refl _ _).alloc _
  have kE : Kept Empty w w0 := by rw [← hw0]; exact (Kept.refl _ _).alloc _
  have W0 : Whole w0 w.heap.size 25 #[.int .i64 (R : Int), .int .i64 (S : Int), .int .i64 (M : Int), .int .u16 (G : Int)] := by rw [← hw0]; exact Whole.new _ _ _
  have hlt : ∀ k, T k → k < w0.heap.size := fun k hk => Nat.lt_of_lt_of_le (o.lt k hk) k0.size
  have hbox : ¬ T w.heap.size := fun h => by have := o.lt _ h; omega
  have hz : w.heap.size < w0.heap.size := W0.lt
  have h0 : Onto w0 T a [] w0 := ⟨(o.keep kE (fun _ _ h => h)).more (fun k hk => .inl hk) (Grow.lt hlt (Nat.le_refl _)), Kept.refl _ _⟩
  have far : ∀ w1, ¬ Grow T w0 w1 w.heap.size := fun w1 h => by
    rcases h with h | h
    · exact hbox h
    · omega
  have P1 := fun (w1 : World) (l : List UInt8) (h : Onto w0 T a l w1) (hl : l.length ≤ 100) => put_on hlt h 4 4 R rfl (by decide) (by omega) (by decide) hl
  have P2 := fun (w1 : World) (l : List UInt8) (h : Onto w0 T a l w1) (hl : l.length ≤ 100) => put_on hlt h 1 1 S rfl (by decide) (by omega) (by decide) hl
  have P3 := fun (w1 : World) (l : List UInt8) (h : Onto w0 T a l w1) (hl : l.length ≤ 100) => put_on hlt h 1 1 M rfl (by decide) (by omega) (by decide) hl
  have P4 := fun (w1 : World) (l : List UInt8) (h : Onto w0 T a l w1) (hl : l.length ≤ 100) => put_on hlt h 2 2 G rfl (by decide) (by omega) (by decide) hl
  have fin : ∀ w', Onto w0 T a (encL R S M G) w' → OutAt w' (Grow T w w') a (some (encL R S M G)) ∧ Kept T w w' := fun w' h => by
    refine ⟨h.1.more (fun k hk => ?_) (Grow.lt (fun k hk => o.lt k hk) (Nat.le_trans k0.size h.2.size)), k0.trans h.2 (fun _ _ h => h)⟩
    rcases hk with hk | hk
    · exact .inl hk
    · exact .inr ⟨by omega, hk.2⟩
  have HP1 := Lib.hid P1
  have HP2 := Lib.hid P2
  have HP3 := Lib.hid P3
  have HP4 := Lib.hid P4
  have HF := Lib.hid fin
  have HW := Lib.hid hw0
  have HFar := Lib.hid far
  clear P1 P2 P3 P4 fin hw0 k0 kE far hlt o
  go_enter Try.func32, Try.ntmps32
  go_wp2_with fail
  rw [HW.out]
  with_reducible refine (HP1.out _ _ h0 (by decide)).mono ?_
  rintro e w1 ⟨rfl, h1, k1⟩
  have W1 := W0.kept k1 (HFar.out _)
  obtain ⟨c0, c1, c2, c3, cf⟩ := W1.four
  go_wp2_with fail
  with_reducible refine (HP2.out _ _ h1 (by simp [beBytes_length])).mono ?_
  rintro e w2 ⟨rfl, h2, k2⟩
  have W2 := W1.kept k2 (HFar.out _)
  clear c0 c1 c2 c3 cf
  obtain ⟨c0, c1, c2, c3, cf⟩ := W2.four
  go_wp2_with fail
  with_reducible refine (HP3.out _ _ h2 (by simp [beBytes_length])).mono ?_
  rintro e w3 ⟨rfl, h3, k3⟩
  have W3 := W2.kept k3 (HFar.out _)
  clear c0 c1 c2 c3 cf
  obtain ⟨c0, c1, c2, c3, cf⟩ := W3.four
  go_wp2_with fail
  with_reducible refine (HP4.out _ _ h3 (by simp [beBytes_length])).mono ?_
  rintro e w4 ⟨rfl, h4, k4⟩
  have hf := HF.out _ h4
  clear c0 c1 c2 c3 cf
  go_wp2
  go_end0
  exact ⟨rfl, hf⟩

end Go.Proofs.Ytnpjldolppikfaa
