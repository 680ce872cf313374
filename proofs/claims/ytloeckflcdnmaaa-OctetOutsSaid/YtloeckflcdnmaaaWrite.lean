/- write, a call of an Out, by a contract. -/
import Derived.Test.YtloeckflcdnmaaaPutb
import Derived.Test.YtloeckflcdnmaaaAlive
import Derived.Test.YtloeckflcdnmaaaOps
namespace Go.Proofs.Ytloeckflcdnmaaa
open Go.RowKit

/-- What a call makes of an Out. -/
def writeSt (st : Option (List UInt8)) (x : OpD) : Option (List UInt8) := if x.kind = 0 then putSt st x.n x.v else if x.kind = 1 then st.map (· ++ x.b) else st

/-- What is left of an Out behind a call that answers nothing. -/
def Done0 (w : World) (S : Nat → Prop) (a : Nat) (st : Option (List UInt8)) (e : Ending) (w' : World) : Prop :=
  e = .returned (.tuple #[]) ∧ OutAt w' (Grow S w w') a st ∧ Kept S w w'

theorem Turned.later {w w0 w1 : World} {S : Nat → Prop} {a : Nat} {st : Option (List UInt8)} {e : Ending} (hlt : ∀ k, S k → k < w.heap.size) (k0 : Kept Empty w w0) (h : Turned w0 S a st e w1) : OutAt w1 (Grow S w w1) a st ∧ Kept S w w1 := by
  obtain ⟨_, h1, h2⟩ := h
  have hk : Kept S w w1 := (k0.mono (fun _ h => h.elim)).trans h2 (fun _ _ h => h)
  refine ⟨h1.more (fun k hg => ?_) (Grow.lt hlt hk.size), hk⟩
  rcases hg with hg | hg
  · exact .inl hg
  · exact .inr ⟨Nat.le_trans k0.size hg.1, hg.2⟩

theorem tail_any (w : World) (S : Nat → Prop) (a : Nat) (st : Option (List UInt8)) (A : Option Addr) (c : Nat) (b : List UInt8) (h : OutAt w S a st) (hb : Src w A b.length b) (hS : 0 < b.length → ∀ ad, A = some ad → ¬ S ad.block) (hlen : (st.getD []).length + b.length ≤ 549755813888) :
    Calls Try.prog 14 #[.pointer (some ⟨a, 0, none⟩), .slice A b.length c] w (Turned w S a (st.map (· ++ b))) := by
  cases st with
  | none => exact tail_bad w S a _ h
  | some l => exact tail_good w S a l A b.length c b h hb hS hlen

set_option maxHeartbeats 1000000 in
theorem write_any (w : World) (S : Nat → Prop) (a : Nat) (st : Option (List UInt8)) (x : OpD) (B : Option Addr) (c : Nat) (h : OutAt w S a st) (hv : x.v < 18446744073709551616) (hb : Src w B x.b.length x.b) (hS : 0 < x.b.length → ∀ ad, B = some ad → ¬ S ad.block ∧ ad.block < w.heap.size) (hlen : (st.getD []).length + x.b.length ≤ 274877906944) :
    Calls Try.prog 27 #[.pointer (some ⟨a, 0, none⟩), .agg #[.int .i64 x.kind, .int .i64 x.n, .int .u64 (x.v : Int), .slice B x.b.length c]] w (Done0 w S a (writeSt st x)) := by
  obtain ⟨w0, hw0⟩ : ∃ w0, w.alloc (.cells #[.int .i64 x.kind, .int .i64 x.n, .int .u64 (x.v : Int), .slice B x.b.length c] 34) = w0 := ⟨_, rfl⟩
  have k0 : Kept Empty w w0 := by rw [← hw0]; exact (Kept.refl _ _).alloc _
  have h0 := h.keep k0 (fun _ _ h => h)
  have hb0 := hb.kept k0 (fun _ _ h => h)
  by_cases e0 : x.kind = 0
  · have es : writeSt st x = putSt st x.n x.v := if_pos e0
    rw [es, e0]
    rw [e0] at hw0
    have HP := Lib.hid (put_any w0 S a x.n x.v st h0 hv (by omega))
    subst hw0
    clear es hv e0
    go_enter Try.func27, Try.ntmps27
    go_wp2_with (go_at_call 12; refine HP.out.mono ?_; rintro e w1 ht; obtain ⟨q1, q2⟩ := Turned.later h.lt k0 ht; obtain ⟨rfl, _, _⟩ := ht)
    go_end0
    exact ⟨rfl, q1, q2⟩
  · by_cases e1 : x.kind = 1
    · have es : writeSt st x = st.map (· ++ x.b) := by simp [writeSt, e1]
      rw [es, e1]
      rw [e1] at hw0
      have HP := Lib.hid (tail_any w0 S a st B c x.b h0 hb0 (fun h ad e => (hS h ad e).1) (by omega))
      subst hw0
      clear es hv e0 e1
      go_enter Try.func27, Try.ntmps27
      go_wp2_with (go_at_call 14; refine HP.out.mono ?_; rintro e w1 ht; obtain ⟨q1, q2⟩ := Turned.later h.lt k0 ht; obtain ⟨rfl, _, _⟩ := ht)
      go_end0
      exact ⟨rfl, q1, q2⟩
    · have es : writeSt st x = st := by simp [writeSt, e0, e1]
      rw [es]
      have t0 : (x.kind == 0) = false := by simp [e0]
      have t1 : (x.kind == 1) = false := by simp [e1]
      subst hw0
      clear es hv e0 e1
      have hlt := h.lt
      go_enter Try.func27, Try.ntmps27
      go_wp2
      go_end0
      exact ⟨rfl, h0.more (fun _ h => .inl h) (Grow.lt hlt k0.size), k0.mono (fun _ h => h.elim)⟩

end Go.Proofs.Ytloeckflcdnmaaa
