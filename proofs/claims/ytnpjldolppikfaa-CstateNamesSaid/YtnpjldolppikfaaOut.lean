/- The calls All, Len and Tail of an Out, each by a contract. -/
import Derived.Test.YtnpjldolppikfaaOct
namespace Go.Proofs.Ytnpjldolppikfaa
open Go.RowKit

/-- A slice in new memory that reads as l. -/
def Fresh (w : World) (l : List UInt8) (e : Ending) (w' : World) : Prop :=
  ∃ v, e = .returned v ∧ w'.ownsRow w.heap.size 5 1 v l.length (bv l) ∧ Below w.heap.size w w'

def Turned (w : World) (S : Nat → Prop) (a : Nat) (st : Option (List UInt8)) (e : Ending) (w' : World) : Prop :=
  e = .returned (.pointer (some ⟨a, 0, none⟩)) ∧ OutAt w' (Grow S w w') a st ∧ Kept S w w'

set_option maxHeartbeats 400000 in
theorem all_any (w : World) (S : Nat → Prop) (a : Nat) (st : Option (List UInt8)) (h : OutAt w S a st) (hlen : (st.getD []).length ≤ 549755813888) :
    Calls Try.prog 34 #[.pointer (some ⟨a, 0, none⟩)] w (Fresh w (st.getD [])) := by
  generalize hl : st.getD [] = l
  have HL := Lib.hid hl
  rw [hl] at hlen
  clear hl
  go_enter Try.func34, Try.ntmps34
  go_wp2_with fail
  refine (written_any w S a st h (by rw [HL.out]; exact hlen)).mono ?_
  rintro e w1 ⟨A, c, k, rfl, hsrc, hA, _, rfl⟩
  rw [HL.out] at hsrc ⊢
  go_wp2_with fail
  refine (clone_any A l.length c l _ (by exact hsrc) hA hlen).mono ?_
  rintro e w2 ⟨v, rfl, hown, hb⟩
  go_wp2
  go_ret
  exact ⟨v, rfl, hown, ⟨hb.os, hb.tape, hb.output, hb.size, hb.block⟩⟩

theorem OutAt.bad {w : World} {S : Nat → Prop} {a : Nat} (h : OutAt w S a none) : OutCells w a none 0 true := by
  rcases h.shape with ⟨_, c⟩ | ⟨e, _⟩ | ⟨l, _, _, e, _⟩
  · exact c
  · cases e
  · cases e
theorem OutAt.good {w : World} {S : Nat → Prop} {a : Nat} {l : List UInt8} (h : OutAt w S a (some l)) : ∃ sp, OutCells w a sp (l.length : Int) false := by
  rcases h.shape with ⟨e, _⟩ | ⟨e, c⟩ | ⟨l', _, _, e, c, _⟩
  · cases e
  · cases e; exact ⟨_, c⟩
  · cases e; exact ⟨_, c⟩
theorem OutAt.spoilt {w : World} {S : Nat → Prop} {a : Nat} {st : Option (List UInt8)} (h : OutAt w S a st) : Calls Try.prog 57 #[.pointer (some ⟨a, 0, none⟩)] w fun e w' => e = .returned (.bool st.isNone) ∧ w = w' := by
  cases st with
  | none => exact spoilt_any _ _ _ _ _ h.bad
  | some l => obtain ⟨sp, c⟩ := h.good; exact spoilt_any _ _ _ _ _ c

theorem Kept.fromGrow {S : Nat → Prop} {a b c : World} (h : Kept S a b) (k : Kept (Grow S a b) b c) : Kept S a c :=
  h.trans k (fun i hi hg => by rcases hg with hg | hg; exact hg; omega)
theorem Grow.twice {S : Nat → Prop} {a b c : World} (ha : a.heap.size ≤ b.heap.size) (hb : b.heap.size ≤ c.heap.size) : ∀ k, Grow (Grow S a b) b c k → Grow S a c k := by
  rintro k ((h | h) | h)
  · exact .inl h
  · exact .inr ⟨h.1, by omega⟩
  · exact .inr ⟨by omega, h.2⟩

/-- An Out turned in two steps. -/
theorem Shelf.grow {w w1 w2 : World} {S : Nat → Prop} {a sb : Nat} {n : Int} {l : List UInt8} {v : Value} (hlt : ∀ k, S k → k < w.heap.size) (k1 : Kept S w w1) (k2 : Kept (Grow S w w1) w1 w2) (h : Shelf w2 (Grow (Grow S w w1) w1 w2) a sb n l v) : Shelf w2 (Grow S w w2) a sb n l v ∧ Kept S w w2 :=
  ⟨h.more (Grow.twice k1.size k2.size) (Grow.lt hlt (k1.fromGrow k2).size), k1.fromGrow k2⟩

section
variable {w w1 w2 : World} {S T : Nat → Prop} {a sb m : Nat} {n : Int} {l b : List UInt8} {v v2 : Value}
/-- What the walk wants behind the append. -/
theorem tail_step (h : Shelf w1 T a sb n l v) (hb : b.length = m) (h1 : w2.ownsRow 0 5 1 v2 (l.length + m) (bv l ++ bv b)) (h2 : w1.grownBy w2 v.ownBlock) (h3 : v2.ownBlock = v.ownBlock ∨ v2.ownBlock = some w1.heap.size) :
    ∃ A2 c2, v2 = .slice A2 (l.length + m) c2 ∧ w2.cell? ⟨sb, 0, none⟩ = some v ∧ w2.frozen? ⟨sb, 0, none⟩ = false ∧
      (w2.setCell ⟨sb, 0, none⟩ v2).cell? ⟨sb, 0, none⟩ = some v2 ∧ (w2.setCell ⟨sb, 0, none⟩ v2).cell? ⟨a, 1, none⟩ = some (.int .i64 n) ∧ (w2.setCell ⟨sb, 0, none⟩ v2).frozen? ⟨a, 1, none⟩ = false ∧ w2.cell? ⟨a, 1, none⟩ = some (.int .i64 n) := by
  subst hb
  rw [← bv_append, ← List.length_append] at h1
  obtain ⟨A2, c2, e, _⟩ := Src.of_own h1
  have hg := (h.appended h2 h1 h3).1
  have hsw := h.whole.grown h2 (h.whole.not_row (by decide) h.row)
  have hcw := h.cells.whole.grown h2 (h.cells.whole.not_row (by decide) h.row)
  refine ⟨A2, c2, by rw [e, List.length_append], by simpa using hsw.cell 0, hsw.frozen 0, by simpa using hg.whole.cell 0, by simpa using hg.cells.whole.cell 1, hg.cells.whole.frozen 1, by simpa using hcw.cell 1⟩

theorem tail_done (hlt : ∀ k, S k → k < w.heap.size) (hk : Kept S w w1) (h : Shelf w1 (Grow S w w1) a sb n l v) (hb : b.length = m) (h1 : w2.ownsRow 0 5 1 v2 (l.length + m) (bv l ++ bv b)) (h2 : w1.grownBy w2 v.ownBlock) (h3 : v2.ownBlock = v.ownBlock ∨ v2.ownBlock = some w1.heap.size) :
    Turned w S a (some (l ++ b)) (.returned (.pointer (some ⟨a, 0, none⟩))) ((w2.setCell ⟨sb, 0, none⟩ v2).setCell ⟨a, 1, none⟩ (.int .i64 ((l.length : Int) + (m : Int)))) := by
  subst hb
  rw [← bv_append, ← List.length_append] at h1
  obtain ⟨hs, hk2⟩ := h.appended h2 h1 h3
  obtain ⟨hs3, hk3⟩ := hs.sized
  obtain ⟨hs4, hk4⟩ := Shelf.grow hlt hk hk2 hs
  obtain ⟨hs5, hk5⟩ := hs4.sized
  have e : ((l.length : Int) + (b.length : Int)) = (((l ++ b).length : Nat) : Int) := by simp
  rw [e]
  refine ⟨rfl, (hs5.more (T := Grow S w _) (fun k hg => ?_) (Grow.lt hlt ?_)).out, hk4.fromGrow hk5⟩
  · rcases hg with hg | hg
    · exact .inl hg
    · exact .inr ⟨hg.1, Nat.lt_of_lt_of_le hg.2 hk5.size⟩
  · exact Nat.le_trans hk4.size hk5.size
end

end Go.Proofs.Ytnpjldolppikfaa
