/- bounds, Of and Spread, by their contracts. No condition. -/
import Derived.Test.YteljalgfkmnamaaZTrim
namespace Go.Proofs.Yteljalgfkmnamaa
open Go.RowKit Go.Shelf

def loT (l : List Int) (k : Int) : Int := if okM l k = true then loM l k.toNat else 0
def hiT (l : List Int) (k : Int) : Int := if okM l k = true then hiM l k.toNat else 0
def midT (l : List Int) (k : Int) : Int := if okM l k = true then midM l k.toNat else 0
def sprT (l : List Int) (k : Int) : Int := if okM l k = true then sprM l k.toNat else 0
theorem okM_parts {l : List Int} {k : Int} (h : okM l k = true) : okV l = true ∧ ∃ m : Nat, k = (m : Int) ∧ 2 * m + 1 ≤ l.length := by
  unfold okM at h
  simp only [Bool.and_eq_true] at h
  exact ⟨h.1, okN_iff.1 h.2⟩
theorem outT_ends (l : List Int) (k : Int) : leastL (outT l k) = loT l k ∧ mostL (outT l k) = hiT l k := by
  unfold outT loT hiT
  by_cases h : okM l k = true
  · obtain ⟨_, m, rfl, hm⟩ := okM_parts h
    rw [if_pos h, if_pos h, if_pos h, Int.toNat_natCast]
    exact trim_ends hm
  · rw [if_neg h, if_neg h, if_neg h]
    exact ⟨rfl, rfl⟩
theorem ends_ok (l : List Int) (k : Int) : (-4294967296 ≤ loT l k ∧ loT l k ≤ 4294967296) ∧ (-4294967296 ≤ hiT l k ∧ hiT l k ≤ 4294967296) := by
  unfold loT hiT
  by_cases h : okM l k = true
  · obtain ⟨hv, m, rfl, hm⟩ := okM_parts h
    rw [if_pos h, if_pos h, Int.toNat_natCast]
    exact ⟨lo_ok hv hm, hi_ok hv hm⟩
  · rw [if_neg h, if_neg h]
    omega
theorem midT_is (l : List Int) (k : Int) : midT l k = (loT l k + hiT l k) / 2 ∧ sprT l k = hiT l k - loT l k := by
  unfold midT sprT loT hiT midM sprM
  cases okM l k
  · exact ⟨rfl, rfl⟩
  · exact ⟨rfl, rfl⟩
/-- A slice that Trim answered reads as what is left. -/
theorem trimD_src {l : List Int} {k : Int} {w w' : World} {e : Ending} (h : TrimD l k w e w') : ∃ A c, e = .returned (.tuple #[.slice A (outT l k).length c, .int .i64 (errT l k)]) ∧ RSrc inC 1 w' ⟨A, (outT l k).length, c⟩ (outT l k) ∧ (∀ ad, A = some ad → w.heap.size ≤ ad.block) ∧ w'.ownsRow w.heap.size 2 1 (.slice A (outT l k).length c) (outT l k).length ((outT l k).flatMap inC) ∧ Below w.heap.size w w' := by
  obtain ⟨v, rfl, hr, hb⟩ := h
  obtain ⟨⟨A, n, c⟩, rfl, hs, hA⟩ := rsrc_of_own (cells := inC) (fun _ => rfl) rfl hr
  have hn : (outT l k).length = n := hs.len
  subst hn
  refine ⟨A, c, rfl, hs, fun ad e => ?_, hr, hb⟩
  subst e
  exact (own_typed hr hA.symm).1

set_option maxRecDepth 100000 in
set_option maxHeartbeats 2000000 in
theorem bounds_any (w : World) (s : Sl) (l : List Int) (k : Int) (h : RSrc inC 1 w s l) (hn : s.n ≤ 1000) : Calls Try.prog 38 #[s.v, .int .i64 k] w fun e w' => e = .returned (.tuple #[.int .i64 (loT l k), .int .i64 (hiT l k), .int .i64 (errT l k)]) ∧ Below w.heap.size w w' := by
  have HT := Lib.hid (Trim_any w s l k h hn)
  obtain ⟨o1, o2⟩ := outT_ends l k
  rw [← o1, ← o2]
  clear o1 o2 h
  obtain ⟨A, n, c⟩ := s
  unfold Sl.v at *
  dsimp only at *
  go_enter Try.func38, Try.ntmps38
  go_wp2_with (first
    | (go_at_call 48; refine HT.out.mono ?_; rintro e w1 hd; obtain ⟨A1, c1, rfl, hs, _, _, hb⟩ := trimD_src hd; have HE := Lib.hid (ends_any w1 _ _ hs); have HB := Lib.hid hb; clear hd hs hb; unfold Sl.v at HE; dsimp only at HE)
    | (go_at_call 49; refine HE.out.mono ?_; rintro e w2 ⟨rfl, hww⟩; obtain rfl := hww.symm))
  go_ret3
  exact ⟨rfl, HB.out⟩

set_option maxRecDepth 100000 in
set_option maxHeartbeats 2000000 in
theorem Of_any (w : World) (s : Sl) (l : List Int) (k : Int) (h : RSrc inC 1 w s l) (hn : s.n ≤ 1000) : Calls Try.prog 29 #[s.v, .int .i64 k] w fun e w' => e = .returned (.tuple #[.int .i64 (midT l k), .int .i64 (errT l k)]) ∧ Below w.heap.size w w' := by
  have HT := Lib.hid (bounds_any w s l k h hn)
  obtain ⟨o1, o2⟩ := ends_ok l k
  rw [(midT_is l k).1]
  generalize loT l k = x at *
  generalize hiT l k = y at *
  generalize errT l k = z at *
  have s1 : IntKind.i64.wrap (x + y) = x + y := IntWalk.i64_in _ (by omega)
  have s2 : IntKind.i64.wrap ((x + y) / 2) = (x + y) / 2 := IntWalk.i64_in _ (by omega)
  clear h o1 o2
  obtain ⟨A, n, c⟩ := s
  unfold Sl.v at *
  dsimp only at *
  go_enter Try.func29, Try.ntmps29
  go_wp2_with (go_at_call 38; refine HT.out.mono ?_; rintro e w1 ⟨rfl, hb⟩; have HB := Lib.hid hb; clear hb)
  go_ret2
  exact ⟨rfl, HB.out⟩

end Go.Proofs.Yteljalgfkmnamaa
