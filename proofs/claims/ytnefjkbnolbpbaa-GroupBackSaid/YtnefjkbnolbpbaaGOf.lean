/- Of of a group, and the document's own, each by a contract. -/
import Derived.Test.YtnefjkbnolbpbaaGList
namespace Go.Proofs.Ytnefjkbnolbpbaa
open Go.RowKit

/-- The group of a list of numbers; 0, if one is no node. -/
def ofV (l : List Int) : Nat := if l.all nodeB = true then l.foldl withG 0 else 0
/-- The error that stands beside it. -/
def ofE (l : List Int) : Int := if l.all nodeB = true then 0 else 2

theorem fold_lt (l : List Int) : ∀ g, g < 65536 → l.foldl withG g < 65536 := by
  induction l with
  | nil => intro g h; exact h
  | cons x l ih => intro g h; exact ih _ (withG_lt x h)
theorem fold_take {l : List Int} {k : Nat} (h : k < l.length) : (l.take (k + 1)).foldl withG 0 = withG ((l.take k).foldl withG 0) l[k] := by
  rw [List.take_succ_eq_append_getElem h, List.foldl_append]
  rfl
theorem ofV_lt (l : List Int) : ofV l < 65536 := by
  unfold ofV
  split
  · exact fold_lt l 0 (by decide)
  · decide
theorem all_of {l : List Int} (h : ∀ j (hj : j < l.length), nodeB l[j] = true) : l.all nodeB = true := by
  rw [List.all_eq_true]
  intro x hx
  obtain ⟨j, hj, rfl⟩ := List.getElem_of_mem hx
  exact h j hj
theorem all_no {l : List Int} {j : Nat} (hj : j < l.length) (h : nodeB l[j] = false) : l.all nodeB = false := by
  rw [← Bool.not_eq_true, List.all_eq_true]
  intro hall
  rw [hall _ (List.getElem_mem hj)] at h
  cases h

/-- What Of says. -/
def SaysOf (w : World) (l : List Int) (e : Ending) (w' : World) : Prop := e = .returned (.tuple #[.int .u16 ((ofV l : Nat) : Int), .int .i64 (ofE l)]) ∧ w = w'
theorem SaysOf.good {w : World} {l : List Int} (h : l.all nodeB = true) : SaysOf w l (.returned (.tuple #[.int .u16 ((l.foldl withG 0 : Nat) : Int), .int .i64 0])) w := by
  refine ⟨?_, rfl⟩
  rw [ofV, ofE, if_pos h, if_pos h]
theorem SaysOf.bad {w : World} {l : List Int} (h : l.all nodeB = false) : SaysOf w l (.returned (.tuple #[.int .u16 0, .int .i64 2])) w := by
  refine ⟨?_, rfl⟩
  rw [ofV, ofE, if_neg (by rw [h]; decide), if_neg (by rw [h]; decide)]
  rfl

set_option maxHeartbeats 1000000 in
theorem of_any (A : Option Addr) (c : Nat) (l : List Int) (w : World) (h : ISrc w A l) (hlen : l.length ≤ 9223372036854775807) :
    Calls Try.prog 32 #[.slice A l.length c] w (SaysOf w l) := by
  go_enter Try.func32, Try.ntmps32
  go_wp2
  go_loop [4, 9] (fun g i => ∃ k : Nat, k ≤ l.length ∧ i = .int .i64 (k : Int) ∧ g = .int .u16 (((l.take k).foldl withG 0 : Nat) : Int) ∧ ∀ j (hj : j < l.length), j < k → nodeB l[j] = true) (fun _ i => l.length - (intOf i).toNat)
  case atStart => exact ⟨0, by omega, rfl, rfl, fun j _ h => absurd h (by omega)⟩
  case round =>
    obtain ⟨k, hk, rfl, rfl, hall⟩ := hrel
    by_cases hlt : k < l.length
    · obtain ⟨b, o, rfl, hcell⟩ := h (by omega)
      have hc := hcell k hlt
      have hft := fold_take hlt
      have hgl := fold_lt (l.take k) 0 (by decide)
      have HA := Lib.hid hall
      clear hall hcell h
      cases hn : nodeB l[k]
      · have HB := Lib.hid (all_no hlt hn)
        generalize hxx : l[k] = x at *
        have HX := Lib.hid hxx
        have HN := Lib.hid hn
        clear hxx hn hft
        go_wp2_with (go_at_call 43; refine (isNode_no HN.out _).mono ?_; rintro e w' ⟨rfl, rfl⟩)
        go_ret2
        exact SaysOf.bad HB.out
      · have HN := Lib.hid hn
        have HF := Lib.hid hft
        clear hn hft
        generalize hxx : l[k] = x at *
        have HX := Lib.hid hxx
        clear hxx
        go_wp2_with (first | (go_at_call 43; refine (isNode_yes HN.out _).mono ?_; rintro e w' ⟨rfl, rfl⟩) | (go_at_call 16; refine (with_any _ _ _ hgl).mono ?_; rintro e w' ⟨rfl, rfl⟩))
        go_round
        case rel =>
          refine ⟨k + 1, by omega, by go_num, by rw [HF.out], fun j hj hjk => ?_⟩
          by_cases e : j = k
          · subst e; rw [HX.out]; exact HN.out
          · exact HA.out j hj (by omega)
        case measure => simp [intOf]; omega
    · have hkl : l.take k = l := List.take_of_length_le (by omega)
      have hg := SaysOf.good (w := w) (all_of fun j hj => hall j hj (by omega))
      rw [hkl]
      have HG := Lib.hid hg
      clear hg hall hkl
      go_wp2
      go_ret2
      exact HG.out

end Go.Proofs.Ytnefjkbnolbpbaa
