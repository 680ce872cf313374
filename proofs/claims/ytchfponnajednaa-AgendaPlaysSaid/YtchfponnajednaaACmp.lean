/- cmp.Compare at three kinds of numbers, cmp.Or, and Less of the list: by contracts. No condition. -/
import Derived.Test.YtchfponnajednaaARow
import Derived.Test.YtchfponnajednaaLater
namespace Go.Proofs.Ytchfponnajednaa
open Go.RowKit Go.Shelf

def cmpZ (x y : Int) : Int := if x < y then -1 else if y < x then 1 else 0
theorem nan64_any (x : Int) (w : World) : Calls Try.prog 68 #[.int .i64 x] w fun e w' => e = .returned (.bool false) ∧ w = w' := by
  go_enter Try.func68, Try.ntmps68
  go_wp2
  go_ret
  exact ⟨rfl, rfl⟩
theorem nan_any (x : Int) (w : World) : Calls Try.prog 69 #[.int .i64 x] w fun e w' => e = .returned (.bool false) ∧ w = w' := by
  go_enter Try.func69, Try.ntmps69
  go_wp2
  go_ret
  exact ⟨rfl, rfl⟩
theorem nanu_any (x : Int) (w : World) : Calls Try.prog 70 #[.int .u64 x] w fun e w' => e = .returned (.bool false) ∧ w = w' := by
  go_enter Try.func70, Try.ntmps70
  go_wp2
  go_ret
  exact ⟨rfl, rfl⟩
theorem cmp_ret {a b : Int} (h : a = b) : Ending.returned (.int .i64 a) = .returned (.int .i64 b) := by rw [h]
theorem cmp64_any (x y : Int) (w : World) : Calls Try.prog 65 #[.int .i64 x, .int .i64 y] w fun e w' => e = .returned (.int .i64 (cmpZ x y)) ∧ w = w' := by
  go_enter Try.func65, Try.ntmps65
  go_wp2_with (go_at_call 68; refine (nan64_any _ _).mono ?_; rintro e w' ⟨rfl, rfl⟩)
  all_goals go_ret
  all_goals exact ⟨cmp_ret (by unfold cmpZ; first | rw [if_pos (by omega)] | rw [if_neg (by omega), if_pos (by omega)] | rw [if_neg (by omega), if_neg (by omega)]), rfl⟩
theorem cmp_any (x y : Int) (w : World) : Calls Try.prog 66 #[.int .i64 x, .int .i64 y] w fun e w' => e = .returned (.int .i64 (cmpZ x y)) ∧ w = w' := by
  go_enter Try.func66, Try.ntmps66
  go_wp2_with (go_at_call 69; refine (nan_any _ _).mono ?_; rintro e w' ⟨rfl, rfl⟩)
  all_goals go_ret
  all_goals exact ⟨cmp_ret (by unfold cmpZ; first | rw [if_pos (by omega)] | rw [if_neg (by omega), if_pos (by omega)] | rw [if_neg (by omega), if_neg (by omega)]), rfl⟩
theorem cmpu_any (x y : Int) (w : World) : Calls Try.prog 67 #[.int .u64 x, .int .u64 y] w fun e w' => e = .returned (.int .i64 (cmpZ x y)) ∧ w = w' := by
  go_enter Try.func67, Try.ntmps67
  go_wp2_with (go_at_call 70; refine (nanu_any _ _).mono ?_; rintro e w' ⟨rfl, rfl⟩)
  all_goals go_ret
  all_goals exact ⟨cmp_ret (by unfold cmpZ; first | rw [if_pos (by omega)] | rw [if_neg (by omega), if_pos (by omega)] | rw [if_neg (by omega), if_neg (by omega)]), rfl⟩

/-- The first that is not 0. -/
def orZ5 (a b c d e : Int) : Int := if a ≠ 0 then a else if b ≠ 0 then b else if c ≠ 0 then c else if d ≠ 0 then d else e
def orL : List Int → Int
  | [] => 0
  | x :: l => if x = 0 then orL l else x
theorem orL_drop {l : List Int} {k : Nat} (hk : k < l.length) : orL (l.drop k) = if l[k] = 0 then orL (l.drop (k + 1)) else l[k] := by
  rw [List.drop_eq_getElem_cons hk]; rfl

set_option maxHeartbeats 1000000 in
theorem or_any (l : List Int) (g c : Nat) (w : World) (hc : ∀ k (h : k < l.length), w.cell? ⟨g, k, none⟩ = some (.int .i64 l[k])) (hl : l.length ≤ 100) :
    Calls Try.prog 64 #[.slice (some ⟨g, 0, none⟩) l.length c] w fun e w' => e = .returned (.int .i64 (orL l)) ∧ w = w' := by
  go_enter Try.func64, Try.ntmps64
  go_wp2
  go_loop [5, 8] (fun _ i => ∃ k : Nat, k ≤ l.length ∧ i = .int .i64 k ∧ orL (l.drop k) = orL l) (fun _ i => l.length - (intOf i).toNat)
  case atStart => exact ⟨0, Nat.zero_le _, rfl, by simp⟩
  case round =>
    obtain ⟨k, hk, rfl, ho⟩ := hrel
    by_cases hlt : k < l.length
    · have hck := hc k hlt
      have hd := orL_drop hlt
      have HD := Lib.hid hd
      have HO := Lib.hid ho
      clear hd ho hc
      generalize l[k] = x at *
      by_cases hx : x = 0
      · subst hx
        go_wp2
        go_round
        case rel => exact ⟨k + 1, by omega, by go_num, by rw [← HO.out, HD.out, if_pos rfl]⟩
        case measure => simp [intOf]; omega
      · go_wp2
        go_ret
        exact ⟨cmp_ret (by rw [← HO.out, HD.out, if_neg hx]), rfl⟩
    · have HO := Lib.hid ho
      clear ho hc
      go_wp2
      go_ret
      exact ⟨cmp_ret (by rw [← HO.out, List.drop_of_length_le (by omega)]; rfl), rfl⟩
theorem or_lt (x : Int) (l : List Int) : orL (x :: l) < 0 ↔ (x < 0 ∨ x = 0 ∧ orL l < 0) := by
  rw [orL]
  by_cases h : x = 0
  · rw [if_pos h]
    constructor
    · intro k; exact .inr ⟨h, k⟩
    · rintro (k | k)
      · omega
      · exact k.2
  · rw [if_neg h]; omega
theorem or_nil : orL [] < 0 ↔ False := by simp [orL]
theorem cmpZ_lt (a b : Int) : cmpZ a b < 0 ↔ a < b := by unfold cmpZ; repeat' split
                                                         all_goals omega
theorem cmpZ_eq (a b : Int) : cmpZ a b = 0 ↔ a = b := by unfold cmpZ; repeat' split
                                                         all_goals omega
theorem less_cmp (x y : En) : decide (orL [cmpZ x.e.t y.e.t, cmpZ x.e.k y.e.k, cmpZ x.e.n y.e.n, cmpZ x.e.m y.e.m, cmpZ (x.u : Int) (y.u : Int)] < 0) = lessB x y := by
  rw [lessB, Bool.eq_iff_iff, decide_eq_true_eq, decide_eq_true_eq]
  simp only [or_lt, or_nil, cmpZ_lt, cmpZ_eq, and_false, or_false]
  unfold lessP aheadP sameP
  omega
end Go.Proofs.Ytchfponnajednaa
