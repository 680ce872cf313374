/- The document's own functions of a group that go through lists, each by a contract. -/
import Derived.Test.YtnpjldolppikfaaGRef
import Derived.Test.YtnpjldolppikfaaGNext
namespace Go.Proofs.Ytnpjldolppikfaa
open Go.RowKit

set_option maxRecDepth 100000 in
set_option maxHeartbeats 1000000 in
theorem refList_any (g : Nat) (w : World) (hg : g < 65536) : Calls Try.prog 68 #[.int .u16 (g : Int)] w (FreshI w (listI g)) := by
  have HG := Lib.hid hg
  clear hg
  obtain ⟨i0, hi, hz0, hz1, hz2⟩ := info_parts int_info
  go_enter Try.func68, Try.ntmps68
  go_wp2
  go_loopw [3, 4] (fun v i wr => ∃ k : Nat, k ≤ 16 ∧ i = .int .i64 (k : Int) ∧ wr.ownsRow w.heap.size 3 1 v (gotG g (List.range k)).length (iv (gotG g (List.range k))) ∧ Below w.heap.size w wr) (fun _ i _ => 16 - (intOf i).toNat)
  case atStart => exact ⟨0, by omega, rfl, World.ownsRow_nil _ _ _ _, Below.refl _ _⟩
  case round =>
    obtain ⟨k, hk, rfl, hrow, hbl⟩ := hrel
    by_cases hlt : k < 16
    · have hgl := gotG_length g (List.range k)
      rw [List.length_range] at hgl
      cases hh : hasG g (k : Int)
      · have HH := Lib.hid hh
        have HM := Lib.hid (gotG_miss (List.range k) hh)
        clear hh
        go_wp2_with (go_at_call 70; refine (refHas_any _ _ _ HG.out).mono ?_; rintro e w' ⟨rfl, rfl⟩; rw [HH.out])
        go_roundw
        case rel => exact ⟨k + 1, by omega, by go_num, by rw [List.range_succ, HM.out]; exact hrow, hbl⟩
        case measure => simp [intOf]; omega
      · have HH := Lib.hid hh
        have HM := Lib.hid (gotG_hit (List.range k) hh)
        clear hh
        go_wp2_with (first
          | (go_at_call 70; refine (refHas_any _ _ _ HG.out).mono ?_; rintro e w' ⟨rfl, rfl⟩; rw [HH.out])
          | (at_builtin; refine wpList_append_own _ rfl _ _ 59 rfl w.heap.size 3 i0 (.int .i64 0) 1 8 Try.underlying59 hi hz0 hz1 hz2 rfl (by decide) _ _ _ rfl (hrow.alloc _) ⟨wr.heap.size, 0, none⟩ 1 1 [.int .i64 (k : Int)] rfl rfl (cell_one_new _ _ _) (by simp [Value.oneCell']) (by unfold maxLen; omega) (by omega) (by have := hbl.size; simp; omega) ?_; intro v' w2 hown' hgrow _; have hb2 := ((Below.refl w.heap.size wr).alloc hbl.size _).grown hgrow (by have := hbl.size; simp; omega) (fun j ej => (hrow.lt j ej).1)))
        go_roundw
        case rel => exact ⟨k + 1, by omega, by go_num, by rw [List.range_succ, HM.out, iv_append, List.length_append]; exact hown', hbl.trans hb2⟩
        case measure => simp [intOf]; omega
    · obtain rfl : k = 16 := by omega
      have he : gotG g (List.range 16) = listI g := by rw [← gotG_last, fol_last]
      rw [he] at hrow
      go_wp2
      go_ret
      exact ⟨_, rfl, hrow, hbl⟩

theorem nextG_no {g : Nat} {n : Int} (h : nodeB n = false) : nextG g n = -1 := if_neg (by rw [h]; decide)

end Go.Proofs.Ytnpjldolppikfaa
