/- The program's names, by a contract: a new row. No condition. -/
import Derived.Test.YtdeiohcciafffaaGreatDoorTNames
import Derived.Deep.Onto
namespace Go.Proofs.YtdeiohcciafffaaGreatDoor
open Go.RowKit Go.Shelf

theorem string_info : (Tryz.prog.info? 9).map (fun i => (i.zero, i.size, i.bytes)) = some (some (.string ByteArray.empty), 1, 16) := by kernel_rfl
theorem namesV_get {k : Nat} (hk : k < 16) : namesV[k]? = some (.string (nameB k)) := by
  rw [namesV, List.getElem?_map, nameL_get hk]
  rfl
theorem namesV_take {k : Nat} (hk : k < 16) : namesV.take (k + 1) = namesV.take k ++ [.string (nameB k)] := by
  rw [List.take_add_one, namesV_get hk]
  rfl
theorem namesV_one : ∀ u ∈ namesV, u.oneCell' = true := by
  intro u hu
  obtain ⟨b, _, rfl⟩ := List.mem_map.1 hu
  rfl
/-- The names are handed back, in a new row of one's own. -/
def NamesP (w : World) (e : Ending) (w' : World) : Prop := ∃ v, e = .returned v ∧ w'.ownsRow w.heap.size 9 1 v 16 namesV ∧ Below w.heap.size w w'
theorem NamesP.opened {w w' : World} {e : Ending} (h : NamesP w e w') : ∃ b c, e = .returned (.slice (some ⟨b, 0, none⟩) 16 c) ∧ w.heap.size ≤ b ∧ b < w'.heap.size ∧ (∀ k, k < 16 → w'.cell? ⟨b, k, none⟩ = some (.string (nameB k))) ∧ (∀ k, w'.frozen? ⟨b, k, none⟩ = false) ∧ Below w.heap.size w w' := by
  obtain ⟨v, rfl, hown, hb⟩ := h
  rcases hown.2 with ⟨rfl, h0⟩ | ⟨g, cap, cur, rfl, hg, hblk, _⟩
  · exact absurd h0 (by decide)
  · exact ⟨g, cap, rfl, hg, (Array.getElem?_eq_some_iff.1 hblk).1, fun k hk => by rw [hown.cellAt k (by omega), namesV_get hk], fun k => hown.frozenAt k, hb⟩

theorem cell_two_new (w : World) (o : Obj) (t : TypeId) (v : Value) : ∀ (j : Nat) u, [v][j]? = some u → ((w.alloc o).alloc (.cells #[v] t)).cell? ((⟨w.heap.size + 1, 0, none⟩ : Addr).add j) = some u := by
  intro j u h
  have := cell_one_new (w.alloc o) v t j u h
  rwa [show (w.alloc o).heap.size = w.heap.size + 1 by simp] at this

set_option maxRecDepth 100000 in
set_option maxHeartbeats 1000000 in
theorem Names_any (w : World) : Calls Tryz.prog 17 #[] w (NamesP w) := by
  have HN := Lib.hid (fun W => numbers_b W)
  obtain ⟨i0, hi, hz0, hz1, hz2⟩ := info_parts string_info
  go_enter Tryz.func17, Tryz.ntmps17
  go_wp2_with (go_at_call 23; refine (HN.out _).mono ?_; rintro e w1 ⟨tb, rfl, hlt, hT, hb⟩; have HT := Lib.hid hT; have HB1 := Lib.hid hb; clear hb hT)
  go_loopw [1, 6] (fun v i wr => ∃ k : Nat, k ≤ 16 ∧ i = .int .i64 (k : Int) ∧ wr.ownsRow w1.heap.size 9 1 v k (namesV.take k) ∧ Below w1.heap.size w1 wr) (fun _ i _ => 16 - (intOf i).toNat)
  case atStart => exact ⟨0, by omega, rfl, World.ownsRow_nil _ _ _ _, Below.refl _ _⟩
  case round =>
    obtain ⟨k, hk, rfl, hrow, hbl⟩ := hrel
    by_cases hlt : k < 16
    · obtain ⟨hc0, hc1, hc2⟩ := tab_cells (k_later hbl HT.out) hlt
      have HTK := Lib.hid (namesV_take hlt)
      generalize nameB k = nk at *
      generalize getF k = gk at *
      generalize setF k = sk at *
      go_wp2_with (at_builtin; refine wpList_append_own _ rfl _ _ 37 rfl w1.heap.size 9 i0 (.string ByteArray.empty) 1 16 Tryz.underlying37 hi hz0 hz1 hz2 rfl (by decide) _ _ _ rfl ((hrow.alloc _).alloc _) ⟨wr.heap.size + 1, 0, none⟩ 1 1 [.string nk] rfl rfl (cell_two_new _ _ _ _) (by simp [Value.oneCell']) (by unfold maxLen; omega) (by omega) (by have := hbl.size; simp; omega) ?_; intro v' w2 hown' hgrow _; have hb2 := (((Below.refl w1.heap.size wr).alloc hbl.size (.cells #[.string nk, .func (.func gk) #[] #[], .func (.func sk) #[] #[]] 58)).alloc (by have := hbl.size; simp; omega) (.cells #[.string nk] 9)).grown hgrow (by have := hbl.size; simp; omega) (fun j ej => (hrow.lt j ej).1))
      go_roundw
      case rel => exact ⟨k + 1, by omega, by go_num, by rw [HTK.out]; exact hown', hbl.trans hb2⟩
      case measure => simp [intOf]; omega
    · obtain rfl : k = 16 := by omega
      go_wp2
      go_ret
      have h16 : namesV.take 16 = namesV := List.take_of_length_le (Nat.le_refl _)
      rw [h16] at hrow
      exact ⟨_, rfl, hrow.mono HB1.out.size, k_then hbl HB1.out⟩
end Go.Proofs.YtdeiohcciafffaaGreatDoor
