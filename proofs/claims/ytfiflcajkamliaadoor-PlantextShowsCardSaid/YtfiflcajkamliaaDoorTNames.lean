/- The names, by a contract: the program's, and the document's; a plan's numbers as a row. No condition. -/
import Derived.Test.YtfiflcajkamliaaDoorTVal
namespace Go.Proofs.YtfiflcajkamliaaDoor
open Go.RowKit Go.Shelf

/-- The names as values. -/
def namesV : List Value := namesL.map fun l => .string ⟨l.toArray⟩
def namesC : Array Value := namesV.toArray
theorem namesC_get {k : Nat} (hk : k < 16) : namesC[k]? = some (.string (nameB k)) := by
  rw [namesC, List.getElem?_toArray, namesV, List.getElem?_map, nameL_get hk]
  rfl
/-- The document's names: a new row. -/
def NamesD (w : World) (e : Ending) (w' : World) : Prop := ∃ b, e = .returned (.slice (some ⟨b, 0, none⟩) 16 16) ∧ w.heap.size ≤ b ∧ Whole w' b 9 namesC ∧ Below w.heap.size w w'
set_option maxRecDepth 100000 in
set_option maxHeartbeats 1000000 in
theorem refNames_any (w : World) : Calls Tryd.prog 7 #[] w (NamesD w) := by
  have HX := Lib.hid (fun W => Whole.new W 9 namesC)
  have HB := Lib.hid (fun W : World => (Below.refl W.heap.size W).alloc (Nat.le_refl _) (.cells namesC 9))
  go_enter Tryd.func7, Tryd.ntmps7
  go_wp2
  go_ret
  exact ⟨w.heap.size, rfl, Nat.le_refl _, HX.out w, HB.out w⟩

/-- A plan's numbers: a new row. -/
def NumbersD (x : Pl) (w : World) (e : Ending) (w' : World) : Prop := ∃ b, e = .returned (.slice (some ⟨b, 0, none⟩) 16 16) ∧ w.heap.size ≤ b ∧ Whole w' b 2 x.cells ∧ Below w.heap.size w w'
set_option maxRecDepth 100000 in
set_option maxHeartbeats 4000000 in
theorem refNumbers8_any (x : Pl) (w : World) : Calls Tryd.prog 12 #[.agg x.cells] w (NumbersD x w) := by
  obtain ⟨⟨z0, z1, z2, z3⟩, ⟨z4, z5, z6, z7⟩, ⟨z8, z9, z10, z11⟩, ⟨z12, z13, z14, z15⟩, _⟩ := l_cells (Whole.new w 23 x.cells)
  have HC := Lib.hid (fun W => Whole.new W 2 x.cells)
  have HB := Lib.hid (fun W : World => ((Below.refl W.heap.size W).alloc (Nat.le_refl _) (.cells x.cells 23)).alloc (by simp) (.cells x.cells 2))
  go_enter Tryd.func12, Tryd.ntmps12
  go_wp2
  go_ret
  have hs : (w.alloc (.cells x.cells 23)).heap.size = w.heap.size + 1 := by simp
  have h2 := HC.out (w.alloc (.cells x.cells 23))
  rw [hs] at h2
  exact ⟨w.heap.size + 1, rfl, by omega, h2, HB.out w⟩

set_option maxHeartbeats 1000000 in
theorem refValue_any (x : Pl) (s : ByteArray) (w : World) : Calls Tryd.prog 5 #[.agg x.cells, .string s] w fun e w' => e = .returned (valV x s) ∧ Below w.heap.size w w' := by
  have HN := Lib.hid (fun W => refNames_any W)
  have HM := Lib.hid (fun W => refNumbers8_any x W)
  have HB := Lib.hid ((Below.refl w.heap.size w).alloc (Nat.le_refl _) (.cells x.cells 23))
  have HX := Lib.hid (Whole.new w 23 x.cells)
  go_enter Tryd.func5, Tryd.ntmps5
  go_wp2_with (first
    | (refine wpList_load_row rfl 23 (.tmp 2) rfl w.heap.size rfl 23 x.cells (0, 0) _ (k_later HB2.out HX.out) Tryd.underlying23 rfl x.cellsL.plan ?_)
    | (go_at_call 7; refine (HN.out _).mono ?_; rintro e w2 ⟨nb, rfl, _, hT, hb⟩; have HT := Lib.hid hT; have HB2 := Lib.hid hb; clear hb hT)
    | (go_at_call 12; refine (HM.out _).mono ?_; rintro e w3 ⟨mb, rfl, _, hU, hb⟩; have HU := Lib.hid hU; have HT3 := Lib.hid (k_later hb HT.out); have HB3 := Lib.hid (k_then hb HB2.out); clear hb hU))
  have HL := Lib.hid (k_then HB3.out HB.out)
  clear HB HB2 HB3 HN HM HX HT
  go_loop [8] (fun i => ∃ k : Nat, k ≤ 16 ∧ i = .int .i64 (k : Int) ∧ ∀ j, j < k → nameL j ≠ s.data.toList) (fun i => 16 - (intOf i).toNat)
  case atStart => exact ⟨0, Nat.zero_le _, rfl, fun j h => absurd h (by omega)⟩
  case round =>
    obtain ⟨k, hk, rfl, hf⟩ := hrel
    have HF := Lib.hid hf
    clear hf
    by_cases hlt : k < 16
    · have hc : w3.cell? ⟨nb, k, none⟩ = some (.string (nameB k)) := (HT3.out.cell k).trans (namesC_get hlt)
      by_cases he : nameL k = s.data.toList
      · have heq : ((nameB k).toList == s.toList) = true := by rw [name_beq, decide_eq_true he]
        have HP := Lib.hid (placeL_eq hlt he HF.out)
        have hn : w3.cell? ⟨mb, k, none⟩ = some (.int .i64 (x.nth k)) := (HU.out.cell k).trans (nth_cell x hlt)
        have HV := Lib.hid (show valV x s = .tuple #[.int .i64 (x.nth k), .bool true] by rw [valV, valI, placeB, HP.out, if_pos hlt, decide_eq_true hlt])
        go_wp2
        refine bodyPost_ret (results_tmp2 rfl _ _ _) rfl ⟨by rw [HV.out]; rfl, HL.out⟩
      · have heq : ((nameB k).toList == s.toList) = false := by rw [name_beq, decide_eq_false he]
        go_wp2
        go_round
        case rel =>
          refine ⟨k + 1, by omega, by go_num, fun j hj => ?_⟩
          by_cases e : j = k
          · subst e; exact he
          · exact HF.out j (by omega)
        case measure => simp [intOf]; omega
    · obtain rfl : k = 16 := by omega
      have HP := Lib.hid (placeL_none HF.out)
      have HV := Lib.hid (show valV x s = .tuple #[.int .i64 0, .bool false] by rw [valV, valI, placeB, HP.out]; rfl)
      go_wp2
      refine bodyPost_ret (results_tmp2 rfl _ _ _) rfl ⟨by rw [HV.out]; rfl, HL.out⟩
end Go.Proofs.YtfiflcajkamliaaDoor
