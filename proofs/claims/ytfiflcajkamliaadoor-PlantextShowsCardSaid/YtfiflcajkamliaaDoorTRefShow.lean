/- A plan's text, by a contract: the document's. No condition but that its numbers are of 64 bits. -/
import Derived.Test.YtfiflcajkamliaaDoorTShow
import Derived.Test.YtfiflcajkamliaaDoorTShown
import Derived.Test.YtfiflcajkamliaaDoorLater
namespace Go.Proofs.YtfiflcajkamliaaDoor
open Go.RowKit Go.Shelf

set_option maxHeartbeats 2000000 in
theorem refShow_any (x : Pl) (w : World) (hx : x.In64) : Calls Tryd.prog 9 #[.agg x.cells] w fun e w' => e = .returned (.string ⟨(shownL x).toArray⟩) ∧ Below w.heap.size w w' := by
  have HN := Lib.hid (fun W => refNames_any W)
  have HM := Lib.hid (fun W => refNumbers8_any x W)
  have HB := Lib.hid ((Below.refl w.heap.size w).alloc (Nat.le_refl _) (.cells x.cells 23))
  have HX := Lib.hid (Whole.new w 23 x.cells)
  go_enter Tryd.func9, Tryd.ntmps9
  go_wp2_with (first
    | (refine wpList_load_row rfl 23 (.tmp 1) rfl w.heap.size rfl 23 x.cells (0, 0) _ (k_later HB2.out HX.out) Tryd.underlying23 rfl x.cellsL.plan ?_)
    | (go_at_call 7; refine (HN.out _).mono ?_; rintro e w2 ⟨nb, rfl, _, hT, hb⟩; have HT := Lib.hid hT; have HB2 := Lib.hid hb; clear hb hT)
    | (go_at_call 12; refine (HM.out _).mono ?_; rintro e w3 ⟨mb, rfl, _, hU, hb⟩; have HU := Lib.hid hU; have HT3 := Lib.hid (k_later hb HT.out); have HB3 := Lib.hid (k_then hb HB2.out); clear hb hU))
  have HL := Lib.hid (k_then HB3.out HB.out)
  clear HB HB2 HB3 HN HM HX HT
  go_loopw [5, 6] (fun a i V => ∃ k : Nat, k ≤ 16 ∧ i = .int .i64 (k : Int) ∧ a = .string ⟨(shownT x k).toArray⟩ ∧ Below w3.heap.size w3 V) (fun _ i _ => 16 - (intOf i).toNat)
  case atStart => exact ⟨0, Nat.zero_le _, rfl, rfl, Below.refl _ _⟩
  case round =>
    obtain ⟨k, hk, rfl, rfl, hbl⟩ := hrel
    by_cases hlt : k < 16
    · obtain ⟨hx0, hx1⟩ := hx k hlt
      have hcy : ∀ y : Later wr, y.at_.cell? ⟨nb, k, none⟩ = some (.string (nameB k)) := fun y => y.cell (k_cell hbl ((HT3.out.cell k).trans (namesC_get hlt)))
      have hny : ∀ y : Later wr, y.at_.cell? ⟨mb, k, none⟩ = some (.int .i64 (x.nth k)) := fun y => y.cell (k_cell hbl ((HU.out.cell k).trans (nth_cell x hlt)))
      have HS := Lib.hid (fun W => shown_any (x.nth k) hx0 hx1 W)
      have hl0 := shownT_le hx k hk
      have hn0 := nameL_le k
      have hi0 := Lib.itoa_length_le _ hx0 hx1
      have hz1 : (⟨(shownT x k).toArray⟩ : ByteArray).size ≤ 1000 := by simp [ByteArray.size]; omega
      have hz2 : (nameB k).size ≤ 7 := by simp [nameB, ByteArray.size]; omega
      have hz3 : (⟨(Lib.itoa (x.nth k)).toArray⟩ : ByteArray).size ≤ 21 := by simp [ByteArray.size]; omega
      have HE := Lib.hid (show ((((⟨(shownT x k).toArray⟩ : ByteArray) ++ nameB k) ++ (⟨#[32, 61, 32]⟩ : ByteArray)) ++ (⟨(Lib.itoa (x.nth k)).toArray⟩ : ByteArray)) ++ (⟨#[10]⟩ : ByteArray) = ⟨(shownT x (k + 1)).toArray⟩ by
        rw [shownT_succ, lineL, nameB]
        apply ByteArray.ext
        simp [List.append_assoc])
      have HL2 := Lib.hid hbl
      clear hbl hx0 hx1 hl0 hn0 hi0
      generalize (⟨(Lib.itoa (x.nth k)).toArray⟩ : ByteArray) = it at *
      generalize (⟨(shownT x k).toArray⟩ : ByteArray) = s0 at *
      generalize x.nth k = y at *
      generalize nameB k = nk at *
      go_wp2_with fail
      refine wp_region_later (by kernel_rfl) (by kernel_rfl) ?_
      repeat (go_big_quiet_step ((go_at_call 16; exact later_of _ HS.out)))
      refine wpQuiet_nil ?_
      intro _ hw'
      obtain ⟨y, hw''⟩ := hw'
      subst hw''
      have HY := Lib.hid (HL2.out.trans (y.below.mono HL2.out.size))
      go_wp2
      go_round
      case rel => exact ⟨k + 1, by omega, by go_num, by rw [HE.out], HY.out⟩
      case measure => simp [intOf]; omega
    · obtain rfl : k = 16 := by omega
      go_wp2
      go_ret
      exact ⟨rfl, k_then hbl HL.out⟩
end Go.Proofs.YtfiflcajkamliaaDoor
