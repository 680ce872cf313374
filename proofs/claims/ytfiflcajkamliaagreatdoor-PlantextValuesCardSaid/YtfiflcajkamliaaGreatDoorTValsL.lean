/- PlantextValues, walked: it returns true. It asks that the table of tens reads as the library lays it, and that a variable of the library's holds some number. -/
import Derived.Test.YtfiflcajkamliaaGreatDoorTValM
import Derived.Test.YtfiflcajkamliaaGreatDoorTQuiet
namespace Go.Proofs.YtfiflcajkamliaaGreatDoor
open Go.RowKit Go.Shelf

theorem placeB_name {k : Nat} (hk : k < 16) : placeB (nameB k) = k := placeL_nameL hk
theorem valV_name (x : Pl) {k : Nat} (hk : k < 16) : valV x (nameB k) = .tuple #[.int .i64 (x.nth k), .bool true] := by
  rw [valV, valI, placeB_name hk, if_pos hk, decide_eq_true hk]

theorem calls_same {P : Program} {f : FuncId} {args : Array Value} {W : World} {v : Value} (h : Calls P f args W fun e w' => e = .returned v ∧ w' = W) : Calls P f args W fun e w' => e = .returned v ∧ W = w' := h.mono fun _ _ k => ⟨k.1, k.2.symm⟩

set_option maxRecDepth 100000 in
set_option maxHeartbeats 4000000 in
theorem values_walk (x : Pl) (q : Int) (w : World) (hx : x.In64) (ht : Tens w) (hm : Sized q w) : Calls Tryz.prog 6 #[.agg x.cells] w fun e w' => e = .returned (.bool true) ∧ Below w.heap.size w w' := by
  have HB := Lib.hid ((Below.refl w.heap.size w).alloc (Nat.le_refl _) (.cells x.cells 23))
  have HP := Lib.hid (Whole.new w 23 x.cells)
  have HA := Lib.hid (fun W h => alive_any q W h)
  have HN := Lib.hid (fun W => Names_any W)
  have HS := Lib.hid (fun W h => Show_any x W hx h)
  have hsp := fun W h => split_any (shownL x) q W (by have := shownT_le hx 16 (Nat.le_refl _); unfold shownL; omega) h
  rw [shown_len] at hsp
  have HSP := Lib.hid hsp
  have HU := Lib.hid (fun W => refNumbers8_any x W)
  have HC := Lib.hid x.cellsL
  have HT := Lib.hid ht
  have HM := Lib.hid hm
  have HL := Lib.hid (fun k (hk : k < 16) => shown_get x hk)
  have HL16 := Lib.hid (shown_last x)
  have HV := Lib.hid (fun k (hk : k < 16) W => by have h := Value_any x (nameB k) W; rw [valV_name x hk] at h; exact h)
  have HPF := Lib.hid (fun k W => Tryz.strings_HasPrefix (txt (bodyL x k)) (nameB k ++ ⟨#[32, 61, 32]⟩) W)
  have HPT := Lib.hid (fun k => body_prefix x k)
  have HNTH := Lib.hid (fun k (hk : k < 16) => nth_cell x hk)
  clear hsp ht hm hx
  generalize strV (linesT (shownL x)) = sl at *
  obtain ⟨sh, hsh⟩ : ∃ sh, sh = txt (shownL x) := ⟨_, rfl⟩
  have hsh2 : sh = ⟨(shownL x).toArray⟩ := hsh
  rw [← hsh] at HSP
  rw [← hsh2] at HS
  clear hsh hsh2
  go_enter Tryz.func6, Tryz.ntmps6
  go_upto_region 4 with (first
    | (refine wpList_load_row rfl 23 (.tmp 1) rfl w.heap.size rfl 23 x.cells (0, 0) _ HP3.out Tryz.underlying23 rfl HC.out.plan ?_)
    | (go_at_call 19; refine (HA.out _ (HM.out.later HB.out)).mono ?_; clear HA; rintro e w2 ⟨rfl, hb⟩; have HP2 := Lib.hid (k_later hb HP.out); have HB2 := Lib.hid (k_then hb HB.out); clear hb)
    | (go_at_call 21; refine (HN.out _).mono ?_; clear HN; rintro e w3 hf; obtain ⟨nb, nc, rfl, hnb, hnl, hcell, hfz, hb⟩ := hf.opened; clear hf; have HP3 := Lib.hid (k_later hb HP2.out); have HB3 := Lib.hid (k_then hb HB2.out); have HNC := Lib.hid hcell; clear hb hcell hfz hnb hnl)
    | (go_at_call 12; refine (HS.out _ (HT.out.later HB3.out)).mono ?_; clear HS; rintro e w4 ⟨rfl, hb⟩; have HP4 := Lib.hid (k_later hb HP3.out); have HB4 := Lib.hid (k_then hb HB3.out); have HNC4 := Lib.hid (fun k (hk : k < 16) => k_cell hb (HNC.out k hk)); clear hb)
    | (go_at_call 23; refine (HSP.out _ (HM.out.later HB4.out)).mono ?_; clear HSP; rintro e w5 ⟨rfl, hw5⟩; have hal := (Below.refl w4.heap.size w4).alloc (Nat.le_refl _) (.cells sl.toArray 9); rw [← hw5] at hal; have HSL := Lib.hid (show Whole w5 w4.heap.size 9 sl.toArray from hw5 ▸ Whole.new w4 _ _); have HP5 := Lib.hid (k_later hal HP4.out); have HB5 := Lib.hid (k_then hal HB4.out); have HNC5 := Lib.hid (fun k (hk : k < 16) => k_cell hal (HNC4.out k hk)); clear hal hw5))
  clear HB HP HP2 HB2 HP3 HB3 HNC HP4 HB4 HNC4 HT
  generalize w4.heap.size = sb at *
  have h16 : w5.cell? ⟨sb, 16, none⟩ = some (.string ⟨#[]⟩) := by rw [HSL.out.cell]; simpa using HL16.out
  go_upto_region 8 with (first
    | (refine wpList_load_row rfl 23 (.tmp 1) rfl w.heap.size rfl 23 x.cells (0, 0) _ HP5.out Tryz.underlying23 rfl HC.out.plan ?_)
    | (go_at_call 27; refine (HU.out _).mono ?_; clear HU; rintro e w6 ⟨mb, rfl, _, hU, hb⟩; have HNU := Lib.hid hU; have HP6 := Lib.hid (k_later hb HP5.out); have HB6 := Lib.hid (k_then hb HB5.out); have HNC6 := Lib.hid (fun k (hk : k < 16) => k_cell hb (HNC5.out k hk)); have HSL6 := Lib.hid (k_later hb HSL.out); clear hb hU))
  clear HP5 HB5 HNC5 HSL h16 HL16 HM
  go_loopw [33] (fun i V => ∃ k : Nat, k ≤ 16 ∧ i = .int .i64 (k : Int) ∧ Below w6.heap.size w6 V) (fun i _ => 16 - (intOf i).toNat)
  case atStart => exact ⟨0, Nat.zero_le _, rfl, Below.refl _ _⟩
  case round =>
    obtain ⟨k, hk, rfl, hbl⟩ := hrel
    by_cases hlt : k < 16
    · have hPV := k_later hbl HP6.out
      have hnm := k_cell hbl (HNC6.out k hlt)
      have hln : wr.cell? ⟨sb, k, none⟩ = some (.string (txt (bodyL x k))) := k_cell hbl (by rw [HSL6.out.cell]; simpa using HL.out k hlt)
      have hnu : wr.cell? ⟨mb, k, none⟩ = some (.int .i64 (x.nth k)) := k_cell hbl ((HNU.out.cell k).trans (HNTH.out k hlt))
      have hnp : 0 < k → wr.cell? ⟨nb, k - 1, none⟩ = some (.string (nameB (k - 1))) := fun _ => k_cell hbl (HNC6.out (k - 1) (by omega))
      have hne : 0 < k → ((nameB k).toList == (nameB (k - 1)).toList) = false := fun h => by
        rw [name_beq, decide_eq_false]
        exact names_apart hlt h
      have hv := HV.out k hlt
      have hpf := HPF.out k
      have hlist : (nameB k ++ (⟨#[32, 61, 32]⟩ : ByteArray)).data.toList = nameL k ++ [32, 61, 32] := by simp [nameB]
      rw [txt_list, hlist, HPT.out k] at hpf
      have hz1 : (nameB k).size ≤ 7 := by have := nameL_le k; simp [nameB, ByteArray.size]; omega
      have HBL := Lib.hid hbl
      have HVV := Lib.hid hv
      have HPF2 := Lib.hid hpf
      clear hv hpf hlist hbl
      generalize txt (bodyL x k) = tb at *
      generalize x.nth k = xn at *
      generalize nameB (k - 1) = np at *
      generalize nameB k = nk at *
      go_upto_region 10 with fail
      have hcy : ∀ y : Later wr, y.at_.cell? ⟨nb, k, none⟩ = some (.string nk) := fun y => y.cell hnm
      refine wp_region_later (by kernel_rfl) (by kernel_rfl) ?_
      repeat (first
        | (go_big_quiet_step ((go_at_call 18; exact later_of _ HVV.out)))
        | (go_big_quiet_want; refine quiet_row8 23 _ rfl w.heap.size rfl 23 x.cells (0, 0) _ (whole_later hPV) Tryz.underlying23 rfl HC.out.plan ?_; simp only [Act.put, List.setIfInBounds_toArray, List.set_cons_succ, List.set_cons_zero]; go_big_quiet_on))
      refine wpQuiet_nil ?_
      intro _ hw'
      obtain ⟨y, hw''⟩ := hw'
      subst hw''
      have HY := Lib.hid (HBL.out.trans (y.below.mono HBL.out.size))
      have hnm2 := y.cell hnm
      have hln2 := y.cell hln
      have hnu2 := y.cell hnu
      have hnp2 := fun h => y.cell (hnp h)
      clear hcy hnm hln hnu hnp hPV HBL HVV
      generalize y.at_ = V2 at *
      clear y
      go_upto_region 11 with fail
      have HPF3 := Lib.hid (fun W => calls_same (HPF2.out W))
      have l1 : ∀ y : Later V2, y.at_.cell? ⟨mb, k, none⟩ = some (.int .i64 xn) := fun y => y.cell hnu2
      have l2 : ∀ y : Later V2, y.at_.cell? ⟨sb, k, none⟩ = some (.string tb) := fun y => y.cell hln2
      have l3 : ∀ y : Later V2, y.at_.cell? ⟨nb, k, none⟩ = some (.string nk) := fun y => y.cell hnm2
      refine wp_region_later (by kernel_rfl) (by kernel_rfl) ?_
      repeat (go_big_quiet_step ((go_at_call 13; exact later_same _ HPF3.out)))
      refine wpQuiet_nil ?_
      intro _ hw'
      obtain ⟨y, hw''⟩ := hw'
      subst hw''
      have HY2 := Lib.hid (HY.out.trans (y.below.mono HY.out.size))
      have hnm3 := y.cell hnm2
      have hnp3 := fun h => y.cell (hnp2 h)
      clear l1 l2 l3 hnm2 hln2 hnu2 hnp2 HY HPF2 HPF3
      generalize y.at_ = V3 at *
      clear y
      go_upto_region 13 with fail
      by_cases h0 : 0 < k
      · have l3 : ∀ y : Later V3, y.at_.cell? ⟨nb, k, none⟩ = some (.string nk) := fun y => y.cell hnm3
        have l4 : ∀ y : Later V3, y.at_.cell? ⟨nb, k - 1, none⟩ = some (.string np) := fun y => y.cell (hnp3 h0)
        have hne2 := hne h0
        refine wp_region_later (by kernel_rfl) (by kernel_rfl) ?_
        repeat (go_big_quiet_step (fail))
        refine wpQuiet_nil ?_
        intro _ hw'
        obtain ⟨y, hw''⟩ := hw'
        subst hw''
        have HY3 := Lib.hid (HY2.out.trans (y.below.mono HY2.out.size))
        go_wp2
        go_round
        case rel => exact ⟨k + 1, by omega, by go_num, HY3.out⟩
        case measure => simp [intOf]; omega
      · obtain rfl : k = 0 := by omega
        refine wp_region_later (by kernel_rfl) (by kernel_rfl) ?_
        repeat (go_big_quiet_step (fail))
        refine wpQuiet_nil ?_
        intro _ hw'
        obtain ⟨y, hw''⟩ := hw'
        subst hw''
        have HY3 := Lib.hid (HY2.out.trans (y.below.mono HY2.out.size))
        go_wp2
        go_round
        case rel => exact ⟨1, by omega, by go_num, HY3.out⟩
        case measure => simp [intOf]
    · obtain rfl : k = 16 := by omega
      go_wp2
      go_ret
      exact ⟨rfl, k_then hbl HB6.out⟩
end Go.Proofs.YtfiflcajkamliaaGreatDoor
