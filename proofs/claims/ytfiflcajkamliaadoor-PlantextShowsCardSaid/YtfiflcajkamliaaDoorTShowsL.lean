/- PlantextShows, walked: it returns true. It asks that the table of tens reads as the library lays it. -/
import Derived.Test.YtfiflcajkamliaaDoorTRefShow
import Derived.Test.YtfiflcajkamliaaDoorTQuiet
namespace Go.Proofs.YtfiflcajkamliaaDoor
open Go.RowKit Go.Shelf

set_option maxHeartbeats 4000000 in
theorem shows_walk (x : Pl) (s : ByteArray) (w : World) (hx : x.In64) (ht : Tens w) : Calls Tryd.prog 3 #[.agg x.cells, .string s] w fun e w' => e = .returned (.bool true) ∧ Below w.heap.size w w' := by
  have HB := Lib.hid ((Below.refl w.heap.size w).alloc (Nat.le_refl _) (.cells x.cells 23))
  have HP := Lib.hid (Whole.new w 23 x.cells)
  by_cases hlen : 100 < s.size
  · go_enter Tryd.func3, Tryd.ntmps3
    go_wp2
    go_ret
    exact ⟨rfl, HB.out⟩
  have HV := Lib.hid (fun W => Value_any x s W)
  have HR := Lib.hid (fun W => refValue_any x s W)
  have HN := Lib.hid (fun W => Names_any W)
  have HM := Lib.hid (fun W => refNames_any W)
  have HT := Lib.hid ht
  have HX := Lib.hid hx
  have HC := Lib.hid x.cellsL
  have h16 := Lib.hid (fun k (h : k < 16) => (rfl : nameB k = nameB k))
  clear ht hx
  unfold valV at HV HR
  generalize valI x s = y at *
  generalize decide (placeB s < 16) = b at *
  go_enter Tryd.func3, Tryd.ntmps3
  go_wp2_with (first
    | (refine wpList_load_row rfl 23 (.tmp 2) rfl w.heap.size rfl 23 x.cells (0, 0) _ HP.out Tryd.underlying23 rfl HC.out.plan ?_)
    | (refine wpList_load_row rfl 23 (.tmp 2) rfl w.heap.size rfl 23 x.cells (0, 0) _ HP2.out Tryd.underlying23 rfl HC.out.plan ?_)
    | (go_at_call 4; refine (HV.out _).mono ?_; clear HV; rintro e w2 ⟨rfl, hb⟩; have HP2 := Lib.hid (k_later hb HP.out); have HB2 := Lib.hid (k_then hb HB.out); clear hb)
    | (go_at_call 5; refine (HR.out _).mono ?_; clear HR; rintro e w3 ⟨rfl, hb⟩; have HP3 := Lib.hid (k_later hb HP2.out); have HB3 := Lib.hid (k_then hb HB2.out); clear hb)
    | (go_at_call 6; refine (HN.out _).mono ?_; rintro e w4 hf; obtain ⟨nb, nc, rfl, hnb, hnl, hcell, hfz, hb⟩ := hf.opened; clear hf; have HP4 := Lib.hid (k_later hb HP3.out); have HB4 := Lib.hid (k_then hb HB3.out); have HNC := Lib.hid hcell; have HNF := Lib.hid hfz; have hnbw : w.heap.size ≤ nb := Nat.le_trans HB3.out.size hnb; clear hb hcell hfz)
    | (go_at_call 7; refine (HM.out _).mono ?_; clear HM; rintro e w5 ⟨mb, rfl, hmb, hU, hb⟩; have HU := Lib.hid hU; have HP5 := Lib.hid (k_later hb HP4.out); have HB5 := Lib.hid (k_then hb HB4.out); have HNC5 := Lib.hid (fun k (hk : k < 16) => k_cell hb (HNC.out k hk)); have HNF5 := Lib.hid (fun k => (hb.frozen (p := ⟨nb, k, none⟩) hnl).trans (HNF.out k)); have hmbw : nb < mb := Nat.lt_of_lt_of_le hnl hmb; clear hb hU))
  have HSH := Lib.hid (fun y : Later w5 => (Show_any x y.at_ HX.out ((HT.out.later HB5.out).later y.below)).mono fun e w' k => (⟨k.1, ⟨w', y.below.trans (k.2.mono y.below.size)⟩, rfl⟩ : e = .returned (.string ⟨(shownL x).toArray⟩) ∧ ∃ z : Later w5, w' = z.at_))
  have HRS := Lib.hid (fun W => refShow_any x W HX.out)
  have HN6 := Lib.hid HN.out
  clear HB HP HP2 HB2 HP3 HB3 HP4 HB4 HNC HNF hnb hmb h16
  generalize (⟨(shownL x).toArray⟩ : ByteArray) = sh at *
  refine wp_region_later (by kernel_rfl) (by kernel_rfl) ?_
  repeat (first
    | (go_big_quiet_step ((first
      | (go_at_call 8; exact HSH.out _)
      | (go_at_call 9; exact later_of _ HRS.out))))
    | (go_big_quiet_want; refine quiet_row8 23 _ rfl w.heap.size rfl 23 x.cells (0, 0) _ (whole_later HP5.out) Tryd.underlying23 rfl HC.out.plan ?_; simp only [Act.put, List.setIfInBounds_toArray, List.set_cons_succ, List.set_cons_zero]; go_big_quiet_on))
  refine wpQuiet_nil ?_
  intro _ hw'
  obtain ⟨z, hw''⟩ := hw'
  subst hw''
  have HB6 := Lib.hid (HB5.out.trans (z.below.mono HB5.out.size))
  have HU6 := Lib.hid (k_later z.below HU.out)
  have HC6 := Lib.hid (fun k (hk : k < 16) => z.cell (HNC5.out k hk))
  have HF6 := Lib.hid (fun k => (z.below.frozen (p := ⟨nb, k, none⟩) (Nat.lt_trans hmbw HU.out.lt)).trans (HNF5.out k))
  have HNB := Lib.hid hnbw
  have HMB := Lib.hid hmbw
  clear HU HP5 HB5 HNC5 HNF5 HSH HRS hnl HN HX HC hmbw hnbw
  generalize z.at_ = w6 at *
  clear z
  go_wp2
  go_loopw [53] (fun i V => ∃ k : Nat, k ≤ 16 ∧ i = .int .i64 (k : Int) ∧ (∀ j, k ≤ j → j < 16 → V.cell? ⟨nb, j, none⟩ = some (.string (nameB j))) ∧ (∀ j, V.frozen? ⟨nb, j, none⟩ = false) ∧ Whole V mb 9 namesC ∧ Below w.heap.size w V) (fun i _ => 16 - (intOf i).toNat)
  case atStart => exact ⟨0, Nat.zero_le _, rfl, fun j _ h => HC6.out j h, HF6.out, HU6.out, HB6.out⟩
  case round =>
    obtain ⟨k, hk, rfl, hcell, hfz, hU, hbl⟩ := hrel
    have HCE := Lib.hid hcell
    have HUE := Lib.hid hU
    have HBE := Lib.hid hbl
    have HFE := Lib.hid hfz
    clear HC6 HF6 HU6 HB6
    by_cases hlt : k < 16
    · have hc1 : wr.cell? ⟨nb, k, none⟩ = some (.string (nameB k)) := hcell k (Nat.le_refl _) hlt
      have hc2 : wr.cell? ⟨mb, k, none⟩ = some (.string (nameB k)) := (hU.cell k).trans (namesC_get hlt)
      have hf1 : wr.frozen? ⟨nb, k, none⟩ = false := hfz k
      clear hcell hfz hU hbl
      generalize hnk : nameB k = nk at hc1 hc2
      go_wp2_with fail
      go_quiet (fail)
      go_wp2
      go_round
      case rel =>
        refine ⟨k + 1, by omega, by go_num, fun j h1 h2 => ?_, fun j => ?_, HUE.out.far (p := ⟨nb, k, none⟩) (Nat.ne_of_gt HMB.out) _, (below_drewN HBE.out _).setCell (p := ⟨nb, k, none⟩) HNB.out _⟩
        · have hne : (⟨nb, k, none⟩ : Addr) ≠ ⟨nb, j, none⟩ := by
            intro h
            have : k = j := congrArg Addr.off h
            omega
          exact (World.cell?_setCell_other _ _ _ _ hne).trans (HCE.out j (by omega) h2)
        · rw [World.frozen?_setCell]
          exact HFE.out j
      case measure => simp [intOf]; omega
    · clear hcell hfz hU hbl
      have hm0 : wr.cell? ⟨mb, 0, none⟩ = some (.string (nameB 0)) := (HUE.out.cell 0).trans (namesC_get (by decide))
      have HM0 := Lib.hid hm0
      generalize hnk : nameB 0 = n0 at hm0
      go_wp2_with fail
      go_region_with ((go_at_call 6; refine (HN6.out _).mono ?_; rintro e w7 hf; obtain ⟨nb2, nc2, rfl, _, _, hcell2, _, hb7⟩ := hf.opened; clear hf; have hq : w7.cell? ⟨nb2, 0, none⟩ = some (.string n0) := by { rw [← hnk]; exact hcell2 0 (by decide) }; have hm7 : w7.cell? ⟨mb, 0, none⟩ = some (.string n0) := k_cell (w := wr) ⟨hb7.os, hb7.tape, hb7.output, hb7.size, hb7.block⟩ hm0; have HB7 := Lib.hid (show Below wr.heap.size wr w7 from ⟨hb7.os, hb7.tape, hb7.output, hb7.size, hb7.block⟩); clear hb7 hcell2))
      all_goals
        go_wp2
        go_ret
        exact ⟨rfl, HBE.out.trans (HB7.out.mono HBE.out.size)⟩
end Go.Proofs.YtfiflcajkamliaaDoor
