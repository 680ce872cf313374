/- The document's Line: what a line says, by a contract. No condition. -/
import Derived.Test.YtfiflcajkamliaaGreatDoorTRLineM
import Derived.Test.YtfiflcajkamliaaGreatDoorTNames
import Derived.Test.YtfiflcajkamliaaGreatDoorTRead
namespace Go.Proofs.YtfiflcajkamliaaGreatDoor
open Go.RowKit Go.Shelf

theorem below_of_eq {w w' : World} (h : w' = w) : Below w.heap.size w w' := h ▸ Below.refl _ _

set_option maxRecDepth 100000 in
set_option maxHeartbeats 8000000 in
theorem refLine_any (l : List UInt8) (w : World) (hl : l.length ≤ 4000000) : Calls Tryz.prog 31 #[.string (txt l)] w fun e w' => e = .returned (lineV l) ∧ Below w.heap.size w w' := by
  obtain ⟨tl, htl⟩ : ∃ tl, tl = txt l := ⟨_, rfl⟩
  have hz : tl.size = l.length := by rw [htl]; exact txt_size l
  have hix := fun W k (hk : k < l.length) => index_byte (P := Tryz.prog) 9 Tryz.underlying9 l k hk W
  rw [← htl] at hix ⊢
  have HIX := Lib.hid hix
  have HN := Lib.hid (fun W => refNames_any W)
  have hcl : (countT l).length ≤ 4000000 := Nat.le_trans (Nat.le_trans (trimS_le _ _) (ahead_le 35 l)) hl
  have h0 : lastF 35 l 0 = (aheadL 35 l).length := by simp [lastF]
  have h0le : lastF 35 l 0 ≤ l.length := lastF_le 35 l (Nat.zero_le _)
  have hsl : tl.extract 0 (lastF 35 l 0) = txt (aheadL 35 l) := by rw [htl, txt_extract, h0, take_ahead]; rfl
  have htr := fun W => refTrim_any (aheadL 35 l) W (Nat.le_trans (ahead_le 35 l) hl)
  rw [← hsl] at htr
  have hct : Lib.trimS (aheadL 35 l) blanksL = countT l := rfl
  rw [hct] at htr
  have HT := Lib.hid htr
  have hname : Lib.trimS (aheadL 61 (countT l)) blanksL = nameOf (countT l) := name_trim _
  have hrest : Lib.trimS (behindL 61 (countT l)) blanksL = restOf (countT l) := rest_trim _
  have HV := Lib.hid (show lineV l = match (if countT l = [] then Said8.nothing else match sayT (countT l) with
    | none => .wrong
    | some (k, n) => .at_ k n) with
    | .nothing => .tuple #[.int .i64 (-2), .int .i64 0]
    | .wrong => .tuple #[.int .i64 (-1), .int .i64 0]
    | .at_ k n => .tuple #[.int .i64 (k : Int), .int .i64 (n : Int)] from rfl)
  generalize lineV l = lv at *
  generalize countT l = c at *
  have h00 : 0 ≤ lastF 35 l 0 := Nat.zero_le _
  clear hix htr hct hsl htl h0
  go_enter Tryz.func31, Tryz.ntmps31
  go_wp2
  go_loop [4, 5] (fun a i => ∃ m : Nat, m ≤ l.length ∧ i = .int .i64 ((m : Int) - 1) ∧ a = .int .i64 (lastF 35 l m : Int)) (fun _ i => (intOf i + 1).toNat)
  case atStart => exact ⟨l.length, Nat.le_refl _, rfl, by rw [lastF_end]⟩
  case round =>
    obtain ⟨m, hm, rfl, rfl⟩ := hrel
    by_cases hlt : 0 < m
    · have hik := fun W => HIX.out W (m - 1) (by omega)
      have em : ((m - 1 : Nat) : Int) = (m : Int) - 1 := by omega
      rw [em] at hik
      by_cases hc : l[m - 1]'(by omega) = 35
      · have hik2 : ∀ W, (Instr.index 9 (.string tl) (.int .i64 ((m : Int) - 1))).run Tryz.prog W = .ok (.int .u8 35) W := fun W => by rw [hik W, hc]; rfl
        have HH := Lib.hid (lastF_hit hlt hm hc)
        clear hik hc
        go_wp2
        go_round
        case rel => exact ⟨m - 1, by omega, by go_num, by rw [HH.out]; go_num⟩
        case measure => simp [intOf]; try omega
      · have HH := Lib.hid (lastF_miss hlt hm hc)
        have hne : (((l[m - 1]'(by omega)).toNat : Int) == 35) = false := by
          rw [beq_eq_false_iff_ne]
          intro e
          apply hc
          apply UInt8.toNat_inj.1
          have : (35 : UInt8).toNat = 35 := rfl
          omega
        clear hc
        generalize (l[m - 1]'(by omega)).toNat = y at *
        go_wp2
        go_round
        case rel => exact ⟨m - 1, by omega, by go_num, by rw [HH.out]⟩
        case measure => simp [intOf]; try omega
    · obtain rfl : m = 0 := by omega
      clear HIX
      generalize lastF 35 l 0 = n0 at *
      obtain ⟨tc, htc⟩ : ∃ tc, tc = txt c := ⟨_, rfl⟩
      have hzc : tc.size = c.length := by rw [htc]; exact txt_size c
      have hlist : tc.toList = c := by rw [ByteArray.toList_eq, htc]
      rw [← htc] at HT
      by_cases hnil : c = []
      · have he : (tc.toList == ([] : List UInt8)) = true := by rw [hlist, hnil]; rfl
        rw [if_pos hnil] at HV
        clear hlist htc hname hrest hnil
        go_wp2_with (go_at_call 85; refine (HT.out _).mono ?_; rintro e w' ⟨rfl, rfl⟩)
        refine bodyPost_ret (results_tmp2 rfl _ _ _) rfl ⟨by rw [HV.out]; rfl, Below.refl _ _⟩
      have he : (tc.toList == ([] : List UInt8)) = false := by
        rw [hlist]
        cases c with
        | nil => exact absurd rfl hnil
        | cons _ _ => rfl
      rw [if_neg hnil] at HV
      have hix2 := fun W k (hk : k < c.length) => index_byte (P := Tryz.prog) 9 Tryz.underlying9 c k hk W
      rw [← htc] at hix2
      have HIX := Lib.hid hix2
      have HTC := Lib.hid htc
      clear hix2 htc hlist
      go_wp2_with (go_at_call 85; refine (HT.out _).mono ?_; rintro e w' ⟨rfl, rfl⟩)
      go_loop [6, 7] (fun a i => ∃ m : Nat, m ≤ c.length ∧ i = .int .i64 ((m : Int) - 1) ∧ a = .int .i64 (if (c.drop m).contains 61 then (lastF 61 c m : Int) else -1)) (fun _ i => (intOf i + 1).toNat)
      case atStart => exact ⟨c.length, Nat.le_refl _, rfl, by simp⟩
      case round =>
        obtain ⟨m, hm, rfl, rfl⟩ := hrel
        by_cases hlt : 0 < m
        · have hik := fun W => HIX.out W (m - 1) (by omega)
          have em : ((m - 1 : Nat) : Int) = (m : Int) - 1 := by omega
          rw [em] at hik
          by_cases hc : c[m - 1]'(by omega) = 61
          · have hik2 : ∀ W, (Instr.index 9 (.string tc) (.int .i64 ((m : Int) - 1))).run Tryz.prog W = .ok (.int .u8 61) W := fun W => by rw [hik W, hc]; rfl
            have HH := Lib.hid (lastF_hit hlt hm hc)
            have HX := Lib.hid (has_hit hlt hm hc)
            clear hik hc
            go_wp2
            go_round
            case rel => exact ⟨m - 1, by omega, by go_num, by rw [HX.out, if_pos rfl, HH.out]; go_num⟩
            case measure => simp [intOf]; try omega
          · have HH := Lib.hid (lastF_miss hlt hm hc)
            have HX := Lib.hid (has_miss hlt hm hc)
            have hne : (((c[m - 1]'(by omega)).toNat : Int) == 61) = false := by
              rw [beq_eq_false_iff_ne]
              intro e
              apply hc
              apply UInt8.toNat_inj.1
              have : (61 : UInt8).toNat = 61 := rfl
              omega
            clear hc
            generalize (c[m - 1]'(by omega)).toNat = y at *
            obtain ⟨a, ha⟩ : ∃ a, a = (if (c.drop m).contains 61 then (lastF 61 c m : Int) else -1) := ⟨_, rfl⟩
            rw [← ha]
            have HAE := Lib.hid ha
            clear ha
            go_wp2
            go_round
            case rel => exact ⟨m - 1, by omega, by go_num, by rw [HX.out, HH.out, ← HAE.out]⟩
            case measure => simp [intOf]; try omega
        · obtain rfl : m = 0 := by omega
          clear HIX
          have hd0 : c.drop 0 = c := rfl
          rw [hd0]
          cases hin : c.contains 61
          · have hs := say_without hin
            rw [hs] at HV
            rw [if_neg (by simp)]
            go_wp2
            refine bodyPost_ret (results_tmp2 rfl _ _ _) rfl ⟨by rw [HV.out]; rfl, Below.refl _ _⟩
          rw [if_pos rfl]
          have h1 : lastF 61 c 0 = (aheadL 61 c).length := by simp [lastF]
          rw [h1]
          have hab := ahead_behind hin
          have hlen : (aheadL 61 c).length + 1 ≤ c.length := by
            have := congrArg List.length hab
            simp at this
            omega
          have hsl1 : tc.extract 0 (aheadL 61 c).length = txt (aheadL 61 c) := by rw [HTC.out, txt_extract, take_ahead]; rfl
          have hsl2 : tc.extract ((aheadL 61 c).length + 1) c.length = txt (behindL 61 c) := by rw [HTC.out, txt_extract, List.take_length, drop_behind]
          have ht1 := fun W => refTrim_any (aheadL 61 c) W (Nat.le_trans (ahead_le 61 c) hcl)
          have ht2 := fun W => refTrim_any (behindL 61 c) W (Nat.le_trans (behind_le 61 c) hcl)
          have hnum := fun W => refNum_any (restOf c) W (Nat.le_trans (List.dropWhile_sublist _).length_le (Nat.le_trans (behind_le 61 c) hcl))
          rw [← hsl1, hname] at ht1
          rw [← hsl2, hrest] at ht2
          have HT1 := Lib.hid ht1
          have HT2 := Lib.hid ht2
          have HNUM := Lib.hid hnum
          have hsay : sayT c = if placeL (nameOf c) < 16 then (wholeT (restOf c)).map fun n => (placeL (nameOf c), n) else none := rfl
          rw [hsay] at HV
          clear ht1 ht2 hnum hsl1 hsl2 hab hsay h1 hname hrest hin hd0 HTC HT he hnil
          obtain ⟨nm, hnm⟩ : ∃ nm, nm = txt (nameOf c) := ⟨_, rfl⟩
          rw [← hnm] at HT1
          have hbq := fun k => name_beq k nm
          have hnl : nm.data.toList = nameOf c := by rw [hnm]
          rw [hnl] at hbq
          have HBQ := Lib.hid hbq
          unfold numI at HNUM
          clear hbq hnl hnm
          generalize txt (restOf c) = rs at *
          generalize nameOf c = nl at *
          generalize wholeT (restOf c) = ow at *
          generalize (aheadL 61 c).length = n1 at *
          cases ow with
          | none =>
            have HW := Lib.hid (show lv = .tuple #[.int .i64 (-1), .int .i64 0] by
              rw [HV.out]
              by_cases hp : placeL nl < 16 <;> simp [hp])
            clear HV
            simp only at HNUM
            go_wp2_with (first
              | (go_at_call 85; refine (HT2.out _).mono ?_; rintro e w2 ⟨rfl, rfl⟩)
              | (go_at_call 86; refine (HNUM.out _).mono ?_; rintro e w3 ⟨rfl, rfl⟩)
              | (go_at_call 87; refine (HN.out _).mono ?_; rintro e w4 ⟨nb, rfl, _, hT, hb⟩; have HB := Lib.hid hb; clear hb))
            go_loop [10] (fun i => i = .int .i64 0) (fun _ => 0)
            case atStart => rfl
            case round =>
              subst hrel
              go_wp2
              refine bodyPost_ret (results_tmp2 rfl _ _ _) rfl ⟨by rw [HW.out]; rfl, HB.out⟩
          | some v =>
            simp only at HNUM
            go_wp2_with (first
              | (go_at_call 85; refine (HT2.out _).mono ?_; rintro e w2 ⟨rfl, rfl⟩)
              | (go_at_call 86; refine (HNUM.out _).mono ?_; rintro e w3 ⟨rfl, rfl⟩)
              | (go_at_call 87; refine (HN.out _).mono ?_; rintro e w4 ⟨nb, rfl, _, hT, hb⟩; have HB := Lib.hid hb; clear hb))
            have HCE := Lib.hid (fun k (hk : k < 16) => (show w4.cell? ⟨nb, k, none⟩ = some (.string (nameB k)) from (hT.cell k).trans (namesC_get hk)))
            clear hT
            go_loopw [10] (fun i V => ∃ k : Nat, k ≤ 16 ∧ i = .int .i64 (k : Int) ∧ Below w4.heap.size w4 V ∧ ∀ j, j < k → nameL j ≠ nl) (fun i _ => 16 - (intOf i).toNat)
            case atStart => exact ⟨0, Nat.zero_le _, rfl, Below.refl _ _, fun j h => absurd h (by omega)⟩
            case round =>
              obtain ⟨k, hk, rfl, hbl, hf⟩ := hrel
              have HF := Lib.hid hf
              have HBL := Lib.hid hbl
              clear hf
              by_cases hlt3 : k < 16
              · have hc4 := k_cell hbl (HCE.out k hlt3)
                clear hbl
                by_cases he : nameL k = nl
                · have heq : ((nameB k).toList == nm.toList) = true := by rw [HBQ.out, decide_eq_true he]
                  have HP := Lib.hid (placeL_eq hlt3 he HF.out)
                  have HW := Lib.hid (show lv = .tuple #[.int .i64 (k : Int), .int .i64 (v : Int)] by
                    rw [HV.out, HP.out, if_pos hlt3]
                    rfl)
                  clear he HV HP
                  go_wp2_with fail
                  go_region_with ((go_at_call 85; refine (HT1.out _).mono ?_; rintro e w7 ⟨rfl, h7⟩; have hb7 := below_of_eq h7; clear h7; have hq : w7.cell? ⟨nb, k, none⟩ = some (.string (nameB k)) := k_cell (w := wr) ⟨hb7.os, hb7.tape, hb7.output, hb7.size, hb7.block⟩ hc4; have HB7 := Lib.hid (show Below wr.heap.size wr w7 from ⟨hb7.os, hb7.tape, hb7.output, hb7.size, hb7.block⟩); clear hb7))
                  all_goals
                    go_wp2
                    refine bodyPost_ret (results_tmp2 rfl _ _ _) rfl ⟨by rw [HW.out]; rfl, k_then HB7.out (k_then HBL.out HB.out)⟩
                · have heq : ((nameB k).toList == nm.toList) = false := by rw [HBQ.out, decide_eq_false he]
                  have HNE := Lib.hid he
                  clear he
                  go_wp2_with fail
                  go_region_with ((go_at_call 85; refine (HT1.out _).mono ?_; rintro e w7 ⟨rfl, h7⟩; have hb7 := below_of_eq h7; clear h7; have hq : w7.cell? ⟨nb, k, none⟩ = some (.string (nameB k)) := k_cell (w := wr) ⟨hb7.os, hb7.tape, hb7.output, hb7.size, hb7.block⟩ hc4; have HB7 := Lib.hid (show Below wr.heap.size wr w7 from ⟨hb7.os, hb7.tape, hb7.output, hb7.size, hb7.block⟩); clear hb7))
                  all_goals
                    go_wp2
                    go_round
                    case rel =>
                      refine ⟨k + 1, by omega, by go_num, k_then HB7.out HBL.out, fun j hj => ?_⟩
                      by_cases e : j = k
                      · subst e; exact HNE.out
                      · exact HF.out j (by omega)
                    case measure => simp [intOf]; omega
              · obtain rfl : k = 16 := by omega
                have HP := Lib.hid (placeL_none HF.out)
                have HW := Lib.hid (show lv = .tuple #[.int .i64 (-1), .int .i64 0] by
                  rw [HV.out, HP.out]
                  rfl)
                clear HV hbl
                go_wp2
                refine bodyPost_ret (results_tmp2 rfl _ _ _) rfl ⟨by rw [HW.out]; rfl, k_then HBL.out HB.out⟩
end Go.Proofs.YtfiflcajkamliaaGreatDoor
