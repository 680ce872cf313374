/- The document's number: a text's digits, by a contract. No condition. -/
import Derived.Test.YtfiflcajkamliaaGreatDoorTRTrim
namespace Go.Proofs.YtfiflcajkamliaaGreatDoor
open Go.RowKit Go.Shelf

/-- The number of a text, −1 where it is none. -/
def numI (l : List UInt8) : Int := match wholeT l with
  | some n => (n : Int)
  | none => -1

set_option maxRecDepth 100000 in
set_option maxHeartbeats 2000000 in
theorem refNum_any (l : List UInt8) (w : World) (hl : l.length ≤ 4000000) : Calls Tryz.prog 86 #[.string (txt l)] w fun e w' => e = .returned (.int .i64 (numI l)) ∧ w' = w := by
  obtain ⟨tl, htl⟩ : ∃ tl, tl = txt l := ⟨_, rfl⟩
  have hz : tl.size = l.length := by rw [htl]; exact txt_size l
  have hix := fun W k (hk : k < l.length) => index_byte (P := Tryz.prog) 9 Tryz.underlying9 l k hk W
  rw [← htl] at hix ⊢
  by_cases h0 : l = []
  · have HV := Lib.hid (show numI l = -1 by rw [numI, wholeT, if_pos (.inl h0)])
    have hz0 : l.length = 0 := by rw [h0]; rfl
    rw [hz0] at hz
    clear htl hix h0
    go_enter Tryz.func86, Tryz.ntmps86
    go_wp2
    go_ret
    exact ⟨by rw [HV.out] <;> rfl, rfl⟩
  have hpos : 0 < l.length := List.length_pos_iff.2 h0
  clear htl
  by_cases h15 : 15 < l.length
  · have HV := Lib.hid (show numI l = -1 by rw [numI, wholeT, if_pos (.inr (.inl h15))])
    clear hix
    go_enter Tryz.func86, Tryz.ntmps86
    go_wp2
    go_ret
    exact ⟨by rw [HV.out] <;> rfl, rfl⟩
  have hi0 : ∀ W, (Instr.index 9 (.string tl) (.int .i64 0)).run Tryz.prog W = .ok (.int .u8 (l[0].toNat : Int)) W := fun W => hix W 0 hpos
  have hhead : l.head? = some l[0] := by
    cases l with
    | nil => exact absurd rfl h0
    | cons _ _ => rfl
  by_cases hzz : l[0] = 48 ∧ 1 < l.length
  · have HV := Lib.hid (show numI l = -1 by rw [numI, wholeT, if_pos (.inr (.inr ⟨by rw [hhead, hzz.1], hzz.2⟩))])
    obtain ⟨h48, h1⟩ := hzz
    have hi1 : ∀ W, (Instr.index 9 (.string tl) (.int .i64 0)).run Tryz.prog W = .ok (.int .u8 48) W := fun W => by rw [hi0 W, h48]; rfl
    clear hix hi0 h48 hhead
    go_enter Tryz.func86, Tryz.ntmps86
    go_wp2
    go_ret
    exact ⟨by rw [HV.out] <;> rfl, rfl⟩
  have HIX := Lib.hid hix
  have hno : ¬ (l = [] ∨ 15 < l.length ∨ (l.head? = some 48 ∧ 1 < l.length)) := by
    rintro (h | h | ⟨h, h'⟩)
    · exact h0 h
    · exact h15 h
    · exact hzz ⟨by rw [hhead] at h; simpa using h, h'⟩
  have HNO := Lib.hid hno
  clear hno hix hhead
  have hparts : ((l[0].toNat : Int) == 48) = false ∨ ((l[0].toNat : Int) == 48) = true ∧ l.length ≤ 1 := by
    by_cases h : l[0] = 48
    · exact .inr ⟨by rw [h]; rfl, Nat.le_of_not_lt fun h' => hzz ⟨h, h'⟩⟩
    · refine .inl ?_
      rw [beq_eq_false_iff_ne]
      intro e
      apply h
      apply UInt8.toNat_inj.1
      have : (48 : UInt8).toNat = 48 := rfl
      omega
  rcases hparts with hb | ⟨hb, hl1⟩
  all_goals
    clear hzz
    generalize l[0].toNat = y0 at *
    go_enter Tryz.func86, Tryz.ntmps86
    go_wp2
    clear hi0 hb
    go_loop [3, 4] (fun n i => ∃ k : Nat, k ≤ l.length ∧ i = .int .i64 (k : Int) ∧ n = .int .i64 (digitsV (l.take k) : Int) ∧ (l.take k).all digitB = true) (fun _ i => l.length - (intOf i).toNat)
    case atStart => exact ⟨0, by omega, rfl, rfl, rfl⟩
    case round =>
      obtain ⟨k, hk, rfl, rfl, hall⟩ := hrel
      have hsm := digitsV_small hall (by rw [List.length_take]; omega)
      by_cases hlt : k < l.length
      · have hik := fun W => HIX.out W k hlt
        have htk : l.take (k + 1) = l.take k ++ [l[k]] := List.take_succ_eq_append_getElem hlt
        by_cases hd : digitB l[k] = true
        · have h2 : 48 ≤ l[k].toNat ∧ l[k].toNat ≤ 57 := of_decide_eq_true hd
          obtain ⟨hd1, hd2⟩ := h2
          have HA := Lib.hid (show (l.take (k + 1)).all digitB = true by rw [htk, List.all_append, hall]; simpa using hd)
          have HN := Lib.hid (show digitsV (l.take (k + 1)) = 10 * digitsV (l.take k) + (l[k].toNat - 48) by rw [htk, digitsV_snoc])
          clear htk hall hd
          generalize digitsV (l.take k) = v at *
          generalize l[k].toNat = y at *
          go_wp2
          go_round
          case rel => exact ⟨k + 1, by omega, by go_num, by rw [HN.out]; congr 1; omega, HA.out⟩
          case measure => simp [intOf]; omega
        · have hnot : ¬ (48 ≤ l[k].toNat ∧ l[k].toNat ≤ 57) := fun h => hd (decide_eq_true h)
          have HV := Lib.hid (show numI l = -1 by
            rw [numI, wholeT, if_neg HNO.out, if_neg]
            intro h
            rw [List.all_eq_true] at h
            exact hd (h _ (List.getElem_mem hlt)))
          clear htk hall hd
          generalize l[k].toNat = y at *
          by_cases hy : y < 48
          · go_wp2
            go_ret
            exact ⟨by rw [HV.out] <;> rfl, rfl⟩
          · have hy2 : 57 < y := by omega
            go_wp2
            go_ret
            exact ⟨by rw [HV.out] <;> rfl, rfl⟩
      · have htk : l.take k = l := List.take_of_length_le (by omega)
        rw [htk] at hall hsm ⊢
        have HV := Lib.hid (show numI l = (digitsV l : Int) by rw [numI, wholeT, if_neg HNO.out, if_pos hall])
        go_wp2
        go_ret
        exact ⟨by rw [HV.out] <;> rfl, rfl⟩
end Go.Proofs.YtfiflcajkamliaaGreatDoor
