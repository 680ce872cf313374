/- A line's digits, and what it says, by contracts. They ask what a variable of the library's holds: some number. -/
import Derived.Test.YtdeiohcciafffaaGreatDoorTLaws
namespace Go.Proofs.YtdeiohcciafffaaGreatDoor
open Go.RowKit Go.Shelf

theorem digitsV_snoc (l : List UInt8) (d : UInt8) : digitsV (l ++ [d]) = 10 * digitsV l + (d.toNat - 48) := by simp [digitsV, List.foldl_append]
theorem digits_fold : ∀ (l : List UInt8) (a : Nat), l.all digitB = true → l.foldl (fun n d => 10 * n + (d.toNat - 48)) a + 1 ≤ (a + 1) * 10 ^ l.length
  | [], a, _ => by simp
  | d :: r, a, h => by
    rw [List.all_cons, Bool.and_eq_true] at h
    have h2 : 48 ≤ d.toNat ∧ d.toNat ≤ 57 := of_decide_eq_true h.1
    have h3 := digits_fold r (10 * a + (d.toNat - 48)) h.2
    rw [List.foldl_cons, List.length_cons, Nat.pow_succ, Nat.mul_comm (10 ^ r.length) 10, ← Nat.mul_assoc]
    exact Nat.le_trans h3 (Nat.mul_le_mul_right _ (by omega))
theorem digitsV_lt (l : List UInt8) (h : l.all digitB = true) : digitsV l < 10 ^ l.length := by
  have := digits_fold l 0 h
  unfold digitsV
  omega
/-- A number of at most fifteen digits. -/
theorem digitsV_small {l : List UInt8} (h : l.all digitB = true) (hl : l.length ≤ 15) : digitsV l < 1000000000000000 := by
  have h1 := digitsV_lt l h
  have h2 : 10 ^ l.length ≤ 10 ^ 15 := Nat.pow_le_pow_right (by decide) hl
  have h3 : (10 : Nat) ^ 15 = 1000000000000000 := by decide
  omega
def wholeV (l : List UInt8) : Value := .tuple #[.int .i64 ((wholeT l).getD 0 : Nat), .bool (wholeT l).isSome]

theorem index_byte {P : Program} (t : TypeId) (ht : P.underlying t = some .string) (l : List UInt8) (k : Nat) (hk : k < l.length) (w : World) :
    (Instr.index t (.string (txt l)) (.int .i64 (k : Int))).run P w = .ok (.int .u8 (l[k].toNat : Int)) w := by
  have hi : 0 ≤ (k : Int) ∧ (k : Int) < ((txt l).size : Int) := ⟨by omega, by rw [txt_size]; omega⟩
  rw [run_index_string w t _ .i64 (k : Int) ht, dif_pos hi]
  rfl

set_option maxRecDepth 100000 in
set_option maxHeartbeats 2000000 in
theorem whole_any (l : List UInt8) (w : World) (hl : l.length ≤ 4000000) : Calls Tryz.prog 96 #[.string (txt l)] w fun e w' => e = .returned (wholeV l) ∧ w' = w := by
  obtain ⟨tl, htl⟩ : ∃ tl, tl = txt l := ⟨_, rfl⟩
  have hz : tl.size = l.length := by rw [htl]; exact txt_size l
  have hlist : tl.data.toList = l := by rw [htl]
  have htl2 : tl.toList = l := by rw [ByteArray.toList_eq, hlist]
  have hix := fun W k (hk : k < l.length) => index_byte (P := Tryz.prog) 9 Tryz.underlying9 l k hk W
  rw [← htl] at hix ⊢
  by_cases h0 : l = []
  · have HV := Lib.hid (show wholeV l = .tuple #[.int .i64 0, .bool false] by rw [wholeV, wholeT, if_pos (.inl h0)]; rfl)
    have he : (tl.toList == ([] : List UInt8)) = true := by rw [htl2, h0]; rfl
    clear htl hlist htl2 hix
    go_enter Tryz.func96, Tryz.ntmps96
    go_wp2
    refine bodyPost_ret (results_tmp2 rfl _ _ _) rfl ⟨by rw [HV.out]; rfl, rfl⟩
  have hpos : 0 < l.length := List.length_pos_iff.2 h0
  have he : (tl.toList == ([] : List UInt8)) = false := by
    rw [htl2]
    cases l with
    | nil => exact absurd rfl h0
    | cons _ _ => rfl
  clear htl hlist htl2
  by_cases h15 : 15 < l.length
  · have HV := Lib.hid (show wholeV l = .tuple #[.int .i64 0, .bool false] by rw [wholeV, wholeT, if_pos (.inr (.inl h15))]; rfl)
    clear hix
    go_enter Tryz.func96, Tryz.ntmps96
    go_wp2
    refine bodyPost_ret (results_tmp2 rfl _ _ _) rfl ⟨by rw [HV.out]; rfl, rfl⟩
  have hi0 : ∀ W, (Instr.index 9 (.string tl) (.int .i64 0)).run Tryz.prog W = .ok (.int .u8 (l[0].toNat : Int)) W := fun W => hix W 0 hpos
  have hhead : l.head? = some l[0] := by
    cases l with
    | nil => exact absurd rfl h0
    | cons _ _ => rfl
  by_cases hzz : l[0] = 48 ∧ 1 < l.length
  · have HV := Lib.hid (show wholeV l = .tuple #[.int .i64 0, .bool false] by rw [wholeV, wholeT, if_pos (.inr (.inr ⟨by rw [hhead, hzz.1], hzz.2⟩))]; rfl)
    obtain ⟨h48, h1⟩ := hzz
    have hi1 : ∀ W, (Instr.index 9 (.string tl) (.int .i64 0)).run Tryz.prog W = .ok (.int .u8 48) W := fun W => by rw [hi0 W, h48]; rfl
    clear hix hi0 h48 hhead
    go_enter Tryz.func96, Tryz.ntmps96
    go_wp2
    refine bodyPost_ret (results_tmp2 rfl _ _ _) rfl ⟨by rw [HV.out]; rfl, rfl⟩
  have HIX := Lib.hid hix
  have hno : ¬ (l = [] ∨ 15 < l.length ∨ (l.head? = some 48 ∧ 1 < l.length)) := by
    rintro (h | h | ⟨h, h'⟩)
    · exact h0 h
    · exact h15 h
    · exact hzz ⟨by rw [hhead] at h; simpa using h, h'⟩
  have HNO := Lib.hid hno
  clear hno hix hhead
  have hparts : ((l[0].toNat : Int) == 48) = false ∨ ((l[0].toNat : Int) == 48) = true ∧ l.length ≤ 1 := by
    by_cases h : l[0] = 48
    · exact .inr ⟨by rw [h]; rfl, Nat.le_of_not_lt fun h' => hzz ⟨h, h'⟩⟩
    · refine .inl ?_
      rw [beq_eq_false_iff_ne]
      intro e
      apply h
      apply UInt8.toNat_inj.1
      have : (48 : UInt8).toNat = 48 := rfl
      omega
  rcases hparts with hb | ⟨hb, hl1⟩
  all_goals
    clear hzz
    generalize l[0].toNat = y0 at *
    go_enter Tryz.func96, Tryz.ntmps96
    go_wp2
    clear hi0 hb
    go_loop [2, 25] (fun n i => ∃ k : Nat, k ≤ l.length ∧ i = .int .i64 (k : Int) ∧ n = .int .i64 (digitsV (l.take k) : Int) ∧ (l.take k).all digitB = true) (fun _ i => l.length - (intOf i).toNat)
    case atStart => exact ⟨0, by omega, rfl, rfl, rfl⟩
    case round =>
      obtain ⟨k, hk, rfl, rfl, hall⟩ := hrel
      have hsm := digitsV_small hall (by rw [List.length_take]; omega)
      by_cases hlt : k < l.length
      · have hik := fun W => HIX.out W k hlt
        have htk : l.take (k + 1) = l.take k ++ [l[k]] := List.take_succ_eq_append_getElem hlt
        by_cases hd : digitB l[k] = true
        · have h2 : 48 ≤ l[k].toNat ∧ l[k].toNat ≤ 57 := of_decide_eq_true hd
          obtain ⟨hd1, hd2⟩ := h2
          have HA := Lib.hid (show (l.take (k + 1)).all digitB = true by rw [htk, List.all_append, hall]; simpa using hd)
          have HN := Lib.hid (show digitsV (l.take (k + 1)) = 10 * digitsV (l.take k) + (l[k].toNat - 48) by rw [htk, digitsV_snoc])
          clear htk hall hd
          generalize digitsV (l.take k) = v at *
          generalize l[k].toNat = y at *
          go_wp2
          go_round
          case rel => exact ⟨k + 1, by omega, by go_num, by rw [HN.out]; congr 1; omega, HA.out⟩
          case measure => simp [intOf]; omega
        · have hnot : ¬ (48 ≤ l[k].toNat ∧ l[k].toNat ≤ 57) := fun h => hd (decide_eq_true h)
          have HV := Lib.hid (show wholeV l = .tuple #[.int .i64 0, .bool false] by
            rw [wholeV, wholeT, if_neg HNO.out, if_neg]; · rfl
            intro h
            rw [List.all_eq_true] at h
            exact hd (h _ (List.getElem_mem hlt)))
          clear htk hall hd
          generalize l[k].toNat = y at *
          by_cases hy : y < 48
          · go_wp2
            refine bodyPost_ret (results_tmp2 rfl _ _ _) rfl ⟨by rw [HV.out]; rfl, rfl⟩
          · have hy2 : 57 < y := by omega
            go_wp2
            refine bodyPost_ret (results_tmp2 rfl _ _ _) rfl ⟨by rw [HV.out]; rfl, rfl⟩
      · have htk : l.take k = l := List.take_of_length_le (by omega)
        rw [htk] at hall hsm ⊢
        have HV := Lib.hid (show wholeV l = .tuple #[.int .i64 (digitsV l : Int), .bool true] by rw [wholeV, wholeT, if_neg HNO.out, if_pos hall]; rfl)
        go_wp2
        refine bodyPost_ret (results_tmp2 rfl _ _ _) rfl ⟨by rw [HV.out]; rfl, rfl⟩

/-- What is said, as a value: the name, the number, and whether the line has the form. -/
def sayV (l : List UInt8) : Value := match sayT l with
  | some (_, n) => .tuple #[.string (txt (nameOf l)), .int .i64 (n : Nat), .bool true]
  | none => .tuple #[.string ⟨#[]⟩, .int .i64 0, .bool false]

set_option maxRecDepth 100000 in
set_option maxHeartbeats 2000000 in
theorem saying_any (l : List UInt8) (m : Int) (tb : Nat) (w : World) (hl : l.length ≤ 4000) (hm : Sized m w) (hT : Whole w tb 58 tabC) :
    Calls Tryz.prog 78 #[.string (txt l), .slice (some ⟨tb, 0, none⟩) 16 16] w fun e w' => e = .returned (sayV l) ∧ Below w.heap.size w w' := by
  obtain ⟨tl, htl⟩ : ∃ tl, tl = txt l := ⟨_, rfl⟩
  have hz : tl.size = l.length := by rw [htl]; exact txt_size l
  have hlist : tl.data.toList = l := by rw [htl]
  obtain ⟨ah, hah⟩ : ∃ ah, ah = txt (aheadL 61 l) := ⟨_, rfl⟩
  obtain ⟨bh, hbh⟩ : ∃ bh, bh = txt (behindL 61 l) := ⟨_, rfl⟩
  have h1 := ahead_le 61 l
  have h2 := behind_le 61 l
  have hz1 : ah.size = (aheadL 61 l).length := by rw [hah]; exact txt_size _
  have hl1 : ah.data.toList = aheadL 61 l := by rw [hah]
  have hl2 : bh.data.toList = behindL 61 l := by rw [hbh]
  have hc := fun W h => cut_any tl 61 m W (by omega) h
  have ht := fun W => trimRight_any ah W (by omega)
  have hu := fun W => trimLeft_any bh W
  rw [hlist] at hc
  rw [hl1] at ht
  rw [hl2] at hu
  rw [← htl]
  have e1 : Lib.trimRightS (aheadL 61 l) blanksL = nameOf l := rfl
  have e2 : Lib.trimLeftS (behindL 61 l) blanksL = restOf l := rfl
  rw [e1] at ht
  rw [e2] at hu
  have h3 : (restOf l).length ≤ l.length := Nat.le_trans (List.dropWhile_sublist _).length_le h2
  have hw := fun W => whole_any (restOf l) W (by omega)
  have hf := fun W h => find_any (txt (nameOf l)) tb W h
  have e3 : placeB (txt (nameOf l)) = placeL (nameOf l) := rfl
  rw [e3] at hf
  have HV := Lib.hid (show sayV l = if placeL (nameOf l) < 16 then (match wholeT (restOf l) with | some n => .tuple #[.string (txt (nameOf l)), .int .i64 (n : Nat), .bool true] | none => .tuple #[.string ⟨#[]⟩, .int .i64 0, .bool false]) else .tuple #[.string ⟨#[]⟩, .int .i64 0, .bool false] by
    unfold sayV sayT
    by_cases hp : placeL (nameOf l) < 16
    · rw [if_pos hp, if_pos hp]
      cases wholeT (restOf l) <;> rfl
    · rw [if_neg hp, if_neg hp])
  have HC := Lib.hid hc
  have HR := Lib.hid ht
  have HU := Lib.hid hu
  have HW := Lib.hid hw
  have HF := Lib.hid hf
  have HM := Lib.hid hm
  have HT := Lib.hid hT
  unfold txt at hah hbh
  rw [← hah, ← hbh] at HC
  clear hc ht hu hw hf hm hT h1 h2 h3 hlist hl1 hl2 htl hah hbh hz hz1 e1 e2 e3
  unfold wholeV at HW
  have fin : ∀ (p : Nat) (o : Option Nat) (r : Value), (r = if p < 16 then (match o with | some n => .tuple #[.string (txt (nameOf l)), .int .i64 (n : Nat), .bool true] | none => .tuple #[.string ⟨#[]⟩, .int .i64 0, .bool false]) else .tuple #[.string ⟨#[]⟩, .int .i64 0, .bool false]) →
      (p < 16 ∧ ∃ n, o = some n ∧ r = .tuple #[.string (txt (nameOf l)), .int .i64 (n : Nat), .bool true]) ∨ (p < 16 ∧ o = none ∧ r = .tuple #[.string ⟨#[]⟩, .int .i64 0, .bool false]) ∨ (¬ p < 16 ∧ r = .tuple #[.string ⟨#[]⟩, .int .i64 0, .bool false]) := by
    intro p o r h
    by_cases hp : p < 16
    · rw [if_pos hp] at h
      cases o
      · exact .inr (.inl ⟨hp, rfl, h⟩)
      · exact .inl ⟨hp, _, rfl, h⟩
    · rw [if_neg hp] at h
      exact .inr (.inr ⟨hp, h⟩)
  have HQ := fin _ _ _ HV.out
  clear fin HV
  unfold txt at HW HF HQ
  generalize sayV l = sv at *
  generalize (⟨(nameOf l).toArray⟩ : ByteArray) = nm at *
  generalize (⟨(restOf l).toArray⟩ : ByteArray) = rs at *
  generalize wholeT (restOf l) = ow at *
  generalize placeL (nameOf l) = pl at *
  generalize l.contains 61 = bo at *
  rcases HQ with ⟨hp, n, rfl, hr⟩ | ⟨hp, rfl, hr⟩ | ⟨hp, hr⟩
  · rw [foundC_lt hp, decide_eq_true hp] at HF
    generalize nameB pl = nb at *
    generalize getF pl = gk at *
    generalize setF pl = sk at *
    go_enter Tryz.func78, Tryz.ntmps78
    go_wp2_with (first
      | (go_at_call 21; refine (HC.out _ HM.out).mono ?_; rintro e w2 ⟨rfl, n2, rfl⟩; have HB2 := Lib.hid (below_drewN (Below.refl w.heap.size w) n2))
      | (go_at_call 95; refine (HR.out _).mono ?_; rintro e w3 ⟨rfl, hb⟩; have HB3 := Lib.hid (k_then hb HB2.out); clear hb)
      | (go_at_call 37; refine (HF.out w3 (k_later HB3.out HT.out)).mono ?_; rintro e w4 ⟨rfl, hb⟩; have HB4 := Lib.hid (k_then hb HB3.out); clear hb)
      | (go_at_call 97; refine (HU.out _).mono ?_; rintro e w5 ⟨rfl, hb⟩; have HB5 := Lib.hid (k_then hb (HB4.out.alloc HB4.out.size (.cells #[.string nb, .func (.func gk) #[] #[], .func (.func sk) #[] #[]] 58))); clear hb)
      | (go_at_call 96; refine (HW.out _).mono ?_; rintro e w6 ⟨rfl, rfl⟩))
    refine bodyPost_ret (results_tmp3 rfl _ _ _) rfl ⟨by rw [hr]; rfl, HB5.out⟩
  · rw [foundC_lt hp, decide_eq_true hp] at HF
    generalize nameB pl = nb at *
    generalize getF pl = gk at *
    generalize setF pl = sk at *
    go_enter Tryz.func78, Tryz.ntmps78
    go_wp2_with (first
      | (go_at_call 21; refine (HC.out _ HM.out).mono ?_; rintro e w2 ⟨rfl, n2, rfl⟩; have HB2 := Lib.hid (below_drewN (Below.refl w.heap.size w) n2))
      | (go_at_call 95; refine (HR.out _).mono ?_; rintro e w3 ⟨rfl, hb⟩; have HB3 := Lib.hid (k_then hb HB2.out); clear hb)
      | (go_at_call 37; refine (HF.out w3 (k_later HB3.out HT.out)).mono ?_; rintro e w4 ⟨rfl, hb⟩; have HB4 := Lib.hid (k_then hb HB3.out); clear hb)
      | (go_at_call 97; refine (HU.out _).mono ?_; rintro e w5 ⟨rfl, hb⟩; have HB5 := Lib.hid (k_then hb (HB4.out.alloc HB4.out.size (.cells #[.string nb, .func (.func gk) #[] #[], .func (.func sk) #[] #[]] 58))); clear hb)
      | (go_at_call 96; refine (HW.out _).mono ?_; rintro e w6 ⟨rfl, rfl⟩))
    refine bodyPost_ret (results_tmp3 rfl _ _ _) rfl ⟨by rw [hr]; rfl, HB5.out⟩
  · rw [foundC, if_neg hp, decide_eq_false hp] at HF
    go_enter Tryz.func78, Tryz.ntmps78
    go_wp2_with (first
      | (go_at_call 21; refine (HC.out _ HM.out).mono ?_; rintro e w2 ⟨rfl, n2, rfl⟩; have HB2 := Lib.hid (below_drewN (Below.refl w.heap.size w) n2))
      | (go_at_call 95; refine (HR.out _).mono ?_; rintro e w3 ⟨rfl, hb⟩; have HB3 := Lib.hid (k_then hb HB2.out); clear hb)
      | (go_at_call 37; refine (HF.out w3 (k_later HB3.out HT.out)).mono ?_; rintro e w4 ⟨rfl, hb⟩; have HB4 := Lib.hid (k_then hb HB3.out); clear hb)
      | (go_at_call 97; refine (HU.out _).mono ?_; rintro e w5 ⟨rfl, hb⟩; have HB5 := Lib.hid (k_then hb (HB4.out.alloc HB4.out.size (.cells #[.string ⟨#[]⟩, .nilFunc, .nilFunc] 58))); clear hb)
      | (go_at_call 96; refine (HW.out _).mono ?_; rintro e w6 ⟨rfl, rfl⟩))
    refine bodyPost_ret (results_tmp3 rfl _ _ _) rfl ⟨by rw [hr]; rfl, HB5.out⟩
end Go.Proofs.YtdeiohcciafffaaGreatDoor
