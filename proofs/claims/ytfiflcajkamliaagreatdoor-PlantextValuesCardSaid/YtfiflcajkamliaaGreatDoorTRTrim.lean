/- The document's blank, trim and number, by contracts. No condition. -/
import Derived.Test.YtfiflcajkamliaaGreatDoorTSay
namespace Go.Proofs.YtfiflcajkamliaaGreatDoor
open Go.RowKit Go.Shelf

theorem blank_bool (d : UInt8) : blanksL.contains d = (decide ((d.toNat : Int) = 32) || decide ((d.toNat : Int) = 9)) := by
  have h1 : (d = 32) ↔ d.toNat = 32 := ⟨fun h => by rw [h]; rfl, fun h => UInt8.toNat_inj.1 h⟩
  have h2 : (d = 9) ↔ d.toNat = 9 := ⟨fun h => by rw [h]; rfl, fun h => UInt8.toNat_inj.1 h⟩
  rw [Bool.eq_iff_iff]
  simp [blanksL, h1, h2]
  omega
set_option maxHeartbeats 1000000 in
theorem blank_any (d : UInt8) (w : World) : Calls Tryz.prog 105 #[.int .u8 (d.toNat : Int)] w fun e w' => e = .returned (.bool (blanksL.contains d)) ∧ w' = w := by
  have hb := blank_bool d
  have HB := Lib.hid hb
  clear hb
  generalize d.toNat = y at *
  by_cases h1 : y = 32
  · subst h1
    go_enter Tryz.func105, Tryz.ntmps105
    go_wp2
    go_ret
    exact ⟨by rw [HB.out]; rfl, rfl⟩
  · have h2 : ((y : Int) == 32) = false := by rw [beq_eq_false_iff_ne]; omega
    have HE := Lib.hid (show (decide ((y : Int) = 32) || decide ((y : Int) = 9)) = ((y : Int) == 9) by
      have : decide ((y : Int) = 32) = false := by simp; omega
      rw [this, Bool.false_or]
      rw [Bool.eq_iff_iff]
      simp)
    go_enter Tryz.func105, Tryz.ntmps105
    go_wp2
    go_ret
    exact ⟨by rw [HB.out, HE.out]; rfl, rfl⟩

theorem trim_parts {l : List UInt8} {a b : Nat} (hab : a ≤ b) (hb : b ≤ l.length) (h1 : ∀ j (h : j < l.length), j < a → blanksL.contains l[j] = true) (h2 : ∀ (h : a < l.length), blanksL.contains l[a] = false)
    (h3 : ∀ j (h : j < l.length), b ≤ j → blanksL.contains l[j] = true) (h4 : ∀ (h : b - 1 < l.length), a < b → blanksL.contains l[b - 1] = false) : (l.take b).drop a = Lib.trimS l blanksL := by
  rcases Nat.lt_or_ge a b with h | h
  · have e1 : Lib.trimRightS l blanksL = l.take b := Lib.trimRightS_take l blanksL b hb (fun j x hj hx => by
      obtain ⟨hl, rfl⟩ := List.getElem?_eq_some_iff.1 hx
      exact h3 j hl hj) (fun x _ hx => by
      obtain ⟨hl, rfl⟩ := List.getElem?_eq_some_iff.1 hx
      exact h4 hl h)
    have e2 : Lib.trimLeftS (l.take b) blanksL = (l.take b).drop a := Lib.trimLeftS_drop (l.take b) blanksL a (by rw [List.length_take]; omega) (fun j x hj hx => by
      rw [List.getElem?_take_of_lt (by omega)] at hx
      obtain ⟨hl, rfl⟩ := List.getElem?_eq_some_iff.1 hx
      exact h1 j hl hj) (fun x hx => by
      rw [List.getElem?_take_of_lt (by omega)] at hx
      obtain ⟨hl, rfl⟩ := List.getElem?_eq_some_iff.1 hx
      exact h2 hl)
    rw [Lib.trimS, e1, e2]
  · have e1 : Lib.trimRightS l blanksL = l.take 0 := Lib.trimRightS_take l blanksL 0 (by omega) (fun j x _ hx => by
      obtain ⟨hl, rfl⟩ := List.getElem?_eq_some_iff.1 hx
      rcases Nat.lt_or_ge j a with g | g
      · exact h1 j hl g
      · exact h3 j hl (by omega)) (fun x h0 _ => by omega)
    rw [Lib.trimS, e1]
    have : (l.take b).drop a = [] := List.drop_eq_nil_of_le (by rw [List.length_take]; omega)
    rw [this]
    rfl

theorem txt_extract (l : List UInt8) (a b : Nat) : (txt l).extract a b = txt ((l.take b).drop a) := by
  apply ByteArray.ext
  apply Array.ext'
  simp [List.drop_take]

set_option maxRecDepth 100000 in
set_option maxHeartbeats 4000000 in
theorem refTrim_any (l : List UInt8) (w : World) (hl : l.length ≤ 4000000) : Calls Tryz.prog 85 #[.string (txt l)] w fun e w' => e = .returned (.string (txt (Lib.trimS l blanksL))) ∧ w' = w := by
  obtain ⟨tl, htl⟩ : ∃ tl, tl = txt l := ⟨_, rfl⟩
  have hz : tl.size = l.length := by rw [htl]; exact txt_size l
  have hix := fun W k (hk : k < l.length) => index_byte (P := Tryz.prog) 9 Tryz.underlying9 l k hk W
  rw [← htl] at hix ⊢
  have HIX := Lib.hid hix
  have HTL := Lib.hid htl
  have HBL := Lib.hid (fun d W => blank_any d W)
  clear hix htl
  go_enter Tryz.func85, Tryz.ntmps85
  go_wp2
  go_loop [3, 5] (fun a i => ∃ k : Nat, k ≤ l.length ∧ i = .int .i64 (k : Int) ∧ (a = .int .i64 (k : Int) ∧ ∀ j (h : j < l.length), j < k → blanksL.contains l[j] = true)) (fun _ i => l.length - (intOf i).toNat)
  case atStart => exact ⟨0, by omega, rfl, rfl, fun j _ h => absurd h (by omega)⟩
  case round =>
    obtain ⟨k, hk, rfl, rfl, hall⟩ := hrel
    have HA := Lib.hid hall
    clear hall
    by_cases hlt : k < l.length
    · have hik := fun W => HIX.out W k hlt
      have hbk := fun W => HBL.out l[k] W
      cases hc : blanksL.contains l[k]
      · rw [hc] at hbk
        have HB1 := Lib.hid hbk
        have HC := Lib.hid hc
        clear hbk hc
        generalize l[k].toNat = y at *
        go_wp2_with (go_at_call 105; refine (HB1.out _).mono ?_; rintro e w' ⟨rfl, rfl⟩)
        have H2 := Lib.hid (show ∀ h : k < l.length, blanksL.contains l[k] = false from fun _ => HC.out)
        go_loop [4, 6] (fun a i => ∃ m : Nat, k ≤ m ∧ m ≤ l.length ∧ i = .int .i64 ((m : Int) - 1) ∧ (a = .int .i64 (m : Int) ∧ ∀ j (h : j < l.length), m ≤ j → blanksL.contains l[j] = true)) (fun a _ => (intOf a).toNat)
        case atStart => exact ⟨l.length, hk, Nat.le_refl _, rfl, rfl, fun j h h' => absurd h (by omega)⟩
        case round =>
          obtain ⟨m, hkm, hm, rfl, rfl, hall⟩ := hrel
          have HD := Lib.hid hall
          clear hall
          by_cases hlt2 : k < m
          · have hik2 := fun W => HIX.out W (m - 1) (by omega)
            have em : ((m - 1 : Nat) : Int) = (m : Int) - 1 := by omega
            rw [em] at hik2
            have hbk2 := fun W => HBL.out (l[m - 1]'(by omega)) W
            cases hc2 : blanksL.contains (l[m - 1]'(by omega))
            · rw [hc2] at hbk2
              have HB2 := Lib.hid hbk2
              have hpart := trim_parts (l := l) (a := k) (b := m) hkm hm HA.out H2.out HD.out (fun _ _ => hc2)
              have HP := Lib.hid hpart
              clear hbk2 hc2 hpart
              generalize (l[m - 1]'(by omega)).toNat = y2 at *
              go_wp2_with (go_at_call 105; refine (HB2.out _).mono ?_; rintro e w' ⟨rfl, rfl⟩)
              have hx : tl.extract k m = txt (Lib.trimS l blanksL) := by rw [← HP.out, HTL.out, txt_extract]
              go_ret
              exact ⟨by rw [hx] <;> rfl, rfl⟩
            · rw [hc2] at hbk2
              have HB2 := Lib.hid hbk2
              have HC2 := Lib.hid hc2
              clear hbk2 hc2
              generalize (l[m - 1]'(by omega)).toNat = y2 at *
              go_wp2_with (go_at_call 105; refine (HB2.out _).mono ?_; rintro e w' ⟨rfl, rfl⟩)
              go_round
              case rel =>
                refine ⟨m - 1, by omega, by omega, by go_num, by go_num, fun j hj hjk => ?_⟩
                by_cases e : j = m - 1
                · subst e; exact HC2.out
                · exact HD.out j hj (by omega)
              case measure => simp [intOf] <;> omega
          · have hpart := trim_parts (l := l) (a := k) (b := m) hkm hm HA.out H2.out HD.out (fun _ h => absurd h hlt2)
            have HP := Lib.hid hpart
            clear hpart
            go_wp2
            have hx : tl.extract k m = txt (Lib.trimS l blanksL) := by rw [← HP.out, HTL.out, txt_extract]
            go_ret
            exact ⟨by rw [hx] <;> rfl, rfl⟩
      · rw [hc] at hbk
        have HB1 := Lib.hid hbk
        have HC := Lib.hid hc
        clear hbk hc
        generalize l[k].toNat = y at *
        go_wp2_with (go_at_call 105; refine (HB1.out _).mono ?_; rintro e w' ⟨rfl, rfl⟩)
        go_round
        case rel =>
          refine ⟨k + 1, by omega, by go_num, by go_num, fun j hj hjk => ?_⟩
          by_cases e : j = k
          · subst e; exact HC.out
          · exact HA.out j hj (by omega)
        case measure => (simp [intOf]; try omega)
    · go_wp2
      have H2 := Lib.hid (show ∀ h : k < l.length, blanksL.contains l[k] = false from fun h => absurd h hlt)
      go_loop [4, 6] (fun a i => ∃ m : Nat, k ≤ m ∧ m ≤ l.length ∧ i = .int .i64 ((m : Int) - 1) ∧ (a = .int .i64 (m : Int) ∧ ∀ j (h : j < l.length), m ≤ j → blanksL.contains l[j] = true)) (fun a _ => (intOf a).toNat)
      case atStart => exact ⟨l.length, hk, Nat.le_refl _, rfl, rfl, fun j h h' => absurd h (by omega)⟩
      case round =>
        obtain ⟨m, hkm, hm, rfl, rfl, hall⟩ := hrel
        have HD := Lib.hid hall
        clear hall
        by_cases hlt2 : k < m
        · exact absurd hlt2 (by omega)
        · have hpart := trim_parts (l := l) (a := k) (b := m) hkm hm HA.out H2.out HD.out (fun _ h => absurd h hlt2)
          have HP := Lib.hid hpart
          clear hpart
          go_wp2
          have hx : tl.extract k m = txt (Lib.trimS l blanksL) := by rw [← HP.out, HTL.out, txt_extract]
          go_ret
          exact ⟨by rw [hx] <;> rfl, rfl⟩
end Go.Proofs.YtfiflcajkamliaaGreatDoor
