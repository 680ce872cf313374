/- The document's Lines: a text's lines, in a new row, by a contract. No condition. -/
import Derived.Test.YtfiflcajkamliaaGreatDoorTRLine
import Derived.Test.YtfiflcajkamliaaGreatDoorTNamesP
namespace Go.Proofs.YtfiflcajkamliaaGreatDoor
open Go.RowKit Go.Shelf

/-- Texts as values. -/
def strV (ls : List (List UInt8)) : List Value := ls.map fun l => .string (txt l)
theorem strV_append (a b : List (List UInt8)) : strV (a ++ b) = strV a ++ strV b := by simp [strV]
theorem strV_length (a : List (List UInt8)) : (strV a).length = a.length := by simp [strV]
theorem strV_get {a : List (List UInt8)} {k : Nat} (hk : k < a.length) : (strV a)[k]? = some (.string (txt a[k])) := by
  rw [strV, List.getElem?_map, List.getElem?_eq_getElem hk]
  rfl
theorem linesT_app {p : List UInt8} (h : p.contains 10 = false) (r : List UInt8) : linesT (p ++ 10 :: r) = p :: linesT r := by
  induction p with
  | nil => simp [linesT]
  | cons c t ih =>
    rw [List.contains_cons] at h
    have h1 : c ≠ 10 := by rintro rfl; simp at h
    have h2 : t.contains 10 = false := by
      cases hr : t.contains 10
      · rfl
      · rw [hr] at h; simp at h
    rw [List.cons_append]
    conv => lhs; unfold linesT
    rw [if_neg h1, ih h2]

/-- A text's lines are handed back, in a new row of one's own. -/
def FreshS (w : World) (ls : List (List UInt8)) (e : Ending) (w' : World) : Prop := ∃ v, e = .returned v ∧ w'.ownsRow w.heap.size 9 1 v ls.length (strV ls) ∧ Below w.heap.size w w'
theorem FreshS.opened {w w' : World} {ls : List (List UInt8)} {e : Ending} (h : FreshS w ls e w') (h0 : ls ≠ []) : ∃ b c, e = .returned (.slice (some ⟨b, 0, none⟩) ls.length c) ∧ w.heap.size ≤ b ∧ b < w'.heap.size ∧ (∀ k (hk : k < ls.length), w'.cell? ⟨b, k, none⟩ = some (.string (txt ls[k]))) ∧ (∀ k, w'.frozen? ⟨b, k, none⟩ = false) ∧ Below w.heap.size w w' := by
  obtain ⟨v, rfl, hown, hb⟩ := h
  rcases hown.2 with ⟨rfl, h1⟩ | ⟨g, cap, cur, rfl, hg, hblk, _⟩
  · exact absurd (List.length_eq_zero_iff.1 h1) h0
  · exact ⟨g, cap, rfl, hg, (Array.getElem?_eq_some_iff.1 hblk).1, fun k hk => by rw [hown.cellAt k (by omega), strV_get hk], fun k => hown.frozenAt k, hb⟩

set_option maxRecDepth 100000 in
set_option maxHeartbeats 4000000 in
theorem refLines_any (l : List UInt8) (w : World) (hl : l.length ≤ 4000000) : Calls Tryz.prog 30 #[.string (txt l)] w (FreshS w (linesT l)) := by
  obtain ⟨tl, htl⟩ : ∃ tl, tl = txt l := ⟨_, rfl⟩
  have hz : tl.size = l.length := by rw [htl]; exact txt_size l
  have hix := fun W k (hk : k < l.length) => index_byte (P := Tryz.prog) 9 Tryz.underlying9 l k hk W
  rw [← htl] at hix ⊢
  have hext : ∀ a b, tl.extract a b = txt ((l.take b).drop a) := fun a b => by rw [htl, txt_extract]
  have HIX := Lib.hid hix
  have HEXT := Lib.hid hext
  clear hix hext htl
  obtain ⟨i0, hi, hz0, hz1, hz2⟩ := info_parts string_info
  go_enter Tryz.func30, Tryz.ntmps30
  go_wp2
  go_loopw [3, 4, 5] (fun v f i wr => ∃ (k fr : Nat) (acc : List (List UInt8)), k ≤ l.length ∧ i = .int .i64 (k : Int) ∧ f = .int .i64 (fr : Int) ∧ fr ≤ k ∧ acc.length ≤ k ∧ linesT l = acc ++ linesT (l.drop fr) ∧ ((l.take k).drop fr).contains 10 = false ∧ wr.ownsRow w.heap.size 9 1 v acc.length (strV acc) ∧ Below w.heap.size w wr) (fun _ _ i _ => l.length - (intOf i).toNat)
  case atStart => exact ⟨0, 0, [], by omega, rfl, rfl, by omega, by simp, rfl, by simp, World.ownsRow_nil _ _ _ _, Below.refl _ _⟩
  case round =>
    obtain ⟨k, fr, acc, hk, rfl, rfl, hfr, hacc, heq, hno, hrow, hbl⟩ := hrel
    have HEQ := Lib.hid heq
    have HNO := Lib.hid hno
    clear heq hno
    by_cases hlt : k < l.length
    · have hik := fun W => HIX.out W k hlt
      by_cases hc : l[k] = 10
      · have hik2 : ∀ W, (Instr.index 9 (.string tl) (.int .i64 (k : Int))).run Tryz.prog W = .ok (.int .u8 10) W := fun W => by rw [hik W, hc]; rfl
        have hpiece := HEXT.out fr k
        have hdrop : l.drop fr = (l.take k).drop fr ++ 10 :: l.drop (k + 1) := by
          rw [← hc, ← List.drop_eq_getElem_cons hlt]
          have : l.take k ++ l.drop k = l := List.take_append_drop k l
          conv => lhs; rw [← this]
          rw [List.drop_append_of_le_length (by rw [List.length_take]; omega)]
        have hstep : linesT l = (acc ++ [(l.take k).drop fr]) ++ linesT (l.drop (k + 1)) := by
          rw [HEQ.out, hdrop, linesT_app HNO.out, List.append_assoc]
          rfl
        have HST := Lib.hid hstep
        have HPI := Lib.hid hpiece
        clear hik hc hpiece hdrop hstep
        go_wp2_with (at_builtin; refine wpList_append_own _ rfl _ _ 42 rfl w.heap.size 9 i0 (.string ByteArray.empty) 1 16 Tryz.underlying42 hi hz0 hz1 hz2 rfl (by decide) _ _ _ rfl (hrow.alloc _) ⟨wr.heap.size, 0, none⟩ 1 1 [.string (tl.extract fr k)] rfl rfl (cell_one_new _ _ _) (by simp [Value.oneCell']) (by unfold maxLen; omega) (by omega) (by have := hbl.size; simp; omega) ?_; intro v' w2 hown' hgrow _; have hb2 := ((Below.refl w.heap.size wr).alloc hbl.size (.cells #[.string (tl.extract fr k)] 9)).grown hgrow (by have := hbl.size; simp; omega) (fun j ej => (hrow.lt j ej).1))
        go_roundw
        case rel =>
          refine ⟨k + 1, k + 1, acc ++ [(l.take k).drop fr], by omega, by go_num, by go_num, Nat.le_refl _, by simp; omega, HST.out, by rw [List.drop_eq_nil_of_le (by rw [List.length_take]; omega)]; rfl, ?_, hbl.trans hb2⟩
          rw [strV_append, List.length_append]
          rw [HPI.out] at hown'
          exact hown'
        case measure => simp [intOf]; omega
      · have hne : ((l[k].toNat : Int) == 10) = false := by
          rw [beq_eq_false_iff_ne]
          intro e
          apply hc
          apply UInt8.toNat_inj.1
          have : (10 : UInt8).toNat = 10 := rfl
          omega
        have HN2 := Lib.hid (show ((l.take (k + 1)).drop fr).contains 10 = false by
          have htk : l.take (k + 1) = l.take k ++ [l[k]] := List.take_succ_eq_append_getElem hlt
          have h10 : ((10 : UInt8) == l[k]) = false := by simpa using fun e => hc e.symm
          rw [htk, List.drop_append_of_le_length (by rw [List.length_take]; omega)]
          have := HNO.out
          simp only [List.contains_eq_mem, List.mem_append, List.mem_singleton, decide_eq_false_iff_not] at this ⊢
          rintro (h | h)
          · exact this h
          · exact hc h.symm)
        clear hc
        generalize l[k].toNat = y at *
        go_wp2
        go_roundw
        case rel => exact ⟨k + 1, fr, acc, by omega, by go_num, rfl, by omega, by omega, HEQ.out, HN2.out, hrow, hbl⟩
        case measure => simp [intOf]; omega
    · obtain rfl : k = l.length := by omega
      have HST := Lib.hid (show linesT l = acc ++ [l.drop fr] by
        have h := HNO.out
        rw [List.take_length] at h
        rw [HEQ.out, linesT_last h])
      have hpiece : tl.extract fr l.length = txt (l.drop fr) := by rw [HEXT.out, List.take_length]
      have HPI := Lib.hid hpiece
      clear hpiece
      go_wp2_with (at_builtin; refine wpList_append_own _ rfl _ _ 42 rfl w.heap.size 9 i0 (.string ByteArray.empty) 1 16 Tryz.underlying42 hi hz0 hz1 hz2 rfl (by decide) _ _ _ rfl (hrow.alloc _) ⟨wr.heap.size, 0, none⟩ 1 1 [.string (tl.extract fr l.length)] rfl rfl (cell_one_new _ _ _) (by simp [Value.oneCell']) (by unfold maxLen; omega) (by omega) (by have := hbl.size; simp; omega) ?_; intro v' w2 hown' hgrow _; have hb2 := ((Below.refl w.heap.size wr).alloc hbl.size (.cells #[.string (tl.extract fr l.length)] 9)).grown hgrow (by have := hbl.size; simp; omega) (fun j ej => (hrow.lt j ej).1))
      go_ret
      refine ⟨_, rfl, ?_, hbl.trans hb2⟩
      rw [HST.out, strV_append, List.length_append]
      rw [HPI.out] at hown'
      exact hown'
end Go.Proofs.YtfiflcajkamliaaGreatDoor
