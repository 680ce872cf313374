/- The number of a name, found in the table, by a contract. No condition. -/
import Derived.Test.YtdeiohcciafffaaGreatDoorTTab
import Derived.Test.YtdeiohcciafffaaGreatDoorTRes
namespace Go.Proofs.YtdeiohcciafffaaGreatDoor
open Go.RowKit Go.Shelf

/-- The place of a name; 16, if there is none such. -/
def placeL (l : List UInt8) : Nat := namesL.findIdx (· == l)
def placeB (s : ByteArray) : Nat := placeL s.data.toList
def nameB (k : Nat) : ByteArray := ⟨(nameL k).toArray⟩
theorem placeL_le (l : List UInt8) : placeL l ≤ 16 := List.findIdx_le_length
theorem placeL_name {l : List UInt8} (h : placeL l < 16) : nameL (placeL l) = l := by
  have h' : namesL.findIdx (· == l) < namesL.length := h
  have := List.findIdx_getElem (w := h')
  have e : nameL (placeL l) = namesL[namesL.findIdx (· == l)] := by
    rw [nameL, List.getD_eq_getElem?_getD, placeL, List.getElem?_eq_getElem h']
    rfl
  rw [e]
  simpa using this
theorem placeL_eq {l : List UInt8} {k : Nat} (hk : k < 16) (h : nameL k = l) (hn : ∀ j, j < k → nameL j ≠ l) : placeL l = k := by
  have h' : k < namesL.length := hk
  unfold placeL
  rw [List.findIdx_eq h']
  have e : ∀ j (hj : j < namesL.length), namesL[j] = nameL j := fun j hj => by
    rw [nameL, List.getD_eq_getElem?_getD, List.getElem?_eq_getElem hj]
    rfl
  refine ⟨by rw [e k h', h]; simp, fun j hj => ?_⟩
  rw [e j (by omega)]
  simpa using hn j hj
theorem placeL_none {l : List UInt8} (hn : ∀ j, j < 16 → nameL j ≠ l) : placeL l = 16 := by
  rcases Nat.lt_or_ge (placeL l) 16 with h | h
  · exact absurd (placeL_name h) (hn _ h)
  · have := placeL_le l
    omega
theorem name_beq (k : Nat) (s : ByteArray) : ((nameB k).toList == s.toList) = decide (nameL k = s.data.toList) := by
  rw [ByteArray.toList_eq, ByteArray.toList_eq, Bool.eq_iff_iff]
  simp [nameB]

/-- What is found. -/
def foundC (k : Nat) : Array Value := if k < 16 then #[.string (nameB k), .func (.func (getF k)) #[] #[], .func (.func (setF k)) #[] #[]] else #[.string ⟨#[]⟩, .nilFunc, .nilFunc]
theorem foundC_lt {k : Nat} (h : k < 16) : foundC k = #[.string (nameB k), .func (.func (getF k)) #[] #[], .func (.func (setF k)) #[] #[]] := if_pos h
theorem tab_cells {w : World} {tb : Nat} {k : Nat} (h : Whole w tb 58 tabC) (hk : k < 16) :
    w.cell? ⟨tb, k * 3, none⟩ = some (.string (nameB k)) ∧ w.cell? ⟨tb, k * 3 + 1, none⟩ = some (.func (.func (getF k)) #[] #[]) ∧ w.cell? ⟨tb, k * 3 + 2, none⟩ = some (.func (.func (setF k)) #[] #[]) := by
  rw [Nat.mul_comm k 3]
  exact ⟨(h.cell _).trans (tab_row hk).1, (h.cell _).trans (tab_row hk).2.1, (h.cell _).trans (tab_row hk).2.2⟩
theorem three_cells {w : World} {g : Nat} {t : TypeId} {a b c : Value} (h : Whole w g t #[a, b, c]) :
    w.cell? ⟨g, 0, none⟩ = some a ∧ w.cell? ⟨g, 1, none⟩ = some b ∧ w.cell? ⟨g, 2, none⟩ = some c ∧ ∀ i, w.frozen? ⟨g, i, none⟩ = false :=
  ⟨h.cell 0, h.cell 1, h.cell 2, h.frozen⟩

set_option maxHeartbeats 1000000 in
theorem find_any (s : ByteArray) (tb : Nat) (w : World) (h : Whole w tb 58 tabC) :
    Calls Tryz.prog 37 #[.slice (some ⟨tb, 0, none⟩) 16 16, .string s] w fun e w' => e = .returned (.tuple #[.agg (foundC (placeB s)), .bool (decide (placeB s < 16))]) ∧ Below w.heap.size w w' := by
  have HB := Lib.hid (Below.refl w.heap.size w)
  go_enter Tryz.func37, Tryz.ntmps37
  go_wp2
  have HB1 := Lib.hid (HB.out.alloc HB.out.size (.cells #[.string ⟨#[]⟩, .nilFunc, .nilFunc] 58))
  have HZ1 := Lib.hid (Whole.new w 58 #[.string ⟨#[]⟩, .nilFunc, .nilFunc])
  have HT1 := Lib.hid (k_later HB1.out h)
  clear h HB
  obtain ⟨rb, hrb⟩ : ∃ rb, rb = w.heap.size := ⟨_, rfl⟩
  rw [← hrb] at HZ1
  have HN := Lib.hid hrb
  rw [← hrb]
  generalize w.alloc (.cells #[.string ⟨#[]⟩, .nilFunc, .nilFunc] 58) = w1 at *
  go_loopw [10] (fun i V => ∃ k : Nat, k ≤ 16 ∧ i = .int .i64 (k : Int) ∧ Below w1.heap.size w1 V ∧ ∀ j, j < k → nameL j ≠ s.data.toList) (fun i _ => 16 - (intOf i).toNat)
  case atStart => exact ⟨0, Nat.zero_le _, rfl, Below.refl _ _, fun j h => absurd h (by omega)⟩
  case round =>
    obtain ⟨k, hk, rfl, hbl, hf⟩ := hrel
    have HF := Lib.hid hf
    have HL := Lib.hid hbl
    have HT := Lib.hid (k_later hbl HT1.out)
    have HZ := Lib.hid (k_later hbl HZ1.out)
    clear hf hbl
    by_cases hlt : k < 16
    · obtain ⟨hc0, hc1, hc2⟩ := tab_cells HT.out hlt
      by_cases he : nameL k = s.data.toList
      · have heq : ((nameB k).toList == s.toList) = true := by rw [name_beq, decide_eq_true he]
        obtain ⟨hz0, hz1, hz2, hzf⟩ := three_cells HZ.out
        have hlr : rb < wr.heap.size := HZ.out.lt
        have HP := Lib.hid (placeL_eq hlt he HF.out)
        clear HT1 HZ1
        have HX := Lib.hid (HB1.out.trans (HL.out.mono HB1.out.size))
        clear hrb hz0 hz1 hz2 hzf hlr
        go_wp2_with (refine wpList_store_three rfl 58 (.tmp 4) (.tmp 18) rfl rb (.string (nameB k)) (.func (.func (getF k)) #[] #[]) (.func (.func (setF k)) #[] #[]) (.string ⟨#[]⟩) .nilFunc .nilFunc rfl rfl 58 (HZ.out.alloc _) info_number rfl rfl rfl ?_)
        refine bodyPost_ret (v := .tuple #[.agg (foundC (placeB s)), .bool (decide (placeB s < 16))]) ?_ rfl ⟨rfl, ?_⟩
        · rw [placeB, HP.out, foundC_lt hlt, decide_eq_true hlt]
          exact results_row1 rfl _ _ _ 58 _ (0, 0) _ rfl rfl (setRow_heap _ _ _ _ _ _ (HZ.out.alloc _)) Tryz.underlying58 rfl info_number
        · exact below_setRow' (HX.out.alloc HX.out.size _) (Nat.le_of_eq HN.out.symm) _
      · have heq : ((nameB k).toList == s.toList) = false := by rw [name_beq, decide_eq_false he]
        go_wp2
        go_round
        case rel =>
          refine ⟨k + 1, by omega, by go_num, HL.out.alloc HL.out.size _, fun j hj => ?_⟩
          by_cases e : j = k
          · subst e; exact he
          · exact HF.out j (by omega)
        case measure => simp [intOf]; omega
    · obtain rfl : k = 16 := by omega
      have HP := Lib.hid (placeL_none HF.out)
      have HX := Lib.hid (HB1.out.trans (HL.out.mono HB1.out.size))
      clear hrb
      go_wp2_with (refine wpList_store_three rfl 58 (.tmp 4) (.tmp 20) rfl rb (.string ⟨#[]⟩) .nilFunc .nilFunc (.string ⟨#[]⟩) .nilFunc .nilFunc rfl rfl 58 HZ.out info_number rfl rfl rfl ?_)
      refine bodyPost_ret (v := .tuple #[.agg (foundC (placeB s)), .bool (decide (placeB s < 16))]) ?_ rfl ⟨rfl, ?_⟩
      · rw [placeB, HP.out]
        exact results_row1 rfl _ _ _ 58 _ (0, 0) _ rfl rfl (setRow_heap _ _ _ _ _ _ HZ.out) Tryz.underlying58 rfl info_number
      · exact below_setRow' HX.out (Nat.le_of_eq HN.out.symm) _
end Go.Proofs.YtdeiohcciafffaaGreatDoor
