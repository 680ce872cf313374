/- A group's text, by a contract. -/
import Derived.Test.YtnefjkbnolbpbaaGNext
import Derived.Test.YtnefjkbnolbpbaaGOnes
namespace Go.Proofs.Ytnefjkbnolbpbaa
open Go.RowKit

/-- The digits, in order. -/
def digsL : List UInt8 := [48, 49, 50, 51, 52, 53, 54, 55, 56, 57, 97, 98, 99, 100, 101, 102]
def digOf (x : Int) : UInt8 := digsL.getD x.toNat 0
/-- A group's text, as bytes. -/
def textG (g : Nat) : List UInt8 := if g = 0 then [45] else (listI g).map digOf

theorem dig_index {P : Program} (w : World) (t : TypeId) (x : Int) (h : P.underlying t = some .string) (h0 : 0 ≤ x) (h1 : x ≤ 15) :
    (Instr.index t (.string ⟨#[48, 49, 50, 51, 52, 53, 54, 55, 56, 57, 97, 98, 99, 100, 101, 102]⟩) (.int .i64 x)).run P w = .ok (.int .u8 ((digOf x).toNat : Int)) w := by
  have hi : 0 ≤ x ∧ x < ((⟨#[48, 49, 50, 51, 52, 53, 54, 55, 56, 57, 97, 98, 99, 100, 101, 102]⟩ : ByteArray).size : Int) := ⟨h0, by rw [show (⟨#[48, 49, 50, 51, 52, 53, 54, 55, 56, 57, 97, 98, 99, 100, 101, 102]⟩ : ByteArray).size = 16 from rfl]; omega⟩
  rw [run_index_string w t _ .i64 x h, dif_pos hi]
  obtain ⟨k, rfl⟩ := Int.eq_ofNat_of_zero_le h0
  have hk : k < 16 := by omega
  have hc : k = 0 ∨ k = 1 ∨ k = 2 ∨ k = 3 ∨ k = 4 ∨ k = 5 ∨ k = 6 ∨ k = 7 ∨ k = 8 ∨ k = 9 ∨ k = 10 ∨ k = 11 ∨ k = 12 ∨ k = 13 ∨ k = 14 ∨ k = 15 := by omega
  rcases hc with rfl | rfl | rfl | rfl | rfl | rfl | rfl | rfl | rfl | rfl | rfl | rfl | rfl | rfl | rfl | rfl <;> rfl

theorem listI_get {g k : Nat} (h : k < (listI g).length) : 0 ≤ (listI g)[k] ∧ (listI g)[k] ≤ 15 := by
  have h' : k < (listG g).length := by simpa [listI] using h
  have := listG_get_lt h'
  simp only [listI, List.getElem_map]
  omega

theorem u8_info : (Try.prog.info? 5).map (fun i => (i.zero, i.size, i.bytes)) = some (some (.int .u8 0), 1, 1) := by kernel_rfl

/-- What the call says: the text, and that nothing that was there has changed. -/
def SaysText (w : World) (l : List UInt8) (e : Ending) (w' : World) : Prop := e = .returned (.string ⟨l.toArray⟩) ∧ Below w.heap.size w w'

set_option maxHeartbeats 1000000 in
theorem text_any (g : Nat) (w : World) (hg : g < 65536) : Calls Try.prog 36 #[.int .u16 (g : Int)] w (SaysText w (textG g)) := by
  by_cases h0 : g = 0
  · subst h0
    go_enter Try.func36, Try.ntmps36
    go_wp2
    go_ret
    exact ⟨rfl, Below.refl _ _⟩
  · have hz : ((g : Int) == 0) = false := by
      rw [beq_eq_false_iff_ne]
      omega
    have ht : textG g = (listI g).map digOf := if_neg h0
    have hne : 0 < (listI g).length := by
      rcases Nat.eq_zero_or_pos (listI g).length with h | h
      · have : listG g = [] := List.eq_nil_of_length_eq_zero (by simpa [listI] using h)
        exact absurd ((listG_nil hg).1 this) h0
      · exact h
    have HT := Lib.hid ht
    have HG := Lib.hid hg
    have hl := listI_le g
    have hget := fun k (h : k < (listI g).length) => listI_get h
    have HL := fun w => Lib.hid (list_any g w hg)
    clear ht hg h0
    generalize listI g = l at *
    obtain ⟨i0, hi, hz0, hz1, hz2⟩ := info_parts u8_info
    have hdig := fun (W : World) (x : Int) => dig_index (P := Try.prog) W 9 x Try.underlying9
    have HD := Lib.hid hdig
    have HGt := Lib.hid hget
    clear hdig hget
    go_enter Try.func36, Try.ntmps36
    go_wp2_with (go_at_call 11; refine (HL _).out.mono ?_; rintro e w1 hf; obtain ⟨A, c, rfl, hsrc, _, hb⟩ := hf.opened; clear hf)
    clear HL
    go_loopw [3, 11] (fun v i wr => ∃ k : Nat, k ≤ l.length ∧ i = .int .i64 (k : Int) ∧ wr.ownsRow w1.heap.size 5 1 v k (bv ((l.take k).map digOf)) ∧ Below w1.heap.size w1 wr) (fun _ i _ => l.length - (intOf i).toNat)
    case atStart => exact ⟨0, by omega, rfl, World.ownsRow_nil _ _ _ _, Below.refl _ _⟩
    case round =>
      obtain ⟨k, hk, rfl, hrow, hbl⟩ := hrel
      by_cases hlt : k < l.length
      · obtain ⟨b, o, rfl, hcell⟩ := hsrc.below hbl hne
        have hc := hcell k hlt
        obtain ⟨hx0, hx1⟩ := HGt.out k hlt
        have hD := fun W => HD.out W l[k] hx0 hx1
        have htk : (l.take (k + 1)).map digOf = (l.take k).map digOf ++ [digOf l[k]] := by rw [List.take_succ_eq_append_getElem hlt, List.map_append, List.map_cons, List.map_nil]
        have HTK := Lib.hid htk
        clear htk hcell hsrc
        generalize hxx : l[k] = x at *
        have HX := Lib.hid hxx
        clear hxx
        go_wp2_with (at_builtin; refine wpList_append_own _ rfl _ _ 55 rfl w1.heap.size 5 i0 (.int .u8 0) 1 1 Try.underlying55 hi hz0 hz1 hz2 rfl (by decide) _ _ _ rfl (hrow.alloc _) ⟨wr.heap.size, 0, none⟩ 1 1 [.int .u8 ((digOf x).toNat : Int)] rfl rfl (cell_one_new _ _ _) (by simp [Value.oneCell']) (by unfold maxLen; omega) (by omega) (by have := hbl.size; simp; omega) ?_; intro v' w2 hown' hgrow _; have hb2 := ((Below.refl w1.heap.size wr).alloc hbl.size _).grown hgrow (by have := hbl.size; simp; omega) (fun j ej => (hrow.lt j ej).1))
        trace_state
        go_roundw
        case rel => exact ⟨k + 1, by omega, by go_num, by rw [HTK.out, bv_append]; exact hown', hbl.trans hb2⟩
        case measure => simp [intOf]; omega
      · obtain ⟨A2, c2, rfl, _, hs2, _⟩ := Src.of_own hrow
        have hcv := hs2.convert (P := Try.prog) c2 55 5 9 Try.underlying55 Try.underlying5 Try.underlying9
        have hkl : l.take k = l := List.take_of_length_le (by omega)
        rw [hkl, ← HT.out] at hcv
        clear hs2 hrow hkl
        go_wp2
        go_ret
        exact ⟨rfl, hb.trans (hbl.mono hb.size)⟩

end Go.Proofs.Ytnefjkbnolbpbaa
