/- The document's text of a group, by a contract. -/
import Derived.Test.YtnefjkbnolbpbaaGRef3
namespace Go.Proofs.Ytnefjkbnolbpbaa
open Go.RowKit

theorem dig_extract (k : Nat) (h : k < 16) : (⟨#[48, 49, 50, 51, 52, 53, 54, 55, 56, 57, 97, 98, 99, 100, 101, 102]⟩ : ByteArray).extract k (k + 1) = ⟨[digOf (k : Int)].toArray⟩ := by
  have hc : k = 0 ∨ k = 1 ∨ k = 2 ∨ k = 3 ∨ k = 4 ∨ k = 5 ∨ k = 6 ∨ k = 7 ∨ k = 8 ∨ k = 9 ∨ k = 10 ∨ k = 11 ∨ k = 12 ∨ k = 13 ∨ k = 14 ∨ k = 15 := by omega
  rcases hc with rfl | rfl | rfl | rfl | rfl | rfl | rfl | rfl | rfl | rfl | rfl | rfl | rfl | rfl | rfl | rfl <;> decide
theorem dig_slice {P : Program} (w : World) (t : TypeId) (x : Int) (h : P.underlying t = some .string) (h0 : 0 ≤ x) (h1 : x ≤ 15) :
    (Instr.slice t (.string ⟨#[48, 49, 50, 51, 52, 53, 54, 55, 56, 57, 97, 98, 99, 100, 101, 102]⟩) (some (.int .i64 x)) (some (.int .i64 (x + 1))) none).run P w = .ok (.string ⟨[digOf x].toArray⟩) w := by
  obtain ⟨k, rfl⟩ := Int.eq_ofNat_of_zero_le h0
  rw [run_slice_string_if w t _ .i64 .i64 _ _ h, if_pos ⟨by omega, by rw [show (⟨#[48, 49, 50, 51, 52, 53, 54, 55, 56, 57, 97, 98, 99, 100, 101, 102]⟩ : ByteArray).size = 16 from rfl]; omega⟩, if_pos ⟨by omega, by omega⟩]
  rw [show ((k : Int) + 1).toNat = k + 1 from by omega, Int.toNat_natCast, dig_extract k (by omega)]
theorem bytes_append (a b : List UInt8) : (⟨a.toArray⟩ : ByteArray) ++ ⟨b.toArray⟩ = ⟨(a ++ b).toArray⟩ := by
  apply ByteArray.ext
  simp [ByteArray.data_append]

set_option maxHeartbeats 1000000 in
theorem refText_any (g : Nat) (w : World) (hg : g < 65536) : Calls Try.prog 37 #[.int .u16 (g : Int)] w (SaysText w (textG g)) := by
  have ht : textG g = if (listI g).length = 0 then [45] else (listI g).map digOf := by
    unfold textG
    congr 1
    rw [eq_iff_iff, ← listG_nil hg]
    simp [listI]
  rw [ht]
  have HL := fun w => Lib.hid (refList_any g w hg)
  have hget := fun k (h : k < (listI g).length) => listI_get h
  have hll := listI_le g
  have HGt := Lib.hid hget
  have hsl := fun (W : World) (x : Int) => dig_slice (P := Try.prog) W 9 x Try.underlying9
  have HS := Lib.hid hsl
  clear hsl hget ht hg
  generalize listI g = l at *
  by_cases h0 : l.length = 0
  · obtain rfl : l = [] := List.eq_nil_of_length_eq_zero h0
    rw [if_pos h0]
    clear h0 HGt HS
    go_enter Try.func37, Try.ntmps37
    go_wp2_with (go_at_call 13; refine (HL _).out.mono ?_; rintro e w1 hf; obtain ⟨A, c, rfl, _, _, hb⟩ := hf.opened; clear hf)
    go_ret
    exact ⟨rfl, hb⟩
  · rw [if_neg h0]
    have hne : 0 < l.length := by omega
    have hz : ((l.length : Int) == 0) = false := by rw [beq_eq_false_iff_ne]; omega
    clear h0
    go_enter Try.func37, Try.ntmps37
    go_wp2_with (go_at_call 13; refine (HL _).out.mono ?_; rintro e w1 hf; obtain ⟨A, c, rfl, hsrc, _, hb⟩ := hf.opened; clear hf)
    clear HL
    go_loopw [4, 5] (fun s i wr => (∃ k : Nat, k ≤ l.length ∧ i = .int .i64 (k : Int) ∧ s = .string ⟨((l.take k).map digOf).toArray⟩) ∧ ∃ n, wr = w1.drewN n) (fun _ i _ => l.length - (intOf i).toNat)
    case atStart => exact ⟨⟨0, by omega, rfl, rfl⟩, 0, rfl⟩
    case round =>
      obtain ⟨⟨k, hk, rfl, rfl⟩, n, rfl⟩ := hrel
      by_cases hlt : k < l.length
      · obtain ⟨b, o, rfl, hcell⟩ := hsrc hne
        have hc := hcell k hlt
        obtain ⟨hx0, hx1⟩ := HGt.out k hlt
        have hD := fun W => HS.out W l[k] hx0 hx1
        have htk : (⟨((l.take k).map digOf).toArray⟩ : ByteArray) ++ ⟨[digOf l[k]].toArray⟩ = ⟨((l.take (k + 1)).map digOf).toArray⟩ := by
          rw [bytes_append, List.take_succ_eq_append_getElem hlt, List.map_append, List.map_cons, List.map_nil]
        generalize hxx : l[k] = x at *
        have HX := Lib.hid hxx
        clear hxx hcell hsrc
        generalize hyy : (⟨[digOf x].toArray⟩ : ByteArray) = y at *
        have HY := Lib.hid hyy
        clear hyy
        generalize hss : (⟨((l.take k).map digOf).toArray⟩ : ByteArray) = s at *
        have HSS := Lib.hid hss
        clear hss
        have HTK := Lib.hid htk
        clear htk
        have hsz : s.size + y.size ≤ 9223372036854775807 := by
          have h1 : s.size = ((l.take k).map digOf).length := by rw [← HSS.out]; rfl
          have h2 : y.size = 1 := by rw [← HY.out]; rfl
          have h3 : ((l.take k).map digOf).length ≤ k := by rw [List.length_map]; exact List.length_take_le _ _
          omega
        have hadd := fun (W : World) => run_string_add_sum (P := Try.prog) W s y hsz
        clear hsz
        rw [HTK.out] at hadd
        generalize hs' : (⟨((l.take (k + 1)).map digOf).toArray⟩ : ByteArray) = s' at *
        have HS' := Lib.hid hs'
        clear hs'
        go_wp2
        go_quiet (fail)
        go_wp2
        go_roundw
        case rel => exact ⟨⟨k + 1, by omega, by go_num, by rw [HS'.out]⟩, _, rfl⟩
        case measure => simp [intOf]; omega
      · have hkl : l.take k = l := List.take_of_length_le (by omega)
        rw [hkl]
        clear hkl
        go_wp2
        go_ret
        exact ⟨rfl, below_drewN hb _⟩

end Go.Proofs.Ytnefjkbnolbpbaa
