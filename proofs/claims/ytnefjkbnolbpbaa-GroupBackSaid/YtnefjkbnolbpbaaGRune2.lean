/- nodeOf of a sign beyond ASCII. -/
import Derived.Test.YtnefjkbnolbpbaaGRune
import Derived.IntWalk
import Derived.Test.YtnefjkbnolbpbaaLater
namespace Go.Proofs.Ytnefjkbnolbpbaa
open Go.RowKit

theorem digs_ascii : ∀ k : Fin 16, ((digsB)[k.val]'(k.isLt)).toNat < 128 := by decide +kernel

set_option maxHeartbeats 1000000 in
set_option maxRecDepth 100000 in
theorem indexRune_error (w : World) :
    Calls Try.prog 46 #[.string digsB, .int .i32 65533] w fun e w' => e = .returned (.int .i64 (-1)) ∧ Below w.heap.size w w' := by
  go_enter Try.func46, Try.ntmps46
  go_wp2_with fail
  go_loopw [] (fun wr => ∃ pos : Nat, pos ≤ 16 ∧ wr = w.iter digsB pos) (fun wr => 16 - wr.iterPos w.heap.size)
  case atStart => exact ⟨0, by omega, rfl⟩
  case round =>
    obtain ⟨pos, hp, rfl⟩ := hrel
    by_cases hlt : pos < 16
    · have ha := digs_ascii ⟨pos, hlt⟩
      have hnx : ∀ ty, (Instr.next (.pointer (some ⟨w.heap.size, 0, none⟩)) true ty).run Try.prog (w.iter digsB pos) = _ := fun ty => run_next_ascii w digsB pos ty hlt ha
      generalize ((digsB)[pos]'hlt).toNat = b at *
      have hne : ((b : Int) == 65533) = false := by rw [beq_eq_false_iff_ne]; omega
      go_wp2_with fail
      go_roundw
      case rel => exact ⟨pos + 1, by omega, rfl⟩
      case measure => simp; omega
    · have hnx : ∀ ty, (Instr.next (.pointer (some ⟨w.heap.size, 0, none⟩)) true ty).run Try.prog (w.iter digsB pos) = _ := fun ty => run_next_end w digsB pos ty hlt
      go_wp2_with fail
      go_ret
      exact ⟨rfl, (Below.refl _ _).alloc (Nat.le_refl _) _⟩

theorem digs_val (k : Nat) (h : k < 16) : (((digsB)[k]'h).toNat : Int) < 128 := by
  have := digs_ascii ⟨k, h⟩
  simp only at this
  omega
theorem index_none (a e : Nat) (x : Nat) (h0 : 128 ≤ x) (h1 : x < 256) : Lib.indexByte (digsB.extract a e).data.toList ((x : Int)).toNat.toUInt8 = -1 := by
  rw [← Lib.firstIdx_eq]
  refine firstIdx_ascii _ _ _ _ ?_ ?_
  · decide
  · rw [Int.toNat_natCast]
    show 128 ≤ (UInt8.ofNat x).toNat
    rw [UInt8.toNat_ofNat', Nat.mod_eq_of_lt h1]
    exact h0

set_option maxHeartbeats 4000000 in
set_option maxRecDepth 100000 in
theorem indexRune_valid (r : Int) (w : World) (h0 : 128 ≤ r) (h1 : validRune r = true) (hne : (r == 65533) = false) :
    Calls Try.prog 46 #[.string digsB, .int .i32 r] w fun e w' => e = .returned (.int .i64 (-1)) ∧ Below w.heap.size w w' := by
  have hd : decide (r < 128) = false := decide_eq_false (by omega)
  obtain ⟨e2, e4, elast⟩ := encode_facts r (by rw [validRune_eq]; exact h1) h0
  have H := Lib.hid h1
  clear h1
  obtain ⟨L, hL⟩ : ∃ L, (Utf8.encode r).size = L + 1 := ⟨(Utf8.encode r).size - 1, by omega⟩
  have hlt : L < (Utf8.encode r).size := by omega
  have hx0 : 128 ≤ ((Utf8.encode r)[L]'hlt).toNat := by
    have := elast (by omega)
    simpa only [hL, Nat.add_sub_cancel] using this
  have hx1 : ((Utf8.encode r)[L]'hlt).toNat < 256 := UInt8.toNat_lt _
  have hix : ∀ W, (Instr.index 9 (.string (Utf8.encode r)) (.int .i64 (L : Int))).run Try.prog W = .ok (.int .u8 (((Utf8.encode r)[L]'hlt).toNat : Int)) W := fun W => by
    rw [run_index_string W 9 _ .i64 _ Try.underlying9, dif_pos ⟨by omega, by omega⟩]
    rfl
  clear elast
  generalize ((Utf8.encode r)[L]'hlt).toNat = x at *
  clear hlt
  rw [hL] at e2 e4
  have hsz : ((Utf8.encode r).size : Int) = (L : Int) + 1 := by omega
  have hL16 : L < 16 := by omega
  have hdx := digs_val L hL16
  have hid : ∀ W, (Instr.index 9 (.string digsB) (.int .i64 (L : Int))).run Try.prog W = .ok (.int .u8 (((digsB)[L]'hL16).toNat : Int)) W := fun W => by
    rw [run_index_string W 9 _ .i64 _ Try.underlying9, dif_pos ⟨by omega, by rw [show digsB.size = 16 from rfl]; omega⟩]
    rfl
  have hd0 : (0 : Int) ≤ (((digsB)[L]'hL16).toNat : Int) := by omega
  generalize (((digsB)[L]'hL16).toNat : Int) = d at *
  have hdn : (d == (x : Int)) = false := by rw [beq_eq_false_iff_ne]; omega
  have hsl : ∀ W, (Instr.slice 9 (.string digsB) (some (.int .i64 ((L : Int) + 1))) none none).run Try.prog W = .ok (.string (digsB.extract (L + 1) 16)) W := fun W => by
    have := run_slice_string_l (P := Try.prog) W 9 digsB Try.underlying9 .i64 ((L : Int) + 1) (by omega) (by rw [show digsB.size = 16 from rfl]; omega)
    rw [show ((L : Int) + 1).toNat = L + 1 from by omega, show digsB.size = 16 from rfl] at this
    exact this
  have hix2 := index_none (L + 1) 16 x hx0 hx1
  have HIB : ∀ W, Calls Try.prog 47 #[.string (digsB.extract (L + 1) 16), .int .u8 (x : Int)] W fun e w' => e = .returned (.int .i64 (-1)) ∧ W = w' := fun W => by
    rw [← hix2]
    exact indexByte_any _ _ W
  generalize digsB.extract (L + 1) 16 = t at *
  generalize hen : Utf8.encode r = en at *
  have HB := Lib.hid HIB
  clear hix2 HIB hL
  go_enter Try.func46, Try.ntmps46
  go_wp2_with (go_at_call 48; refine (validRune_any _ _ h0).mono ?_; rintro e w' ⟨rfl, rfl⟩; rw [H.out])
  go_step3
  go_wp2_with fail
  go_loop [9, 10] (fun i f => i = .int .i64 (L : Int) ∧ f = .int .i64 0) (fun _ _ => 0)
  case atStart => exact ⟨rfl, rfl⟩
  case round =>
    obtain ⟨rfl, rfl⟩ := hrel
    go_wp2_with fail
    have hwr : IntKind.i64.wrap ((L : Int) + 1) = (L : Int) + 1 := IntWalk.i64_in _ (by omega)
    go_step3
    go_wp2_with fail
    go_quiet (fail)
    go_wp2_with fail
    refine wp_region_later (by kernel_rfl) (by kernel_rfl) ?_
    repeat (go_big_quiet_step ((go_at_call 47; exact later_same _ HB.out)))
    refine wpQuiet_nil ?_
    intro _ hw'
    obtain ⟨y, hw''⟩ := hw'
    subst hw''
    go_wp2_with fail
    rw [Exit.noGoto_ret]
    simp only [Exit.inBlock]
    change Exit.noGoto _ Exit.ret _ _
    rw [Exit.noGoto_ret]
    simp only [Exit.inBlock, Exit.then]
    rw [Exit.noGoto_ret]
    go_ret
    exact ⟨rfl, (below_drewN (Below.refl _ w) _).trans y.below⟩

theorem indexRune_any (r : Int) (w : World) (h0 : 0 ≤ r) : Calls Try.prog 46 #[.string digsB, .int .i32 r] w fun e w' => e = .returned (.int .i64 (nodeI r)) ∧ Below w.heap.size w w' := by
  by_cases h1 : r < 128
  · rw [nodeI, if_pos h1]
    refine (indexRune_ascii r w h0 h1).mono ?_
    rintro e w' ⟨rfl, rfl⟩
    exact ⟨rfl, Below.refl _ _⟩
  · rw [nodeI, if_neg h1]
    cases hne : (r == 65533)
    · cases hv : validRune r
      · refine (indexRune_invalid r w (by omega) hv).mono ?_
        rintro e w' ⟨rfl, rfl⟩
        exact ⟨rfl, Below.refl _ _⟩
      · exact indexRune_valid r w (by omega) hv hne
    · obtain rfl : r = 65533 := by simpa using hne
      exact indexRune_error w

theorem nodeOf_any (r : Int) (w : World) (h0 : 0 ≤ r) : Calls Try.prog 44 #[.int .i32 r] w fun e w' => e = .returned (.int .i64 (nodeI r)) ∧ Below w.heap.size w w' := by
  go_enter Try.func44, Try.ntmps44
  go_wp2_with (go_at_call 46; refine (indexRune_any _ _ h0).mono ?_; rintro e w' ⟨rfl, hb⟩)
  go_ret
  exact ⟨rfl, hb⟩

end Go.Proofs.Ytnefjkbnolbpbaa
