/- RateClocks, its walk. -/
import Derived.Test.YtjdkndpcjjjlfaaKLaw
namespace Go.Proofs.Ytjdkndpcjjjlfaa
open Go.RowKit Go.Shelf

set_option maxRecDepth 100000 in
set_option maxHeartbeats 4000000 in
theorem clocks_walk (n d o j rho t r b : Int) (w : World) : Calls Try.prog 3 #[.agg #[.int .i64 n, .int .i64 d, .int .i64 o, .int .i64 j], .int .i64 rho, .int .i64 t, .int .i64 r, .int .i64 b] w fun e w' => e = .returned (.bool true) ∧ Below w.heap.size w w' := by
  have hb : Below w.heap.size w (w.alloc (.cells #[.int .i64 n, .int .i64 d, .int .i64 o, .int .i64 j] 25)) := (Below.refl _ _).alloc (Nat.le_refl _) _
  have hW1 := Whole.new w 25 #[.int .i64 n, .int .i64 d, .int .i64 o, .int .i64 j]
  have R1 := Lib.hid (fun W => reads_b n d o j t W)
  have R2 := Lib.hid (fun W => refReads_any n d o j t W)
  have H1 := Lib.hid (fun W => when_any n d o j r W)
  have H2 := Lib.hid (fun W => refWhen_any n d o j r W)
  have S1 := Lib.hid (fun W => set_b n d o j b W)
  have S2 := Lib.hid (fun W => refSet_b n d o j b W)
  have T1 := Lib.hid (fun W => restart_b n d o j t W)
  have T2 := Lib.hid (fun W => refRestart_b n d o j t W)
  have C1 := Lib.hid (fun W => check_k n d o j W)
  have C2 := Lib.hid (fun W => refCheck_k n d o j W)
  have K1 := Lib.hid (fun W => keeps_any n d rho W)
  have K2 := Lib.hid (fun W => refKeeps_any n d rho W)
  generalize toldV (readB n d o j t) (atV n d o j t) = x0 at *
  generalize toldE (readB n d o j t) = x1 at *
  generalize whenV n d o j r = x2 at *
  generalize whenE n d o j r = x3 at *
  generalize setN n d o j b = s0 at *
  generalize setD n d o j b = s1 at *
  generalize setO n d o j b = s2 at *
  generalize setJ n d o j b = s3 at *
  generalize setE n d o j b = s4 at *
  generalize orZ (reB n d o j t) n = r0 at *
  generalize orZ (reB n d o j t) d = r1 at *
  generalize orZ (reB n d o j t) t = r2 at *
  generalize toldE (reB n d o j t) = r4 at *
  generalize refE (!okK n d o j) = q0 at *
  generalize refE (!keepB n d rho) = q1 at *
  go_enter Try.func3, Try.ntmps3
  go_wp2_with fail
  refine (R1.out _).mono ?_
  rintro e w1 ⟨rfl, b1⟩
  have k1 := k_then b1 hb
  have h1 := k_later b1 hW1
  obtain ⟨c0, c1, c2, c3, cf⟩ := k_four h1
  clear hb hW1 b1
  go_wp2_with fail
  refine (R2.out _).mono ?_
  rintro e w2 ⟨rfl, b2⟩
  have k2 := k_then b2 k1
  have h2 := k_later b2 h1
  clear c0 c1 c2 c3 cf k1 h1 b2
  obtain ⟨c0, c1, c2, c3, cf⟩ := k_four h2
  go_wp2_with fail
  refine (H1.out _).mono ?_
  rintro e w3 ⟨rfl, b3⟩
  have k3 := k_then b3 k2
  have h3 := k_later b3 h2
  clear c0 c1 c2 c3 cf k2 h2 b3
  obtain ⟨c0, c1, c2, c3, cf⟩ := k_four h3
  go_wp2_with fail
  refine (H2.out _).mono ?_
  rintro e w4 ⟨rfl, b4⟩
  have k4 := k_then b4 k3
  have h4 := k_later b4 h3
  clear c0 c1 c2 c3 cf k3 h3 b4
  obtain ⟨c0, c1, c2, c3, cf⟩ := k_four h4
  go_wp2_with fail
  refine (S1.out _).mono ?_
  rintro e w5 ⟨rfl, b5⟩
  have k5 := k_then b5 k4
  have h5 := k_later b5 h4
  clear c0 c1 c2 c3 cf k4 h4 b5
  have z5 := h5.lt
  obtain ⟨c0, c1, c2, c3, cf⟩ := k_four h5
  have A5 := Whole.new w5 25 #[.int .i64 s0, .int .i64 s1, .int .i64 s2, .int .i64 s3]
  have k5' := k5.alloc k5.size (.cells #[.int .i64 s0, .int .i64 s1, .int .i64 s2, .int .i64 s3] 25)
  have h5' := h5.alloc (.cells #[.int .i64 s0, .int .i64 s1, .int .i64 s2, .int .i64 s3] 25)
  go_wp2_with fail
  refine (S2.out _).mono ?_
  rintro e w6 ⟨rfl, b6⟩
  have k6 := k_then b6 k5'
  have h6 := k_later b6 h5'
  have A6 := k_later b6 A5
  clear c0 c1 c2 c3 cf k5 h5 b6 k5' h5' A5 z5
  have z6 := h6.lt
  obtain ⟨c0, c1, c2, c3, cf⟩ := k_four h6
  have B6 := Whole.new w6 25 #[.int .i64 s0, .int .i64 s1, .int .i64 s2, .int .i64 s3]
  have k6' := k6.alloc k6.size (.cells #[.int .i64 s0, .int .i64 s1, .int .i64 s2, .int .i64 s3] 25)
  have h6' := h6.alloc (.cells #[.int .i64 s0, .int .i64 s1, .int .i64 s2, .int .i64 s3] 25)
  have A6' := A6.alloc (.cells #[.int .i64 s0, .int .i64 s1, .int .i64 s2, .int .i64 s3] 25)
  go_wp2_with fail
  refine (T1.out _).mono ?_
  rintro e w7 ⟨rfl, b7⟩
  have k7 := k_then b7 k6'
  have h7 := k_later b7 h6'
  have A7 := k_later b7 A6'
  have B7 := k_later b7 B6
  clear c0 c1 c2 c3 cf k6 h6 b7 k6' h6' A6 A6' B6 z6
  have z7 := h7.lt
  obtain ⟨c0, c1, c2, c3, cf⟩ := k_four h7
  have C7 := Whole.new w7 25 #[.int .i64 r0, .int .i64 r1, .int .i64 r2, .int .i64 0]
  have k7' := k7.alloc k7.size (.cells #[.int .i64 r0, .int .i64 r1, .int .i64 r2, .int .i64 0] 25)
  have h7' := h7.alloc (.cells #[.int .i64 r0, .int .i64 r1, .int .i64 r2, .int .i64 0] 25)
  have A7' := A7.alloc (.cells #[.int .i64 r0, .int .i64 r1, .int .i64 r2, .int .i64 0] 25)
  have B7' := B7.alloc (.cells #[.int .i64 r0, .int .i64 r1, .int .i64 r2, .int .i64 0] 25)
  go_wp2_with fail
  refine (T2.out _).mono ?_
  rintro e w8 ⟨rfl, b8⟩
  have k8 := (k_then b8 k7').alloc (k_then b8 k7').size (.cells #[.int .i64 r0, .int .i64 r1, .int .i64 r2, .int .i64 0] 25)
  have h8 := (k_later b8 h7').alloc (.cells #[.int .i64 r0, .int .i64 r1, .int .i64 r2, .int .i64 0] 25)
  have A8 := (k_later b8 A7').alloc (.cells #[.int .i64 r0, .int .i64 r1, .int .i64 r2, .int .i64 0] 25)
  have B8 := (k_later b8 B7').alloc (.cells #[.int .i64 r0, .int .i64 r1, .int .i64 r2, .int .i64 0] 25)
  have C8 := (k_later b8 C7).alloc (.cells #[.int .i64 r0, .int .i64 r1, .int .i64 r2, .int .i64 0] 25)
  have D8 := Whole.new w8 25 #[.int .i64 r0, .int .i64 r1, .int .i64 r2, .int .i64 0]
  have z8 := (k_later b8 h7').lt
  clear c0 c1 c2 c3 cf k7 h7 b8 k7' h7' A7 A7' B7 B7' C7 z7
  go_wp2
  obtain ⟨W9, hW9⟩ : ∃ W, w8.alloc (.cells #[.int .i64 r0, .int .i64 r1, .int .i64 r2, .int .i64 0] 25) = W := ⟨_, rfl⟩
  rw [hW9]
  rw [hW9] at k8 h8 A8 B8 C8 D8
  clear hW9
  obtain ⟨c0, c1, c2, c3, cf⟩ := k_four h8
  obtain ⟨a0, a1, a2, a3, af⟩ := k_four A8
  obtain ⟨f0, f1, f2, f3, ff⟩ := k_four B8
  obtain ⟨g0, g1, g2, g3, gf⟩ := k_four C8
  obtain ⟨i0, i1, i2, i3, if_⟩ := k_four D8
  have lc0 := fun y : Later W9 => y.cell c0
  have lc1 := fun y : Later W9 => y.cell c1
  have lc2 := fun y : Later W9 => y.cell c2
  have lc3 := fun y : Later W9 => y.cell c3
  have la0 := fun y : Later W9 => y.cell a0
  have la1 := fun y : Later W9 => y.cell a1
  have la2 := fun y : Later W9 => y.cell a2
  have la3 := fun y : Later W9 => y.cell a3
  have lf0 := fun y : Later W9 => y.cell f0
  have lf1 := fun y : Later W9 => y.cell f1
  have lf2 := fun y : Later W9 => y.cell f2
  have lf3 := fun y : Later W9 => y.cell f3
  have lg0 := fun y : Later W9 => y.cell g0
  have lg1 := fun y : Later W9 => y.cell g1
  have lg2 := fun y : Later W9 => y.cell g2
  have lg3 := fun y : Later W9 => y.cell g3
  have li0 := fun y : Later W9 => y.cell i0
  have li1 := fun y : Later W9 => y.cell i1
  have li2 := fun y : Later W9 => y.cell i2
  have li3 := fun y : Later W9 => y.cell i3
  clear c0 c1 c2 c3 cf a0 a1 a2 a3 af f0 f1 f2 f3 ff g0 g1 g2 g3 gf i0 i1 i2 i3 if_ h8 A8 B8 C8 D8
  refine wp_region_later (by kernel_rfl) (by kernel_rfl) ?_
  repeat (go_big_quiet_step ((first
    | (go_at_call 16; exact later_of _ C1.out)
    | (go_at_call 17; exact later_of _ C2.out)
    | (go_at_call 18; exact later_of _ K1.out)
    | (go_at_call 19; exact later_of _ K2.out))))
  refine wpQuiet_nil ?_
  intro _ hw'
  obtain ⟨y, hw''⟩ := hw'
  subst hw''
  go_wp2
  go_ret
  exact ⟨rfl, k8.trans (y.below.mono k8.size)⟩

end Go.Proofs.Ytjdkndpcjjjlfaa
