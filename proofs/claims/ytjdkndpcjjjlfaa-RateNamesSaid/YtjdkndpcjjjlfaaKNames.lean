/- RateNames, its walk. -/
import Derived.Test.YtjdkndpcjjjlfaaKLaw
namespace Go.Proofs.Ytjdkndpcjjjlfaa
open Go.RowKit Go.Shelf

theorem keeps_c (n d rho e : Int) (h : refE (!keepB n d rho) = e) (w : World) : Calls Try.prog 18 #[.agg #[.int .i64 n, .int .i64 d], .int .i64 rho] w fun r w' => r = .returned (.int .i64 e) ∧ Below w.heap.size w w' := by
  subst h
  exact keeps_any n d rho w
theorem when_c (n d o j r v e : Int) (h : whenV n d o j r = v) (h2 : whenE n d o j r = e) (w : World) : Calls Try.prog 10 #[.agg #[.int .i64 n, .int .i64 d, .int .i64 o, .int .i64 j], .int .i64 r] w fun r w' => r = .returned (.tuple #[.int .i64 v, .int .i64 e]) ∧ Below w.heap.size w w' := by
  subst h; subst h2
  exact when_any n d o j r w
theorem reads_c (n d o j r v e : Int) (h : toldV (readB n d o j r) (atV n d o j r) = v) (h2 : toldE (readB n d o j r) = e) (w : World) : Calls Try.prog 8 #[.agg #[.int .i64 n, .int .i64 d, .int .i64 o, .int .i64 j], .int .i64 r] w fun r w' => r = .returned (.tuple #[.int .i64 v, .int .i64 e]) ∧ Below w.heap.size w w' := by
  subst h; subst h2
  exact reads_b n d o j r w
theorem lwhen_c (t v e x : Int) (hv : whenV 1001 1000 10 5 t = v) (he : whenE 1001 1000 10 5 t = e) (hx : orNeg v e = x) (w : World) : Calls Try.prog 20 #[.int .i64 t] w fun r w' => r = .returned (.int .i64 x) ∧ Below w.heap.size w w' := by
  subst hx
  exact lwhen_any t v e w hv he
theorem lreads_c (t v e x : Int) (hv : toldV (readB 1001 1000 10 5 t) (atV 1001 1000 10 5 t) = v) (he : toldE (readB 1001 1000 10 5 t) = e) (hx : orNeg v e = x) (w : World) : Calls Try.prog 21 #[.int .i64 t] w fun r w' => r = .returned (.int .i64 x) ∧ Below w.heap.size w w' := by
  subst hx
  exact lreads_any t v e w hv he
theorem set_c (n d o j b n' d' o' j' e : Int) (h : setT n d o j b = .tuple #[.agg #[.int .i64 n', .int .i64 d', .int .i64 o', .int .i64 j'], .int .i64 e]) (w : World) : Calls Try.prog 12 #[.agg #[.int .i64 n, .int .i64 d, .int .i64 o, .int .i64 j], .int .i64 b] w fun r w' => r = .returned (.tuple #[.agg #[.int .i64 n', .int .i64 d', .int .i64 o', .int .i64 j'], .int .i64 e]) ∧ Below w.heap.size w w' := by
  rw [← h]
  exact set_any n d o j b w
theorem restart_c (n d o j b n' d' o' j' e : Int) (h : reT n d b (reB n d o j b) = .tuple #[.agg #[.int .i64 n', .int .i64 d', .int .i64 o', .int .i64 j'], .int .i64 e]) (w : World) : Calls Try.prog 14 #[.agg #[.int .i64 n, .int .i64 d, .int .i64 o, .int .i64 j], .int .i64 b] w fun r w' => r = .returned (.tuple #[.agg #[.int .i64 n', .int .i64 d', .int .i64 o', .int .i64 j'], .int .i64 e]) ∧ Below w.heap.size w w' := by
  rw [← h]
  exact restart_any n d o j b w

set_option maxRecDepth 100000 in
set_option maxHeartbeats 4000000 in
theorem names_walk (w : World) : Calls Try.prog 4 #[] w fun e w' => e = .returned (.bool true) ∧ Below w.heap.size w w' := by
  have A0 := Lib.hid (fun W => lwhen_c 5 10 0 10 (by decide) (by decide) (by decide) W)
  have A1 := Lib.hid (fun W => lwhen_c (-99) 10 0 10 (by decide) (by decide) (by decide) W)
  have A2 := Lib.hid (fun W => lwhen_c 6 11 0 11 (by decide) (by decide) (by decide) W)
  have A3 := Lib.hid (fun W => lwhen_c 1006 1010 0 1010 (by decide) (by decide) (by decide) W)
  have A4 := Lib.hid (fun W => lwhen_c 1099511627776 0 61 (-61) (by decide) (by decide) (by decide) W)
  have A5 := Lib.hid (fun W => lreads_c 4294967297 0 60 (-60) (by decide) (by decide) (by decide) W)
  have B0 := Lib.hid (fun W => keeps_c 1001 1000 1000 0 (by decide) W)
  have B1 := Lib.hid (fun W => keeps_c 1001 1000 1001 60 (by decide) W)
  have B2 := Lib.hid (fun W => keeps_c 999 1000 1000 0 (by decide) W)
  have B3 := Lib.hid (fun W => keeps_c 7 7 1048576 0 (by decide) W)
  have B4 := Lib.hid (fun W => keeps_c 1001 1000 3 60 (by decide) W)
  have B5 := Lib.hid (fun W => keeps_c 1001 1000 1048577 60 (by decide) W)
  have B6 := Lib.hid (fun W => keeps_c 0 0 4 60 (by decide) W)
  have B7 := Lib.hid (fun W => keeps_c 1 65537 4 60 (by decide) W)
  have B8 := Lib.hid (fun W => keeps_c 0 1 4 60 (by decide) W)
  have C0 := Lib.hid (fun W => when_c 1 2 0 0 3 6 0 (by decide) (by decide) W)
  have C1 := Lib.hid (fun W => reads_c 1 2 0 0 5 2 0 (by decide) (by decide) W)
  have S := Lib.hid (fun W => some_any W)
  have D0 := Lib.hid (fun W => set_c 1001 1000 10 5 (-5) 1001 1000 10 0 0 (by rw [setT_yes (by decide)]; rfl) W)
  have D1 := Lib.hid (fun W => set_c 1001 1000 10 5 4294967296 0 0 0 0 60 (by rw [setT_no (by decide)]) W)
  have D2 := Lib.hid (fun W => set_c 1001 1000 10 5 4611686018427387904 0 0 0 0 60 (by rw [setT_no (by decide)]) W)
  have E0 := Lib.hid (fun W => restart_c 1001 1000 10 5 77 1001 1000 77 0 0 (by rw [show reB 1001 1000 10 5 77 = true by decide]; rfl) W)
  have E1 := Lib.hid (fun W => restart_c 1001 1000 10 5 (-1) 0 0 0 0 60 (by rw [show reB 1001 1000 10 5 (-1) = false by decide]; rfl) W)
  have F0 := Lib.hid (fun W => when_c 2001 1000 10 5 1 0 60 (by decide) (by decide) W)
  have G := Lib.hid (fun W => alive_r W)
  have kk := Below.refl w.heap.size w
  go_enter Try.func4, Try.ntmps4
  go_wp2_with fail
  refine (A0.out _).mono ?_
  rintro e w1 ⟨rfl, b1⟩
  replace kk := k_then b1 kk
  clear b1 
  go_wp2_with fail
  refine (A1.out _).mono ?_
  rintro e w2 ⟨rfl, b2⟩
  replace kk := k_then b2 kk
  clear b2 
  go_wp2_with fail
  refine (A2.out _).mono ?_
  rintro e w3 ⟨rfl, b3⟩
  replace kk := k_then b3 kk
  clear b3 
  go_wp2_with fail
  refine (A3.out _).mono ?_
  rintro e w4 ⟨rfl, b4⟩
  replace kk := k_then b4 kk
  clear b4 
  go_wp2_with fail
  refine (A4.out _).mono ?_
  rintro e w5 ⟨rfl, b5⟩
  replace kk := k_then b5 kk
  clear b5 
  go_wp2_with fail
  refine (A5.out _).mono ?_
  rintro e w6 ⟨rfl, b6⟩
  replace kk := k_then b6 kk
  clear b6 
  have kn := kk
  replace kn := kn.alloc kn.size (.cells #[.int .i64 1001, .int .i64 1000] 23)
  have hrn := Whole.new w6 23 #[.int .i64 1001, .int .i64 1000]
  go_wp2_with fail
  refine (B0.out _).mono ?_
  rintro e w7 ⟨rfl, b7⟩
  replace kk := k_then b7 kn
  have hr := k_later b7 hrn
  clear kn b7 hrn 
  have zr := hr.lt
  obtain ⟨r0, r1, rf⟩ := k_two hr
  go_wp2_with fail
  refine (B1.out _).mono ?_
  rintro e w8 ⟨rfl, b8⟩
  replace kk := k_then b8 kk
  replace hr := k_later b8 hr
  clear b8 zr r0 r1 rf
  have zr := hr.lt
  obtain ⟨r0, r1, rf⟩ := k_two hr
  go_wp2_with fail
  refine (B2.out _).mono ?_
  rintro e w9 ⟨rfl, b9⟩
  replace kk := k_then b9 kk
  replace hr := k_later b9 hr
  clear b9 zr r0 r1 rf
  have zr := hr.lt
  obtain ⟨r0, r1, rf⟩ := k_two hr
  go_wp2_with fail
  refine (B3.out _).mono ?_
  rintro e w10 ⟨rfl, b10⟩
  replace kk := k_then b10 kk
  replace hr := k_later b10 hr
  clear b10 zr r0 r1 rf
  have zr := hr.lt
  obtain ⟨r0, r1, rf⟩ := k_two hr
  go_wp2_with fail
  refine (B4.out _).mono ?_
  rintro e w11 ⟨rfl, b11⟩
  replace kk := k_then b11 kk
  replace hr := k_later b11 hr
  clear b11 zr r0 r1 rf
  have zr := hr.lt
  obtain ⟨r0, r1, rf⟩ := k_two hr
  go_wp2_with fail
  refine (B5.out _).mono ?_
  rintro e w12 ⟨rfl, b12⟩
  replace kk := k_then b12 kk
  replace hr := k_later b12 hr
  clear b12 zr r0 r1 rf
  have zr := hr.lt
  obtain ⟨r0, r1, rf⟩ := k_two hr
  go_wp2_with fail
  refine (B6.out _).mono ?_
  rintro e w13 ⟨rfl, b13⟩
  replace kk := k_then b13 kk
  replace hr := k_later b13 hr
  clear b13 zr r0 r1 rf
  have zr := hr.lt
  obtain ⟨r0, r1, rf⟩ := k_two hr
  go_wp2_with fail
  refine (B7.out _).mono ?_
  rintro e w14 ⟨rfl, b14⟩
  replace kk := k_then b14 kk
  replace hr := k_later b14 hr
  clear b14 zr r0 r1 rf
  have zr := hr.lt
  obtain ⟨r0, r1, rf⟩ := k_two hr
  go_wp2_with fail
  refine (B8.out _).mono ?_
  rintro e w15 ⟨rfl, b15⟩
  replace kk := k_then b15 kk
  replace hr := k_later b15 hr
  clear b15 zr r0 r1 rf
  have zr := hr.lt
  obtain ⟨r0, r1, rf⟩ := k_two hr
  have kn := kk
  have hrn := hr
  replace kn := kn.alloc kn.size (.cells #[.int .i64 1, .int .i64 2, .int .i64 0, .int .i64 0] 25)
  replace hrn := hrn.alloc (.cells #[.int .i64 1, .int .i64 2, .int .i64 0, .int .i64 0] 25)
  have hsn := Whole.new w15 25 #[.int .i64 1, .int .i64 2, .int .i64 0, .int .i64 0]
  go_wp2_with fail
  refine (C0.out _).mono ?_
  rintro e w16 ⟨rfl, b16⟩
  replace kk := k_then b16 kn
  replace hr := k_later b16 hrn
  have hs := k_later b16 hsn
  clear kn b16 hrn hsn zr r0 r1 rf
  have zr := hr.lt
  obtain ⟨r0, r1, rf⟩ := k_two hr
  have zs := hs.lt
  obtain ⟨s0, s1, s2, s3, sf⟩ := k_four hs
  go_wp2_with fail
  refine (C1.out _).mono ?_
  rintro e w17 ⟨rfl, b17⟩
  replace kk := k_then b17 kk
  replace hr := k_later b17 hr
  replace hs := k_later b17 hs
  clear b17 zr r0 r1 rf zs s0 s1 s2 s3 sf
  have zr := hr.lt
  obtain ⟨r0, r1, rf⟩ := k_two hr
  have zs := hs.lt
  obtain ⟨s0, s1, s2, s3, sf⟩ := k_four hs
  go_wp2_with fail
  refine (S.out _).mono ?_
  rintro e w18 ⟨rfl, b18⟩
  replace kk := k_then b18 kk
  replace hr := k_later b18 hr
  replace hs := k_later b18 hs
  clear b18 zr r0 r1 rf zs s0 s1 s2 s3 sf
  have zr := hr.lt
  obtain ⟨r0, r1, rf⟩ := k_two hr
  have zs := hs.lt
  obtain ⟨s0, s1, s2, s3, sf⟩ := k_four hs
  go_wp2_with fail
  refine (D0.out _).mono ?_
  rintro e w19 ⟨rfl, b19⟩
  replace kk := k_then b19 kk
  replace hr := k_later b19 hr
  replace hs := k_later b19 hs
  clear b19 zr r0 r1 rf zs s0 s1 s2 s3 sf
  have zr := hr.lt
  obtain ⟨r0, r1, rf⟩ := k_two hr
  have zs := hs.lt
  obtain ⟨s0, s1, s2, s3, sf⟩ := k_four hs
  have kn := kk
  have hrn := hr
  have hsn := hs
  replace kn := kn.alloc kn.size (.cells #[.int .i64 1001, .int .i64 1000, .int .i64 10, .int .i64 0] 25)
  replace hrn := hrn.alloc (.cells #[.int .i64 1001, .int .i64 1000, .int .i64 10, .int .i64 0] 25)
  replace hsn := hsn.alloc (.cells #[.int .i64 1001, .int .i64 1000, .int .i64 10, .int .i64 0] 25)
  have hcn := Whole.new w19 25 #[.int .i64 1001, .int .i64 1000, .int .i64 10, .int .i64 0]
  go_wp2_with fail
  refine (S.out _).mono ?_
  rintro e w20 ⟨rfl, b20⟩
  replace kk := k_then b20 kn
  replace hr := k_later b20 hrn
  replace hs := k_later b20 hsn
  have hc := k_later b20 hcn
  clear kn b20 hrn hsn hcn zr r0 r1 rf zs s0 s1 s2 s3 sf
  have zr := hr.lt
  obtain ⟨r0, r1, rf⟩ := k_two hr
  have zs := hs.lt
  obtain ⟨s0, s1, s2, s3, sf⟩ := k_four hs
  have zc := hc.lt
  obtain ⟨c0, c1, c2, c3, cf⟩ := k_four hc
  go_wp2_with fail
  refine (D1.out _).mono ?_
  rintro e w21 ⟨rfl, b21⟩
  replace kk := k_then b21 kk
  replace hr := k_later b21 hr
  replace hs := k_later b21 hs
  replace hc := k_later b21 hc
  clear b21 zr r0 r1 rf zs s0 s1 s2 s3 sf zc c0 c1 c2 c3 cf
  have zr := hr.lt
  obtain ⟨r0, r1, rf⟩ := k_two hr
  have zs := hs.lt
  obtain ⟨s0, s1, s2, s3, sf⟩ := k_four hs
  have zc := hc.lt
  obtain ⟨c0, c1, c2, c3, cf⟩ := k_four hc
  have kn := kk
  have hrn := hr
  have hsn := hs
  have hcn := hc
  replace kn := kn.alloc kn.size (.cells #[.int .i64 0, .int .i64 0, .int .i64 0, .int .i64 0] 25)
  replace hrn := hrn.alloc (.cells #[.int .i64 0, .int .i64 0, .int .i64 0, .int .i64 0] 25)
  replace hsn := hsn.alloc (.cells #[.int .i64 0, .int .i64 0, .int .i64 0, .int .i64 0] 25)
  replace hcn := hcn.alloc (.cells #[.int .i64 0, .int .i64 0, .int .i64 0, .int .i64 0] 25)
  go_wp2_with fail
  refine (S.out _).mono ?_
  rintro e w22 ⟨rfl, b22⟩
  replace kk := k_then b22 kn
  replace hr := k_later b22 hrn
  replace hs := k_later b22 hsn
  replace hc := k_later b22 hcn
  clear kn b22 hrn hsn hcn zr r0 r1 rf zs s0 s1 s2 s3 sf zc c0 c1 c2 c3 cf
  have zr := hr.lt
  obtain ⟨r0, r1, rf⟩ := k_two hr
  have zs := hs.lt
  obtain ⟨s0, s1, s2, s3, sf⟩ := k_four hs
  have zc := hc.lt
  obtain ⟨c0, c1, c2, c3, cf⟩ := k_four hc
  go_wp2_with fail
  refine (D2.out _).mono ?_
  rintro e w23 ⟨rfl, b23⟩
  replace kk := k_then b23 kk
  replace hr := k_later b23 hr
  replace hs := k_later b23 hs
  replace hc := k_later b23 hc
  clear b23 zr r0 r1 rf zs s0 s1 s2 s3 sf zc c0 c1 c2 c3 cf
  have zr := hr.lt
  obtain ⟨r0, r1, rf⟩ := k_two hr
  have zs := hs.lt
  obtain ⟨s0, s1, s2, s3, sf⟩ := k_four hs
  have zc := hc.lt
  obtain ⟨c0, c1, c2, c3, cf⟩ := k_four hc
  have kn := kk
  have hrn := hr
  have hsn := hs
  have hcn := hc
  replace kn := kn.alloc kn.size (.cells #[.int .i64 0, .int .i64 0, .int .i64 0, .int .i64 0] 25)
  replace hrn := hrn.alloc (.cells #[.int .i64 0, .int .i64 0, .int .i64 0, .int .i64 0] 25)
  replace hsn := hsn.alloc (.cells #[.int .i64 0, .int .i64 0, .int .i64 0, .int .i64 0] 25)
  replace hcn := hcn.alloc (.cells #[.int .i64 0, .int .i64 0, .int .i64 0, .int .i64 0] 25)
  go_wp2_with fail
  refine (S.out _).mono ?_
  rintro e w24 ⟨rfl, b24⟩
  replace kk := k_then b24 kn
  replace hr := k_later b24 hrn
  replace hs := k_later b24 hsn
  replace hc := k_later b24 hcn
  clear kn b24 hrn hsn hcn zr r0 r1 rf zs s0 s1 s2 s3 sf zc c0 c1 c2 c3 cf
  have zr := hr.lt
  obtain ⟨r0, r1, rf⟩ := k_two hr
  have zs := hs.lt
  obtain ⟨s0, s1, s2, s3, sf⟩ := k_four hs
  have zc := hc.lt
  obtain ⟨c0, c1, c2, c3, cf⟩ := k_four hc
  go_wp2_with fail
  refine (E0.out _).mono ?_
  rintro e w25 ⟨rfl, b25⟩
  replace kk := k_then b25 kk
  replace hr := k_later b25 hr
  replace hs := k_later b25 hs
  replace hc := k_later b25 hc
  clear b25 zr r0 r1 rf zs s0 s1 s2 s3 sf zc c0 c1 c2 c3 cf
  have zr := hr.lt
  obtain ⟨r0, r1, rf⟩ := k_two hr
  have zs := hs.lt
  obtain ⟨s0, s1, s2, s3, sf⟩ := k_four hs
  have zc := hc.lt
  obtain ⟨c0, c1, c2, c3, cf⟩ := k_four hc
  have kn := kk
  have hrn := hr
  have hsn := hs
  have hcn := hc
  replace kn := kn.alloc kn.size (.cells #[.int .i64 1001, .int .i64 1000, .int .i64 77, .int .i64 0] 25)
  replace hrn := hrn.alloc (.cells #[.int .i64 1001, .int .i64 1000, .int .i64 77, .int .i64 0] 25)
  replace hsn := hsn.alloc (.cells #[.int .i64 1001, .int .i64 1000, .int .i64 77, .int .i64 0] 25)
  replace hcn := hcn.alloc (.cells #[.int .i64 1001, .int .i64 1000, .int .i64 77, .int .i64 0] 25)
  have hdn := Whole.new w25 25 #[.int .i64 1001, .int .i64 1000, .int .i64 77, .int .i64 0]
  go_wp2_with fail
  refine (S.out _).mono ?_
  rintro e w26 ⟨rfl, b26⟩
  replace kk := k_then b26 kn
  replace hr := k_later b26 hrn
  replace hs := k_later b26 hsn
  replace hc := k_later b26 hcn
  have hd := k_later b26 hdn
  clear kn b26 hrn hsn hcn hdn zr r0 r1 rf zs s0 s1 s2 s3 sf zc c0 c1 c2 c3 cf
  have zr := hr.lt
  obtain ⟨r0, r1, rf⟩ := k_two hr
  have zs := hs.lt
  obtain ⟨s0, s1, s2, s3, sf⟩ := k_four hs
  have zc := hc.lt
  obtain ⟨c0, c1, c2, c3, cf⟩ := k_four hc
  have zd := hd.lt
  obtain ⟨d0, d1, d2, d3, df⟩ := k_four hd
  go_wp2_with fail
  refine (E1.out _).mono ?_
  rintro e w27 ⟨rfl, b27⟩
  replace kk := k_then b27 kk
  replace hr := k_later b27 hr
  replace hs := k_later b27 hs
  replace hc := k_later b27 hc
  replace hd := k_later b27 hd
  clear b27 zr r0 r1 rf zs s0 s1 s2 s3 sf zc c0 c1 c2 c3 cf zd d0 d1 d2 d3 df
  have zr := hr.lt
  obtain ⟨r0, r1, rf⟩ := k_two hr
  have zs := hs.lt
  obtain ⟨s0, s1, s2, s3, sf⟩ := k_four hs
  have zc := hc.lt
  obtain ⟨c0, c1, c2, c3, cf⟩ := k_four hc
  have zd := hd.lt
  obtain ⟨d0, d1, d2, d3, df⟩ := k_four hd
  have kn := kk
  have hrn := hr
  have hsn := hs
  have hcn := hc
  have hdn := hd
  replace kn := kn.alloc kn.size (.cells #[.int .i64 0, .int .i64 0, .int .i64 0, .int .i64 0] 25)
  replace hrn := hrn.alloc (.cells #[.int .i64 0, .int .i64 0, .int .i64 0, .int .i64 0] 25)
  replace hsn := hsn.alloc (.cells #[.int .i64 0, .int .i64 0, .int .i64 0, .int .i64 0] 25)
  replace hcn := hcn.alloc (.cells #[.int .i64 0, .int .i64 0, .int .i64 0, .int .i64 0] 25)
  replace hdn := hdn.alloc (.cells #[.int .i64 0, .int .i64 0, .int .i64 0, .int .i64 0] 25)
  go_wp2_with fail
  refine (S.out _).mono ?_
  rintro e w28 ⟨rfl, b28⟩
  replace kk := k_then b28 kn
  replace hr := k_later b28 hrn
  replace hs := k_later b28 hsn
  replace hc := k_later b28 hcn
  replace hd := k_later b28 hdn
  clear kn b28 hrn hsn hcn hdn zr r0 r1 rf zs s0 s1 s2 s3 sf zc c0 c1 c2 c3 cf zd d0 d1 d2 d3 df
  have zr := hr.lt
  obtain ⟨r0, r1, rf⟩ := k_two hr
  have zs := hs.lt
  obtain ⟨s0, s1, s2, s3, sf⟩ := k_four hs
  have zc := hc.lt
  obtain ⟨c0, c1, c2, c3, cf⟩ := k_four hc
  have zd := hd.lt
  obtain ⟨d0, d1, d2, d3, df⟩ := k_four hd
  have kn := kk
  have hrn := hr
  have hsn := hs
  have hcn := hc
  have hdn := hd
  replace kn := kn.alloc kn.size (.cells #[.int .i64 2001, .int .i64 1000, .int .i64 10, .int .i64 5] 25)
  replace hrn := hrn.alloc (.cells #[.int .i64 2001, .int .i64 1000, .int .i64 10, .int .i64 5] 25)
  replace hsn := hsn.alloc (.cells #[.int .i64 2001, .int .i64 1000, .int .i64 10, .int .i64 5] 25)
  replace hcn := hcn.alloc (.cells #[.int .i64 2001, .int .i64 1000, .int .i64 10, .int .i64 5] 25)
  replace hdn := hdn.alloc (.cells #[.int .i64 2001, .int .i64 1000, .int .i64 10, .int .i64 5] 25)
  go_wp2_with fail
  refine (F0.out _).mono ?_
  rintro e w29 ⟨rfl, b29⟩
  replace kk := k_then b29 kn
  replace hr := k_later b29 hrn
  replace hs := k_later b29 hsn
  replace hc := k_later b29 hcn
  replace hd := k_later b29 hdn
  clear kn b29 hrn hsn hcn hdn zr r0 r1 rf zs s0 s1 s2 s3 sf zc c0 c1 c2 c3 cf zd d0 d1 d2 d3 df
  have zr := hr.lt
  obtain ⟨r0, r1, rf⟩ := k_two hr
  have zs := hs.lt
  obtain ⟨s0, s1, s2, s3, sf⟩ := k_four hs
  have zc := hc.lt
  obtain ⟨c0, c1, c2, c3, cf⟩ := k_four hc
  have zd := hd.lt
  obtain ⟨d0, d1, d2, d3, df⟩ := k_four hd
  go_wp2_with fail
  refine (G.out _).mono ?_
  rintro e w30 ⟨rfl, b30⟩
  replace kk := k_then b30 kk
  replace hr := k_later b30 hr
  replace hs := k_later b30 hs
  replace hc := k_later b30 hc
  replace hd := k_later b30 hd
  clear b30 zr r0 r1 rf zs s0 s1 s2 s3 sf zc c0 c1 c2 c3 cf zd d0 d1 d2 d3 df
  have zr := hr.lt
  obtain ⟨r0, r1, rf⟩ := k_two hr
  have zs := hs.lt
  obtain ⟨s0, s1, s2, s3, sf⟩ := k_four hs
  have zc := hc.lt
  obtain ⟨c0, c1, c2, c3, cf⟩ := k_four hc
  have zd := hd.lt
  obtain ⟨d0, d1, d2, d3, df⟩ := k_four hd
  go_wp2
  go_ret
  exact ⟨rfl, kk⟩

end Go.Proofs.Ytjdkndpcjjjlfaa
