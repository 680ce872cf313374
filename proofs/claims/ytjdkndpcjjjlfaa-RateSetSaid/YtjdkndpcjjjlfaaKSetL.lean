/- RateSet, its walk. -/
import Derived.Test.YtjdkndpcjjjlfaaKLaw
namespace Go.Proofs.Ytjdkndpcjjjlfaa
open Go.RowKit Go.Shelf

set_option maxRecDepth 100000 in
set_option maxHeartbeats 2000000 in
theorem set_read1 (n d o j b t A : Int) (w : World) (HS : (∀ W, Calls Try.prog 12 #[.agg #[.int .i64 n, .int .i64 d, .int .i64 o, .int .i64 j], .int .i64 b] W fun e w' => e = .returned (.tuple #[.agg #[.int .i64 n, .int .i64 d, .int .i64 o, .int .i64 (j + b)], .int .i64 0]) ∧ Below W.heap.size W w')) (H1 : (∀ W, Calls Try.prog 8 #[.agg #[.int .i64 n, .int .i64 d, .int .i64 o, .int .i64 j], .int .i64 t] W fun e w' => e = .returned (.tuple #[.int .i64 A, .int .i64 0]) ∧ Below W.heap.size W w')) (H2 : (∀ W, Calls Try.prog 8 #[.agg #[.int .i64 n, .int .i64 d, .int .i64 o, .int .i64 (j + b)], .int .i64 t] W fun e w' => e = .returned (.tuple #[.int .i64 (A + b), .int .i64 0]) ∧ Below W.heap.size W w')) (H3 : (∀ W, Calls Try.prog 12 #[.agg #[.int .i64 n, .int .i64 d, .int .i64 o, .int .i64 (j + b)], .int .i64 (-b)] W fun e w' => e = .returned (.tuple #[.agg #[.int .i64 n, .int .i64 d, .int .i64 o, .int .i64 j], .int .i64 0]) ∧ Below W.heap.size W w')) (b0 : -8589934592 ≤ b) (b1 : b ≤ 8589934592) (a0 : -4294967296 ≤ A) (a1 : A ≤ 12884901888) (HR : (∀ W, Calls Try.prog 14 #[.agg #[.int .i64 n, .int .i64 d, .int .i64 o, .int .i64 j], .int .i64 t] W fun e w' => e = .returned (.tuple #[.agg #[.int .i64 n, .int .i64 d, .int .i64 t, .int .i64 0], .int .i64 0]) ∧ Below W.heap.size W w')) (H4 : (∀ W, Calls Try.prog 8 #[.agg #[.int .i64 n, .int .i64 d, .int .i64 t, .int .i64 0], .int .i64 t] W fun e w' => e = .returned (.tuple #[.int .i64 0, .int .i64 0]) ∧ Below W.heap.size W w')) :
    Calls Try.prog 7 #[.agg #[.int .i64 n, .int .i64 d, .int .i64 o, .int .i64 j], .int .i64 b, .int .i64 t] w fun e w' => e = .returned (.bool true) ∧ Below w.heap.size w w' := by
  have kk : Below w.heap.size w (w.alloc (.cells #[.int .i64 n, .int .i64 d, .int .i64 o, .int .i64 j] 25)) := (Below.refl _ _).alloc (Nat.le_refl _) _
  have hc := Whole.new w 25 #[.int .i64 n, .int .i64 d, .int .i64 o, .int .i64 j]
  have zc := hc.lt
  obtain ⟨c0, c1, c2, c3, cf⟩ := k_four hc
  have HAh := Lib.hid (fun W => alive_r W)
  have HSh := Lib.hid HS
  have H1h := Lib.hid H1
  have H2h := Lib.hid H2
  have H3h := Lib.hid H3
  have HRh := Lib.hid HR
  have H4h := Lib.hid H4
  clear HS H1 H2 H3 HR H4
  have y1 : (A + b != A + b) = false := by simp
  go_enter Try.func7, Try.ntmps7
  go_wp2_with fail
  refine (HAh.out _).mono ?_
  rintro e w1 ⟨rfl, b1⟩
  replace kk := k_then b1 kk
  replace hc := k_later b1 hc
  clear zc c0 c1 c2 c3 cf b1
  have zc := hc.lt
  obtain ⟨c0, c1, c2, c3, cf⟩ := k_four hc
  go_wp2_with fail
  refine (HSh.out _).mono ?_
  rintro e w2 ⟨rfl, b2⟩
  replace kk := k_then b2 kk
  replace hc := k_later b2 hc
  clear zc c0 c1 c2 c3 cf b2
  have zc := hc.lt
  obtain ⟨c0, c1, c2, c3, cf⟩ := k_four hc
  have hd := Whole.new w2 25 #[.int .i64 n, .int .i64 d, .int .i64 o, .int .i64 (j + b)]
  have kn := kk.alloc kk.size (.cells #[.int .i64 n, .int .i64 d, .int .i64 o, .int .i64 (j + b)] 25)
  have hcn := hc.alloc (.cells #[.int .i64 n, .int .i64 d, .int .i64 o, .int .i64 (j + b)] 25)
  go_wp2_with fail
  refine (H1h.out _).mono ?_
  rintro e w3 ⟨rfl, b3⟩
  replace kk := k_then b3 kn
  replace hc := k_later b3 hcn
  replace hd := k_later b3 hd
  clear zc c0 c1 c2 c3 cf b3 kn hcn
  have zc := hc.lt
  obtain ⟨c0, c1, c2, c3, cf⟩ := k_four hc
  have zd := hd.lt
  obtain ⟨d0, d1, d2, d3, df⟩ := k_four hd
  go_wp2_with fail
  refine (H2h.out _).mono ?_
  rintro e w4 ⟨rfl, b4⟩
  replace kk := k_then b4 kk
  replace hc := k_later b4 hc
  replace hd := k_later b4 hd
  clear zc c0 c1 c2 c3 cf zd d0 d1 d2 d3 df b4
  have zc := hc.lt
  obtain ⟨c0, c1, c2, c3, cf⟩ := k_four hc
  have zd := hd.lt
  obtain ⟨d0, d1, d2, d3, df⟩ := k_four hd
  go_wp2_with fail
  refine (H3h.out _).mono ?_
  rintro e w5 ⟨rfl, b5⟩
  replace kk := k_then b5 kk
  replace hc := k_later b5 hc
  replace hd := k_later b5 hd
  clear zc c0 c1 c2 c3 cf zd d0 d1 d2 d3 df b5
  have zc := hc.lt
  obtain ⟨c0, c1, c2, c3, cf⟩ := k_four hc
  have zd := hd.lt
  obtain ⟨d0, d1, d2, d3, df⟩ := k_four hd
  have hb := Whole.new w5 25 #[.int .i64 n, .int .i64 d, .int .i64 o, .int .i64 j]
  have kn := kk.alloc kk.size (.cells #[.int .i64 n, .int .i64 d, .int .i64 o, .int .i64 j] 25)
  have hcn := hc.alloc (.cells #[.int .i64 n, .int .i64 d, .int .i64 o, .int .i64 j] 25)
  have hdn := hd.alloc (.cells #[.int .i64 n, .int .i64 d, .int .i64 o, .int .i64 j] 25)
  go_wp2_with fail
  refine (HRh.out _).mono ?_
  rintro e w6 ⟨rfl, b6⟩
  replace kk := k_then b6 kn
  replace hc := k_later b6 hcn
  replace hd := k_later b6 hdn
  replace hb := k_later b6 hb
  clear zc c0 c1 c2 c3 cf zd d0 d1 d2 d3 df b6 kn hcn hdn
  have zc := hc.lt
  obtain ⟨c0, c1, c2, c3, cf⟩ := k_four hc
  have zd := hd.lt
  obtain ⟨d0, d1, d2, d3, df⟩ := k_four hd
  have zb := hb.lt
  obtain ⟨b0, b1, b2, b3, bf⟩ := k_four hb
  have hr := Whole.new w6 25 #[.int .i64 n, .int .i64 d, .int .i64 t, .int .i64 0]
  have kn := kk.alloc kk.size (.cells #[.int .i64 n, .int .i64 d, .int .i64 t, .int .i64 0] 25)
  have hcn := hc.alloc (.cells #[.int .i64 n, .int .i64 d, .int .i64 t, .int .i64 0] 25)
  have hdn := hd.alloc (.cells #[.int .i64 n, .int .i64 d, .int .i64 t, .int .i64 0] 25)
  have hbn := hb.alloc (.cells #[.int .i64 n, .int .i64 d, .int .i64 t, .int .i64 0] 25)
  go_wp2_with fail
  refine (H4h.out _).mono ?_
  rintro e w7 ⟨rfl, b7⟩
  replace kk := k_then b7 kn
  replace hc := k_later b7 hcn
  replace hd := k_later b7 hdn
  replace hb := k_later b7 hbn
  replace hr := k_later b7 hr
  clear zc c0 c1 c2 c3 cf zd d0 d1 d2 d3 df zb b0 b1 b2 b3 bf b7 kn hcn hdn hbn
  have zc := hc.lt
  obtain ⟨c0, c1, c2, c3, cf⟩ := k_four hc
  have zd := hd.lt
  obtain ⟨d0, d1, d2, d3, df⟩ := k_four hd
  have zb := hb.lt
  obtain ⟨b0, b1, b2, b3, bf⟩ := k_four hb
  have zr := hr.lt
  obtain ⟨r0, r1, r2, r3, rf⟩ := k_four hr
  go_wp2
  go_ret
  exact ⟨rfl, kk⟩

set_option maxRecDepth 100000 in
set_option maxHeartbeats 2000000 in
theorem set_dumb1 (n d o j b t : Int) (w : World) (HS : (∀ W, Calls Try.prog 12 #[.agg #[.int .i64 n, .int .i64 d, .int .i64 o, .int .i64 j], .int .i64 b] W fun e w' => e = .returned (.tuple #[.agg #[.int .i64 n, .int .i64 d, .int .i64 o, .int .i64 (j + b)], .int .i64 0]) ∧ Below W.heap.size W w')) (H1 : (∀ W, Calls Try.prog 8 #[.agg #[.int .i64 n, .int .i64 d, .int .i64 o, .int .i64 j], .int .i64 t] W fun e w' => e = .returned (.tuple #[.int .i64 0, .int .i64 60]) ∧ Below W.heap.size W w')) (H2 : (∀ W, Calls Try.prog 8 #[.agg #[.int .i64 n, .int .i64 d, .int .i64 o, .int .i64 (j + b)], .int .i64 t] W fun e w' => e = .returned (.tuple #[.int .i64 0, .int .i64 60]) ∧ Below W.heap.size W w')) (H3 : (∀ W, Calls Try.prog 12 #[.agg #[.int .i64 n, .int .i64 d, .int .i64 o, .int .i64 (j + b)], .int .i64 (-b)] W fun e w' => e = .returned (.tuple #[.agg #[.int .i64 n, .int .i64 d, .int .i64 o, .int .i64 j], .int .i64 0]) ∧ Below W.heap.size W w')) (b0 : -8589934592 ≤ b) (b1 : b ≤ 8589934592) (HR : (∀ W, Calls Try.prog 14 #[.agg #[.int .i64 n, .int .i64 d, .int .i64 o, .int .i64 j], .int .i64 t] W fun e w' => e = .returned (.tuple #[.agg #[.int .i64 n, .int .i64 d, .int .i64 t, .int .i64 0], .int .i64 0]) ∧ Below W.heap.size W w')) (H4 : (∀ W, Calls Try.prog 8 #[.agg #[.int .i64 n, .int .i64 d, .int .i64 t, .int .i64 0], .int .i64 t] W fun e w' => e = .returned (.tuple #[.int .i64 0, .int .i64 0]) ∧ Below W.heap.size W w')) :
    Calls Try.prog 7 #[.agg #[.int .i64 n, .int .i64 d, .int .i64 o, .int .i64 j], .int .i64 b, .int .i64 t] w fun e w' => e = .returned (.bool true) ∧ Below w.heap.size w w' := by
  have kk : Below w.heap.size w (w.alloc (.cells #[.int .i64 n, .int .i64 d, .int .i64 o, .int .i64 j] 25)) := (Below.refl _ _).alloc (Nat.le_refl _) _
  have hc := Whole.new w 25 #[.int .i64 n, .int .i64 d, .int .i64 o, .int .i64 j]
  have zc := hc.lt
  obtain ⟨c0, c1, c2, c3, cf⟩ := k_four hc
  have HAh := Lib.hid (fun W => alive_r W)
  have HSh := Lib.hid HS
  have H1h := Lib.hid H1
  have H2h := Lib.hid H2
  have H3h := Lib.hid H3
  have HRh := Lib.hid HR
  have H4h := Lib.hid H4
  clear HS H1 H2 H3 HR H4
  go_enter Try.func7, Try.ntmps7
  go_wp2_with fail
  refine (HAh.out _).mono ?_
  rintro e w1 ⟨rfl, b1⟩
  replace kk := k_then b1 kk
  replace hc := k_later b1 hc
  clear zc c0 c1 c2 c3 cf b1
  have zc := hc.lt
  obtain ⟨c0, c1, c2, c3, cf⟩ := k_four hc
  go_wp2_with fail
  refine (HSh.out _).mono ?_
  rintro e w2 ⟨rfl, b2⟩
  replace kk := k_then b2 kk
  replace hc := k_later b2 hc
  clear zc c0 c1 c2 c3 cf b2
  have zc := hc.lt
  obtain ⟨c0, c1, c2, c3, cf⟩ := k_four hc
  have hd := Whole.new w2 25 #[.int .i64 n, .int .i64 d, .int .i64 o, .int .i64 (j + b)]
  have kn := kk.alloc kk.size (.cells #[.int .i64 n, .int .i64 d, .int .i64 o, .int .i64 (j + b)] 25)
  have hcn := hc.alloc (.cells #[.int .i64 n, .int .i64 d, .int .i64 o, .int .i64 (j + b)] 25)
  go_wp2_with fail
  refine (H1h.out _).mono ?_
  rintro e w3 ⟨rfl, b3⟩
  replace kk := k_then b3 kn
  replace hc := k_later b3 hcn
  replace hd := k_later b3 hd
  clear zc c0 c1 c2 c3 cf b3 kn hcn
  have zc := hc.lt
  obtain ⟨c0, c1, c2, c3, cf⟩ := k_four hc
  have zd := hd.lt
  obtain ⟨d0, d1, d2, d3, df⟩ := k_four hd
  go_wp2_with fail
  refine (H2h.out _).mono ?_
  rintro e w4 ⟨rfl, b4⟩
  replace kk := k_then b4 kk
  replace hc := k_later b4 hc
  replace hd := k_later b4 hd
  clear zc c0 c1 c2 c3 cf zd d0 d1 d2 d3 df b4
  have zc := hc.lt
  obtain ⟨c0, c1, c2, c3, cf⟩ := k_four hc
  have zd := hd.lt
  obtain ⟨d0, d1, d2, d3, df⟩ := k_four hd
  go_wp2_with fail
  refine (H3h.out _).mono ?_
  rintro e w5 ⟨rfl, b5⟩
  replace kk := k_then b5 kk
  replace hc := k_later b5 hc
  replace hd := k_later b5 hd
  clear zc c0 c1 c2 c3 cf zd d0 d1 d2 d3 df b5
  have zc := hc.lt
  obtain ⟨c0, c1, c2, c3, cf⟩ := k_four hc
  have zd := hd.lt
  obtain ⟨d0, d1, d2, d3, df⟩ := k_four hd
  have hb := Whole.new w5 25 #[.int .i64 n, .int .i64 d, .int .i64 o, .int .i64 j]
  have kn := kk.alloc kk.size (.cells #[.int .i64 n, .int .i64 d, .int .i64 o, .int .i64 j] 25)
  have hcn := hc.alloc (.cells #[.int .i64 n, .int .i64 d, .int .i64 o, .int .i64 j] 25)
  have hdn := hd.alloc (.cells #[.int .i64 n, .int .i64 d, .int .i64 o, .int .i64 j] 25)
  go_wp2_with fail
  refine (HRh.out _).mono ?_
  rintro e w6 ⟨rfl, b6⟩
  replace kk := k_then b6 kn
  replace hc := k_later b6 hcn
  replace hd := k_later b6 hdn
  replace hb := k_later b6 hb
  clear zc c0 c1 c2 c3 cf zd d0 d1 d2 d3 df b6 kn hcn hdn
  have zc := hc.lt
  obtain ⟨c0, c1, c2, c3, cf⟩ := k_four hc
  have zd := hd.lt
  obtain ⟨d0, d1, d2, d3, df⟩ := k_four hd
  have zb := hb.lt
  obtain ⟨b0, b1, b2, b3, bf⟩ := k_four hb
  have hr := Whole.new w6 25 #[.int .i64 n, .int .i64 d, .int .i64 t, .int .i64 0]
  have kn := kk.alloc kk.size (.cells #[.int .i64 n, .int .i64 d, .int .i64 t, .int .i64 0] 25)
  have hcn := hc.alloc (.cells #[.int .i64 n, .int .i64 d, .int .i64 t, .int .i64 0] 25)
  have hdn := hd.alloc (.cells #[.int .i64 n, .int .i64 d, .int .i64 t, .int .i64 0] 25)
  have hbn := hb.alloc (.cells #[.int .i64 n, .int .i64 d, .int .i64 t, .int .i64 0] 25)
  go_wp2_with fail
  refine (H4h.out _).mono ?_
  rintro e w7 ⟨rfl, b7⟩
  replace kk := k_then b7 kn
  replace hc := k_later b7 hcn
  replace hd := k_later b7 hdn
  replace hb := k_later b7 hbn
  replace hr := k_later b7 hr
  clear zc c0 c1 c2 c3 cf zd d0 d1 d2 d3 df zb b0 b1 b2 b3 bf b7 kn hcn hdn hbn
  have zc := hc.lt
  obtain ⟨c0, c1, c2, c3, cf⟩ := k_four hc
  have zd := hd.lt
  obtain ⟨d0, d1, d2, d3, df⟩ := k_four hd
  have zb := hb.lt
  obtain ⟨b0, b1, b2, b3, bf⟩ := k_four hb
  have zr := hr.lt
  obtain ⟨r0, r1, r2, r3, rf⟩ := k_four hr
  go_wp2
  go_ret
  exact ⟨rfl, kk⟩

set_option maxRecDepth 100000 in
set_option maxHeartbeats 2000000 in
theorem set_dumb0 (n d o j b t : Int) (w : World) (HS : (∀ W, Calls Try.prog 12 #[.agg #[.int .i64 n, .int .i64 d, .int .i64 o, .int .i64 j], .int .i64 b] W fun e w' => e = .returned (.tuple #[.agg #[.int .i64 n, .int .i64 d, .int .i64 o, .int .i64 (j + b)], .int .i64 0]) ∧ Below W.heap.size W w')) (H1 : (∀ W, Calls Try.prog 8 #[.agg #[.int .i64 n, .int .i64 d, .int .i64 o, .int .i64 j], .int .i64 t] W fun e w' => e = .returned (.tuple #[.int .i64 0, .int .i64 60]) ∧ Below W.heap.size W w')) (H2 : (∀ W, Calls Try.prog 8 #[.agg #[.int .i64 n, .int .i64 d, .int .i64 o, .int .i64 (j + b)], .int .i64 t] W fun e w' => e = .returned (.tuple #[.int .i64 0, .int .i64 60]) ∧ Below W.heap.size W w')) (H3 : (∀ W, Calls Try.prog 12 #[.agg #[.int .i64 n, .int .i64 d, .int .i64 o, .int .i64 (j + b)], .int .i64 (-b)] W fun e w' => e = .returned (.tuple #[.agg #[.int .i64 n, .int .i64 d, .int .i64 o, .int .i64 j], .int .i64 0]) ∧ Below W.heap.size W w')) (b0 : -8589934592 ≤ b) (b1 : b ≤ 8589934592) (HR : (∀ W, Calls Try.prog 14 #[.agg #[.int .i64 n, .int .i64 d, .int .i64 o, .int .i64 j], .int .i64 t] W fun e w' => e = .returned (.tuple #[.agg #[.int .i64 0, .int .i64 0, .int .i64 0, .int .i64 0], .int .i64 60]) ∧ Below W.heap.size W w')) :
    Calls Try.prog 7 #[.agg #[.int .i64 n, .int .i64 d, .int .i64 o, .int .i64 j], .int .i64 b, .int .i64 t] w fun e w' => e = .returned (.bool true) ∧ Below w.heap.size w w' := by
  have kk : Below w.heap.size w (w.alloc (.cells #[.int .i64 n, .int .i64 d, .int .i64 o, .int .i64 j] 25)) := (Below.refl _ _).alloc (Nat.le_refl _) _
  have hc := Whole.new w 25 #[.int .i64 n, .int .i64 d, .int .i64 o, .int .i64 j]
  have zc := hc.lt
  obtain ⟨c0, c1, c2, c3, cf⟩ := k_four hc
  have HAh := Lib.hid (fun W => alive_r W)
  have HSh := Lib.hid HS
  have H1h := Lib.hid H1
  have H2h := Lib.hid H2
  have H3h := Lib.hid H3
  have HRh := Lib.hid HR
  clear HS H1 H2 H3 HR
  go_enter Try.func7, Try.ntmps7
  go_wp2_with fail
  refine (HAh.out _).mono ?_
  rintro e w1 ⟨rfl, b1⟩
  replace kk := k_then b1 kk
  replace hc := k_later b1 hc
  clear zc c0 c1 c2 c3 cf b1
  have zc := hc.lt
  obtain ⟨c0, c1, c2, c3, cf⟩ := k_four hc
  go_wp2_with fail
  refine (HSh.out _).mono ?_
  rintro e w2 ⟨rfl, b2⟩
  replace kk := k_then b2 kk
  replace hc := k_later b2 hc
  clear zc c0 c1 c2 c3 cf b2
  have zc := hc.lt
  obtain ⟨c0, c1, c2, c3, cf⟩ := k_four hc
  have hd := Whole.new w2 25 #[.int .i64 n, .int .i64 d, .int .i64 o, .int .i64 (j + b)]
  have kn := kk.alloc kk.size (.cells #[.int .i64 n, .int .i64 d, .int .i64 o, .int .i64 (j + b)] 25)
  have hcn := hc.alloc (.cells #[.int .i64 n, .int .i64 d, .int .i64 o, .int .i64 (j + b)] 25)
  go_wp2_with fail
  refine (H1h.out _).mono ?_
  rintro e w3 ⟨rfl, b3⟩
  replace kk := k_then b3 kn
  replace hc := k_later b3 hcn
  replace hd := k_later b3 hd
  clear zc c0 c1 c2 c3 cf b3 kn hcn
  have zc := hc.lt
  obtain ⟨c0, c1, c2, c3, cf⟩ := k_four hc
  have zd := hd.lt
  obtain ⟨d0, d1, d2, d3, df⟩ := k_four hd
  go_wp2_with fail
  refine (H2h.out _).mono ?_
  rintro e w4 ⟨rfl, b4⟩
  replace kk := k_then b4 kk
  replace hc := k_later b4 hc
  replace hd := k_later b4 hd
  clear zc c0 c1 c2 c3 cf zd d0 d1 d2 d3 df b4
  have zc := hc.lt
  obtain ⟨c0, c1, c2, c3, cf⟩ := k_four hc
  have zd := hd.lt
  obtain ⟨d0, d1, d2, d3, df⟩ := k_four hd
  go_wp2_with fail
  refine (H3h.out _).mono ?_
  rintro e w5 ⟨rfl, b5⟩
  replace kk := k_then b5 kk
  replace hc := k_later b5 hc
  replace hd := k_later b5 hd
  clear zc c0 c1 c2 c3 cf zd d0 d1 d2 d3 df b5
  have zc := hc.lt
  obtain ⟨c0, c1, c2, c3, cf⟩ := k_four hc
  have zd := hd.lt
  obtain ⟨d0, d1, d2, d3, df⟩ := k_four hd
  have hb := Whole.new w5 25 #[.int .i64 n, .int .i64 d, .int .i64 o, .int .i64 j]
  have kn := kk.alloc kk.size (.cells #[.int .i64 n, .int .i64 d, .int .i64 o, .int .i64 j] 25)
  have hcn := hc.alloc (.cells #[.int .i64 n, .int .i64 d, .int .i64 o, .int .i64 j] 25)
  have hdn := hd.alloc (.cells #[.int .i64 n, .int .i64 d, .int .i64 o, .int .i64 j] 25)
  go_wp2_with fail
  refine (HRh.out _).mono ?_
  rintro e w6 ⟨rfl, b6⟩
  replace kk := k_then b6 kn
  replace hc := k_later b6 hcn
  replace hd := k_later b6 hdn
  replace hb := k_later b6 hb
  clear zc c0 c1 c2 c3 cf zd d0 d1 d2 d3 df b6 kn hcn hdn
  have zc := hc.lt
  obtain ⟨c0, c1, c2, c3, cf⟩ := k_four hc
  have zd := hd.lt
  obtain ⟨d0, d1, d2, d3, df⟩ := k_four hd
  have zb := hb.lt
  obtain ⟨b0, b1, b2, b3, bf⟩ := k_four hb
  go_wp2
  go_ret
  exact ⟨rfl, kk.alloc kk.size _⟩

set_option maxRecDepth 100000 in
set_option maxHeartbeats 2000000 in
theorem set_none1 (n d o j b t : Int) (w : World) (HS : (∀ W, Calls Try.prog 12 #[.agg #[.int .i64 n, .int .i64 d, .int .i64 o, .int .i64 j], .int .i64 b] W fun e w' => e = .returned (.tuple #[.agg #[.int .i64 0, .int .i64 0, .int .i64 0, .int .i64 0], .int .i64 60]) ∧ Below W.heap.size W w')) (HR : (∀ W, Calls Try.prog 14 #[.agg #[.int .i64 n, .int .i64 d, .int .i64 o, .int .i64 j], .int .i64 t] W fun e w' => e = .returned (.tuple #[.agg #[.int .i64 n, .int .i64 d, .int .i64 t, .int .i64 0], .int .i64 0]) ∧ Below W.heap.size W w')) (H4 : (∀ W, Calls Try.prog 8 #[.agg #[.int .i64 n, .int .i64 d, .int .i64 t, .int .i64 0], .int .i64 t] W fun e w' => e = .returned (.tuple #[.int .i64 0, .int .i64 0]) ∧ Below W.heap.size W w')) :
    Calls Try.prog 7 #[.agg #[.int .i64 n, .int .i64 d, .int .i64 o, .int .i64 j], .int .i64 b, .int .i64 t] w fun e w' => e = .returned (.bool true) ∧ Below w.heap.size w w' := by
  have kk : Below w.heap.size w (w.alloc (.cells #[.int .i64 n, .int .i64 d, .int .i64 o, .int .i64 j] 25)) := (Below.refl _ _).alloc (Nat.le_refl _) _
  have hc := Whole.new w 25 #[.int .i64 n, .int .i64 d, .int .i64 o, .int .i64 j]
  have zc := hc.lt
  obtain ⟨c0, c1, c2, c3, cf⟩ := k_four hc
  have HAh := Lib.hid (fun W => alive_r W)
  have HSh := Lib.hid HS
  have HRh := Lib.hid HR
  have H4h := Lib.hid H4
  clear HS HR H4
  go_enter Try.func7, Try.ntmps7
  go_wp2_with fail
  refine (HAh.out _).mono ?_
  rintro e w1 ⟨rfl, b1⟩
  replace kk := k_then b1 kk
  replace hc := k_later b1 hc
  clear zc c0 c1 c2 c3 cf b1
  have zc := hc.lt
  obtain ⟨c0, c1, c2, c3, cf⟩ := k_four hc
  go_wp2_with fail
  refine (HSh.out _).mono ?_
  rintro e w2 ⟨rfl, b2⟩
  replace kk := k_then b2 kk
  replace hc := k_later b2 hc
  clear zc c0 c1 c2 c3 cf b2
  have zc := hc.lt
  obtain ⟨c0, c1, c2, c3, cf⟩ := k_four hc
  have hd := Whole.new w2 25 #[.int .i64 0, .int .i64 0, .int .i64 0, .int .i64 0]
  have kn := kk.alloc kk.size (.cells #[.int .i64 0, .int .i64 0, .int .i64 0, .int .i64 0] 25)
  have hcn := hc.alloc (.cells #[.int .i64 0, .int .i64 0, .int .i64 0, .int .i64 0] 25)
  go_wp2_with fail
  refine (HRh.out _).mono ?_
  rintro e w3 ⟨rfl, b3⟩
  replace kk := k_then b3 kn
  replace hc := k_later b3 hcn
  replace hd := k_later b3 hd
  clear zc c0 c1 c2 c3 cf b3 kn hcn
  have zc := hc.lt
  obtain ⟨c0, c1, c2, c3, cf⟩ := k_four hc
  have zd := hd.lt
  obtain ⟨d0, d1, d2, d3, df⟩ := k_four hd
  have hr := Whole.new w3 25 #[.int .i64 n, .int .i64 d, .int .i64 t, .int .i64 0]
  have kn := kk.alloc kk.size (.cells #[.int .i64 n, .int .i64 d, .int .i64 t, .int .i64 0] 25)
  have hcn := hc.alloc (.cells #[.int .i64 n, .int .i64 d, .int .i64 t, .int .i64 0] 25)
  have hdn := hd.alloc (.cells #[.int .i64 n, .int .i64 d, .int .i64 t, .int .i64 0] 25)
  go_wp2_with fail
  refine (H4h.out _).mono ?_
  rintro e w4 ⟨rfl, b4⟩
  replace kk := k_then b4 kn
  replace hc := k_later b4 hcn
  replace hd := k_later b4 hdn
  replace hr := k_later b4 hr
  clear zc c0 c1 c2 c3 cf zd d0 d1 d2 d3 df b4 kn hcn hdn
  have zc := hc.lt
  obtain ⟨c0, c1, c2, c3, cf⟩ := k_four hc
  have zd := hd.lt
  obtain ⟨d0, d1, d2, d3, df⟩ := k_four hd
  have zr := hr.lt
  obtain ⟨r0, r1, r2, r3, rf⟩ := k_four hr
  go_wp2
  go_ret
  exact ⟨rfl, kk⟩

set_option maxRecDepth 100000 in
set_option maxHeartbeats 2000000 in
theorem set_none0 (n d o j b t : Int) (w : World) (HS : (∀ W, Calls Try.prog 12 #[.agg #[.int .i64 n, .int .i64 d, .int .i64 o, .int .i64 j], .int .i64 b] W fun e w' => e = .returned (.tuple #[.agg #[.int .i64 0, .int .i64 0, .int .i64 0, .int .i64 0], .int .i64 60]) ∧ Below W.heap.size W w')) (HR : (∀ W, Calls Try.prog 14 #[.agg #[.int .i64 n, .int .i64 d, .int .i64 o, .int .i64 j], .int .i64 t] W fun e w' => e = .returned (.tuple #[.agg #[.int .i64 0, .int .i64 0, .int .i64 0, .int .i64 0], .int .i64 60]) ∧ Below W.heap.size W w')) :
    Calls Try.prog 7 #[.agg #[.int .i64 n, .int .i64 d, .int .i64 o, .int .i64 j], .int .i64 b, .int .i64 t] w fun e w' => e = .returned (.bool true) ∧ Below w.heap.size w w' := by
  have kk : Below w.heap.size w (w.alloc (.cells #[.int .i64 n, .int .i64 d, .int .i64 o, .int .i64 j] 25)) := (Below.refl _ _).alloc (Nat.le_refl _) _
  have hc := Whole.new w 25 #[.int .i64 n, .int .i64 d, .int .i64 o, .int .i64 j]
  have zc := hc.lt
  obtain ⟨c0, c1, c2, c3, cf⟩ := k_four hc
  have HAh := Lib.hid (fun W => alive_r W)
  have HSh := Lib.hid HS
  have HRh := Lib.hid HR
  clear HS HR
  go_enter Try.func7, Try.ntmps7
  go_wp2_with fail
  refine (HAh.out _).mono ?_
  rintro e w1 ⟨rfl, b1⟩
  replace kk := k_then b1 kk
  replace hc := k_later b1 hc
  clear zc c0 c1 c2 c3 cf b1
  have zc := hc.lt
  obtain ⟨c0, c1, c2, c3, cf⟩ := k_four hc
  go_wp2_with fail
  refine (HSh.out _).mono ?_
  rintro e w2 ⟨rfl, b2⟩
  replace kk := k_then b2 kk
  replace hc := k_later b2 hc
  clear zc c0 c1 c2 c3 cf b2
  have zc := hc.lt
  obtain ⟨c0, c1, c2, c3, cf⟩ := k_four hc
  have hd := Whole.new w2 25 #[.int .i64 0, .int .i64 0, .int .i64 0, .int .i64 0]
  have kn := kk.alloc kk.size (.cells #[.int .i64 0, .int .i64 0, .int .i64 0, .int .i64 0] 25)
  have hcn := hc.alloc (.cells #[.int .i64 0, .int .i64 0, .int .i64 0, .int .i64 0] 25)
  go_wp2_with fail
  refine (HRh.out _).mono ?_
  rintro e w3 ⟨rfl, b3⟩
  replace kk := k_then b3 kn
  replace hc := k_later b3 hcn
  replace hd := k_later b3 hd
  clear zc c0 c1 c2 c3 cf b3 kn hcn
  have zc := hc.lt
  obtain ⟨c0, c1, c2, c3, cf⟩ := k_four hc
  have zd := hd.lt
  obtain ⟨d0, d1, d2, d3, df⟩ := k_four hd
  go_wp2
  go_ret
  exact ⟨rfl, kk.alloc kk.size _⟩

theorem set_back {n d o j b : Int} (h : setB n d o j b = true) : setB n d o (j + b) (-b) = true ∧ j + b + -b = j := by
  have g := h
  simp only [setB, Bool.and_eq_true, decide_eq_true_eq] at g
  have h2 := okK_yes g.1
  have h3 : okK n d o (j + b) = true := okK_mk ⟨h2.1, h2.2.1, g.2⟩
  have h4 : j + b + -b = j := by omega
  exact ⟨setB_mk ⟨h3, by omega, by omega⟩, h4⟩
theorem at_in2 {n d o j t : Int} (h : okK n d o j = true) (h1 : o ≤ t) (h2 : t ≤ 4294967296) : -4294967296 ≤ atV n d o j t ∧ atV n d o j t ≤ 12884901888 := by
  have b := at_bounds h h1 h2
  have := okK_yes h
  have := b.q1
  have := b.q2
  unfold atV
  omega
theorem at_set (n d o j b t : Int) : atV n d o (j + b) t = atV n d o j t + b := by unfold atV; omega

theorem set_walk (n d o j b t : Int) (w : World) : Calls Try.prog 7 #[.agg #[.int .i64 n, .int .i64 d, .int .i64 o, .int .i64 j], .int .i64 b, .int .i64 t] w fun e w' => e = .returned (.bool true) ∧ Below w.heap.size w w' := by
  have yes : ∀ n d o j t, okK n d o j = true → o ≤ t → t ≤ 4294967296 → ∀ W, Calls Try.prog 8 #[.agg #[.int .i64 n, .int .i64 d, .int .i64 o, .int .i64 j], .int .i64 t] W fun e w' => e = .returned (.tuple #[.int .i64 (atV n d o j t), .int .i64 0]) ∧ Below W.heap.size W w' := fun n d o j t h h1 h2 W => by
    have := reads_b n d o j t W
    rw [readB_mk h h1 h2] at this
    exact this
  have no : ∀ n d o j t, ¬ (okK n d o j = true ∧ o ≤ t ∧ t ≤ 4294967296) → ∀ W, Calls Try.prog 8 #[.agg #[.int .i64 n, .int .i64 d, .int .i64 o, .int .i64 j], .int .i64 t] W fun e w' => e = .returned (.tuple #[.int .i64 0, .int .i64 60]) ∧ Below W.heap.size W w' := fun n d o j t h W => by
    have := reads_b n d o j t W
    rw [readB_no h] at this
    exact this
  have reY : reB n d o j t = true → ∀ W, Calls Try.prog 14 #[.agg #[.int .i64 n, .int .i64 d, .int .i64 o, .int .i64 j], .int .i64 t] W fun e w' => e = .returned (.tuple #[.agg #[.int .i64 n, .int .i64 d, .int .i64 t, .int .i64 0], .int .i64 0]) ∧ Below W.heap.size W w' := fun h W => by
    have := restart_b n d o j t W
    rw [h] at this
    exact this
  have reN : reB n d o j t = false → ∀ W, Calls Try.prog 14 #[.agg #[.int .i64 n, .int .i64 d, .int .i64 o, .int .i64 j], .int .i64 t] W fun e w' => e = .returned (.tuple #[.agg #[.int .i64 0, .int .i64 0, .int .i64 0, .int .i64 0], .int .i64 60]) ∧ Below W.heap.size W w' := fun h W => by
    have := restart_b n d o j t W
    rw [h] at this
    exact this
  have re0 : reB n d o j t = true → ∀ W, Calls Try.prog 8 #[.agg #[.int .i64 n, .int .i64 d, .int .i64 t, .int .i64 0], .int .i64 t] W fun e w' => e = .returned (.tuple #[.int .i64 0, .int .i64 0]) ∧ Below W.heap.size W w' := fun h W => by
    simp only [reB, Bool.and_eq_true, Bool.not_eq_true'] at h
    have h1 := okK_yes h.1
    have h2 := outB_no h.2
    have := yes n d t 0 t (okK_mk ⟨h1.1, h2, by omega, by omega⟩) (Int.le_refl _) h2.2 W
    rw [show atV n d t 0 t = 0 by unfold atV; simp] at this
    exact this
  have HS : ∀ W, Calls Try.prog 12 #[.agg #[.int .i64 n, .int .i64 d, .int .i64 o, .int .i64 j], .int .i64 b] W fun e w' => e = .returned (setT n d o j b) ∧ Below W.heap.size W w' := fun W => set_any n d o j b W
  cases hs : setB n d o j b
  · rw [setT_no hs] at HS
    cases hr : reB n d o j t
    · exact set_none0 n d o j b t w HS (reN hr)
    · exact set_none1 n d o j b t w HS (reY hr) (re0 hr)
  · rw [setT_yes hs] at HS
    have g := hs
    simp only [setB, Bool.and_eq_true, decide_eq_true_eq] at g
    have hk := okK_yes g.1
    have hk2 : okK n d o (j + b) = true := okK_mk ⟨hk.1, hk.2.1, g.2⟩
    have H3 : ∀ W, Calls Try.prog 12 #[.agg #[.int .i64 n, .int .i64 d, .int .i64 o, .int .i64 (j + b)], .int .i64 (-b)] W fun e w' => e = .returned (.tuple #[.agg #[.int .i64 n, .int .i64 d, .int .i64 o, .int .i64 j], .int .i64 0]) ∧ Below W.heap.size W w' := fun W => by
      have := set_any n d o (j + b) (-b) W
      rw [setT_yes (set_back hs).1, (set_back hs).2] at this
      exact this
    by_cases ht : o ≤ t ∧ t ≤ 4294967296
    · have hr : reB n d o j t = true := reB_mk ⟨g.1, by omega, ht.2⟩
      have H2 := yes n d o (j + b) t hk2 ht.1 ht.2
      rw [at_set] at H2
      have hi := at_in2 g.1 ht.1 ht.2
      exact set_read1 n d o j b t _ w HS (yes n d o j t g.1 ht.1 ht.2) H2 H3 (by omega) (by omega) hi.1 hi.2 (reY hr) (re0 hr)
    · have H1 := no n d o j t (fun e => ht e.2)
      have H2 := no n d o (j + b) t (fun e => ht e.2)
      cases hr : reB n d o j t
      · exact set_dumb0 n d o j b t w HS H1 H2 H3 (by omega) (by omega) (reN hr)
      · exact set_dumb1 n d o j b t w HS H1 H2 H3 (by omega) (by omega) (reY hr) (re0 hr)

end Go.Proofs.Ytjdkndpcjjjlfaa
