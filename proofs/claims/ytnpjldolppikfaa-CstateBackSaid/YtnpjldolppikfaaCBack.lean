/- CstateBack, its walk. -/
import Derived.Test.YtnpjldolppikfaaCAlive
import Derived.Test.YtnpjldolppikfaaCForms
import Derived.Test.YtnpjldolppikfaaCBackD
namespace Go.Proofs.Ytnpjldolppikfaa
open Go.RowKit

theorem FreshE.sized {w w' : World} {l : List UInt8} {k : Int} {e : Ending} {n : Nat} (h : FreshE w l k e w') (hn : l.length = n) : ∃ (A : Option Addr) (c : Nat), e = .returned (.tuple #[.slice A n c, .int .i64 k]) ∧ Src w' A n l ∧ n ≤ c ∧ (A = none → c = 0) ∧ Below w.heap.size w w' := by
  subst hn
  obtain ⟨A, c, e1, hs, hc, hz, _, hb⟩ := h.opened
  exact ⟨A, c, e1, hs, hc, hz, hb⟩

theorem back_long (r s m : Int) (g v : Nat) (A0 : Option Addr) (n c0 : Nat) (w : World) (h : 100 < n) : Calls Try.prog 7 #[.agg #[.int .i64 r, .int .i64 s, .int .i64 m, .int .u16 (g : Int)], .int .u16 (v : Int), .slice A0 n c0] w fun e w' => e = .returned (.bool true) ∧ Below w.heap.size w w' := by
  have hb : Below w.heap.size w (w.alloc (.cells #[.int .i64 r, .int .i64 s, .int .i64 m, .int .u16 (g : Int)] 25)) := (Below.refl _ _).alloc (Nat.le_refl _) _
  have h2 : decide ((100 : Int) < (n : Int)) = true := by simp; omega
  go_enter Try.func7, Try.ntmps7
  go_wp2_with (go_at_call 29; refine (alive4_any _).mono ?_; rintro e w1 ⟨rfl, k1⟩; have hb1 := below_then k1 hb)
  go_ret
  exact ⟨rfl, hb1⟩





set_option maxRecDepth 100000 in
set_option maxHeartbeats 4000000 in
theorem back_dec_same (R S M : Nat) (g : Nat) (A0 : Option Addr) (n c0 : Nat) (l : List UInt8) (w : World) (h : n ≤ 100) (hg : g < 65536) (hs : Src w A0 n l) (hz : A0 = none → c0 = 0) (hd : decB l = true) (hR : R ≤ 2147483647) (hS : S ≤ 15) (hM : M ≤ 7) : Calls Try.prog 7 #[.agg #[.int .i64 (R : Int), .int .i64 (S : Int), .int .i64 (M : Int), .int .u16 (g : Int)], .int .u16 (g : Int), .slice A0 n c0] w fun e w' => e = .returned (.bool true) ∧ Below w.heap.size w w' := by
  have hb0 : Below w.heap.size w (w.alloc (.cells #[.int .i64 (R : Int), .int .i64 (S : Int), .int .i64 (M : Int), .int .u16 (g : Int)] 25)) := (Below.refl _ _).alloc (Nat.le_refl _) _
  have hC0 := Whole.new w 25 #[.int .i64 (R : Int), .int .i64 (S : Int), .int .i64 (M : Int), .int .u16 (g : Int)]
  have hs0 : Src (w.alloc (.cells #[.int .i64 (R : Int), .int .i64 (S : Int), .int .i64 (M : Int), .int .u16 (g : Int)] 25)) A0 n l := hs.kept ((Kept.refl Empty w).alloc _) (fun _ _ h => h)
  have d : decide ((100 : Int) < (n : Int)) = false := by simp; omega
  have D1 := fun (U : World) (A : Option Addr) (c : Nat) (h1 : Src U A n l) (h2 : A = none → c = 0) => decode_any A n c l U h1 h2 (by omega)
  obtain ⟨hb1', hb2', hb3'⟩ := dec_back hd
  have EB := fun U => encode_any (decR l : Int) (decS l : Int) (decM l : Int) (decG l) U hb3'
  rw [hb2', show encV (decR l : Int) (decS l : Int) (decM l : Int) (decG l) = l from hb1'] at EB
  clear hb1' hb2' hb3'
  unfold DecAt decT at D1
  rw [show decE l = 0 from by simp [decE, hd]] at D1
  generalize decR l = dr at *
  generalize decS l = ds at *
  generalize decM l = dm at *
  generalize decG l = dg at *
  have HEB := Lib.hid EB
  clear EB
  have E1 := fun U => encode_yes R S M g U hR hS hM hg
  have E2 := fun U => encode_yes R S M g U hR hS hM hg
  have D2 := fun (U : World) (A : Option Addr) (c : Nat) (h1 : Src U A 8 (encL R S M g)) (h2 : A = none → c = 0) => decode_any A 8 c (encL R S M g) U h1 h2 (by decide)
  unfold DecAt at D2
  rw [decT_enc hR hS hM hg] at D2
  have l1 := encL_length R S M g
  have hT := enc_take R S M g g
  generalize encL R S M g = L1 at *
  generalize hP : L1.take 6 = P at *
  have HP := Lib.hid hP
  have HT := Lib.hid hT
  have HL1 := Lib.hid l1
  have HE2 := Lib.hid E2
  have HD2 := Lib.hid D2
  clear hP hT l1  E2 D2 hR hS hM
  have HE1 := Lib.hid E1
  have HD1 := Lib.hid D1
  have HZ := Lib.hid hz
  clear E1 D1 hz hs hd 
  go_enter Try.func7, Try.ntmps7
  go_wp2_with fail
  refine (alive4_any _).mono ?_
  rintro e w1 ⟨rfl, k1⟩
  have hb1 := below_then k1 hb0
  have hC1 := whole_later k1 hC0
  have hs1 := hs0.below k1
  clear hb0 hC0 hs0 k1
  go_wp2_with fail
  refine (HD1.out _ _ _ hs1 HZ.out).mono ?_
  rintro e w2 ⟨rfl, k2⟩
  have hb2 := (below_then k2 hb1).alloc (below_then k2 hb1).size (.cells #[.int .i64 (dr : Int), .int .i64 (ds : Int), .int .i64 (dm : Int), .int .u16 (dg : Int)] 25)
  have hC2 := (whole_later k2 hC1).alloc (.cells #[.int .i64 (dr : Int), .int .i64 (ds : Int), .int .i64 (dm : Int), .int .u16 (dg : Int)] 25)
  have hs2 := (hs1.below k2).kept ((Kept.refl Empty w2).alloc (.cells #[.int .i64 (dr : Int), .int .i64 (ds : Int), .int .i64 (dm : Int), .int .u16 (dg : Int)] 25)) (fun _ _ h => h)
  have z2 : w.heap.size < w2.heap.size := (whole_later k2 hC1).lt
  clear hb1 hC1 hs1 k2
  go_wp2_with fail
  refine (HEB.out _).mono ?_
  rintro e w3 hf
  obtain ⟨Ay, cy, rfl, ys, _, _, _, k3⟩ := hf.opened
  have hb3 := below_then k3 hb2
  have hC3 := whole_later k3 hC2
  have hs3 := hs2.below k3
  have q1 := conv_src ys cy
  have q2 := conv_src hs3 c0
  clear hf hb2 hC2 hs2 ys k3 hs3
  obtain ⟨a0, a1, a2, a3, af⟩ := hC3.four
  go_wp2_with fail
  refine (HE1.out _).mono ?_
  rintro e w4 hf
  obtain ⟨Ax, cx, rfl, xs, hcx, hzx, k4⟩ := hf.sized HL1.out
  have hb4 := below_then k4 hb3
  have hC4 := whole_later k4 hC3
  have z4 := hC4.lt
  have HZX := Lib.hid hzx
  clear hf hb3 hC3 k4 hzx q1 q2 a0 a1 a2 a3 af
  obtain ⟨a0, a1, a2, a3, af⟩ := hC4.four
  have hb5 := hb4.alloc hb4.size (.cells #[.int .i64 (R : Int), .int .i64 (S : Int), .int .i64 (M : Int), .int .u16 (g : Int)] 25)
  have hC5 := hC4.alloc (.cells #[.int .i64 (R : Int), .int .i64 (S : Int), .int .i64 (M : Int), .int .u16 (g : Int)] 25)
  have xs5 := xs.kept ((Kept.refl Empty w4).alloc (.cells #[.int .i64 (R : Int), .int .i64 (S : Int), .int .i64 (M : Int), .int .u16 (g : Int)] 25)) (fun _ _ h => h)
  go_wp2_with fail
  refine (HE2.out _).mono ?_
  rintro e w6 hf
  obtain ⟨Ay2, cy2, rfl, ys2, hcy, _, k6⟩ := hf.sized HL1.out
  have hb6 := below_then k6 hb5
  have hC6 := whole_later k6 hC5
  have xs6 := xs5.below k6
  clear hf hb4 hC4 hb5 hC5 xs xs5 k6 a0 a1 a2 a3 af
  obtain ⟨a0, a1, a2, a3, af⟩ := hC6.four
  go_wp2_with fail
  refine (HD2.out _ _ _ xs6 HZX.out).mono ?_
  rintro e w7 ⟨rfl, k7⟩
  have hb7 := (below_then k7 hb6).alloc (below_then k7 hb6).size (.cells #[.int .i64 (R : Int), .int .i64 (S : Int), .int .i64 (M : Int), .int .u16 (g : Int)] 25)
  have hC7 := (whole_later k7 hC6).alloc (.cells #[.int .i64 (R : Int), .int .i64 (S : Int), .int .i64 (M : Int), .int .u16 (g : Int)] 25)
  have hU7 := Whole.new w7 25 #[.int .i64 (R : Int), .int .i64 (S : Int), .int .i64 (M : Int), .int .u16 (g : Int)]
  have xs7 := (xs6.below k7).kept ((Kept.refl Empty w7).alloc (.cells #[.int .i64 (R : Int), .int .i64 (S : Int), .int .i64 (M : Int), .int .u16 (g : Int)] 25)) (fun _ _ h => h)
  have ys7 := (ys2.below k7).kept ((Kept.refl Empty w7).alloc (.cells #[.int .i64 (R : Int), .int .i64 (S : Int), .int .i64 (M : Int), .int .u16 (g : Int)] 25)) (fun _ _ h => h)
  clear hb6 hC6 xs6 ys2 k7 a0 a1 a2 a3 af
  go_wp2_with fail
  generalize w7.heap.size = gU at *
  generalize w7.alloc (.cells #[.int .i64 (R : Int), .int .i64 (S : Int), .int .i64 (M : Int), .int .u16 (g : Int)] 25) = W at *
  obtain ⟨a0, a1, a2, a3, af⟩ := hC7.four
  obtain ⟨u0, u1, u2, u3, uf⟩ := hU7.four
  have xt := xs7.take (k := 6) (by decide)
  have yt := ys7.take (k := 6) (by decide)
  rw [HP.out] at xt
  rw [HP.out] at yt
  have i0 := fun y : Later W => y.cell a0
  have i1 := fun y : Later W => y.cell a1
  have i2 := fun y : Later W => y.cell a2
  have i3 := fun y : Later W => y.cell a3
  have j0 := fun y : Later W => y.cell u0
  have j1 := fun y : Later W => y.cell u1
  have j2 := fun y : Later W => y.cell u2
  have j3 := fun y : Later W => y.cell u3
  have q1 := fun y : Later W => y.conv xs7 cx
  have q2 := fun y : Later W => y.conv ys7 cy2
  have q3 := fun y : Later W => y.conv xt cx
  have q4 := fun y : Later W => y.conv yt cy2
  have p1 : (6 : Int) ≤ (cx : Int) := by omega
  have p2 : (6 : Int) ≤ (cy2 : Int) := by omega
  clear a0 a1 a2 a3 af u0 u1 u2 u3 uf hC7 hU7 xs7 ys7 xt yt
  refine wp_region_later (by kernel_rfl) (by kernel_rfl) ?_
  repeat (go_big_quiet_step (fail))
  refine wpQuiet_nil ?_
  intro _ hw'
  obtain ⟨q, hw''⟩ := hw'
  subst hw''
  go_wp2
  go_ret
  exact ⟨rfl, hb7.trans (q.below.mono hb7.size)⟩

set_option maxRecDepth 100000 in
set_option maxHeartbeats 4000000 in
theorem back_dec_diff (R S M : Nat) (g v : Nat) (A0 : Option Addr) (n c0 : Nat) (l : List UInt8) (w : World) (h : n ≤ 100) (hg : g < 65536) (hv : v < 65536) (hs : Src w A0 n l) (hz : A0 = none → c0 = 0) (hd : decB l = true) (hR : R ≤ 2147483647) (hS : S ≤ 15) (hM : M ≤ 7) (hne : g ≠ v) : Calls Try.prog 7 #[.agg #[.int .i64 (R : Int), .int .i64 (S : Int), .int .i64 (M : Int), .int .u16 (g : Int)], .int .u16 (v : Int), .slice A0 n c0] w fun e w' => e = .returned (.bool true) ∧ Below w.heap.size w w' := by
  have hb0 : Below w.heap.size w (w.alloc (.cells #[.int .i64 (R : Int), .int .i64 (S : Int), .int .i64 (M : Int), .int .u16 (g : Int)] 25)) := (Below.refl _ _).alloc (Nat.le_refl _) _
  have hC0 := Whole.new w 25 #[.int .i64 (R : Int), .int .i64 (S : Int), .int .i64 (M : Int), .int .u16 (g : Int)]
  have hs0 : Src (w.alloc (.cells #[.int .i64 (R : Int), .int .i64 (S : Int), .int .i64 (M : Int), .int .u16 (g : Int)] 25)) A0 n l := hs.kept ((Kept.refl Empty w).alloc _) (fun _ _ h => h)
  have d : decide ((100 : Int) < (n : Int)) = false := by simp; omega
  have D1 := fun (U : World) (A : Option Addr) (c : Nat) (h1 : Src U A n l) (h2 : A = none → c = 0) => decode_any A n c l U h1 h2 (by omega)
  obtain ⟨hb1', hb2', hb3'⟩ := dec_back hd
  have EB := fun U => encode_any (decR l : Int) (decS l : Int) (decM l : Int) (decG l) U hb3'
  rw [hb2', show encV (decR l : Int) (decS l : Int) (decM l : Int) (decG l) = l from hb1'] at EB
  clear hb1' hb2' hb3'
  unfold DecAt decT at D1
  rw [show decE l = 0 from by simp [decE, hd]] at D1
  generalize decR l = dr at *
  generalize decS l = ds at *
  generalize decM l = dm at *
  generalize decG l = dg at *
  have HEB := Lib.hid EB
  clear EB
  have E1 := fun U => encode_yes R S M g U hR hS hM hg
  have E2 := fun U => encode_yes R S M v U hR hS hM hv
  have D2 := fun (U : World) (A : Option Addr) (c : Nat) (h1 : Src U A 8 (encL R S M g)) (h2 : A = none → c = 0) => decode_any A 8 c (encL R S M g) U h1 h2 (by decide)
  unfold DecAt at D2
  rw [decT_enc hR hS hM hg] at D2
  have l1 := encL_length R S M g
  have hT := enc_take R S M g v
  have l2 := encL_length R S M v
  have hne2 : encL R S M g ≠ encL R S M v := fun e => hne (enc_inj hg hv e)
  generalize encL R S M v = L2 at *
  generalize encL R S M g = L1 at *
  have n2 : (L1 == L2) = false := by simp [hne2]
  have n3 : decide (L1 = L2) = false := decide_eq_false hne2
  have n4 : ((g : Int) == (v : Int)) = false := by
    have : ¬ (g : Int) = (v : Int) := by omega
    simp [this]
  clear hne hne2
  generalize hP : L1.take 6 = P at *
  have HP := Lib.hid hP
  have HT := Lib.hid hT
  have HL1 := Lib.hid l1
  have HL2 := Lib.hid l2
  have HE2 := Lib.hid E2
  have HD2 := Lib.hid D2
  clear hP hT l1 l2 E2 D2 hR hS hM
  have HE1 := Lib.hid E1
  have HD1 := Lib.hid D1
  have HZ := Lib.hid hz
  clear E1 D1 hz hs hd 
  go_enter Try.func7, Try.ntmps7
  go_wp2_with fail
  refine (alive4_any _).mono ?_
  rintro e w1 ⟨rfl, k1⟩
  have hb1 := below_then k1 hb0
  have hC1 := whole_later k1 hC0
  have hs1 := hs0.below k1
  clear hb0 hC0 hs0 k1
  go_wp2_with fail
  refine (HD1.out _ _ _ hs1 HZ.out).mono ?_
  rintro e w2 ⟨rfl, k2⟩
  have hb2 := (below_then k2 hb1).alloc (below_then k2 hb1).size (.cells #[.int .i64 (dr : Int), .int .i64 (ds : Int), .int .i64 (dm : Int), .int .u16 (dg : Int)] 25)
  have hC2 := (whole_later k2 hC1).alloc (.cells #[.int .i64 (dr : Int), .int .i64 (ds : Int), .int .i64 (dm : Int), .int .u16 (dg : Int)] 25)
  have hs2 := (hs1.below k2).kept ((Kept.refl Empty w2).alloc (.cells #[.int .i64 (dr : Int), .int .i64 (ds : Int), .int .i64 (dm : Int), .int .u16 (dg : Int)] 25)) (fun _ _ h => h)
  have z2 : w.heap.size < w2.heap.size := (whole_later k2 hC1).lt
  clear hb1 hC1 hs1 k2
  go_wp2_with fail
  refine (HEB.out _).mono ?_
  rintro e w3 hf
  obtain ⟨Ay, cy, rfl, ys, _, _, _, k3⟩ := hf.opened
  have hb3 := below_then k3 hb2
  have hC3 := whole_later k3 hC2
  have hs3 := hs2.below k3
  have q1 := conv_src ys cy
  have q2 := conv_src hs3 c0
  clear hf hb2 hC2 hs2 ys k3 hs3
  obtain ⟨a0, a1, a2, a3, af⟩ := hC3.four
  go_wp2_with fail
  refine (HE1.out _).mono ?_
  rintro e w4 hf
  obtain ⟨Ax, cx, rfl, xs, hcx, hzx, k4⟩ := hf.sized HL1.out
  have hb4 := below_then k4 hb3
  have hC4 := whole_later k4 hC3
  have z4 := hC4.lt
  have HZX := Lib.hid hzx
  clear hf hb3 hC3 k4 hzx q1 q2 a0 a1 a2 a3 af
  obtain ⟨a0, a1, a2, a3, af⟩ := hC4.four
  have hb5 := hb4.alloc hb4.size (.cells #[.int .i64 (R : Int), .int .i64 (S : Int), .int .i64 (M : Int), .int .u16 (v : Int)] 25)
  have hC5 := hC4.alloc (.cells #[.int .i64 (R : Int), .int .i64 (S : Int), .int .i64 (M : Int), .int .u16 (v : Int)] 25)
  have xs5 := xs.kept ((Kept.refl Empty w4).alloc (.cells #[.int .i64 (R : Int), .int .i64 (S : Int), .int .i64 (M : Int), .int .u16 (v : Int)] 25)) (fun _ _ h => h)
  go_wp2_with fail
  refine (HE2.out _).mono ?_
  rintro e w6 hf
  obtain ⟨Ay2, cy2, rfl, ys2, hcy, _, k6⟩ := hf.sized HL2.out
  have hb6 := below_then k6 hb5
  have hC6 := whole_later k6 hC5
  have xs6 := xs5.below k6
  clear hf hb4 hC4 hb5 hC5 xs xs5 k6 a0 a1 a2 a3 af
  obtain ⟨a0, a1, a2, a3, af⟩ := hC6.four
  go_wp2_with fail
  refine (HD2.out _ _ _ xs6 HZX.out).mono ?_
  rintro e w7 ⟨rfl, k7⟩
  have hb7 := (below_then k7 hb6).alloc (below_then k7 hb6).size (.cells #[.int .i64 (R : Int), .int .i64 (S : Int), .int .i64 (M : Int), .int .u16 (g : Int)] 25)
  have hC7 := (whole_later k7 hC6).alloc (.cells #[.int .i64 (R : Int), .int .i64 (S : Int), .int .i64 (M : Int), .int .u16 (g : Int)] 25)
  have hU7 := Whole.new w7 25 #[.int .i64 (R : Int), .int .i64 (S : Int), .int .i64 (M : Int), .int .u16 (g : Int)]
  have xs7 := (xs6.below k7).kept ((Kept.refl Empty w7).alloc (.cells #[.int .i64 (R : Int), .int .i64 (S : Int), .int .i64 (M : Int), .int .u16 (g : Int)] 25)) (fun _ _ h => h)
  have ys7 := (ys2.below k7).kept ((Kept.refl Empty w7).alloc (.cells #[.int .i64 (R : Int), .int .i64 (S : Int), .int .i64 (M : Int), .int .u16 (g : Int)] 25)) (fun _ _ h => h)
  clear hb6 hC6 xs6 ys2 k7 a0 a1 a2 a3 af
  go_wp2_with fail
  generalize w7.heap.size = gU at *
  generalize w7.alloc (.cells #[.int .i64 (R : Int), .int .i64 (S : Int), .int .i64 (M : Int), .int .u16 (g : Int)] 25) = W at *
  obtain ⟨a0, a1, a2, a3, af⟩ := hC7.four
  obtain ⟨u0, u1, u2, u3, uf⟩ := hU7.four
  have xt := xs7.take (k := 6) (by decide)
  have yt := ys7.take (k := 6) (by decide)
  rw [HP.out] at xt
  rw [← HT.out] at yt
  have i0 := fun y : Later W => y.cell a0
  have i1 := fun y : Later W => y.cell a1
  have i2 := fun y : Later W => y.cell a2
  have i3 := fun y : Later W => y.cell a3
  have j0 := fun y : Later W => y.cell u0
  have j1 := fun y : Later W => y.cell u1
  have j2 := fun y : Later W => y.cell u2
  have j3 := fun y : Later W => y.cell u3
  have q1 := fun y : Later W => y.conv xs7 cx
  have q2 := fun y : Later W => y.conv ys7 cy2
  have q3 := fun y : Later W => y.conv xt cx
  have q4 := fun y : Later W => y.conv yt cy2
  have p1 : (6 : Int) ≤ (cx : Int) := by omega
  have p2 : (6 : Int) ≤ (cy2 : Int) := by omega
  clear a0 a1 a2 a3 af u0 u1 u2 u3 uf hC7 hU7 xs7 ys7 xt yt
  refine wp_region_later (by kernel_rfl) (by kernel_rfl) ?_
  repeat (go_big_quiet_step (fail))
  refine wpQuiet_nil ?_
  intro _ hw'
  obtain ⟨q, hw''⟩ := hw'
  subst hw''
  go_wp2
  go_ret
  exact ⟨rfl, hb7.trans (q.below.mono hb7.size)⟩

set_option maxRecDepth 100000 in
set_option maxHeartbeats 4000000 in
theorem back_dec_no (r s m : Int) (g v : Nat) (A0 : Option Addr) (n c0 : Nat) (l : List UInt8) (w : World) (h : n ≤ 100) (hg : g < 65536) (hs : Src w A0 n l) (hz : A0 = none → c0 = 0) (hd : decB l = true) (hk : okC r s m = false) : Calls Try.prog 7 #[.agg #[.int .i64 r, .int .i64 s, .int .i64 m, .int .u16 (g : Int)], .int .u16 (v : Int), .slice A0 n c0] w fun e w' => e = .returned (.bool true) ∧ Below w.heap.size w w' := by
  have hb0 : Below w.heap.size w (w.alloc (.cells #[.int .i64 r, .int .i64 s, .int .i64 m, .int .u16 (g : Int)] 25)) := (Below.refl _ _).alloc (Nat.le_refl _) _
  have hC0 := Whole.new w 25 #[.int .i64 r, .int .i64 s, .int .i64 m, .int .u16 (g : Int)]
  have hs0 : Src (w.alloc (.cells #[.int .i64 r, .int .i64 s, .int .i64 m, .int .u16 (g : Int)] 25)) A0 n l := hs.kept ((Kept.refl Empty w).alloc _) (fun _ _ h => h)
  have d : decide ((100 : Int) < (n : Int)) = false := by simp; omega
  have D1 := fun (U : World) (A : Option Addr) (c : Nat) (h1 : Src U A n l) (h2 : A = none → c = 0) => decode_any A n c l U h1 h2 (by omega)
  obtain ⟨hb1', hb2', hb3'⟩ := dec_back hd
  have EB := fun U => encode_any (decR l : Int) (decS l : Int) (decM l : Int) (decG l) U hb3'
  rw [hb2', show encV (decR l : Int) (decS l : Int) (decM l : Int) (decG l) = l from hb1'] at EB
  clear hb1' hb2' hb3'
  unfold DecAt decT at D1
  rw [show decE l = 0 from by simp [decE, hd]] at D1
  generalize decR l = dr at *
  generalize decS l = ds at *
  generalize decM l = dm at *
  generalize decG l = dg at *
  have HEB := Lib.hid EB
  clear EB
  have E1 := fun U => encode_any r s m g U hg
  rw [show chkC r s m = 40 from chk_not hk, show encV r s m g = [] from by simp [encV, hk]] at E1
  have HE1 := Lib.hid E1
  have HD1 := Lib.hid D1
  have HZ := Lib.hid hz
  clear E1 D1 hz hs hd hk
  go_enter Try.func7, Try.ntmps7
  go_wp2_with fail
  refine (alive4_any _).mono ?_
  rintro e w1 ⟨rfl, k1⟩
  have hb1 := below_then k1 hb0
  have hC1 := whole_later k1 hC0
  have hs1 := hs0.below k1
  clear hb0 hC0 hs0 k1
  go_wp2_with fail
  refine (HD1.out _ _ _ hs1 HZ.out).mono ?_
  rintro e w2 ⟨rfl, k2⟩
  have hb2 := (below_then k2 hb1).alloc (below_then k2 hb1).size (.cells #[.int .i64 (dr : Int), .int .i64 (ds : Int), .int .i64 (dm : Int), .int .u16 (dg : Int)] 25)
  have hC2 := (whole_later k2 hC1).alloc (.cells #[.int .i64 (dr : Int), .int .i64 (ds : Int), .int .i64 (dm : Int), .int .u16 (dg : Int)] 25)
  have hs2 := (hs1.below k2).kept ((Kept.refl Empty w2).alloc (.cells #[.int .i64 (dr : Int), .int .i64 (ds : Int), .int .i64 (dm : Int), .int .u16 (dg : Int)] 25)) (fun _ _ h => h)
  have z2 : w.heap.size < w2.heap.size := (whole_later k2 hC1).lt
  clear hb1 hC1 hs1 k2
  go_wp2_with fail
  refine (HEB.out _).mono ?_
  rintro e w3 hf
  obtain ⟨Ay, cy, rfl, ys, _, _, _, k3⟩ := hf.opened
  have hb3 := below_then k3 hb2
  have hC3 := whole_later k3 hC2
  have hs3 := hs2.below k3
  have q1 := conv_src ys cy
  have q2 := conv_src hs3 c0
  clear hf hb2 hC2 hs2 ys k3 hs3
  obtain ⟨a0, a1, a2, a3, af⟩ := hC3.four
  go_wp2_with fail
  refine (HE1.out _).mono ?_
  rintro e w4 hf
  obtain ⟨Ax, cx, rfl, _, _, _, _, k4⟩ := hf.opened
  have hb4 := below_then k4 hb3
  go_wp2
  go_ret
  exact ⟨rfl, hb4⟩

set_option maxRecDepth 100000 in
set_option maxHeartbeats 4000000 in
theorem back_not_same (R S M : Nat) (g : Nat) (A0 : Option Addr) (n c0 : Nat) (l : List UInt8) (w : World) (h : n ≤ 100) (hg : g < 65536) (hs : Src w A0 n l) (hz : A0 = none → c0 = 0) (hd : decB l = false) (hR : R ≤ 2147483647) (hS : S ≤ 15) (hM : M ≤ 7) : Calls Try.prog 7 #[.agg #[.int .i64 (R : Int), .int .i64 (S : Int), .int .i64 (M : Int), .int .u16 (g : Int)], .int .u16 (g : Int), .slice A0 n c0] w fun e w' => e = .returned (.bool true) ∧ Below w.heap.size w w' := by
  have hb0 : Below w.heap.size w (w.alloc (.cells #[.int .i64 (R : Int), .int .i64 (S : Int), .int .i64 (M : Int), .int .u16 (g : Int)] 25)) := (Below.refl _ _).alloc (Nat.le_refl _) _
  have hC0 := Whole.new w 25 #[.int .i64 (R : Int), .int .i64 (S : Int), .int .i64 (M : Int), .int .u16 (g : Int)]
  have hs0 : Src (w.alloc (.cells #[.int .i64 (R : Int), .int .i64 (S : Int), .int .i64 (M : Int), .int .u16 (g : Int)] 25)) A0 n l := hs.kept ((Kept.refl Empty w).alloc _) (fun _ _ h => h)
  have d : decide ((100 : Int) < (n : Int)) = false := by simp; omega
  have D1 := fun (U : World) (A : Option Addr) (c : Nat) (h1 : Src U A n l) (h2 : A = none → c = 0) => decode_any A n c l U h1 h2 (by omega)
  unfold DecAt at D1
  rw [decT_no hd] at D1
  have E1 := fun U => encode_yes R S M g U hR hS hM hg
  have E2 := fun U => encode_yes R S M g U hR hS hM hg
  have D2 := fun (U : World) (A : Option Addr) (c : Nat) (h1 : Src U A 8 (encL R S M g)) (h2 : A = none → c = 0) => decode_any A 8 c (encL R S M g) U h1 h2 (by decide)
  unfold DecAt at D2
  rw [decT_enc hR hS hM hg] at D2
  have l1 := encL_length R S M g
  have hT := enc_take R S M g g
  generalize encL R S M g = L1 at *
  generalize hP : L1.take 6 = P at *
  have HP := Lib.hid hP
  have HT := Lib.hid hT
  have HL1 := Lib.hid l1
  have HE2 := Lib.hid E2
  have HD2 := Lib.hid D2
  clear hP hT l1  E2 D2 hR hS hM
  have HE1 := Lib.hid E1
  have HD1 := Lib.hid D1
  have HZ := Lib.hid hz
  clear E1 D1 hz hs hd 
  go_enter Try.func7, Try.ntmps7
  go_wp2_with fail
  refine (alive4_any _).mono ?_
  rintro e w1 ⟨rfl, k1⟩
  have hb1 := below_then k1 hb0
  have hC1 := whole_later k1 hC0
  have hs1 := hs0.below k1
  clear hb0 hC0 hs0 k1
  go_wp2_with fail
  refine (HD1.out _ _ _ hs1 HZ.out).mono ?_
  rintro e w2 ⟨rfl, k2⟩
  have hb2 := (below_then k2 hb1).alloc (below_then k2 hb1).size (.cells #[.int .i64 0, .int .i64 0, .int .i64 0, .int .u16 0] 25)
  have hC2 := (whole_later k2 hC1).alloc (.cells #[.int .i64 0, .int .i64 0, .int .i64 0, .int .u16 0] 25)
  have z2 : w.heap.size < w2.heap.size := (whole_later k2 hC1).lt
  obtain ⟨a0, a1, a2, a3, af⟩ := (whole_later k2 hC1).four
  clear hb1 hC1 hs1 k2
  have hb3 := hb2
  have hC3 := hC2
  clear hb2 hC2
  go_wp2_with fail
  refine (HE1.out _).mono ?_
  rintro e w4 hf
  obtain ⟨Ax, cx, rfl, xs, hcx, hzx, k4⟩ := hf.sized HL1.out
  have hb4 := below_then k4 hb3
  have hC4 := whole_later k4 hC3
  have z4 := hC4.lt
  have HZX := Lib.hid hzx
  clear hf hb3 hC3 k4 hzx  a0 a1 a2 a3 af
  obtain ⟨a0, a1, a2, a3, af⟩ := hC4.four
  have hb5 := hb4.alloc hb4.size (.cells #[.int .i64 (R : Int), .int .i64 (S : Int), .int .i64 (M : Int), .int .u16 (g : Int)] 25)
  have hC5 := hC4.alloc (.cells #[.int .i64 (R : Int), .int .i64 (S : Int), .int .i64 (M : Int), .int .u16 (g : Int)] 25)
  have xs5 := xs.kept ((Kept.refl Empty w4).alloc (.cells #[.int .i64 (R : Int), .int .i64 (S : Int), .int .i64 (M : Int), .int .u16 (g : Int)] 25)) (fun _ _ h => h)
  go_wp2_with fail
  refine (HE2.out _).mono ?_
  rintro e w6 hf
  obtain ⟨Ay2, cy2, rfl, ys2, hcy, _, k6⟩ := hf.sized HL1.out
  have hb6 := below_then k6 hb5
  have hC6 := whole_later k6 hC5
  have xs6 := xs5.below k6
  clear hf hb4 hC4 hb5 hC5 xs xs5 k6 a0 a1 a2 a3 af
  obtain ⟨a0, a1, a2, a3, af⟩ := hC6.four
  go_wp2_with fail
  refine (HD2.out _ _ _ xs6 HZX.out).mono ?_
  rintro e w7 ⟨rfl, k7⟩
  have hb7 := (below_then k7 hb6).alloc (below_then k7 hb6).size (.cells #[.int .i64 (R : Int), .int .i64 (S : Int), .int .i64 (M : Int), .int .u16 (g : Int)] 25)
  have hC7 := (whole_later k7 hC6).alloc (.cells #[.int .i64 (R : Int), .int .i64 (S : Int), .int .i64 (M : Int), .int .u16 (g : Int)] 25)
  have hU7 := Whole.new w7 25 #[.int .i64 (R : Int), .int .i64 (S : Int), .int .i64 (M : Int), .int .u16 (g : Int)]
  have xs7 := (xs6.below k7).kept ((Kept.refl Empty w7).alloc (.cells #[.int .i64 (R : Int), .int .i64 (S : Int), .int .i64 (M : Int), .int .u16 (g : Int)] 25)) (fun _ _ h => h)
  have ys7 := (ys2.below k7).kept ((Kept.refl Empty w7).alloc (.cells #[.int .i64 (R : Int), .int .i64 (S : Int), .int .i64 (M : Int), .int .u16 (g : Int)] 25)) (fun _ _ h => h)
  clear hb6 hC6 xs6 ys2 k7 a0 a1 a2 a3 af
  go_wp2_with fail
  generalize w7.heap.size = gU at *
  generalize w7.alloc (.cells #[.int .i64 (R : Int), .int .i64 (S : Int), .int .i64 (M : Int), .int .u16 (g : Int)] 25) = W at *
  obtain ⟨a0, a1, a2, a3, af⟩ := hC7.four
  obtain ⟨u0, u1, u2, u3, uf⟩ := hU7.four
  have xt := xs7.take (k := 6) (by decide)
  have yt := ys7.take (k := 6) (by decide)
  rw [HP.out] at xt
  rw [HP.out] at yt
  have i0 := fun y : Later W => y.cell a0
  have i1 := fun y : Later W => y.cell a1
  have i2 := fun y : Later W => y.cell a2
  have i3 := fun y : Later W => y.cell a3
  have j0 := fun y : Later W => y.cell u0
  have j1 := fun y : Later W => y.cell u1
  have j2 := fun y : Later W => y.cell u2
  have j3 := fun y : Later W => y.cell u3
  have q1 := fun y : Later W => y.conv xs7 cx
  have q2 := fun y : Later W => y.conv ys7 cy2
  have q3 := fun y : Later W => y.conv xt cx
  have q4 := fun y : Later W => y.conv yt cy2
  have p1 : (6 : Int) ≤ (cx : Int) := by omega
  have p2 : (6 : Int) ≤ (cy2 : Int) := by omega
  clear a0 a1 a2 a3 af u0 u1 u2 u3 uf hC7 hU7 xs7 ys7 xt yt
  refine wp_region_later (by kernel_rfl) (by kernel_rfl) ?_
  repeat (go_big_quiet_step (fail))
  refine wpQuiet_nil ?_
  intro _ hw'
  obtain ⟨q, hw''⟩ := hw'
  subst hw''
  go_wp2
  go_ret
  exact ⟨rfl, hb7.trans (q.below.mono hb7.size)⟩

set_option maxRecDepth 100000 in
set_option maxHeartbeats 4000000 in
theorem back_not_diff (R S M : Nat) (g v : Nat) (A0 : Option Addr) (n c0 : Nat) (l : List UInt8) (w : World) (h : n ≤ 100) (hg : g < 65536) (hv : v < 65536) (hs : Src w A0 n l) (hz : A0 = none → c0 = 0) (hd : decB l = false) (hR : R ≤ 2147483647) (hS : S ≤ 15) (hM : M ≤ 7) (hne : g ≠ v) : Calls Try.prog 7 #[.agg #[.int .i64 (R : Int), .int .i64 (S : Int), .int .i64 (M : Int), .int .u16 (g : Int)], .int .u16 (v : Int), .slice A0 n c0] w fun e w' => e = .returned (.bool true) ∧ Below w.heap.size w w' := by
  have hb0 : Below w.heap.size w (w.alloc (.cells #[.int .i64 (R : Int), .int .i64 (S : Int), .int .i64 (M : Int), .int .u16 (g : Int)] 25)) := (Below.refl _ _).alloc (Nat.le_refl _) _
  have hC0 := Whole.new w 25 #[.int .i64 (R : Int), .int .i64 (S : Int), .int .i64 (M : Int), .int .u16 (g : Int)]
  have hs0 : Src (w.alloc (.cells #[.int .i64 (R : Int), .int .i64 (S : Int), .int .i64 (M : Int), .int .u16 (g : Int)] 25)) A0 n l := hs.kept ((Kept.refl Empty w).alloc _) (fun _ _ h => h)
  have d : decide ((100 : Int) < (n : Int)) = false := by simp; omega
  have D1 := fun (U : World) (A : Option Addr) (c : Nat) (h1 : Src U A n l) (h2 : A = none → c = 0) => decode_any A n c l U h1 h2 (by omega)
  unfold DecAt at D1
  rw [decT_no hd] at D1
  have E1 := fun U => encode_yes R S M g U hR hS hM hg
  have E2 := fun U => encode_yes R S M v U hR hS hM hv
  have D2 := fun (U : World) (A : Option Addr) (c : Nat) (h1 : Src U A 8 (encL R S M g)) (h2 : A = none → c = 0) => decode_any A 8 c (encL R S M g) U h1 h2 (by decide)
  unfold DecAt at D2
  rw [decT_enc hR hS hM hg] at D2
  have l1 := encL_length R S M g
  have hT := enc_take R S M g v
  have l2 := encL_length R S M v
  have hne2 : encL R S M g ≠ encL R S M v := fun e => hne (enc_inj hg hv e)
  generalize encL R S M v = L2 at *
  generalize encL R S M g = L1 at *
  have n2 : (L1 == L2) = false := by simp [hne2]
  have n3 : decide (L1 = L2) = false := decide_eq_false hne2
  have n4 : ((g : Int) == (v : Int)) = false := by
    have : ¬ (g : Int) = (v : Int) := by omega
    simp [this]
  clear hne hne2
  generalize hP : L1.take 6 = P at *
  have HP := Lib.hid hP
  have HT := Lib.hid hT
  have HL1 := Lib.hid l1
  have HL2 := Lib.hid l2
  have HE2 := Lib.hid E2
  have HD2 := Lib.hid D2
  clear hP hT l1 l2 E2 D2 hR hS hM
  have HE1 := Lib.hid E1
  have HD1 := Lib.hid D1
  have HZ := Lib.hid hz
  clear E1 D1 hz hs hd 
  go_enter Try.func7, Try.ntmps7
  go_wp2_with fail
  refine (alive4_any _).mono ?_
  rintro e w1 ⟨rfl, k1⟩
  have hb1 := below_then k1 hb0
  have hC1 := whole_later k1 hC0
  have hs1 := hs0.below k1
  clear hb0 hC0 hs0 k1
  go_wp2_with fail
  refine (HD1.out _ _ _ hs1 HZ.out).mono ?_
  rintro e w2 ⟨rfl, k2⟩
  have hb2 := (below_then k2 hb1).alloc (below_then k2 hb1).size (.cells #[.int .i64 0, .int .i64 0, .int .i64 0, .int .u16 0] 25)
  have hC2 := (whole_later k2 hC1).alloc (.cells #[.int .i64 0, .int .i64 0, .int .i64 0, .int .u16 0] 25)
  have z2 : w.heap.size < w2.heap.size := (whole_later k2 hC1).lt
  obtain ⟨a0, a1, a2, a3, af⟩ := (whole_later k2 hC1).four
  clear hb1 hC1 hs1 k2
  have hb3 := hb2
  have hC3 := hC2
  clear hb2 hC2
  go_wp2_with fail
  refine (HE1.out _).mono ?_
  rintro e w4 hf
  obtain ⟨Ax, cx, rfl, xs, hcx, hzx, k4⟩ := hf.sized HL1.out
  have hb4 := below_then k4 hb3
  have hC4 := whole_later k4 hC3
  have z4 := hC4.lt
  have HZX := Lib.hid hzx
  clear hf hb3 hC3 k4 hzx  a0 a1 a2 a3 af
  obtain ⟨a0, a1, a2, a3, af⟩ := hC4.four
  have hb5 := hb4.alloc hb4.size (.cells #[.int .i64 (R : Int), .int .i64 (S : Int), .int .i64 (M : Int), .int .u16 (v : Int)] 25)
  have hC5 := hC4.alloc (.cells #[.int .i64 (R : Int), .int .i64 (S : Int), .int .i64 (M : Int), .int .u16 (v : Int)] 25)
  have xs5 := xs.kept ((Kept.refl Empty w4).alloc (.cells #[.int .i64 (R : Int), .int .i64 (S : Int), .int .i64 (M : Int), .int .u16 (v : Int)] 25)) (fun _ _ h => h)
  go_wp2_with fail
  refine (HE2.out _).mono ?_
  rintro e w6 hf
  obtain ⟨Ay2, cy2, rfl, ys2, hcy, _, k6⟩ := hf.sized HL2.out
  have hb6 := below_then k6 hb5
  have hC6 := whole_later k6 hC5
  have xs6 := xs5.below k6
  clear hf hb4 hC4 hb5 hC5 xs xs5 k6 a0 a1 a2 a3 af
  obtain ⟨a0, a1, a2, a3, af⟩ := hC6.four
  go_wp2_with fail
  refine (HD2.out _ _ _ xs6 HZX.out).mono ?_
  rintro e w7 ⟨rfl, k7⟩
  have hb7 := (below_then k7 hb6).alloc (below_then k7 hb6).size (.cells #[.int .i64 (R : Int), .int .i64 (S : Int), .int .i64 (M : Int), .int .u16 (g : Int)] 25)
  have hC7 := (whole_later k7 hC6).alloc (.cells #[.int .i64 (R : Int), .int .i64 (S : Int), .int .i64 (M : Int), .int .u16 (g : Int)] 25)
  have hU7 := Whole.new w7 25 #[.int .i64 (R : Int), .int .i64 (S : Int), .int .i64 (M : Int), .int .u16 (g : Int)]
  have xs7 := (xs6.below k7).kept ((Kept.refl Empty w7).alloc (.cells #[.int .i64 (R : Int), .int .i64 (S : Int), .int .i64 (M : Int), .int .u16 (g : Int)] 25)) (fun _ _ h => h)
  have ys7 := (ys2.below k7).kept ((Kept.refl Empty w7).alloc (.cells #[.int .i64 (R : Int), .int .i64 (S : Int), .int .i64 (M : Int), .int .u16 (g : Int)] 25)) (fun _ _ h => h)
  clear hb6 hC6 xs6 ys2 k7 a0 a1 a2 a3 af
  go_wp2_with fail
  generalize w7.heap.size = gU at *
  generalize w7.alloc (.cells #[.int .i64 (R : Int), .int .i64 (S : Int), .int .i64 (M : Int), .int .u16 (g : Int)] 25) = W at *
  obtain ⟨a0, a1, a2, a3, af⟩ := hC7.four
  obtain ⟨u0, u1, u2, u3, uf⟩ := hU7.four
  have xt := xs7.take (k := 6) (by decide)
  have yt := ys7.take (k := 6) (by decide)
  rw [HP.out] at xt
  rw [← HT.out] at yt
  have i0 := fun y : Later W => y.cell a0
  have i1 := fun y : Later W => y.cell a1
  have i2 := fun y : Later W => y.cell a2
  have i3 := fun y : Later W => y.cell a3
  have j0 := fun y : Later W => y.cell u0
  have j1 := fun y : Later W => y.cell u1
  have j2 := fun y : Later W => y.cell u2
  have j3 := fun y : Later W => y.cell u3
  have q1 := fun y : Later W => y.conv xs7 cx
  have q2 := fun y : Later W => y.conv ys7 cy2
  have q3 := fun y : Later W => y.conv xt cx
  have q4 := fun y : Later W => y.conv yt cy2
  have p1 : (6 : Int) ≤ (cx : Int) := by omega
  have p2 : (6 : Int) ≤ (cy2 : Int) := by omega
  clear a0 a1 a2 a3 af u0 u1 u2 u3 uf hC7 hU7 xs7 ys7 xt yt
  refine wp_region_later (by kernel_rfl) (by kernel_rfl) ?_
  repeat (go_big_quiet_step (fail))
  refine wpQuiet_nil ?_
  intro _ hw'
  obtain ⟨q, hw''⟩ := hw'
  subst hw''
  go_wp2
  go_ret
  exact ⟨rfl, hb7.trans (q.below.mono hb7.size)⟩

set_option maxRecDepth 100000 in
set_option maxHeartbeats 4000000 in
theorem back_not_no (r s m : Int) (g v : Nat) (A0 : Option Addr) (n c0 : Nat) (l : List UInt8) (w : World) (h : n ≤ 100) (hg : g < 65536) (hs : Src w A0 n l) (hz : A0 = none → c0 = 0) (hd : decB l = false) (hk : okC r s m = false) : Calls Try.prog 7 #[.agg #[.int .i64 r, .int .i64 s, .int .i64 m, .int .u16 (g : Int)], .int .u16 (v : Int), .slice A0 n c0] w fun e w' => e = .returned (.bool true) ∧ Below w.heap.size w w' := by
  have hb0 : Below w.heap.size w (w.alloc (.cells #[.int .i64 r, .int .i64 s, .int .i64 m, .int .u16 (g : Int)] 25)) := (Below.refl _ _).alloc (Nat.le_refl _) _
  have hC0 := Whole.new w 25 #[.int .i64 r, .int .i64 s, .int .i64 m, .int .u16 (g : Int)]
  have hs0 : Src (w.alloc (.cells #[.int .i64 r, .int .i64 s, .int .i64 m, .int .u16 (g : Int)] 25)) A0 n l := hs.kept ((Kept.refl Empty w).alloc _) (fun _ _ h => h)
  have d : decide ((100 : Int) < (n : Int)) = false := by simp; omega
  have D1 := fun (U : World) (A : Option Addr) (c : Nat) (h1 : Src U A n l) (h2 : A = none → c = 0) => decode_any A n c l U h1 h2 (by omega)
  unfold DecAt at D1
  rw [decT_no hd] at D1
  have E1 := fun U => encode_any r s m g U hg
  rw [show chkC r s m = 40 from chk_not hk, show encV r s m g = [] from by simp [encV, hk]] at E1
  have HE1 := Lib.hid E1
  have HD1 := Lib.hid D1
  have HZ := Lib.hid hz
  clear E1 D1 hz hs hd hk
  go_enter Try.func7, Try.ntmps7
  go_wp2_with fail
  refine (alive4_any _).mono ?_
  rintro e w1 ⟨rfl, k1⟩
  have hb1 := below_then k1 hb0
  have hC1 := whole_later k1 hC0
  have hs1 := hs0.below k1
  clear hb0 hC0 hs0 k1
  go_wp2_with fail
  refine (HD1.out _ _ _ hs1 HZ.out).mono ?_
  rintro e w2 ⟨rfl, k2⟩
  have hb2 := (below_then k2 hb1).alloc (below_then k2 hb1).size (.cells #[.int .i64 0, .int .i64 0, .int .i64 0, .int .u16 0] 25)
  have hC2 := (whole_later k2 hC1).alloc (.cells #[.int .i64 0, .int .i64 0, .int .i64 0, .int .u16 0] 25)
  have z2 : w.heap.size < w2.heap.size := (whole_later k2 hC1).lt
  obtain ⟨a0, a1, a2, a3, af⟩ := (whole_later k2 hC1).four
  clear hb1 hC1 hs1 k2
  have hb3 := hb2
  have hC3 := hC2
  clear hb2 hC2
  go_wp2_with fail
  refine (HE1.out _).mono ?_
  rintro e w4 hf
  obtain ⟨Ax, cx, rfl, _, _, _, _, k4⟩ := hf.opened
  have hb4 := below_then k4 hb3
  go_wp2
  go_ret
  exact ⟨rfl, hb4⟩

theorem back_walk (r s m : Int) (g v : Nat) (A0 : Option Addr) (n c0 : Nat) (l : List UInt8) (w : World) (hg : g < 65536) (hv : v < 65536) (hs : Src w A0 n l) (hz : A0 = none → c0 = 0) : Calls Try.prog 7 #[.agg #[.int .i64 r, .int .i64 s, .int .i64 m, .int .u16 (g : Int)], .int .u16 (v : Int), .slice A0 n c0] w fun e w' => e = .returned (.bool true) ∧ Below w.heap.size w w' := by
  by_cases h : 100 < n
  · exact back_long r s m g v A0 n c0 w h
  · cases hk : okC r s m
    · cases hd : decB l
      · exact back_not_no r s m g v A0 n c0 l w (by omega) hg hs hz hd hk
      · exact back_dec_no r s m g v A0 n c0 l w (by omega) hg hs hz hd hk
    · obtain ⟨⟨r1, r2⟩, ⟨s1, s2⟩, ⟨m1, m2⟩⟩ := okC_yes hk
      obtain ⟨R, rfl⟩ := Int.eq_ofNat_of_zero_le r1
      obtain ⟨S, rfl⟩ := Int.eq_ofNat_of_zero_le s1
      obtain ⟨M, rfl⟩ := Int.eq_ofNat_of_zero_le m1
      by_cases e : g = v
      · subst e
        cases hd : decB l
        · exact back_not_same R S M g A0 n c0 l w (by omega) hg hs hz hd (by omega) (by omega) (by omega)
        · exact back_dec_same R S M g A0 n c0 l w (by omega) hg hs hz hd (by omega) (by omega) (by omega)
      · cases hd : decB l
        · exact back_not_diff R S M g v A0 n c0 l w (by omega) hg hv hs hz hd (by omega) (by omega) (by omega) e
        · exact back_dec_diff R S M g v A0 n c0 l w (by omega) hg hv hs hz hd (by omega) (by omega) (by omega) e

end Go.Proofs.Ytnpjldolppikfaa
