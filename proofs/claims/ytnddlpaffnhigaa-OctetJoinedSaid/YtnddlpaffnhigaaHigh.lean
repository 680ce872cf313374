/- OctetHigh, its walk. -/
import Derived.Test.YtnddlpaffnhigaaAlive
import Derived.Test.YtnddlpaffnhigaaBytes
import Derived.Deep.RegionWith
import Derived.Deep.DeepCutAuto
namespace Go.Proofs.Ytnddlpaffnhigaa
open Go.RowKit

theorem isW_cases {k : Nat} (h : isW k = true) : k = 1 ∨ k = 2 ∨ k = 4 ∨ k = 8 := by
  simp [isW] at h
  omega

def Width8 (w : World) (s8 : Value) (wx : World) : Prop := ∃ k : Nat, isW k = true ∧ s8 = .int .i64 (k : Int) ∧ Below w.heap.size w wx
def TwoNums (w : World) (k : Nat) (s0 s1 : Value) (wx : World) : Prop := ∃ x y : Nat, x < 2 ^ (8 * k) ∧ y < 2 ^ (8 * k) ∧ s0 = .int .u64 (x : Int) ∧ s1 = .int .u64 (y : Int) ∧ Below w.heap.size w wx

abbrev zeroOut : Obj := .cells #[.pointer none, .int .i64 0, .bool false] 26

theorem three_outs (w : World) : OutAt (((w.alloc zeroOut).alloc zeroOut).alloc zeroOut) (fun k => k = w.heap.size) w.heap.size (some []) ∧
    OutAt (((w.alloc zeroOut).alloc zeroOut).alloc zeroOut) (fun k => k = w.heap.size + 1) (w.heap.size + 1) (some []) ∧ OutAt (((w.alloc zeroOut).alloc zeroOut).alloc zeroOut) (fun k => k = w.heap.size + 1 + 1) (w.heap.size + 1 + 1) (some []) := by
  have h1 := OutAt.new w
  have h2 := OutAt.new (w.alloc zeroOut)
  have h3 := OutAt.new ((w.alloc zeroOut).alloc zeroOut)
  simp only [World.size_alloc] at h2 h3
  exact ⟨h1.keep (((Kept.refl Empty _).alloc zeroOut).alloc zeroOut) (fun _ _ h => h), h2.keep ((Kept.refl Empty _).alloc zeroOut) (fun _ _ h => h), h3⟩

/-- What the two strings are, and that the third Out is as it was. -/
def TwoTexts (w : World) (k x y bz : Nat) (s12 s13 : Value) (wx : World) : Prop :=
  s12 = .string ⟨(beBytes k x).toArray⟩ ∧ s13 = .string ⟨(beBytes k y).toArray⟩ ∧ Below w.heap.size w wx ∧ w.heap.size ≤ bz ∧ OutAt wx (fun i => i = bz) bz (some [])

theorem putSt_zero {k x : Nat} (hk : isW k = true) (hx : x < 2 ^ (8 * k)) : putSt (some []) (k : Int) x = some (beBytes k x) := by
  simp [putSt, fitsW, hk, hx]

theorem put_halves (m x : Nat) (hm : isW m = true) : putSt (some (beBytes m (x / 2 ^ (8 * m)))) (m : Int) (x % 2 ^ (8 * m)) = some (beBytes (m + m) x) := by
  have hx : x % 2 ^ (8 * m) < 2 ^ (8 * m) := Nat.mod_lt _ (Nat.two_pow_pos _)
  simp only [putSt, fitsW, hm, Int.toNat_natCast, decide_eq_true hx, Bool.and_self, if_true, Option.map_some]
  rw [beBytes_append, beBytes_mod m x m (Nat.le_refl _)]

set_option maxRecDepth 100000 in
set_option maxHeartbeats 2000000 in
theorem high_walk (a b width : Nat) (w : World) (ha : a < 18446744073709551616) (hb : b < 18446744073709551616) (hw : width < 256) :
    Calls Try.prog 6 #[.int .u64 (a : Int), .int .u64 (b : Int), .int .u8 (width : Int)] w fun e w' => e = .returned (.bool true) ∧ Below w.heap.size w w' := by
  have HA := Lib.hid ha
  have HB := Lib.hid hb
  clear ha hb
  go_enter Try.func6, Try.ntmps6
  go_upto_region 2 with (go_at_call 26; refine (alive_any _).mono ?_; rintro e w1 ⟨rfl, b1⟩)
  go_cut [8] (fun s8 wx => Width8 w s8 wx)
  case first =>
    have h4 : (width : Int) % 4 = 0 ∨ (width : Int) % 4 = 1 ∨ (width : Int) % 4 = 2 ∨ (width : Int) % 4 = 3 := by omega
    rcases h4 with hr | hr | hr | hr
    · go_wp2_with fail
      go_meet
      exact ⟨1, rfl, rfl, b1.alloc b1.size _⟩
    · go_wp2_with fail
      go_meet
      exact ⟨2, rfl, rfl, b1.alloc b1.size _⟩
    · go_wp2_with fail
      go_meet
      exact ⟨4, rfl, rfl, b1.alloc b1.size _⟩
    · go_wp2_with fail
      go_meet
      exact ⟨8, rfl, rfl, b1.alloc b1.size _⟩
  case rest =>
    obtain ⟨k, hk, rfl, hb⟩ := hcut
    clear b1 hw
    go_upto_if 23 with fail
    go_cut [0, 1] (fun s0 s1 wx => TwoNums w k s0 s1 wx)
    case first =>
      rcases isW_cases hk with rfl | rfl | rfl | rfl
      · go_wp2_with fail
        go_quiet (fail)
        go_wp2
        go_meet
        exact ⟨a % 256, b % 256, Nat.mod_lt _ (by decide), Nat.mod_lt _ (by decide), by simp, by simp, below_drewN hb _⟩
      · go_wp2_with fail
        go_quiet (fail)
        go_wp2
        go_meet
        exact ⟨a % 65536, b % 65536, Nat.mod_lt _ (by decide), Nat.mod_lt _ (by decide), by simp, by simp, below_drewN hb _⟩
      · go_wp2_with fail
        go_quiet (fail)
        go_wp2
        go_meet
        exact ⟨a % 4294967296, b % 4294967296, Nat.mod_lt _ (by decide), Nat.mod_lt _ (by decide), by simp, by simp, below_drewN hb _⟩
      · go_wp2_with fail
        go_meet
        exact ⟨a, b, HA.out, HB.out, rfl, rfl, hb⟩
    case rest =>
      obtain ⟨x, y, hx, hy, rfl, rfl, hb2⟩ := hcut
      go_upto_region 6 with fail
      obtain ⟨o1, o2, o3⟩ := three_outs wc
      go_cut [12, 13] (fun s12 s13 wx => TwoTexts w k x y (wc.heap.size + 1 + 1) s12 s13 wx)
      case first =>
        have hz := hb2.size
        have hk8 : (k : Int) ≤ 8 := by rcases isW_cases hk with rfl | rfl | rfl | rfl <;> decide
        have hz3 : w.heap.size ≤ (((wc.alloc zeroOut).alloc zeroOut).alloc zeroOut).drew.heap.size := by simp; omega
        have o1d := o1.keep (Kept.drew (Kept.refl Empty _)) (fun _ _ h => h)
        have o2d := o2.keep (Kept.drew (Kept.refl Empty _)) (fun _ _ h => h)
        have o3d := o3.keep (Kept.drew (Kept.refl Empty _)) (fun _ _ h => h)
        have hbd : Below w.heap.size w (((wc.alloc zeroOut).alloc zeroOut).alloc zeroOut).drew := (((hb2.alloc hz _).alloc (by simp; omega) _).alloc (by simp; omega) _).drew
        have hx64 : x < 18446744073709551616 := Nat.lt_of_lt_of_le hx (by rcases isW_cases hk with rfl | rfl | rfl | rfl <;> decide)
        have hy64 : y < 18446744073709551616 := Nat.lt_of_lt_of_le hy (by rcases isW_cases hk with rfl | rfl | rfl | rfl <;> decide)
        have P1 := Lib.hid (put_any _ _ _ k x _ o1d hx64 (by simp))
        have P2 := fun W (o : OutAt W (fun i => i = wc.heap.size + 1) (wc.heap.size + 1) (some [])) => put_any W _ _ k y _ o hy64 (by simp)
        rw [putSt_zero hk hx] at P1
        simp only [putSt_zero hk hy] at P2
        have hlx : (beBytes k x).length ≤ 549755813888 := by rw [beBytes_length]; omega
        have hly : (beBytes k y).length ≤ 549755813888 := by rw [beBytes_length]; omega
        have HP2 := Lib.hid P2
        have HZ := Lib.hid hz3
        clear P2 hz3 hx64 hy64 o1 o2 o3 hb HA HB hx hy hk8 hz
        generalize hlxe : beBytes k x = lx at *
        generalize hlye : beBytes k y = ly at *
        have HLX := Lib.hid hlxe
        have HLY := Lib.hid hlye
        clear hlxe hlye
        go_region_with (first
          | (go_at_call_of 12 (Value.pointer (some (Addr.mk wc.heap.size 0 none)))
             refine P1.out.mono ?_
             rintro e w2 ⟨rfl, q1, k1⟩
             have q2 := o2d.keep k1 (fun _ h1 h2 => by omega)
             have q3 := o3d.keep k1 (fun _ h1 h2 => by omega)
             have hB1 := k1.on hbd (fun _ h => by have := hb2.size; omega) HZ.out)
          | (go_at_call_of 15 (Value.pointer (some (Addr.mk wc.heap.size 0 none)))
             refine (all_some _ _ _ _ q1 hlx).mono ?_
             rintro e w3 ⟨v, rfl, hown, hbl⟩
             obtain ⟨A, c, rfl, _, s1, t1, _⟩ := Src.of_own hown
             have r2 := q2.keep (Kept.of_below hbl Empty) (fun _ _ h => h)
             have r3 := q3.keep (Kept.of_below hbl Empty) (fun _ _ h => h)
             have hB2 := hB1.trans (hbl.mono hB1.size)
             have hcv1 := Src.convert (P := Try.prog) s1 c 28 5 9 Try.underlying28 Try.underlying5 Try.underlying9)
          | (go_at_call 12
             go_must (with_reducible refine (HP2.out _ r2).mono ?_)
             go_must (rintro e w4 ⟨rfl, q4, k4⟩)
             go_must (have q5 := r3.keep k4 (fun _ h1 h2 => by omega))
             have hB3 := k4.on hB2 (fun _ h => by have := hb2.size; omega) hB2.size
             have s2 := s1.kept k4 (fun ad e h => by have h1 := (t1 ad e).2; have h2 := q2.lt (wc.heap.size + 1) rfl; omega)
             have hcv2 := Src.convert (P := Try.prog) s2 c 28 5 9 Try.underlying28 Try.underlying5 Try.underlying9)
          | (go_at_call 15
             refine (all_some _ _ _ _ q4 hly).mono ?_
             rintro e w5 ⟨v, rfl, hown2, hbl2⟩
             obtain ⟨A2, c2, rfl, _, s3, _⟩ := Src.of_own hown2
             have q6 := q5.keep (Kept.of_below hbl2 Empty) (fun _ _ h => h)
             have hB4 := hB3.trans (hbl2.mono hB3.size)
             have hcv3 := Src.convert (P := Try.prog) s3 c2 28 5 9 Try.underlying28 Try.underlying5 Try.underlying9
             have hcv4 := Src.convert (P := Try.prog) (s2.below hbl2) c 28 5 9 Try.underlying28 Try.underlying5 Try.underlying9))
        all_goals
          go_wp2_with fail
          go_meet
          exact ⟨by rw [HLX.out], by rw [HLY.out], hB4, by have := hb2.size; omega, q6⟩
      case rest =>
        obtain ⟨rfl, rfl, hb3, hbz, o4⟩ := hcut
        clear hb o1 o2 o3 HA HB
        obtain ⟨hord, heq⟩ := beBytes_order k x y hx hy
        have hlen := beBytes_length k x
        have heq' : (beBytes k x == beBytes k y) = ((x : Int) == (y : Int)) := by
          rw [heq, Bool.eq_iff_iff, decide_eq_true_eq, beq_iff_eq, Int.ofNat_inj]
        clear heq hy
        rcases isW_cases hk with rfl | rfl | rfl | rfl
        · go_wp2
          go_ret
          exact ⟨rfl, hb3⟩
        · have e1 : putSt (some []) 1 (x / 256) = some (beBytes 1 (x / 256)) := putSt_zero (k := 1) rfl (Nat.div_lt_of_lt_mul hx)
          have e2 : putSt (some (beBytes 1 (x / 256))) 1 (x % 256) = some (beBytes 2 x) := put_halves 1 x rfl
          have o5 := o4.keep (Kept.drew (Kept.refl Empty _)) (fun _ _ h => h)
          have hx1 : x / 256 < 18446744073709551616 := by omega
          have hx2 : x % 256 < 18446744073709551616 := by omega
          have P1 := put_any _ _ _ 1 (x / 256) _ o5 hx1 (by simp)
          have P2 := fun W S bz (o : OutAt W S bz (some (beBytes 1 (x / 256)))) => put_any W S bz 1 (x % 256) _ o hx2 (by rw [Option.getD_some, beBytes_length]; omega)
          rw [e1] at P1
          simp only [e2] at P2
          have HP1 := Lib.hid P1
          have HP2 := Lib.hid P2
          clear P1 P2 e1 e2 hx1 hx2 hx
          go_wp2_with fail
          refine wp_region_any (by kernel_rfl) ?_
          change wpAny _ _ _ _ _ _ _ (World.drew _)
          refine wpAny_take (i := 0) (v := .bool true) rfl (by kernel_rfl) (by kernel_rfl) (by kernel_rfl) (fun _ _ _ h => h) (Or.inl ⟨by kernel_rfl, ?_⟩) ?_
          · intro w; go_simp; try rfl
          refine wpAny_take (i := 1) (v := .bool true) rfl (by kernel_rfl) (by kernel_rfl) (by kernel_rfl) (fun _ _ _ h => h) (Or.inl ⟨by kernel_rfl, ?_⟩) ?_
          · intro w; go_simp; try rfl
          refine wpAny_take (i := 2) (v := .int .i64 2) rfl (by kernel_rfl) (by kernel_rfl) (by kernel_rfl) (fun _ _ _ h => h) (Or.inl ⟨by kernel_rfl, ?_⟩) ?_
          · intro w; go_simp; try rfl
          refine wpAny_take (i := 3) (v := .int .i64 1) rfl (by kernel_rfl) (by kernel_rfl) (by kernel_rfl) (fun _ _ _ h => h) (Or.inl ⟨by kernel_rfl, ?_⟩) ?_
          · intro w; go_simp; try rfl
          refine wpAny_take (i := 4) (v := .int .u64 (x : Int)) rfl (by kernel_rfl) (by kernel_rfl) (by kernel_rfl) (fun _ _ _ h => h) (Or.inl ⟨by kernel_rfl, ?_⟩) ?_
          · intro w; go_simp; try rfl
          refine wpAny_take (i := 5) (v := .int .u64 8) rfl (by kernel_rfl) (by kernel_rfl) (by kernel_rfl) (fun _ _ _ h => h) (Or.inl ⟨by kernel_rfl, ?_⟩) ?_
          · intro w; go_simp; try rfl
          refine wpAny_take (i := 6) (v := .int .u64 ((x / 256 : Nat) : Int)) rfl (by kernel_rfl) (by kernel_rfl) (by kernel_rfl) (fun _ _ _ h => h) (Or.inl ⟨by kernel_rfl, ?_⟩) ?_
          · intro w; go_simp; try rfl
          refine wpAny_take (i := 8) (v := .int .i64 2) rfl (by kernel_rfl) (by kernel_rfl) (by kernel_rfl) (fun _ _ _ h => h) (Or.inl ⟨by kernel_rfl, ?_⟩) ?_
          · intro w; go_simp; try rfl
          refine wpAny_take (i := 9) (v := .int .i64 1) rfl (by kernel_rfl) (by kernel_rfl) (by kernel_rfl) (fun _ _ _ h => h) (Or.inl ⟨by kernel_rfl, ?_⟩) ?_
          · intro w; go_simp; try rfl
          refine wpAny_take (i := 10) (v := .int .u64 (x : Int)) rfl (by kernel_rfl) (by kernel_rfl) (by kernel_rfl) (fun _ _ _ h => h) (Or.inl ⟨by kernel_rfl, ?_⟩) ?_
          · intro w; go_simp; try rfl
          refine wpAny_take (i := 11) (v := .int .u64 8) rfl (by kernel_rfl) (by kernel_rfl) (by kernel_rfl) (fun _ _ _ h => h) (Or.inl ⟨by kernel_rfl, ?_⟩) ?_
          · intro w; go_simp; try rfl
          refine wpAny_take (i := 12) (v := .int .u64 256) rfl (by kernel_rfl) (by kernel_rfl) (by kernel_rfl) (fun _ _ _ h => h) (Or.inl ⟨by kernel_rfl, ?_⟩) ?_
          · intro w; go_simp; try rfl
          refine wpAny_take (i := 13) (v := .int .u64 ((x % 256 : Nat) : Int)) rfl (by kernel_rfl) (by kernel_rfl) (by kernel_rfl) (fun _ _ _ h => h) (Or.inl ⟨by kernel_rfl, ?_⟩) ?_
          · intro w; go_simp; try rfl
          refine wpAny_take (i := 17) (v := .string ⟨(beBytes 2 x).toArray⟩) rfl (by kernel_rfl) (by kernel_rfl) (by kernel_rfl) (fun _ _ _ h => h) (Or.inl ⟨by kernel_rfl, ?_⟩) ?_
          · intro w; go_simp; try rfl
          refine wpAny_ready (rs := [7]) (by kernel_rfl) (by simp) (AllReady.cons rfl (fun K hK => ?_) AllReady.nil)
          go_simp
          refine HP1.out.mono ?_
          rintro e w5 ⟨rfl, q1, k1⟩
          refine hK _ _ ?_
          clear hK K
          refine wpAny_ready (rs := [14]) (by kernel_rfl) (by simp) (AllReady.cons rfl (fun K hK => ?_) AllReady.nil)
          go_simp
          refine (HP2.out _ _ _ q1).mono ?_
          rintro e w6 ⟨rfl, q2, k2⟩
          refine hK _ _ ?_
          clear hK K
          refine wpAny_ready (rs := [15]) (by kernel_rfl) (by simp) (AllReady.cons rfl (fun K hK => ?_) AllReady.nil)
          go_simp
          refine (all_some _ _ _ _ q2 (by rw [beBytes_length]; omega)).mono ?_
          rintro e w7 ⟨v, rfl, hown, hbl⟩
          obtain ⟨A, c, rfl, _, s1, _, _⟩ := Src.of_own hown
          have hcv := Src.convert (P := Try.prog) s1 c 28 5 9 Try.underlying28 Try.underlying5 Try.underlying9
          refine hK _ _ ?_
          clear hK K
          refine wpAny_ready (rs := [16]) (by kernel_rfl) (by simp) (AllReady.cons rfl (fun K hK => ?_) AllReady.nil)
          rw [hlen] at hcv
          rw [hlen]
          go_simp
          refine hK _ _ ?_
          clear hK K
          refine wpAny_take (i := 18) (v := .bool true) rfl (by kernel_rfl) (by kernel_rfl) (by kernel_rfl) (fun _ _ _ h => h) (Or.inl ⟨by kernel_rfl, ?_⟩) ?_
          · intro w; go_simp; try rfl
          refine wpAny_take (i := 19) (v := .bool true) rfl (by kernel_rfl) (by kernel_rfl) (by kernel_rfl) (fun _ _ _ h => h) (Or.inl ⟨by kernel_rfl, ?_⟩) ?_
          · intro w; go_simp; try rfl
          refine wpAny_take (i := 20) (v := .bool true) rfl (by kernel_rfl) (by kernel_rfl) (by kernel_rfl) (fun _ _ _ h => h) (Or.inl ⟨by kernel_rfl, ?_⟩) ?_
          · intro w; go_simp; try rfl
          refine wpAny_done (by kernel_rfl) ?_ _
          go_wp2
          go_ret
          have c1 := k1.on hb3.drew (fun i e => by omega) hb3.size
          have c2 := k2.on c1 (Grow.on (fun i e => by omega) hb3.size) c1.size
          exact ⟨rfl, c2.trans (hbl.mono c2.size)⟩
        · have e1 : putSt (some []) 2 (x / 65536) = some (beBytes 2 (x / 65536)) := putSt_zero (k := 2) rfl (Nat.div_lt_of_lt_mul hx)
          have e2 : putSt (some (beBytes 2 (x / 65536))) 2 (x % 65536) = some (beBytes 4 x) := put_halves 2 x rfl
          have o5 := o4.keep (Kept.drew (Kept.refl Empty _)) (fun _ _ h => h)
          have hx1 : x / 65536 < 18446744073709551616 := by omega
          have hx2 : x % 65536 < 18446744073709551616 := by omega
          have P1 := put_any _ _ _ 2 (x / 65536) _ o5 hx1 (by simp)
          have P2 := fun W S bz (o : OutAt W S bz (some (beBytes 2 (x / 65536)))) => put_any W S bz 2 (x % 65536) _ o hx2 (by rw [Option.getD_some, beBytes_length]; omega)
          rw [e1] at P1
          simp only [e2] at P2
          have HP1 := Lib.hid P1
          have HP2 := Lib.hid P2
          clear P1 P2 e1 e2 hx1 hx2 hx
          go_wp2_with fail
          refine wp_region_any (by kernel_rfl) ?_
          change wpAny _ _ _ _ _ _ _ (World.drew _)
          refine wpAny_take (i := 0) (v := .bool true) rfl (by kernel_rfl) (by kernel_rfl) (by kernel_rfl) (fun _ _ _ h => h) (Or.inl ⟨by kernel_rfl, ?_⟩) ?_
          · intro w; go_simp; try rfl
          refine wpAny_take (i := 1) (v := .bool true) rfl (by kernel_rfl) (by kernel_rfl) (by kernel_rfl) (fun _ _ _ h => h) (Or.inl ⟨by kernel_rfl, ?_⟩) ?_
          · intro w; go_simp; try rfl
          refine wpAny_take (i := 2) (v := .int .i64 4) rfl (by kernel_rfl) (by kernel_rfl) (by kernel_rfl) (fun _ _ _ h => h) (Or.inl ⟨by kernel_rfl, ?_⟩) ?_
          · intro w; go_simp; try rfl
          refine wpAny_take (i := 3) (v := .int .i64 2) rfl (by kernel_rfl) (by kernel_rfl) (by kernel_rfl) (fun _ _ _ h => h) (Or.inl ⟨by kernel_rfl, ?_⟩) ?_
          · intro w; go_simp; try rfl
          refine wpAny_take (i := 4) (v := .int .u64 (x : Int)) rfl (by kernel_rfl) (by kernel_rfl) (by kernel_rfl) (fun _ _ _ h => h) (Or.inl ⟨by kernel_rfl, ?_⟩) ?_
          · intro w; go_simp; try rfl
          refine wpAny_take (i := 5) (v := .int .u64 16) rfl (by kernel_rfl) (by kernel_rfl) (by kernel_rfl) (fun _ _ _ h => h) (Or.inl ⟨by kernel_rfl, ?_⟩) ?_
          · intro w; go_simp; try rfl
          refine wpAny_take (i := 6) (v := .int .u64 ((x / 65536 : Nat) : Int)) rfl (by kernel_rfl) (by kernel_rfl) (by kernel_rfl) (fun _ _ _ h => h) (Or.inl ⟨by kernel_rfl, ?_⟩) ?_
          · intro w; go_simp; try rfl
          refine wpAny_take (i := 8) (v := .int .i64 4) rfl (by kernel_rfl) (by kernel_rfl) (by kernel_rfl) (fun _ _ _ h => h) (Or.inl ⟨by kernel_rfl, ?_⟩) ?_
          · intro w; go_simp; try rfl
          refine wpAny_take (i := 9) (v := .int .i64 2) rfl (by kernel_rfl) (by kernel_rfl) (by kernel_rfl) (fun _ _ _ h => h) (Or.inl ⟨by kernel_rfl, ?_⟩) ?_
          · intro w; go_simp; try rfl
          refine wpAny_take (i := 10) (v := .int .u64 (x : Int)) rfl (by kernel_rfl) (by kernel_rfl) (by kernel_rfl) (fun _ _ _ h => h) (Or.inl ⟨by kernel_rfl, ?_⟩) ?_
          · intro w; go_simp; try rfl
          refine wpAny_take (i := 11) (v := .int .u64 16) rfl (by kernel_rfl) (by kernel_rfl) (by kernel_rfl) (fun _ _ _ h => h) (Or.inl ⟨by kernel_rfl, ?_⟩) ?_
          · intro w; go_simp; try rfl
          refine wpAny_take (i := 12) (v := .int .u64 65536) rfl (by kernel_rfl) (by kernel_rfl) (by kernel_rfl) (fun _ _ _ h => h) (Or.inl ⟨by kernel_rfl, ?_⟩) ?_
          · intro w; go_simp; try rfl
          refine wpAny_take (i := 13) (v := .int .u64 ((x % 65536 : Nat) : Int)) rfl (by kernel_rfl) (by kernel_rfl) (by kernel_rfl) (fun _ _ _ h => h) (Or.inl ⟨by kernel_rfl, ?_⟩) ?_
          · intro w; go_simp; try rfl
          refine wpAny_take (i := 17) (v := .string ⟨(beBytes 4 x).toArray⟩) rfl (by kernel_rfl) (by kernel_rfl) (by kernel_rfl) (fun _ _ _ h => h) (Or.inl ⟨by kernel_rfl, ?_⟩) ?_
          · intro w; go_simp; try rfl
          refine wpAny_ready (rs := [7]) (by kernel_rfl) (by simp) (AllReady.cons rfl (fun K hK => ?_) AllReady.nil)
          go_simp
          refine HP1.out.mono ?_
          rintro e w5 ⟨rfl, q1, k1⟩
          refine hK _ _ ?_
          clear hK K
          refine wpAny_ready (rs := [14]) (by kernel_rfl) (by simp) (AllReady.cons rfl (fun K hK => ?_) AllReady.nil)
          go_simp
          refine (HP2.out _ _ _ q1).mono ?_
          rintro e w6 ⟨rfl, q2, k2⟩
          refine hK _ _ ?_
          clear hK K
          refine wpAny_ready (rs := [15]) (by kernel_rfl) (by simp) (AllReady.cons rfl (fun K hK => ?_) AllReady.nil)
          go_simp
          refine (all_some _ _ _ _ q2 (by rw [beBytes_length]; omega)).mono ?_
          rintro e w7 ⟨v, rfl, hown, hbl⟩
          obtain ⟨A, c, rfl, _, s1, _, _⟩ := Src.of_own hown
          have hcv := Src.convert (P := Try.prog) s1 c 28 5 9 Try.underlying28 Try.underlying5 Try.underlying9
          refine hK _ _ ?_
          clear hK K
          refine wpAny_ready (rs := [16]) (by kernel_rfl) (by simp) (AllReady.cons rfl (fun K hK => ?_) AllReady.nil)
          rw [hlen] at hcv
          rw [hlen]
          go_simp
          refine hK _ _ ?_
          clear hK K
          refine wpAny_take (i := 18) (v := .bool true) rfl (by kernel_rfl) (by kernel_rfl) (by kernel_rfl) (fun _ _ _ h => h) (Or.inl ⟨by kernel_rfl, ?_⟩) ?_
          · intro w; go_simp; try rfl
          refine wpAny_take (i := 19) (v := .bool true) rfl (by kernel_rfl) (by kernel_rfl) (by kernel_rfl) (fun _ _ _ h => h) (Or.inl ⟨by kernel_rfl, ?_⟩) ?_
          · intro w; go_simp; try rfl
          refine wpAny_take (i := 20) (v := .bool true) rfl (by kernel_rfl) (by kernel_rfl) (by kernel_rfl) (fun _ _ _ h => h) (Or.inl ⟨by kernel_rfl, ?_⟩) ?_
          · intro w; go_simp; try rfl
          refine wpAny_done (by kernel_rfl) ?_ _
          go_wp2
          go_ret
          have c1 := k1.on hb3.drew (fun i e => by omega) hb3.size
          have c2 := k2.on c1 (Grow.on (fun i e => by omega) hb3.size) c1.size
          exact ⟨rfl, c2.trans (hbl.mono c2.size)⟩
        · have e1 : putSt (some []) 4 (x / 4294967296) = some (beBytes 4 (x / 4294967296)) := putSt_zero (k := 4) rfl (Nat.div_lt_of_lt_mul hx)
          have e2 : putSt (some (beBytes 4 (x / 4294967296))) 4 (x % 4294967296) = some (beBytes 8 x) := put_halves 4 x rfl
          have o5 := o4.keep (Kept.drew (Kept.refl Empty _)) (fun _ _ h => h)
          have hx1 : x / 4294967296 < 18446744073709551616 := by omega
          have hx2 : x % 4294967296 < 18446744073709551616 := by omega
          have P1 := put_any _ _ _ 4 (x / 4294967296) _ o5 hx1 (by simp)
          have P2 := fun W S bz (o : OutAt W S bz (some (beBytes 4 (x / 4294967296)))) => put_any W S bz 4 (x % 4294967296) _ o hx2 (by rw [Option.getD_some, beBytes_length]; omega)
          rw [e1] at P1
          simp only [e2] at P2
          have HP1 := Lib.hid P1
          have HP2 := Lib.hid P2
          clear P1 P2 e1 e2 hx1 hx2 hx
          go_wp2_with fail
          refine wp_region_any (by kernel_rfl) ?_
          change wpAny _ _ _ _ _ _ _ (World.drew _)
          refine wpAny_take (i := 0) (v := .bool true) rfl (by kernel_rfl) (by kernel_rfl) (by kernel_rfl) (fun _ _ _ h => h) (Or.inl ⟨by kernel_rfl, ?_⟩) ?_
          · intro w; go_simp; try rfl
          refine wpAny_take (i := 1) (v := .bool true) rfl (by kernel_rfl) (by kernel_rfl) (by kernel_rfl) (fun _ _ _ h => h) (Or.inl ⟨by kernel_rfl, ?_⟩) ?_
          · intro w; go_simp; try rfl
          refine wpAny_take (i := 2) (v := .int .i64 8) rfl (by kernel_rfl) (by kernel_rfl) (by kernel_rfl) (fun _ _ _ h => h) (Or.inl ⟨by kernel_rfl, ?_⟩) ?_
          · intro w; go_simp; try rfl
          refine wpAny_take (i := 3) (v := .int .i64 4) rfl (by kernel_rfl) (by kernel_rfl) (by kernel_rfl) (fun _ _ _ h => h) (Or.inl ⟨by kernel_rfl, ?_⟩) ?_
          · intro w; go_simp; try rfl
          refine wpAny_take (i := 4) (v := .int .u64 (x : Int)) rfl (by kernel_rfl) (by kernel_rfl) (by kernel_rfl) (fun _ _ _ h => h) (Or.inl ⟨by kernel_rfl, ?_⟩) ?_
          · intro w; go_simp; try rfl
          refine wpAny_take (i := 5) (v := .int .u64 32) rfl (by kernel_rfl) (by kernel_rfl) (by kernel_rfl) (fun _ _ _ h => h) (Or.inl ⟨by kernel_rfl, ?_⟩) ?_
          · intro w; go_simp; try rfl
          refine wpAny_take (i := 6) (v := .int .u64 ((x / 4294967296 : Nat) : Int)) rfl (by kernel_rfl) (by kernel_rfl) (by kernel_rfl) (fun _ _ _ h => h) (Or.inl ⟨by kernel_rfl, ?_⟩) ?_
          · intro w; go_simp; try rfl
          refine wpAny_take (i := 8) (v := .int .i64 8) rfl (by kernel_rfl) (by kernel_rfl) (by kernel_rfl) (fun _ _ _ h => h) (Or.inl ⟨by kernel_rfl, ?_⟩) ?_
          · intro w; go_simp; try rfl
          refine wpAny_take (i := 9) (v := .int .i64 4) rfl (by kernel_rfl) (by kernel_rfl) (by kernel_rfl) (fun _ _ _ h => h) (Or.inl ⟨by kernel_rfl, ?_⟩) ?_
          · intro w; go_simp; try rfl
          refine wpAny_take (i := 10) (v := .int .u64 (x : Int)) rfl (by kernel_rfl) (by kernel_rfl) (by kernel_rfl) (fun _ _ _ h => h) (Or.inl ⟨by kernel_rfl, ?_⟩) ?_
          · intro w; go_simp; try rfl
          refine wpAny_take (i := 11) (v := .int .u64 32) rfl (by kernel_rfl) (by kernel_rfl) (by kernel_rfl) (fun _ _ _ h => h) (Or.inl ⟨by kernel_rfl, ?_⟩) ?_
          · intro w; go_simp; try rfl
          refine wpAny_take (i := 12) (v := .int .u64 4294967296) rfl (by kernel_rfl) (by kernel_rfl) (by kernel_rfl) (fun _ _ _ h => h) (Or.inl ⟨by kernel_rfl, ?_⟩) ?_
          · intro w; go_simp; try rfl
          refine wpAny_take (i := 13) (v := .int .u64 ((x % 4294967296 : Nat) : Int)) rfl (by kernel_rfl) (by kernel_rfl) (by kernel_rfl) (fun _ _ _ h => h) (Or.inl ⟨by kernel_rfl, ?_⟩) ?_
          · intro w; go_simp; try rfl
          refine wpAny_take (i := 17) (v := .string ⟨(beBytes 8 x).toArray⟩) rfl (by kernel_rfl) (by kernel_rfl) (by kernel_rfl) (fun _ _ _ h => h) (Or.inl ⟨by kernel_rfl, ?_⟩) ?_
          · intro w; go_simp; try rfl
          refine wpAny_ready (rs := [7]) (by kernel_rfl) (by simp) (AllReady.cons rfl (fun K hK => ?_) AllReady.nil)
          go_simp
          refine HP1.out.mono ?_
          rintro e w5 ⟨rfl, q1, k1⟩
          refine hK _ _ ?_
          clear hK K
          refine wpAny_ready (rs := [14]) (by kernel_rfl) (by simp) (AllReady.cons rfl (fun K hK => ?_) AllReady.nil)
          go_simp
          refine (HP2.out _ _ _ q1).mono ?_
          rintro e w6 ⟨rfl, q2, k2⟩
          refine hK _ _ ?_
          clear hK K
          refine wpAny_ready (rs := [15]) (by kernel_rfl) (by simp) (AllReady.cons rfl (fun K hK => ?_) AllReady.nil)
          go_simp
          refine (all_some _ _ _ _ q2 (by rw [beBytes_length]; omega)).mono ?_
          rintro e w7 ⟨v, rfl, hown, hbl⟩
          obtain ⟨A, c, rfl, _, s1, _, _⟩ := Src.of_own hown
          have hcv := Src.convert (P := Try.prog) s1 c 28 5 9 Try.underlying28 Try.underlying5 Try.underlying9
          refine hK _ _ ?_
          clear hK K
          refine wpAny_ready (rs := [16]) (by kernel_rfl) (by simp) (AllReady.cons rfl (fun K hK => ?_) AllReady.nil)
          rw [hlen] at hcv
          rw [hlen]
          go_simp
          refine hK _ _ ?_
          clear hK K
          refine wpAny_take (i := 18) (v := .bool true) rfl (by kernel_rfl) (by kernel_rfl) (by kernel_rfl) (fun _ _ _ h => h) (Or.inl ⟨by kernel_rfl, ?_⟩) ?_
          · intro w; go_simp; try rfl
          refine wpAny_take (i := 19) (v := .bool true) rfl (by kernel_rfl) (by kernel_rfl) (by kernel_rfl) (fun _ _ _ h => h) (Or.inl ⟨by kernel_rfl, ?_⟩) ?_
          · intro w; go_simp; try rfl
          refine wpAny_take (i := 20) (v := .bool true) rfl (by kernel_rfl) (by kernel_rfl) (by kernel_rfl) (fun _ _ _ h => h) (Or.inl ⟨by kernel_rfl, ?_⟩) ?_
          · intro w; go_simp; try rfl
          refine wpAny_done (by kernel_rfl) ?_ _
          go_wp2
          go_ret
          have c1 := k1.on hb3.drew (fun i e => by omega) hb3.size
          have c2 := k2.on c1 (Grow.on (fun i e => by omega) hb3.size) c1.size
          exact ⟨rfl, c2.trans (hbl.mono c2.size)⟩

end Go.Proofs.Ytnddlpaffnhigaa
