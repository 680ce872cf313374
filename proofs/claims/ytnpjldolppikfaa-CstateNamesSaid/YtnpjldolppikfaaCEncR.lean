/- The document's bytes of a C-state, by a contract. -/
import Derived.Test.YtnpjldolppikfaaCEncode
namespace Go.Proofs.Ytnpjldolppikfaa
open Go.RowKit

theorem be_one (x : Nat) : beBytes 1 x = [UInt8.ofNat x] := by simp [beBytes]
theorem encL_two (R S M g : Nat) : beBytes 4 R ++ [UInt8.ofNat S, UInt8.ofNat M] ++ beBytes 2 g = encL R S M g := by
  simp [encL, be_one]

theorem src_two (w : World) (x y : Nat) (hx : x < 256) (hy : y < 256) : Src (w.alloc (.cells #[.int .u8 (x : Int), .int .u8 (y : Int)] 5)) (some ⟨w.heap.size, 0, none⟩) 2 [UInt8.ofNat x, UInt8.ofNat y] := by
  have h := Whole.new w 5 #[.int .u8 (x : Int), .int .u8 (y : Int)]
  refine ⟨rfl, fun _ => ⟨_, _, rfl, fun i hi => ?_⟩⟩
  rw [Nat.zero_add, h.cell]
  match i, hi with
  | 0, _ => simp; omega
  | 1, _ => simp; omega

set_option maxRecDepth 100000 in
set_option maxHeartbeats 1000000 in
theorem bytes4_any (R S M g : Nat) (w : World) (hR : R ≤ 2147483647) (hS : S ≤ 15) (hM : M ≤ 7) (hg : g < 65536) : Calls Try.prog 35 #[.agg #[.int .i64 (R : Int), .int .i64 (S : Int), .int .i64 (M : Int), .int .u16 (g : Int)]] w (Fresh w (encL R S M g)) := by
  obtain ⟨i0, hi, hz0, hz1, hz2⟩ := info_parts u8_info
  have hb : Below w.heap.size w (w.alloc (.cells #[.int .i64 (R : Int), .int .i64 (S : Int), .int .i64 (M : Int), .int .u16 (g : Int)] 25)) := (Below.refl _ _).alloc (Nat.le_refl _) _
  have hW1 := Whole.new w 25 #[.int .i64 (R : Int), .int .i64 (S : Int), .int .i64 (M : Int), .int .u16 (g : Int)]
  have P1 := fun W => rput_yes 4 R (by omega) (by decide) (by omega) W
  have P2 := fun W => rput_yes 2 g (by omega) (by decide) (by omega) W
  have HP1 := Lib.hid P1
  have HP2 := Lib.hid P2
  have hT := fun W => src_two W S M (by omega) (by omega)
  have HT := Lib.hid hT
  have hE := encL_two R S M g
  have HE := Lib.hid hE
  have hl1 := beBytes_length 4 R
  have hl2 := beBytes_length 2 g
  generalize beBytes 4 R = L1 at *
  generalize beBytes 2 g = L2 at *
  have HL1 := Lib.hid hl1
  have HL2 := Lib.hid hl2
  clear P1 P2 hT hE hl1 hl2
  go_enter Try.func35, Try.ntmps35
  go_wp2_with fail
  refine (HP1.out _).mono ?_
  rintro e w1 ⟨v1, rfl, own1, k1⟩
  have own1' := ownsRow_base (b' := w.heap.size) own1 (by simp)
  have hb1 := below_then k1 hb
  have hW2 := whole_later k1 hW1
  have hzy := hW2.lt
  obtain ⟨c0, c1, c2, c3, cf⟩ := hW2.four
  clear hb hW1 k1 own1
  go_wp2_with fail
  refine (HP2.out _).mono ?_
  rintro e w2 ⟨v2, rfl, own2, k2⟩
  have hb2 := below_then k2 hb1
  have hW3 := whole_later k2 hW2
  have hzz := hW3.lt
  clear c0 c1 c2 c3 cf
  obtain ⟨c0, c1, c2, c3, cf⟩ := hW3.four
  have lt1 := own1'.lt
  have ownB := ownsRow_kept own1' ((Kept.of_below k2 Empty).alloc (.cells #[.int .u8 (S : Int), .int .u8 (M : Int)] 5)) (fun _ _ h => h)
  obtain ⟨A, c, rfl, hc2, hs2, hA2, _⟩ := Src.of_own own2
  have hs3 := hs2.kept ((Kept.refl Empty w2).alloc (.cells #[.int .u8 (S : Int), .int .u8 (M : Int)] 5)) (fun _ _ h => h)
  have hb3 := hb2.alloc hb2.size (.cells #[.int .u8 (S : Int), .int .u8 (M : Int)] 5)
  have apart : ∀ ad, A = some ad → ¬ (v1.ownBlock = some ad.block) := fun ad e h => by
    have := (hA2 ad e).2
    have := (lt1 _ h).2
    omega
  have HAp := Lib.hid apart
  have HL1' := Lib.hid lt1
  clear own1' own2 hs2 hA2 k2 apart lt1 hW2
  go_wp2_with (first
    | (at_builtin; refine wpList_append_src _ rfl _ _ _ rfl w.heap.size 5 i0 Try.underlying26 hi hz0 hz1 hz2 v1 4 (bv L1) rfl ownB (some ⟨w2.heap.size, 0, none⟩) 2 2 [UInt8.ofNat S, UInt8.ofNat M] rfl (HT.out _) (by omega) (by simp; omega) ?_; intro v3 w3 h1 h2 h3
       have hb4 := hb3.grown h2 (by simp; omega) (fun j ej => (HL1'.out j ej).1)
       have hs4 := hs3.kept ((Kept.refl (fun k => v1.ownBlock = some k) _).grown h2 (fun k hk => .inl hk)) (HAp.out)
       clear ownB hs3 h2 h3)
    | (at_builtin; refine wpList_append_src _ rfl _ _ _ rfl w.heap.size 5 i0 Try.underlying26 hi hz0 hz1 hz2 v3 (4 + 2) (bv L1 ++ bv [UInt8.ofNat S, UInt8.ofNat M]) rfl h1 A 2 c L2 rfl hs4 (by omega) hb4.size ?_; intro v5 w5 h5 h6 h7
       have hb5 := hb4.grown h6 hb4.size (fun j ej => (h1.lt j ej).1)))
  go_ret
  refine ⟨v5, rfl, ?_, hb5⟩
  rw [← HE.out, bv_append, bv_append]
  have hlen : (L1 ++ [UInt8.ofNat S, UInt8.ofNat M] ++ L2).length = 4 + 2 + 2 := by simp [HL1.out, HL2.out]
  rw [hlen]
  exact h5

theorem refEncode_yes (R S M g : Nat) (w : World) (hR : R ≤ 2147483647) (hS : S ≤ 15) (hM : M ≤ 7) (hg : g < 65536) : Calls Try.prog 13 #[.agg #[.int .i64 (R : Int), .int .i64 (S : Int), .int .i64 (M : Int), .int .u16 (g : Int)]] w (FreshE w (encL R S M g) 0) := by
  have hb : Below w.heap.size w (w.alloc (.cells #[.int .i64 (R : Int), .int .i64 (S : Int), .int .i64 (M : Int), .int .u16 (g : Int)] 25)) := (Below.refl _ _).alloc (Nat.le_refl _) _
  have hW1 := Whole.new w 25 #[.int .i64 (R : Int), .int .i64 (S : Int), .int .i64 (M : Int), .int .u16 (g : Int)]
  have e1 : chkC (R : Int) (S : Int) (M : Int) = 0 := by
    have := okC_mk (r := (R : Int)) (s := (S : Int)) (m := (M : Int)) (by omega)
    simp [chkC, this]
  have HE := Lib.hid e1
  have HB := Lib.hid (fun W => bytes4_any R S M g W hR hS hM hg)
  clear e1 hR hS hM hg
  go_enter Try.func13, Try.ntmps13
  go_wp2_with fail
  refine (refCheck_any _ _ _ _ _).mono ?_
  rintro e w1 ⟨rfl, k1⟩
  rw [HE.out]
  have hb1 := below_then k1 hb
  have hW2 := whole_later k1 hW1
  obtain ⟨c0, c1, c2, c3, cf⟩ := hW2.four
  clear hb hW1 k1
  go_wp2_with fail
  refine (HB.out _).mono ?_
  rintro e w2 ⟨v, rfl, hown, k2⟩
  go_wp2
  go_ret2
  exact ⟨v, rfl, ownsRow_base hown hb1.size, hb1.trans (k2.mono hb1.size)⟩

theorem refEncode_any (r s m : Int) (g : Nat) (w : World) (hg : g < 65536) : Calls Try.prog 13 #[.agg #[.int .i64 r, .int .i64 s, .int .i64 m, .int .u16 (g : Int)]] w (FreshE w (encV r s m g) (chkC r s m)) := by
  cases h : okC r s m
  · exact refEncode_no r s m g w h
  · obtain ⟨⟨r1, r2⟩, ⟨s1, s2⟩, ⟨m1, m2⟩⟩ := okC_yes h
    rw [show encV r s m g = encL r.toNat s.toNat m.toNat g from by simp [encV, h], show chkC r s m = 0 from by simp [chkC, h]]
    obtain ⟨R, rfl⟩ := Int.eq_ofNat_of_zero_le r1
    obtain ⟨S, rfl⟩ := Int.eq_ofNat_of_zero_le s1
    obtain ⟨M, rfl⟩ := Int.eq_ofNat_of_zero_le m1
    exact refEncode_yes R S M g w (by omega) (by omega) (by omega) hg

end Go.Proofs.Ytnpjldolppikfaa
