/- GroupNames, its walk. -/
import Derived.Test.YtnefjkbnolbpbaaGBackW
namespace Go.Proofs.Ytnefjkbnolbpbaa
open Go.RowKit

section
variable (W : World)
theorem next_int (g n r : Int) (h0 : 0 ≤ g) (h1 : g < 65536) (hr : nextG g.toNat n = r) : Calls Try.prog 22 #[.int .u16 g, .int .i64 n] W fun e w' => e = .returned (.int .i64 r) ∧ Below W.heap.size W w' := by
  obtain ⟨k, rfl⟩ := Int.eq_ofNat_of_zero_le h0
  exact next_val k n r hr W (by omega)
theorem count_int (g : Int) (r : Int) (h0 : 0 ≤ g) (h1 : g < 65536) (hr : ((countG g.toNat : Nat) : Int) = r) : Calls Try.prog 20 #[.int .u16 g] W fun e w' => e = .returned (.int .i64 r) ∧ Below W.heap.size W w' := by
  obtain ⟨k, rfl⟩ := Int.eq_ofNat_of_zero_le h0
  subst hr
  exact count_b k W (by omega)
theorem rank_int (g n : Int) (r : Int) (h0 : 0 ≤ g) (h1 : g < 65536) (hr : ((rankG g.toNat n : Nat) : Int) = r) : Calls Try.prog 24 #[.int .u16 g, .int .i64 n] W fun e w' => e = .returned (.int .i64 r) ∧ Below W.heap.size W w' := by
  obtain ⟨k, rfl⟩ := Int.eq_ofNat_of_zero_le h0
  subst hr
  exact rank_b k n W (by omega)
theorem text_int (g : Int) (t : ByteArray) (h0 : 0 ≤ g) (h1 : g < 65536) (hr : (⟨(textG g.toNat).toArray⟩ : ByteArray) = t) : Calls Try.prog 36 #[.int .u16 g] W fun e w' => e = .returned (.string t) ∧ Below W.heap.size W w' := by
  obtain ⟨k, rfl⟩ := Int.eq_ofNat_of_zero_le h0
  subst hr
  exact text_any k W (by omega)
theorem first_int (n r : Int) (hr : ((firstG n : Nat) : Int) = r) : Calls Try.prog 26 #[.int .i64 n] W fun e w' => e = .returned (.int .u16 r) ∧ Below W.heap.size W w' := by
  subst hr
  exact (first_any n W).mono fun _ _ h => ⟨h.1, h.2 ▸ Below.refl _ _⟩
theorem has_int (g n : Int) (v : Bool) (h0 : 0 ≤ g) (h1 : g < 65536) (hr : hasG g.toNat n = v) : Calls Try.prog 14 #[.int .u16 g, .int .i64 n] W fun e w' => e = .returned (.bool v) ∧ Below W.heap.size W w' := by
  obtain ⟨k, rfl⟩ := Int.eq_ofNat_of_zero_le h0
  subst hr
  exact (has_any k n W (by omega)).mono fun _ _ h => ⟨h.1, h.2 ▸ Below.refl _ _⟩
theorem with_int (g n r : Int) (h0 : 0 ≤ g) (h1 : g < 65536) (hr : ((withG g.toNat n : Nat) : Int) = r) : Calls Try.prog 16 #[.int .u16 g, .int .i64 n] W fun e w' => e = .returned (.int .u16 r) ∧ Below W.heap.size W w' := by
  obtain ⟨k, rfl⟩ := Int.eq_ofNat_of_zero_le h0
  subst hr
  exact (with_any k n W (by omega)).mono fun _ _ h => ⟨h.1, h.2 ▸ Below.refl _ _⟩
theorem without_int (g n r : Int) (h0 : 0 ≤ g) (h1 : g < 65536) (hr : ((withoutG g.toNat n : Nat) : Int) = r) : Calls Try.prog 18 #[.int .u16 g, .int .i64 n] W fun e w' => e = .returned (.int .u16 r) ∧ Below W.heap.size W w' := by
  obtain ⟨k, rfl⟩ := Int.eq_ofNat_of_zero_le h0
  subst hr
  exact (without_any k n W (by omega)).mono fun _ _ h => ⟨h.1, h.2 ▸ Below.refl _ _⟩
theorem both_int (a b r : Int) (h0 : 0 ≤ a) (h1 : a < 65536) (k0 : 0 ≤ b) (k1 : b < 65536) (hr : ((bothG a.toNat b.toNat : Nat) : Int) = r) : Calls Try.prog 28 #[.int .u16 a, .int .u16 b] W fun e w' => e = .returned (.int .u16 r) ∧ Below W.heap.size W w' := by
  obtain ⟨x, rfl⟩ := Int.eq_ofNat_of_zero_le h0
  obtain ⟨y, rfl⟩ := Int.eq_ofNat_of_zero_le k0
  subst hr
  exact (both_any x y W (by omega) (by omega)).mono fun _ _ h => ⟨h.1, h.2 ▸ Below.refl _ _⟩
theorem less_int (a b r : Int) (h0 : 0 ≤ a) (h1 : a < 65536) (k0 : 0 ≤ b) (k1 : b < 65536) (hr : ((lessG a.toNat b.toNat : Nat) : Int) = r) : Calls Try.prog 30 #[.int .u16 a, .int .u16 b] W fun e w' => e = .returned (.int .u16 r) ∧ Below W.heap.size W w' := by
  obtain ⟨x, rfl⟩ := Int.eq_ofNat_of_zero_le h0
  obtain ⟨y, rfl⟩ := Int.eq_ofNat_of_zero_le k0
  subst hr
  exact (less_any x y W (by omega) (by omega)).mono fun _ _ h => ⟨h.1, h.2 ▸ Below.refl _ _⟩
theorem parse_int (s : ByteArray) (r e0 : Int) (hr : ((parV s.data.toList : Nat) : Int) = r) (he : parE s.data.toList = e0) : Calls Try.prog 34 #[.string s] W fun e w' => e = .returned (.tuple #[.int .u16 r, .int .i64 e0]) ∧ Below W.heap.size W w' := by
  subst hr he
  exact parse_any s W
theorem of_cells (A : Option Addr) (n c : Nat) (l : List Int) (hn : l.length = n) (h : ISrc W A l) (r e0 : Int) (hl : l.length ≤ 100) (hr : ((ofV l : Nat) : Int) = r) (he : ofE l = e0) : Calls Try.prog 32 #[.slice A n c] W fun e w' => e = .returned (.tuple #[.int .u16 r, .int .i64 e0]) ∧ Below W.heap.size W w' := by
  subst hr he hn
  exact (of_any A c l W h (by omega)).mono fun _ _ h => ⟨h.1, h.2 ▸ Below.refl _ _⟩
end
theorem cell_at {W W' : World} (hb : Below W.heap.size W W') {p : Addr} {v : Value} (hc : W.cell? p = some v) : W'.cell? p = some v :=
  (hb.cell (World.block_lt_of_cell? W p hc)).trans hc
/-- A row of numbers that was just made. -/
theorem isrc_new (w : World) (l : List Int) : ISrc (w.alloc (.cells (iv l).toArray 3)) (some ⟨w.heap.size, 0, none⟩) l := fun _ => ⟨_, _, rfl, fun i hi => by
  rw [cell_of_row _ _ _ _ _ _ (heap_alloc_new w _)]
  simp [iv, List.getElem?_eq_getElem hi]⟩

/-- The texts that are none, in the order in which they are asked. -/
def noTexts : List ByteArray := [⟨#[52, 49]⟩, ⟨#[49, 49]⟩, ⟨#[103]⟩, ⟨#[]⟩, ⟨#[45, 45]⟩, ⟨#[45, 49]⟩, ⟨#[49, 45]⟩, ⟨#[65]⟩, ⟨#[32]⟩, ⟨#[48, 49, 50, 51, 52, 53, 54, 55, 56, 57, 97, 98, 99, 100, 101, 102, 48]⟩]
theorem noTexts_parse : ∀ k : Fin 10, parseG (noTexts[k.val]'k.isLt).data.toList = none := by decide +kernel

set_option maxRecDepth 100000 in
set_option maxHeartbeats 4000000 in
theorem names_walk (w : World) : Calls Try.prog 5 #[] w fun e w' => e = .returned (.bool true) ∧ Below w.heap.size w w' := by
  go_enter Try.func5, Try.ntmps5
  have hb0 : Below w.heap.size w (w.alloc (.cells #[.int .i64 7, .int .i64 7] 3)) := (Below.refl _ _).alloc (Nat.le_refl _) _
  go_wp2_with fail
  refine (of_cells _ _ _ _ [7, 7] rfl (isrc_new w [7, 7]) 128 0 (by decide) (by decide +kernel) (by decide +kernel)).mono ?_
  rintro e w1 ⟨rfl, b1⟩
  have hb1 := hb0.trans (b1.mono hb0.size)
  go_wp2_with fail
  refine (of_cells _ none 0 0 [] rfl (ISrc.nil _ _) 0 0 (by decide) (by decide +kernel) (by decide +kernel)).mono ?_
  rintro e w2 ⟨rfl, b2⟩
  have hb2 := hb1.trans (b2.mono hb1.size)
  go_wp2_with fail
  refine (of_cells _ _ _ _ [0, 16] rfl (isrc_new w2 [0, 16]) 0 2 (by decide) (by decide +kernel) (by decide +kernel)).mono ?_
  rintro e w3 ⟨rfl, b3⟩
  have hb3 := (hb2.alloc hb2.size (.cells #[.int .i64 0, .int .i64 16] 3)).trans (b3.mono (by have := hb2.size; simp; omega))
  go_wp2_with fail
  refine (of_cells _ _ _ _ [-1] rfl (isrc_new w3 [-1]) 0 2 (by decide) (by decide +kernel) (by decide +kernel)).mono ?_
  rintro e w4 ⟨rfl, b4⟩
  have hb4 := (hb3.alloc hb3.size (.cells #[.int .i64 (-1)] 3)).trans (b4.mono (by have := hb3.size; simp; omega))
  clear hb0 hb1 hb2 hb3 b1 b2 b3 b4
  go_wp2_with fail
  have hbS := hb4.alloc hb4.size (.cells #[.string ⟨#[52, 49]⟩, .string ⟨#[49, 49]⟩, .string ⟨#[103]⟩, .string ⟨#[]⟩, .string ⟨#[45, 45]⟩, .string ⟨#[45, 49]⟩, .string ⟨#[49, 45]⟩, .string ⟨#[65]⟩, .string ⟨#[32]⟩, .string ⟨#[48, 49, 50, 51, 52, 53, 54, 55, 56, 57, 97, 98, 99, 100, 101, 102, 48]⟩] 9)
  obtain ⟨wS, hwS⟩ : ∃ wS, w4.alloc (.cells #[.string ⟨#[52, 49]⟩, .string ⟨#[49, 49]⟩, .string ⟨#[103]⟩, .string ⟨#[]⟩, .string ⟨#[45, 45]⟩, .string ⟨#[45, 49]⟩, .string ⟨#[49, 45]⟩, .string ⟨#[65]⟩, .string ⟨#[32]⟩, .string ⟨#[48, 49, 50, 51, 52, 53, 54, 55, 56, 57, 97, 98, 99, 100, 101, 102, 48]⟩] 9) = wS := ⟨_, rfl⟩
  have hcell : ∀ k (hk : k < 10), wS.cell? ⟨w4.heap.size, k, none⟩ = some (.string (noTexts[k]'hk)) := fun k hk => by
    rw [← hwS, cell_of_row _ _ _ _ _ _ (heap_alloc_new w4 _)]
    have hc : k = 0 ∨ k = 1 ∨ k = 2 ∨ k = 3 ∨ k = 4 ∨ k = 5 ∨ k = 6 ∨ k = 7 ∨ k = 8 ∨ k = 9 := by omega
    rcases hc with rfl | rfl | rfl | rfl | rfl | rfl | rfl | rfl | rfl | rfl <;> rfl
  rw [hwS] at hbS ⊢
  have HC := Lib.hid hcell
  clear hcell hwS hb4
  go_loopw [9, 41] (fun m i wr => (∃ k : Nat, k ≤ 10 ∧ i = .int .i64 (k : Int) ∧ m = .int .i64 (k : Int)) ∧ Below wS.heap.size wS wr) (fun _ i _ => 10 - (intOf i).toNat)
  case atStart => exact ⟨⟨0, by omega, rfl, rfl⟩, Below.refl _ _⟩
  case round =>
    obtain ⟨⟨k, hk, rfl, rfl⟩, hbl⟩ := hrel
    by_cases hlt : k < 10
    · have hc := cell_at hbl (HC.out k hlt)
      have hp := noTexts_parse ⟨k, hlt⟩
      simp only at hp
      generalize (noTexts[k]'hlt) = b at *
      have HP := Lib.hid (fun W => parse_int W b 0 2 (by rw [parV, hp]; rfl) (by rw [parE, hp]; rfl))
      clear hp
      go_wp2_with fail
      refine (HP.out _).mono ?_
      rintro e w5 ⟨rfl, b5⟩
      have hb5 := hbl.trans (b5.mono hbl.size)
      go_wp2_with fail
      go_roundw
      case rel => exact ⟨⟨k + 1, by omega, by go_num, by go_num⟩, hb5⟩
      case measure => simp [intOf]; omega
    · obtain rfl : k = 10 := by omega
      have hb := hbS.trans (hbl.mono hbS.size)
      clear hbS hbl HC
      go_wp2_with fail
      refine (parse_int _ _ 65535 0 (by decide +kernel) (by decide +kernel)).mono ?_
      rintro e w5 ⟨rfl, b5⟩
      replace hb := hb.trans (b5.mono hb.size)
      clear b5
      go_wp2_with fail
      refine (parse_int _ _ 0 0 (by decide +kernel) (by decide +kernel)).mono ?_
      rintro e w5 ⟨rfl, b5⟩
      replace hb := hb.trans (b5.mono hb.size)
      clear b5
      go_wp2_with fail
      refine (next_int _ 128 (7) (7) (by decide) (by decide) (by decide +kernel)).mono ?_
      rintro e w5 ⟨rfl, b5⟩
      replace hb := hb.trans (b5.mono hb.size)
      clear b5
      go_wp2_with fail
      refine (count_int _ 128 1 (by decide) (by decide) (by decide +kernel)).mono ?_
      rintro e w5 ⟨rfl, b5⟩
      replace hb := hb.trans (b5.mono hb.size)
      clear b5
      go_wp2_with fail
      refine (next_int _ 0 (7) (-1) (by decide) (by decide) (by decide +kernel)).mono ?_
      rintro e w5 ⟨rfl, b5⟩
      replace hb := hb.trans (b5.mono hb.size)
      clear b5
      go_wp2_with fail
      refine (text_int _ 0 ⟨#[45]⟩ (by decide) (by decide) (by decide +kernel)).mono ?_
      rintro e w5 ⟨rfl, b5⟩
      replace hb := hb.trans (b5.mono hb.size)
      clear b5
      go_wp2_with fail
      refine (first_int _ (0) 0 (by decide +kernel)).mono ?_
      rintro e w5 ⟨rfl, b5⟩
      replace hb := hb.trans (b5.mono hb.size)
      clear b5
      go_wp2_with fail
      refine (first_int _ (-5) 0 (by decide +kernel)).mono ?_
      rintro e w5 ⟨rfl, b5⟩
      replace hb := hb.trans (b5.mono hb.size)
      clear b5
      go_wp2_with fail
      refine (first_int _ (3) 7 (by decide +kernel)).mono ?_
      rintro e w5 ⟨rfl, b5⟩
      replace hb := hb.trans (b5.mono hb.size)
      clear b5
      go_wp2_with fail
      refine (first_int _ (16) 65535 (by decide +kernel)).mono ?_
      rintro e w5 ⟨rfl, b5⟩
      replace hb := hb.trans (b5.mono hb.size)
      clear b5
      go_wp2_with fail
      refine (first_int _ (99) 65535 (by decide +kernel)).mono ?_
      rintro e w5 ⟨rfl, b5⟩
      replace hb := hb.trans (b5.mono hb.size)
      clear b5
      go_wp2_with fail
      refine (has_int _ 65535 (15) true (by decide) (by decide) (by decide +kernel)).mono ?_
      rintro e w5 ⟨rfl, b5⟩
      replace hb := hb.trans (b5.mono hb.size)
      clear b5
      go_wp2_with fail
      refine (has_int _ 65535 (16) false (by decide) (by decide) (by decide +kernel)).mono ?_
      rintro e w5 ⟨rfl, b5⟩
      replace hb := hb.trans (b5.mono hb.size)
      clear b5
      go_wp2_with fail
      refine (has_int _ 65535 (-1) false (by decide) (by decide) (by decide +kernel)).mono ?_
      rintro e w5 ⟨rfl, b5⟩
      replace hb := hb.trans (b5.mono hb.size)
      clear b5
      go_wp2_with fail
      refine (with_int _ 0 16 0 (by decide) (by decide) (by decide +kernel)).mono ?_
      rintro e w5 ⟨rfl, b5⟩
      replace hb := hb.trans (b5.mono hb.size)
      clear b5
      go_wp2_with fail
      refine (without_int _ 65535 (-1) 65535 (by decide) (by decide) (by decide +kernel)).mono ?_
      rintro e w5 ⟨rfl, b5⟩
      replace hb := hb.trans (b5.mono hb.size)
      clear b5
      go_wp2_with fail
      refine (next_int _ 65535 (16) (-1) (by decide) (by decide) (by decide +kernel)).mono ?_
      rintro e w5 ⟨rfl, b5⟩
      replace hb := hb.trans (b5.mono hb.size)
      clear b5
      go_wp2_with fail
      refine (next_int _ 65535 (-1) (-1) (by decide) (by decide) (by decide +kernel)).mono ?_
      rintro e w5 ⟨rfl, b5⟩
      replace hb := hb.trans (b5.mono hb.size)
      clear b5
      go_wp2_with fail
      refine (next_int _ 65535 (15) (0) (by decide) (by decide) (by decide +kernel)).mono ?_
      rintro e w5 ⟨rfl, b5⟩
      replace hb := hb.trans (b5.mono hb.size)
      clear b5
      go_wp2_with fail
      refine (rank_int _ 65535 (5) 5 (by decide) (by decide) (by decide +kernel)).mono ?_
      rintro e w5 ⟨rfl, b5⟩
      replace hb := hb.trans (b5.mono hb.size)
      clear b5
      go_wp2_with fail
      refine (rank_int _ 65535 (-3) 0 (by decide) (by decide) (by decide +kernel)).mono ?_
      rintro e w5 ⟨rfl, b5⟩
      replace hb := hb.trans (b5.mono hb.size)
      clear b5
      go_wp2_with fail
      refine (rank_int _ 65535 (99) 16 (by decide) (by decide) (by decide +kernel)).mono ?_
      rintro e w5 ⟨rfl, b5⟩
      replace hb := hb.trans (b5.mono hb.size)
      clear b5
      go_wp2_with fail
      refine (alive_any _).mono ?_
      rintro e w5 ⟨rfl, b5⟩
      replace hb := hb.trans (b5.mono hb.size)
      clear b5
      go_wp2_with fail
      refine (both_int _ 12 10 8 (by decide) (by decide) (by decide) (by decide) (by decide +kernel)).mono ?_
      rintro e w5 ⟨rfl, b5⟩
      replace hb := hb.trans (b5.mono hb.size)
      clear b5
      go_wp2_with fail
      refine (less_int _ 12 10 4 (by decide) (by decide) (by decide) (by decide) (by decide +kernel)).mono ?_
      rintro e w5 ⟨rfl, b5⟩
      replace hb := hb.trans (b5.mono hb.size)
      clear b5
      go_wp2_with fail
      go_ret
      exact ⟨rfl, hb⟩

end Go.Proofs.Ytnefjkbnolbpbaa
