/- GroupAsks, its walk. -/
import Derived.Test.YtnefjkbnolbpbaaGRound
namespace Go.Proofs.Ytnefjkbnolbpbaa
open Go.RowKit

theorem count_b (g : Nat) (W : World) (hg : g < 65536) : Calls Try.prog 20 #[.int .u16 (g : Int)] W fun e w' => e = .returned (.int .i64 ((countG g : Nat) : Int)) ∧ Below W.heap.size W w' :=
  (count_any g W hg).mono fun _ w' h => ⟨h.1, by obtain ⟨n, rfl⟩ := h.2; exact below_drewN (Below.refl _ _) n⟩
theorem rank_b (g : Nat) (n : Int) (W : World) (hg : g < 65536) : Calls Try.prog 24 #[.int .u16 (g : Int), .int .i64 n] W fun e w' => e = .returned (.int .i64 ((rankG g n : Nat) : Int)) ∧ Below W.heap.size W w' :=
  (rank_any g n W hg).mono fun _ w' h => ⟨h.1, by obtain ⟨n, rfl⟩ := h.2; exact below_drewN (Below.refl _ _) n⟩
theorem ints_b (A B : Option Addr) (c d : Nat) (l : List Int) (W : World) (hA : ISrc W A l) (hB : ISrc W B l) (hl : l.length ≤ 9223372036854775807) :
    Calls Try.prog 12 #[.slice A l.length c, .slice B l.length d] W fun e w' => e = .returned (.bool true) ∧ Below W.heap.size W w' :=
  (ints_any A B c d l l W hA hB hl).mono fun _ w' h => ⟨by rw [← sameL_refl l]; exact h.1, by obtain ⟨n, rfl⟩ := h.2; exact below_drewN (Below.refl _ _) n⟩

set_option maxRecDepth 100000 in
set_option maxHeartbeats 4000000 in
theorem asks_walk (a b : Nat) (n : Int) (w : World) (ha : a < 65536) (hb : b < 65536) : Calls Try.prog 3 #[.int .u16 (a : Int), .int .u16 (b : Int), .int .i64 n] w fun e w' => e = .returned (.bool true) ∧ Below w.heap.size w w' := by
  have LI := fun W => list_any a W ha
  have LR := fun W => refList_any a W ha
  have hll := listI_le a
  have HA := Lib.hid ha
  have HB := Lib.hid hb
  clear ha hb
  generalize listI a = l at *
  have HLI := Lib.hid LI
  have HLR := Lib.hid LR
  clear LI LR
  go_enter Try.func3, Try.ntmps3
  go_wp2_with fail
  refine (HLI.out _).mono ?_
  rintro e w1 ⟨v, rfl, hown, b1⟩
  obtain ⟨A, c, rfl, hsrc⟩ := own_isrc rfl hown
  go_wp2_with fail
  refine (HLR.out _).mono ?_
  rintro e w2 hf
  obtain ⟨A2, c2, rfl, hs2, _, b2⟩ := hf.opened
  clear hf
  have hs1 := hsrc.below b2
  have hown2 := ownsRow_below hown b2
  have hb2 := b1.trans (b2.mono b1.size)
  clear hsrc hown b1 b2
  go_wp2_with fail
  refine (ints_b _ _ _ _ l _ hs1 hs2 (by omega)).mono ?_
  rintro e w3 ⟨rfl, b3⟩
  have hown3 := ownsRow_below hown2 b3
  have hb3 := hb2.trans (b3.mono hb2.size)
  clear hs1 hs2 hown2 hb2 b3
  go_wp2_with fail
  go_loopw [18] (fun i wr => ∃ k : Nat, k ≤ l.length ∧ i = .int .i64 (k : Int) ∧ (∃ xs, wr.ownsRow w.heap.size 3 1 (.slice A l.length c) l.length xs) ∧ Below w.heap.size w wr) (fun i _ => l.length - (intOf i).toNat)
  case atStart => exact ⟨0, Nat.zero_le _, rfl, ⟨_, hown3⟩, hb3⟩
  case round =>
    obtain ⟨k, hk, rfl, ⟨xs, hrow⟩, hbl⟩ := hrel
    clear hown3 hb3
    by_cases hlt : k < l.length
    · rcases hrow.2 with ⟨e, h0⟩ | ⟨g, cap, cur, e, hg, _⟩
      · omega
      · obtain ⟨rfl, _, rfl⟩ : A = some ⟨g, 0, none⟩ ∧ True ∧ c = cap := by
          rw [Value.slice.injEq] at e
          exact ⟨e.1, trivial, e.2.2⟩
        obtain ⟨u, hcell⟩ : ∃ u, wr.cell? ⟨g, k, none⟩ = some u := by
          have hx : xs.length = l.length := by have := hrow.1; omega
          have hcell := hrow.cellAt k (by omega)
          rw [List.getElem?_eq_getElem (by omega)] at hcell
          exact ⟨_, hcell⟩
        have hfz := hrow.frozenAt k
        have hst := (hrow.stored k (.int .i64 99)).1
        have hb4 := hbl.setCell (p := ⟨g, k, none⟩) hg (.int .i64 99)
        clear hrow hbl e hg
        go_wp2_with fail
        go_roundw
        case rel => exact ⟨k + 1, by omega, by go_num, ⟨_, hst⟩, hb4⟩
        case measure => simp [intOf]; omega
    · clear hrow
      go_wp2_with (first
        | (go_at_call 11; refine (HLI.out _).mono ?_; rintro e w4 hf; obtain ⟨A4, c4, rfl, hs4, _, b4⟩ := hf.opened; clear hf; have hbl := hbl.trans (b4.mono hbl.size); clear b4)
        | (go_at_call 13; refine (HLR.out _).mono ?_; rintro e w5 hf; obtain ⟨A5, c5, rfl, hs5, _, b5⟩ := hf.opened; clear hf; have hs6 := hs4.below b5; have hbl := hbl.trans (b5.mono hbl.size); clear b5)
        | (go_at_call 12; refine (ints_b _ _ _ _ l _ hs6 hs5 (by omega)).mono ?_; rintro e w7 ⟨rfl, b7⟩; have hbl := hbl.trans (b7.mono hbl.size); clear b7)
        | (go_at_call 14; refine (has_any _ _ _ HA.out).mono ?_; rintro e w' ⟨rfl, rfl⟩)
        | (go_at_call 15; refine (refHas_any _ _ _ HA.out).mono ?_; rintro e w' ⟨rfl, rfl⟩)
        | (go_at_call 16; refine (with_any _ _ _ HA.out).mono ?_; rintro e w' ⟨rfl, rfl⟩)
        | (go_at_call 17; refine (refWith_any _ _ _ HA.out).mono ?_; rintro e w' ⟨rfl, rfl⟩)
        | (go_at_call 18; refine (without_any _ _ _ HA.out).mono ?_; rintro e w' ⟨rfl, rfl⟩)
        | (go_at_call 19; refine (refWithout_any _ _ _ HA.out).mono ?_; rintro e w' ⟨rfl, rfl⟩)
        | (go_at_call 20; refine (count_b _ _ HA.out).mono ?_; rintro e w7 ⟨rfl, b7⟩; have hbl := hbl.trans (b7.mono hbl.size); clear b7)
        | (go_at_call 21; refine (refCount_any _ _ HA.out).mono ?_; rintro e w7 ⟨rfl, b7⟩; have hbl := hbl.trans (b7.mono hbl.size); clear b7)
        | (go_at_call 22; refine (next_any _ _ _ HA.out).mono ?_; rintro e w7 ⟨rfl, b7⟩; have hbl := hbl.trans (b7.mono hbl.size); clear b7)
        | (go_at_call 23; refine (refNext_any _ _ _ HA.out).mono ?_; rintro e w' ⟨rfl, rfl⟩)
        | (go_at_call 24; refine (rank_b _ _ _ HA.out).mono ?_; rintro e w7 ⟨rfl, b7⟩; have hbl := hbl.trans (b7.mono hbl.size); clear b7)
        | (go_at_call 25; refine (refRank_any _ _ _ HA.out).mono ?_; rintro e w7 ⟨rfl, b7⟩; have hbl := hbl.trans (b7.mono hbl.size); clear b7)
        | (go_at_call 26; refine (first_any _ _).mono ?_; rintro e w' ⟨rfl, rfl⟩)
        | (go_at_call 27; refine (refFirst_any _ _).mono ?_; rintro e w' ⟨rfl, rfl⟩)
        | (go_at_call 28; refine (both_any _ _ _ HA.out HB.out).mono ?_; rintro e w' ⟨rfl, rfl⟩)
        | (go_at_call 29; refine (refBoth_any _ _ _ HA.out HB.out).mono ?_; rintro e w7 ⟨rfl, b7⟩; have hbl := hbl.trans (b7.mono hbl.size); clear b7)
        | (go_at_call 30; refine (less_any _ _ _ HA.out HB.out).mono ?_; rintro e w' ⟨rfl, rfl⟩)
        | (go_at_call 31; refine (refLess_any _ _ _ HA.out HB.out).mono ?_; rintro e w7 ⟨rfl, b7⟩; have hbl := hbl.trans (b7.mono hbl.size); clear b7))
      go_ret
      exact ⟨rfl, hbl⟩

end Go.Proofs.Ytnefjkbnolbpbaa
