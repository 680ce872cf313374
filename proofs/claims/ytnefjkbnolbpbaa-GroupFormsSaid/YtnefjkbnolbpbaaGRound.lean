/- GroupRound, its walk. -/
import Derived.Test.YtnefjkbnolbpbaaGRing
namespace Go.Proofs.Ytnefjkbnolbpbaa
open Go.RowKit

theorem ownsRow_below {w w' : World} {b : Nat} {e : TypeId} {size : Nat} {v : Value} {n : Nat} {xs : List Value} (h : w.ownsRow b e size v n xs) (hb : Below w.heap.size w w') : w'.ownsRow b e size v n xs := by
  obtain ⟨h1, h2⟩ := h
  refine ⟨h1, ?_⟩
  rcases h2 with h2 | ⟨g, cap, cur, rfl, hg, hh, r⟩
  · exact .inl h2
  · exact .inr ⟨g, cap, cur, rfl, hg, (hb.block g (Array.getElem?_eq_some_iff.1 hh).1).trans hh, r⟩
/-- A row that the call owns, as a slice that reads as numbers. -/
theorem own_isrc {w : World} {b n : Nat} {v : Value} {l : List Int} (hl : l.length = n) (h : w.ownsRow b 3 1 v n (iv l)) : ∃ A c, v = .slice A n c ∧ ISrc w A l := by
  subst hl
  rcases h.2 with ⟨rfl, h0⟩ | ⟨g, cap, cur, rfl, hg, hblk, _⟩
  · refine ⟨none, 0, by rw [h0], ?_⟩
    rw [List.eq_nil_of_length_eq_zero h0]
    exact ISrc.nil _ _
  · refine ⟨_, cap, rfl, fun h0 => ⟨g, 0, rfl, fun i hi => ?_⟩⟩
    have := h.cells (g := g) rfl i (.int .i64 l[i]) (by simp [iv, List.getElem?_eq_getElem hi])
    have hadd : (⟨g, 0, none⟩ : Addr).add i = ⟨g, 0 + i, none⟩ := by unfold Addr.add; split <;> simp_all
    rwa [hadd] at this
/-- A slice of n numbers; nothing that was there has changed. -/
def SliceN (n : Nat) (w : World) (e : Ending) (w' : World) : Prop := ∃ A c, e = .returned (.slice A n c) ∧ Below w.heap.size w w'
theorem list_n (g : Nat) (w : World) (hg : g < 65536) : Calls Try.prog 11 #[.int .u16 (g : Int)] w (SliceN (countG g) w) :=
  (list_any g w hg).mono fun _ _ h => by
    obtain ⟨A, c, rfl, _, _, hb⟩ := h.opened
    rw [listI_length]
    exact ⟨A, c, rfl, hb⟩
theorem next_val (g : Nat) (n v : Int) (hv : nextG g n = v) (w : World) (hg : g < 65536) : Calls Try.prog 22 #[.int .u16 (g : Int), .int .i64 n] w fun e w' => e = .returned (.int .i64 v) ∧ Below w.heap.size w w' := by
  subst hv
  exact next_any g n w hg
theorem next_zero (n : Int) : nextG 0 n = -1 := by
  rw [nextG_fol]
  refine findI_none fun i _ => ?_
  unfold hasG
  rw [Nat.zero_testBit, Bool.and_false]

theorem round_zero (x : Nat) (w : World) (hx : x < 256) : Calls Try.prog 6 #[.int .u16 0, .int .u8 (x : Int)] w fun e w' => e = .returned (.bool true) ∧ Below w.heap.size w w' := by
  have NX : ∀ n w, Calls Try.prog 22 #[.int .u16 0, .int .i64 n] w fun e w' => e = .returned (.int .i64 (-1)) ∧ Below w.heap.size w w' := fun n w => next_val 0 n (-1) (next_zero n) w (by decide)
  have HNX := Lib.hid NX
  clear NX
  go_enter Try.func6, Try.ntmps6
  go_wp2_with fail
  refine (alive_any _).mono ?_
  rintro e w0 ⟨rfl, b0⟩
  go_wp2_with fail
  refine (HNX.out _ _).mono ?_
  rintro e w1 ⟨rfl, b1⟩
  go_wp2_with fail
  go_ret
  exact ⟨rfl, b0.trans (b1.mono b0.size)⟩

set_option maxRecDepth 100000 in
set_option maxHeartbeats 4000000 in
theorem round_some (g x : Nat) (w : World) (hg : g < 65536) (hx : x < 256) (h0 : g ≠ 0) : Calls Try.prog 6 #[.int .u16 (g : Int), .int .u8 (x : Int)] w fun e w' => e = .returned (.bool true) ∧ Below w.heap.size w w' := by
  have hpos := countG_pos hg h0
  have hz : ((g : Int) == 0) = false := by rw [beq_eq_false_iff_ne]; omega
  obtain ⟨r, _, hfirst⟩ := next_first hpos (n := x % 16) (Nat.mod_lt _ (by decide))
  have em : ((x : Int) % 16) = ((x % 16 : Nat) : Int) := by omega
  rw [← em] at hfirst
  clear em
  have NF := fun W => next_val g ((x : Int) % 16) (ringI g r 0) hfirst W hg
  have NR := fun k W => next_val g (ringI g r k) (ringI g r (k + 1)) (next_ring hpos r k) W hg
  have HS := fun k W => has_eq g (ringI g r k) true (ring_has hpos r k) W hg
  have CN := fun W => count_any g W hg
  have LN := fun W => list_n g W hg
  have hc16 := countG_le g
  have hround := ring_round g r
  have OF : ∀ W A c, ISrc W A (seenI g r (countG g)) → Calls Try.prog 32 #[.slice A (countG g) c] W fun e w' => e = .returned (.tuple #[.int .u16 (g : Int), .int .i64 0]) ∧ W = w' := fun W A c h => by
    have := of_any A c (seenI g r (countG g)) W h (by rw [seen_length]; omega)
    rw [seen_length] at this
    refine this.mono ?_
    rintro e w' ⟨rfl, rfl⟩
    rw [(seen_of hg hpos r).1, (seen_of hg hpos r).2]
    exact ⟨rfl, rfl⟩
  have HNF := Lib.hid NF; have HNR := Lib.hid NR; have HHS := Lib.hid HS; have HCN := Lib.hid CN; have HLN := Lib.hid LN; have HOF := Lib.hid OF; have HRD := Lib.hid hround
  clear NF NR HS CN LN OF hround hfirst hg h0
  generalize countG g = c at *
  obtain ⟨i0, hi, hz0, hz1, hz2⟩ := info_parts int_info
  go_enter Try.func6, Try.ntmps6
  go_wp2_with fail
  refine (alive_any _).mono ?_
  rintro e w0 ⟨rfl, b0⟩
  go_wp2_with fail
  refine (HNF.out _).mono ?_
  rintro e w1 ⟨rfl, b1⟩
  have hb1 := b0.trans (b1.mono b0.size)
  clear b0 b1
  go_wp2_with fail
  refine (HCN.out _).mono ?_
  rintro e w2 ⟨rfl, n2, rfl⟩
  have hsz1 := hb1.size
  go_wp2_with fail
  go_loopw [8, 9, 30] (fun a v i wr => ∃ k : Nat, k ≤ c ∧ i = .int .i64 (k : Int) ∧ a = .int .i64 (ringI g r k) ∧ wr.ownsRow w1.heap.size 3 1 v k (iv (seenI g r k)) ∧ Below w.heap.size w wr ∧ w1.heap.size ≤ wr.heap.size) (fun _ _ i _ => c - (intOf i).toNat)
  case atStart =>
    refine ⟨0, Nat.zero_le _, rfl, rfl, ?_, below_drewN (hb1.alloc hsz1 _) _, by simp⟩
    exact World.ownsRow_made w1 #[] 0 (Nat.le_refl _) (by simp [maxLen]) rfl
  case round =>
    obtain ⟨k, hk, rfl, rfl, hrow, hbl, hsz⟩ := hrel
    by_cases hlt : k < c
    · have hs := seen_succ g r k
      have HSS := Lib.hid hs
      clear hs
      go_wp2_with fail
      refine (HHS.out k _).mono ?_
      rintro e w' ⟨rfl, rfl⟩
      go_wp2_with (at_builtin; refine wpList_append_own _ rfl _ _ 24 rfl w1.heap.size 3 i0 (.int .i64 0) 1 8 Try.underlying24 hi hz0 hz1 hz2 rfl (by decide) _ _ _ rfl (hrow.alloc _) ⟨w'.heap.size, 0, none⟩ 1 1 [.int .i64 (ringI g r k)] rfl rfl (cell_one_new _ _ _) (by simp [Value.oneCell']) (by unfold maxLen; omega) (by omega) (by simp; omega) ?_; intro v' w3 hown' hgrow _; have hb3 := ((Below.refl w1.heap.size w').alloc hsz _).grown hgrow (by simp; omega) (fun j ej => (hrow.lt j ej).1))
      refine (HNR.out k _).mono ?_
      rintro e w4 ⟨rfl, b4⟩
      have hb4 := (hbl.trans (hb3.mono hsz1)).trans (b4.mono (Nat.le_trans hbl.size hb3.size))
      have hsz4 : w1.heap.size ≤ w4.heap.size := Nat.le_trans hsz (Nat.le_trans hb3.size b4.size)
      have hown4 := ownsRow_below hown' b4
      clear hown' hgrow hb3 b4 hrow hbl hsz
      go_wp2_with fail
      go_roundw
      case rel => exact ⟨k + 1, by omega, by go_num, rfl, by rw [HSS.out, iv_append]; exact hown4, hb4, hsz4⟩
      case measure => simp [intOf]; omega
    · obtain rfl : k = c := by omega
      obtain ⟨A, cc, rfl, hsrc⟩ := own_isrc (seen_length g r k) hrow
      rw [HRD.out]
      have hO := HOF.out wr A cc hsrc
      clear hrow hsrc HNR HHS HNF HRD
      go_wp2_with fail
      refine hO.mono ?_
      rintro e w' ⟨rfl, rfl⟩
      go_wp2_with fail
      refine (HLN.out _).mono ?_
      rintro e w5 ⟨A5, c5, rfl, b5⟩
      go_wp2_with fail
      go_ret
      exact ⟨rfl, hbl.trans (b5.mono hbl.size)⟩

theorem round_walk (g x : Nat) (w : World) (hg : g < 65536) (hx : x < 256) : Calls Try.prog 6 #[.int .u16 (g : Int), .int .u8 (x : Int)] w fun e w' => e = .returned (.bool true) ∧ Below w.heap.size w w' := by
  by_cases h0 : g = 0
  · subst h0
    exact round_zero x w hx
  · exact round_some g x w hg hx h0

end Go.Proofs.Ytnefjkbnolbpbaa
