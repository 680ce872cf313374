/- The document's Parse of a group, by a contract. -/
import Derived.Test.YtnefjkbnolbpbaaGParse
import Derived.Test.YtnefjkbnolbpbaaGRef
namespace Go.Proofs.Ytnefjkbnolbpbaa
open Go.RowKit

/-- The digit at place k is b just if b's node is k. -/
theorem dig_node (k : Nat) (hk : k < 16) (b : UInt8) : ((((digsB)[k]'hk).toNat : Int) == ((b.toNat : Nat) : Int)) = decide (nodeI (b.toNat : Int) = (k : Int)) := by
  have key : ∀ (k : Fin 16) (c : Fin 256), ((((digsB)[k.val]'k.isLt).toNat : Int) == (((UInt8.ofNat c.val).toNat : Nat) : Int)) = decide (nodeI ((UInt8.ofNat c.val).toNat : Int) = (k.val : Int)) := by decide +kernel
  have h := key ⟨k, hk⟩ ⟨b.toNat, UInt8.toNat_lt _⟩
  rw [show UInt8.ofNat b.toNat = b from UInt8.ofNat_toNat] at h
  exact h

/-- What the inner loop has behind k digits. -/
def seekI (n : Int) (k : Nat) : Int := if n < (k : Int) then n else -1
theorem seek_hit {n : Int} {k : Nat} (h : n = (k : Int)) : seekI n (k + 1) = (k : Int) := by
  unfold seekI
  rw [if_pos (by omega), h]
theorem seek_miss {n : Int} {k : Nat} (h : n ≠ (k : Int)) : seekI n (k + 1) = seekI n k := by
  unfold seekI
  by_cases hlt : n < (k : Int)
  · rw [if_pos hlt, if_pos (by omega)]
  · rw [if_neg hlt, if_neg (by omega)]
theorem seek_end {n : Int} (h : n ≤ 15) : seekI n 16 = n := if_pos (by omega)
theorem seek_start {n : Int} (h : -1 ≤ n) : seekI n 0 = -1 := by
  unfold seekI
  split
  · omega
  · rfl

set_option maxHeartbeats 4000000 in
theorem refParse_any (s : ByteArray) (w : World) (hs : s.size ≤ 9223372036854775807) : Calls Try.prog 35 #[.string s] w (SaysParse w s.data.toList) := by
  by_cases h1 : s.data.toList = [45]
  · obtain ⟨⟨l⟩⟩ := s
    obtain rfl : l = [45] := h1
    go_enter Try.func35, Try.ntmps35
    go_wp2_with fail
    go_ret2
    exact SaysParse.good (g := 0) (by decide) (Below.refl _ _)
  have hp : s.data.toList ≠ [] → parseG s.data.toList = parseL s.data.toList 0 (-1) := fun h0 => by rw [parseG, if_neg h0, if_neg h1]
  have e1 : (s.toList == [45]) = false := by rw [ByteArray.toList_eq, beq_eq_false_iff_ne]; exact h1
  have e4 : ¬ s.toList = [45] := by rw [ByteArray.toList_eq]; exact h1
  have HP := Lib.hid hp
  clear hp h1
  go_enter Try.func35, Try.ntmps35
  go_wp2_with fail
  go_loopw [4, 5, 6] (fun g b i wr => (∃ (pos gv : Nat) (bv : Int), pos ≤ s.size ∧ i = .int .i64 (pos : Int) ∧ g = .int .u16 (gv : Int) ∧ b = .int .i64 bv ∧ gv < 65536 ∧ -1 ≤ bv ∧ bv ≤ 15 ∧ (pos = 0 → bv = -1) ∧ (0 < pos → 0 ≤ bv) ∧ parseL (s.data.toList.drop pos) gv bv = parseL s.data.toList 0 (-1)) ∧ ∃ n, wr = w.drewN n) (fun _ _ i _ => s.size - (intOf i).toNat)
  case atStart => exact ⟨⟨0, 0, -1, by omega, rfl, rfl, rfl, by omega, by omega, by omega, fun _ => rfl, fun h => absurd h (by omega), by rw [List.drop_zero]⟩, 0, rfl⟩
  case round =>
    obtain ⟨⟨pos, gv, bv, hpos, rfl, rfl, rfl, hgv, hb0, hb1, hz0, hz1, hpar⟩, hwr⟩ := hrel
    have HZ0 := Lib.hid hz0
    have HZ1 := Lib.hid hz1
    clear hz0 hz1
    by_cases hlt : pos < s.size
    · rw [drop_at s pos hlt, parseL] at hpar
      have hsp : ∀ W, (Instr.index 9 (.string s) (.int .i64 (pos : Int))).run Try.prog W = .ok (.int .u8 (((s[pos]'hlt).toNat : Nat) : Int)) W := fun W => by
        rw [run_index_string W 9 _ .i64 _ Try.underlying9, dif_pos ⟨by omega, by omega⟩]
        rfl
      have hdn := fun k hk => dig_node k hk (s[pos]'hlt)
      have hn := nodeI_bounds (((s[pos]'hlt).toNat : Nat) : Int)
      have hdi : ∀ (k : Nat) (hk : k < 16) W, (Instr.index 9 (.string digsB) (.int .i64 (k : Int))).run Try.prog W = .ok (.int .u8 (((digsB)[k]'hk).toNat : Int)) W := fun k hk W => by
        rw [run_index_string W 9 _ .i64 _ Try.underlying9, dif_pos ⟨by omega, by rw [show digsB.size = 16 from rfl]; omega⟩]
        rfl
      generalize nodeI (((s[pos]'hlt).toNat : Nat) : Int) = n at *
      generalize (((s[pos]'hlt).toNat : Nat) : Int) = b at *
      have HDN := Lib.hid hdn
      have HDI := Lib.hid hdi
      have HPar := Lib.hid hpar
      have HWR := Lib.hid hwr
      have hst := seek_start hn.1
      have HST := Lib.hid hst
      clear hdn hdi hpar hwr hst
      obtain ⟨hn0, hn1⟩ := hn
      go_wp2_with fail
      go_loopw [7, 8] (fun m i w2 => (∃ k : Nat, k ≤ 16 ∧ i = .int .i64 (k : Int) ∧ m = .int .i64 (seekI n k)) ∧ ∃ n, w2 = w.drewN n) (fun _ i _ => 16 - (intOf i).toNat)
      case atStart => exact ⟨⟨0, by omega, rfl, by rw [HST.out]⟩, HWR.out⟩
      case round =>
        obtain ⟨⟨k, hk, rfl, rfl⟩, hw2⟩ := hrel
        have HW2 := Lib.hid hw2
        clear hw2
        by_cases hk16 : k < 16
        · have hd1 := HDN.out k hk16
          have hd2 := HDI.out k hk16
          generalize (((digsB)[k]'hk16).toNat : Int) = d at *
          by_cases hnk : n = (k : Int)
          · rw [decide_eq_true hnk] at hd1
            have HS := Lib.hid (seek_hit hnk)
            clear hnk
            go_wp2_with fail
            go_quiet (fail)
            go_wp2_with fail
            go_roundw
            case rel => exact ⟨⟨k + 1, by omega, by go_num, by rw [HS.out]⟩, by obtain ⟨n, rfl⟩ := HW2.out; exact ⟨n + nq, by rw [World.drewN_drewN]⟩⟩
            case measure => simp [intOf]; omega
          · rw [decide_eq_false hnk] at hd1
            have HS := Lib.hid (seek_miss hnk)
            clear hnk
            go_wp2_with fail
            go_quiet (fail)
            go_wp2_with fail
            go_roundw
            case rel => exact ⟨⟨k + 1, by omega, by go_num, by rw [HS.out]⟩, by obtain ⟨n, rfl⟩ := HW2.out; exact ⟨n + nq, by rw [World.drewN_drewN]⟩⟩
            case measure => simp [intOf]; omega
        · obtain rfl : k = 16 := by omega
          rw [seek_end hn1]
          have hne : s.data.toList ≠ [] := fun h => by
            have : s.data.toList.length = s.size := by simp
            rw [h] at this
            simp at this
            omega
          by_cases hle : n ≤ bv
          · have hq := HPar.out
            rw [if_pos hle, ← HP.out hne] at hq
            have HQ := Lib.hid hq.symm
            clear hq hne
            go_wp2_with fail
            go_ret2
            exact SaysParse.bad HQ.out (by obtain ⟨n, rfl⟩ := HW2.out; exact below_drewN (Below.refl _ _) n)
          · have hq := HPar.out
            rw [if_neg hle] at hq
            have HQ := Lib.hid hq
            have hle' : decide (n ≤ bv) = false := decide_eq_false hle
            have hwl := withG_lt n hgv
            clear hq hne
            go_wp2_with (go_at_call 17; refine (refWith_any _ _ _ hgv).mono ?_; rintro e w' ⟨rfl, rfl⟩)
            go_roundw
            case rel => exact ⟨⟨pos + 1, withG gv n, n, by omega, by go_num, rfl, rfl, hwl, hn0, hn1, fun h => absurd h (by omega), fun _ => by omega, HQ.out⟩, HW2.out⟩
            case measure => simp [intOf]; omega
    · have hdr : s.data.toList.drop pos = [] := List.drop_eq_nil_of_le (by simp; omega)
      rw [hdr, parseL] at hpar
      have HPar := Lib.hid hpar
      have HWR := Lib.hid hwr
      clear hpar hdr hwr
      by_cases h0 : pos = 0
      · have hbv := HZ0.out h0
        subst hbv
        have hnil : s.data.toList = [] := List.eq_nil_of_length_eq_zero (by
          have h : s.data.toList.length = s.size := Array.length_toList
          omega)
        have HN := Lib.hid (show parseG s.data.toList = none from by rw [hnil]; rfl)
        clear hnil
        go_wp2_with fail
        go_ret2
        exact SaysParse.bad HN.out (by obtain ⟨n, rfl⟩ := HWR.out; exact below_drewN (Below.refl _ _) n)
      · have hbv := HZ1.out (by omega)
        have hne : s.data.toList ≠ [] := fun h => by
          have : s.data.toList.length = s.size := by simp
          rw [h] at this
          simp at this
          omega
        have HQ := Lib.hid (show parseG s.data.toList = some gv from by rw [HP.out hne, ← HPar.out])
        have hlt' : decide (bv < 0) = false := decide_eq_false (by omega)
        clear hne
        go_wp2_with fail
        go_ret2
        exact SaysParse.good HQ.out (by obtain ⟨n, rfl⟩ := HWR.out; exact below_drewN (Below.refl _ _) n)

end Go.Proofs.Ytnefjkbnolbpbaa
