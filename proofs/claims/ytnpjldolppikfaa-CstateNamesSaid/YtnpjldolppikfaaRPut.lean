/- The document's own power and Put: each by a contract. -/
import Derived.Test.YtnpjldolppikfaaRef
import Derived.Test.YtnpjldolppikfaaPutb
import Derived.Test.YtnpjldolppikfaaBytes
import Derived.Deep.OwnRows
import Derived.Laws.OwnMore
namespace Go.Proofs.Ytnpjldolppikfaa
open Go.RowKit Go.Deep

theorem power_any (n : Nat) (hn : n < 8) (w : World) : Calls Try.prog 76 #[.int .i64 (n : Int)] w fun e w' => e = .returned (.int .u64 ((2 ^ (8 * n) : Nat) : Int)) ∧ w = w' := by
  go_enter Try.func76, Try.ntmps76
  go_wp2
  go_loop [3, 4] (fun p i => ∃ j : Nat, j ≤ n ∧ i = .int .i64 (j : Int) ∧ p = .int .u64 ((2 ^ (8 * j) : Nat) : Int)) (fun _ i => n - (intOf i).toNat)
  case atStart => exact ⟨0, Nat.zero_le _, rfl, rfl⟩
  case round =>
    obtain ⟨j, hj, rfl, rfl⟩ := hrel
    by_cases hlt : j < n
    · have HS := Lib.hid (show 2 ^ (8 * (j + 1)) = 2 ^ (8 * j) * 256 by rw [Nat.mul_add, Nat.pow_add])
      have hp : 2 ^ (8 * j) ≤ 281474976710656 := by
        rw [show (281474976710656 : Nat) = 2 ^ 48 from rfl]
        exact Nat.pow_le_pow_right (by decide) (by omega)
      generalize 2 ^ (8 * j) = p at *
      go_wp2
      refine ⟨⟨j + 1, by omega, by go_num, ?_⟩, by simp [intOf]; omega⟩
      rw [HS.out]
      simp only [Value.int.injEq, true_and]
      omega
    · obtain rfl : j = n := by omega
      go_wp2
      go_ret
      exact ⟨rfl, rfl⟩

/-- What the document's Put has of its row: the last k bytes. -/
def PutRow (k n x : Nat) : Array Value := (List.replicate (n - k) (Value.int .u8 0) ++ bv (beBytes k x)).toArray

theorem putRow_set {k n x : Nat} (h : k < n) : (PutRow k n x).setIfInBounds (n - 1 - k) (.int .u8 ((x / 2 ^ (8 * k) % 256 : Nat) : Int)) = PutRow (k + 1) n x := by
  unfold PutRow
  rw [beBytes_succ, show n - k = (n - 1 - k) + 1 from by omega, show n - (k + 1) = n - 1 - k from by omega]
  apply Array.toList_inj.1
  simp only [Array.toList_setIfInBounds, bv, List.map_cons]
  rw [List.replicate_succ', List.append_assoc, List.set_append_right _ _ (by simp)]
  simp

theorem putRow_zero (n x : Nat) : madeCells #[.int .u8 0] n = PutRow 0 n x := by
  apply Array.toList_inj.1
  rw [toList_madeCells_one]
  simp [PutRow, beBytes_zero, bv]
theorem putRow_size {k n x : Nat} (h : k ≤ n) : (PutRow k n x).size = n := by
  simp [PutRow, bv_length, beBytes_length]
  omega
theorem putRow_all (n x : Nat) : (PutRow n n x).toList = bv (beBytes n x) := by simp [PutRow]

/-- What the document's Put has behind k bytes. -/
def RPutRel (w : World) (n x : Nat) (s1 s8 : Value) (W : World) : Prop :=
  ∃ k, k ≤ n ∧ s8 = .int .i64 ((n : Int) - 1 - (k : Int)) ∧ s1 = .int .u64 ((x / 2 ^ (8 * k) : Nat) : Int) ∧ Whole W w.heap.size 5 (PutRow k n x) ∧ Below w.heap.size w W

theorem rput_start (w : World) (n x : Nat) : RPutRel w n x (.int .u64 (x : Int)) (.int .i64 ((n : Int) - 1)) (w.alloc (.cells (madeCells #[.int .u8 0] n) 5)) :=
  ⟨0, Nat.zero_le _, by simp, by simp, by rw [putRow_zero n x]; exact Whole.new _ _ _, (Below.refl _ _).alloc (Nat.le_refl _) _⟩

theorem rput_step {w W : World} {n x k : Nat} (hk : k < n) (hw : Whole W w.heap.size 5 (PutRow k n x)) (hb : Below w.heap.size w W) :
    (∃ z, W.cell? ⟨w.heap.size, n - 1 - k, none⟩ = some (.int .u8 z)) ∧ W.frozen? ⟨w.heap.size, n - 1 - k, none⟩ = false ∧
      RPutRel w n x (.int .u64 ((x / 2 ^ (8 * k) / 256 : Nat) : Int)) (.int .i64 ((n : Int) - 1 - (k : Int) - 1)) (W.setCell ⟨w.heap.size, n - 1 - k, none⟩ (.int .u8 ((x / 2 ^ (8 * k) % 256 : Nat) : Int))) := by
  refine ⟨⟨0, ?_⟩, hw.frozen _, k + 1, hk, by congr 1; omega, ?_, ?_, hb.setCell (Nat.le_refl _) _⟩
  · rw [hw.cell]
    simp only [PutRow, List.getElem?_toArray]
    rw [List.getElem?_append_left (by simp; omega), List.getElem?_replicate, if_pos (by omega)]
  · rw [Nat.div_div_eq_div_mul, show 2 ^ (8 * (k + 1)) = 2 ^ (8 * k) * 256 from by rw [Nat.mul_add, Nat.pow_add]]
  · rw [← putRow_set hk]
    exact hw.set _ _

theorem rput_done {w W : World} {n x : Nat} (hn : n ≤ 8) (hw : Whole W w.heap.size 5 (PutRow n n x)) : W.ownsRow w.heap.size 5 1 (.slice (some ⟨w.heap.size, 0, none⟩) n n) n (bv (beBytes n x)) :=
  ⟨by rw [bv_length, beBytes_length, Nat.mul_one], .inr ⟨w.heap.size, n, PutRow n n x, rfl, Nat.le_refl _, hw, Nat.le_refl _, by simp only [maxLen]; omega, by rw [putRow_size (Nat.le_refl _), Nat.mul_one], by rw [putRow_all, List.take_of_length_le (by rw [bv_length, beBytes_length]; omega)]⟩⟩

set_option maxHeartbeats 1000000 in
theorem rput_yes (n : Nat) (x : Nat) (hx : x < 18446744073709551616) (hn : isW n = true) (hf : x < 2 ^ (8 * n)) (w : World) : Calls Try.prog 63 #[.int .i64 (n : Int), .int .u64 (x : Int)] w fun e w' => ∃ v, e = .returned (.tuple #[v, .bool true]) ∧ w'.ownsRow w.heap.size 5 1 v n (bv (beBytes n x)) ∧ Below w.heap.size w w' := by
  have hn8 : n ≤ 8 := by simp [isW] at hn; omega
  have HN := Lib.hid hn
  have hmk := run_make_row' (P := Try.prog) 26 5 (.int .u8 0) 1 Try.underlying26 u8_info rfl .i64 .i64 n (by omega) (by omega)
  have HF := Lib.hid hf
  clear hn hf
  by_cases h8 : n < 8
  · have d8 : decide ((n : Int) < 8) = true := by simp; omega
    have hp : ∀ p : Nat, p = 2 ^ (8 * n) → decide (p ≤ x) = false := fun p e => by have := HF.out; simp; omega
    go_enter Try.func63, Try.ntmps63
    go_wp2_with fail
    refine (width_any _ _).mono ?_
    rintro e w1 ⟨rfl, rfl⟩
    rw [HN.out]
    go_wp2_with fail
    refine (power_any n h8 _).mono ?_
    rintro e w1 ⟨rfl, rfl⟩
    generalize hpe : 2 ^ (8 * n) = p
    have hpp := hp p hpe.symm
    clear hp hpe
    go_wp2_with fail
    go_loopw [1, 8] (fun s1 s8 W => RPutRel w n x s1 s8 W) (fun _ s8 _ => (intOf s8 + 1).toNat)
    case atStart => exact rput_start w n x
    case round =>
      obtain ⟨k, hk, rfl, rfl, hw, hb⟩ := hrel
      by_cases hlt : k < n
      · obtain ⟨⟨z, hc⟩, hf, hnext⟩ := rput_step hlt hw hb
        have hq : x / 2 ^ (8 * k) < 18446744073709551616 := Nat.lt_of_le_of_lt (Nat.div_le_self _ _) hx
        have HX := Lib.hid hnext
        have e1 : (n : Int) - 1 - (k : Int) = ((n - 1 - k : Nat) : Int) := by omega
        clear hnext hx
        rw [e1] at HX ⊢
        clear e1
        generalize x / 2 ^ (8 * k) = q at *
        have hi : n - 1 - k < n := by omega
        generalize n - 1 - k = i at *
        go_wp2_with fail
        go_roundw
        case rel => exact HX.out
        case measure => simp [intOf]
      · obtain rfl : k = n := by omega
        have e1 : (k : Int) - 1 - (k : Int) = -1 := by omega
        rw [e1]
        go_wp2
        go_ret2
        exact ⟨_, rfl, rput_done hn8 hw, hb⟩
  · have d8 : decide ((n : Int) < 8) = false := by simp; omega
    go_enter Try.func63, Try.ntmps63
    go_wp2_with fail
    refine (width_any _ _).mono ?_
    rintro e w1 ⟨rfl, rfl⟩
    rw [HN.out]
    go_wp2_with fail
    go_loopw [1, 8] (fun s1 s8 W => RPutRel w n x s1 s8 W) (fun _ s8 _ => (intOf s8 + 1).toNat)
    case atStart => exact rput_start w n x
    case round =>
      obtain ⟨k, hk, rfl, rfl, hw, hb⟩ := hrel
      by_cases hlt : k < n
      · obtain ⟨⟨z, hc⟩, hf, hnext⟩ := rput_step hlt hw hb
        have hq : x / 2 ^ (8 * k) < 18446744073709551616 := Nat.lt_of_le_of_lt (Nat.div_le_self _ _) hx
        have HX := Lib.hid hnext
        have e1 : (n : Int) - 1 - (k : Int) = ((n - 1 - k : Nat) : Int) := by omega
        clear hnext hx
        rw [e1] at HX ⊢
        clear e1
        generalize x / 2 ^ (8 * k) = q at *
        have hi : n - 1 - k < n := by omega
        generalize n - 1 - k = i at *
        go_wp2_with fail
        go_roundw
        case rel => exact HX.out
        case measure => simp [intOf]
      · obtain rfl : k = n := by omega
        have e1 : (k : Int) - 1 - (k : Int) = -1 := by omega
        rw [e1]
        go_wp2
        go_ret2
        exact ⟨_, rfl, rput_done hn8 hw, hb⟩

theorem rput_no (n : Int) (x : Nat) (hx : x < 18446744073709551616) (hf : fitsW n x = false) (w : World) : Calls Try.prog 63 #[.int .i64 n, .int .u64 (x : Int)] w fun e w' => e = .returned (.tuple #[.slice none 0 0, .bool false]) ∧ w = w' := by
  cases hn : isW n with
  | false =>
    go_enter Try.func63, Try.ntmps63
    go_wp2_with fail
    refine (width_any _ _).mono ?_
    rintro e w1 ⟨rfl, rfl⟩
    rw [hn]
    go_wp2
    go_ret2
    exact ⟨rfl, rfl⟩
  | true =>
    have HN := Lib.hid hn
    simp only [fitsW, hn, Bool.true_and, decide_eq_false_iff_not, Nat.not_lt] at hf
    have hb : 0 ≤ n ∧ n ≤ 8 := by simp [isW] at hn; omega
    obtain ⟨k, rfl⟩ := Int.eq_ofNat_of_zero_le hb.1
    simp only [Int.toNat_natCast] at hf
    have h8 : k < 8 := by
      rcases Nat.lt_or_ge k 8 with h | h
      · exact h
      · have : k = 8 := by omega
        subst this
        have : 2 ^ (8 * 8) = 18446744073709551616 := by decide
        omega
    have d8 : decide ((k : Int) < 8) = true := by simp; omega
    have HF := Lib.hid hf
    clear hn hf hb
    go_enter Try.func63, Try.ntmps63
    go_wp2_with fail
    refine (width_any _ _).mono ?_
    rintro e w1 ⟨rfl, rfl⟩
    rw [HN.out]
    go_wp2_with fail
    refine (power_any k h8 _).mono ?_
    rintro e w1 ⟨rfl, rfl⟩
    have hp : ∀ p : Nat, 2 ^ (8 * k) = p → decide (p ≤ x) = true := fun p e => by have := HF.out; simp; omega
    generalize hpe : 2 ^ (8 * k) = p
    have hpp := hp p hpe
    clear hp hpe
    go_wp2
    go_ret2
    exact ⟨rfl, rfl⟩

end Go.Proofs.Ytnpjldolppikfaa
