/- OctetCut, its walk. -/
import Derived.Test.YtnddlpaffnhigaaAlive
import Derived.Test.YtnddlpaffnhigaaBytes
import Derived.Test.YtnddlpaffnhigaaGet
import Derived.Deep.DeepCutAuto
namespace Go.Proofs.Ytnddlpaffnhigaa
open Go.RowKit

/-- The slice with address A, of n elements, reads as the numbers zs. -/
def Nums (w : World) (A : Option Addr) (n : Nat) (zs : List Nat) : Prop :=
  zs.length = n ∧ (∀ z ∈ zs, z < 4294967296) ∧ (0 < n → ∃ b o, A = some ⟨b, o, none⟩ ∧ b < w.heap.size ∧ ∀ i (h : i < zs.length), w.cell? ⟨b, o + i, none⟩ = some (.int .u32 (zs[i] : Int)))

theorem beVal_append_one (l : List UInt8) (x : UInt8) : beVal (x :: l) = x.toNat * 256 ^ l.length + beVal l := by
  rw [← List.reverse_reverse l]
  generalize l.reverse = m
  induction m with
  | nil => simp [beVal]
  | cons b m ih =>
    rw [List.reverse_cons, ← List.cons_append, beVal_snoc, beVal_snoc, ih, List.length_append, List.length_singleton, Nat.pow_succ]
    rw [Nat.mul_add]
    have : 256 * (x.toNat * 256 ^ m.reverse.length) = x.toNat * (256 ^ m.reverse.length * 256) := by rw [Nat.mul_comm 256, Nat.mul_assoc]
    omega

theorem beVal_beBytes (k : Nat) : ∀ x, x < 2 ^ (8 * k) → beVal (beBytes k x) = x := by
  induction k with
  | zero => intro x hx; simp at hx; subst hx; rfl
  | succ k ih =>
    intro x hx
    have hp : 0 < 2 ^ (8 * k) := Nat.two_pow_pos _
    have hi := ih (x % 2 ^ (8 * k)) (Nat.mod_lt _ hp)
    rw [beBytes_mod k x k (Nat.le_refl _)] at hi
    rw [beBytes_succ, beVal_append_one, hi, beBytes_length, UInt8.toNat_ofNat', Nat.mod_eq_of_lt (div_lt_256 hx)]
    rw [show (256 : Nat) ^ k = 2 ^ (8 * k) from by rw [Nat.pow_mul]]
    rw [Nat.mul_comm]
    exact Nat.div_add_mod x _

def allBytes (zs : List Nat) : List UInt8 := zs.flatMap (beBytes 4)
theorem allBytes_snoc (zs : List Nat) (z : Nat) : allBytes (zs ++ [z]) = allBytes zs ++ beBytes 4 z := by simp [allBytes]
theorem allBytes_length (zs : List Nat) : (allBytes zs).length = 4 * zs.length := by
  induction zs with
  | nil => rfl
  | cons z zs ih => simp only [allBytes, List.flatMap_cons, List.length_append, beBytes_length, List.length_cons] at ih ⊢; omega
theorem allBytes_at (zs : List Nat) (i : Nat) (h : i < zs.length) : ((allBytes zs).drop (4 * i)).take 4 = beBytes 4 zs[i] := by
  induction zs generalizing i with
  | nil => simp at h
  | cons z zs ih =>
    cases i with
    | zero => simp [allBytes, List.take_append, beBytes_length]
    | succ i =>
      have e : allBytes (z :: zs) = beBytes 4 z ++ allBytes zs := by simp [allBytes]
      rw [e, show 4 * (i + 1) = (beBytes 4 z).length + 4 * i from by rw [beBytes_length]; omega, List.drop_append]
      rw [List.drop_eq_nil_of_le (by omega), List.nil_append, Nat.add_sub_cancel_left]
      simpa using ih i (by simpa using h)

/-- The In behind i numbers read of the first n bytes. -/
def cutSt (zs : List Nat) (n i : Nat) : Option (List UInt8) := if 4 * i ≤ n then some (((allBytes zs).take n).drop (4 * i)) else none

theorem cutSt_whole {zs : List Nat} {n i : Nat} (hn : n ≤ 4 * zs.length) (hi : i < zs.length) (hz : ∀ z ∈ zs, z < 4294967296) (h : 4 * i + 4 ≤ n) : getSt (cutSt zs n i) 4 = (cutSt zs n (i + 1), zs[i]) := by
  have hl := allBytes_length zs
  have e1 : cutSt zs n i = some (((allBytes zs).take n).drop (4 * i)) := if_pos (by omega)
  have e2 : cutSt zs n (i + 1) = some (((allBytes zs).take n).drop (4 * (i + 1))) := if_pos (by omega)
  rw [e1, e2]
  have hlen : (((allBytes zs).take n).drop (4 * i)).length = n - 4 * i := by rw [List.length_drop, List.length_take, hl]; omega
  have hg := getSt_take (((allBytes zs).take n).drop (4 * i)) 4 rfl (by omega)
  refine hg.trans ?_
  rw [List.drop_drop, show 4 * i + 4 = 4 * (i + 1) from by omega]
  congr 1
  rw [List.drop_take, List.take_take, Nat.min_eq_left (by omega), allBytes_at zs i hi]
  exact beVal_beBytes 4 _ (hz _ (List.getElem_mem hi))

theorem cutSt_short {zs : List Nat} {n i : Nat} (hn : n ≤ 4 * zs.length) (h : n < 4 * i + 4) : getSt (cutSt zs n i) 4 = (none, 0) ∧ cutSt zs n (i + 1) = none := by
  have hl := allBytes_length zs
  refine ⟨?_, if_neg (by omega)⟩
  by_cases h4 : 4 * i ≤ n
  · have e1 : cutSt zs n i = some (((allBytes zs).take n).drop (4 * i)) := if_pos h4
    have hlen : (((allBytes zs).take n).drop (4 * i)).length = n - 4 * i := by rw [List.length_drop, List.length_take, hl]; omega
    rw [e1]
    exact getSt_short _ 4 (by rw [hlen]; omega)
  · have e1 : cutSt zs n i = none := if_neg h4
    rw [e1]
    exact getSt_none 4

def CutOut (w : World) (zs : List Nat) (a : Nat) (k : Value) (wr : World) : Prop :=
  ∃ j S, j ≤ zs.length ∧ k = .int .i64 (j : Int) ∧ OutAt wr S a (some (allBytes (zs.take j))) ∧ (∀ i, S i → w.heap.size ≤ i) ∧ Below w.heap.size w wr

def CutIn (w : World) (zs : List Nat) (n i : Nat) (k : Value) (wr : World) : Prop :=
  ∃ j S, j ≤ zs.length ∧ k = .int .i64 (j : Int) ∧ InAt wr S i (cutSt zs n j) ∧ (∀ i, S i → w.heap.size ≤ i) ∧ Below w.heap.size w wr

set_option maxRecDepth 100000 in
set_option maxHeartbeats 1000000 in
theorem cut_walk (A : Option Addr) (len cap at_ : Nat) (zs : List Nat) (w : World) (hz : Nums w A len zs) (hl : len ≤ 9223372036854775807) (hat : at_ < 65536) :
    Calls Try.prog 7 #[.slice A len cap, .int .u16 (at_ : Int)] w fun e w' => e = .returned (.bool true) ∧ Below w.heap.size w w' := by
  obtain ⟨rfl, hzs, hcell⟩ := hz
  by_cases h30 : 30 < zs.length
  · go_enter Try.func7, Try.ntmps7
    go_wp2_with (go_at_call 26; refine (alive_any _).mono ?_; rintro e w1 ⟨rfl, b1⟩)
    go_ret
    exact ⟨rfl, b1⟩
  · have h30' : decide (30 < zs.length) = false := by simpa using h30
    go_enter Try.func7, Try.ntmps7
    go_wp2_with (go_at_call 26; refine (alive_any _).mono ?_; rintro e w1 ⟨rfl, b1⟩)
    go_loopw [7, 25] (fun _ k wr => CutOut w zs w1.heap.size k wr) (fun _ k _ => zs.length - (intOf k).toNat)
    case atStart =>
      exact ⟨0, _, Nat.zero_le _, rfl, OutAt.new w1, fun i e => by have := b1.size; omega, b1.alloc b1.size _⟩
    case round =>
      obtain ⟨j, S, hj, rfl, ho, hS, hb⟩ := hrel
      by_cases hlt : j < zs.length
      · obtain ⟨b, o, rfl, hbl, hc⟩ := hcell (by omega)
        have hcj := (hb.cell (p := ⟨b, o + j, none⟩) hbl).trans (hc j hlt)
        have hz := hzs _ (List.getElem_mem hlt)
        have hz64 : zs[j] < 18446744073709551616 := by omega
        have hlb : ((some (allBytes (zs.take j))).getD []).length ≤ 274877906944 := by rw [Option.getD_some, allBytes_length, List.length_take]; omega
        have HP := Lib.hid (put_any _ _ _ 4 zs[j] _ ho hz64 hlb)
        clear hz64 hlb
        have hps : putSt (some (allBytes (zs.take j))) 4 zs[j] = some (allBytes (zs.take (j + 1))) := by
          rw [List.take_succ_eq_append_getElem hlt, allBytes_snoc]
          have hf : fitsW 4 zs[j] = true := by
            show (isW 4 && decide (zs[j] < 2 ^ 32)) = true
            simp only [show isW 4 = true from rfl, Bool.true_and, decide_eq_true_eq]
            omega
          simp only [putSt, hf, if_true, Option.map_some]
          rfl
        rw [hps] at HP
        clear hps
        go_wp2_with (go_at_call 12; refine HP.out.mono ?_; rintro e w2 ⟨rfl, o2, k2⟩)
        go_roundw
        case rel => exact ⟨j + 1, _, by omega, by go_num, o2, Grow.on hS hb.size, k2.on hb hS hb.size⟩
        case measure => simp [intOf]; omega
      · obtain rfl : j = zs.length := by omega
        rw [List.take_length] at ho
        have hal := allBytes_length zs
        have HA := Lib.hid (all_some _ _ _ _ ho (by omega))
        go_wp2_with fail
        refine HA.out.mono ?_
        rintro e w2 ⟨v, rfl, hown, hbl⟩
        have hb2 : Below w.heap.size w w2 := hb.trans (hbl.mono hb.size)
        obtain ⟨B, c, rfl, hnc, hsrc, _, hBn⟩ := Src.of_own hown
        rw [hal] at hsrc hnc
        rw [hal]
        clear hown hbl ho HA hal hb hS
        obtain ⟨n, hn, hnl⟩ : ∃ n : Nat, (at_ : Int) % (4 * (zs.length : Int) + 1) = (n : Int) ∧ n ≤ 4 * zs.length := by
          refine ⟨at_ % (4 * zs.length + 1), by simp, ?_⟩
          have := Nat.mod_lt at_ (show 0 < 4 * zs.length + 1 by omega)
          omega
        have hnc2 : n ≤ c := by omega
        have HF := Lib.hid (from_any (w := w2) B n c _ (hsrc.take hnl) (fun e => (hBn e).2) (by omega))
        go_wp2_with fail
        refine HF.out.mono ?_
        rintro e w3 ⟨x, T, rfl, hin, hT, hb3⟩
        have hb4 : Below w.heap.size w w3 := hb2.trans (hb3.mono hb2.size)
        have hT' : ∀ k, T k → w.heap.size ≤ k := fun k hk => Nat.le_trans hb2.size (hT k hk)
        clear HF hb3 hT hsrc hb2
        go_wp2_with fail
        go_loopw [11, 12, 13, 48] (fun _ _ _ k wr => CutIn w zs n x k wr) (fun _ _ _ k _ => zs.length - (intOf k).toNat)
        case atStart =>
          refine ⟨0, T, Nat.zero_le _, rfl, ?_, hT', hb4⟩
          have e : cutSt zs n 0 = some ((allBytes zs).take n) := by simp [cutSt]
          rw [e]
          exact hin
        case round =>
          obtain ⟨j, T2, hj, rfl, hin2, hT2, hb5⟩ := hrel
          by_cases hlt : j < zs.length
          · have hlen2 : ((cutSt zs n j).getD []).length ≤ 549755813888 := by
              have hal := allBytes_length zs
              unfold cutSt
              split
              · rw [Option.getD_some, List.length_drop, List.length_take]; omega
              · simp
            have HG := Lib.hid (get_any wr T2 x (cutSt zs n j) 4 hin2 hlen2)
            clear hlen2
            by_cases h4 : 4 * j + 4 ≤ n
            · obtain ⟨b, o, rfl, hbl, hc⟩ := hcell (by omega)
              rw [cutSt_whole hnl hlt hzs h4] at HG
              have hsome : (cutSt zs n (j + 1)).isNone = false := by
                unfold cutSt
                rw [if_pos (by omega)]
                rfl
              have HS := Lib.hid hsome
              have d4 : decide (4 * (j : Int) + 4 ≤ (n : Int)) = true := by simp; omega
              have hz := hzs _ (List.getElem_mem hlt)
              have hcs : ∀ w', Below w.heap.size w w' → w'.cell? ⟨b, o + j, none⟩ = some (.int .u32 (zs[j] : Int)) := fun w' hb => (hb.cell (p := ⟨b, o + j, none⟩) hbl).trans (hc j hlt)
              have HC := Lib.hid hcs
              clear hcs hsome hc hcell
              go_wp2_with (first
                | (go_at_call 19; refine HG.out.mono ?_; rintro e w5 ⟨rfl, q1, k1⟩; have hb6 := k1.on hb5 (fun i e => by have := hT2 _ hin2.own; omega) hb5.size; have hcc := HC.out _ hb6)
                | (go_at_call 24; refine (inSpoilt_any q1).mono ?_; rintro e w6 ⟨rfl, rfl⟩; rw [HS.out]))
              exact ⟨⟨j + 1, T2, by omega, by go_num, q1, hT2, hb6⟩, by simp [intOf]; omega⟩
            · obtain ⟨e1, e2⟩ := cutSt_short (i := j) hnl (by omega)
              rw [e1] at HG
              have E2 := Lib.hid e2
              have d4 : decide (4 * (j : Int) + 4 ≤ (n : Int)) = false := by simp; omega
              clear e1 e2 hcell
              go_wp2_with (first
                | (go_at_call 19; refine HG.out.mono ?_; rintro e w5 ⟨rfl, q1, k1⟩; have hb6 := k1.on hb5 (fun i e => by have := hT2 _ hin2.own; omega) hb5.size)
                | (go_at_call 24; refine (inSpoilt_any q1).mono ?_; rintro e w6 ⟨rfl, rfl⟩))
              exact ⟨⟨j + 1, T2, by omega, by go_num, by rw [E2.out]; exact q1, hT2, hb6⟩, by simp [intOf]; omega⟩
          · obtain rfl : j = zs.length := by omega
            have HD := Lib.hid (inDone_any hin2)
            by_cases h4 : n = 4 * zs.length
            · have hd : isDone (cutSt zs n zs.length) = true := by
                have hal := allBytes_length zs
                unfold cutSt
                rw [if_pos (by omega)]
                show List.isEmpty _ = true
                rw [List.isEmpty_iff, List.drop_eq_nil_iff, List.length_take]
                omega
              rw [hd] at HD
              have b4 : ((n : Int) == 4 * (zs.length : Int)) = true := by simp; omega
              clear hd h4
              go_wp2_with (go_at_call 25; refine HD.out.mono ?_; rintro e w6 ⟨rfl, rfl⟩)
              go_ret
              exact ⟨rfl, hb5⟩
            · have hd : isDone (cutSt zs n zs.length) = false := by
                unfold cutSt
                rw [if_neg (by omega)]
                rfl
              rw [hd] at HD
              have b4 : ((n : Int) == 4 * (zs.length : Int)) = false := by simp; omega
              clear hd h4
              go_wp2_with (go_at_call 25; refine HD.out.mono ?_; rintro e w6 ⟨rfl, rfl⟩)
              go_ret
              exact ⟨rfl, hb5⟩

end Go.Proofs.Ytnddlpaffnhigaa
