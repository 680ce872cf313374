/- alive: the chapter's first example answers true, and writes nothing that was there. | A list of calls that came in, and the guard great over it. | write, a call of an Out, by a contract. | The document's own power and Put: each by a contract. -/
import Derived.Lib.SlBytesConst
import Derived.Deep.OwnRows
import Derived.Laws.OwnMore
import Derived.Test.YtljcaigaofalbaaQC
import Derived.Test.YtljcaigaofalbaaQB
import Derived.Test.YtljcaigaofalbaaQD
namespace Go.Proofs.Ytljcaigaofalbaa
open Go.RowKit

theorem all_some (w : World) (S : Nat → Prop) (a : Nat) (l : List UInt8) (h : OutAt w S a (some l)) (hlen : l.length ≤ 549755813888) :
    Calls Try.prog 50 #[.pointer (some ⟨a, 0, none⟩)] w (Fresh w l) := all_any w S a (some l) h hlen
theorem OutAt.new (w : World) : OutAt (w.alloc (.cells #[.pointer none, .int .i64 0, .bool false] 70)) (fun k => k = w.heap.size) w.heap.size (some []) :=
  ⟨fun k e => by subst e; simp, rfl, .inr (.inl ⟨rfl, ⟨Whole.new w _ _⟩⟩)⟩

theorem Kept.on {B : Nat} {S : Nat → Prop} {w w0 w1 : World} (h : Below B w w0) (k : Kept S w0 w1) (hS : ∀ i, S i → B ≤ i) (hB : B ≤ w0.heap.size) : Below B w w1 :=
  h.trans ⟨k.os, k.tape, k.output, k.size, fun i hi => k.block i (by omega) (fun hs => by have := hS i hs; omega)⟩
theorem Grow.on {B : Nat} {S : Nat → Prop} {w0 w1 : World} (hS : ∀ i, S i → B ≤ i) (hB : B ≤ w0.heap.size) : ∀ i, Grow S w0 w1 i → B ≤ i := by
  rintro i (h | h)
  · exact hS i h
  · omega

end Go.Proofs.Ytljcaigaofalbaa

namespace Go.Proofs.Ytljcaigaofalbaa
open Go.RowKit

/-- A call, as data. -/
structure OpD where
  kind : Int
  n : Int
  v : Nat
  b : List UInt8

/-- A call's four cells at place p of block g. -/
def OpAt (w : World) (g p : Nat) (x : OpD) : Prop :=
  x.v < 18446744073709551616 ∧ w.cell? ⟨g, p, none⟩ = some (.int .i64 x.kind) ∧ w.cell? ⟨g, p + 1, none⟩ = some (.int .i64 x.n) ∧ w.cell? ⟨g, p + 2, none⟩ = some (.int .u64 (x.v : Int)) ∧
    ∃ B c, w.cell? ⟨g, p + 3, none⟩ = some (.slice B x.b.length c) ∧ Src w B x.b.length x.b ∧ (B = none → c = 0) ∧ x.b.length ≤ 140737488351232 ∧ (0 < x.b.length → ∀ ad, B = some ad → ad.block < w.heap.size)

/-- The slice with address A, of n elements, reads as the calls xs. -/
def Ops (w : World) (A : Option Addr) (n : Nat) (xs : List OpD) : Prop :=
  xs.length = n ∧ (0 < n → ∃ g o, A = some ⟨g, o, none⟩ ∧ g < w.heap.size ∧ ∀ i (h : i < xs.length), OpAt w g (o + i * 4) xs[i])

theorem OpAt.below {w w' : World} {g p : Nat} {x : OpD} (h : OpAt w g p x) (hg : g < w.heap.size) (hb : Below w.heap.size w w') : OpAt w' g p x := by
  obtain ⟨h0, h1, h2, h3, B, c, h4, h5, h6, h7, h8⟩ := h
  refine ⟨h0, (hb.cell (p := ⟨g, p, none⟩) hg).trans h1, (hb.cell (p := ⟨g, p + 1, none⟩) hg).trans h2, (hb.cell (p := ⟨g, p + 2, none⟩) hg).trans h3, B, c, (hb.cell (p := ⟨g, p + 3, none⟩) hg).trans h4, h5.below hb, h6, h7, fun h0 ad e => Nat.lt_of_lt_of_le (h8 h0 ad e) hb.size⟩

def opsSum (xs : List OpD) : Nat := xs.foldl (fun a x => a + x.b.length) 0
theorem opsSum_snoc (xs : List OpD) (x : OpD) : opsSum (xs ++ [x]) = opsSum xs + x.b.length := by simp [opsSum]
theorem opsSum_le (xs : List OpD) (h : ∀ x ∈ xs, x.b.length ≤ 140737488351232) : opsSum xs ≤ 140737488351232 * xs.length := by
  rw [← List.reverse_reverse xs] at *
  generalize xs.reverse = ys at *
  induction ys with
  | nil => simp [opsSum]
  | cons y ys ih =>
    rw [List.reverse_cons, opsSum_snoc, List.length_append, List.length_singleton, Nat.mul_add]
    have h1 := ih (fun x hx => h x (by rw [List.reverse_cons]; exact List.mem_append_left _ hx))
    have h2 := h y (by rw [List.reverse_cons]; exact List.mem_append_right _ (by simp))
    omega

def greatB (xs : List OpD) : Bool := decide (100 < xs.length) || decide (20000 < opsSum xs)

theorem not_great {xs : List OpD} (h : greatB xs = false) : xs.length ≤ 100 ∧ opsSum xs ≤ 20000 := by
  simp [greatB] at h
  omega

end Go.Proofs.Ytljcaigaofalbaa

namespace Go.Proofs.Ytljcaigaofalbaa
open Go.RowKit

/-- What a call makes of an Out. -/
def writeSt (st : Option (List UInt8)) (x : OpD) : Option (List UInt8) := if x.kind = 0 then putSt st x.n x.v else if x.kind = 1 then st.map (· ++ x.b) else st

/-- What is left of an Out behind a call that answers nothing. -/
def Done0 (w : World) (S : Nat → Prop) (a : Nat) (st : Option (List UInt8)) (e : Ending) (w' : World) : Prop :=
  e = .returned (.tuple #[]) ∧ OutAt w' (Grow S w w') a st ∧ Kept S w w'

theorem Turned.later {w w0 w1 : World} {S : Nat → Prop} {a : Nat} {st : Option (List UInt8)} {e : Ending} (hlt : ∀ k, S k → k < w.heap.size) (k0 : Kept Empty w w0) (h : Turned w0 S a st e w1) : OutAt w1 (Grow S w w1) a st ∧ Kept S w w1 := by
  obtain ⟨_, h1, h2⟩ := h
  have hk : Kept S w w1 := (k0.mono (fun _ h => h.elim)).trans h2 (fun _ _ h => h)
  refine ⟨h1.more (fun k hg => ?_) (Grow.lt hlt hk.size), hk⟩
  rcases hg with hg | hg
  · exact .inl hg
  · exact .inr ⟨Nat.le_trans k0.size hg.1, hg.2⟩

theorem tail_any (w : World) (S : Nat → Prop) (a : Nat) (st : Option (List UInt8)) (A : Option Addr) (c : Nat) (b : List UInt8) (h : OutAt w S a st) (hb : Src w A b.length b) (hS : 0 < b.length → ∀ ad, A = some ad → ¬ S ad.block) (hlen : (st.getD []).length + b.length ≤ 549755813888) :
    Calls Try.prog 48 #[.pointer (some ⟨a, 0, none⟩), .slice A b.length c] w (Turned w S a (st.map (· ++ b))) := by
  cases st with
  | none => exact tail_bad w S a _ h
  | some l => exact tail_good w S a l A b.length c b h hb hS hlen

end Go.Proofs.Ytljcaigaofalbaa

namespace Go.Proofs.Ytljcaigaofalbaa
open Go.RowKit Go.Deep

theorem power_any (n : Nat) (hn : n < 8) (w : World) : Calls Try.prog 109 #[.int .i64 (n : Int)] w fun e w' => e = .returned (.int .u64 ((2 ^ (8 * n) : Nat) : Int)) ∧ w = w' := by
  go_enter Try.func109, Try.ntmps109
  go_wp2
  go_loop [3, 4] (fun p i => ∃ j : Nat, j ≤ n ∧ i = .int .i64 (j : Int) ∧ p = .int .u64 ((2 ^ (8 * j) : Nat) : Int)) (fun _ i => n - (intOf i).toNat)
  case atStart => exact ⟨0, Nat.zero_le _, rfl, rfl⟩
  case round =>
    obtain ⟨j, hj, rfl, rfl⟩ := hrel
    by_cases hlt : j < n
    · have HS := Lib.hid (show 2 ^ (8 * (j + 1)) = 2 ^ (8 * j) * 256 by rw [Nat.mul_add, Nat.pow_add])
      have hp : 2 ^ (8 * j) ≤ 281474976710656 := by
        rw [show (281474976710656 : Nat) = 2 ^ 48 from rfl]
        exact Nat.pow_le_pow_right (by decide) (by omega)
      generalize 2 ^ (8 * j) = p at *
      go_wp2
      refine ⟨⟨j + 1, by omega, by go_num, ?_⟩, by simp [intOf]; omega⟩
      rw [HS.out]
      simp only [Value.int.injEq, true_and]
      omega
    · obtain rfl : j = n := by omega
      go_wp2
      go_ret
      exact ⟨rfl, rfl⟩

/-- What the document's Put has of its row: the last k bytes. -/
def PutRow (k n x : Nat) : Array Value := (List.replicate (n - k) (Value.int .u8 0) ++ bv (beBytes k x)).toArray

theorem putRow_set {k n x : Nat} (h : k < n) : (PutRow k n x).setIfInBounds (n - 1 - k) (.int .u8 ((x / 2 ^ (8 * k) % 256 : Nat) : Int)) = PutRow (k + 1) n x := by
  unfold PutRow
  rw [beBytes_succ, show n - k = (n - 1 - k) + 1 from by omega, show n - (k + 1) = n - 1 - k from by omega]
  apply Array.toList_inj.1
  simp only [Array.toList_setIfInBounds, bv, List.map_cons]
  rw [List.replicate_succ', List.append_assoc, List.set_append_right _ _ (by simp)]
  simp

theorem putRow_zero (n x : Nat) : madeCells #[.int .u8 0] n = PutRow 0 n x := by
  apply Array.toList_inj.1
  rw [toList_madeCells_one]
  simp [PutRow, beBytes_zero, bv]
theorem putRow_size {k n x : Nat} (h : k ≤ n) : (PutRow k n x).size = n := by
  simp [PutRow, bv_length, beBytes_length]
  omega
theorem putRow_all (n x : Nat) : (PutRow n n x).toList = bv (beBytes n x) := by simp [PutRow]

/-- What the document's Put has behind k bytes. -/
def RPutRel (w : World) (n x : Nat) (s1 s8 : Value) (W : World) : Prop :=
  ∃ k, k ≤ n ∧ s8 = .int .i64 ((n : Int) - 1 - (k : Int)) ∧ s1 = .int .u64 ((x / 2 ^ (8 * k) : Nat) : Int) ∧ Whole W w.heap.size 5 (PutRow k n x) ∧ Below w.heap.size w W

theorem rput_start (w : World) (n x : Nat) : RPutRel w n x (.int .u64 (x : Int)) (.int .i64 ((n : Int) - 1)) (w.alloc (.cells (madeCells #[.int .u8 0] n) 5)) :=
  ⟨0, Nat.zero_le _, by simp, by simp, by rw [putRow_zero n x]; exact Whole.new _ _ _, (Below.refl _ _).alloc (Nat.le_refl _) _⟩

theorem rput_step {w W : World} {n x k : Nat} (hk : k < n) (hw : Whole W w.heap.size 5 (PutRow k n x)) (hb : Below w.heap.size w W) :
    (∃ z, W.cell? ⟨w.heap.size, n - 1 - k, none⟩ = some (.int .u8 z)) ∧ W.frozen? ⟨w.heap.size, n - 1 - k, none⟩ = false ∧
      RPutRel w n x (.int .u64 ((x / 2 ^ (8 * k) / 256 : Nat) : Int)) (.int .i64 ((n : Int) - 1 - (k : Int) - 1)) (W.setCell ⟨w.heap.size, n - 1 - k, none⟩ (.int .u8 ((x / 2 ^ (8 * k) % 256 : Nat) : Int))) := by
  refine ⟨⟨0, ?_⟩, hw.frozen _, k + 1, hk, by congr 1; omega, ?_, ?_, hb.setCell (Nat.le_refl _) _⟩
  · rw [hw.cell]
    simp only [PutRow, List.getElem?_toArray]
    rw [List.getElem?_append_left (by simp; omega), List.getElem?_replicate, if_pos (by omega)]
  · rw [Nat.div_div_eq_div_mul, show 2 ^ (8 * (k + 1)) = 2 ^ (8 * k) * 256 from by rw [Nat.mul_add, Nat.pow_add]]
  · rw [← putRow_set hk]
    exact hw.set _ _

theorem rput_done {w W : World} {n x : Nat} (hn : n ≤ 8) (hw : Whole W w.heap.size 5 (PutRow n n x)) : W.ownsRow w.heap.size 5 1 (.slice (some ⟨w.heap.size, 0, none⟩) n n) n (bv (beBytes n x)) :=
  ⟨by rw [bv_length, beBytes_length, Nat.mul_one], .inr ⟨w.heap.size, n, PutRow n n x, rfl, Nat.le_refl _, hw, Nat.le_refl _, by simp only [maxLen]; omega, by rw [putRow_size (Nat.le_refl _), Nat.mul_one], by rw [putRow_all, List.take_of_length_le (by rw [bv_length, beBytes_length]; omega)]⟩⟩

set_option maxHeartbeats 1000000 in
theorem rput_yes (n : Nat) (x : Nat) (hx : x < 18446744073709551616) (hn : isW n = true) (hf : x < 2 ^ (8 * n)) (w : World) : Calls Try.prog 86 #[.int .i64 (n : Int), .int .u64 (x : Int)] w fun e w' => ∃ v, e = .returned (.tuple #[v, .bool true]) ∧ w'.ownsRow w.heap.size 5 1 v n (bv (beBytes n x)) ∧ Below w.heap.size w w' := by
  have hn8 : n ≤ 8 := by simp [isW] at hn; omega
  have HN := Lib.hid hn
  have hmk := run_make_row' (P := Try.prog) 30 5 (.int .u8 0) 1 Try.underlying30 u8_info rfl .i64 .i64 n (by omega) (by omega)
  have HF := Lib.hid hf
  clear hn hf
  by_cases h8 : n < 8
  · have d8 : decide ((n : Int) < 8) = true := by simp; omega
    have hp : ∀ p : Nat, p = 2 ^ (8 * n) → decide (p ≤ x) = false := fun p e => by have := HF.out; simp; omega
    go_enter Try.func86, Try.ntmps86
    go_wp2_with fail
    refine (width_any _ _).mono ?_
    rintro e w1 ⟨rfl, rfl⟩
    rw [HN.out]
    go_wp2_with fail
    refine (power_any n h8 _).mono ?_
    rintro e w1 ⟨rfl, rfl⟩
    generalize hpe : 2 ^ (8 * n) = p
    have hpp := hp p hpe.symm
    clear hp hpe
    go_wp2_with fail
    go_loopw [1, 8] (fun s1 s8 W => RPutRel w n x s1 s8 W) (fun _ s8 _ => (intOf s8 + 1).toNat)
    case atStart => exact rput_start w n x
    case round =>
      obtain ⟨k, hk, rfl, rfl, hw, hb⟩ := hrel
      by_cases hlt : k < n
      · obtain ⟨⟨z, hc⟩, hf, hnext⟩ := rput_step hlt hw hb
        have hq : x / 2 ^ (8 * k) < 18446744073709551616 := Nat.lt_of_le_of_lt (Nat.div_le_self _ _) hx
        have HX := Lib.hid hnext
        have e1 : (n : Int) - 1 - (k : Int) = ((n - 1 - k : Nat) : Int) := by omega
        clear hnext hx
        rw [e1] at HX ⊢
        clear e1
        generalize x / 2 ^ (8 * k) = q at *
        have hi : n - 1 - k < n := by omega
        generalize n - 1 - k = i at *
        go_wp2_with fail
        go_roundw
        case rel => exact HX.out
        case measure => simp [intOf]
      · obtain rfl : k = n := by omega
        have e1 : (k : Int) - 1 - (k : Int) = -1 := by omega
        rw [e1]
        go_wp2
        go_ret2
        exact ⟨_, rfl, rput_done hn8 hw, hb⟩
  · have d8 : decide ((n : Int) < 8) = false := by simp; omega
    go_enter Try.func86, Try.ntmps86
    go_wp2_with fail
    refine (width_any _ _).mono ?_
    rintro e w1 ⟨rfl, rfl⟩
    rw [HN.out]
    go_wp2_with fail
    go_loopw [1, 8] (fun s1 s8 W => RPutRel w n x s1 s8 W) (fun _ s8 _ => (intOf s8 + 1).toNat)
    case atStart => exact rput_start w n x
    case round =>
      obtain ⟨k, hk, rfl, rfl, hw, hb⟩ := hrel
      by_cases hlt : k < n
      · obtain ⟨⟨z, hc⟩, hf, hnext⟩ := rput_step hlt hw hb
        have hq : x / 2 ^ (8 * k) < 18446744073709551616 := Nat.lt_of_le_of_lt (Nat.div_le_self _ _) hx
        have HX := Lib.hid hnext
        have e1 : (n : Int) - 1 - (k : Int) = ((n - 1 - k : Nat) : Int) := by omega
        clear hnext hx
        rw [e1] at HX ⊢
        clear e1
        generalize x / 2 ^ (8 * k) = q at *
        have hi : n - 1 - k < n := by omega
        generalize n - 1 - k = i at *
        go_wp2_with fail
        go_roundw
        case rel => exact HX.out
        case measure => simp [intOf]
      · obtain rfl : k = n := by omega
        have e1 : (k : Int) - 1 - (k : Int) = -1 := by omega
        rw [e1]
        go_wp2
        go_ret2
        exact ⟨_, rfl, rput_done hn8 hw, hb⟩

theorem rput_no (n : Int) (x : Nat) (hx : x < 18446744073709551616) (hf : fitsW n x = false) (w : World) : Calls Try.prog 86 #[.int .i64 n, .int .u64 (x : Int)] w fun e w' => e = .returned (.tuple #[.slice none 0 0, .bool false]) ∧ w = w' := by
  cases hn : isW n with
  | false =>
    go_enter Try.func86, Try.ntmps86
    go_wp2_with fail
    refine (width_any _ _).mono ?_
    rintro e w1 ⟨rfl, rfl⟩
    rw [hn]
    go_wp2
    go_ret2
    exact ⟨rfl, rfl⟩
  | true =>
    have HN := Lib.hid hn
    simp only [fitsW, hn, Bool.true_and, decide_eq_false_iff_not, Nat.not_lt] at hf
    have hb : 0 ≤ n ∧ n ≤ 8 := by simp [isW] at hn; omega
    obtain ⟨k, rfl⟩ := Int.eq_ofNat_of_zero_le hb.1
    simp only [Int.toNat_natCast] at hf
    have h8 : k < 8 := by
      rcases Nat.lt_or_ge k 8 with h | h
      · exact h
      · have : k = 8 := by omega
        subst this
        have : 2 ^ (8 * 8) = 18446744073709551616 := by decide
        omega
    have d8 : decide ((k : Int) < 8) = true := by simp; omega
    have HF := Lib.hid hf
    clear hn hf hb
    go_enter Try.func86, Try.ntmps86
    go_wp2_with fail
    refine (width_any _ _).mono ?_
    rintro e w1 ⟨rfl, rfl⟩
    rw [HN.out]
    go_wp2_with fail
    refine (power_any k h8 _).mono ?_
    rintro e w1 ⟨rfl, rfl⟩
    have hp : ∀ p : Nat, 2 ^ (8 * k) = p → decide (p ≤ x) = true := fun p e => by have := HF.out; simp; omega
    generalize hpe : 2 ^ (8 * k) = p
    have hpp := hp p hpe
    clear hp hpe
    go_wp2
    go_ret2
    exact ⟨rfl, rfl⟩

end Go.Proofs.Ytljcaigaofalbaa
