/- CaptureBetween, its walk. No condition. -/
import Derived.Test.YtjgbgakdnapdhaaEAlive
import Derived.Test.YtjgbgakdnapdhaaEOpen
import Derived.IntWalk
namespace Go.Proofs.Ytjgbgakdnapdhaa
open Go.RowKit Go.Shelf

/-- A slice that reads as a row, none of it in block a. -/
structure RowA {α : Type} (cells : α → List Value) (k a : Nat) (s : Sl) (xs : List α) (W : World) : Prop where
  src : RSrc cells k W s xs
  far : ∀ ad, s.A = some ad → ad.block ≠ a
theorem RowA.later {α : Type} {cells : α → List Value} {k a : Nat} {s : Sl} {xs : List α} {W W' : World} (h : RowA cells k a s xs W) (hb : Below W.heap.size W W') : RowA cells k a s xs W' := ⟨h.src.later hb, h.far⟩
theorem RowA.to {α : Type} {cells : α → List Value} {k a : Nat} {s : Sl} {xs : List α} {W W' : World} {g : Ca} (h : RowA cells k a s xs W) (hk : CapTo W a g W') : RowA cells k a s xs W' := ⟨h.src.kept hk.2 (fun ad e _ e2 => h.far ad e e2), h.far⟩

theorem devs_same {W : World} {A1 A2 : Option Addr} {n c1 c2 : Nat} {L : List De} (h1 : RSrc deC 2 W ⟨A1, n, c1⟩ L) (h2 : RSrc deC 2 W ⟨A2, n, c2⟩ L) : Calls Try.prog 16 #[.slice A1 n c1, .slice A2 n c2] W fun e w' => e = .returned (.bool true) ∧ Below W.heap.size W w' :=
  (devs_any W ⟨A1, n, c1⟩ ⟨A2, n, c2⟩ L L h1 h2).mono fun _ _ ⟨e, k⟩ => ⟨by rw [e, decide_eq_true (rfl : L = L)], k⟩
/-- Nothing is noted of node n. -/
def FreeC (f : Ca) (n : Nat) : Prop := f n 0 = none ∧ f n 1 = none
theorem free_note {f : Ca} {n : Nat} (h : FreeC f n) {i c v : Int} (hi : i ≠ (n : Int)) : FreeC (noteF f i c v) n := by
  unfold noteF
  split
  · rename_i hok
    have hn : nodeB i = true := by
      unfold okB at hok
      simp only [Bool.and_eq_true] at hok
      exact hok.1.1.1
    obtain ⟨k, hk, rfl⟩ := nodeB_iff.1 hn
    have hne : ¬ n = k := fun e => hi (by rw [e])
    rw [Int.toNat_natCast]
    unfold FreeC putC
    simp only [hne, false_and, if_false]
    exact h
  · exact h
theorem ok_free {f : Ca} {n c : Nat} (hn : n < 16) (hc : c < 2) {v : Int} (hv : -4294967296 ≤ v ∧ v ≤ 4294967296) (h : f n c = none) : okB f (n : Int) (c : Int) v = true := by
  unfold okB
  rw [nodeB_iff.2 ⟨n, hn, rfl⟩, chanB_iff.2 ⟨c, hc, rfl⟩, byB_iff.2 hv, Int.toNat_natCast, Int.toNat_natCast, h]
  rfl
theorem bet_facts {f : Ca} {n : Nat} (hn : n < 16) (h : FreeC f n) {x y : Int} (hx : -4294967296 ≤ x ∧ x ≤ 4294967296) (hy : -4294967296 ≤ y ∧ y ≤ 4294967296) :
    noteE f (n : Int) 0 x = 0 ∧ ofC (noteF f (n : Int) 0 x) (n : Int) = some x ∧ noteE (noteF f (n : Int) 0 x) (n : Int) 1 y = 0 ∧ ofC (noteF (noteF f (n : Int) 0 x) (n : Int) 1 y) (n : Int) = some ((x + y) / 2) ∧
      listC (dropC (noteF (noteF f (n : Int) 0 x) (n : Int) 1 y) (n : Int)) = listC f := by
  have hnB : nodeB (n : Int) = true := nodeB_iff.2 ⟨n, hn, rfl⟩
  have k1 := ok_free (c := 0) hn (by decide) hx h.1
  have e1 : noteF f (n : Int) 0 x = putC f n 0 x := by
    unfold noteF
    rw [show (0 : Int) = ((0 : Nat) : Int) from rfl, k1, if_pos rfl, Int.toNat_natCast]
    rfl
  have g1 : (putC f n 0 x) n 1 = none := by unfold putC; simp [h.2]
  have g0 : (putC f n 0 x) n 0 = some x := by unfold putC; simp
  have k2 := ok_free (c := 1) (f := putC f n 0 x) hn (by decide) hy g1
  have e2 : noteF (putC f n 0 x) (n : Int) 1 y = putC (putC f n 0 x) n 1 y := by
    unfold noteF
    rw [show (1 : Int) = ((1 : Nat) : Int) from rfl, k2, if_pos rfl, Int.toNat_natCast]
    rfl
  rw [e1, e2]
  refine ⟨?_, ?_, ?_, ?_, ?_⟩
  · unfold noteE
    rw [show (0 : Int) = ((0 : Nat) : Int) from rfl, k1]
    rfl
  · unfold ofC devF
    rw [hnB, if_pos rfl, Int.toNat_natCast, g0, g1]
    rfl
  · unfold noteE
    rw [show (1 : Int) = ((1 : Nat) : Int) from rfl, k2]
    rfl
  · unfold ofC devF
    rw [hnB, if_pos rfl, Int.toNat_natCast]
    have q0 : putC (putC f n 0 x) n 1 y n 0 = some x := by unfold putC; simp
    have q1 : putC (putC f n 0 x) n 1 y n 1 = some y := by unfold putC; simp
    rw [q0, q1]
    rfl
  · apply listC_congr
    intro i _
    unfold dropC
    rw [hnB, if_pos rfl, Int.toNat_natCast]
    by_cases hi : i = n
    · subst hi
      rw [(set_at _ i none none).1, (set_at _ i none none).2]
      exact ⟨h.1.symm, h.2.symm⟩
    · rw [set_far _ none none hi, set_far _ none none hi]
      unfold putC
      simp [hi]

set_option maxRecDepth 100000 in
set_option maxHeartbeats 8000000 in
theorem captureBetween_walk (s : Sl) (os : List Oe) (m : Nat) (hm : m < 256) (a b : Int) (w : World) (ho : RSrc oeC 4 w s os) : Calls Try.prog 5 #[s.v, .int .u8 (m : Int), .int .i64 a, .int .i64 b] w fun e w' => e = .returned (.bool true) ∧ Below w.heap.size w w' := by
  have HA := Lib.hid (fun W => alive_any W)
  have hl := ho.len
  have hmx := Nat.le_trans ho.cap ho.max
  have HO := Lib.hid ho
  obtain ⟨A, N, c⟩ := s
  unfold Sl.v
  dsimp only at *
  clear ho
  by_cases hN : N ≤ 40
  · obtain ⟨n, hn⟩ : ∃ n, n = m % 16 := ⟨_, rfl⟩
    have hn16 : n < 16 := by omega
    have c1 : IntKind.i64.wrap (m : Int) = (m : Int) := IntWalk.i64_in _ (by omega)
    have c2 : (m : Int).tmod 16 = (n : Int) := by rw [Int.tmod_eq_emod_of_nonneg (by omega)]; omega
    obtain ⟨x, hx⟩ : ∃ x, x = a.tmod 4294967296 := ⟨_, rfl⟩
    obtain ⟨y, hy⟩ : ∃ y, y = b.tmod 4294967296 := ⟨_, rfl⟩
    have hxb : -4294967296 ≤ x ∧ x ≤ 4294967296 := by
      have h1 := Int.lt_tmod_of_pos a (show (0 : Int) < 4294967296 by decide)
      have h2 := Int.tmod_lt_of_pos a (show (0 : Int) < 4294967296 by decide)
      omega
    have hyb : -4294967296 ≤ y ∧ y ≤ 4294967296 := by
      have h1 := Int.lt_tmod_of_pos b (show (0 : Int) < 4294967296 by decide)
      have h2 := Int.tmod_lt_of_pos b (show (0 : Int) < 4294967296 by decide)
      omega
    have HBF := Lib.hid (fun f (h : FreeC f n) => bet_facts hn16 h hxb hyb)
    have H0 := Lib.hid (fun W (hW : Below w.heap.size w W) => law_new hW)
    have c3 : a.tmod 4294967296 = x := hx.symm
    have c4 : b.tmod 4294967296 = y := hy.symm
    have HNN := Lib.hid hn
    clear hn hx hy
    go_enter Try.func5, Try.ntmps5
    go_wp2_with (go_at_call 23; refine (HA.out _).mono ?_; rintro e w1 ⟨rfl, hb1⟩; have HB1 := Lib.hid hb1; clear hb1)
    rw [capC_lit] at H0
    have HL1 := Lib.hid (H0.out w1 HB1.out)
    generalize (w1.alloc _ : World) = w2 at *
    obtain ⟨a0, ha0⟩ : ∃ a0, a0 = w1.heap.size := ⟨_, rfl⟩
    rw [← ha0] at HL1 ⊢
    clear ha0 H0 HA
    go_loopw [35] (fun iv wr => ∃ (k : Nat) (f : Ca), k ≤ N ∧ iv = .int .i64 (k : Int) ∧ FreeC f n ∧ LawC w a0 f wr) (fun iv _ => N - (intOf iv).toNat)
    case atStart => exact ⟨0, noCa, Nat.zero_le _, rfl, ⟨rfl, rfl⟩, HL1.out⟩
    case round =>
      obtain ⟨k, f, hk, rfl, hfr, hW⟩ := hrel
      have HW := Lib.hid hW
      have HFR := Lib.hid hfr
      by_cases hlt : k < N
      · as_aux_lemma =>
        obtain ⟨g, o, hA0, hA2⟩ := (HO.out.later hW.below).get (i := k) hlt
        dsimp only at hA0
        subst hA0
        obtain ⟨⟨ok, on, oc, ov⟩, hx⟩ : ∃ o, o = os.getD k default := ⟨_, rfl⟩
        rw [← hx] at hA2
        obtain ⟨q0, q1, q2, q3⟩ := oeC_cells hA2
        clear hx
        have e1 : (0 : Int) ≤ (k : Int) := by omega
        have e2 : (k : Int) < (N : Int) := by omega
        obtain ⟨w3, hw3⟩ : ∃ w3, w3 = wr.alloc (.cells #[.int .i64 ok, .int .i64 on, .int .i64 oc, .int .i64 ov] 40) := ⟨_, rfl⟩
        have hb3 : Below wr.heap.size wr w3 := by rw [hw3]; exact (Below.refl _ _).alloc (Nat.le_refl _) _
        have HN := Lib.hid (law_note (HW.out.later hb3) on oc ov)
        rw [hw3] at HN hb3
        have HB3 := Lib.hid hb3
        clear hA2 hW hfr hw3 hb3
        by_cases hon : on = (n : Int)
        · subst hon
          clear HN
          go_wp2
          go_roundw
          case rel => exact ⟨k + 1, f, by omega, by go_num, HFR.out, HW.out.later HB3.out⟩
          case measure => simp [intOf]; omega
        · have hon2 : (on == (n : Int)) = false := beq_eq_false_iff_ne.2 hon
          have hon3 : (on != (n : Int)) = true := by simp [bne, hon2]
          have HF2 := Lib.hid (free_note HFR.out (c := oc) (v := ov) hon)
          clear hon
          go_wp2_with (go_at_call 19; refine HN.out.mono ?_; rintro e w4 ⟨rfl, h4, _⟩; have H4 := Lib.hid h4; clear h4)
          go_roundw
          case rel => exact ⟨k + 1, _, by omega, by go_num, HF2.out, H4.out⟩
          case measure => simp [intOf]; omega
      · clear hW hfr
        obtain ⟨b1, b2, b3, b4, b5⟩ := HBF.out f HFR.out
        have HLI := Lib.hid (fun W (h : LawC w a0 f W) => law_list h)
        have HNA := Lib.hid (fun W (h : LawC w a0 f W) => law_note h (n : Int) 0 x)
        rw [b1] at HNA
        obtain ⟨f2, hf2⟩ : ∃ f2, f2 = noteF f (n : Int) 0 x := ⟨_, rfl⟩
        rw [← hf2] at HNA b2 b3 b4 b5
        have HOA := Lib.hid (fun W (h : LawC w a0 f2 W) => law_of h (n : Int))
        have HNB := Lib.hid (fun W (h : LawC w a0 f2 W) => law_note h (n : Int) 1 y)
        rw [b3] at HNB
        rw [b2] at HOA
        obtain ⟨f3, hf3⟩ : ∃ f3, f3 = noteF f2 (n : Int) 1 y := ⟨_, rfl⟩
        rw [← hf3] at HNB b4 b5
        have HOB := Lib.hid (fun W (h : LawC w a0 f3 W) => law_of h (n : Int))
        have HFG := Lib.hid (fun W (h : LawC w a0 f3 W) => law_forget h (n : Int))
        rw [b4] at HOB HFG
        obtain ⟨f4, hf4⟩ : ∃ f4, f4 = dropC f3 (n : Int) := ⟨_, rfl⟩
        rw [← hf4] at HFG b5
        have HLJ := Lib.hid (fun W (h : LawC w a0 f4 W) => law_list h)
        rw [b5] at HLJ
        obtain ⟨z, hz⟩ : ∃ z, z = (x + y) / 2 := ⟨_, rfl⟩
        rw [← hz] at HOB
        have z1 : 2 * z ≤ x + y := by omega
        have z2 : x + y - 1 ≤ 2 * z := by omega
        unfold ofV at HOA HOB
        generalize listC f = L at *
        clear b1 b2 b3 b4 b5 hf2 hf3 hf4 hz HBF
        go_upto_region 20 with (first
          | (go_at_call 12; refine (HLI.out _ HW.out).mono ?_; rintro e w3 ⟨A1, d1, rfl, hr, hA, h3, _⟩; have H3 := Lib.hid h3; have HR := Lib.hid (show RowA deC 2 a0 ⟨A1, L.length, d1⟩ L w3 from ⟨hr, fun ad e1 e2 => by have := hA ad e1; have := HW.out.cap.lt; omega⟩); clear hr hA h3 HLI)
          | (go_at_call 19; refine (HNA.out _ H3.out).mono ?_; rintro e w4 ⟨rfl, h4, h4k⟩; have H4 := Lib.hid h4; have HR4 := Lib.hid (HR.out.to h4k); clear h4 h4k HNA)
          | (go_at_call 10; refine (HOA.out _ H4.out).mono ?_; rintro e w5 ⟨rfl, h5, h5b⟩; have H5 := Lib.hid h5; have HR5 := Lib.hid (HR4.out.later h5b); clear h5 h5b HOA)
          | (go_at_call 19; refine (HNB.out _ H5.out).mono ?_; rintro e w6 ⟨rfl, h6, h6k⟩; have H6 := Lib.hid h6; have HR6 := Lib.hid (HR5.out.to h6k); clear h6 h6k HNB)
          | (go_at_call 10; refine (HOB.out _ H6.out).mono ?_; rintro e w7 ⟨rfl, h7, h7b⟩; have H7 := Lib.hid h7; have HR7 := Lib.hid (HR6.out.later h7b); clear h7 h7b HOB))
        clear HW HR HR4 HR5 HR6 H3 H4 H5 H6
        obtain ⟨x1, x2⟩ := hxb
        obtain ⟨y1, y2⟩ := hyb
        have s1 : IntKind.i64.wrap (x + y) = x + y := IntWalk.i64_in _ (by omega)
        have s2 : IntKind.i64.wrap (x + y - 1) = x + y - 1 := IntWalk.i64_in _ (by omega)
        have s3 : IntKind.i64.wrap (2 * z) = 2 * z := IntWalk.i64_in _ (by omega)
        have HWAY := Lib.hid (Int.lt_trichotomy x y)
        clear c1 c2 c3 c4 hmx hl
        rcases HWAY.out with hxy | hxy | hxy
        all_goals
          clear HWAY
          go_wp2_with (first
            | (go_at_call 21; refine (HFG.out _ H7.out).mono ?_; rintro e w8 ⟨rfl, h8, h8k⟩; have H8 := Lib.hid h8; have HR8 := Lib.hid (HR7.out.to h8k); clear h8 h8k HFG)
            | (go_at_call 12; refine (HLJ.out _ H8.out).mono ?_; rintro e w9 ⟨A2, d2, rfl, hr, _, h9, h9b⟩; have H9 := Lib.hid h9; have HR9 := Lib.hid (HR8.out.later h9b); have HS9 := Lib.hid hr; clear hr h9 h9b HLJ)
            | (go_at_call 16; refine (devs_same HS9.out HR9.out.src).mono ?_; rintro e w10 ⟨rfl, hb⟩; have H10 := Lib.hid (H9.out.later hb); clear hb))
          go_ret
          exact ⟨rfl, H10.out.below⟩
  · have hN2 : ¬ ((N : Int) ≤ 40) := by omega
    go_enter Try.func5, Try.ntmps5
    go_wp2_with (go_at_call 23; refine (HA.out _).mono ?_; rintro e w1 ⟨rfl, hb1⟩; have HB1 := Lib.hid hb1; clear hb1)
    go_ret
    exact ⟨rfl, HB1.out⟩
end Go.Proofs.Ytjgbgakdnapdhaa
