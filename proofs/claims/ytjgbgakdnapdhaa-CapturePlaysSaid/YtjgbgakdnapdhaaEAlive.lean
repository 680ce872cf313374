/- alive, of the laws: the chapter's first examples; words that the laws share. No condition. -/
import Derived.Test.YtjgbgakdnapdhaaEEq
namespace Go.Proofs.Ytjgbgakdnapdhaa
open Go.RowKit Go.Shelf

theorem capC_lit : capC noCa = #[.int .i64 0, .bool false, .int .i64 0, .bool false, .int .i64 0, .bool false, .int .i64 0, .bool false, .int .i64 0, .bool false, .int .i64 0, .bool false, .int .i64 0, .bool false, .int .i64 0, .bool false, .int .i64 0, .bool false, .int .i64 0, .bool false, .int .i64 0, .bool false, .int .i64 0, .bool false, .int .i64 0, .bool false, .int .i64 0, .bool false, .int .i64 0, .bool false, .int .i64 0, .bool false, .int .i64 0, .bool false, .int .i64 0, .bool false, .int .i64 0, .bool false, .int .i64 0, .bool false, .int .i64 0, .bool false, .int .i64 0, .bool false, .int .i64 0, .bool false, .int .i64 0, .bool false, .int .i64 0, .bool false, .int .i64 0, .bool false, .int .i64 0, .bool false, .int .i64 0, .bool false, .int .i64 0, .bool false, .int .i64 0, .bool false, .int .i64 0, .bool false, .int .i64 0, .bool false] := by kernel_rfl
/-- A capture of a law's own, and all that was is there. -/
structure LawC (w : World) (a : Nat) (f : Ca) (W : World) : Prop where
  cap : CapAt W a f
  below : Below w.heap.size w W
  own : w.heap.size ≤ a
section
variable {w W W' : World} {a : Nat} {f g : Ca}
theorem LawC.later (h : LawC w a f W) (hb : Below W.heap.size W W') : LawC w a f W' := ⟨h.cap.later hb, k_then hb h.below, h.own⟩
theorem LawC.to (h : LawC w a f W) (k : CapTo W a g W') : LawC w a g W' := ⟨k.1, below_on h.below k.2 (fun i e => by have e : i = a := e; have := h.own; omega) h.below.size, h.own⟩
theorem law_new (hb : Below w.heap.size w W) : LawC w W.heap.size noCa (W.alloc (.cells (capC noCa) 31)) := ⟨⟨Whole.new _ _ _, okc_no⟩, hb.alloc hb.size _, hb.size⟩
theorem law_note (h : LawC w a f W) (n c v : Int) : Calls Try.prog 19 #[.pointer (some ⟨a, 0, none⟩), .int .i64 n, .int .i64 c, .int .i64 v] W fun e w' => e = .returned (.int .i64 (noteE f n c v)) ∧ LawC w a (noteF f n c v) w' ∧ CapTo W a (noteF f n c v) w' :=
  (note_any h.cap n c v).mono fun _ _ ⟨e, k⟩ => ⟨e, h.to k, k⟩
theorem law_of (h : LawC w a f W) (n : Int) : Calls Try.prog 10 #[.pointer (some ⟨a, 0, none⟩), .int .i64 n] W fun e w' => e = .returned (ofV (ofC f n)) ∧ LawC w a f w' ∧ Below W.heap.size W w' :=
  (of_any h.cap n).mono fun _ _ ⟨e, k⟩ => ⟨e, h.later k, k⟩
theorem law_forget (h : LawC w a f W) (n : Int) : Calls Try.prog 21 #[.pointer (some ⟨a, 0, none⟩), .int .i64 n] W fun e w' => e = .returned (.bool (ofC f n).isSome) ∧ LawC w a (dropC f n) w' ∧ CapTo W a (dropC f n) w' :=
  (forget_any h.cap n).mono fun _ _ ⟨e, k⟩ => ⟨e, h.to k, k⟩
theorem law_count (h : LawC w a f W) : Calls Try.prog 14 #[.pointer (some ⟨a, 0, none⟩)] W fun e w' => e = .returned (.int .i64 ((listC f).length : Int)) ∧ LawC w a f w' ∧ Below W.heap.size W w' :=
  (count_any (SrcE.of h.cap)).mono fun _ _ ⟨e, k⟩ => ⟨e, h.later k, k⟩
theorem law_clear (h : LawC w a f W) : Calls Try.prog 22 #[.pointer (some ⟨a, 0, none⟩)] W fun e w' => e = .returned (.int .i64 ((listC f).length : Int)) ∧ LawC w a noCa w' ∧ CapTo W a noCa w' :=
  (clear_any h.cap).mono fun _ _ ⟨e, k⟩ => ⟨e, h.to k, k⟩
theorem law_copy (h : LawC w a f W) : Calls Try.prog 20 #[.pointer (some ⟨a, 0, none⟩)] W fun e w' => e = .returned (.pointer (some ⟨W.heap.size, 0, none⟩)) ∧ LawC w a f w' ∧ LawC w W.heap.size f w' ∧ Below W.heap.size W w' :=
  (copy_any h.cap).mono fun _ _ ⟨e, k1, k2⟩ => ⟨e, h.later k2, ⟨k1, k_then k2 h.below, h.below.size⟩, k2⟩
end
/-- A new row reads as a slice. -/
theorem newrow_src {α : Type} {cells : α → List Value} {k : Nat} {t : TypeId} {xs : List α} {w w' : World} {e : Ending} (hc : ∀ a, (cells a).length = k) (h : NewRow cells k t xs w e w') :
    ∃ A c, e = .returned (.slice A xs.length c) ∧ RSrc cells k w' ⟨A, xs.length, c⟩ xs ∧ (∀ ad, A = some ad → w.heap.size ≤ ad.block) ∧ Below w.heap.size w w' := by
  obtain ⟨v, rfl, hr, hb⟩ := h
  obtain ⟨⟨A, n, c⟩, rfl, hs, hA⟩ := rsrc_of_own hc rfl hr
  have hn : xs.length = n := hs.len
  subst hn
  refine ⟨A, c, rfl, hs, fun ad e => ?_, hb⟩
  subst e
  exact (own_typed hr hA.symm).1
theorem law_list {w W : World} {a : Nat} {f : Ca} (h : LawC w a f W) : Calls Try.prog 12 #[.pointer (some ⟨a, 0, none⟩)] W fun e w' => ∃ A c, e = .returned (.slice A (listC f).length c) ∧ RSrc deC 2 w' ⟨A, (listC f).length, c⟩ (listC f) ∧ (∀ ad, A = some ad → W.heap.size ≤ ad.block) ∧ LawC w a f w' ∧ Below W.heap.size W w' :=
  (list_any (SrcE.of h.cap)).mono fun _ _ k => by
    obtain ⟨A, c, h1, h2, h3, h4⟩ := newrow_src (cells := deC) (k := 2) (fun _ => rfl) k
    exact ⟨A, c, h1, h2, h3, h.later h4, h4⟩
theorem law_values {w W : World} {a : Nat} {f : Ca} (h : LawC w a f W) (own : Int) : Calls Try.prog 13 #[.pointer (some ⟨a, 0, none⟩), .int .i64 own] W fun e w' => ∃ A c, e = .returned (.slice A (valC f own).length c) ∧ RSrc inC 1 w' ⟨A, (valC f own).length, c⟩ (valC f own) ∧ (∀ ad, A = some ad → W.heap.size ≤ ad.block) ∧ LawC w a f w' ∧ Below W.heap.size W w' :=
  (values_any h.cap own).mono fun _ _ k => by
    obtain ⟨A, c, h1, h2, h3, h4⟩ := newrow_src (cells := inC) (k := 1) (fun _ => rfl) k
    exact ⟨A, c, h1, h2, h3, h.later h4, h4⟩
/-- A block that was just made reads as a slice. -/
theorem rsrc_whole {α : Type} {cells : α → List Value} {k : Nat} (hc : ∀ a, (cells a).length = k) {w : World} {g : Nat} {t : TypeId} {xs : List α} (h : Whole w g t (xs.flatMap cells).toArray) (hl : xs.length ≤ 1000000) : RSrc cells k w ⟨some ⟨g, 0, none⟩, xs.length, xs.length⟩ xs :=
  ⟨rfl, Nat.le_refl _, by show xs.length ≤ _; omega, (fun e => by cases e), fun _ => ⟨g, 0, rfl, fun i x hx j v hv => by
    have hj : j < k := by have := (List.getElem?_eq_some_iff.1 hv).1; rwa [hc] at this
    rw [h.cell, List.getElem?_toArray, Nat.zero_add, flat_get hc xs i x j hx hj]
    exact hv⟩⟩

def fA1 : Ca := noteF noCa 3 0 7
def fA2 : Ca := noteF fA1 3 1 8
def fA4 : Ca := noteF fA2 1 1 (-4)
theorem a_facts : noteE noCa 3 0 7 = 0 ∧ noteE fA1 3 1 8 = 0 ∧ ofC fA2 3 = some 7 ∧ noteE fA2 3 1 9 = 130 ∧ noteE fA2 1 1 (-4) = 0 ∧ valC fA4 2 = [-4, 0, 7] ∧ (listC fA4).length = 2 := ⟨by kernel_rfl, by kernel_rfl, by kernel_rfl, by kernel_rfl, by kernel_rfl, by kernel_rfl, by kernel_rfl⟩
theorem a_same : noteF fA2 3 1 9 = fA2 := rfl
theorem longs_new {W : World} {es : List Int} {A : Option Addr} {n c : Nat} (hr : RSrc inC 1 W ⟨A, n, c⟩ es) (fs : List Int) (hf : fs.length ≤ 1000000) (cs : Array Value) (hcs : (fs.flatMap inC).toArray = cs) :
    Calls Try.prog 17 #[.slice A n c, .slice (some ⟨W.heap.size, 0, none⟩) fs.length fs.length] (W.alloc (.cells cs 2)) fun e w' => e = .returned (.bool (decide (es = fs))) ∧ Below W.heap.size W w' := by
  have hb : Below W.heap.size W (W.alloc (.cells cs 2)) := (Below.refl _ _).alloc (Nat.le_refl _) _
  refine (longs_any (W.alloc (.cells cs 2)) ⟨A, n, c⟩ ⟨some ⟨W.heap.size, 0, none⟩, fs.length, fs.length⟩ es fs (hr.later hb) (rsrc_whole (cells := inC) (k := 1) (t := 2) (fun _ => rfl) (by rw [hcs]; exact Whole.new _ _ _) hf)).mono ?_
  rintro e w' ⟨rfl, k⟩
  exact ⟨rfl, k_then k hb⟩

set_option maxRecDepth 100000 in
set_option maxHeartbeats 4000000 in
theorem alive_any (w : World) : Calls Try.prog 23 #[] w fun e w' => e = .returned (.bool true) ∧ Below w.heap.size w w' := by
  obtain ⟨a1, a2, a3, a4, a5, a6, a7⟩ := a_facts
  have HN1 := Lib.hid (fun W (h : LawC w w.heap.size noCa W) => law_note h 3 0 7)
  have HN2 := Lib.hid (fun W (h : LawC w w.heap.size fA1 W) => law_note h 3 1 8)
  have HO := Lib.hid (fun W (h : LawC w w.heap.size fA2 W) => law_of h 3)
  have HN3 := Lib.hid (fun W (h : LawC w w.heap.size fA2 W) => law_note h 3 1 9)
  have HN4 := Lib.hid (fun W (h : LawC w w.heap.size fA2 W) => law_note h 1 1 (-4))
  have HV := Lib.hid (fun W (h : LawC w w.heap.size fA4 W) => law_values h 2)
  have HC := Lib.hid (fun W (h : LawC w w.heap.size fA4 W) => law_count h)
  have HL := Lib.hid (fun (W : World) (A : Option Addr) (c : Nat) (h : RSrc inC 1 W ⟨A, 3, c⟩ [-4, 0, 7]) => longs_new h [-4, 0, 7] (by decide) #[.int .i64 (-4), .int .i64 0, .int .i64 7] rfl)
  rw [a1] at HN1
  rw [a2] at HN2
  rw [a3] at HO
  rw [a4, a_same] at HN3
  rw [a5] at HN4
  rw [a6] at HV
  rw [a7] at HC
  unfold ofV at HO
  have H0 := Lib.hid (show LawC w w.heap.size noCa (w.alloc (.cells #[.int .i64 0, .bool false, .int .i64 0, .bool false, .int .i64 0, .bool false, .int .i64 0, .bool false, .int .i64 0, .bool false, .int .i64 0, .bool false, .int .i64 0, .bool false, .int .i64 0, .bool false, .int .i64 0, .bool false, .int .i64 0, .bool false, .int .i64 0, .bool false, .int .i64 0, .bool false, .int .i64 0, .bool false, .int .i64 0, .bool false, .int .i64 0, .bool false, .int .i64 0, .bool false, .int .i64 0, .bool false, .int .i64 0, .bool false, .int .i64 0, .bool false, .int .i64 0, .bool false, .int .i64 0, .bool false, .int .i64 0, .bool false, .int .i64 0, .bool false, .int .i64 0, .bool false, .int .i64 0, .bool false, .int .i64 0, .bool false, .int .i64 0, .bool false, .int .i64 0, .bool false, .int .i64 0, .bool false, .int .i64 0, .bool false, .int .i64 0, .bool false, .int .i64 0, .bool false] 31)) from by rw [← capC_lit]; exact law_new (Below.refl _ _))
  clear a1 a2 a3 a4 a5 a6 a7
  go_enter Try.func23, Try.ntmps23
  go_upto_region 2 with fail
  generalize (w.alloc _ : World) = w1 at *
  go_upto_region 3 with (first
    | (go_at_call 19; refine (HN1.out _ H0.out).mono ?_; (rintro e w2 ⟨rfl, h2, _⟩; have H2 := Lib.hid h2; clear h2 HN1))
    | (go_at_call 19; refine (HN2.out _ H2.out).mono ?_; (rintro e w3 ⟨rfl, h3, _⟩; have H3 := Lib.hid h3; clear h3 HN2)))
  go_upto_region 5 with (first
    | (go_at_call 10; refine (HO.out _ H3.out).mono ?_; (rintro e w4 ⟨rfl, h4, _⟩; have H4 := Lib.hid h4; clear h4))
    | (go_at_call 19; refine (HN3.out _ H4.out).mono ?_; (rintro e w5 ⟨rfl, h5, _⟩; have H5 := Lib.hid h5; clear h5 HN3))
    | (go_at_call 19; refine (HN4.out _ H5.out).mono ?_; (rintro e w6 ⟨rfl, h6, _⟩; have H6 := Lib.hid h6; clear h6 HN4)))
  go_wp2_with (first
    | (go_at_call 13; refine (HV.out _ H6.out).mono ?_; (rintro e w7 ⟨A, c, rfl, hr, _, h7, _⟩; have H7 := Lib.hid h7; have HR := Lib.hid hr; clear h7 hr))
    | (go_at_call 17; refine (HL.out _ _ _ HR.out).mono ?_; (rintro e w8 ⟨rfl, hb⟩; have H8 := Lib.hid (H7.out.later hb); clear hb))
    | (go_at_call 14; refine (HC.out _ H8.out).mono ?_; (rintro e w9 ⟨rfl, h9, _⟩; have H9 := Lib.hid h9; clear h9)))
  go_ret
  exact ⟨rfl, H9.out.below⟩
end Go.Proofs.Ytjgbgakdnapdhaa
