/- The laws' says and alive, by contracts. They ask what a variable of the library's holds: some number. -/
import Derived.Test.YtdeiohcciafffaaGreatDoorTReadsL
namespace Go.Proofs.YtdeiohcciafffaaGreatDoor
open Go.RowKit Go.Shelf

/-- The text that a slice of texts is, joined by line feeds, in whatever later world. -/
def Joins (sv : Value) (l : List UInt8) (w : World) : Prop := ∀ W, Below w.heap.size w W → Calls Tryz.prog 22 #[sv, .string ⟨#[10]⟩] W fun e W' => e = .returned (.string (txt l)) ∧ Below W.heap.size W W'
theorem Joins.later {sv : Value} {l : List UInt8} {w w' : World} (h : Joins sv l w) (hb : Below w.heap.size w w') : Joins sv l w' := fun W hW => h W (k_then hW hb)
theorem eql_zero (W : World) : (binOp .eql 23 (.agg zeroP.cells) (.agg #[.int .i64 0, .int .i64 0, .int .i64 0, .int .i64 0, .int .i64 0, .int .i64 0, .int .i64 0, .int .i64 0, .int .i64 0, .int .i64 0, .int .i64 0, .int .i64 0, .int .i64 0, .int .i64 0, .int .i64 0, .int .i64 0])).run Tryz.prog W = .ok (.bool true) W := eql_plan zeroP W

set_option maxRecDepth 100000 in
set_option maxHeartbeats 4000000 in
theorem says_any (l : List UInt8) (k : Nat) (sv : Value) (q : Int) (w : World) (hl : l.length ≤ 1000000) (hm : Sized q w) (hj : Joins sv l w) (he : errT l = true) (hk : lineNo l = k) :
    Calls Tryz.prog 11 #[.int .i64 (k : Int), sv] w fun e w' => e = .returned (.bool true) ∧ Below w.heap.size w w' := by
  have hp := fun W (h : Sized q W) => Parse_any l q W hl h
  have hu := fun W (h : Sized q W) => Load_any l q W hl h
  have e1 : parseV l = .tuple #[.agg zeroP.cells, .int .i64 (k : Int), .int .i64 80] := by rw [parseV, planT, he, hk]; rfl
  have e2 : loadV l = .tuple #[.agg zeroP.cells, .int .i64 80] := by rw [loadV, loadE, he]; rfl
  rw [e1] at hp
  rw [e2] at hu
  have HP := Lib.hid hp
  have HU := Lib.hid hu
  have HM := Lib.hid hm
  have HJ := Lib.hid hj
  have hq := eql_zero
  have HQ := Lib.hid zeroP.cellsL
  clear hp hu hm hj e1 e2 he hk
  obtain ⟨tl, htl⟩ : ∃ tl, tl = txt l := ⟨_, rfl⟩
  unfold Joins at HJ
  rw [← htl] at HP HU HJ
  clear htl
  generalize zeroP.cells = cs at *
  go_enter Tryz.func11, Tryz.ntmps11
  go_upto_region 2 with (first
    | (go_at_call 22; refine (HJ.out _ (Below.refl _ _)).mono ?_; rintro e w1 ⟨rfl, hb⟩; have HB1 := Lib.hid hb; clear hb)
    | (go_at_call 7; refine (HP.out _ (HM.out.later HB1.out)).mono ?_; rintro e w2 ⟨rfl, hb⟩; have HB2 := Lib.hid (k_then hb HB1.out); clear hb)
    | (refine wpList_store_last (w := w2) rfl 23 (.tmp 5) (.tmp 14) rfl w2.heap.size cs rfl rfl 23 _ rfl HQ.out.plan HQ.out.size.symm HQ.out.one ?_; have HX := Lib.hid (Whole.new w2 23 cs); have HB3 := Lib.hid (HB2.out.alloc HB2.out.size (.cells cs 23))))
  generalize w2.alloc (.cells cs 23) = w3 at *
  clear HB1 HB2 HP
  go_upto_region 3 with (first
    | (go_at_call 22; refine (HJ.out _ HB3.out).mono ?_; rintro e w4 ⟨rfl, hb⟩; have HB4 := Lib.hid (k_then hb HB3.out); have HX4 := Lib.hid (k_later hb HX.out); clear hb)
    | (go_at_call 8; refine (HU.out _ (HM.out.later HB4.out)).mono ?_; rintro e w5 ⟨rfl, hb⟩; have HB5 := Lib.hid (k_then hb HB4.out); have HX5 := Lib.hid (k_later hb HX4.out); clear hb)
    | (refine wpList_store_last (w := w5) rfl 23 (.tmp 8) (.tmp 21) rfl w5.heap.size cs rfl rfl 23 _ rfl HQ.out.plan HQ.out.size.symm HQ.out.one ?_; have HX6 := Lib.hid (HX5.out.alloc (.cells cs 23)); have HB6 := Lib.hid (HB5.out.alloc HB5.out.size (.cells cs 23))))
  generalize w5.alloc (.cells cs 23) = w6 at *
  clear HB3 HB4 HB5 HX HX4 HX5 HU HM HJ
  go_wp2_with (refine wpList_load_want rfl 23 (.tmp 5) rfl w2.heap.size rfl 23 cs (0, 0) _ HX6.out Tryz.underlying23 rfl HQ.out.plan ?_)
  go_ret
  exact ⟨rfl, HB6.out⟩

theorem joins_none (w : World) (a : Option Addr) (c : Nat) : Joins (.slice a 0 c) [] w := fun W _ =>
  (Tryz.strings_Join_none a c ⟨#[10]⟩ W).mono fun _ _ ⟨he, hw⟩ => ⟨he, hw ▸ Below.refl _ _⟩
theorem joins_cells {w : World} {bk c : Nat} {xs : List ByteArray} (h : ∀ (j : Nat) x, xs[j]? = some x → w.cell? ⟨bk, j, none⟩ = some (.string x)) (hbk : bk < w.heap.size) (hN : xs.length ≤ 1000000) (hc : xs.length ≤ c)
    (hl : (Lib.join (xs.map (·.data.toList)) [10]).length ≤ 1000000) : Joins (.slice (some ⟨bk, 0, none⟩) xs.length c) (Lib.join (xs.map (·.data.toList)) [10]) w := fun W hW =>
  Tryz.strings_Join bk 0 c xs ⟨#[10]⟩ W (fun j x hx => by rw [Nat.zero_add]; exact k_cell hW (h j x hx)) (Nat.lt_of_lt_of_le hbk hW.size) (by omega) hc (by
    have e : (⟨#[10]⟩ : ByteArray).data.toList = [10] := rfl
    rw [e]; omega)
theorem joins_new (w : World) (xs : List ByteArray) (hN : xs.length ≤ 1000000) (hl : (Lib.join (xs.map (·.data.toList)) [10]).length ≤ 1000000) :
    Joins (.slice (some ⟨w.heap.size, 0, none⟩) xs.length xs.length) (Lib.join (xs.map (·.data.toList)) [10]) (w.alloc (.cells (xs.map Value.string).toArray 9)) :=
  joins_cells (fun j x hx => by rw [(Whole.new w 9 (xs.map Value.string).toArray).cell j]; simp [hx]) (Whole.new w 9 (xs.map Value.string).toArray).lt hN (Nat.le_refl _) hl
/-- says of a slice that was just made. -/
theorem said_new (xs : List ByteArray) (k : Nat) (q : Int) (W : World) (hN : xs.length ≤ 1000000) (hl : (Lib.join (xs.map (·.data.toList)) [10]).length ≤ 1000000) (he : errT (Lib.join (xs.map (·.data.toList)) [10]) = true) (hk : lineNo (Lib.join (xs.map (·.data.toList)) [10]) = k) (hm : Sized q W) :
    Calls Tryz.prog 11 #[.int .i64 (k : Int), .slice (some ⟨W.heap.size, 0, none⟩) xs.length xs.length] (W.alloc (.cells (xs.map Value.string).toArray 9)) fun e w' => e = .returned (.bool true) ∧ Below W.heap.size W w' := by
  have hb := (Below.refl W.heap.size W).alloc (Nat.le_refl _) (.cells (xs.map Value.string).toArray 9)
  exact (says_any _ k _ q _ hl (hm.later hb) (joins_new W xs hN hl) he hk).mono fun _ _ ⟨h1, h2⟩ => ⟨h1, k_then h2 hb⟩

set_option maxRecDepth 100000 in
set_option maxHeartbeats 4000000 in
theorem alive_any (q : Int) (w : World) (hm : Sized q w) : Calls Tryz.prog 15 #[] w fun e w' => e = .returned (.bool true) ∧ Below w.heap.size w w' := by
  have H0 := Lib.hid (fun W (h : Sized q W) => says_any [] 0 (.slice none 0 0) q W (by decide) h (joins_none W none 0) (by kernel_rfl) (by kernel_rfl))
  have H1 := Lib.hid (fun W (h : Sized q W) => said_new [⟨#[110, 111, 100, 101, 115, 32, 61, 32, 52]⟩] 0 q W (by decide) (by decide) (by kernel_rfl) (by kernel_rfl) h)
  have H2 := Lib.hid (fun W (h : Sized q W) => said_new [⟨#[110, 111, 100, 101, 115, 32, 61, 32, 52]⟩, ⟨#[107, 32, 61, 32, 48, 49]⟩] 2 q W (by decide) (by decide) (by kernel_rfl) (by kernel_rfl) h)
  have H3 := Lib.hid (fun W (h : Sized q W) => said_new [⟨#[110, 111, 100, 101, 115, 32, 61, 32, 52, 32, 35, 32, 102, 111, 117, 114]⟩, ⟨#[]⟩, ⟨#[110, 111, 100, 101, 115, 61, 53]⟩] 3 q W (by decide) (by decide) (by kernel_rfl) (by kernel_rfl) h)
  have HM := Lib.hid hm
  clear hm
  go_enter Tryz.func15, Tryz.ntmps15
  go_wp2_with (first
    | (go_at_call 11; refine (H0.out _ HM.out).mono ?_; clear H0; rintro e w1 ⟨rfl, hb⟩; have HB1 := Lib.hid hb; clear hb)
    | (go_at_call 11; refine (H1.out w1 (HM.out.later HB1.out)).mono ?_; clear H1; rintro e w2 ⟨rfl, hb⟩; have HB2 := Lib.hid (k_then hb HB1.out); clear hb)
    | (go_at_call 11; refine (H2.out w2 (HM.out.later HB2.out)).mono ?_; clear H2; rintro e w3 ⟨rfl, hb⟩; have HB3 := Lib.hid (k_then hb HB2.out); clear hb)
    | (go_at_call 11; refine (H3.out w3 (HM.out.later HB3.out)).mono ?_; clear H3; rintro e w4 ⟨rfl, hb⟩; have HB4 := Lib.hid (k_then hb HB3.out); clear hb))
  go_ret
  exact ⟨rfl, HB4.out⟩
end Go.Proofs.YtdeiohcciafffaaGreatDoor
