/- alive, of the laws: the chapter's first examples. No condition. -/
import Derived.Test.YtmplidgafdobkaaUSome
import Derived.Lib.SlBytesConst
namespace Go.Proofs.Ytmplidgafdobkaa
open Go.RowKit Go.Shelf

def g0S : Lg := ⟨planS, [], 0, 0⟩
def rawS : List UInt8 := [97, 98]
def g1S : Lg := sendG g0S 0 100 rawS []
theorem send_S : sendV g0S 0 100 [] = .tuple #[.int .i64 0, .bool true, .int .i64 0] := by
  have h1 : okB g0S 0 100 [] = true := by decide
  have h2 : passB g0S 100 = true := by decide
  unfold sendV
  rw [h1, if_pos rfl, h2]
  rfl
theorem due_S : (dueG g1S 0).length = 6 := by decide
theorem is_S : isG g1S 0 1 0 = true := by decide
theorem no_S : isG g1S 0 0 0 = false := by decide
theorem hd_S : hdF g1S 0 1 0 = 0 ∧ hdC g1S 0 1 0 = 0 ∧ hdT g1S 0 1 0 = 101 ∧ hdB g1S 0 1 0 = rawS := by decide
theorem hn_S : hdF g1S 0 0 0 = 0 ∧ hdC g1S 0 0 0 = 0 ∧ hdT g1S 0 0 0 = 0 ∧ hdB g1S 0 0 0 = [] := by decide
theorem len_S : g1S.L.length ≤ 1000000 := by decide
/-- The cells of a row of bytes, and the bytes behind a slice of it. -/
def u8R (l : List UInt8) : Array Value := (l.map fun b => Value.int .u8 (b.toNat : Int)).toArray
theorem raw_at {w : World} {g : Nat} {l : List UInt8} {t : TypeId} {fr : Nat × Nat} (h : w.heap[g]? = some (.cells (u8R l) t fr)) (hl : l.length ≤ 1000000) : RSrc u8C 1 w ⟨some ⟨g, 0, none⟩, l.length, l.length⟩ l :=
  ⟨rfl, Nat.le_refl _, by show l.length ≤ _; omega, (fun e => by cases e), fun _ => ⟨g, 0, rfl, fun i x hx j v hv => by
    have hj : j = 0 := by have := (List.getElem?_eq_some_iff.1 hv).1; simp [u8C] at this; omega
    subst hj
    have hv' : v = Value.int .u8 (x.toNat : Int) := by simpa [u8C] using hv.symm
    subst hv'
    rw [cell_of_row w g _ (u8R l) t fr h, u8R, List.getElem?_toArray, List.getElem?_map]
    simp [hx]⟩⟩
/-- What is so of a world in alive: all that was is there, and the bus. -/
def AliveAt (w : World) (b : Nat) (g : Lg) (W : World) : Prop := BusF (fun k => k < w.heap.size) b g W ∧ Below w.heap.size w W
theorem AliveAt.later {w W W' : World} {b : Nat} {g : Lg} (h : AliveAt w b g W) (hb : Below W.heap.size W W') : AliveAt w b g W' := ⟨h.1.later hb, k_then hb h.2⟩
theorem bnd_lt {w W : World} (h : Below w.heap.size w W) : Bnd (fun k => k < w.heap.size) W := fun _ hk => Nat.lt_of_lt_of_le hk h.size

set_option maxRecDepth 100000 in
set_option maxHeartbeats 4000000 in
theorem alive_any (w : World) : Calls Try.prog 23 #[] w fun e w' => e = .returned (.bool true) ∧ Below w.heap.size w w' := by
  have HSO := Lib.hid (fun W => someS_any W)
  have HNE := Lib.hid (fun W (hW : Below w.heap.size w W) => (show Calls Try.prog 9 #[.agg planS.cells] W fun e w' => ∃ b, e = .returned (.tuple #[.pointer (some ⟨b, 0, none⟩), .int .i64 0]) ∧ AliveAt w b g0S w' from (new_f (F := fun k => k < w.heap.size) planS W failsS (bnd_lt hW)).mono fun e w' ⟨b, h1, h2, h3⟩ => ⟨b, h1, h2, k_then h3 hW⟩))
  have HSE := Lib.hid (fun W b (hW : AliveAt w b g0S W) => (show Calls Try.prog 11 #[.pointer (some ⟨b, 0, none⟩), .int .i64 0, .int .i64 100, .slice (some ⟨W.heap.size, 0, none⟩) 2 2, .slice none 0 0] (W.alloc (.cells #[.int .u8 97, .int .u8 98] 5 (2, 3))) fun e w' => e = .returned (.tuple #[.int .i64 0, .bool true, .int .i64 0]) ∧ AliveAt w b g1S w' from by
    have hb : Below W.heap.size W (W.alloc (.cells #[.int .u8 97, .int .u8 98] 5 (2, 3))) := (Below.refl _ _).alloc (Nat.le_refl _) _
    have h2 := hW.later hb
    refine (send_f h2.1 (bnd_lt h2.2) 0 100 ⟨some ⟨W.heap.size, 0, none⟩, 2, 2⟩ nilS rawS [] (raw_at (l := rawS) (fr := (2, 3)) (heap_alloc_new W _) (by decide)) (RSrc.nil _) (by show (2 : Nat) ≤ _; decide) (by show (0 : Nat) ≤ _; decide) (by show (0 : Nat) ≤ _; decide)).mono ?_
    rintro e w' ⟨rfl, k1, k2⟩
    exact ⟨by rw [send_S], k1, below_on h2.2 k2 (fun i hi => by omega) h2.2.size⟩))
  have HTY := Lib.hid (fun W b (hW : AliveAt w b g1S W) => (show Calls Try.prog 19 #[.pointer (some ⟨b, 0, none⟩), .int .i64 0, .int .i64 1, .int .i64 0] W fun e w' => ∃ A m d, e = .returned (.tuple #[.agg #[.int .i64 0, .int .i64 0, .int .i64 101, .slice A m d], .bool true]) ∧ RSrc u8C 1 w' ⟨A, m, d⟩ rawS ∧ Below W.heap.size W w' ∧ AliveAt w b g1S w' from
    (take_f hW.1 len_S 0 1 0).mono fun e w' ⟨A, m, d, h1, h2, _, h4⟩ => ⟨A, m, d, by rw [hd_S.1, hd_S.2.1, hd_S.2.2.1, is_S] at h1; exact h1, by rw [hd_S.2.2.2] at h2; exact h2, h4, hW.later h4⟩))
  have HTN := Lib.hid (fun W b (hW : AliveAt w b g1S W) => (show Calls Try.prog 19 #[.pointer (some ⟨b, 0, none⟩), .int .i64 0, .int .i64 0, .int .i64 0] W fun e w' => ∃ A m d, e = .returned (.tuple #[.agg #[.int .i64 0, .int .i64 0, .int .i64 0, .slice A m d], .bool false]) ∧ Below W.heap.size W w' ∧ AliveAt w b g1S w' from
    (take_f hW.1 len_S 0 0 0).mono fun e w' ⟨A, m, d, h1, _, _, h4⟩ => ⟨A, m, d, by rw [hn_S.1, hn_S.2.1, hn_S.2.2.1, no_S] at h1; exact h1, h4, hW.later h4⟩))
  have HDU := Lib.hid (fun W b (hW : AliveAt w b g1S W) => (show Calls Try.prog 17 #[.pointer (some ⟨b, 0, none⟩), .int .i64 0] W fun e w' => ∃ A c, e = .returned (.slice A 6 c) ∧ AliveAt w b g1S w' from
    (due_f hW.1 0).mono fun e w' ⟨v, h1, h2, h3⟩ => by
      rw [due_S] at h2
      rcases h2.2 with ⟨_, h0⟩ | ⟨gb, cap, cur, ev, _⟩
      · cases h0
      · exact ⟨_, _, by rw [h1, ev], hW.later h3⟩))
  have kc := fun (w : World) (C : Array Value) (n c : Nat) => Lib.run_convert_bytes_const (P := Try.prog) w 33 5 C n c Try.underlying33 Try.underlying5
  have H0 := Lib.hid (Below.refl w.heap.size w)
  have HS := Lib.hid planS.cellsL
  generalize planS.cells = cs at *
  go_enter Try.func23, Try.ntmps23
  go_upto_region 2 with (first
    | (go_at_call 22; refine (HSO.out _).mono ?_; rintro e w1 ⟨rfl, hb⟩; have H1 := Lib.hid hb; clear hb)
    | (go_at_call 9; refine (HNE.out _ H1.out).mono ?_; rintro e w2 ⟨b, rfl, hb⟩; have H2 := Lib.hid hb; clear hb))
  go_upto_region 3 with (go_at_call 11; refine (HSE.out _ _ H2.out).mono ?_; rintro e w3 ⟨rfl, hb⟩; have H3 := Lib.hid hb; clear hb)
  go_upto_region 4 with (go_at_call 19; refine (HTY.out _ _ H3.out).mono ?_; rintro e w4 ⟨A, m, d, rfl, hr, hb, ha⟩; have HB := Lib.hid ((Below.refl w4.heap.size w4).alloc (Nat.le_refl _) (.cells #[.int .i64 0, .int .i64 0, .int .i64 101, .slice A m d] 52)); have H4 := Lib.hid (ha.later HB.out); have HR := Lib.hid (hr.later HB.out); have HX := Lib.hid (Whole.new w4 52 #[.int .i64 0, .int .i64 0, .int .i64 101, .slice A m d]); clear hr hb ha)
  clear HB
  have HSA := Lib.hid (fun W b (hW : AliveAt w b g1S W) (A : Option Addr) (m d : Nat) (hr : RSrc u8C 1 W ⟨A, m, d⟩ rawS) => (show Calls Try.prog 21 #[.agg #[.int .i64 0, .int .i64 0, .int .i64 101, .slice A m d], .agg #[.int .i64 0, .int .i64 0, .int .i64 101, .slice (some ⟨W.heap.size, 0, none⟩) 2 2]] (W.alloc (.cells #[.int .u8 97, .int .u8 98] 5 (2, 3))) fun e w' => e = .returned (.bool true) ∧ AliveAt w b g1S w' from by
    have hb : Below W.heap.size W (W.alloc (.cells #[.int .u8 97, .int .u8 98] 5 (2, 3))) := (Below.refl _ _).alloc (Nat.le_refl _) _
    refine (same_any (W.alloc (.cells #[.int .u8 97, .int .u8 98] 5 (2, 3))) 0 0 101 0 0 101 ⟨A, m, d⟩ ⟨some ⟨W.heap.size, 0, none⟩, 2, 2⟩ rawS rawS (hr.later hb) (raw_at (l := rawS) (fr := (2, 3)) (heap_alloc_new W _) (by decide))).mono ?_
    rintro e w' ⟨rfl, k⟩
    exact ⟨by simp, (hW.later hb).later k⟩))
  go_upto_region 5 with (go_at_call 19; refine (HTN.out _ _ H4.out).mono ?_; rintro e w5 ⟨A', m', d', rfl, hb, ha⟩; have HB := Lib.hid ((Below.refl w5.heap.size w5).alloc (Nat.le_refl _) (.cells #[.int .i64 0, .int .i64 0, .int .i64 0, .slice A' m' d'] 52)); have H5 := Lib.hid (ha.later HB.out); have HR5 := Lib.hid ((HR.out.later hb).later HB.out); have HX5 := Lib.hid (k_later HB.out (k_later hb HX.out)); clear hb ha)
  clear HB
  generalize (w5.alloc _ : World) = W5 at *
  have c0 := HX5.out.cell 0
  have c1 := HX5.out.cell 1
  have c2 := HX5.out.cell 2
  have c3 := HX5.out.cell 3
  go_wp2_with (first
    | (go_at_call 21; refine (HSA.out _ _ H5.out _ _ _ HR5.out).mono ?_; rintro e w6 ⟨rfl, hb⟩; have H6 := Lib.hid hb; clear hb)
    | (go_at_call 17; refine (HDU.out _ _ H6.out).mono ?_; rintro e w7 ⟨A7, c7, rfl, hb⟩; have H7 := Lib.hid hb; clear hb))
  go_ret
  exact ⟨rfl, H7.out.2⟩
end Go.Proofs.Ytmplidgafdobkaa
