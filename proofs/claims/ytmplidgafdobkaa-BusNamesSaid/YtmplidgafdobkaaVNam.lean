/- BusNames: its sendings in numbers; calls on a bus that nobody made. No condition. | BusNames: calls of its bus, as the law makes them. No condition. | BusNames, its walk. No condition. -/
import Derived.Test.YtmplidgafdobkaaUAlive
import Derived.Lib.SlBytesConst
namespace Go.Proofs.Ytmplidgafdobkaa
open Go.RowKit Go.Shelf

section
variable {w : World}
theorem len_nil : Calls Try.prog 13 #[.pointer none] w fun e w' => e = .returned (.int .i64 0) ∧ w' = w := by
  go_enter Try.func13, Try.ntmps13
  go_wp2_with (go_at_call 26; refine made_nil.mono ?_; rintro e w' ⟨rfl, rfl⟩)
  go_ret
  exact ⟨rfl, rfl⟩
theorem len_zero (b : Nat) (h : w.cell? ⟨b, 0, none⟩ = some (.pointer none)) : Calls Try.prog 13 #[.pointer (some ⟨b, 0, none⟩)] w fun e w' => e = .returned (.int .i64 0) ∧ w' = w := by
  go_enter Try.func13, Try.ntmps13
  go_wp2_with (go_at_call 26; refine (made_zero b h).mono ?_; rintro e w' ⟨rfl, rfl⟩)
  go_ret
  exact ⟨rfl, rfl⟩
theorem has_zero (b : Nat) (h : w.cell? ⟨b, 0, none⟩ = some (.pointer none)) : Calls Try.prog 35 #[.pointer (some ⟨b, 0, none⟩), .int .i64 0] w fun e w' => e = .returned (.bool false) ∧ w' = w := by
  go_enter Try.func35, Try.ntmps35
  go_wp2_with (go_at_call 13; refine (len_zero b h).mono ?_; rintro e w' ⟨rfl, rfl⟩)
  go_ret
  exact ⟨rfl, rfl⟩
theorem free_nil (t : Int) : Calls Try.prog 14 #[.pointer none, .int .i64 t] w fun e w' => e = .returned (.bool false) ∧ w' = w := by
  go_enter Try.func14, Try.ntmps14
  go_wp2_with (go_at_call 26; refine made_nil.mono ?_; rintro e w' ⟨rfl, rfl⟩)
  go_ret
  exact ⟨rfl, rfl⟩
theorem send_nil (f t : Int) (r s : Value) : Calls Try.prog 11 #[.pointer none, .int .i64 f, .int .i64 t, r, s] w fun e w' => e = .returned (.tuple #[.int .i64 0, .bool false, .int .i64 1]) ∧ w' = w := by
  go_enter Try.func11, Try.ntmps11
  go_wp2_with (go_at_call 26; refine made_nil.mono ?_; rintro e w' ⟨rfl, rfl⟩)
  go_ret3
  exact ⟨rfl, rfl⟩
theorem due_zero (b : Nat) (h : w.cell? ⟨b, 0, none⟩ = some (.pointer none)) : Calls Try.prog 17 #[.pointer (some ⟨b, 0, none⟩), .int .i64 0] w fun e w' => e = .returned (.slice none 0 0) ∧ w' = w := by
  go_enter Try.func17, Try.ntmps17
  go_wp2_with (go_at_call 35; refine (has_zero b h).mono ?_; rintro e w' ⟨rfl, rfl⟩)
  go_ret
  exact ⟨rfl, rfl⟩
theorem take_zero (b : Nat) (h : w.cell? ⟨b, 0, none⟩ = some (.pointer none)) : Calls Try.prog 19 #[.pointer (some ⟨b, 0, none⟩), .int .i64 0, .int .i64 0, .int .i64 0] w fun e w' => e = .returned (.tuple #[.agg #[.int .i64 0, .int .i64 0, .int .i64 0, .slice none 0 0], .bool false]) ∧ Below w.heap.size w w' := by
  have hb : Below w.heap.size w (w.alloc (.cells #[.int .i64 0, .int .i64 0, .int .i64 0, .slice none 0 0] 52)) := (Below.refl _ _).alloc (Nat.le_refl _) _
  have hW : Whole (w.alloc (.cells #[.int .i64 0, .int .i64 0, .int .i64 0, .slice none 0 0] 52)) w.heap.size 52 #[.int .i64 0, .int .i64 0, .int .i64 0, .slice none 0 0] := Whole.new _ _ _
  have hh := has_zero b (k_cell hb h)
  have HB := Lib.hid (And.intro hb hW)
  have HC := Lib.hid hh
  clear hb hW h hh
  go_enter Try.func19, Try.ntmps19
  go_wp2_with (go_at_call 35; refine HC.out.mono ?_; rintro e wq ⟨rfl, hq⟩; obtain rfl := hq)
  exact bodyPost_ret (u_results1 rfl _ _ w.heap.size 52 _ (0, 0) _ rfl rfl HB.out.2 Try.underlying52 rfl info_hd) rfl ⟨rfl, HB.out.1⟩
end

/-- The fates of the third sending. -/
def fa3S : List Fa := [⟨1, false, false⟩, ⟨3, false, true⟩, ⟨2, true, false⟩, ⟨3, false, false⟩, ⟨1, false, false⟩, ⟨2, false, false⟩, ⟨1, false, true⟩]
def g2S : Lg := sendG g1S 2 101 [99, 100] []
def g3S : Lg := sendG g2S 0 356 [120, 121, 122] fa3S
theorem sendV_yes {g : Lg} {f t : Int} {fa : List Fa} {n : Nat} {p : Bool} (h : okB g f t fa = true) (hp : passB g t = p) (hn : g.L.length = n) : sendV g f t fa = .tuple #[.int .i64 (n : Int), .bool p, .int .i64 0] := by
  unfold sendV
  rw [h, if_pos rfl, hp, hn]
theorem sendV_no {g : Lg} {f t : Int} {fa : List Fa} (h : okB g f t fa = false) : sendV g f t fa = .tuple #[.int .i64 0, .bool false, .int .i64 120] := by
  unfold sendV
  rw [h]
  rfl
theorem sendG_no {g : Lg} {f t : Int} {raw : List UInt8} {fa : List Fa} (h : okB g f t fa = false) : sendG g f t raw fa = g := by
  unfold sendG
  rw [h]
  rfl
theorem s2 : okB g1S 2 101 [] = true ∧ passB g1S 101 = false ∧ g1S.L.length = 1 := by decide
theorem s3 : okB g2S 0 356 fa3S = true ∧ passB g2S 356 = true ∧ g2S.L.length = 2 := by decide
theorem l3 : g3S.L.length = 3 := by decide
theorem t1 : isG g2S 0 2 0 = false ∧ isG g2S 0 3 1 = true ∧ isG g2S 1 0 0 = false := by decide
theorem f1 : freeG g2S 356 = true ∧ freeG g2S 355 = false ∧ (dueG g2S 1).length = 0 := by decide
theorem t3 : isG g3S 2 1 0 = true ∧ isG g3S 2 2 0 = false ∧ isG g3S 2 3 0 = true ∧ isG g3S 2 2 1 = true ∧ isG g3S 2 3 1 = true ∧ (dueG g3S 2).length = 5 := by decide
theorem h3 : hdB g3S 2 1 0 = [120, 121] ∧ hdT g3S 2 1 0 = 359 ∧ hdT g3S 2 3 0 = 359 ∧ hdB g3S 2 3 0 = [120, 121, 122] ∧ hdB g3S 2 2 1 = [120, 121] ∧ hdT g3S 2 3 1 = 357 ∧ hdC g3S 2 3 1 = 1 := by decide
def fa9S : List Fa := List.replicate 9 ⟨0, false, false⟩
theorem n3 : okB g3S 4 400 [] = false ∧ okB g3S (-1) 400 [] = false ∧ okB g3S 0 355 [] = false ∧ okB g3S 0 400 [⟨4, false, false⟩] = false ∧ okB g3S 0 400 [⟨0, false, false⟩] = false ∧ okB g3S 0 400 fa9S = false ∧ okB g3S 0 4294967297 [] = false := by decide
theorem z0 : failsL zeroL 11 ≠ 0 := by decide
/-- A row of fates that was just made. -/
def faR (l : List Fa) : Array Value := (l.flatMap faC).toArray
theorem faC_len (a : Fa) : (faC a).length = 3 := rfl
theorem fa_flat (l : List Fa) : ∀ i x, l[i]? = some x → ∀ j v, (faC x)[j]? = some v → (l.flatMap faC)[i * 3 + j]? = some v := by
  induction l with
  | nil => intro i x h; simp at h
  | cons a l ih =>
    intro i x h j v hv
    have hj : j < 3 := by have := (List.getElem?_eq_some_iff.1 hv).1; rwa [faC_len] at this
    rw [List.flatMap_cons]
    cases i with
    | zero =>
      simp at h
      subst h
      rw [List.getElem?_append_left (by rw [faC_len]; omega)]
      simpa using hv
    | succ i =>
      rw [List.getElem?_append_right (by rw [faC_len]; omega), faC_len]
      have := ih i x (by simpa using h) j v hv
      rwa [show (i + 1) * 3 + j - 3 = i * 3 + j by omega]
theorem fa_at {w : World} {g : Nat} {l : List Fa} {t : TypeId} {fr : Nat × Nat} (h : w.heap[g]? = some (.cells (faR l) t fr)) (hl : l.length ≤ 1000000) : RSrc faC 3 w ⟨some ⟨g, 0, none⟩, l.length, l.length⟩ l :=
  ⟨rfl, Nat.le_refl _, by show l.length ≤ _; omega, (fun e => by cases e), fun _ => ⟨g, 0, rfl, fun i x hx j v hv => by
    have := fa_flat l i x hx j v hv
    rw [show (⟨g, 0 + i * 3 + j, none⟩ : Addr) = ⟨g, i * 3 + j, none⟩ by rw [Nat.zero_add], cell_of_row w g _ (faR l) t fr h, faR, List.getElem?_toArray]
    exact this⟩⟩
end Go.Proofs.Ytmplidgafdobkaa

namespace Go.Proofs.Ytmplidgafdobkaa
open Go.RowKit Go.Shelf

/-- A box with what was heard, and its bytes. -/
structure HeardAt (W : World) (C : Nat) (hf hc ht : Int) (r : Sl) (raw : List UInt8) : Prop where
  box : Whole W C 52 #[.int .i64 hf, .int .i64 hc, .int .i64 ht, r.v]
  raw : RSrc u8C 1 W r raw
section
variable {w W W' : World} {b C : Nat} {g g' : Lg} {hf hc ht : Int} {r : Sl} {raw : List UInt8}
theorem HeardAt.later (h : HeardAt W C hf hc ht r raw) (q : Below W.heap.size W W') : HeardAt W' C hf hc ht r raw := ⟨k_later q h.box, h.raw.later q⟩
theorem nm_send (hW : AliveAt w b g W) (f t : Int) (r s : Sl) (raw : List UInt8) (fa : List Fa) (hr : RSrc u8C 1 W r raw) (hs : RSrc faC 3 W s fa) (h1 : r.n ≤ 1000000) (h2 : s.n ≤ 1000000) (hl : g.L.length ≤ 1000000) {V : Value} (hV : sendV g f t fa = V) (hg : sendG g f t raw fa = g') :
    Calls Try.prog 11 #[.pointer (some ⟨b, 0, none⟩), .int .i64 f, .int .i64 t, r.v, s.v] W fun e w' => e = .returned V ∧ AliveAt w b g' w' :=
  (send_f hW.1 (bnd_lt hW.2) f t r s raw fa hr hs h1 h2 hl).mono fun e w' ⟨k0, k1, k2⟩ => ⟨by rw [k0, hV], by rw [← hg]; exact k1, below_on hW.2 k2 (fun i hi => by omega) hW.2.size⟩
theorem nm_take (hW : AliveAt w b g W) (hl : g.L.length ≤ 1000000) (id n c : Int) {B : Bool} (hB : isG g id n c = B) :
    Calls Try.prog 19 #[.pointer (some ⟨b, 0, none⟩), .int .i64 id, .int .i64 n, .int .i64 c] W fun e w' => ∃ (vf vc vt : Int) (A : Option Addr) (m d : Nat), e = .returned (.tuple #[.agg #[.int .i64 vf, .int .i64 vc, .int .i64 vt, .slice A m d], .bool B]) ∧ Below W.heap.size W w' :=
  (take_f hW.1 hl id n c).mono fun e w' ⟨A, m, d, h1, _, _, h4⟩ => ⟨_, _, _, A, m, d, by rw [hB] at h1; exact h1, h4⟩
theorem nm_heard (hW : AliveAt w b g W) (hl : g.L.length ≤ 1000000) (id n c : Int) {vf vc vt : Int} {vb : List UInt8} (hB : isG g id n c = true) (hF : hdF g id n c = vf) (hC : hdC g id n c = vc) (hT : hdT g id n c = vt) (hR : hdB g id n c = vb) :
    Calls Try.prog 19 #[.pointer (some ⟨b, 0, none⟩), .int .i64 id, .int .i64 n, .int .i64 c] W fun e w' => ∃ (A : Option Addr) (m d : Nat), e = .returned (.tuple #[.agg #[.int .i64 vf, .int .i64 vc, .int .i64 vt, .slice A m d], .bool true]) ∧ HeardAt (w'.alloc (.cells #[.int .i64 vf, .int .i64 vc, .int .i64 vt, .slice A m d] 52)) w'.heap.size vf vc vt ⟨A, m, d⟩ vb ∧ Below W.heap.size W w' :=
  (take_f hW.1 hl id n c).mono fun e w' ⟨A, m, d, h1, h2, _, h4⟩ => ⟨A, m, d, by rw [hB, hF, hC, hT] at h1; exact h1, ⟨Whole.new _ _ _, by rw [hR] at h2; exact h2.later ((Below.refl _ _).alloc (Nat.le_refl _) _)⟩, h4⟩
theorem nm_due (hW : AliveAt w b g W) (id : Int) {n : Nat} (hn : (dueG g id).length = n) : Calls Try.prog 17 #[.pointer (some ⟨b, 0, none⟩), .int .i64 id] W fun e w' => ∃ A c, e = .returned (.slice A n c) ∧ Below W.heap.size W w' :=
  (due_f hW.1 id).mono fun e w' ⟨v, h1, h2, h3⟩ => by
    rw [hn] at h2
    rcases h2.2 with ⟨ev, h0⟩ | ⟨gb, cap, cur, ev, _⟩
    · exact ⟨none, 0, by rw [h1, ev, h0], h3⟩
    · exact ⟨_, _, by rw [h1, ev], h3⟩
theorem nm_free (hW : AliveAt w b g W) (t : Int) {B : Bool} (hB : freeG g t = B) : Calls Try.prog 14 #[.pointer (some ⟨b, 0, none⟩), .int .i64 t] W fun e w' => e = .returned (.bool B) ∧ w' = W := by
  rw [← hB]; exact free_f hW.1 t
theorem nm_len (hW : AliveAt w b g W) {n : Nat} (hn : g.L.length = n) : Calls Try.prog 13 #[.pointer (some ⟨b, 0, none⟩)] W fun e w' => e = .returned (.int .i64 (n : Int)) ∧ w' = W := by
  rw [← hn]; exact len_f hW.1
end
theorem g1_len : g1S.L.length ≤ 1000000 := by decide
theorem g2_len : g2S.L.length ≤ 1000000 := by decide
theorem g3_len : g3S.L.length ≤ 1000000 := by decide
theorem g0_len : g0S.L.length ≤ 1000000 := by decide
theorem nm_bad {w W : World} {b : Nat} (hW : AliveAt w b g3S W) (f t : Int) (h : okB g3S f t [] = false) : Calls Try.prog 11 #[.pointer (some ⟨b, 0, none⟩), .int .i64 f, .int .i64 t, .slice none 0 0, .slice none 0 0] W fun e w' => e = .returned (.tuple #[.int .i64 0, .bool false, .int .i64 120]) ∧ AliveAt w b g3S w' :=
  nm_send hW f t nilS nilS [] [] (RSrc.nil _) (RSrc.nil _) (by show (0 : Nat) ≤ _; decide) (by show (0 : Nat) ≤ _; decide) g3_len (sendV_no h) (sendG_no h)
theorem nm_badf {w W : World} {b : Nat} (hW : AliveAt w b g3S W) (f t : Int) (g n : Nat) (fa : List Fa) (hs : RSrc faC 3 W ⟨some ⟨g, 0, none⟩, n, n⟩ fa) (hn : n ≤ 1000000) (h : okB g3S f t fa = false) : Calls Try.prog 11 #[.pointer (some ⟨b, 0, none⟩), .int .i64 f, .int .i64 t, .slice none 0 0, .slice (some ⟨g, 0, none⟩) n n] W fun e w' => e = .returned (.tuple #[.int .i64 0, .bool false, .int .i64 120]) ∧ AliveAt w b g3S w' :=
  nm_send hW f t nilS ⟨some ⟨g, 0, none⟩, n, n⟩ [] fa (RSrc.nil _) hs (by show (0 : Nat) ≤ _; decide) hn g3_len (sendV_no h) (sendG_no h)
theorem nm_bad1 {w W : World} {b : Nat} (hW : AliveAt w b g3S W) (d : Int) (h : okB g3S 0 400 [⟨d, false, false⟩] = false) : Calls Try.prog 11 #[.pointer (some ⟨b, 0, none⟩), .int .i64 0, .int .i64 400, .slice none 0 0, .slice (some ⟨W.heap.size, 0, none⟩) 1 1] (W.alloc (.cells #[.int .i64 d, .bool false, .bool false] 47)) fun e w' => e = .returned (.tuple #[.int .i64 0, .bool false, .int .i64 120]) ∧ AliveAt w b g3S w' :=
  nm_badf (hW.later ((Below.refl _ _).alloc (Nat.le_refl _) _)) 0 400 W.heap.size 1 [⟨d, false, false⟩] (fa_at (l := [⟨d, false, false⟩]) (heap_alloc_new W _) (by show (1 : Nat) ≤ _; decide)) (by decide) h
theorem make9 (W : World) : (Instr.makeSlice 34 (.int .i64 9) (.int .i64 9)).run Try.prog W = .ok (.slice (some ⟨W.heap.size, 0, none⟩) 9 9) (W.alloc (.cells (faR fa9S) 47)) := make_fa 9 (by decide) (by decide) W
theorem nm_bad9 {w W : World} {b : Nat} (hW : AliveAt w b g3S W) : Calls Try.prog 11 #[.pointer (some ⟨b, 0, none⟩), .int .i64 0, .int .i64 400, .slice none 0 0, .slice (some ⟨W.heap.size, 0, none⟩) 9 9] (W.alloc (.cells (faR fa9S) 47)) fun e w' => e = .returned (.tuple #[.int .i64 0, .bool false, .int .i64 120]) ∧ AliveAt w b g3S w' :=
  nm_badf (hW.later ((Below.refl _ _).alloc (Nat.le_refl _) _)) 0 400 W.heap.size 9 fa9S (fa_at (l := fa9S) (heap_alloc_new W _) (by decide)) (by decide) n3.2.2.2.2.2.1
theorem new_zero (W : World) : Calls Try.prog 9 #[.agg #[.int .i64 0, .int .i64 0, .int .i64 0, .int .i64 0, .int .i64 0, .int .i64 0, .int .i64 0, .int .i64 0, .int .i64 0, .int .i64 0, .int .i64 0, .int .i64 0, .int .i64 0, .int .i64 0, .int .i64 0, .int .i64 0]] W fun e w' => e = .returned (.tuple #[.pointer none, .int .i64 120]) ∧ Below W.heap.size W w' := new_no zeroL W z0
theorem k3 : (hdF g3S 2 1 0 = 0 ∧ hdC g3S 2 1 0 = 0 ∧ hdF g3S 2 3 0 = 0 ∧ hdC g3S 2 3 0 = 0) ∧ (hdF g3S 2 2 1 = 0 ∧ hdC g3S 2 2 1 = 1 ∧ hdT g3S 2 2 1 = 357 ∧ hdF g3S 2 3 1 = 0 ∧ hdB g3S 2 3 1 = [120, 121, 122]) := by decide
end Go.Proofs.Ytmplidgafdobkaa

namespace Go.Proofs.Ytmplidgafdobkaa
open Go.RowKit Go.Shelf

set_option maxRecDepth 100000 in
set_option maxHeartbeats 8000000 in
theorem busNames_walk (w : World) : Calls Try.prog 4 #[] w fun e w' => e = .returned (.bool true) ∧ Below w.heap.size w w' := by
  have HAL := Lib.hid (fun W => alive_any W)
  have HSO := Lib.hid (fun W => someS_any W)
  have HNE := Lib.hid (fun W (hW : Below w.heap.size w W) => (show Calls Try.prog 9 #[.agg planS.cells] W fun e w' => ∃ b, e = .returned (.tuple #[.pointer (some ⟨b, 0, none⟩), .int .i64 0]) ∧ AliveAt w b g0S w' from (new_f (F := fun k => k < w.heap.size) planS W failsS (bnd_lt hW)).mono fun e w' ⟨b, h1, h2, h3⟩ => ⟨b, h1, h2, k_then h3 hW⟩))
  have HNZ := Lib.hid (fun W => new_zero W)
  have HS1 := Lib.hid (fun W b (hW : AliveAt w b g0S W) => (show Calls Try.prog 11 #[.pointer (some ⟨b, 0, none⟩), .int .i64 0, .int .i64 100, .slice (some ⟨W.heap.size, 0, none⟩) 2 2, .slice none 0 0] (W.alloc (.cells #[.int .u8 97, .int .u8 98] 5 (2, 3))) fun e w' => e = .returned (.tuple #[.int .i64 0, .bool true, .int .i64 0]) ∧ AliveAt w b g1S w' from
    nm_send (hW.later ((Below.refl _ _).alloc (Nat.le_refl _) _)) 0 100 ⟨some ⟨W.heap.size, 0, none⟩, 2, 2⟩ nilS rawS [] (raw_at (l := rawS) (fr := (2, 3)) (heap_alloc_new W _) (by decide)) (RSrc.nil _) (by show (2 : Nat) ≤ _; decide) (by show (0 : Nat) ≤ _; decide) g0_len send_S rfl))
  have HS2 := Lib.hid (fun W b (hW : AliveAt w b g1S W) => (show Calls Try.prog 11 #[.pointer (some ⟨b, 0, none⟩), .int .i64 2, .int .i64 101, .slice (some ⟨W.heap.size, 0, none⟩) 2 2, .slice none 0 0] (W.alloc (.cells #[.int .u8 99, .int .u8 100] 5 (2, 3))) fun e w' => e = .returned (.tuple #[.int .i64 1, .bool false, .int .i64 0]) ∧ AliveAt w b g2S w' from
    nm_send (hW.later ((Below.refl _ _).alloc (Nat.le_refl _) _)) 2 101 ⟨some ⟨W.heap.size, 0, none⟩, 2, 2⟩ nilS [99, 100] [] (raw_at (l := [99, 100]) (fr := (2, 3)) (heap_alloc_new W _) (by decide)) (RSrc.nil _) (by show (2 : Nat) ≤ _; decide) (by show (0 : Nat) ≤ _; decide) g1_len (sendV_yes s2.1 s2.2.1 s2.2.2) rfl))
  have HT2 := Lib.hid (fun W b (hW : AliveAt w b g2S W) => And.intro (nm_take hW g2_len 0 2 0 t1.1) (And.intro (nm_take hW g2_len 0 3 1 t1.2.1) (And.intro (nm_take hW g2_len 1 0 0 t1.2.2) (And.intro (nm_due hW 1 f1.2.2) (And.intro (nm_free hW 356 f1.1) (And.intro (nm_free hW 355 f1.2.1) (nm_len hW s3.2.2)))))))
  have kc := fun (w : World) (C : Array Value) (n c : Nat) => Lib.run_convert_bytes_const (P := Try.prog) w 33 5 C n c Try.underlying33 Try.underlying5
  have H0 := Lib.hid (Below.refl w.heap.size w)
  generalize planS.cells = cs at *
  go_enter Try.func4, Try.ntmps4
  go_upto_region 2 with (first
    | (go_at_call 22; refine (HSO.out _).mono ?_; rintro e w1 ⟨rfl, hb⟩; have H1 := Lib.hid hb; clear hb)
    | (go_at_call 9; refine (HNE.out _ H1.out).mono ?_; rintro e w2 ⟨b, rfl, hb⟩; have H2 := Lib.hid hb; clear hb))
  go_upto_region 3 with (go_at_call 11; refine (HS1.out _ _ H2.out).mono ?_; rintro e w3 ⟨rfl, hb⟩; have H3 := Lib.hid hb; clear hb)
  go_upto_region 4 with (go_at_call 11; refine (HS2.out _ _ H3.out).mono ?_; rintro e w4 ⟨rfl, hb⟩; have H4 := Lib.hid hb; clear hb)
  clear H1 H2 H3
  go_upto_region 5 with (go_at_call 19; refine ((HT2.out _ _ H4.out).1).mono ?_; rintro e w5 ⟨v0, v1, v2, A, m, d, rfl, hb⟩; have H5 := Lib.hid ((H4.out.later hb).later ((Below.refl _ _).alloc (Nat.le_refl _) (.cells #[.int .i64 v0, .int .i64 v1, .int .i64 v2, .slice A m d] 52))); clear hb)
  generalize (w5.alloc _ : World) = W5 at *
  go_upto_region 6 with (go_at_call 19; refine ((HT2.out _ _ H5.out).2.1).mono ?_; rintro e w6 ⟨v0, v1, v2, A, m, d, rfl, hb⟩; have H6 := Lib.hid ((H5.out.later hb).later ((Below.refl _ _).alloc (Nat.le_refl _) (.cells #[.int .i64 v0, .int .i64 v1, .int .i64 v2, .slice A m d] 52))); clear hb)
  generalize (w6.alloc _ : World) = W6 at *
  go_upto_region 7 with (go_at_call 19; refine ((HT2.out _ _ H6.out).2.2.1).mono ?_; rintro e w7 ⟨v0, v1, v2, A, m, d, rfl, hb⟩; have H7 := Lib.hid ((H6.out.later hb).later ((Below.refl _ _).alloc (Nat.le_refl _) (.cells #[.int .i64 v0, .int .i64 v1, .int .i64 v2, .slice A m d] 52))); clear hb)
  generalize (w7.alloc _ : World) = W7 at *
  go_upto_region 8 with (first
    | (go_at_call 17; refine ((HT2.out _ _ H7.out).2.2.2.1).mono ?_; rintro e w8 ⟨A, c, rfl, hb⟩; have H8 := Lib.hid (H7.out.later hb); clear hb)
    | (go_at_call 14; with_reducible refine ((HT2.out _ _ H8.out).2.2.2.2.1).mono ?_; rintro e wq ⟨rfl, hq⟩; obtain rfl := hq.symm)
    | (go_at_call 14; with_reducible refine ((HT2.out _ _ H8.out).2.2.2.2.2.1).mono ?_; rintro e wq ⟨rfl, hq⟩; obtain rfl := hq.symm)
    | (go_at_call 13; refine ((HT2.out _ _ H8.out).2.2.2.2.2.2).mono ?_; rintro e wq ⟨rfl, hq⟩; obtain rfl := hq.symm))
  clear HT2 HS1 HS2 H4 H5 H6 H7 HSO HNE
  go_upto_region 9 with fail
  have h8 := H8.out.later ((Below.refl _ _).alloc (Nat.le_refl _) (.cells #[.int .i64 1, .bool false, .bool false, .int .i64 3, .bool false, .bool true, .int .i64 2, .bool true, .bool false, .int .i64 3, .bool false, .bool false, .int .i64 1, .bool false, .bool false, .int .i64 2, .bool false, .bool false, .int .i64 1, .bool false, .bool true] 47))
  generalize hW8 : (w8.alloc _ : World) = W8 at *
  have hf8 : RSrc faC 3 W8 ⟨some ⟨w8.heap.size, 0, none⟩, 7, 7⟩ fa3S := fa_at (l := fa3S) (by rw [← hW8]; exact heap_alloc_new w8 _) (by decide)
  have HS3 := Lib.hid (show Calls Try.prog 11 #[.pointer (some ⟨b, 0, none⟩), .int .i64 0, .int .i64 356, .slice (some ⟨W8.heap.size, 0, none⟩) 3 3, .slice (some ⟨w8.heap.size, 0, none⟩) 7 7] (W8.alloc (.cells #[.int .u8 120, .int .u8 121, .int .u8 122] 5 (3, 4))) fun e w' => e = .returned (.tuple #[.int .i64 2, .bool true, .int .i64 0]) ∧ AliveAt w b g3S w' from
    nm_send (h8.later ((Below.refl _ _).alloc (Nat.le_refl _) _)) 0 356 ⟨some ⟨W8.heap.size, 0, none⟩, 3, 3⟩ ⟨some ⟨w8.heap.size, 0, none⟩, 7, 7⟩ [120, 121, 122] fa3S (raw_at (l := [120, 121, 122]) (fr := (3, 4)) (heap_alloc_new W8 _) (by decide)) (hf8.later ((Below.refl _ _).alloc (Nat.le_refl _) _)) (by show (3 : Nat) ≤ _; decide) (by show (7 : Nat) ≤ _; decide) g2_len (sendV_yes s3.1 s3.2.1 s3.2.2) rfl)
  clear hW8 hf8 h8 H8
  go_upto_region 10 with (go_at_call 11; with_reducible refine HS3.out.mono ?_; rintro e w9 ⟨rfl, hb⟩; have H9 := Lib.hid hb; clear hb)
  clear HS3
  have HT3 := Lib.hid (fun W b (hW : AliveAt w b g3S W) => And.intro (nm_heard hW g3_len 2 1 0 t3.1 k3.1.1 k3.1.2.1 h3.2.1 h3.1) (And.intro (nm_take hW g3_len 2 2 0 t3.2.1) (And.intro (nm_heard hW g3_len 2 3 0 t3.2.2.1 k3.1.2.2.1 k3.1.2.2.2 h3.2.2.1 h3.2.2.2.1) (And.intro (nm_heard hW g3_len 2 2 1 t3.2.2.2.1 k3.2.1 k3.2.2.1 k3.2.2.2.1 h3.2.2.2.2.1) (And.intro (nm_heard hW g3_len 2 3 1 t3.2.2.2.2.1 k3.2.2.2.2.1 h3.2.2.2.2.2.2 h3.2.2.2.2.2.1 k3.2.2.2.2.2) (And.intro (nm_due hW 2 t3.2.2.2.2.2) (nm_len hW l3)))))))
  go_upto_region 11 with (go_at_call 19; with_reducible refine ((HT3.out _ _ H9.out).1).mono ?_; rintro e w10 ⟨A1, m1, d1, rfl, hx, hb⟩; have HB := Lib.hid ((Below.refl w10.heap.size w10).alloc (Nat.le_refl _) (.cells #[.int .i64 0, .int .i64 0, .int .i64 359, .slice A1 m1 d1] 52)); have H10 := Lib.hid ((H9.out.later hb).later HB.out); have X1 := Lib.hid hx; clear hb hx)
  clear HB H9
  generalize (w10.alloc _ : World) = W10 at *
  go_upto_region 12 with (go_at_call 19; with_reducible refine ((HT3.out _ _ H10.out).2.1).mono ?_; rintro e w11 ⟨v0, v1, v2, A, m, d, rfl, hb⟩; have HB := Lib.hid ((Below.refl w11.heap.size w11).alloc (Nat.le_refl _) (.cells #[.int .i64 v0, .int .i64 v1, .int .i64 v2, .slice A m d] 52)); have H11 := Lib.hid ((H10.out.later hb).later HB.out); have Y1 := Lib.hid ((X1.out.later hb).later HB.out); clear hb)
  clear HB H10 X1
  generalize (w11.alloc _ : World) = W11 at *
  go_upto_region 13 with (go_at_call 19; with_reducible refine ((HT3.out _ _ H11.out).2.2.1).mono ?_; rintro e w12 ⟨A3, m3, d3, rfl, hx, hb⟩; have HB := Lib.hid ((Below.refl w12.heap.size w12).alloc (Nat.le_refl _) (.cells #[.int .i64 0, .int .i64 0, .int .i64 359, .slice A3 m3 d3] 52)); have H12 := Lib.hid ((H11.out.later hb).later HB.out); have X1 := Lib.hid ((Y1.out.later hb).later HB.out); have X3 := Lib.hid hx; clear hb hx)
  clear HB H11 Y1
  generalize (w12.alloc _ : World) = W12 at *
  go_upto_region 14 with (go_at_call 19; with_reducible refine ((HT3.out _ _ H12.out).2.2.2.1).mono ?_; rintro e w13 ⟨A4, m4, d4, rfl, hx, hb⟩; have HB := Lib.hid ((Below.refl w13.heap.size w13).alloc (Nat.le_refl _) (.cells #[.int .i64 0, .int .i64 1, .int .i64 357, .slice A4 m4 d4] 52)); have H13 := Lib.hid ((H12.out.later hb).later HB.out); have Y1 := Lib.hid ((X1.out.later hb).later HB.out); have Y3 := Lib.hid ((X3.out.later hb).later HB.out); have X4 := Lib.hid hx; clear hb hx)
  clear HB H12 X1 X3
  generalize (w13.alloc _ : World) = W13 at *
  go_upto_region 16 with (first
    | (go_at_call 19; with_reducible refine ((HT3.out _ _ H13.out).2.2.2.2.1).mono ?_; rintro e w14 ⟨A5, m5, d5, rfl, hx, hb⟩; have HB := Lib.hid ((Below.refl w14.heap.size w14).alloc (Nat.le_refl _) (.cells #[.int .i64 0, .int .i64 1, .int .i64 357, .slice A5 m5 d5] 52)); have H14 := Lib.hid ((H13.out.later hb).later HB.out); have z1 := (Y1.out.later hb).later HB.out; have z3 := (Y3.out.later hb).later HB.out; have z4 := (X4.out.later hb).later HB.out; have p12 := z1.box.cell 2; have p13 := z1.box.cell 3; have p32 := z3.box.cell 2; have p33 := z3.box.cell 3; have p43 := z4.box.cell 3; have q1 := conv_u8 z1.raw; have q3 := conv_u8 z3.raw; have q4 := conv_u8 z4.raw; unfold Sl.v at p13 p33 p43 q1 q3 q4; simp at p12 p13 p32 p33 p43; clear hb hx z1 z3 z4)
    | (go_at_call 17; with_reducible refine ((HT3.out _ _ H14.out).2.2.2.2.2.1).mono ?_; rintro e w15 ⟨A, c, rfl, hb⟩; have H15 := Lib.hid (H14.out.later hb); clear hb))
  clear HB Y1 Y3 X4 q1 q3 q4 p12 p13 p32 p33 p43 H13 H14
  have HLN := Lib.hid (fun W b (hW : AliveAt w b g3S W) => (HT3.out W b hW).2.2.2.2.2.2)
  clear HT3
  have HB1 := Lib.hid (fun W (hW : AliveAt w b g3S W) => And.intro (nm_bad hW 4 400 n3.1) (And.intro (nm_bad hW (-1) 400 n3.2.1) (And.intro (nm_bad hW 0 355 n3.2.2.1) (And.intro (nm_bad1 hW 4 n3.2.2.2.1) (And.intro (nm_bad1 hW 0 n3.2.2.2.2.1) (nm_bad hW 0 4294967297 n3.2.2.2.2.2.2))))))
  go_upto_region 17 with (go_at_call 11; with_reducible refine ((HB1.out _ H15.out).1).mono ?_; rintro e w16 ⟨rfl, hb⟩; have H16 := Lib.hid hb; clear hb)
  go_upto_region 18 with (go_at_call 11; with_reducible refine ((HB1.out _ H16.out).2.1).mono ?_; rintro e w17 ⟨rfl, hb⟩; have H17 := Lib.hid hb; clear hb)
  go_upto_region 19 with (go_at_call 11; with_reducible refine ((HB1.out _ H17.out).2.2.1).mono ?_; rintro e w18 ⟨rfl, hb⟩; have H18 := Lib.hid hb; clear hb)
  clear H15 H16 H17
  go_upto_region 20 with (go_at_call 11; with_reducible refine ((HB1.out _ H18.out).2.2.2.1).mono ?_; rintro e w19 ⟨rfl, hb⟩; have H19 := Lib.hid hb; clear hb)
  go_upto_region 21 with (go_at_call 11; with_reducible refine ((HB1.out _ H19.out).2.2.2.2.1).mono ?_; rintro e w20 ⟨rfl, hb⟩; have H20 := Lib.hid hb; clear hb)
  clear H18 H19
  have hmk := make9
  have HB9 := Lib.hid (nm_bad9 H20.out)
  generalize faR fa9S = C9 at *
  go_upto_region 22 with (go_at_call 11; with_reducible refine HB9.out.mono ?_; rintro e w21 ⟨rfl, hb⟩; have H21 := Lib.hid hb; clear hb)
  clear hmk HB9 H20
  go_upto_region 23 with (go_at_call 11; with_reducible refine ((HB1.out _ H21.out).2.2.2.2.2).mono ?_; rintro e w22 ⟨rfl, hb⟩; have H22 := Lib.hid hb; clear hb)
  clear H21 HB1
  go_upto_region 24 with (go_at_call 9; with_reducible refine (HNZ.out _).mono ?_; rintro e w23 ⟨rfl, hb⟩; have H23 := Lib.hid (H22.out.later hb); clear hb)
  clear H22 HNZ
  have HL3 := Lib.hid (show Calls Try.prog 13 #[.pointer (some ⟨b, 0, none⟩)] w23 fun e w' => e = .returned (.int .i64 3) ∧ w' = w23 from HLN.out _ _ H23.out)
  clear HLN
  go_upto_region 26 with (go_at_call 13; with_reducible refine HL3.out.mono ?_; rintro e wq ⟨rfl, hq⟩; obtain rfl := hq.symm)
  have h24 := Whole.new w23 60 #[.pointer none]
  have hb24 := k_then ((Below.refl w23.heap.size w23).alloc (Nat.le_refl _) (.cells #[.pointer none] 60)) H23.out.2
  clear HL3 H23
  go_upto_region 27 with fail
  generalize (w23.alloc _ : World) = W24 at *
  have c24 := h24.cell 0
  simp at c24
  have HC := Lib.hid (And.intro c24 hb24)
  clear h24 hb24 c24
  go_upto_region 28 with (go_at_call 11; refine (send_nil 0 0 _ _).mono ?_; rintro e wq ⟨rfl, hq⟩; obtain rfl := hq.symm)
  go_upto_region 29 with (go_at_call 19; refine (take_zero _ HC.out.1).mono ?_; rintro e w25 ⟨rfl, hb⟩; have hb2 := hb.alloc hb.size (.cells #[.int .i64 0, .int .i64 0, .int .i64 0, .slice none 0 0] 52); have H25 := Lib.hid (And.intro (k_cell hb2 HC.out.1) (k_then hb2 HC.out.2)); clear hb hb2)
  generalize (w25.alloc _ : World) = W25 at *
  go_wp2_with (first
    | (go_at_call 23; refine (HAL.out _).mono ?_; rintro e w26 ⟨rfl, hb⟩; have H26 := Lib.hid (And.intro (k_cell hb H25.out.1) (k_then hb H25.out.2)); clear hb)
    | (go_at_call 13; refine len_nil.mono ?_; rintro e wq ⟨rfl, hq⟩; obtain rfl := hq.symm)
    | (go_at_call 17; refine (due_zero _ H26.out.1).mono ?_; rintro e wq ⟨rfl, hq⟩; obtain rfl := hq.symm)
    | (go_at_call 14; refine (free_nil 0).mono ?_; rintro e wq ⟨rfl, hq⟩; obtain rfl := hq.symm))
  go_ret
  exact ⟨rfl, H26.out.2⟩
end Go.Proofs.Ytmplidgafdobkaa
