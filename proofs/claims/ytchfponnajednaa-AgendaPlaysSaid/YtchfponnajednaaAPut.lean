/- Put, First and Take of an agenda: by contracts. No condition. -/
import Derived.Test.YtchfponnajednaaAAg
namespace Go.Proofs.Ytchfponnajednaa
open Go.RowKit Go.Shelf

/-- An entry put into a list that is in order. -/
def insE (x : En) : List En → List En
  | [] => [x]
  | y :: l => if lessP x y then x :: y :: l else y :: insE x l
theorem insE_perm (x : En) : ∀ l, (insE x l).Perm (x :: l)
  | [] => List.Perm.refl _
  | y :: l => by
    unfold insE
    split
    · exact List.Perm.refl _
    · exact ((insE_perm x l).cons y).trans (List.Perm.swap ..)
theorem less_turn {x y : En} (h : leP y x) (hu : y.u < x.u) : lessP y x := by unfold leP lessP aheadP sameP at *; omega
theorem insE_sorted {x : En} : ∀ {l : List En}, l.Pairwise lessP → (∀ y ∈ l, y.u < x.u) → (insE x l).Pairwise lessP
  | [], _, _ => by simp [insE]
  | y :: l, h, hu => by
    unfold insE
    rw [List.pairwise_cons] at h
    split
    · rename_i hl
      refine List.pairwise_cons.2 ⟨fun z hz => ?_, List.pairwise_cons.2 h⟩
      rcases List.mem_cons.1 hz with rfl | hz
      · exact hl
      · exact less_trans hl (h.1 z hz)
    · rename_i hl
      refine List.pairwise_cons.2 ⟨fun z hz => ?_, insE_sorted h.2 (fun z hz => hu z (List.mem_cons_of_mem _ hz))⟩
      rcases List.mem_cons.1 ((insE_perm x l).mem_iff.1 hz) with rfl | hz
      · exact less_turn hl (hu y (List.mem_cons_self ..))
      · exact h.1 z hz

/-- What First answers. -/
def headOf (L : List En) : Value := .tuple #[.agg (headV L).toArray, .bool (!L.isEmpty)]

set_option maxRecDepth 100000 in
set_option maxHeartbeats 2000000 in
theorem agFirst_any (w : World) (S : Nat → Prop) (a nx : Nat) (L : List En) (h : AgAt w S a nx L) :
    Calls Try.prog 11 #[.pointer (some ⟨a, 0, none⟩)] w fun e w' => e = .returned (headOf L) ∧ Below w.heap.size w w' := by
  have hb0 : Below w.heap.size w (w.alloc (.cells zeroEv.cells.toArray 36)) := (Below.refl _ _).alloc (Nat.le_refl _) _
  have hW0 : Whole (w.alloc (.cells zeroEv.cells.toArray 36)) w.heap.size 36 zeroEv.cells.toArray := Whole.new w _ _
  have hk0 := kept_any _ S a nx L (h.later hb0)
  have hs := h.sorted
  have HS := Lib.hid hs
  have HB0 := Lib.hid hb0
  have HK0 := Lib.hid hk0
  have HW0 := Lib.hid hW0
  clear hb0 hk0 hs h hW0
  unfold zeroEv Ev.cells at HB0 HK0 HW0
  go_enter Try.func11, Try.ntmps11
  go_wp2_with fail
  refine HK0.out.mono ?_
  rintro e w1 ⟨p, v, l, rfl, hp, hh, hpm, hb, _⟩
  have hW1 := k_later hb HW0.out
  have hb1 := k_then hb HB0.out
  clear HK0 HB0 HW0 hb
  have c0 := hW1.cell 0
  have c1 := hW1.cell 1
  have c2 := hW1.cell 2
  have c3 := hW1.cell 3
  have c4 := hW1.cell 4
  have hfr := hW1.frozen
  have hc := hp.cell0
  simp at c0 c1 c2 c3 c4
  cases L with
  | nil =>
    obtain rfl := heap_none hpm
    obtain ⟨A, c, rfl⟩ := pile_slice hp
    have HB1 := Lib.hid hb1
    clear hp hh hpm hb1 hW1 HS
    go_wp2_with (go_at_call 29; refine (len_any _ _ _ _).mono ?_; rintro e w' ⟨rfl, rfl⟩)
    refine bodyPost_ret (v := .tuple #[.agg #[.int .i64 0, .int .i64 0, .int .i64 0, .int .i64 0, .int .i64 0], .bool false]) (by simp [results, Try.results11, go_sem, c0, c1, c2, c3, c4]) rfl ⟨rfl, ?_⟩
    exact ((((HB1.out.setCell (p := ⟨w.heap.size, 0, none⟩) (Nat.le_refl _) _).setCell (p := ⟨w.heap.size, 1, none⟩) (Nat.le_refl _) _).setCell (p := ⟨w.heap.size, 2, none⟩) (Nat.le_refl _) _).setCell (p := ⟨w.heap.size, 3, none⟩) (Nat.le_refl _) _).setCell (p := ⟨w.heap.size, 4, none⟩) (Nat.le_refl _) _
  | cons x L =>
    have hx := heap_head hh hpm HS.out
    have hl : 0 < l.length := by rw [hpm.length_eq]; simp
    obtain ⟨g, cap, rfl, hrow, _⟩ := pile_row hp hl
    have HLN := Lib.hid (hpm.length_eq)
    cases l with
    | nil => simp at hl
    | cons y l =>
      obtain rfl : y = x := by simpa using hx
      have HF := Lib.hid (first_any w1 g cap (y :: l).length y l hrow hl)
      have hne : ¬ ((y :: l).length : Int) = 0 := by omega
      have hne2 : ¬ (y :: l).length = 0 := by omega
      generalize (y :: l).length = N at *
      have HB1 := Lib.hid hb1
      have HW1 := Lib.hid hW1
      clear hp hh hpm hb1 HS hrow hx hW1 c0 c1 c2 c3 c4 hfr
      go_wp2_with (go_at_call 29; refine (len_any _ _ _ _).mono ?_; rintro e w' ⟨rfl, rfl⟩)
      refine HF.out.mono ?_
      rintro e w2 ⟨rfl, hb2⟩
      have hW2 := k_later hb2 HW1.out
      have hbb := k_then hb2 HB1.out
      have c0 := hW2.cell 0
      have c1 := hW2.cell 1
      have c2 := hW2.cell 2
      have c3 := hW2.cell 3
      have c4 := hW2.cell 4
      have hfr := hW2.frozen
      simp at c0 c1 c2 c3 c4
      have HBB := Lib.hid hbb
      clear hb2 hW2 hbb HB1 HW1 HF
      unfold Ev.cells
      go_wp2
      refine bodyPost_ret (v := .tuple #[.agg #[.int .i64 y.e.t, .int .i64 y.e.k, .int .i64 y.e.n, .int .i64 y.e.m, .int .i64 y.e.v], .bool true]) (by simp [results, Try.results11, go_sem, c0, c1, c2, c3, c4]) rfl ⟨rfl, ?_⟩
      exact ((((HBB.out.setCell (p := ⟨w.heap.size, 0, none⟩) (Nat.le_refl _) _).setCell (p := ⟨w.heap.size, 1, none⟩) (Nat.le_refl _) _).setCell (p := ⟨w.heap.size, 2, none⟩) (Nat.le_refl _) _).setCell (p := ⟨w.heap.size, 3, none⟩) (Nat.le_refl _) _).setCell (p := ⟨w.heap.size, 4, none⟩) (Nat.le_refl _) _

def putB (L : List En) (x : Ev) : Bool := okB x && decide (L.length < 65536)
def putE (L : List En) (x : Ev) : Int := if putB L x then 0 else 100
def putL (nx : Nat) (L : List En) (x : Ev) : List En := if putB L x then insE ⟨x, nx⟩ L else L
def putN (nx : Nat) (L : List En) (x : Ev) : Nat := if putB L x then nx + 1 else nx

/-- An agenda whose pile has been turned, and been laid into it. -/
theorem put_done {w w2 w4 : World} {S : Nat → Prop} {a nx nx' p : Nat} {L L' l' : List En} {v v' q : Value} {l : List En} (h : AgAt w S a nx L) (hA : Whole w2 a 27 #[q]) (hb : Below w.heap.size w w2)
    (hp : Grow S w w2 p) (hv : ∀ g, v.ownBlock = some g → Grow S w w2 g) (hp2 : PileAt w2 p v nx l) (hp4 : PileAt w4 p v' nx' l') (hk : Kept (fun k => k = p ∨ some k = v.ownBlock) w2 w4)
    (hv' : v'.ownBlock = v.ownBlock ∨ ∃ k, v'.ownBlock = some k ∧ w2.heap.size ≤ k) (hh : Heap l') (hpm : l'.Perm L') (hs : L'.Pairwise lessP) (ht : ∀ x ∈ L', x.u < nx') (ho : ∀ x ∈ L', okE x.e) :
    AgAt (w4.setCell ⟨a, 0, none⟩ (.pointer (some ⟨p, 0, none⟩))) (Grow S w (w4.setCell ⟨a, 0, none⟩ (.pointer (some ⟨p, 0, none⟩)))) a nx' L' ∧ Kept S w (w4.setCell ⟨a, 0, none⟩ (.pointer (some ⟨p, 0, none⟩))) := by
  have hap : a ≠ p := hA.apart hp2.whole (by decide)
  have har : some a ≠ v.ownBlock := hA.not_row (by decide) hp2.row
  have hA4 : Whole w4 a 27 #[q] := hA.kept hk (fun e => by rcases e with e | e; exact hap e; exact har e)
  have har4 : some a ≠ v'.ownBlock := hA4.not_row (by decide) hp4.row
  have hA5 := hA4.set 0 (.pointer (some ⟨p, 0, none⟩))
  have k5 : Kept (fun k => k = a) w4 (w4.setCell ⟨a, 0, none⟩ (.pointer (some ⟨p, 0, none⟩))) := Kept.setCell (S := fun k => k = a) (Kept.refl _ _) (p := ⟨a, 0, none⟩) (.inl rfl) _
  have hp5 := hp4.kept k5 (fun e => hap e.symm) (fun g hg e => har4 (by rw [hg, e]))
  have kS : Kept S w (w4.setCell ⟨a, 0, none⟩ (.pointer (some ⟨p, 0, none⟩))) := by
    refine ((Kept.of_below hb S).trans hk (fun i hi e => ?_)).trans k5 (fun i _ e => by obtain rfl : i = a := e; exact h.own)
    have hg : Grow S w w2 i := by
      rcases e with rfl | e
      · exact hp
      · exact hv i e.symm
    rcases hg with hg | hg
    · exact hg
    · omega
  have hz : w4.heap.size = (w4.setCell ⟨a, 0, none⟩ (.pointer (some ⟨p, 0, none⟩))).heap.size := by simp [World.setCell]
  have hz2 := hk.size
  have hz1 := hb.size
  refine ⟨⟨Grow.lt h.lt kS.size, .inl h.own, .inr ⟨p, v', l', hA5, ?_, fun g hg => ?_, hp5, hh, hpm⟩, hs, ht, ho⟩, kS⟩
  · rcases hp with hp | hp
    · exact .inl hp
    · exact .inr ⟨hp.1, by omega⟩
  · rcases hv' with e | ⟨k, e, hk'⟩
    · rcases hv g (by rw [← e]; exact hg) with h1 | h1
      · exact .inl h1
      · exact .inr ⟨h1.1, by omega⟩
    · have hgl : g < (w4.setCell ⟨a, 0, none⟩ (.pointer (some ⟨p, 0, none⟩))).heap.size := by
        rcases hp5.row.2 with ⟨rfl, _⟩ | ⟨g', _, _, rfl, _, hg', _⟩
        · simp [Value.ownBlock] at hg
        · obtain rfl : g' = g := by simpa [Value.ownBlock] using hg
          exact (Array.getElem?_eq_some_iff.1 hg').1
      obtain rfl : k = g := by rw [e] at hg; injection hg
      exact .inr ⟨by omega, hgl⟩

set_option maxRecDepth 100000 in
set_option maxHeartbeats 2000000 in
theorem agPut_any (w : World) (S : Nat → Prop) (a nx : Nat) (L : List En) (x : Ev) (h : AgAt w S a nx L) (hnx : nx < 1000000000) :
    Calls Try.prog 16 #[.pointer (some ⟨a, 0, none⟩), .agg x.cells.toArray] w fun e w' => e = .returned (.int .i64 (putE L x)) ∧ AgAt w' (Grow S w w') a (putN nx L x) (putL nx L x) ∧ Kept S w w' := by
  have hb0 : Below w.heap.size w (w.alloc (.cells x.cells.toArray 36)) := (Below.refl _ _).alloc (Nat.le_refl _) _
  have hW0 : Whole (w.alloc (.cells x.cells.toArray 36)) w.heap.size 36 x.cells.toArray := Whole.new w _ _
  have hk0 := kept_any _ S a nx L (h.later hb0)
  have hmb := fun W => mayBe_any x W
  have hpush := fun W p v l (k : PileAt W p v nx l) (hh : Heap l) hl => heapPush_any W p v nx l x k hh hl hnx
  have H := Lib.hid h
  have HB0 := Lib.hid hb0
  have HK0 := Lib.hid hk0
  have HW0 := Lib.hid hW0
  have HM := Lib.hid hmb
  have HPU := Lib.hid hpush
  clear hb0 hk0 h hW0 hmb hpush hnx
  unfold Ev.cells at *
  go_enter Try.func16, Try.ntmps16
  go_wp2_with fail
  refine HK0.out.mono ?_
  rintro e w1 ⟨p, v, l, rfl, hp, hh, hpm, hb, hgp, hgv, ⟨q, hq⟩, _⟩
  have hW1 := k_later hb HW0.out
  have hb1 := k_then hb HB0.out
  have hq1 := k_later hb hq
  have c0 := hW1.cell 0
  have c1 := hW1.cell 1
  have c2 := hW1.cell 2
  have c3 := hW1.cell 3
  have c4 := hW1.cell 4
  simp at c0 c1 c2 c3 c4
  have HP1 := Lib.hid (And.intro hp (And.intro hh (And.intro hpm (And.intro hgp (And.intro hgv hq1)))))
  have HW1 := Lib.hid hW1
  have HB1 := Lib.hid hb1
  clear hp hh hpm hb hgp hgv hq hW1 hb1 hq1 HK0 HW0 HB0
  go_wp2_with fail
  refine (HM.out _).mono ?_
  rintro e w2 ⟨rfl, hb2⟩
  have hbb := k_then hb2 HB1.out
  have hW2 := k_later hb2 HW1.out
  have hp2 := HP1.out.1.later hb2
  have hq2 := k_later hb2 HP1.out.2.2.2.2.2
  have d0 := hW2.cell 0
  have d1 := hW2.cell 1
  have d2 := hW2.cell 2
  have d3 := hW2.cell 3
  have d4 := hW2.cell 4
  simp at d0 d1 d2 d3 d4
  obtain ⟨A, c, rfl⟩ := pile_slice hp2
  have hpc := hp2.cell0
  have hlen := HP1.out.2.2.1.length_eq
  have HP2 := Lib.hid hp2
  have HQ2 := Lib.hid hq2
  have HBB := Lib.hid hbb
  have HZ := Lib.hid hb2.size
  have HLEN := Lib.hid hlen
  have hno : putB L x = false → (AgAt w2 (Grow S w w2) a (putN nx L x) (putL nx L x) ∧ Kept S w w2) := by
    intro e
    unfold putN putL
    rw [e]
    exact ⟨(H.out.later hbb).grow H.out.lt hbb.size, Kept.of_below hbb S⟩
  have HNO := Lib.hid hno
  clear c0 c1 c2 c3 c4 hb2 hbb hW2 hp2 hq2 hlen HW1 HB1 hno
  generalize hN : l.length = N at *
  have HN := Lib.hid hN
  clear hN
  cases hok : okB x
  · have hpb : putB L x = false := by unfold putB; rw [hok]; rfl
    have HF := Lib.hid (And.intro hpb (HNO.out hpb))
    clear hpb hok HNO
    go_wp2
    go_ret
    exact ⟨by unfold putE; rw [HF.out.1]; rfl, HF.out.2⟩
  · by_cases hlt : N < 65536
    · have hpb : putB L x = true := by unfold putB; rw [hok, ← HLEN.out]; simpa using hlt
      have hge : decide ((65536 : Int) ≤ (N : Int)) = false := by simp only [decide_eq_false_iff_not]; omega
      have HC := Lib.hid (HPU.out w2 p _ l HP2.out HP1.out.2.1 (by rw [HN.out]; omega))
      have hx : okE x := by simpa [okB] using hok
      have HF := Lib.hid (And.intro hpb hx)
      clear hpb hok HNO HPU hx hlt
      go_wp2_with (go_at_call 29; refine (len_any _ _ _ _).mono ?_; rintro e w' ⟨rfl, rfl⟩)
      refine HC.out.mono ?_
      rintro e w4 ⟨rfl, v', l', hp4, hpm4, hh4, hk4, hv4⟩
      have hpm : l'.Perm (insE ⟨x, nx⟩ L) := (hpm4.trans (HP1.out.2.2.1.cons _)).trans (insE_perm _ L).symm
      have hgp : Grow S w w2 p := by
        rcases HP1.out.2.2.2.1 with h1 | h1
        · exact .inl h1
        · have h3 := HZ.out
          refine .inr ⟨?_, by omega⟩
          have := h1.1
          simp at this
          omega
      have hgv : ∀ g, (Value.slice A N c).ownBlock = some g → Grow S w w2 g := by
        intro g hg
        rcases HP1.out.2.2.2.2.1 g hg with h1 | h1
        · exact .inl h1
        · have h3 := HZ.out
          refine .inr ⟨?_, by omega⟩
          have := h1.1
          simp at this
          omega
      have hq4 : Whole w4 a 27 #[q] := HQ2.out.kept hk4 (fun e => by
        rcases e with e | e
        · exact HQ2.out.apart HP2.out.whole (by decide) e
        · exact (HQ2.out.not_row (by decide) HP2.out.row) e)
      have ha0 := hq4.cell 0
      have haf := hq4.frozen 0
      simp at ha0
      have hfin := put_done H.out HQ2.out HBB.out hgp hgv HP2.out hp4 hk4 hv4 hh4 hpm (insE_sorted H.out.sorted H.out.turns) (fun y hy => by
        rcases List.mem_cons.1 ((insE_perm _ L).mem_iff.1 hy) with rfl | hy
        · exact Nat.lt_succ_self _
        · exact Nat.lt_succ_of_lt (H.out.turns y hy)) (fun y hy => by
        rcases List.mem_cons.1 ((insE_perm _ L).mem_iff.1 hy) with rfl | hy
        · exact HF.out.2
        · exact H.out.may y hy)
      have HFIN := Lib.hid hfin
      clear hp4 hpm4 hh4 hk4 hv4 hpm hgp hgv hq4 hfin HC
      go_wp2
      go_ret
      refine ⟨by unfold putE; rw [HF.out.1]; rfl, ?_⟩
      unfold putN putL
      rw [HF.out.1]
      exact HFIN.out
    · have hpb : putB L x = false := by unfold putB; rw [hok, ← HLEN.out]; simpa using hlt
      have hge : decide ((65536 : Int) ≤ (N : Int)) = true := by simp only [decide_eq_true_eq]; omega
      have HF := Lib.hid (And.intro hpb (HNO.out hpb))
      clear hpb hok HNO hlt HPU
      go_wp2_with (go_at_call 29; refine (len_any _ _ _ _).mono ?_; rintro e w' ⟨rfl, rfl⟩)
      go_ret
      exact ⟨by unfold putE; rw [HF.out.1]; rfl, HF.out.2⟩
end Go.Proofs.Ytchfponnajednaa
