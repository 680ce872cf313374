/- Until of an agenda: by its contract. No condition. -/
import Derived.Test.YtchfponnajednaaAIter
namespace Go.Proofs.Ytchfponnajednaa
open Go.RowKit Go.Shelf
attribute [local go_sem] Oper.semAt_some

theorem wpIn_scope_a {n : Nat} {P : Program} {c : Code} {Q : Exit → Act → World → Prop} {a : Act} {w : World} (h : c.wpIn Fence.wide n P (Exit.noGoto Q) a w) : (Code.scope c).wpIn Fence.wide n P Q a w :=
  wpIn_wide.2 (wp_scope_straight (wpIn_wide.1 h))

/-- Events as a row's cells. -/
def flatV (l : List Ev) : List Value := l.flatMap Ev.cells
theorem flatV_length (l : List Ev) : (flatV l).length = l.length * 5 := by
  induction l with
  | nil => rfl
  | cons x l ih => simp only [flatV, List.flatMap_cons, List.length_append, Ev.cells_length, List.length_cons] at ih ⊢; omega
theorem flatV_append (l m : List Ev) : flatV (l ++ m) = flatV l ++ flatV m := by simp [flatV]
theorem flatV_one (x : Ev) : flatV [x] = x.cells := by simp [flatV]
theorem ev_infos : (Try.prog.info? 36).map (fun i => (i.zero, i.size, i.bytes)) = some (some (.agg #[.int .i64 0, .int .i64 0, .int .i64 0, .int .i64 0, .int .i64 0]), 5, 40) := by kernel_rfl

/-- The first n of L, as events. -/
def evs (L : List En) (n : Nat) : List Ev := (L.take n).map En.e
theorem evs_length {L : List En} {n : Nat} (h : n ≤ L.length) : (evs L n).length = n := by simp [evs, h]
theorem evs_succ {L : List En} {n : Nat} (h : n < L.length) : evs L (n + 1) = evs L n ++ [(L.getD n default).e] := by
  unfold evs
  rw [take_snocE h, List.map_append]; rfl

/-- n is how many of L stand up to a time. -/
structure UpTo (t : Int) (L : List En) (n : Nat) : Prop where
  le : n ≤ L.length
  all : ∀ j, j < n → (L.getD j default).e.t ≤ t
  no : n < L.length → t < (L.getD n default).e.t

theorem until_done {w w1 W : World} {S : Nat → Prop} {a nx p d n : Nat} {L l : List En} {v : Value} (h : AgAt w S a nx L) (hb : Below w.heap.size w w1)
    (hA : Whole w1 a 27 #[.pointer (some ⟨p, 0, none⟩)] ∨ (L = [] ∧ nx = 0 ∧ Whole w1 a 27 #[.pointer none] ∧ w.heap.size ≤ p ∧ v = .slice none 0 0))
    (hp : Grow S w w1 p) (hv : ∀ g, v.ownBlock = some g → Grow S w w1 g) (hp1 : PileAt w1 p v nx l) (hE : pileE p v nx L n W) (hk : Kept (fun i => i = d ∨ pileT p v i) w1 W) (hd : w.heap.size ≤ d) :
    AgAt W (Grow S w w1) a nx (L.drop n) ∧ Kept S w W := by
  have hla := h.lt a h.own
  have kS : Kept S w W := (Kept.of_below hb S).trans hk (fun i hi e => by
    have hg : Grow S w w1 i := by
      rcases e with rfl | rfl | e
      · omega
      · exact hp
      · exact hv i e.symm
    rcases hg with hg | hg
    · exact hg
    · omega)
  have hs := List.drop_sublist n L
  refine ⟨⟨fun k hk' => Nat.lt_of_lt_of_le (Grow.lt h.lt hb.size k hk') hk.size, .inl h.own, ?_, h.sorted.sublist hs, fun x hx => h.turns x (hs.subset hx), fun x hx => h.may x (hs.subset hx)⟩, kS⟩
  have na : ∀ q, Whole w1 a 27 #[q] → Whole W a 27 #[q] := fun q hq => hq.kept hk (fun e => by
    rcases e with e | e | e
    · omega
    · exact hq.apart hp1.whole (by decide) e
    · exact hq.not_row (by decide) hp1.row e)
  obtain ⟨v', l', h1, h2, h3, h4⟩ := hE
  rcases hA with hA | ⟨hL, hnx, hA, _, _⟩
  · exact .inr ⟨p, v', l', na _ hA, hp, fun g hg => hv g (by rw [← h4]; exact hg), h1, h2, h3⟩
  · subst hL
    exact .inl ⟨na _ hA, by simp, hnx⟩

/-- Between two rounds: the first k have been told. -/
def Told (Bt d base : Nat) (t : Int) (L : List En) (k : Nat) (W : World) : Prop :=
  Whole W Bt 2 #[.int .i64 t] ∧ (∃ v, Whole W d 29 #[v] ∧ W.ownsRow base 36 5 v k (flatV (evs L k))) ∧ ∀ j, j < k → (L.getD j default).e.t ≤ t
theorem Told.kept {Bt d base k : Nat} {t : Int} {L : List En} {A B : World} {R : Nat → Prop} (h : Told Bt d base t L k A) (hk : Kept R A B) (h1 : ¬ R Bt) (h2 : ¬ R d) (h3 : ∀ i, base ≤ i → ¬ R i) : Told Bt d base t L k B := by
  obtain ⟨a, ⟨v, b, c⟩, e⟩ := h
  exact ⟨a.kept hk h1, ⟨v, b.kept hk h2, own_kept c hk (fun g hg => h3 g (c.lt g hg).1)⟩, e⟩

theorem keptTo_of {N : Nat} {S R : Nat → Prop} {a b : World} (h : Kept R a b) (hN : N ≤ a.heap.size) (hR : ∀ i, i < N → R i → S i) : KeptTo N S a b :=
  ⟨h.os, h.tape, h.output, h.size, fun i hi hn => h.block i (by omega) (fun ht => hn (hR i hi ht))⟩
/-- A round that tells one more. -/
theorem told_more {W w5 : World} {Bt d base k N : Nat} {t : Int} {L : List En} {vd v' : Value} {x : Ev} {o : Obj} (hx : x = (L.getD k default).e) (hk : k < L.length) (hgt : ¬ t < x.t) (hbase : N ≤ base) (hN : N ≤ W.heap.size) (hBd : Bt ≠ d) (hdb : d < base) (hBb : Bt < base)
    (hT : Whole W Bt 2 #[.int .i64 t]) (hall : ∀ j, j < k → (L.getD j default).e.t ≤ t) (hr : W.ownsRow base 36 5 vd k (flatV (evs L k)))
    (h1 : w5.ownsRow base 36 5 v' (k + 1) (flatV (evs L k) ++ x.cells)) (h2 : (W.alloc o).grownBy w5 vd.ownBlock) (h3 : Whole w5 d 29 #[vd]) :
    KeptTo N (fun i => i = d) W (w5.setCell ⟨d, 0, none⟩ v') ∧ Told Bt d base t L (k + 1) (w5.setCell ⟨d, 0, none⟩ v') := by
  have hlo : ∀ i, some i = vd.ownBlock → base ≤ i := fun i hi => (hr.lt i hi.symm).1
  have k0 : Kept (fun i => i = d ∨ some i = vd.ownBlock) W w5 := ((Kept.refl _ W).alloc o).grown h2 (fun i hi => .inl (.inr hi.symm))
  have k5 : Kept (fun i => i = d) w5 (w5.setCell ⟨d, 0, none⟩ v') := Kept.setCell (S := fun i => i = d) (Kept.refl _ w5) (p := ⟨d, 0, none⟩) (.inl rfl) _
  have k1 : Kept (fun i => i = d ∨ some i = vd.ownBlock) W (w5.setCell ⟨d, 0, none⟩ v') := k0.trans k5 (fun i _ h => .inl h)
  refine ⟨keptTo_of k1 hN (fun i hi hr => ?_), hT.kept k1 ?_, ⟨v', h3.set 0 v', ?_⟩, fun j hj => ?_⟩
  · rcases hr with e | e
    · exact e
    · have := hlo i e; omega
  · rintro (e | e)
    · exact hBd e
    · have := hlo _ e; omega
  · rw [evs_succ hk, flatV_append, flatV_one, ← hx]
    exact own_kept h1 k5 (fun g hg e => by have := (h1.lt g hg).1; omega)
  · rcases Nat.lt_or_ge j k with h | h
    · exact hall j h
    · obtain rfl : j = k := by omega
      rw [← hx]; omega
/-- What Until answers and leaves. -/
def UntilDone (w : World) (S : Nat → Prop) (a nx : Nat) (L : List En) (t : Int) (e : Ending) (w' : World) : Prop :=
  ∃ v n S2, e = .returned v ∧ UpTo t L n ∧ w'.ownsRow w.heap.size 36 5 v n (flatV (evs L n)) ∧ AgAt w' S2 a nx (L.drop n) ∧ Kept S w w' ∧ (∀ k, S2 k → Grow S w w' k) ∧ ∀ g, v.ownBlock = some g → ¬ S2 g

set_option maxRecDepth 100000 in
set_option maxHeartbeats 4000000 in
theorem agUntil_any (w : World) (S : Nat → Prop) (a nx : Nat) (L : List En) (t : Int) (h : AgAt w S a nx L) (hl : L.length ≤ 1000000) :
    Calls Try.prog 20 #[.pointer (some ⟨a, 0, none⟩), .int .i64 t] w (UntilDone w S a nx L t) := by
  obtain ⟨w0, hw0⟩ : ∃ w0, w0 = (w.alloc (.cells #[.int .i64 t] 2)).alloc (.cells #[.slice none 0 0] 29) := ⟨_, rfl⟩
  have hb0 : Below w.heap.size w w0 := by rw [hw0]; exact ((Below.refl _ _).alloc (Nat.le_refl _) _).alloc (by simp) _
  have hT0 : Whole w0 w.heap.size 2 #[.int .i64 t] := by rw [hw0]; exact (Whole.new w _ _).alloc _
  have hD0 : Whole w0 (w.heap.size + 1) 29 #[.slice none 0 0] := by
    rw [hw0]
    have := Whole.new (w.alloc (.cells #[.int .i64 t] 2)) 29 #[.slice none 0 0]
    simpa using this
  have HK := Lib.hid (kept_any w0 S a nx L (h.later hb0))
  have H := Lib.hid h
  have HB0 := Lib.hid (And.intro hb0 (And.intro hT0 hD0))
  rw [hw0] at HK
  have HW0 := Lib.hid hw0
  clear h hb0 hT0 hD0 hw0
  refine (callsIn_wide (n := 5)).1 ?_
  refine callsIn_of_wp_marks Try.func20 rfl trivial ?_ rfl
  simp only [Try.ntmps20, List.size_toArray, List.length_cons, List.length_nil, Nat.reduceAdd, Nat.reduceSub, Array.replicate_succ, Array.replicate_zero, List.push_toArray, List.append_toArray, List.nil_append, List.cons_append]
  gi_wp2
  refine wpIn_scope_a ?_
  gi_wp2
  refine wpIn_label ?_
  gi_wp2_with fail
  refine ⟨trivial, ?_⟩
  refine (callsIn_wide.2 HK.out).mono ?_
  rintro e w1 ⟨p, v, l, rfl, hp, hh, hpm, hb, hgp, hgv, _, hA⟩
  rw [← HW0.out] at hb hgp hgv hA
  have hT1 := k_later hb HB0.out.2.1
  have hD1 := k_later hb HB0.out.2.2
  have hz0 : w0.heap.size = w.heap.size + 1 + 1 := by rw [HW0.out]; simp
  have hbb := k_then hb HB0.out.1
  have hz1 := hb.size
  have hBox : (w1.alloc (.cells #[.iface 25 (.pointer (some ⟨p, 0, none⟩))] 87)).cell? ⟨w1.heap.size, 0, none⟩ = some (.iface 25 (.pointer (some ⟨p, 0, none⟩))) := (Whole.new w1 _ _).cell 0
  have hb2 : Below w1.heap.size w1 (w1.alloc (.cells #[.iface 25 (.pointer (some ⟨p, 0, none⟩))] 87)) := (Below.refl _ _).alloc (Nat.le_refl _) _
  have hzz : (w1.alloc (.cells #[.iface 25 (.pointer (some ⟨p, 0, none⟩))] 87)).heap.size = w1.heap.size + 1 := by simp
  have HP := Lib.hid (And.intro hp (And.intro hh (And.intro hpm (And.intro hb (And.intro hgp (And.intro hgv hA))))))
  have HTD := Lib.hid (And.intro hT1 (And.intro hD1 hbb))
  clear hp hh hpm hb hgp hgv hA hT1 hD1 hbb HK
  gi_wp2_with (refine ⟨trivial, ?_⟩; gi_at_call 38; refine (byTurns_in _ _ _ _).mono ?_; rintro e w' ⟨rfl, rfl⟩)
  generalize w1.alloc (.cells #[.iface 25 (.pointer (some ⟨p, 0, none⟩))] 87) = w2 at *
  have hp2 := HP.out.1.later hb2
  have hT2 := k_later hb2 HTD.out.1
  have hD2 := k_later hb2 HTD.out.2.1
  have hpl := HP.out.1.whole.lt
  have hvl : ∀ g, v.ownBlock = some g → g < w1.heap.size := own_blk HP.out.1.row
  have nB : ¬ pileT p v w1.heap.size := by
    rintro (e | e)
    · omega
    · have := hvl _ e.symm; omega
  have nT : ¬ pileT p v w.heap.size := by
    rintro (e | e)
    · exact HTD.out.1.apart HP.out.1.whole (by decide) e
    · exact HTD.out.1.not_row (by decide) HP.out.1.row e
  have nD : ¬ pileT p v (w.heap.size + 1) := by
    rintro (e | e)
    · exact HTD.out.2.1.apart HP.out.1.whole (by decide) e
    · exact HTD.out.2.1.not_row (by decide) HP.out.1.row e
  have hTlt : ∀ i, pileT p v i → i < w1.heap.size := by
    rintro i (rfl | e)
    · exact hpl
    · exact hvl i e.symm
  have htl := turns_any 4 (by omega) w1.heap.size p nx v l L w2 hBox nB hp2 HP.out.2.1 HP.out.2.2.1 H.out.sorted hl
  have fin : ∀ (n D : Nat) (W : World) (vd : Value), w2.heap.size ≤ D → KeptTo w2.heap.size (fun i => i = w.heap.size + 1 ∨ pileT p v i) w2 W → pileE p v nx L n W → W.ownsRow (w2.heap.size + 2) 36 5 vd n (flatV (evs L n)) → UpTo t L n →
      W.heap[D]? = some (.deferred (some [])) → UntilDone w S a nx L t (.returned vd) (W.putObj D (.deferred none)) := by
    intro n D W vd hD hKT hE hrow hup hK
    have hkk : Kept (fun i => i = w.heap.size + 1 ∨ pileT p v i) w1 (W.putObj D (.deferred none)) := (Kept.of_below hb2 _).trans (hKT.putObj hD _).kept (fun _ _ h => h)
    have hE2 := pileE_same (Bh := w1.heap.size) n W (W.putObj D (.deferred none)) (fun i hi => World.putObj_heap_other (by
      rcases hi with rfl | hi
      · omega
      · have := hTlt i hi; omega)) hE
    have hr2 := ownsRow_putObj hrow (.deferred none) hK rfl
    have hz0' := HB0.out.1.size
    have up : ∀ g, Grow S w0 w1 g → Grow S w w1 g := fun g hg => by
      rcases hg with hg | hg
      · exact .inl hg
      · exact .inr ⟨by omega, hg.2⟩
    have hA' : Whole w1 a 27 #[.pointer (some ⟨p, 0, none⟩)] ∨ (L = [] ∧ nx = 0 ∧ Whole w1 a 27 #[.pointer none] ∧ w.heap.size ≤ p ∧ v = .slice none 0 0) := by
      rcases HP.out.2.2.2.2.2.2 with h1 | ⟨h1, h2, h3, h4, h5⟩
      · exact .inl h1
      · exact .inr ⟨h1, h2, h3, by omega, h5⟩
    obtain ⟨hag, hkS⟩ := until_done H.out HTD.out.2.2 hA' (up p HP.out.2.2.2.2.1) (fun g hg => up g (HP.out.2.2.2.2.2.1 g hg)) HP.out.1 hE2 hkk (by omega)
    have hsz := hkk.size
    refine ⟨vd, n, Grow S w w1, rfl, hup, ⟨hr2.1, ?_⟩, hag, hkS, fun k hk => ?_, fun g hg hS => ?_⟩
    · rcases hr2.2 with h0 | ⟨g, cap, cur, e, hb', h3⟩
      · exact .inl h0
      · exact .inr ⟨g, cap, cur, e, by omega, h3⟩
    · rcases hk with hk | hk
      · exact .inl hk
      · exact .inr ⟨hk.1, by omega⟩
    · have h1 := (hrow.lt g hg).1
      rcases hS with hS | hS
      · have := H.out.lt g hS; omega
      · omega
  have FIN := Lib.hid fin
  clear fin
  obtain ⟨i0, hi, hy0, hy1, hy2⟩ := info_parts ev_infos
  refine wpIn_turns (S := fun i => i = w.heap.size + 1) (T := pileT p v) (K := pileK w1.heap.size p v) (fun i h => by omega) (fun i h => by have := hTlt i h; omega)
    (fun i h => by
      rcases h with rfl | h
      · exact ⟨by omega, by omega⟩
      · exact ⟨by have := hTlt i h; omega, fun e => nD (by rw [← e]; exact h)⟩)
    (by omega) (gf := 43) (lb := #[.pointer (some ⟨w1.heap.size, 0, none⟩)]) rfl
    (enters_of Try.func43 (by kernel_rfl) rfl) (encs := encA L) (M := L.length) (fun _ => rfl) (E := pileE p v nx L) pileE_same htl
    (Told w.heap.size (w.heap.size + 1) (w2.heap.size + 2) t L) (fun c k W => c = .exit 0 ∧ Told w.heap.size (w.heap.size + 1) (w2.heap.size + 2) t L (k - 1) W ∧ t < (L.getD (k - 1) default).e.t)
    (fun k a2 W => ∃ Bx, w2.heap.size + 2 ≤ Bx ∧ Whole W Bx 36 (L.getD (k - 1) default).e.cells.toArray ∧ a2 = { tmps := #[.pointer (some ⟨a, 0, none⟩), .int .i64 t, undef, .pointer (some ⟨w.heap.size, 0, none⟩), .slice none 0 0, .pointer (some ⟨w.heap.size + 1, 0, none⟩), .pointer (some ⟨Bx, 0, none⟩), .pointer (some ⟨a, 0, none⟩), .pointer (some ⟨p, 0, none⟩), .iface 25 (.pointer (some ⟨p, 0, none⟩)), .func (.func 43) #[] #[.pointer (some ⟨w1.heap.size, 0, none⟩)], .agg (L.getD (k - 1) default).e.cells.toArray, undef, undef, undef, undef, undef, undef, undef, undef, undef], defers := [] })
    ?hI ?hX ?hAx ?h0 ?assign ?body ?done ?stop
  case hI =>
    intro k A B hk hT
    exact hT.kept hk (by rintro (e | e | e); exact nT e; omega; omega) (by rintro (e | e | e); exact nD e; omega; omega) (by
      rintro i hi (e | e | e)
      · have := hTlt i e; omega
      · omega
      · omega)
  case hX =>
    rintro c k A B hk ⟨hc, hT, ht⟩
    exact ⟨hc, hT.kept hk (by rintro (e | e | e); exact nT e; omega; omega) (by rintro (e | e | e); exact nD e; omega; omega) (by
      rintro i hi (e | e | e)
      · have := hTlt i e; omega
      · omega
      · omega), ht⟩
  case hAx =>
    rintro k a2 A B hk ⟨Bx, h1, h2, h3⟩
    exact ⟨Bx, h1, h2.kept hk (by rintro (e | e) <;> omega), h3⟩
  case h0 => exact ⟨hT2, ⟨_, hD2, ⟨rfl, .inl ⟨rfl, rfl⟩⟩⟩, fun j hj => absurd hj (Nat.not_lt_zero _)⟩
  case assign =>
    intro lp k W K hWz hK
    unfold encA
    generalize (L.getD (k - 1) default).e = x at *
    unfold Ev.cells at *
    gi_wp2
    exact hK _ _ ((Below.refl _ W).alloc (Nat.le_refl _) _) ⟨W.heap.size, hWz, Whole.new W _ _, rfl⟩
  case body =>
    rintro lp k W a2 hkM hWz hKT ⟨hTw, ⟨vd, hDw, hrow⟩, hall⟩ ⟨Bx, hBx, hX, rfl⟩
    rw [Nat.add_sub_cancel] at hX ⊢
    obtain ⟨x, hx⟩ : ∃ x, x = (L.getD k default).e := ⟨_, rfl⟩
    rw [← hx] at hX ⊢
    have hX' : Whole W Bx 36 #[.int .i64 x.t, .int .i64 x.k, .int .i64 x.n, .int .i64 x.m, .int .i64 x.v] := hX
    have x0 := hX'.cell 0
    have x1 := hX'.cell 1
    have x2 := hX'.cell 2
    have x3 := hX'.cell 3
    have x4 := hX'.cell 4
    simp at x0 x1 x2 x3 x4
    have ht0 := hTw.cell 0
    have hd0 := hDw.cell 0
    simp at ht0 hd0
    have HI := Lib.hid (And.intro hTw (And.intro hDw (And.intro hrow hall)))
    have HX := Lib.hid hx
    have HZZ := Lib.hid hzz
    clear hTw hDw hall hX hX' hKT hx hT2 hD2 htl hp2 hBox nB nT nD hzz
    by_cases hgt : t < x.t
    · clear hrow
      gi_wp2
      exact ⟨KeptTo.refl _ _ _, rfl, ⟨HI.out.1, ⟨vd, HI.out.2.1, HI.out.2.2.1⟩, HI.out.2.2.2⟩, by rw [Nat.add_sub_cancel, ← HX.out]; exact hgt⟩
    · have hdl := HI.out.2.1.lt
      have hdf := HI.out.2.1.frozen 0
      gi_wp2_with (gi_at_builtin; refine wpListIn_append_own _ rfl (.tmp 16) (.tmp 18) 29 rfl (w2.heap.size + 2) 36 i0 _ 5 40 Try.underlying29 hi hy0 hy1 hy2 rfl (by decide) vd k (flatV (evs L k)) rfl (hrow.alloc _) ⟨W.heap.size, 0, none⟩ 1 1 x.cells rfl rfl (fun j u hu => World.news_of_block (Whole.new W _ _) j u hu) x.cells_one (by simp only [maxLen]; omega) (by omega) (by simp; omega) ?_; intro v' w5 h1 h2 _; have hD5 : Whole w5 (w.heap.size + 1) 29 #[vd] := (HI.out.2.1.alloc _).grown h2 (HI.out.2.1.not_row (by decide) hrow); have hc5 := hD5.cell 0; have hf5 := hD5.frozen 0; simp at hc5; have HG := Lib.hid (And.intro h1 (And.intro h2 hD5)); obtain ⟨g', cap', rfl⟩ := ownsRow_succ h1; clear h1 h2 hD5)
      have hzz := HZZ.out
      exact told_more HX.out hkM (by omega) (by omega) hWz (by omega) (by omega) (by omega) HI.out.1 HI.out.2.2.2 HI.out.2.2.1 HG.out.1 HG.out.2.1 HG.out.2.2
  case done =>
    rintro D W hD hKT ⟨_, ⟨vd, hDw, hrow⟩, hall⟩ hE hK
    have hd0 := hDw.cell 0
    simp at hd0
    have HF := Lib.hid (FIN.out L.length D W vd hD hKT hE hrow ⟨Nat.le_refl _, hall, fun h => absurd h (Nat.lt_irrefl _)⟩ hK)
    clear hDw hrow hall hE hKT hT2 hD2 htl hp2 hBox nB nT nD
    gi_wp2
    refine ⟨by simp, .inl ⟨_, _, rfl, run_takeDeferred hK, ?_⟩⟩
    have hv : ∀ v', v' = vd → UntilDone w S a nx L t (.returned v') (W.putObj D (.deferred none)) := by rintro _ rfl; exact HF.out
    exact ⟨_, results_tmp rfl _ _ _, hv _ (by rfl)⟩
  case stop =>
    rintro D c k W hD hk1 hkM hKT ⟨rfl, ⟨_, ⟨vd, hDw, hrow⟩, hall⟩, hgt⟩ hE hK
    have hd0 := hDw.cell 0
    simp at hd0
    have HF := Lib.hid (FIN.out (k - 1) D W vd hD hKT hE hrow ⟨by omega, hall, fun _ => hgt⟩ hK)
    clear hDw hrow hall hE hKT hgt hT2 hD2 htl hp2 hBox nB nT nD
    gi_wp2
    refine ⟨by simp, .inl ⟨_, _, rfl, run_takeDeferred hK, ?_⟩⟩
    have hv : ∀ v', v' = vd → UntilDone w S a nx L t (.returned v') (W.putObj D (.deferred none)) := by rintro _ rfl; exact HF.out
    exact ⟨_, results_tmp rfl _ _ _, hv _ (by rfl)⟩
end Go.Proofs.Ytchfponnajednaa
