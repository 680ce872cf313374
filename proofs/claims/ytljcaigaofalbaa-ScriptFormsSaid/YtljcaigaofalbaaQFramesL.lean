/- What ScriptFrames goes by: memory whose numbers change, and nothing else. No condition. | ScriptFrames, of two scripts that are read. No condition. -/
import Derived.Test.YtljcaigaofalbaaQRc
import Derived.Test.YtljcaigaofalbaaQRs
import Derived.Test.YtljcaigaofalbaaQSameL
import Derived.Test.YtljcaigaofalbaaQRf
namespace Go.Proofs.Ytljcaigaofalbaa
open Go.RowKit Go.Shelf

/-- Where a number lay lies a number of its kind; all else is as it was. -/
structure SS (A W : World) : Prop where
  ints : ∀ p k m, A.cell? p = some (.int k m) → ∃ m', W.cell? p = some (.int k m')
  rest : ∀ p u, A.cell? p = some u → (∀ k m, u ≠ .int k m) → W.cell? p = some u
  fr : ∀ p, A.frozen? p = false → W.frozen? p = false
theorem SS.refl (A : World) : SS A A := ⟨fun _ _ m h => ⟨m, h⟩, fun _ _ h _ => h, fun _ h => h⟩
theorem SS.set {A W : World} (h : SS A W) {q : Addr} {k : IntKind} {m : Int} (hc : W.cell? q = some (.int k m)) (m' : Int) : SS A (W.setCell q (.int k m')) := by
  refine ⟨fun p k2 m2 hp => ?_, fun p u hp hu => ?_, fun p hp => by rw [World.frozen?_setCell]; exact h.fr p hp⟩
  · obtain ⟨m3, h3⟩ := h.ints p k2 m2 hp
    by_cases e : q = p
    · subst e
      rw [hc] at h3
      cases h3
      exact ⟨m', World.cell?_setCell_same _ _ _ hc⟩
    · exact ⟨m3, (World.cell?_setCell_other _ _ _ _ e).trans h3⟩
  · have h3 := h.rest p u hp hu
    have e : q ≠ p := fun e => by
      subst e
      rw [hc] at h3
      exact hu k m (Option.some.inj h3).symm
    exact (World.cell?_setCell_other _ _ _ _ e).trans h3
/-- The copy's numbers change; what lay below it is as it was. -/
structure MB (wc A W : World) : Prop where
  ss : SS A W
  below : Below wc.heap.size wc W
theorem MB.set {wc A W : World} (h : MB wc A W) {q : Addr} {k : IntKind} {m : Int} (hc : W.cell? q = some (.int k m)) (hq : wc.heap.size ≤ q.block) (m' : Int) : MB wc A (W.setCell q (.int k m')) := ⟨h.ss.set hc m', h.below.setCell hq _⟩
theorem MB.cell {wc A W : World} (h : MB wc A W) {p : Addr} {P : Option Addr} {n c : Nat} (hc : A.cell? p = some (.slice P n c)) : W.cell? p = some (.slice P n c) := h.ss.rest p _ hc (fun _ _ e => by cases e)
theorem own_at {α : Type} {cells : α → List Value} {k : Nat} (hc : ∀ a, (cells a).length = k) {w : World} {b n c : Nat} {p : Option Addr} {e : TypeId} {xs : List α} (h : w.ownsRow b e k (.slice p n c) xs.length (xs.flatMap cells)) :
    xs.length = n ∧ ∀ i, i < n → ∃ g o x, xs[i]? = some x ∧ p = some ⟨g, o, none⟩ ∧ b ≤ g ∧ ∀ j u, (cells x)[j]? = some u → w.cell? ⟨g, o + i * k + j, none⟩ = some u ∧ w.frozen? ⟨g, o + i * k + j, none⟩ = false := by
  obtain ⟨s, e1, h1, _⟩ := rsrc_of_own hc rfl h
  cases e1
  refine ⟨h1.len, fun i hi => ?_⟩
  have hil : i < xs.length := by have := h1.len; omega
  have hx : xs[i]? = some xs[i] := List.getElem?_eq_getElem hil
  obtain ⟨g, o, e2, h2⟩ := h1.spot hx
  obtain ⟨hb, cur, hcur⟩ := own_typed h (g := g) (by rw [e2]; rfl)
  exact ⟨g, o, _, hx, e2, hb, fun j u hu => ⟨h2 j u hu, Whole.frozen (t := e) (cs := cur) hcur _⟩⟩
theorem refcopy5 (V : ScV) (s : ScA) (W : World) (h : ScAt W V s) (hm : Small V) (hpl : ∀ y ∈ s.haps, y.pl.length ≤ 1000000) :
    Calls Try.prog 11 #[.agg V.cells] W fun e w' => ∃ (S : ScV) (s' : ScA), e = .returned (.agg S.cells) ∧ ScAt w' S s' ∧ s'.sc = s.sc ∧ Below W.heap.size W w' := by
  refine (refCopy_any V s W h hm hpl).mono fun e w' k => ?_
  obtain ⟨V', s', B, b0, rfl, hsb, hsc, hb⟩ := k
  obtain ⟨S, e1, e2, _⟩ := hsb.sc
  exact ⟨S, s', by rw [e1], e2, hsc, hb⟩
/-- The copy's rows and payloads: their blocks are new, their numbers may be changed. -/
structure CpW (b0 : Nat) (W : World) (S : ScV) (s : ScA) : Prop where
  r0 : W.ownsRow b0 52 2 S.r.v s.rates.length (s.rates.flatMap rateC)
  r2 : W.ownsRow b0 2 1 S.d.v s.delays.length (s.delays.flatMap numC)
  r3 : W.ownsRow b0 47 4 S.h.v s.haps.length (s.haps.flatMap hapC)
  r4 : W.ownsRow b0 54 5 S.f.v s.faults.length (s.faults.flatMap ftC)
  pl : ∀ y ∈ s.haps, PlAt W y ∧ ∀ ad, y.A = some ad → b0 ≤ ad.block ∧ UB W ad.block
theorem CpW.later {b0 : Nat} {W W' : World} {S : ScV} {s : ScA} (h : CpW b0 W S s) (hb : Below W.heap.size W W') : CpW b0 W' S s :=
  ⟨ownsRow_kept h.r0 (Kept.of_below hb Empty) (fun _ _ h => h), ownsRow_kept h.r2 (Kept.of_below hb Empty) (fun _ _ h => h), ownsRow_kept h.r3 (Kept.of_below hb Empty) (fun _ _ h => h), ownsRow_kept h.r4 (Kept.of_below hb Empty) (fun _ _ h => h), fun y hy => ⟨(h.pl y hy).1.later hb, fun ad e => ⟨((h.pl y hy).2 ad e).1, ((h.pl y hy).2 ad e).2.kept (Kept.of_below hb Empty) (fun h => h)⟩⟩⟩
theorem copyw (V : ScV) (s : ScA) (W : World) (h : ScAt W V s) (hm : Small V) (hpl : ∀ y ∈ s.haps, y.pl.length ≤ 1000000) :
    Calls Try.prog 25 #[.agg V.cells] W fun e w' => ∃ (S : ScV) (s' : ScA), e = .returned (.agg S.cells) ∧ ScAt w' S s' ∧ CpW W.heap.size w' S s' ∧ s'.sc = s.sc ∧ Below W.heap.size W w' := by
  refine (Copy_any V s W h hm hpl).mono fun e w' k => ?_
  obtain ⟨V', s', B, rfl, hsb, hsc, hb⟩ := k
  obtain ⟨S, e1, e2, _⟩ := hsb.sc
  have hV := congrArg (fun a : Array Value => a.toList) e1
  simp only [Vs.cells, ScV.cells, List.cons.injEq, and_true] at hV
  obtain ⟨x0, x1, x2, x3, x4⟩ := hV
  exact ⟨S, s', by rw [e1], e2, ⟨x0 ▸ hsb.r0, x2 ▸ hsb.r2, x3 ▸ hsb.r3, x4 ▸ hsb.r4, hsb.pl⟩, hsc, hb⟩
end Go.Proofs.Ytljcaigaofalbaa

namespace Go.Proofs.Ytljcaigaofalbaa
open Go.RowKit Go.Shelf

set_option maxRecDepth 100000 in
set_option maxHeartbeats 8000000 in
theorem framesLaw_any (x : Pl) (V U : ScV) (s t : ScA) (a n r c : Int) (w : World) (h1 : ScAt w V s) (h2 : ScAt w U t) :
    Calls Try.prog 4 #[.agg x.cells, .agg V.cells, .agg U.cells, .int .i64 a, .int .i64 n, .int .i64 r, .int .i64 c] w fun e w' => e = .returned (.bool true) ∧ Below w.heap.size w w' := by
  have hX := held_new (held_new (held_new (held_start w) 23 x.cells) 29 V.cells) 29 U.cells
  simp only [List.nil_append, List.cons_append, World.size_alloc] at hX
  have HB0 := Lib.hid (show BK w (((w.alloc (.cells x.cells 23)).alloc (.cells V.cells 29)).alloc (.cells U.cells 29)) [(w.heap.size, 23, x.cells), (w.heap.size + 1, 29, V.cells), (w.heap.size + 2, 29, U.cells)] [(V, s), (U, t)] [] from ⟨hX, fun y hy => by
    simp only [List.mem_cons, List.not_mem_nil, or_false] at hy
    rcases hy with rfl | rfl
    · exact h1.later hX.1
    · exact h2.later hX.1, fun y hy => by cases hy⟩)
  have HS := Lib.hid x.cellsL
  have HV := Lib.hid V.info
  have HU := Lib.hid U.info
  have HG := Lib.hid (fun W hW => great_any W V s hW)
  have HG2 := Lib.hid (fun W hW => great_any W U t hW)
  have HSM := Lib.hid (fun hg => small_of h1 hg)
  clear hX h1 h2
  by_cases hg : greatI s = 0
  case neg =>
    rw [great_one hg] at HG
    clear hg
    go_enter Try.func4, Try.ntmps4
    go_wp2_with (first
      | (refine wpList_load_row rfl 29 (.tmp 8) rfl (w.heap.size + 1) rfl 29 V.cells (0, 0) _ (HB0.out.whole (y := (w.heap.size + 1, 29, V.cells)) (by simp)) Try.underlying29 rfl HV.out ?_)
      | (go_at_call 10; with_reducible refine (HG.out _ (HB0.out.sc (V, s) (by simp))).mono ?_; rintro e w2 ⟨rfl, hb2⟩; have HB2 := Lib.hid (HB0.out.later hb2); clear hb2))
    go_ret
    exact ⟨rfl, HB2.out.below⟩
  rw [hg] at HG
  by_cases hg2 : greatI t = 0
  case neg =>
    rw [great_one hg2] at HG2
    clear hg hg2
    go_enter Try.func4, Try.ntmps4
    go_wp2_with (first
      | (refine wpList_load_row rfl 29 (.tmp 8) rfl (w.heap.size + 1) rfl 29 V.cells (0, 0) _ (HB0.out.whole (y := (w.heap.size + 1, 29, V.cells)) (by simp)) Try.underlying29 rfl HV.out ?_)
      | (go_at_call 10; with_reducible refine (HG.out _ (HB0.out.sc (V, s) (by simp))).mono ?_; rintro e w2 ⟨rfl, hb2⟩; have HB2 := Lib.hid (HB0.out.later hb2); clear hb2)
      | (refine wpList_load_want (by kernel_rfl) 29 (.tmp 9) rfl (w.heap.size + 2) rfl 29 U.cells (0, 0) _ (HB2.out.whole (y := (w.heap.size + 2, 29, U.cells)) (by simp)) Try.underlying29 rfl HU.out ?_)
      | (go_at_call 10; with_reducible refine (HG2.out _ (HB2.out.sc (U, t) (by simp))).mono ?_; rintro e w3 ⟨rfl, hb3⟩; have HB3 := Lib.hid (HB2.out.later hb3); clear hb3))
    go_ret
    exact ⟨rfl, HB3.out.below⟩
  rw [hg2] at HG2
  have HSm := Lib.hid (HSM.out hg)
  clear hg hg2 HSM
  go_enter Try.func4, Try.ntmps4
  go_upto_region 3 with (first
    | (refine wpList_load_row rfl 29 (.tmp 8) rfl (w.heap.size + 1) rfl 29 V.cells (0, 0) _ (HB0.out.whole (y := (w.heap.size + 1, 29, V.cells)) (by simp)) Try.underlying29 rfl HV.out ?_)
    | (go_at_call 10; with_reducible refine (HG.out _ (HB0.out.sc (V, s) (by simp))).mono ?_; rintro e w2 ⟨rfl, hb2⟩; have HB2 := Lib.hid (HB0.out.later hb2); clear hb2)
    | (refine wpList_load_want (by kernel_rfl) 29 (.tmp 9) rfl (w.heap.size + 2) rfl 29 U.cells (0, 0) _ (HB2.out.whole (y := (w.heap.size + 2, 29, U.cells)) (by simp)) Try.underlying29 rfl HU.out ?_)
    | (go_at_call 10; with_reducible refine (HG2.out _ (HB2.out.sc (U, t) (by simp))).mono ?_; rintro e w3 ⟨rfl, hb3⟩; have HB3 := Lib.hid (HB2.out.later hb3); clear hb3))
  clear HG HG2 HB0 HB2
  obtain ⟨d, hd⟩ : ∃ d, d = delayS x s.sc a n r c := ⟨_, rfl⟩
  obtain ⟨e9, he9⟩ : ∃ e9, e9 = heardS x s.sc a n r c := ⟨_, rfl⟩
  obtain ⟨z, hz⟩ : ∃ z, z = decide (s.sc = t.sc) := ⟨_, rfl⟩
  have hCD := fun y : Later w3 => Delay_any x V s a n r c y.at_ ((HB3.out.sc (V, s) (by simp)).later y.below)
  have hCR := fun y : Later w3 => refDelay_any x V s a n r c y.at_ ((HB3.out.sc (V, s) (by simp)).later y.below)
  have hCH := fun y : Later w3 => Heard_any x V s a n r c y.at_ ((HB3.out.sc (V, s) (by simp)).later y.below)
  have hCG := fun y : Later w3 => refHeard_any x V s a n r c y.at_ ((HB3.out.sc (V, s) (by simp)).later y.below)
  have hCS := fun y : Later w3 => Same_any V U s t y.at_ ((HB3.out.sc (V, s) (by simp)).later y.below) ((HB3.out.sc (U, t) (by simp)).later y.below)
  have hCT := fun y : Later w3 => refSame_any V U s t y.at_ ((HB3.out.sc (V, s) (by simp)).later y.below) ((HB3.out.sc (U, t) (by simp)).later y.below)
  rw [← hd] at hCD hCR
  rw [← he9] at hCH hCG
  rw [← hz] at hCS hCT
  have CD := Lib.hid hCD
  have CR := Lib.hid hCR
  have CH := Lib.hid hCH
  have CG := Lib.hid hCG
  have CS := Lib.hid hCS
  have CT := Lib.hid hCT
  clear hd he9 hz hCD hCR hCH hCG hCS hCT
  refine wp_region_later (by kernel_rfl) (by kernel_rfl) ?_
  repeat (first
    | go_big_quiet_skip
    | (go_big_quiet_want
       first
       | (refine quiet_load_row 23 (.tmp 7) rfl w.heap.size rfl 23 x.cells (0, 0) _ (later_row (HB3.out.whole (y := (w.heap.size, 23, x.cells)) (by simp))) Try.underlying23 rfl HS.out.plan ?_; simp only [Act.put, List.setIfInBounds_toArray, List.set_cons_succ, List.set_cons_zero]; go_big_quiet_on)
       | (refine quiet_load_row 29 (.tmp 8) rfl (w.heap.size + 1) rfl 29 V.cells (0, 0) _ (later_row (HB3.out.whole (y := (w.heap.size + 1, 29, V.cells)) (by simp))) Try.underlying29 rfl HV.out ?_; simp only [Act.put, List.setIfInBounds_toArray, List.set_cons_succ, List.set_cons_zero]; go_big_quiet_on)
       | (refine quiet_load_row 29 (.tmp 9) rfl (w.heap.size + 2) rfl 29 U.cells (0, 0) _ (later_row (HB3.out.whole (y := (w.heap.size + 2, 29, U.cells)) (by simp))) Try.underlying29 rfl HU.out ?_; simp only [Act.put, List.setIfInBounds_toArray, List.set_cons_succ, List.set_cons_zero]; go_big_quiet_on)
       | (go_big_quiet_op
          first
          | go_big_quiet_on
          | go_big_quiet_call (first
            | (go_at_call 20; exact later_at _ CD.out)
            | (go_at_call 21; exact later_at _ CR.out)
            | (go_at_call 22; exact later_at _ CH.out)
            | (go_at_call 23; exact later_at _ CG.out)
            | (go_at_call 24; exact later_at _ CS.out)
            | (go_at_call 17; exact later_at _ CT.out)))))
  refine wpQuiet_nil ?_
  intro _ hw'
  obtain ⟨y9, hw''⟩ := hw'
  subst hw''
  have HB9 := Lib.hid (HB3.out.later y9.below)
  clear CD CR CH CG CS CT HB3
  go_upto_region 5 with fail
  generalize y9.at_ = W9 at *
  clear y9
  go_upto_region 6 with (first
    | (refine wpList_load_row rfl 29 (.tmp 8) rfl (w.heap.size + 1) rfl 29 V.cells (0, 0) _ (HB9.out.whole (y := (w.heap.size + 1, 29, V.cells)) (by simp)) Try.underlying29 rfl HV.out ?_)
    | (go_at_call 11; refine (refcopy5 V s _ (HB9.out.sc (V, s) (by simp)) HSm.out.1 HSm.out.2).mono ?_; rintro e w5 ⟨S, s0, rfl, hs0, he0, hb⟩; have HB5 := Lib.hid ((HB9.out.later hb).script hs0); have HE0 := Lib.hid he0; have HSi := Lib.hid S.info; have HSo := Lib.hid S.one; clear hs0 he0 hb)
    | (refine wpList_store_last (w := w5) rfl 29 (.tmp 15) (.tmp 73) rfl _ S.cells rfl rfl 29 _ rfl HSi.out rfl HSo.out ?_))
  have HB6 := Lib.hid (show BK w (w5.alloc (.cells S.cells 29)) [(w.heap.size, 23, x.cells), (w.heap.size + 1, 29, V.cells), (w.heap.size + 2, 29, U.cells), (w5.heap.size, 29, S.cells)] [(V, s), (U, t), (S, s0)] [] from HB5.out.box 29 S.cells)
  clear HB9 HB5
  generalize w5.alloc (.cells S.cells 29) = W6 at *
  generalize w5.heap.size = b5 at *
  go_upto_region 7 with (first
    | (refine wpList_load_row rfl 29 (.tmp 8) rfl (w.heap.size + 1) rfl 29 V.cells (0, 0) _ (HB6.out.whole (y := (w.heap.size + 1, 29, V.cells)) (by simp)) Try.underlying29 rfl HV.out ?_)
    | (go_at_call 25; refine (copyw V s _ (HB6.out.sc (V, s) (by simp)) HSm.out.1 HSm.out.2).mono ?_; rintro e w7 ⟨K, sk, rfl, hsk, hw, hek, hb⟩; have HB7 := Lib.hid ((HB6.out.later hb).script hsk); have HBb := Lib.hid hb; have HW7 := Lib.hid hw; have HEK := Lib.hid hek; have HK := Lib.hid K.info; have HKo := Lib.hid K.one; clear hsk hw hek hb)
    | (refine wpList_store_last (w := w7) rfl 29 (.tmp 16) (.tmp 75) rfl _ K.cells rfl rfl 29 _ rfl HK.out rfl HKo.out ?_))
  have hbA : Below w7.heap.size w7 (w7.alloc (.cells K.cells 29)) := (Below.refl _ _).alloc (Nat.le_refl _) _
  have HB8 := Lib.hid (show BK w (w7.alloc (.cells K.cells 29)) [(w.heap.size, 23, x.cells), (w.heap.size + 1, 29, V.cells), (w.heap.size + 2, 29, U.cells), (b5, 29, S.cells), (w7.heap.size, 29, K.cells)] [(V, s), (U, t), (S, s0), (K, sk)] [] from HB7.out.box 29 K.cells)
  have HW8 := Lib.hid (And.intro (HW7.out.later hbA) (And.intro (k_then hbA HBb.out) HBb.out.size))
  have e3 := decide_eq_true HEK.out
  have hc1 := refSame_any K V sk s
  have hc2 := Same_any K V sk s
  rw [e3] at hc1 hc2
  have HC1 := Lib.hid hc1
  have HC2 := Lib.hid hc2
  clear HB7 HBb HW7 hbA e3 hc1 hc2
  generalize w7.alloc (.cells K.cells 29) = W8 at *
  generalize w7.heap.size = b7 at *
  go_upto_region 8 with (first
    | (refine wpList_load_row rfl 29 (.tmp 16) rfl (b7) rfl 29 K.cells (0, 0) _ (HB8.out.whole (y := (b7, 29, K.cells)) (by simp)) Try.underlying29 rfl HK.out ?_)
    | (refine wpList_load_row rfl 29 (.tmp 8) rfl (w.heap.size + 1) rfl 29 V.cells (0, 0) _ (HB8.out.whole (y := (w.heap.size + 1, 29, V.cells)) (by simp)) Try.underlying29 rfl HV.out ?_)
    | (go_at_call 17; refine (HC1.out _ (HB8.out.sc (K, sk) (by simp)) (HB8.out.sc (V, s) (by simp))).mono ?_; rintro e w8 ⟨rfl, hb⟩; have HB9 := Lib.hid (HB8.out.later hb); have HW9 := Lib.hid (And.intro (HW8.out.1.later hb) (And.intro (k_then hb HW8.out.2.1) HW8.out.2.2)); clear hb)
    | (refine wpList_load_want (by kernel_rfl) 29 (.tmp 16) rfl (b7) rfl 29 K.cells (0, 0) _ (HB9.out.whole (y := (b7, 29, K.cells)) (by simp)) Try.underlying29 rfl HK.out ?_)
    | (refine wpList_load_want (by kernel_rfl) 29 (.tmp 8) rfl (w.heap.size + 1) rfl 29 V.cells (0, 0) _ (HB9.out.whole (y := (w.heap.size + 1, 29, V.cells)) (by simp)) Try.underlying29 rfl HV.out ?_)
    | (go_at_call 24; refine (HC2.out _ (HB9.out.sc (K, sk) (by simp)) (HB9.out.sc (V, s) (by simp))).mono ?_; rintro e A ⟨rfl, hb⟩; have HBA := Lib.hid (HB9.out.later hb); have HWA := Lib.hid (And.intro (HW9.out.1.later hb) (And.intro (k_then hb HW9.out.2.1) HW9.out.2.2)); clear hb))
  clear HB8 HW8 HB9 HW9 HC1 HC2 HEK HK HKo HSo
  have hsk := HBA.out.sc (K, sk) (by simp)
  have KM := Lib.hid (show (K.r.n ≤ 9223372036854775807 ∧ K.d.n ≤ 9223372036854775807) ∧ K.h.n ≤ 9223372036854775807 ∧ K.f.n ≤ 9223372036854775807 from ⟨⟨Nat.le_trans hsk.r.cap hsk.r.max, Nat.le_trans hsk.d.cap hsk.d.max⟩, Nat.le_trans hsk.h.row.cap hsk.h.row.max, Nat.le_trans hsk.f.cap hsk.f.max⟩)
  have KB := Lib.hid (sc5 (HBA.out.whole (y := (b7, 29, K.cells)) (by simp)))
  have HR0 := Lib.hid (own_at (cells := rateC) (fun _ => rfl) HWA.out.1.r0).2
  have HR2 := Lib.hid (own_at (cells := numC) (fun _ => rfl) HWA.out.1.r2).2
  have HR3 := Lib.hid (own_at (cells := hapC) (fun _ => rfl) HWA.out.1.r3).2
  have HR4 := Lib.hid (own_at (cells := ftC) (fun _ => rfl) HWA.out.1.r4).2
  have HM0 := Lib.hid (show MB W6 A A from ⟨SS.refl A, HWA.out.2.1⟩)
  have HPLK := Lib.hid HWA.out.1.pl
  clear hsk HBA HWA
  have c9 := KB.out.1
  go_wp2
  clear c9
  go_loopw [87] (fun iv wr => ∃ k : Nat, k ≤ K.r.n ∧ iv = .int .i64 (k : Int) ∧ MB W6 A wr) (fun iv _ => K.r.n - (intOf iv).toNat)
  case atStart => exact ⟨0, Nat.zero_le _, rfl, HM0.out⟩
  case round =>
    obtain ⟨k, hk, rfl, hM⟩ := hrel
    have HM1 := Lib.hid hM
    have c0 := hM.cell KB.out.1
    skip
    by_cases hlt : k < K.r.n
    · obtain ⟨g, o, y, hy, hA, hg, hcells⟩ := HR0.out k hlt
      obtain ⟨h0, f0⟩ := hcells 0 (.int .i64 (y.1)) rfl
      obtain ⟨m, h0⟩ := hM.ss.ints _ _ _ h0
      have f0 := hM.ss.fr _ f0
      have h0 : wr.cell? ⟨g, o + k * 2, none⟩ = some (.int .i64 m) := h0
      have f0 : wr.frozen? ⟨g, o + k * 2, none⟩ = false := f0
      have i1 : (0 : Int) ≤ (k : Int) := by omega
      have i2 : (k : Int) < (K.r.n : Int) := by omega
      have i5 := KM.out.1.1
      have HM := Lib.hid (fun m' => hM.set h0 hg m')
      rw [hA] at c0
      clear hM hy hA hcells
      go_wp2
      go_roundw
      case rel => exact ⟨k + 1, by omega, by go_num, HM.out _⟩
      case measure => simp [intOf]; omega
    · have c1 := hM.cell KB.out.2.2.1
      obtain rfl : k = K.r.n := by omega
      clear hM c0
      go_wp2
      clear c1
      go_loopw [103] (fun iv wr => ∃ k : Nat, k ≤ K.d.n ∧ iv = .int .i64 (k : Int) ∧ MB W6 A wr) (fun iv _ => K.d.n - (intOf iv).toNat)
      case atStart => exact ⟨0, Nat.zero_le _, rfl, HM1.out⟩
      case round =>
        obtain ⟨k, hk, rfl, hM⟩ := hrel
        have HM2 := Lib.hid hM
        have c0 := hM.cell KB.out.2.2.1
        clear hlt
        by_cases hlt : k < K.d.n
        · obtain ⟨g, o, y, hy, hA, hg, hcells⟩ := HR2.out k hlt
          obtain ⟨h0, f0⟩ := hcells 0 (.int .i64 (y)) rfl
          obtain ⟨m, h0⟩ := hM.ss.ints _ _ _ h0
          have f0 := hM.ss.fr _ f0
          have h0 : wr.cell? ⟨g, o + k, none⟩ = some (.int .i64 m) := by simpa using h0
          have f0 : wr.frozen? ⟨g, o + k, none⟩ = false := by simpa using f0
          have i1 : (0 : Int) ≤ (k : Int) := by omega
          have i2 : (k : Int) < (K.d.n : Int) := by omega
          have i5 := KM.out.1.2
          have HM := Lib.hid (fun m' => hM.set h0 hg m')
          rw [hA] at c0
          clear hM hy hA hcells
          go_wp2
          go_roundw
          case rel => exact ⟨k + 1, by omega, by go_num, HM.out _⟩
          case measure => simp [intOf]; omega
        · have c1 := hM.cell KB.out.2.2.2.1
          obtain rfl : k = K.d.n := by omega
          clear hM c0
          go_wp2
          clear c1
          go_loopw [117] (fun iv wr => ∃ k : Nat, k ≤ K.h.n ∧ iv = .int .i64 (k : Int) ∧ MB W6 A wr) (fun iv _ => K.h.n - (intOf iv).toNat)
          case atStart => exact ⟨0, Nat.zero_le _, rfl, HM2.out⟩
          case round =>
            obtain ⟨k, hk, rfl, hM⟩ := hrel
            have HM3 := Lib.hid hM
            have c0 := hM.cell KB.out.2.2.2.1
            clear hlt
            by_cases hlt : k < K.h.n
            · obtain ⟨g, o, y, hy, hA, hg, hcells⟩ := HR3.out k hlt
              obtain ⟨h0, f0⟩ := hcells 1 (.int .i64 (y.n)) rfl
              obtain ⟨m, h0⟩ := hM.ss.ints _ _ _ h0
              have f0 := hM.ss.fr _ f0
              have h0 : wr.cell? ⟨g, o + k * 4 + 1, none⟩ = some (.int .i64 m) := h0
              have f0 : wr.frozen? ⟨g, o + k * 4 + 1, none⟩ = false := f0
              have i1 : (0 : Int) ≤ (k : Int) := by omega
              have i2 : (k : Int) < (K.h.n : Int) := by omega
              have i5 := KM.out.2.1
              have HM := Lib.hid (fun m' => hM.set h0 hg m')
              have h3 := (hcells 3 (.slice y.A y.pl.length y.c) rfl).1
              have KC := Lib.hid (And.intro KB.out.2.2.2.1 h3)
              have hmem := List.mem_of_getElem? hy
              have HPY := Lib.hid (HPLK.out y hmem)
              rw [hA] at c0 KC
              clear hM hy hA hcells h3 hmem
              obtain ⟨yk, yn, yt, yA, yc, yl⟩ := y
              dsimp only at *
              go_upto_region 22 with fail
              have hM5 := HM.out (wrap64 (m + 1))
              generalize wr.setCell ⟨g, o + k * 4 + 1, none⟩ (.int .i64 (wrap64 (m + 1))) = wm at *
              have HM5 := Lib.hid hM5
              have d0 := hM5.cell KC.out.1
              have d1 := hM5.cell KC.out.2
              have hyl : yl.length ≤ 9223372036854775807 := Nat.le_trans HPY.out.1.cap HPY.out.1.max
              clear HM hM5 c0 h0 f0
              go_wp2
              clear d0 d1
              go_loopw [136] (fun iv wx => ∃ j : Nat, j ≤ yl.length ∧ iv = .int .i64 (j : Int) ∧ MB W6 A wx) (fun iv _ => yl.length - (intOf iv).toNat)
              case atStart => exact ⟨0, Nat.zero_le _, rfl, HM5.out⟩
              case round =>
                obtain ⟨j, hj, rfl, hM⟩ := hrel
                have HM6 := Lib.hid hM
                have d0 := hM.cell KC.out.1
                have d1 := hM.cell KC.out.2
                clear HM5
                by_cases hlt2 : j < yl.length
                · obtain ⟨b, o2, e2, hcc⟩ := HPY.out.1.src.2 (Nat.lt_of_le_of_lt (Nat.zero_le _) hlt2)
                  have h0 := hcc j hlt2
                  obtain ⟨hb9, cur, hcur⟩ := HPY.out.2 ⟨b, o2, none⟩ e2
                  have f0 := Whole.frozen (t := 5) (cs := cur) hcur (o2 + j)
                  obtain ⟨m2, h0⟩ := hM.ss.ints _ _ _ h0
                  have f0 := hM.ss.fr _ f0
                  have e2 : yA = some ⟨b, o2, none⟩ := e2
                  rw [e2] at d1
                  have HMx := Lib.hid (fun m' => hM.set h0 hb9 m')
                  have j1 : (0 : Int) ≤ (j : Int) := by omega
                  have j2 : (j : Int) < (yl.length : Int) := by omega
                  clear hM hcc hcur hb9 e2
                  go_wp2
                  go_roundw
                  case rel => exact ⟨j + 1, by omega, by go_num, HMx.out _⟩
                  case measure => simp [intOf]; omega
                · obtain rfl : j = yl.length := by omega
                  clear hM d0 d1
                  go_wp2
                  go_roundw
                  case rel => exact ⟨k + 1, by omega, by go_num, HM6.out⟩
                  case measure => simp [intOf]; omega
            · have c1 := hM.cell KB.out.2.2.2.2
              obtain rfl : k = K.h.n := by omega
              clear hM c0
              go_wp2
              clear c1
              go_loopw [155] (fun iv wr => ∃ k : Nat, k ≤ K.f.n ∧ iv = .int .i64 (k : Int) ∧ MB W6 A wr) (fun iv _ => K.f.n - (intOf iv).toNat)
              case atStart => exact ⟨0, Nat.zero_le _, rfl, HM3.out⟩
              case round =>
                obtain ⟨k, hk, rfl, hM⟩ := hrel
                have HM4 := Lib.hid hM
                have c0 := hM.cell KB.out.2.2.2.2
                clear hlt
                by_cases hlt : k < K.f.n
                · obtain ⟨g, o, y, hy, hA, hg, hcells⟩ := HR4.out k hlt
                  obtain ⟨h0, f0⟩ := hcells 1 (.int .i64 (y.n)) rfl
                  obtain ⟨m, h0⟩ := hM.ss.ints _ _ _ h0
                  have f0 := hM.ss.fr _ f0
                  have h0 : wr.cell? ⟨g, o + k * 5 + 1, none⟩ = some (.int .i64 m) := h0
                  have f0 : wr.frozen? ⟨g, o + k * 5 + 1, none⟩ = false := f0
                  have i1 : (0 : Int) ≤ (k : Int) := by omega
                  have i2 : (k : Int) < (K.f.n : Int) := by omega
                  have i5 := KM.out.2.2
                  have HM := Lib.hid (fun m' => hM.set h0 hg m')
                  rw [hA] at c0
                  clear hM hy hA hcells
                  go_wp2
                  go_roundw
                  case rel => exact ⟨k + 1, by omega, by go_num, HM.out _⟩
                  case measure => simp [intOf]; omega
                · have HBF := Lib.hid (HB6.out.later hM.below)
                  obtain rfl : k = K.f.n := by omega
                  clear hM c0
                  have e3 := decide_eq_true HE0.out.symm
                  have hc1 := refSame_any V S s s0
                  rw [e3] at hc1
                  have HC1 := Lib.hid hc1
                  clear hc1 e3
                  go_wp2_with (first
                    | (refine wpList_load_want (by kernel_rfl) 29 (.tmp 8) rfl (w.heap.size + 1) rfl 29 V.cells (0, 0) _ (HBF.out.whole (y := (w.heap.size + 1, 29, V.cells)) (by simp)) Try.underlying29 rfl HV.out ?_)
                    | (refine wpList_load_want (by kernel_rfl) 29 (.tmp 15) rfl b5 rfl 29 S.cells (0, 0) _ (HBF.out.whole (y := (b5, 29, S.cells)) (by simp)) Try.underlying29 rfl HSi.out ?_)
                    | (go_at_call 17; refine (HC1.out _ (HBF.out.sc (V, s) (by simp)) (HBF.out.sc (S, s0) (by simp))).mono ?_; rintro e wz ⟨rfl, hb⟩; have HBZ := Lib.hid (HBF.out.later hb); clear hb))
                  go_ret
                  exact ⟨rfl, HBZ.out.below⟩
end Go.Proofs.Ytljcaigaofalbaa
