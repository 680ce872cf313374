/- What a nil agenda answers. No condition. -/
import Derived.Test.YtchfponnajednaaAAll
import Derived.Test.YtchfponnajednaaADrop
import Derived.Test.YtchfponnajednaaATake
import Derived.Test.YtchfponnajednaaALawM
namespace Go.Proofs.Ytchfponnajednaa
open Go.RowKit Go.Shelf
attribute [local go_sem] Oper.semAt_some

/-- A new pile, that nobody else has. -/
theorem keptNil2 (w : World) : Calls Try.prog 28 #[.pointer none] w fun e w' => ∃ p v l, e = .returned (.pointer (some ⟨p, 0, none⟩)) ∧ PileAt w' p v 0 l ∧ Heap l ∧ l.Perm [] ∧ Below w.heap.size w w' ∧ w.heap.size ≤ p ∧ v = .slice none 0 0 := by
  refine (keptNil_any w).mono ?_
  rintro e w' ⟨rfl, rfl⟩
  exact ⟨w.heap.size, _, [], rfl, pile_new w, heap_nil, List.Perm.refl _, (Below.refl _ _).alloc (Nat.le_refl _) _, Nat.le_refl _, rfl⟩
/-- Nothing, and nothing turned. -/
def NilDone (w : World) (e : Ending) (w' : World) : Prop := ∃ A c, e = .returned (.slice A 0 c) ∧ Below w.heap.size w w'

set_option maxRecDepth 100000 in
set_option maxHeartbeats 4000000 in
theorem agUntilNil_any (w : World) (t : Int) :
    Calls Try.prog 20 #[.pointer none, .int .i64 t] w (NilDone w) := by
  obtain ⟨L, hL⟩ : ∃ L : List En, L = [] := ⟨_, rfl⟩
  obtain ⟨nx, hnx⟩ : ∃ nx : Nat, nx = 0 := ⟨_, rfl⟩
  have HSO := Lib.hid (show L.Pairwise lessP by rw [hL]; exact List.Pairwise.nil)
  have hl : L.length ≤ 1000000 := by rw [hL]; simp
  have HLL := Lib.hid hL
  have HNX := Lib.hid hnx
  clear hL hnx
  obtain ⟨w0, hw0⟩ : ∃ w0, w0 = (w.alloc (.cells #[.int .i64 t] 2)).alloc (.cells #[.slice none 0 0] 29) := ⟨_, rfl⟩
  have hb0 : Below w.heap.size w w0 := by rw [hw0]; exact ((Below.refl _ _).alloc (Nat.le_refl _) _).alloc (by simp) _
  have hT0 : Whole w0 w.heap.size 2 #[.int .i64 t] := by rw [hw0]; exact (Whole.new w _ _).alloc _
  have hD0 : Whole w0 (w.heap.size + 1) 29 #[.slice none 0 0] := by
    rw [hw0]
    have := Whole.new (w.alloc (.cells #[.int .i64 t] 2)) 29 #[.slice none 0 0]
    simpa using this
  have HK := Lib.hid (keptNil2 w0)
  have HB0 := Lib.hid (And.intro hb0 (And.intro hT0 hD0))
  rw [hw0] at HK
  have HW0 := Lib.hid hw0
  clear hb0 hT0 hD0 hw0
  refine (callsIn_wide (n := 5)).1 ?_
  refine callsIn_of_wp_marks Try.func20 rfl trivial ?_ rfl
  simp only [Try.ntmps20, List.size_toArray, List.length_cons, List.length_nil, Nat.reduceAdd, Nat.reduceSub, Array.replicate_succ, Array.replicate_zero, List.push_toArray, List.append_toArray, List.nil_append, List.cons_append]
  gi_wp2
  refine wpIn_scope_a ?_
  gi_wp2
  refine wpIn_label ?_
  gi_wp2_with fail
  refine ⟨trivial, ?_⟩
  refine (callsIn_wide.2 HK.out).mono ?_
  rintro e w1 ⟨p, v, l, rfl, hp, hh, hpm, hb, hgp, hgv⟩
  rw [← HW0.out] at hb hgp
  rw [← HLL.out] at hpm
  rw [← HNX.out] at hp
  have hT1 := k_later hb HB0.out.2.1
  have hD1 := k_later hb HB0.out.2.2
  have hz0 : w0.heap.size = w.heap.size + 1 + 1 := by rw [HW0.out]; simp
  have hbb := k_then hb HB0.out.1
  have hz1 := hb.size
  have hBox : (w1.alloc (.cells #[.iface 25 (.pointer (some ⟨p, 0, none⟩))] 87)).cell? ⟨w1.heap.size, 0, none⟩ = some (.iface 25 (.pointer (some ⟨p, 0, none⟩))) := (Whole.new w1 _ _).cell 0
  have hb2 : Below w1.heap.size w1 (w1.alloc (.cells #[.iface 25 (.pointer (some ⟨p, 0, none⟩))] 87)) := (Below.refl _ _).alloc (Nat.le_refl _) _
  have hzz : (w1.alloc (.cells #[.iface 25 (.pointer (some ⟨p, 0, none⟩))] 87)).heap.size = w1.heap.size + 1 := by simp
  have HP := Lib.hid (And.intro hp (And.intro hh (And.intro hpm (And.intro hb (And.intro hgp hgv)))))
  have HTD := Lib.hid (And.intro hT1 (And.intro hD1 hbb))
  clear hp hh hpm hb hgp hgv hT1 hD1 hbb HK
  gi_wp2_with (refine ⟨trivial, ?_⟩; gi_at_call 38; refine (byTurns_in _ _ _ _).mono ?_; rintro e w' ⟨rfl, rfl⟩)
  generalize w1.alloc (.cells #[.iface 25 (.pointer (some ⟨p, 0, none⟩))] 87) = w2 at *
  have hp2 := HP.out.1.later hb2
  have hT2 := k_later hb2 HTD.out.1
  have hD2 := k_later hb2 HTD.out.2.1
  have hpl := HP.out.1.whole.lt
  have hvl : ∀ g, v.ownBlock = some g → g < w1.heap.size := own_blk HP.out.1.row
  have nB : ¬ pileT p v w1.heap.size := by
    rintro (e | e)
    · omega
    · have := hvl _ e.symm; omega
  have nT : ¬ pileT p v w.heap.size := by
    rintro (e | e)
    · exact HTD.out.1.apart HP.out.1.whole (by decide) e
    · exact HTD.out.1.not_row (by decide) HP.out.1.row e
  have nD : ¬ pileT p v (w.heap.size + 1) := by
    rintro (e | e)
    · exact HTD.out.2.1.apart HP.out.1.whole (by decide) e
    · exact HTD.out.2.1.not_row (by decide) HP.out.1.row e
  have hTlt : ∀ i, pileT p v i → i < w1.heap.size := by
    rintro i (rfl | e)
    · exact hpl
    · exact hvl i e.symm
  have htl := turns_any 4 (by omega) w1.heap.size p nx v l L w2 hBox nB hp2 HP.out.2.1 HP.out.2.2.1 HSO.out hl
  have fin : ∀ (n D : Nat) (W : World) (vd : Value), w2.heap.size ≤ D → KeptTo w2.heap.size (fun i => i = w.heap.size + 1 ∨ pileT p v i) w2 W → pileE p v nx L n W → W.ownsRow (w2.heap.size + 2) 36 5 vd n (flatV (evs L n)) → UpTo t L n →
      W.heap[D]? = some (.deferred (some [])) → NilDone w (.returned vd) (W.putObj D (.deferred none)) := by
    intro n D W vd hD hKT hE hrow hup hK
    have hkk : Kept (fun i => i = w.heap.size + 1 ∨ pileT p v i) w1 (W.putObj D (.deferred none)) := (Kept.of_below hb2 _).trans (hKT.putObj hD _).kept (fun _ _ h => h)
    obtain ⟨A, c, rfl⟩ := own_slice hrow
    have hn : n = 0 := by have := hup.le; rw [HLL.out] at this; simpa using this
    subst hn
    refine ⟨A, c, rfl, ?_⟩
    have hz0' := HB0.out.1.size
    refine ((Kept.of_below HTD.out.2.2 Empty).trans hkk (fun i hi e => ?_)).below (fun _ _ h => h)
    rcases e with rfl | rfl | e
    · omega
    · have := HP.out.2.2.2.2.1; omega
    · rw [HP.out.2.2.2.2.2] at e; simp [Value.ownBlock] at e
  have FIN := Lib.hid fin
  clear fin
  obtain ⟨i0, hi, hy0, hy1, hy2⟩ := info_parts ev_infos
  refine wpIn_turns (S := fun i => i = w.heap.size + 1) (T := pileT p v) (K := pileK w1.heap.size p v) (fun i h => by omega) (fun i h => by have := hTlt i h; omega)
    (fun i h => by
      rcases h with rfl | h
      · exact ⟨by omega, by omega⟩
      · exact ⟨by have := hTlt i h; omega, fun e => nD (by rw [← e]; exact h)⟩)
    (by omega) (gf := 43) (lb := #[.pointer (some ⟨w1.heap.size, 0, none⟩)]) rfl
    (enters_of Try.func43 (by kernel_rfl) rfl) (encs := encA L) (M := L.length) (fun _ => rfl) (E := pileE p v nx L) pileE_same htl
    (Told w.heap.size (w.heap.size + 1) (w2.heap.size + 2) t L) (fun c k W => c = .exit 0 ∧ Told w.heap.size (w.heap.size + 1) (w2.heap.size + 2) t L (k - 1) W ∧ t < (L.getD (k - 1) default).e.t)
    (fun k a2 W => ∃ Bx, w2.heap.size + 2 ≤ Bx ∧ Whole W Bx 36 (L.getD (k - 1) default).e.cells.toArray ∧ a2 = { tmps := #[.pointer none, .int .i64 t, undef, .pointer (some ⟨w.heap.size, 0, none⟩), .slice none 0 0, .pointer (some ⟨w.heap.size + 1, 0, none⟩), .pointer (some ⟨Bx, 0, none⟩), .pointer none, .pointer (some ⟨p, 0, none⟩), .iface 25 (.pointer (some ⟨p, 0, none⟩)), .func (.func 43) #[] #[.pointer (some ⟨w1.heap.size, 0, none⟩)], .agg (L.getD (k - 1) default).e.cells.toArray, undef, undef, undef, undef, undef, undef, undef, undef, undef], defers := [] })
    ?hI ?hX ?hAx ?h0 ?assign ?body ?done ?stop
  case hI =>
    intro k A B hk hT
    exact hT.kept hk (by rintro (e | e | e); exact nT e; omega; omega) (by rintro (e | e | e); exact nD e; omega; omega) (by
      rintro i hi (e | e | e)
      · have := hTlt i e; omega
      · omega
      · omega)
  case hX =>
    rintro c k A B hk ⟨hc, hT, ht⟩
    exact ⟨hc, hT.kept hk (by rintro (e | e | e); exact nT e; omega; omega) (by rintro (e | e | e); exact nD e; omega; omega) (by
      rintro i hi (e | e | e)
      · have := hTlt i e; omega
      · omega
      · omega), ht⟩
  case hAx =>
    rintro k a2 A B hk ⟨Bx, h1, h2, h3⟩
    exact ⟨Bx, h1, h2.kept hk (by rintro (e | e) <;> omega), h3⟩
  case h0 => exact ⟨hT2, ⟨_, hD2, ⟨rfl, .inl ⟨rfl, rfl⟩⟩⟩, fun j hj => absurd hj (Nat.not_lt_zero _)⟩
  case assign =>
    intro lp k W K hWz hK
    unfold encA
    generalize (L.getD (k - 1) default).e = x at *
    unfold Ev.cells at *
    gi_wp2
    exact hK _ _ ((Below.refl _ W).alloc (Nat.le_refl _) _) ⟨W.heap.size, hWz, Whole.new W _ _, rfl⟩
  case body =>
    rintro lp k W a2 hkM hWz hKT ⟨hTw, ⟨vd, hDw, hrow⟩, hall⟩ ⟨Bx, hBx, hX, rfl⟩
    rw [Nat.add_sub_cancel] at hX ⊢
    obtain ⟨x, hx⟩ : ∃ x, x = (L.getD k default).e := ⟨_, rfl⟩
    rw [← hx] at hX ⊢
    have hX' : Whole W Bx 36 #[.int .i64 x.t, .int .i64 x.k, .int .i64 x.n, .int .i64 x.m, .int .i64 x.v] := hX
    have x0 := hX'.cell 0
    have x1 := hX'.cell 1
    have x2 := hX'.cell 2
    have x3 := hX'.cell 3
    have x4 := hX'.cell 4
    simp at x0 x1 x2 x3 x4
    have ht0 := hTw.cell 0
    have hd0 := hDw.cell 0
    simp at ht0 hd0
    have HI := Lib.hid (And.intro hTw (And.intro hDw (And.intro hrow hall)))
    have HX := Lib.hid hx
    have HZZ := Lib.hid hzz
    clear hTw hDw hall hX hX' hKT hx hT2 hD2 htl hp2 hBox nB nT nD hzz
    by_cases hgt : t < x.t
    · clear hrow
      gi_wp2
      exact ⟨KeptTo.refl _ _ _, rfl, ⟨HI.out.1, ⟨vd, HI.out.2.1, HI.out.2.2.1⟩, HI.out.2.2.2⟩, by rw [Nat.add_sub_cancel, ← HX.out]; exact hgt⟩
    · have hdl := HI.out.2.1.lt
      have hdf := HI.out.2.1.frozen 0
      gi_wp2_with (gi_at_builtin; refine wpListIn_append_own _ rfl (.tmp 16) (.tmp 18) 29 rfl (w2.heap.size + 2) 36 i0 _ 5 40 Try.underlying29 hi hy0 hy1 hy2 rfl (by decide) vd k (flatV (evs L k)) rfl (hrow.alloc _) ⟨W.heap.size, 0, none⟩ 1 1 x.cells rfl rfl (fun j u hu => World.news_of_block (Whole.new W _ _) j u hu) x.cells_one (by simp only [maxLen]; omega) (by omega) (by simp; omega) ?_; intro v' w5 h1 h2 _; have hD5 : Whole w5 (w.heap.size + 1) 29 #[vd] := (HI.out.2.1.alloc _).grown h2 (HI.out.2.1.not_row (by decide) hrow); have hc5 := hD5.cell 0; have hf5 := hD5.frozen 0; simp at hc5; have HG := Lib.hid (And.intro h1 (And.intro h2 hD5)); obtain ⟨g', cap', rfl⟩ := ownsRow_succ h1; clear h1 h2 hD5)
      have hzz := HZZ.out
      exact told_more HX.out hkM (by omega) (by omega) hWz (by omega) (by omega) (by omega) HI.out.1 HI.out.2.2.2 HI.out.2.2.1 HG.out.1 HG.out.2.1 HG.out.2.2
  case done =>
    rintro D W hD hKT ⟨_, ⟨vd, hDw, hrow⟩, hall⟩ hE hK
    have hd0 := hDw.cell 0
    simp at hd0
    have HF := Lib.hid (FIN.out L.length D W vd hD hKT hE hrow ⟨Nat.le_refl _, hall, fun h => absurd h (Nat.lt_irrefl _)⟩ hK)
    clear hDw hrow hall hE hKT hT2 hD2 htl hp2 hBox nB nT nD
    gi_wp2
    refine ⟨by simp, .inl ⟨_, _, rfl, run_takeDeferred hK, ?_⟩⟩
    have hv : ∀ v', v' = vd → NilDone w (.returned v') (W.putObj D (.deferred none)) := by rintro _ rfl; exact HF.out
    exact ⟨_, results_tmp rfl _ _ _, hv _ (by rfl)⟩
  case stop =>
    rintro D c k W hD hk1 hkM hKT ⟨rfl, ⟨_, ⟨vd, hDw, hrow⟩, hall⟩, hgt⟩ hE hK
    have hd0 := hDw.cell 0
    simp at hd0
    have HF := Lib.hid (FIN.out (k - 1) D W vd hD hKT hE hrow ⟨by omega, hall, fun _ => hgt⟩ hK)
    clear hDw hrow hall hE hKT hgt hT2 hD2 htl hp2 hBox nB nT nD
    gi_wp2
    refine ⟨by simp, .inl ⟨_, _, rfl, run_takeDeferred hK, ?_⟩⟩
    have hv : ∀ v', v' = vd → NilDone w (.returned v') (W.putObj D (.deferred none)) := by rintro _ rfl; exact HF.out
    exact ⟨_, results_tmp rfl _ _ _, hv _ (by rfl)⟩
end Go.Proofs.Ytchfponnajednaa
