/- A capture's List, by its contract. No condition. -/
import Derived.Test.YtjgbgakdnapdhaaECount
namespace Go.Proofs.Ytjgbgakdnapdhaa
open Go.RowKit Go.Shelf
attribute [local go_sem] Oper.semAt_some

/-- A row of one's own that was made since. -/
def NewRow {α : Type} (cells : α → List Value) (k : Nat) (t : TypeId) (xs : List α) (w : World) (e : Ending) (w' : World) : Prop :=
  ∃ v, e = .returned v ∧ w'.ownsRow w.heap.size t k v xs.length (xs.flatMap cells) ∧ Below w.heap.size w w'
theorem i_dev : (Try.prog.info? 51).map (fun i => (i.zero, i.size, i.bytes)) = some (some (.agg #[.int .i64 0, .int .i64 0]), 2, 16) := by kernel_rfl
theorem deC_one : ∀ (d : De), ∀ u ∈ deC d, u.oneCell' = true := by
  intro d u hu
  simp only [deC, List.mem_cons, List.not_mem_nil, or_false] at hu
  rcases hu with rfl | rfl <;> rfl
theorem ownsRow_putObj {w : World} {b D k n : Nat} {e : TypeId} {v : Value} {xs : List Value} {o o' : Obj} (h : w.ownsRow b e k v n xs) (hD : w.heap[D]? = some o') (ho : ∀ cs t p, o' ≠ .cells cs t p) : (w.putObj D o).ownsRow b e k v n xs := by
  refine ⟨h.1, ?_⟩
  rcases h.2 with h0 | ⟨g, cap, cur, rfl, hb, hgb, h3⟩
  · exact .inl h0
  · exact .inr ⟨g, cap, cur, rfl, hb, (World.putObj_heap_other (fun e => by rw [e, hD] at hgb; exact ho _ _ _ (by simpa using hgb))).trans hgb, h3⟩
theorem own_low {w : World} {b b' k n : Nat} {e : TypeId} {v : Value} {xs : List Value} (h : w.ownsRow b e k v n xs) (hb : b' ≤ b) : w.ownsRow b' e k v n xs := by
  refine ⟨h.1, ?_⟩
  rcases h.2 with h0 | ⟨g, cap, cur, e, h1, h3⟩
  · exact .inl h0
  · exact .inr ⟨g, cap, cur, e, by omega, h3⟩
/-- Between two rounds: the first k are in the row. -/
def Listed {α : Type} (cells : α → List Value) (kk : Nat) (t ts : TypeId) (d base : Nat) (L : List α) (k : Nat) (W : World) : Prop :=
  ∃ v, Whole W d ts #[v] ∧ W.ownsRow base t kk v k ((L.take k).flatMap cells)
theorem Listed.kept {α : Type} {cells : α → List Value} {kk : Nat} {t ts : TypeId} {d base k : Nat} {L : List α} {A B : World} {R : Nat → Prop} (h : Listed cells kk t ts d base L k A) (hk : Kept R A B) (h2 : ¬ R d) (h3 : ∀ i, base ≤ i → ¬ R i) : Listed cells kk t ts d base L k B := by
  obtain ⟨v, b, c⟩ := h
  exact ⟨v, b.kept hk h2, own_kept c hk (fun g hg => h3 g (own_typed c hg).1)⟩
/-- A round that lays one more. -/
theorem listed_more {α : Type} [Inhabited α] {cells : α → List Value} {kk : Nat} {t ts : TypeId} {W w5 : World} {d base k N : Nat} {L : List α} {vd v' : Value} {o : Obj} {x : α} (hx : x = L.getD k default) (hk : k < L.length) (hbase : N ≤ base) (hN : N ≤ W.heap.size) (hdb : d < base)
    (hr : W.ownsRow base t kk vd k ((L.take k).flatMap cells)) (h1 : w5.ownsRow base t kk v' (k + 1) ((L.take k).flatMap cells ++ cells x)) (h2 : (W.alloc o).grownBy w5 vd.ownBlock) (h3 : Whole w5 d ts #[vd]) :
    KeptTo N (fun i => i = d) W (w5.setCell ⟨d, 0, none⟩ v') ∧ Listed cells kk t ts d base L (k + 1) (w5.setCell ⟨d, 0, none⟩ v') := by
  have hlo : ∀ i, some i = vd.ownBlock → base ≤ i := fun i hi => (own_typed hr hi.symm).1
  have k0 : Kept (fun i => i = d ∨ some i = vd.ownBlock) W w5 := ((Kept.refl _ W).alloc o).grown h2 (fun i hi => .inl (.inr hi.symm))
  have k5 : Kept (fun i => i = d) w5 (w5.setCell ⟨d, 0, none⟩ v') := Kept.setCell (S := fun i => i = d) (Kept.refl _ w5) (p := ⟨d, 0, none⟩) (.inl rfl) _
  have k1 : Kept (fun i => i = d ∨ some i = vd.ownBlock) W (w5.setCell ⟨d, 0, none⟩ v') := k0.trans k5 (fun i _ h => .inl h)
  refine ⟨keptTo_of k1 hN (fun i hi hr => ?_), ⟨v', h3.set 0 v', ?_⟩⟩
  · rcases hr with e | e
    · exact e
    · have := hlo i e; omega
  · have e : (L.take (k + 1)).flatMap cells = (L.take k).flatMap cells ++ cells x := by
      rw [hx, List.take_add_one, List.flatMap_append, List.getD_eq_getElem?_getD, List.getElem?_eq_getElem hk]
      simp
    rw [e]
    exact own_kept h1 k5 (fun g hg e => by have := (own_typed h1 hg).1; omega)

set_option maxRecDepth 100000 in
set_option maxHeartbeats 4000000 in
theorem list_any {w : World} {c : Option Addr} {L : List De} (h : SrcE w c L) : Calls Try.prog 12 #[.pointer c] w (NewRow deC 2 51 L w) := by
  obtain ⟨w1, hw1⟩ : ∃ w1, w1 = w.alloc (.cells #[.slice none 0 0] 43) := ⟨_, rfl⟩
  have hb1 : Below w.heap.size w w1 := by rw [hw1]; exact (Below.refl _ _).alloc (Nat.le_refl _) _
  have hW1 : Whole w1 w.heap.size 43 #[.slice none 0 0] := by rw [hw1]; exact Whole.new _ _ _
  have hz1 : w1.heap.size = w.heap.size + 1 := by rw [hw1]; simp
  obtain ⟨w2, hw2⟩ : ∃ w2, w2 = w1.alloc (.cells #[.pointer c] 24) := ⟨_, rfl⟩
  have hb2 : Below w1.heap.size w1 w2 := by rw [hw2]; exact (Below.refl _ _).alloc (Nat.le_refl _) _
  have hW2 : Whole w2 w1.heap.size 24 #[.pointer c] := by rw [hw2]; exact Whole.new _ _ _
  have hz2 : w2.heap.size = w1.heap.size + 1 := by rw [hw2]; simp
  have hs2 := h.later (k_then hb2 hb1)
  have hle := h.len
  have htl := turnsD 4 (by omega) w1.heap.size c L w2 (hW2.cell 0) hs2
  rw [hz1] at htl
  have HT := Lib.hid htl
  have HB := Lib.hid (And.intro (k_then hb2 hb1) (k_later hb2 hW1))
  have HW1 := Lib.hid hw1
  have HW2 := Lib.hid hw2
  clear h hw1 hb1 hW1 hw2 hb2 hW2 hs2 htl
  refine (callsIn_wide (n := 5)).1 ?_
  refine callsIn_of_wp_marks Try.func12 rfl trivial ?_ rfl
  simp only [Try.ntmps12, List.size_toArray, List.length_cons, List.length_nil, Nat.reduceAdd, Nat.reduceSub, Array.replicate_succ, Array.replicate_zero, List.push_toArray, List.append_toArray, List.nil_append, List.cons_append]
  gi_wp2_with (refine ⟨trivial, ?_⟩; gi_at_call 31; refine (noted_in _ _ _).mono ?_; rintro e w' ⟨rfl, hw'⟩; rw [← HW1.out, ← HW2.out] at hw'; have HW3 := Lib.hid hw'; clear hw')
  rw [HW3.out]
  obtain ⟨i0, hi, hy0, hy1, hy2⟩ := info_parts i_dev
  refine wpIn_turns (S := fun i => i = w.heap.size) (T := Nothing) (K := Nothing) (fun i h => by omega) (fun i h => h.elim) (fun i h => h.elim) (by omega) (gf := 35) (lb := #[.pointer (some ⟨w.heap.size + 1, 0, none⟩)]) rfl
    (enters_of Try.func35 (by kernel_rfl) rfl) (encs := encD L) (M := L.length) (fun _ => rfl) (E := fun _ _ => True) (fun _ _ _ _ h => h) HT.out
    (Listed deC 2 51 43 w.heap.size (w2.heap.size + 2) L) (fun _ _ _ => False)
    (fun k a2 W => a2 = { tmps := #[.pointer c, undef, .slice none 0 0, .pointer (some ⟨w.heap.size, 0, none⟩), .int .i64 ((L.getD (k - 1) default).n : Int), .int .i64 (L.getD (k - 1) default).v, .pointer c, .func (.func 35) #[] #[.pointer (some ⟨w.heap.size + 1, 0, none⟩)], .int .i64 ((L.getD (k - 1) default).n : Int), .int .i64 (L.getD (k - 1) default).v, undef, undef, undef, undef, undef, undef, undef], defers := [] })
    ?hI ?hX ?hAx ?h0 ?assign ?body ?done ?stop
  case hI =>
    intro k A B hk hT
    exact hT.kept hk (by rintro (e | e | e); exact e.elim; omega; omega) (by
      rintro i hi (e | e | e)
      · exact e.elim
      · omega
      · omega)
  case hX => exact fun _ _ _ _ _ h => h
  case hAx => exact fun _ _ _ _ _ h => h
  case h0 => exact ⟨_, HB.out.2, ⟨rfl, .inl ⟨rfl, rfl⟩⟩⟩
  case assign =>
    intro lp k W K hWz hK
    unfold encD
    gi_wp2
    exact hK _ _ (Below.refl _ W) rfl
  case body =>
    rintro lp k W a2 hkM hWz hKT ⟨vd, hDw, hrow⟩ rfl
    rw [Nat.add_sub_cancel]
    obtain ⟨x, hx⟩ : ∃ x, x = L.getD k default := ⟨_, rfl⟩
    rw [← hx]
    have hd0 := hDw.cell 0
    have hdf := hDw.frozen 0
    have hdl := hDw.lt
    simp at hd0
    have HI := Lib.hid (And.intro hDw hrow)
    have HX := Lib.hid hx
    have hkl : k ≤ 16 := by omega
    clear hDw hKT hx HT
    gi_wp2_with (gi_at_builtin; refine wpListIn_append_own _ rfl (.tmp 10) (.tmp 14) 43 rfl (w2.heap.size + 2) 51 i0 _ 2 16 Try.underlying43 hi hy0 hy1 hy2 rfl (by decide) vd k ((L.take k).flatMap deC) rfl (hrow.alloc _) ⟨W.heap.size, 0, none⟩ 1 1 (deC x) rfl rfl (fun j u hu => World.news_of_block (Whole.new W _ _) j u hu) (deC_one x) (by simp only [maxLen]; omega) (by omega) (by simp; omega) ?_; intro v' w5 h1 h2 _; have hD5 : Whole w5 w.heap.size 43 #[vd] := (HI.out.1.alloc _).grown h2 (HI.out.1.not_row (by decide) hrow); have hc5 := hD5.cell 0; have hf5 := hD5.frozen 0; simp at hc5; have HG := Lib.hid (And.intro h1 (And.intro h2 hD5)); obtain ⟨g', cap', rfl⟩ := ownsRow_succ h1; clear h1 h2 hD5)
    exact listed_more HX.out hkM (by omega) hWz (by omega) HI.out.2 HG.out.1 HG.out.2.1 HG.out.2.2
  case done =>
    rintro D W hD hKT ⟨vd, hDw, hrow⟩ _ hDD
    have hc := hDw.cell 0
    simp at hc
    have HF := Lib.hid (show Below w.heap.size w (W.putObj D (.deferred none)) from below_on HB.out.1 (hKT.putObj hD (.deferred none)).kept (fun i e => by rcases e with e | e; omega; exact e.elim) HB.out.1.size)
    have HR := Lib.hid (own_low (b' := w.heap.size) (ownsRow_putObj (o := .deferred none) hrow hDD (fun _ _ _ e => by cases e)) (by omega))
    clear hDw hrow hKT HT
    gi_wp2
    refine ⟨by simp, .inl ⟨_, _, rfl, run_takeDeferred hDD, ?_⟩⟩
    refine ⟨_, results_tmp rfl _ _ _, vd, rfl, ?_, HF.out⟩
    have := HR.out
    rw [List.take_length] at this
    exact this
  case stop =>
    rintro D cc k W hD hk1 hkM hKT hX
    exact hX.elim
end Go.Proofs.Ytjgbgakdnapdhaa
