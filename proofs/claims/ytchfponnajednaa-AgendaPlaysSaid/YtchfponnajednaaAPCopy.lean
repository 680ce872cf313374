/- The document's agenda: Copy. No condition. -/
import Derived.Test.YtchfponnajednaaAPUnt
import Derived.Deep.DrawnRows
namespace Go.Proofs.Ytchfponnajednaa
open Go.RowKit Go.Shelf
attribute [local go_sem ↓] Go.wp_at_zero Go.wp_at_succ

theorem step_append_evs {P : Program} {ops : Array Oper} {o : Oper} {a : Act} {w : World} {K : Act → World → Prop} {Q : Exit → Act → World → Prop} {E : Prop} (hgd : o.guard = none) (s x : Operand) (t : TypeId)
    (ho : o.op = .call { callee := .builtin .append, args := #[s, x], argTypes := #[t, t] })
    (e : TypeId) (i : TypeInfo) (z : Value) (ht : P.underlying t = some (.slice e)) (hi : P.info? e = some i) (hz : i.zero = some z) (hsize : i.size = 5) (hby : i.bytes = 40) (hzs : z.cells.size = 5)
    (v : Value) (n : Nat) (xs : List Value) (hs : a.eval s = v) (hown : w.ownsRow 0 e 5 v n xs)
    (A : Option Addr) (m c : Nat) (l : List Ev) (hx : a.eval x = .slice A m c) (hr : VSrc w A m l) (hlen : n + m ≤ 1000000)
    (h : ∀ v' w', w'.ownsRow 0 e 5 v' (n + m) (xs ++ flatV l) → w.grownBy w' v.ownBlock → (v'.ownBlock = v.ownBlock ∨ v'.ownBlock = some w.heap.size) → K (a.put o.dst v') w') :
    if Region.wanted o (yielded ops a.tmps) = true then Oper.wp P o a w K Q else E := by
  have hw : Region.wanted o (yielded ops a.tmps) = true := by simp [Region.wanted, hgd]
  rw [if_pos hw]
  obtain ⟨v', w', hrun, h2, h3, h4⟩ := run_append_evs (P := P) w t o.type e i z ht hi hz hsize hby hzs v n xs hown A m c l hr hlen
  unfold Oper.wp execOp
  simp only [ho, resolve, invoke, builtin, Sem.run_bind, Sem.run_pure, Result.andThen_ok, List.map_toArray, List.map_cons, List.map_nil, hs, hx, hrun]
  exact h v' w' h2 h3 h4
theorem RowV.nilCap {W : World} {A : Option Addr} {n c : Nat} {es : List Ev} (h : RowV W A n c es) (hA : A = none) : c = 0 := by
  subst hA
  rcases h.2 with ⟨e, _⟩ | ⟨g, cap, cur, e, _⟩
  · simp at e; omega
  · simp at e
theorem refCopy_fin {w W0 w5 : World} {B : Option Addr} {d : Nat} {es : List Ev} (hz : W0.heap.size = w.heap.size + 1) (hb0 : Below w.heap.size w W0)
    (h : w5.ownsRow 0 36 5 (.slice B es.length d) es.length (flatV es) ∧ Below W0.heap.size W0 w5 ∧ ((Value.slice B es.length d).ownBlock = (Value.slice none 0 0).ownBlock ∨ (Value.slice B es.length d).ownBlock = some W0.heap.size))
    (hW : Whole w5 w.heap.size 31 #[.slice none 0 0]) :
    RefAt (w5.setCell ⟨w.heap.size, 0, none⟩ (.slice B es.length d)) w.heap.size B d es ∧ Below w.heap.size w (w5.setCell ⟨w.heap.size, 0, none⟩ (.slice B es.length d)) ∧ ∀ k, blk B k → w.heap.size ≤ k := by
  obtain ⟨h1, h2, h3⟩ := h
  have hr : RowV w5 B es.length d es := h1
  have hB : ∀ k, blk B k → k = w.heap.size + 1 := fun k hk => by
    have e := RowV.blk_own (n := es.length) (c := d) hk
    rcases h3 with h3 | h3
    · rw [e] at h3; cases h3
    · rw [e] at h3; injection h3 with h3; omega
  have k1 : Kept (fun k => k = w.heap.size) w5 (w5.setCell ⟨w.heap.size, 0, none⟩ (.slice B es.length d)) := Kept.setCell (S := fun k => k = w.heap.size) (Kept.refl _ w5) (p := ⟨w.heap.size, 0, none⟩) (.inl rfl) _
  refine ⟨⟨hW.set 0 _, hr.src.kept k1 (fun ad e he => ?_), hr.cap, hr.nilCap, fun hk => ?_, fun k hk => Nat.lt_of_lt_of_le (hr.lt hk) k1.size⟩, (k_then h2 hb0).setCell (p := ⟨w.heap.size, 0, none⟩) (Nat.le_refl _) _, fun k hk => by have := hB k hk; omega⟩
  · have h4 := hB ad.block ⟨ad, e, rfl⟩
    have h5 : ad.block = w.heap.size := he
    omega
  · have := hB _ hk; omega
set_option maxRecDepth 100000 in
set_option maxHeartbeats 4000000 in
theorem refCopy_any (w : World) (rr : Nat) (A : Option Addr) (c : Nat) (es : List Ev) (h : RefAt w rr A c es) (hl : es.length ≤ 1000000) :
    Calls Try.prog 27 #[.pointer (some ⟨rr, 0, none⟩)] w fun e w' => ∃ r2 B d, e = .returned (.pointer (some ⟨r2, 0, none⟩)) ∧ RefAt w' r2 B d es ∧ Below w.heap.size w w' ∧ w.heap.size ≤ r2 ∧ ∀ k, blk B k → w.heap.size ≤ k := by
  have hb : Below w.heap.size w (w.alloc (.cells #[.slice none 0 0] 31)) := (Below.refl _ _).alloc (Nat.le_refl _) _
  have hW := Whole.new w 31 #[.slice none 0 0]
  have h0 := h.later hb
  have hr := h0.whole.cell 0
  have hc := hW.cell 0
  have hcf := hW.frozen 0
  simp at hr hc
  obtain ⟨N, hN⟩ : ∃ N, N = es.length := ⟨_, rfl⟩
  rw [← hN] at hr hl
  have hrl := h.whole.lt
  have hn1 : ¬ w.heap.size = rr := by omega
  have hn2 : ¬ rr = w.heap.size := by omega
  have HN := Lib.hid hN
  have H0 := Lib.hid h0
  have HB := Lib.hid hb
  have HW := Lib.hid hW
  obtain ⟨i0, hi, hy0, hy1, hy2⟩ := info_parts ev_infos
  have HS := Lib.hid (show VSrc _ A N es by rw [hN]; exact h0.src)
  clear h h0 hb hW hN hrl
  go_enter Try.func27, Try.ntmps27
  go_upto_region 2 with fail
  go_region_law ((refine step_append_evs (by rfl) (.tmp 10) (.tmp 14) 29 (by rfl) 36 i0 _ Try.underlying29 hi hy0 hy1 hy2 (by rfl) (.slice none 0 0) 0 (flatV []) (by rfl) (by exact RowV.nil _) A N c es (by rfl) (by exact HS.out) (by omega) ?_; intro v' w5 h1 h2 h3; rw [← flatV_append, List.nil_append, Nat.zero_add] at h1; obtain ⟨B, d, rfl⟩ := own_slice h1; have HR := Lib.hid (And.intro h1 (And.intro (((Kept.refl Empty _).grown h2 (fun k hk => by cases hk)).below (fun _ _ h => h)) h3)); have hW5 : Whole w5 w.heap.size 31 #[.slice none 0 0] := k_later HR.out.2.1 (by exact HW.out); have HW5 := Lib.hid hW5; have hc5 := hW5.cell 0; have hf5 := hW5.frozen 0; simp at hc5; clear h1 h2 h3 hW5))
  all_goals go_wp2
  all_goals go_ret
  all_goals obtain rfl := HN.out
  all_goals have hfin := refCopy_fin (w := w) (by simp) (below_drewN HB.out 1) HR.out HW5.out
  all_goals exact ⟨_, B, d, rfl, hfin.1, hfin.2.1, Nat.le_refl _, hfin.2.2⟩
end Go.Proofs.Ytchfponnajednaa
