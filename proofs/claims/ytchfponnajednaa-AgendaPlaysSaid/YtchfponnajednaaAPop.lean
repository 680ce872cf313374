/- Pop of the pile, and first of the list: by contracts. No condition. -/
import Derived.Test.YtchfponnajednaaAPush
import Derived.IntWalk
namespace Go.Proofs.Ytchfponnajednaa
open Go.RowKit Go.Shelf

theorem pop_row {w : World} {p nx : Nat} {v : Value} {l : List En} {z : En} (h : PileAt w p v nx (l ++ [z])) :
    ∃ g cap, v = .slice (some ⟨g, 0, none⟩) (l.length + 1) cap ∧ RowAt w g cap (l ++ [z]) ∧ g ≠ p := by
  have hr := h.row
  rw [List.length_append] at hr
  obtain ⟨_, g, cap, e, hrow⟩ := RowAt.of_own hr (by simp)
  refine ⟨g, cap, e, hrow, ?_⟩
  rintro rfl
  exact h.ne (by rw [e]; rfl)
theorem RowAt.drew {w : World} {g cap : Nat} {l : List En} (h : RowAt w g cap l) : RowAt w.drew g cap l := h.same rfl
theorem RowAt.alloc {w : World} {g cap : Nat} {l : List En} (h : RowAt w g cap l) (o : Obj) : RowAt (w.alloc o) g cap l := h.same (Below.heap_alloc w o g h.lt)

set_option maxRecDepth 100000 in
set_option maxHeartbeats 2000000 in
theorem first_any (w : World) (g cap n : Nat) (x : En) (l : List En) (h : RowAt w g cap (x :: l)) (hn : 0 < n) :
    Calls Try.prog 30 #[.slice (some ⟨g, 0, none⟩) n cap] w fun e w' => e = .returned (.agg x.e.cells.toArray) ∧ Below w.heap.size w w' := by
  obtain ⟨a0, a1, a2, a3, a4, _⟩ := six_of (h.cells 0 x rfl)
  rw [Nat.zero_mul] at a0 a1 a2 a3 a4
  have hg := h.lt
  have e1 : (0 : Int) < (n : Int) := by omega
  have hb : ∀ cs, Below w.heap.size w (w.alloc (.cells cs 36)) := fun cs => (Below.refl _ _).alloc (Nat.le_refl _) _
  have HB := Lib.hid hb
  clear h hb
  go_enter Try.func30, Try.ntmps30
  go_wp2
  exact bodyPost_ret (v := .agg #[.int .i64 x.e.t, .int .i64 x.e.k, .int .i64 x.e.n, .int .i64 x.e.m, .int .i64 x.e.v]) (by simp [results, Try.results30, go_sem]) rfl ⟨rfl, HB.out _⟩

set_option maxRecDepth 100000 in
set_option maxHeartbeats 2000000 in
theorem pop_any (w : World) (p : Nat) (v : Value) (nx : Nat) (l : List En) (z : En) (h : PileAt w p v nx (l ++ [z])) (hl : l.length ≤ 1000000) :
    Calls Try.prog 61 #[.pointer (some ⟨p, 0, none⟩)] w fun e w' => e = .returned (.iface 36 (.agg z.e.cells.toArray)) ∧
      ∃ v', PileAt w' p v' nx l ∧ Kept (fun k => k = p) w w' ∧ v'.ownBlock = v.ownBlock := by
  obtain ⟨g, cap, rfl, hrow, hgp⟩ := pop_row h
  have hc0 := h.cell0
  have hpl := h.whole.lt
  have hg := hrow.lt
  obtain ⟨a0, a1, a2, a3, a4, a5⟩ := six_of (hrow.cells l.length z (by simp))
  have e1 : (0 : Int) ≤ (l.length : Int) := by omega
  have e2 : ((l.length : Int)) < ((l.length + 1 : Nat) : Int) := by omega
  have n0 := World.new_ne w _ hc0
  have m0 := World.new_ne w _ a0
  have m1 := World.new_ne w _ a1
  have m2 := World.new_ne w _ a2
  have m3 := World.new_ne w _ a3
  have m4 := World.new_ne w _ a4
  have m5 := World.new_ne w _ a5
  have H := Lib.hid h
  have HR := Lib.hid hrow
  clear h hrow
  generalize hN : l.length = N at *
  have e3 : (N : Int) < (N : Int) + 1 := by omega
  have e4 : IntKind.i64.wrap ((N : Int) + 1 - 1) = (N : Int) := by rw [Int.add_sub_cancel]; exact IntWalk.i64_in _ (by omega)
  have e5 : IntKind.i64.wrap (N : Int) = (N : Int) := IntWalk.i64_in _ (by omega)
  go_enter Try.func61, Try.ntmps61
  go_wp2
  go_region_held3 (fun w' => w'.cell? ⟨p, 0, none⟩ = some (.slice (some ⟨g, 0, none⟩) (N + 1) cap) ∧ w'.cell? ⟨g, N * 6, none⟩ = some (.int .i64 z.e.t) ∧ w'.cell? ⟨g, N * 6 + 1, none⟩ = some (.int .i64 z.e.k) ∧ w'.cell? ⟨g, N * 6 + 2, none⟩ = some (.int .i64 z.e.n) ∧ w'.cell? ⟨g, N * 6 + 3, none⟩ = some (.int .i64 z.e.m) ∧ w'.cell? ⟨g, N * 6 + 4, none⟩ = some (.int .i64 z.e.v) ∧ w'.cell? ⟨g, N * 6 + 5, none⟩ = some (.int .u64 (z.u : Int))) (go_keep)
    (first | (go_at_call 29; refine (len_any _ _ _ _).mono ?_; rintro e w' ⟨rfl, rfl⟩))
  all_goals
    have hb : Below w.heap.size w (w.alloc (.cells #[.int .i64 z.e.t, .int .i64 z.e.k, .int .i64 z.e.n, .int .i64 z.e.m, .int .i64 z.e.v, .int .u64 (z.u : Int)] 70)).drew := below_drewN ((Below.refl _ _).alloc (Nat.le_refl _) _) 1
    have hW : Whole (w.alloc (.cells #[.int .i64 z.e.t, .int .i64 z.e.k, .int .i64 z.e.n, .int .i64 z.e.m, .int .i64 z.e.v, .int .u64 (z.u : Int)] 70)).drew w.heap.size 70 #[.int .i64 z.e.t, .int .i64 z.e.k, .int .i64 z.e.n, .int .i64 z.e.m, .int .i64 z.e.v, .int .u64 (z.u : Int)] := Whole.new w _ _
    have hP := H.out.later hb
    generalize (w.alloc (.cells #[.int .i64 z.e.t, .int .i64 z.e.k, .int .i64 z.e.n, .int .i64 z.e.m, .int .i64 z.e.v, .int .u64 (z.u : Int)] 70)).drew = W at *
    have hR := HR.out.later hb
    clear hc0 a0 a1 a2 a3 a4 a5 n0 m0 m1 m2 m3 m4 m5 H HR e1 e2
    have c0 := hP.cell0
    have c1 := hP.whole.frozen 0
    have b0 := hW.cell 0
    have b1 := hW.cell 1
    have b2 := hW.cell 2
    have b3 := hW.cell 3
    have b4 := hW.cell 4
    simp at b0 b1 b2 b3 b4
    have hne : w.heap.size ≠ p := by omega
    have e6 : (N : Int) ≤ (cap : Int) := by have := hR.fits; simp at this; omega
    have e7 : (0 : Int) ≤ (N : Int) := by omega
    have fin : ∃ v', PileAt (W.drew.setCell ⟨p, 0, none⟩ (.slice (some ⟨g, 0, none⟩) N cap)) p v' nx l ∧ Kept (fun k => k = p) w (W.drew.setCell ⟨p, 0, none⟩ (.slice (some ⟨g, 0, none⟩) N cap)) ∧ v'.ownBlock = (Value.slice (some ⟨g, 0, none⟩) (N + 1) cap).ownBlock := by
      have k1 : Kept (fun k => k = p) W (W.drew.setCell ⟨p, 0, none⟩ (.slice (some ⟨g, 0, none⟩) N cap)) := Kept.setCell (S := fun k => k = p) ((Kept.refl _ W).drew) (p := ⟨p, 0, none⟩) (.inl rfl) _
      have hr2 := hR.take l.length
      rw [List.take_left] at hr2
      have hr3 := (hr2.kept k1 hgp).own
      rw [hN] at hr3
      exact ⟨_, ⟨(hP.whole.drew).set 0 _, by rw [hN]; exact hr3⟩, (Kept.of_below hb _).trans k1 (fun i _ h => h), rfl⟩
    have HF := Lib.hid fin
    clear fin hR hP hW hb hN
    go_wp2
    go_region_with (go_at_call 29; refine (len_any _ _ _ _).mono ?_; rintro e w' ⟨rfl, rfl⟩)
    all_goals go_wp2
    all_goals go_ret
    all_goals exact ⟨rfl, HF.out⟩
end Go.Proofs.Ytchfponnajednaa
