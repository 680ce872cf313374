/- The program's spans of a script's numbers, by contracts. No condition. -/
import Derived.Deep.RegionHeld3
import Derived.Test.YtljcaigaofalbaaQL
import Derived.Test.YtljcaigaofalbaaQI
namespace Go.Proofs.Ytljcaigaofalbaa
open Go.RowKit Go.Shelf

def hasB (lo hi n : Int) : Bool := decide (lo ≤ n) && decide (n ≤ hi)
theorem has_any (wd lo hi n : Int) (w : World) : Calls Try.prog 94 #[.agg #[.int .i64 wd, .int .i64 lo, .int .i64 hi], .int .i64 n] w fun e w' => e = .returned (.bool (hasB lo hi n)) ∧ Below w.heap.size w w' := by
  have HB := Lib.hid ((Below.refl w.heap.size w).alloc (Nat.le_refl _) (.cells #[.int .i64 wd, .int .i64 lo, .int .i64 hi] 72))
  have hz := bool_or (z := hasB lo hi n) (C := lo ≤ n ∧ n ≤ hi) (by simp [hasB])
  generalize hasB lo hi n = z at *
  have HZ := Lib.hid hz
  clear hz
  go_enter Try.func94, Try.ntmps94
  go_wp2
  all_goals
    refine bodyPost_ret (v := .bool z) (by
      have hz := HZ.out
      simp only [results, Try.results94, go_sem]
      rcases hz with ⟨rfl, hz⟩ | ⟨rfl, hz⟩ <;> simp <;> omega) rfl ⟨rfl, HB.out⟩


theorem pl16 {W : World} {g : Nat} {t : TypeId} {x : Pl} (h : Whole W g t x.cells) : W.cell? ⟨g, 0, none⟩ = some (.int .i64 x.nodes) ∧ W.cell? ⟨g, 1, none⟩ = some (.int .i64 x.kk) ∧ W.cell? ⟨g, 2, none⟩ = some (.int .i64 x.slot) ∧ W.cell? ⟨g, 3, none⟩ = some (.int .i64 x.sendOff) ∧ W.cell? ⟨g, 4, none⟩ = some (.int .i64 x.window) ∧ W.cell? ⟨g, 5, none⟩ = some (.int .i64 x.air) ∧ W.cell? ⟨g, 6, none⟩ = some (.int .i64 x.dmin) ∧ W.cell? ⟨g, 7, none⟩ = some (.int .i64 x.dmax) ∧ W.cell? ⟨g, 8, none⟩ = some (.int .i64 x.rho) ∧ W.cell? ⟨g, 9, none⟩ = some (.int .i64 x.pi) ∧ W.cell? ⟨g, 10, none⟩ = some (.int .i64 x.cap) ∧ W.cell? ⟨g, 11, none⟩ = some (.int .i64 x.delta) ∧ W.cell? ⟨g, 12, none⟩ = some (.int .i64 x.queue) ∧ W.cell? ⟨g, 13, none⟩ = some (.int .i64 x.burst) ∧ W.cell? ⟨g, 14, none⟩ = some (.int .i64 x.payload) ∧ W.cell? ⟨g, 15, none⟩ = some (.int .i64 x.horizon) :=
  ⟨h.cell 0, h.cell 1, h.cell 2, h.cell 3, h.cell 4, h.cell 5, h.cell 6, h.cell 7, h.cell 8, h.cell 9, h.cell 10, h.cell 11, h.cell 12, h.cell 13, h.cell 14, h.cell 15⟩
/-- A span: width, least, most. -/
def spC (wd : Int) (lo hi : Int) : List Value := [.int .i64 wd, .int .i64 lo, .int .i64 hi]
def spansC (x : Pl) : Array Value := #[.int .i64 x.nodes, .int .i64 4, .int .i64 (65536 - drL x), .int .i64 (65536 + drL x), .int .i64 4, .int .i64 (-1), .int .i64 (lateL x), .int .i64 2, .int .i64 0, .int .i64 256,
  .int .i64 4, .int .i64 0, .int .i64 (x.dmax - x.dmin), .int .i64 1, .int .i64 0, .int .i64 3, .int .i64 1, .int .i64 0, .int .i64 (x.nodes - 1), .int .i64 4, .int .i64 0, .int .i64 x.horizon,
  .int .i64 1, .int .i64 0, .int .i64 255, .int .i64 2, .int .i64 0, .int .i64 65535, .int .i64 1, .int .i64 0, .int .i64 x.nodes, .int .i64 1, .int .i64 1, .int .i64 3, .int .i64 1, .int .i64 0, .int .i64 1]
/-- A box of spans. -/
def SpAt (w : World) (g : Nat) (x : Pl) : Prop := Whole w g 80 (spansC x)

set_option maxRecDepth 100000 in
set_option maxHeartbeats 4000000 in
theorem spansOf_any (x : Pl) (w : World) (hf : failsL x 11 = 0) : Calls Try.prog 47 #[.agg x.cells] w fun e w' => ∃ g, e = .returned (.pointer (some ⟨g, 0, none⟩)) ∧ w.heap.size ≤ g ∧ SpAt w' g x ∧ Below w.heap.size w w' := by
  have hP := okp_of hf
  have h3 : failsL x 3 = 0 := by
    refine failsL_of (.inl ⟨rfl, fun j a b => ?_⟩) (by omega)
    rcases failsL_first x (Nat.le_refl 11) with ⟨_, h2⟩ | ⟨h1, _⟩
    · exact h2 j a (by omega)
    · omega
  have hr := fun W => Round_any x W
  unfold roundL at hr
  rw [if_pos h3] at hr
  have HR := Lib.hid hr
  have HB := Lib.hid ((Below.refl w.heap.size w).alloc (Nat.le_refl _) (.cells x.cells 23))
  have HX := Lib.hid (Whole.new w 23 x.cells)
  have hdr := hP.drift
  have hrd := hP.round
  have r1 := hP.r1
  have r2 := hP.r2
  have e0 : (65536 : Int).tdiv x.rho = drL x := Int.tdiv_eq_ediv_of_nonneg (by omega)
  have HD := Lib.hid (show lateL x = 4 * rdL x from rfl)
  have n1 := hP.n1
  have n2 := hP.n2
  have d1 := hP.d1
  have d2 := hP.d2
  have d3 := hP.d3
  have v1 : IntKind.i64.wrap (65536 - drL x) = 65536 - drL x := IntWalk.i64_in _ (by omega)
  have v2 : IntKind.i64.wrap (65536 + drL x) = 65536 + drL x := IntWalk.i64_in _ (by omega)
  have v3 : IntKind.i64.wrap (4 * rdL x) = 4 * rdL x := IntWalk.i64_in _ (by omega)
  have v4 : IntKind.i64.wrap (x.dmax - x.dmin) = x.dmax - x.dmin := IntWalk.i64_in _ (by omega)
  have v5 : IntKind.i64.wrap (x.nodes - 1) = x.nodes - 1 := IntWalk.i64_in _ (by omega)
  obtain ⟨⟨p0, p1, p2, p3⟩, ⟨p4, p5, p6, p7⟩, ⟨p8, p9, p10, p11⟩, ⟨p12, p13, p14, p15⟩, _⟩ := l_cells (Whole.new w 23 x.cells)
  clear hr h3 hf hP
  obtain ⟨w0, hw0⟩ : ∃ w0, w0 = w.alloc (.cells x.cells 23) := ⟨_, rfl⟩
  go_enter Try.func47, Try.ntmps47
  go_upto_region 2 with fail
  rw [← hw0]
  have HX0 := Lib.hid (show Whole w0 w.heap.size 23 x.cells by rw [hw0]; exact HX.out)
  have HB0 := Lib.hid (show Below w.heap.size w w0 by rw [hw0]; exact HB.out)
  have HXd := Lib.hid (HX0.out.drew)
  clear p0 p1 p2 p3 p4 p5 p6 p7 p8 p9 p10 p11 p12 p13 p14 p15 hw0 HX HB
  have HDD := HD.out
  go_region_held3 (fun w' => w'.cell? ⟨w.heap.size, 0, none⟩ = some (.int .i64 x.nodes) ∧ w'.cell? ⟨w.heap.size, 1, none⟩ = some (.int .i64 x.kk) ∧ w'.cell? ⟨w.heap.size, 2, none⟩ = some (.int .i64 x.slot) ∧ w'.cell? ⟨w.heap.size, 3, none⟩ = some (.int .i64 x.sendOff) ∧ w'.cell? ⟨w.heap.size, 4, none⟩ = some (.int .i64 x.window) ∧ w'.cell? ⟨w.heap.size, 5, none⟩ = some (.int .i64 x.air) ∧ w'.cell? ⟨w.heap.size, 6, none⟩ = some (.int .i64 x.dmin) ∧ w'.cell? ⟨w.heap.size, 7, none⟩ = some (.int .i64 x.dmax) ∧ w'.cell? ⟨w.heap.size, 8, none⟩ = some (.int .i64 x.rho) ∧ w'.cell? ⟨w.heap.size, 9, none⟩ = some (.int .i64 x.pi) ∧ w'.cell? ⟨w.heap.size, 10, none⟩ = some (.int .i64 x.cap) ∧ w'.cell? ⟨w.heap.size, 11, none⟩ = some (.int .i64 x.delta) ∧ w'.cell? ⟨w.heap.size, 12, none⟩ = some (.int .i64 x.queue) ∧ w'.cell? ⟨w.heap.size, 13, none⟩ = some (.int .i64 x.burst) ∧ w'.cell? ⟨w.heap.size, 14, none⟩ = some (.int .i64 x.payload) ∧ w'.cell? ⟨w.heap.size, 15, none⟩ = some (.int .i64 x.horizon)) (first | exact pl16 HXd.out | exact pl16 HX1.out | go_keep) (first
    | (go_at_call 31; refine (HR.out _).mono ?_; rintro e w1 ⟨rfl, hb1⟩; have HX1 := Lib.hid (k_later hb1 HXd.out); have HB1 := Lib.hid (k_then hb1 (below_drewN HB0.out 1))))
  all_goals
    go_wp2
    have hz1 := HB1.out.size
    refine bodyPost_ret (v := .pointer (some ⟨w1.heap.size, 0, none⟩)) (by simp [results, Try.results47, go_sem]) rfl ⟨w1.heap.size, rfl, hz1, ?_, HB1.out.alloc hz1 _⟩
    unfold SpAt spansC
    rw [HD.out]
    exact Whole.new _ _ _
end Go.Proofs.Ytljcaigaofalbaa
