/- Fails, Check, Round, Numbers: by contracts. No condition. | The document's Fails and the words it stands on, by contracts. No condition. -/
import Derived.Test.YtljcaigaofalbaaQF
import Derived.Test.YtljcaigaofalbaaQA
namespace Go.Proofs.Ytljcaigaofalbaa
open Go.RowKit Go.Shelf

def chkL (x : Pl) : Int := if failsL x 11 = 0 then 0 else 70
def roundL (x : Pl) : Int := if failsL x 3 = 0 then rdL x else 0
def numE (x : Pl) : Int := if failsL x 3 = 0 then eL x else 0
def numG (x : Pl) : Int := if failsL x 3 = 0 then gL x else 0
def numA (x : Pl) : Int := if failsL x 3 = 0 then aL x else 0
theorem tick_fails {x : Pl} {last : Nat} (hl : 3 ≤ last) (hm : last ≤ 11) (h : failsL x last = 0) : TickL x := by
  have := failsL_first x hm
  rw [h] at this
  rcases this with ⟨_, k⟩ | ⟨k, _⟩
  · exact tick_three (k 1 (by omega) (by omega)) (k 2 (by omega) (by omega)) (k 3 (by omega) (by omega))
  · omega

theorem fails11 {x : Pl} {g : Nat} {t : TypeId} (w : World) (hW : Whole w g t x.cells) :
    Calls Try.prog 78 #[.pointer (some ⟨g, 0, none⟩), .int .i64 11] w fun e w' => e = .returned (.int .i64 (failsL x 11 : Int)) ∧ Below w.heap.size w w' := failsIn_any 11 (by omega) w hW
theorem fails3 {x : Pl} {g : Nat} {t : TypeId} (w : World) (hW : Whole w g t x.cells) :
    Calls Try.prog 78 #[.pointer (some ⟨g, 0, none⟩), .int .i64 3] w fun e w' => e = .returned (.int .i64 (failsL x 3 : Int)) ∧ Below w.heap.size w w' := failsIn_any 3 (by omega) w hW

section
variable (x : Pl) (w : World)
/-- The plan's box, and the draft's behind it. -/
theorem two_boxes (cs : Array Value) (w : World) (t u : TypeId) : Below w.heap.size w ((w.alloc (.cells cs t)).alloc (.cells cs u)) ∧ Whole ((w.alloc (.cells cs t)).alloc (.cells cs u)) (w.heap.size + 1) u cs := by
  refine ⟨((Below.refl _ _).alloc (Nat.le_refl _) _).alloc (by simp) _, ?_⟩
  have := Whole.new (w.alloc (.cells cs t)) u cs
  rwa [World.size_alloc] at this

set_option maxRecDepth 100000 in
set_option maxHeartbeats 1000000 in
theorem Fails_any : Calls Try.prog 80 #[.agg x.cells] w fun e w' => e = .returned (.int .i64 (failsL x 11 : Int)) ∧ Below w.heap.size w w' := by
  obtain ⟨hb, hW⟩ := two_boxes x.cells w 23 122
  have HC := Lib.hid (fails11 _ hW)
  have HB := Lib.hid hb
  have HS := Lib.hid x.cellsL
  clear hb hW
  generalize x.cells = cs at *
  generalize failsL x 11 = r at *
  go_enter Try.func80, Try.ntmps80
  go_wp2_with (first
    | (refine wpList_load_row rfl 23 _ rfl w.heap.size rfl 23 cs (0, 0) _ (heap_alloc_last w _) Try.underlying23 rfl HS.out.plan ?_)
    | (refine wpList_store_last rfl 122 _ _ rfl _ cs rfl rfl 122 _ (by simp) HS.out.draft HS.out.size.symm HS.out.one ?_)
    | (go_at_call 78; refine HC.out.mono ?_; rintro e w' ⟨rfl, hb2⟩))
  go_ret
  exact ⟨rfl, k_then hb2 HB.out⟩

set_option maxRecDepth 100000 in
set_option maxHeartbeats 1000000 in
theorem Check_any : Calls Try.prog 44 #[.agg x.cells] w fun e w' => e = .returned (.int .i64 (chkL x)) ∧ Below w.heap.size w w' := by
  have HB := Lib.hid ((Below.refl w.heap.size w).alloc (Nat.le_refl _) (.cells x.cells 23))
  have HC := Lib.hid (fun W => Fails_any x W)
  have HS := Lib.hid x.cellsL
  generalize x.cells = cs at *
  by_cases h : failsL x 11 = 0
  · have H := Lib.hid (show chkL x = 0 from if_pos h)
    have h0 : ((failsL x 11 : Nat) : Int) = 0 := by omega
    rw [h0] at HC
    clear h h0
    go_enter Try.func44, Try.ntmps44
    go_wp2_with (first
      | (refine wpList_load_row rfl 23 _ rfl w.heap.size rfl 23 cs (0, 0) _ (heap_alloc_last w _) Try.underlying23 rfl HS.out.plan ?_)
      | (go_at_call 80; refine (HC.out _).mono ?_; rintro e w' ⟨rfl, hb2⟩))
    go_ret
    exact ⟨by rw [H.out]; rfl, k_then hb2 HB.out⟩
  · have H := Lib.hid (show chkL x = 70 from if_neg h)
    have h0 : ((failsL x 11 : Nat) : Int) ≠ 0 := by omega
    have h1 : (((failsL x 11 : Nat) : Int) == 0) = false := by rw [beq_eq_false_iff_ne]; exact h0
    generalize ((failsL x 11 : Nat) : Int) = r at *
    clear h h0
    go_enter Try.func44, Try.ntmps44
    go_wp2_with (first
      | (refine wpList_load_row rfl 23 _ rfl w.heap.size rfl 23 cs (0, 0) _ (heap_alloc_last w _) Try.underlying23 rfl HS.out.plan ?_)
      | (go_at_call 80; refine (HC.out _).mono ?_; rintro e w' ⟨rfl, hb2⟩))
    go_ret
    exact ⟨by rw [H.out]; rfl, k_then hb2 HB.out⟩

set_option maxRecDepth 100000 in
set_option maxHeartbeats 1000000 in
theorem Round_any : Calls Try.prog 31 #[.agg x.cells] w fun e w' => e = .returned (.int .i64 (roundL x)) ∧ Below w.heap.size w w' := by
  obtain ⟨hb, hW⟩ := two_boxes x.cells w 23 122
  have HC := Lib.hid (fails3 _ hW)
  have HB := Lib.hid hb
  have HS := Lib.hid x.cellsL
  by_cases h : failsL x 3 = 0
  · have T := tick_fails (Nat.le_refl 3) (by omega) h
    have HR := Lib.hid (fun W (hB : Below ((w.alloc (.cells x.cells 23)).alloc (.cells x.cells 122)).heap.size ((w.alloc (.cells x.cells 23)).alloc (.cells x.cells 122)) W) => round_any T (k_later hB hW))
    have H := Lib.hid (show roundL x = rdL x from if_pos h)
    have h0 : ((failsL x 3 : Nat) : Int) = 0 := by omega
    rw [h0] at HC
    clear h h0 T hb hW
    generalize rdL x = m at *
    generalize x.cells = cs at *
    go_enter Try.func31, Try.ntmps31
    go_wp2_with (first
      | (refine wpList_load_row rfl 23 _ rfl w.heap.size rfl 23 cs (0, 0) _ (heap_alloc_last w _) Try.underlying23 rfl HS.out.plan ?_)
      | (refine wpList_store_last rfl 122 _ _ rfl _ cs rfl rfl 122 _ (by simp) HS.out.draft HS.out.size.symm HS.out.one ?_)
      | (go_at_call 78; refine HC.out.mono ?_; rintro e' w' ⟨rfl, hb2⟩)
      | (go_at_call 79; refine (HR.out _ hb2).mono ?_; rintro e' w' ⟨rfl, n, rfl⟩))
    go_ret
    exact ⟨by rw [H.out]; rfl, below_drewN (k_then hb2 HB.out) _⟩
  · have H := Lib.hid (show roundL x = 0 from if_neg h)
    have h0 : ((failsL x 3 : Nat) : Int) ≠ 0 := by omega
    have h1 : (((failsL x 3 : Nat) : Int) == 0) = false := by rw [beq_eq_false_iff_ne]; exact h0
    generalize ((failsL x 3 : Nat) : Int) = r at *
    clear h h0 hb hW
    generalize x.cells = cs at *
    go_enter Try.func31, Try.ntmps31
    go_wp2_with (first
      | (refine wpList_load_row rfl 23 _ rfl w.heap.size rfl 23 cs (0, 0) _ (heap_alloc_last w _) Try.underlying23 rfl HS.out.plan ?_)
      | (refine wpList_store_last rfl 122 _ _ rfl _ cs rfl rfl 122 _ (by simp) HS.out.draft HS.out.size.symm HS.out.one ?_)
      | (go_at_call 78; refine HC.out.mono ?_; rintro e' w' ⟨rfl, hb2⟩))
    go_ret
    exact ⟨by rw [H.out]; rfl, k_then hb2 HB.out⟩

def numV (x : Pl) : Value := .tuple #[.int .i64 (numE x), .int .i64 (numG x), .int .i64 (numA x)]
end
end Go.Proofs.Ytljcaigaofalbaa

namespace Go.Proofs.Ytljcaigaofalbaa
open Go.RowKit Go.Shelf

/-- The number of the first condition that does not hold, written out. -/
def firstI (x : Pl) : Int := if (4 ≤ x.nodes ∧ x.nodes ≤ 16) ∧ (0 ≤ x.kk ∧ 2 * x.kk + 2 ≤ x.nodes) then (if (1 ≤ x.air ∧ x.air ≤ 1048576) ∧ 0 ≤ x.dmin ∧ (x.dmin ≤ x.dmax ∧ x.dmax ≤ 1048576) then (if (1 ≤ x.slot ∧ x.slot ≤ 1048576) ∧ (4 ≤ x.rho ∧ x.rho ≤ 1048576) then (0) else 3) else 2) else 1
def failsI (x : Pl) : Int := if (4 ≤ x.nodes ∧ x.nodes ≤ 16) ∧ (0 ≤ x.kk ∧ 2 * x.kk + 2 ≤ x.nodes) then (if (1 ≤ x.air ∧ x.air ≤ 1048576) ∧ 0 ≤ x.dmin ∧ (x.dmin ≤ x.dmax ∧ x.dmax ≤ 1048576) then (if (1 ≤ x.slot ∧ x.slot ≤ 1048576) ∧ (4 ≤ x.rho ∧ x.rho ≤ 1048576) then (if 2 * (aL x + gL x) + eL x ≤ x.pi ∧ x.pi ≤ 1048576 then (if x.pi + eL x ≤ x.window ∧ x.window ≤ 1048576 then (if aL x + 2 * gL x + 2 * eL x ≤ x.cap ∧ x.cap ≤ 1048576 then (if x.window + x.cap + x.pi ≤ x.sendOff ∧ x.sendOff ≤ 1048576 then (if x.sendOff + x.window + 2 * (x.dmax + x.air) + x.cap + x.pi + 8 ≤ x.slot then (if ((1 ≤ x.queue ∧ x.queue ≤ 64) ∧ (1 ≤ x.burst ∧ x.burst ≤ 8)) ∧ (1 ≤ x.payload ∧ x.payload ≤ 32) then (if (frL x + 3) * rdL x + 2 * x.pi ≤ x.delta ∧ x.delta ≤ 64 * rdL x then (if 40 * rdL x ≤ x.horizon ∧ x.horizon ≤ 2147483648 then (0) else 11) else 10) else 9) else 8) else 7) else 6) else 5) else 4) else 3) else 2) else 1
theorem first_eq (x : Pl) : (failsL x 3 : Int) = firstI x := by
  have h := failsL_first x (last := 3) (by omega)
  generalize failsL x 3 = r at *
  unfold firstI
  rcases h with ⟨rfl, h⟩ | ⟨h1, h2, h3, h4⟩
  · exact ((if_pos (h 1 (by omega) (by omega))).trans ((if_pos (h 2 (by omega) (by omega))).trans (if_pos (h 3 (by omega) (by omega))))).symm
  · have : r = 1 ∨ r = 2 ∨ r = 3 := by omega
    rcases this with rfl | rfl | rfl
    · exact (if_neg h3).symm
    · exact ((if_pos (h4 1 (by omega) (by omega))).trans (if_neg h3)).symm
    · exact ((if_pos (h4 1 (by omega) (by omega))).trans ((if_pos (h4 2 (by omega) (by omega))).trans (if_neg h3))).symm
theorem fails_eq (x : Pl) : (failsL x 11 : Int) = failsI x := by
  have h := failsL_first x (last := 11) (by omega)
  generalize failsL x 11 = r at *
  unfold failsI
  rcases h with ⟨rfl, h⟩ | ⟨h1, h2, h3, h4⟩
  · exact ((if_pos (h 1 (by omega) (by omega))).trans ((if_pos (h 2 (by omega) (by omega))).trans ((if_pos (h 3 (by omega) (by omega))).trans ((if_pos (h 4 (by omega) (by omega))).trans ((if_pos (h 5 (by omega) (by omega))).trans ((if_pos (h 6 (by omega) (by omega))).trans ((if_pos (h 7 (by omega) (by omega))).trans ((if_pos (h 8 (by omega) (by omega))).trans ((if_pos (h 9 (by omega) (by omega))).trans ((if_pos (h 10 (by omega) (by omega))).trans (if_pos (h 11 (by omega) (by omega))))))))))))).symm
  · have : r = 1 ∨ r = 2 ∨ r = 3 ∨ r = 4 ∨ r = 5 ∨ r = 6 ∨ r = 7 ∨ r = 8 ∨ r = 9 ∨ r = 10 ∨ r = 11 := by omega
    rcases this with rfl | rfl | rfl | rfl | rfl | rfl | rfl | rfl | rfl | rfl | rfl
    · exact (if_neg h3).symm
    · exact ((if_pos (h4 1 (by omega) (by omega))).trans (if_neg h3)).symm
    · exact ((if_pos (h4 1 (by omega) (by omega))).trans ((if_pos (h4 2 (by omega) (by omega))).trans (if_neg h3))).symm
    · exact ((if_pos (h4 1 (by omega) (by omega))).trans ((if_pos (h4 2 (by omega) (by omega))).trans ((if_pos (h4 3 (by omega) (by omega))).trans (if_neg h3)))).symm
    · exact ((if_pos (h4 1 (by omega) (by omega))).trans ((if_pos (h4 2 (by omega) (by omega))).trans ((if_pos (h4 3 (by omega) (by omega))).trans ((if_pos (h4 4 (by omega) (by omega))).trans (if_neg h3))))).symm
    · exact ((if_pos (h4 1 (by omega) (by omega))).trans ((if_pos (h4 2 (by omega) (by omega))).trans ((if_pos (h4 3 (by omega) (by omega))).trans ((if_pos (h4 4 (by omega) (by omega))).trans ((if_pos (h4 5 (by omega) (by omega))).trans (if_neg h3)))))).symm
    · exact ((if_pos (h4 1 (by omega) (by omega))).trans ((if_pos (h4 2 (by omega) (by omega))).trans ((if_pos (h4 3 (by omega) (by omega))).trans ((if_pos (h4 4 (by omega) (by omega))).trans ((if_pos (h4 5 (by omega) (by omega))).trans ((if_pos (h4 6 (by omega) (by omega))).trans (if_neg h3))))))).symm
    · exact ((if_pos (h4 1 (by omega) (by omega))).trans ((if_pos (h4 2 (by omega) (by omega))).trans ((if_pos (h4 3 (by omega) (by omega))).trans ((if_pos (h4 4 (by omega) (by omega))).trans ((if_pos (h4 5 (by omega) (by omega))).trans ((if_pos (h4 6 (by omega) (by omega))).trans ((if_pos (h4 7 (by omega) (by omega))).trans (if_neg h3)))))))).symm
    · exact ((if_pos (h4 1 (by omega) (by omega))).trans ((if_pos (h4 2 (by omega) (by omega))).trans ((if_pos (h4 3 (by omega) (by omega))).trans ((if_pos (h4 4 (by omega) (by omega))).trans ((if_pos (h4 5 (by omega) (by omega))).trans ((if_pos (h4 6 (by omega) (by omega))).trans ((if_pos (h4 7 (by omega) (by omega))).trans ((if_pos (h4 8 (by omega) (by omega))).trans (if_neg h3))))))))).symm
    · exact ((if_pos (h4 1 (by omega) (by omega))).trans ((if_pos (h4 2 (by omega) (by omega))).trans ((if_pos (h4 3 (by omega) (by omega))).trans ((if_pos (h4 4 (by omega) (by omega))).trans ((if_pos (h4 5 (by omega) (by omega))).trans ((if_pos (h4 6 (by omega) (by omega))).trans ((if_pos (h4 7 (by omega) (by omega))).trans ((if_pos (h4 8 (by omega) (by omega))).trans ((if_pos (h4 9 (by omega) (by omega))).trans (if_neg h3)))))))))).symm
    · exact ((if_pos (h4 1 (by omega) (by omega))).trans ((if_pos (h4 2 (by omega) (by omega))).trans ((if_pos (h4 3 (by omega) (by omega))).trans ((if_pos (h4 4 (by omega) (by omega))).trans ((if_pos (h4 5 (by omega) (by omega))).trans ((if_pos (h4 6 (by omega) (by omega))).trans ((if_pos (h4 7 (by omega) (by omega))).trans ((if_pos (h4 8 (by omega) (by omega))).trans ((if_pos (h4 9 (by omega) (by omega))).trans ((if_pos (h4 10 (by omega) (by omega))).trans (if_neg h3))))))))))).symm

/-- A plan's cells, one by one. -/
theorem Pl.at (x : Pl) : (x.cells[0]? = some (.int .i64 x.nodes) ∧ x.cells[1]? = some (.int .i64 x.kk) ∧ x.cells[2]? = some (.int .i64 x.slot) ∧ x.cells[3]? = some (.int .i64 x.sendOff)) ∧
    (x.cells[4]? = some (.int .i64 x.window) ∧ x.cells[5]? = some (.int .i64 x.air) ∧ x.cells[6]? = some (.int .i64 x.dmin) ∧ x.cells[7]? = some (.int .i64 x.dmax)) ∧
    (x.cells[8]? = some (.int .i64 x.rho) ∧ x.cells[9]? = some (.int .i64 x.pi) ∧ x.cells[10]? = some (.int .i64 x.cap) ∧ x.cells[11]? = some (.int .i64 x.delta)) ∧
    (x.cells[12]? = some (.int .i64 x.queue) ∧ x.cells[13]? = some (.int .i64 x.burst) ∧ x.cells[14]? = some (.int .i64 x.payload) ∧ x.cells[15]? = some (.int .i64 x.horizon)) :=
  ⟨⟨rfl, rfl, rfl, rfl⟩, ⟨rfl, rfl, rfl, rfl⟩, ⟨rfl, rfl, rfl, rfl⟩, ⟨rfl, rfl, rfl, rfl⟩⟩

set_option maxHeartbeats 4000000 in
theorem first_any (x : Pl) (w : World) : Calls Try.prog 114 #[.agg x.cells] w fun e w' => e = .returned (.int .i64 (firstI x)) ∧ Below w.heap.size w w' := by
  have HB := Lib.hid ((Below.refl w.heap.size w).alloc (Nat.le_refl _) (.cells x.cells 23))
  obtain ⟨⟨z0, z1, z2, _⟩, ⟨_, z5, z6, z7⟩, ⟨z8, _⟩, _⟩ := x.at
  generalize x.cells = cs at *
  go_enter Try.func114, Try.ntmps114
  go_wp2
  all_goals
    refine bodyPost_ret (v := .int .i64 (firstI x)) (by simp [results, Try.results114, go_sem]; unfold firstI; omega) rfl ⟨rfl, HB.out⟩

set_option maxHeartbeats 4000000 in
theorem refNumbers_any {x : Pl} (T : TickL x) (w : World) : Calls Try.prog 115 #[.agg x.cells] w fun e w' => e = .returned (.tuple #[.int .i64 (eL x), .int .i64 (gL x), .int .i64 (aL x)]) ∧ Below w.heap.size w w' := by
  have HB := Lib.hid ((Below.refl w.heap.size w).alloc (Nat.le_refl _) (.cells x.cells 23))
  obtain ⟨⟨z0, _, z2, _⟩, ⟨_, _, z6, z7⟩, ⟨z8, _⟩, _⟩ := x.at
  obtain ⟨_, _, _, _, _, _, d1, d2, d3, _, _, r1, r2, m1, m2, q1, q2⟩ := T
  have e0 : (2 * rdL x).tdiv x.rho = 2 * rdL x / x.rho := Int.tdiv_eq_ediv_of_nonneg (by omega)
  have H1 := Lib.hid (show eL x = x.dmax - x.dmin + 6 from rfl)
  have H2 := Lib.hid (show gL x = 2 * (2 * rdL x / x.rho + 4) from rfl)
  have H3 := Lib.hid (show aL x = 2 * (x.dmax - x.dmin + 6 + 2 * (2 * rdL x / x.rho + 4)) from rfl)
  have hm : x.nodes * x.slot = rdL x := rfl
  generalize rdL x = m at *
  generalize hq : 2 * m / x.rho = q at *
  generalize x.cells = cs at *
  go_enter Try.func115, Try.ntmps115
  go_wp2
  refine bodyPost_ret (v := .tuple #[.int .i64 (eL x), .int .i64 (gL x), .int .i64 (aL x)]) (by rw [H1.out, H2.out, H3.out]; simp [results, Try.results115, go_sem]) rfl ⟨rfl, HB.out⟩

end Go.Proofs.Ytljcaigaofalbaa
