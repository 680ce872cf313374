/- The document's Drift, Late, happens, fails and Great, by contracts. No condition. | An arrival's methods, by contracts. No condition. | slices.Equal of rates, of numbers and of faults, by contracts. No condition. -/
import Derived.Laws.StructEq
import Derived.Test.YtljcaigaofalbaaQJ
import Derived.Test.YtljcaigaofalbaaQG
namespace Go.Proofs.Ytljcaigaofalbaa
open Go.RowKit Go.Shelf

theorem getD_mem {α : Type} [Inhabited α] {xs : List α} {j : Nat} (h : j < xs.length) : xs.getD j default ∈ xs := by
  rw [List.getD_eq_getElem?_getD, List.getElem?_eq_getElem h]
  exact List.getElem_mem _
theorem of_getD {α : Type} [Inhabited α] {xs : List α} {P : α → Prop} (h : ∀ j, j < xs.length → P (xs.getD j default)) : ∀ y ∈ xs, P y := fun y hy => by
  obtain ⟨j, hj, rfl⟩ := List.mem_iff_getElem.1 hy
  have := h j hj
  rwa [List.getD_eq_getElem?_getD, List.getElem?_eq_getElem hj] at this
theorem bool_or {z : Bool} {C : Prop} (h : z = true ↔ C) : (z = true ∧ C) ∨ (z = false ∧ ¬ C) := by
  cases z
  · exact .inr ⟨rfl, fun c => Bool.noConfusion (h.2 c)⟩
  · exact .inl ⟨rfl, h.1 rfl⟩

section
variable (x : Pl) (w : World)
theorem refDrift_any (hp : OkP x) : Calls Try.prog 52 #[.agg x.cells] w fun e w' => e = .returned (.int .i64 (drL x)) ∧ Below w.heap.size w w' := by
  have HB := Lib.hid ((Below.refl w.heap.size w).alloc (Nat.le_refl _) (.cells x.cells 23))
  obtain ⟨⟨_, _, _, _⟩, ⟨_, _, _, _⟩, ⟨z8, _⟩, _⟩ := x.at
  have hd := hp.drift
  have r1 := hp.r1
  have r2 := hp.r2
  have e0 : (65536 : Int).tdiv x.rho = drL x := Int.tdiv_eq_ediv_of_nonneg (by omega)
  generalize drL x = d at *
  generalize x.cells = cs at *
  go_enter Try.func52, Try.ntmps52
  go_wp2
  refine bodyPost_ret (v := .int .i64 d) (by simp [results, Try.results52, go_sem]) rfl ⟨rfl, HB.out⟩
theorem refLate_any (hp : OkP x) : Calls Try.prog 58 #[.agg x.cells] w fun e w' => e = .returned (.int .i64 (lateL x)) ∧ Below w.heap.size w w' := by
  have HB := Lib.hid ((Below.refl w.heap.size w).alloc (Nat.le_refl _) (.cells x.cells 23))
  obtain ⟨⟨z0, _, z2, _⟩, _⟩ := x.at
  have hd := hp.round
  have n1 := hp.n1
  have n2 := hp.n2
  have e0 : (4 * x.nodes) * x.slot = lateL x := by unfold lateL rdL; rw [Int.mul_assoc]
  have e1 : 16 ≤ lateL x ∧ lateL x ≤ 67108864 := by unfold lateL; omega
  clear hd
  generalize lateL x = d at *
  generalize x.cells = cs at *
  go_enter Try.func58, Try.ntmps58
  go_wp2
  refine bodyPost_ret (v := .int .i64 d) (by simp [results, Try.results58, go_sem]) rfl ⟨rfl, HB.out⟩


set_option maxHeartbeats 1000000 in
theorem refHappens_any (y : HpA) : Calls Try.prog 61 #[.agg x.cells, .agg (hapC y).toArray] w fun e w' => e = .returned (.bool (okHap x y.hp)) ∧ Below w.heap.size w w' := by
  obtain ⟨k, n, t, A, c, pl⟩ := y
  have HB := Lib.hid (((Below.refl w.heap.size w).alloc (Nat.le_refl _) (.cells x.cells 23)).alloc (by simp) (.cells #[.int .i64 k, .int .i64 n, .int .i64 t, .slice A pl.length c] 47))
  obtain ⟨⟨z0, _⟩, _, _, ⟨_, _, _, z15⟩⟩ := x.at
  unfold hapC
  dsimp only
  have hz := bool_or (okHap_iff (x := x) (h := ⟨k, n, t, pl⟩))
  have hq : okHap x (HpA.hp ⟨k, n, t, A, c, pl⟩) = okHap x ⟨k, n, t, pl⟩ := rfl
  rw [hq]
  generalize okHap x ⟨k, n, t, pl⟩ = z at *
  dsimp only at hz
  generalize hN : x.nodes = N at *
  generalize hH : x.horizon = H at *
  generalize pl.length = m at *
  have HZ := Lib.hid hz
  generalize x.cells = cs at *
  clear hN hH hz hq
  go_enter Try.func61, Try.ntmps61
  go_wp2
  all_goals
    refine bodyPost_ret (v := .bool z) (by
      have hz := HZ.out
      simp only [bne_iff_ne, bne_eq_false_iff_eq, ne_eq] at *
      simp only [results, Try.results61, go_sem]
      rcases hz with ⟨rfl, hz⟩ | ⟨rfl, hz⟩ <;> simp <;> omega) rfl ⟨rfl, HB.out⟩


set_option maxHeartbeats 1000000 in
theorem refFails_any' (y : Ft) : Calls Try.prog 62 #[.agg x.cells, .agg (ftC y).toArray] w fun e w' => e = .returned (.bool (okFt x y)) ∧ Below w.heap.size w w' := by
  obtain ⟨s, n, r, c, b⟩ := y
  have HB := Lib.hid (((Below.refl w.heap.size w).alloc (Nat.le_refl _) (.cells x.cells 23)).alloc (by simp) (.cells #[.int .i64 s, .int .i64 n, .int .i64 r, .int .i64 c, .bool b] 54))
  obtain ⟨⟨z0, _⟩, _⟩ := x.at
  unfold ftC
  dsimp only
  have hz := bool_or (okFt_iff (x := x) (f := ⟨s, n, r, c, b⟩))
  generalize okFt x ⟨s, n, r, c, b⟩ = z at *
  dsimp only at hz
  generalize hN : x.nodes = N at *
  have HZ := Lib.hid hz
  generalize x.cells = cs at *
  clear hN hz
  go_enter Try.func62, Try.ntmps62
  go_wp2
  all_goals
    refine bodyPost_ret (v := .bool z) (by
      have hz := HZ.out
      simp only [results, Try.results62, go_sem]
      rcases hz with ⟨rfl, hz⟩ | ⟨rfl, hz⟩ <;> simp <;> omega) rfl ⟨rfl, HB.out⟩


/-- No more than statements go through? -/
def smallB (s : ScA) : Bool := decide (s.rates.length ≤ 300) && (decide (s.on.length ≤ 300) && (decide (s.delays.length ≤ 300) && (decide (s.haps.length ≤ 300) && (decide (s.faults.length ≤ 300) && s.haps.all (fun h => decide (h.pl.length ≤ 300))))))
theorem smallB_iff {s : ScA} : smallB s = true ↔ s.rates.length ≤ 300 ∧ s.on.length ≤ 300 ∧ s.delays.length ≤ 300 ∧ s.haps.length ≤ 300 ∧ s.faults.length ≤ 300 ∧ ∀ h ∈ s.haps, h.pl.length ≤ 300 := by
  simp only [smallB, Bool.and_eq_true, decide_eq_true_eq, List.all_eq_true]
def greatI (s : ScA) : Int := if smallB s then 0 else 1
theorem great_no {s : ScA} (h : ¬ (s.rates.length ≤ 300 ∧ s.on.length ≤ 300 ∧ s.delays.length ≤ 300 ∧ s.haps.length ≤ 300 ∧ s.faults.length ≤ 300 ∧ ∀ h ∈ s.haps, h.pl.length ≤ 300)) : greatI s = 1 := if_neg (fun e => h (smallB_iff.1 e))
theorem great_yes {s : ScA} (h : s.rates.length ≤ 300 ∧ s.on.length ≤ 300 ∧ s.delays.length ≤ 300 ∧ s.haps.length ≤ 300 ∧ s.faults.length ≤ 300 ∧ ∀ h ∈ s.haps, h.pl.length ≤ 300) : greatI s = 0 := if_pos (smallB_iff.2 h)
theorem hapC_cells {W : World} {g o : Nat} {y : HpA} (h : W.rangeAt g o (hapC y)) : W.cell? ⟨g, o, none⟩ = some (.int .i64 y.k) ∧ W.cell? ⟨g, o + 1, none⟩ = some (.int .i64 y.n) ∧ W.cell? ⟨g, o + 2, none⟩ = some (.int .i64 y.t) ∧ W.cell? ⟨g, o + 3, none⟩ = some (.slice y.A y.pl.length y.c) :=
  ⟨h 0 _ rfl, h 1 _ rfl, h 2 _ rfl, h 3 _ rfl⟩
theorem ftC_cells {W : World} {g o : Nat} {y : Ft} (h : W.rangeAt g o (ftC y)) : W.cell? ⟨g, o, none⟩ = some (.int .i64 y.s) ∧ W.cell? ⟨g, o + 1, none⟩ = some (.int .i64 y.n) ∧ W.cell? ⟨g, o + 2, none⟩ = some (.int .i64 y.r) ∧ W.cell? ⟨g, o + 3, none⟩ = some (.int .i64 y.c) ∧ W.cell? ⟨g, o + 4, none⟩ = some (.bool y.cut) :=
  ⟨h 0 _ rfl, h 1 _ rfl, h 2 _ rfl, h 3 _ rfl, h 4 _ rfl⟩
theorem rateC_cells {W : World} {g o : Nat} {y : Int × Int} (h : W.rangeAt g o (rateC y)) : W.cell? ⟨g, o, none⟩ = some (.int .i64 y.1) ∧ W.cell? ⟨g, o + 1, none⟩ = some (.int .i64 y.2) := ⟨h 0 _ rfl, h 1 _ rfl⟩
theorem numC_cell {W : World} {g o k : Nat} {y : Int} (h : W.rangeAt g (o + k * 1) (numC y)) : W.cell? ⟨g, o + k, none⟩ = some (.int .i64 y) := by
  have := h 0 _ rfl
  rw [Nat.mul_one, Nat.add_zero] at this
  exact this
/-- A script's box. -/
theorem sc_cells {W : World} {g : Nat} {t : TypeId} {V : ScV} (h : Whole W g t V.cells) : W.cell? ⟨g, 0, none⟩ = some V.r.v ∧ W.cell? ⟨g, 1, none⟩ = some V.o.v ∧ W.cell? ⟨g, 2, none⟩ = some V.d.v ∧ W.cell? ⟨g, 3, none⟩ = some V.h.v ∧ W.cell? ⟨g, 4, none⟩ = some V.f.v :=
  ⟨h.cell 0, h.cell 1, h.cell 2, h.cell 3, h.cell 4⟩

set_option maxRecDepth 100000 in
set_option maxHeartbeats 1000000 in
theorem great_any (V : ScV) (s : ScA) (h : ScAt w V s) : Calls Try.prog 10 #[.agg V.cells] w fun e w' => e = .returned (.int .i64 (greatI s)) ∧ Below w.heap.size w w' := by
  have HX := Lib.hid (held_new (held_start w) 29 V.cells)
  have H := Lib.hid h
  have l0 := h.r.len
  have l1 := h.o.len
  have l2 := h.d.len
  have l3 := h.h.row.len
  have l4 := h.f.len
  have hn := Nat.le_trans h.h.row.cap h.h.row.max
  have hG0 := great_no (s := s)
  have hG1 := great_yes (s := s)
  generalize greatI s = G at *
  have HG0 := Lib.hid hG0
  have HG1 := Lib.hid hG1
  have HL := Lib.hid (And.intro l0 (And.intro l1 (And.intro l2 (And.intro l3 l4))))
  obtain ⟨⟨A0, n0, c0⟩, ⟨A1, n1, c1⟩, ⟨A2, n2, c2⟩, ⟨A3, n3, c3⟩, ⟨A4, n4, c4⟩⟩ := V
  unfold ScV.cells Sl.v at *
  dsimp only at *
  clear h hG0 hG1 l0 l1 l2 l3 l4
  go_enter Try.func10, Try.ntmps10
  go_wp2
  all_goals first
    | (go_ret; exact ⟨by rw [HG0.out (by obtain ⟨a, b, c, d, e⟩ := HL.out; omega)]; rfl, HX.out.1⟩)
    | skip
  go_loopw [3] (fun iv wr => ∃ k : Nat, k ≤ n3 ∧ iv = .int .i64 (k : Int) ∧ wr = w.alloc (.cells #[.slice A0 n0 c0, .slice A1 n1 c1, .slice A2 n2 c2, .slice A3 n3 c3, .slice A4 n4 c4] 29) ∧ ∀ j, j < k → (s.haps.getD j default).pl.length ≤ 300) (fun iv _ => n3 - (intOf iv).toNat)
  case atStart => exact ⟨0, Nat.zero_le _, rfl, rfl, fun j hj => absurd hj (Nat.not_lt_zero _)⟩
  case round =>
    obtain ⟨k, hk, rfl, hwr, hall⟩ := hrel
    have HA := Lib.hid hall
    by_cases hlt : k < n3
    · obtain ⟨g, o, hAe, hR⟩ := H.out.h.row.get (i := k) hlt
      dsimp only at hAe
      subst hAe
      have hR2 : wr.rangeAt g (o + k * 4) (hapC (s.haps.getD k default)) := by rw [hwr]; exact fun j v hv => k_cell ((Below.refl w.heap.size w).alloc (Nat.le_refl _) _) (hR j v hv)
      obtain ⟨_, _, _, q3⟩ := hapC_cells hR2
      have q0 : wr.cell? ⟨w.heap.size, 3, none⟩ = some (.slice (some ⟨g, o, none⟩) n3 c3) := by rw [hwr]; exact (Whole.new w _ _).cell 3
      have e1 : (0 : Int) ≤ (k : Int) := by omega
      have e2 : (k : Int) < (n3 : Int) := by omega
      have HR := Lib.hid hwr
      have hbig : 300 < (s.haps.getD k default).pl.length → G = 1 := fun h => HG0.out (fun hc => by
        have := hc.2.2.2.2.2 _ (getD_mem (xs := s.haps) (j := k) (by have := HL.out; omega))
        omega)
      obtain ⟨m, hm⟩ : ∃ m, m = (s.haps.getD k default).pl.length := ⟨_, rfl⟩
      rw [← hm] at q3 hbig
      have HM := Lib.hid hm
      have HBig := Lib.hid hbig
      clear hR hR2 hwr hall hm hbig
      by_cases hgt : 300 < m
      · go_wp2
        go_ret
        have hwr := HR.out
        exact ⟨by rw [HBig.out hgt]; rfl, by rw [hwr]; exact HX.out.1⟩
      · go_wp2
        go_roundw
        case rel =>
          refine ⟨k + 1, by omega, by go_num, HR.out, fun j hj => ?_⟩
          rcases Nat.lt_or_ge j k with h | h
          · exact HA.out j h
          · obtain rfl : j = k := by omega
            rw [← HM.out]; omega
        case measure => simp [intOf]; omega
    · have hz : G = 0 := HG1.out (by
        obtain ⟨a, b, c, d, e⟩ := HL.out
        refine ⟨by omega, by omega, by omega, by omega, by omega, fun y hy => ?_⟩
        obtain ⟨j, hj, rfl⟩ := List.mem_iff_getElem.1 hy
        have := hall j (by omega)
        rwa [List.getD_eq_getElem?_getD, List.getElem?_eq_getElem hj] at this)
      have q0 : wr.cell? ⟨w.heap.size, 3, none⟩ = some (.slice A3 n3 c3) := by rw [hwr]; exact (Whole.new w _ _).cell 3
      have HR := Lib.hid hwr
      have HZ := Lib.hid hz
      clear hwr hall hz
      go_wp2
      go_ret
      have hwr := HR.out
      exact ⟨by rw [HZ.out]; rfl, by rw [hwr]; exact HX.out.1⟩
end
end Go.Proofs.Ytljcaigaofalbaa

namespace Go.Proofs.Ytljcaigaofalbaa
open Go.RowKit Go.Shelf

/-- An arrival: node, frame, receiver, channel. -/
def arrV (a n r c : Int) : Value := .agg #[.int .i64 a, .int .i64 n, .int .i64 r, .int .i64 c]
/-- It may be. -/
def okA (N a n r c : Int) : Bool := decide (((0 ≤ a ∧ a < N) ∧ (0 ≤ r ∧ r < N)) ∧ ((0 ≤ n ∧ n ≤ 2147483647) ∧ (0 ≤ c ∧ c < 2)))
/-- Its number. -/
def seqA (N a n r c : Int) : Int := ((n * N + a) * N + r) * 2 + c
/-- A fault meets it (receiver N: each). -/
def metA (f : Ft) (N a n r c : Int) : Bool := decide (((f.s = a ∧ f.n = n) ∧ (f.r = r ∨ f.r = N)) ∧ f.c / 2 ^ c.toNat % 2 = 1)

set_option maxHeartbeats 4000000 in
theorem mayBe_any (N a n r c : Int) (w : World) : Calls Try.prog 63 #[arrV a n r c, .int .i64 N] w fun e w' => e = .returned (.bool (okA N a n r c)) ∧ Below w.heap.size w w' := by
  have HB := Lib.hid ((Below.refl w.heap.size w).alloc (Nat.le_refl _) (.cells #[.int .i64 a, .int .i64 n, .int .i64 r, .int .i64 c] 106))
  have HO := Lib.hid (show ∀ z : Bool, (z = true ↔ (((0 ≤ a ∧ a < N) ∧ (0 ≤ r ∧ r < N)) ∧ ((0 ≤ n ∧ n ≤ 2147483647) ∧ (0 ≤ c ∧ c < 2)))) → z = okA N a n r c from fun z h => by
    unfold okA
    by_cases h2 : (((0 ≤ a ∧ a < N) ∧ (0 ≤ r ∧ r < N)) ∧ ((0 ≤ n ∧ n ≤ 2147483647) ∧ (0 ≤ c ∧ c < 2)))
    · rw [h.2 h2, decide_eq_true h2]
    · rw [decide_eq_false h2]
      cases z
      · rfl
      · exact absurd (h.1 rfl) h2)
  unfold arrV
  go_enter Try.func63, Try.ntmps63
  go_wp2
  all_goals (go_ret; refine ⟨?_, HB.out⟩; refine congrArg (fun z => Ending.returned (Value.bool z)) (HO.out _ ?_); simp only [decide_eq_true_eq, false_iff, Bool.false_eq_true]; omega)

set_option maxHeartbeats 4000000 in
theorem number_a (N a n r c : Int) (hN : 1 ≤ N ∧ N ≤ 16) (h : okA N a n r c = true) (w : World) : Calls Try.prog 64 #[arrV a n r c, .int .i64 N] w fun e w' => e = .returned (.int .i64 (seqA N a n r c)) ∧ Below w.heap.size w w' := by
  have HB := Lib.hid ((Below.refl w.heap.size w).alloc (Nat.le_refl _) (.cells #[.int .i64 a, .int .i64 n, .int .i64 r, .int .i64 c] 106))
  have h' := of_decide_eq_true h
  obtain ⟨⟨⟨a1, a2⟩, r1, r2⟩, ⟨n1, n2⟩, c1, c2⟩ := h'
  have m1 : 0 ≤ n * N := Int.mul_nonneg n1 (by omega)
  have m2 : n * N ≤ 2147483647 * 16 := Int.mul_le_mul n2 hN.2 (by omega) (by omega)
  obtain ⟨q, hq⟩ : ∃ q, q = n * N := ⟨_, rfl⟩
  rw [← hq] at m1 m2
  have m3 : 0 ≤ (q + a) * N := Int.mul_nonneg (by omega) (by omega)
  have m4 : (q + a) * N ≤ (2147483647 * 16 + 16) * 16 := Int.mul_le_mul (by omega) hN.2 (by omega) (by omega)
  obtain ⟨q2, hq2⟩ : ∃ q2, q2 = (q + a) * N := ⟨_, rfl⟩
  rw [← hq2] at m3 m4
  have e1 := hq.symm
  have e2 := hq2.symm
  have HV := Lib.hid (show (q2 + r) * 2 + c = seqA N a n r c by unfold seqA; rw [← hq, ← hq2])
  clear hq hq2 h
  unfold arrV
  go_enter Try.func64, Try.ntmps64
  go_wp2
  all_goals (go_ret; refine ⟨?_, HB.out⟩; rw [← HV.out]; rfl)

set_option maxHeartbeats 4000000 in
theorem metBy_any (f : Ft) (N a n r c : Int) (hc : 0 ≤ c ∧ c < 2) (hf : 1 ≤ f.c ∧ f.c ≤ 3) (w : World) : Calls Try.prog 66 #[arrV a n r c, .agg (ftC f).toArray, .int .i64 N] w fun e w' => e = .returned (.bool (metA f N a n r c)) ∧ Below w.heap.size w w' := by
  have HB := Lib.hid (fun cs : Array Value => ((Below.refl w.heap.size w).alloc (Nat.le_refl _) (.cells #[.int .i64 a, .int .i64 n, .int .i64 r, .int .i64 c] 106)).alloc (by simp) (.cells cs 54))
  obtain ⟨fs, fn, fr, fc, fb⟩ := f
  unfold arrV ftC
  dsimp only at *
  go_enter Try.func66, Try.ntmps66
  go_wp2
  all_goals (go_ret; refine ⟨?_, HB.out _⟩; clear HB; refine congrArg (fun z => Ending.returned (Value.bool z)) ?_; rcases (show c = 0 ∨ c = 1 by omega) with rfl | rfl <;> rcases (show fc = 1 ∨ fc = 2 ∨ fc = 3 by omega) with rfl | rfl | rfl <;> (unfold metA; simp_all; try decide))
end Go.Proofs.Ytljcaigaofalbaa

namespace Go.Proofs.Ytljcaigaofalbaa
open Go.RowKit Go.Shelf

theorem list_eq_of {α : Type} [Inhabited α] {xs ys : List α} (hl : xs.length = ys.length) (h : ∀ j, j < xs.length → xs.getD j default = ys.getD j default) : xs = ys := by
  apply List.ext_getElem hl
  intro i h1 h2
  have := h i h1
  rwa [List.getD_eq_getElem?_getD, List.getD_eq_getElem?_getD, List.getElem?_eq_getElem h1, List.getElem?_eq_getElem h2] at this
theorem rate_same (y z : Int × Int) : decide (y = z) = (decide (y.1 = z.1) && decide (y.2 = z.2)) := by
  rw [Bool.eq_iff_iff]
  obtain ⟨a, b⟩ := y
  obtain ⟨c, d⟩ := z
  simp
theorem ft_same (y z : Ft) : decide (y = z) = (decide (y.s = z.s) && (decide (y.n = z.n) && (decide (y.r = z.r) && (decide (y.c = z.c) && decide (y.cut = z.cut))))) := by
  rw [Bool.eq_iff_iff]
  obtain ⟨a, b, c, d, e⟩ := y
  obtain ⟨a', b', c', d', e'⟩ := z
  simp
set_option maxHeartbeats 1000000 in
theorem rate_eql (x y : Int × Int) (w : World) : (binOp .eql 52 (.agg #[.int .i64 x.1, .int .i64 x.2]) (.agg #[.int .i64 y.1, .int .i64 y.2])).run Try.prog w = .ok (.bool (decide (x = y))) w := by
  have hS : Try.prog.underlying 52 = some (.struct (Try.prog.fieldsOf 52)) := by kernel_rfl
  have hp : Try.prog.stoodInHeld 52 = false := by kernel_rfl
  rw [rate_same]
  rw [run_eql_struct, show (10000 : Nat) = 9999 + 1 from rfl, run_equalIn_agg w 9999 52 _ _ hS hp]
  simp only [Program.fieldsOf, Try.underlying52]
  go_simp
  by_cases h1 : x.1 = y.1 <;> by_cases h2 : x.2 = y.2 <;> simp [h1, h2]
set_option maxHeartbeats 1000000 in
theorem ft_eql (x y : Ft) (w : World) : (binOp .eql 54 (.agg #[.int .i64 x.s, .int .i64 x.n, .int .i64 x.r, .int .i64 x.c, .bool x.cut]) (.agg #[.int .i64 y.s, .int .i64 y.n, .int .i64 y.r, .int .i64 y.c, .bool y.cut])).run Try.prog w = .ok (.bool (decide (x = y))) w := by
  have hS : Try.prog.underlying 54 = some (.struct (Try.prog.fieldsOf 54)) := by kernel_rfl
  have hp : Try.prog.stoodInHeld 54 = false := by kernel_rfl
  rw [ft_same]
  rw [run_eql_struct, show (10000 : Nat) = 9999 + 1 from rfl, run_equalIn_agg w 9999 54 _ _ hS hp]
  simp only [Program.fieldsOf, Try.underlying54]
  go_simp
  by_cases h1 : x.s = y.s <;> by_cases h2 : x.n = y.n <;> by_cases h3 : x.r = y.r <;> by_cases h4 : x.c = y.c <;> cases h5 : x.cut <;> cases h6 : y.cut <;> simp [h1, h2, h3, h4]
theorem rate_equal (x y : Int × Int) (w : World) : (Op.equalIn 10000 52 (.agg #[.int .i64 x.1, .int .i64 x.2]) (.agg #[.int .i64 y.1, .int .i64 y.2])).run Try.prog w = .ok (decide (x = y)) w := by
  have h := rate_eql x y w
  rw [run_eql_struct] at h
  cases hr : (Op.equalIn 10000 52 (.agg #[.int .i64 x.1, .int .i64 x.2]) (.agg #[.int .i64 y.1, .int .i64 y.2])).run Try.prog w with
  | ok b w' =>
    rw [hr] at h
    simp [Result.andThen] at h
    rw [h.1, h.2]
  | halt x w' => rw [hr] at h; simp [Result.andThen] at h
theorem rate_neq (x y : Int × Int) (w : World) : (binOp .neq 52 (.agg #[.int .i64 x.1, .int .i64 x.2]) (.agg #[.int .i64 y.1, .int .i64 y.2])).run Try.prog w = .ok (.bool (!decide (x = y))) w := by
  rw [run_neq_struct, rate_equal]; rfl

set_option maxRecDepth 100000 in
set_option maxHeartbeats 2000000 in
theorem same_rate (w : World) (s t : Sl) (es fs : List (Int × Int)) (h1 : RSrc rateC 2 w s es) (h2 : RSrc rateC 2 w t fs) :
    Calls Try.prog 67 #[s.v, t.v] w fun e w' => e = .returned (.bool (decide (es = fs))) ∧ Below w.heap.size w w' := by
  have l1 := h1.len
  have l2 := h2.len
  have m1 := Nat.le_trans h1.cap h1.max
  have m2 := Nat.le_trans h2.cap h2.max
  obtain ⟨A, n, c⟩ := s
  obtain ⟨B, m, d⟩ := t
  unfold Sl.v
  dsimp only at *
  by_cases hnm : n = m
  · subst hnm
    have hl : es.length = fs.length := l1.trans l2.symm
    have H := Lib.hid (And.intro h1 (And.intro h2 (And.intro hl l1)))
    clear h1 h2 hl l1 l2
    go_enter Try.func67, Try.ntmps67
    go_wp2
    go_loopw [13] (fun iv wr => ∃ (k : Nat), k ≤ n ∧ iv = .int .i64 (k : Int) ∧ Below w.heap.size w wr ∧ ∀ j, j < k → es.getD j default = fs.getD j default) (fun iv _ => n - (intOf iv).toNat)
    case atStart => exact ⟨0, Nat.zero_le _, rfl, Below.refl _ _, fun j hj => absurd hj (Nat.not_lt_zero _)⟩
    case round =>
      obtain ⟨k, hk, rfl, hwr, hall⟩ := hrel
      by_cases hlt : k < n
      · obtain ⟨g, o, hA0, hA2⟩ := (H.out.1.later hwr).get (i := k) hlt
        obtain ⟨g', o', hB0, hB2⟩ := (H.out.2.1.later hwr).get (i := k) hlt
        dsimp only at hA0 hB0
        subst hA0 hB0
        obtain ⟨x, hx⟩ : ∃ x, x = es.getD k default := ⟨_, rfl⟩
        obtain ⟨y, hy⟩ : ∃ y, y = fs.getD k default := ⟨_, rfl⟩
        rw [← hx] at hA2
        rw [← hy] at hB2
        obtain ⟨a0, a1⟩ := rateC_cells hA2
        obtain ⟨b0, b1⟩ := rateC_cells hB2
        have e1 : (0 : Int) ≤ (k : Int) := by omega
        have e2 : (k : Int) < (n : Int) := by omega
        have qE := fun W => rate_eql x y W
        have qN := fun W => rate_neq x y W
        have qQ := fun W => rate_equal x y W
        have HW := Lib.hid hwr
        have HX := Lib.hid (And.intro hx (And.intro hy hall))
        clear hA2 hB2 hwr hx hy hall
        generalize hb : decide (x = y) = b at *
        have HBB := Lib.hid hb
        clear hb
        cases b
        · have hne : decide (es = fs) = false := by
            simp only [decide_eq_false_iff_not]
            have hxy : ¬ x = y := by simpa using HBB.out
            rw [HX.out.1, HX.out.2.1] at hxy
            exact fun e => hxy (by rw [e])
          have HNE := Lib.hid hne
          clear hne
          go_wp2
          go_quiet (fail)
          go_wp2
          go_ret
          exact ⟨by rw [HNE.out]; rfl, below_drewN HW.out _⟩
        · go_wp2
          go_quiet (fail)
          go_wp2
          go_roundw
          case rel =>
            refine ⟨k + 1, by omega, by go_num, below_drewN HW.out _, fun j hj => ?_⟩
            rcases Nat.lt_or_ge j k with h | h
            · exact HX.out.2.2 j h
            · obtain rfl : j = k := by omega
              rw [← HX.out.1, ← HX.out.2.1]
              simpa using HBB.out
          case measure => simp [intOf]; omega
      · have he : decide (es = fs) = true := by
          simp only [decide_eq_true_eq]
          exact list_eq_of H.out.2.2.1 (fun j hj => hall j (by have := H.out.2.2.2; omega))
        have HE := Lib.hid he
        have HW := Lib.hid hwr
        clear he hall hwr
        go_wp2
        go_ret
        exact ⟨by rw [HE.out]; rfl, HW.out⟩
  · have hne : decide (es = fs) = false := by
      simp only [decide_eq_false_iff_not]
      intro e
      rw [← l1, ← l2, e] at hnm
      exact hnm rfl
    have HNE := Lib.hid hne
    have hnm2 : ((n : Int) == (m : Int)) = false := beq_eq_false_iff_ne.2 (by omega)
    have hnm3 : ((n : Int) != (m : Int)) = true := by simp [bne, hnm2]
    clear h1 h2 l1 l2 hne
    go_enter Try.func67, Try.ntmps67
    go_wp2
    go_ret
    exact ⟨by rw [HNE.out]; rfl, Below.refl _ _⟩
theorem ft_equal (x y : Ft) (w : World) : (Op.equalIn 10000 54 (.agg #[.int .i64 x.s, .int .i64 x.n, .int .i64 x.r, .int .i64 x.c, .bool x.cut]) (.agg #[.int .i64 y.s, .int .i64 y.n, .int .i64 y.r, .int .i64 y.c, .bool y.cut])).run Try.prog w = .ok (decide (x = y)) w := by
  have h := ft_eql x y w
  rw [run_eql_struct] at h
  cases hr : (Op.equalIn 10000 54 (.agg #[.int .i64 x.s, .int .i64 x.n, .int .i64 x.r, .int .i64 x.c, .bool x.cut]) (.agg #[.int .i64 y.s, .int .i64 y.n, .int .i64 y.r, .int .i64 y.c, .bool y.cut])).run Try.prog w with
  | ok b w' =>
    rw [hr] at h
    simp [Result.andThen] at h
    rw [h.1, h.2]
  | halt x w' => rw [hr] at h; simp [Result.andThen] at h
theorem ft_neq (x y : Ft) (w : World) : (binOp .neq 54 (.agg #[.int .i64 x.s, .int .i64 x.n, .int .i64 x.r, .int .i64 x.c, .bool x.cut]) (.agg #[.int .i64 y.s, .int .i64 y.n, .int .i64 y.r, .int .i64 y.c, .bool y.cut])).run Try.prog w = .ok (.bool (!decide (x = y))) w := by
  rw [run_neq_struct, ft_equal]; rfl

set_option maxRecDepth 100000 in
set_option maxHeartbeats 2000000 in
theorem same_ft (w : World) (s t : Sl) (es fs : List (Ft)) (h1 : RSrc ftC 5 w s es) (h2 : RSrc ftC 5 w t fs) :
    Calls Try.prog 71 #[s.v, t.v] w fun e w' => e = .returned (.bool (decide (es = fs))) ∧ Below w.heap.size w w' := by
  have l1 := h1.len
  have l2 := h2.len
  have m1 := Nat.le_trans h1.cap h1.max
  have m2 := Nat.le_trans h2.cap h2.max
  obtain ⟨A, n, c⟩ := s
  obtain ⟨B, m, d⟩ := t
  unfold Sl.v
  dsimp only at *
  by_cases hnm : n = m
  · subst hnm
    have hl : es.length = fs.length := l1.trans l2.symm
    have H := Lib.hid (And.intro h1 (And.intro h2 (And.intro hl l1)))
    clear h1 h2 hl l1 l2
    go_enter Try.func71, Try.ntmps71
    go_wp2
    go_loopw [13] (fun iv wr => ∃ (k : Nat), k ≤ n ∧ iv = .int .i64 (k : Int) ∧ Below w.heap.size w wr ∧ ∀ j, j < k → es.getD j default = fs.getD j default) (fun iv _ => n - (intOf iv).toNat)
    case atStart => exact ⟨0, Nat.zero_le _, rfl, Below.refl _ _, fun j hj => absurd hj (Nat.not_lt_zero _)⟩
    case round =>
      obtain ⟨k, hk, rfl, hwr, hall⟩ := hrel
      by_cases hlt : k < n
      · obtain ⟨g, o, hA0, hA2⟩ := (H.out.1.later hwr).get (i := k) hlt
        obtain ⟨g', o', hB0, hB2⟩ := (H.out.2.1.later hwr).get (i := k) hlt
        dsimp only at hA0 hB0
        subst hA0 hB0
        obtain ⟨x, hx⟩ : ∃ x, x = es.getD k default := ⟨_, rfl⟩
        obtain ⟨y, hy⟩ : ∃ y, y = fs.getD k default := ⟨_, rfl⟩
        rw [← hx] at hA2
        rw [← hy] at hB2
        obtain ⟨a0, a1, a2, a3, a4⟩ := ftC_cells hA2
        obtain ⟨b0, b1, b2, b3, b4⟩ := ftC_cells hB2
        have e1 : (0 : Int) ≤ (k : Int) := by omega
        have e2 : (k : Int) < (n : Int) := by omega
        have qE := fun W => ft_eql x y W
        have qN := fun W => ft_neq x y W
        have qQ := fun W => ft_equal x y W
        have HW := Lib.hid hwr
        have HX := Lib.hid (And.intro hx (And.intro hy hall))
        clear hA2 hB2 hwr hx hy hall
        generalize hb : decide (x = y) = b at *
        have HBB := Lib.hid hb
        clear hb
        cases b
        · have hne : decide (es = fs) = false := by
            simp only [decide_eq_false_iff_not]
            have hxy : ¬ x = y := by simpa using HBB.out
            rw [HX.out.1, HX.out.2.1] at hxy
            exact fun e => hxy (by rw [e])
          have HNE := Lib.hid hne
          clear hne
          go_wp2
          go_quiet (fail)
          go_wp2
          go_ret
          exact ⟨by rw [HNE.out]; rfl, below_drewN HW.out _⟩
        · go_wp2
          go_quiet (fail)
          go_wp2
          go_roundw
          case rel =>
            refine ⟨k + 1, by omega, by go_num, below_drewN HW.out _, fun j hj => ?_⟩
            rcases Nat.lt_or_ge j k with h | h
            · exact HX.out.2.2 j h
            · obtain rfl : j = k := by omega
              rw [← HX.out.1, ← HX.out.2.1]
              simpa using HBB.out
          case measure => simp [intOf]; omega
      · have he : decide (es = fs) = true := by
          simp only [decide_eq_true_eq]
          exact list_eq_of H.out.2.2.1 (fun j hj => hall j (by have := H.out.2.2.2; omega))
        have HE := Lib.hid he
        have HW := Lib.hid hwr
        clear he hall hwr
        go_wp2
        go_ret
        exact ⟨by rw [HE.out]; rfl, HW.out⟩
  · have hne : decide (es = fs) = false := by
      simp only [decide_eq_false_iff_not]
      intro e
      rw [← l1, ← l2, e] at hnm
      exact hnm rfl
    have HNE := Lib.hid hne
    have hnm2 : ((n : Int) == (m : Int)) = false := beq_eq_false_iff_ne.2 (by omega)
    have hnm3 : ((n : Int) != (m : Int)) = true := by simp [bne, hnm2]
    clear h1 h2 l1 l2 hne
    go_enter Try.func71, Try.ntmps71
    go_wp2
    go_ret
    exact ⟨by rw [HNE.out]; rfl, Below.refl _ _⟩

set_option maxRecDepth 100000 in
set_option maxHeartbeats 2000000 in
theorem same_int (w : World) (s t : Sl) (es fs : List (Int)) (h1 : RSrc numC 1 w s es) (h2 : RSrc numC 1 w t fs) :
    Calls Try.prog 68 #[s.v, t.v] w fun e w' => e = .returned (.bool (decide (es = fs))) ∧ Below w.heap.size w w' := by
  have l1 := h1.len
  have l2 := h2.len
  have m1 := Nat.le_trans h1.cap h1.max
  have m2 := Nat.le_trans h2.cap h2.max
  obtain ⟨A, n, c⟩ := s
  obtain ⟨B, m, d⟩ := t
  unfold Sl.v
  dsimp only at *
  by_cases hnm : n = m
  · subst hnm
    have hl : es.length = fs.length := l1.trans l2.symm
    have H := Lib.hid (And.intro h1 (And.intro h2 (And.intro hl l1)))
    clear h1 h2 hl l1 l2
    go_enter Try.func68, Try.ntmps68
    go_wp2
    go_loopw [13] (fun iv wr => ∃ (k : Nat), k ≤ n ∧ iv = .int .i64 (k : Int) ∧ Below w.heap.size w wr ∧ ∀ j, j < k → es.getD j default = fs.getD j default) (fun iv _ => n - (intOf iv).toNat)
    case atStart => exact ⟨0, Nat.zero_le _, rfl, Below.refl _ _, fun j hj => absurd hj (Nat.not_lt_zero _)⟩
    case round =>
      obtain ⟨k, hk, rfl, hwr, hall⟩ := hrel
      by_cases hlt : k < n
      · obtain ⟨g, o, hA0, hA2⟩ := (H.out.1.later hwr).get (i := k) hlt
        obtain ⟨g', o', hB0, hB2⟩ := (H.out.2.1.later hwr).get (i := k) hlt
        dsimp only at hA0 hB0
        subst hA0 hB0
        obtain ⟨x, hx⟩ : ∃ x, x = es.getD k default := ⟨_, rfl⟩
        obtain ⟨y, hy⟩ : ∃ y, y = fs.getD k default := ⟨_, rfl⟩
        rw [← hx] at hA2
        rw [← hy] at hB2
        have a0 := numC_cell hA2
        have b0 := numC_cell hB2
        have e1 : (0 : Int) ≤ (k : Int) := by omega
        have e2 : (k : Int) < (n : Int) := by omega
        skip
        have HW := Lib.hid hwr
        have HX := Lib.hid (And.intro hx (And.intro hy hall))
        clear hA2 hB2 hwr hx hy hall
        have hbn : (x != y) = !decide (x = y) := rfl
        have hbe : (x == y) = decide (x = y) := rfl
        generalize hb : decide (x = y) = b at *
        have HBB := Lib.hid hb
        clear hb
        cases b
        · have hne : decide (es = fs) = false := by
            simp only [decide_eq_false_iff_not]
            have hxy : ¬ x = y := by simpa using HBB.out
            rw [HX.out.1, HX.out.2.1] at hxy
            exact fun e => hxy (by rw [e])
          have HNE := Lib.hid hne
          clear hne
          go_wp2
          go_quiet (fail)
          go_wp2
          go_ret
          exact ⟨by rw [HNE.out]; rfl, below_drewN HW.out _⟩
        · go_wp2
          go_quiet (fail)
          go_wp2
          go_roundw
          case rel =>
            refine ⟨k + 1, by omega, by go_num, below_drewN HW.out _, fun j hj => ?_⟩
            rcases Nat.lt_or_ge j k with h | h
            · exact HX.out.2.2 j h
            · obtain rfl : j = k := by omega
              rw [← HX.out.1, ← HX.out.2.1]
              simpa using HBB.out
          case measure => simp [intOf]; omega
      · have he : decide (es = fs) = true := by
          simp only [decide_eq_true_eq]
          exact list_eq_of H.out.2.2.1 (fun j hj => hall j (by have := H.out.2.2.2; omega))
        have HE := Lib.hid he
        have HW := Lib.hid hwr
        clear he hall hwr
        go_wp2
        go_ret
        exact ⟨by rw [HE.out]; rfl, HW.out⟩
  · have hne : decide (es = fs) = false := by
      simp only [decide_eq_false_iff_not]
      intro e
      rw [← l1, ← l2, e] at hnm
      exact hnm rfl
    have HNE := Lib.hid hne
    have hnm2 : ((n : Int) == (m : Int)) = false := beq_eq_false_iff_ne.2 (by omega)
    have hnm3 : ((n : Int) != (m : Int)) = true := by simp [bne, hnm2]
    clear h1 h2 l1 l2 hne
    go_enter Try.func68, Try.ntmps68
    go_wp2
    go_ret
    exact ⟨by rw [HNE.out]; rfl, Below.refl _ _⟩
end Go.Proofs.Ytljcaigaofalbaa
