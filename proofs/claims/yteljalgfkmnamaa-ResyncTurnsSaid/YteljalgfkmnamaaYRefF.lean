/- The document's Fold, by its contract. No condition. -/
import Derived.Test.YteljalgfkmnamaaYFold
import Derived.Test.YteljalgfkmnamaaYRefT
import Derived.Deep.RegionHeld3
namespace Go.Proofs.Yteljalgfkmnamaa
open Go.RowKit Go.Shelf

theorem bel_al {a W : World} {o : Obj} (h : Below a.heap.size a W) : Below a.heap.size a (W.alloc o) := h.alloc h.size _
theorem bel_set {a W : World} {i : Nat} {v : Value} (h : Below a.heap.size a W) : Below a.heap.size a (W.setCell ⟨a.heap.size, i, none⟩ v) := h.setCell (Nat.le_refl _) v
theorem f_far {w : World} {g h : Nat} {t : TypeId} {cs : Array Value} (hne : g ≠ h) (k : Whole w g t cs) (v0 v1 v2 v3 : Value) : Whole ((((w.setCell ⟨h, 0, none⟩ v0).setCell ⟨h, 1, none⟩ v1).setCell ⟨h, 2, none⟩ v2).setCell ⟨h, 3, none⟩ v3) g t cs :=
  (((k.far (p := ⟨h, 0, none⟩) hne _).far (p := ⟨h, 1, none⟩) hne _).far (p := ⟨h, 2, none⟩) hne _).far (p := ⟨h, 3, none⟩) hne _
theorem fold_cells {w wr : World} {x : Pl} {r s t : Int} {b : Bool} {g o i : Nat} {v : Value} (hP : Whole wr w.heap.size 23 x.cells) (hY : Whole wr (w.heap.size + 1 + 1) 25 #[.int .i64 r, .int .i64 s, .int .i64 t, .bool b]) (hv : wr.cell? ⟨g, o + i, none⟩ = some v) :
    ∀ W, Below wr.heap.size wr W → W.cell? ⟨w.heap.size, 0, none⟩ = some (.int .i64 x.nodes) ∧ W.cell? ⟨w.heap.size, 1, none⟩ = some (.int .i64 x.kk) ∧ W.cell? ⟨w.heap.size, 2, none⟩ = some (.int .i64 x.slot) ∧ W.cell? ⟨w.heap.size, 3, none⟩ = some (.int .i64 x.sendOff) ∧ W.cell? ⟨w.heap.size, 4, none⟩ = some (.int .i64 x.window) ∧ W.cell? ⟨w.heap.size, 5, none⟩ = some (.int .i64 x.air) ∧ W.cell? ⟨w.heap.size, 6, none⟩ = some (.int .i64 x.dmin) ∧ W.cell? ⟨w.heap.size, 7, none⟩ = some (.int .i64 x.dmax) ∧ W.cell? ⟨w.heap.size, 8, none⟩ = some (.int .i64 x.rho) ∧ W.cell? ⟨w.heap.size, 9, none⟩ = some (.int .i64 x.pi) ∧ W.cell? ⟨w.heap.size, 10, none⟩ = some (.int .i64 x.cap) ∧ W.cell? ⟨w.heap.size, 11, none⟩ = some (.int .i64 x.delta) ∧ W.cell? ⟨w.heap.size, 12, none⟩ = some (.int .i64 x.queue) ∧ W.cell? ⟨w.heap.size, 13, none⟩ = some (.int .i64 x.burst) ∧ W.cell? ⟨w.heap.size, 14, none⟩ = some (.int .i64 x.payload) ∧ W.cell? ⟨w.heap.size, 15, none⟩ = some (.int .i64 x.horizon) ∧ W.cell? ⟨w.heap.size + 1 + 1, 0, none⟩ = some (.int .i64 r) ∧ W.cell? ⟨w.heap.size + 1 + 1, 1, none⟩ = some (.int .i64 s) ∧ W.cell? ⟨w.heap.size + 1 + 1, 2, none⟩ = some (.int .i64 t) ∧ W.cell? ⟨w.heap.size + 1 + 1, 3, none⟩ = some (.bool b) ∧ W.cell? ⟨g, o + i, none⟩ = some v := fun W hb => by
  have h1 := k_later hb hP
  have h2 := k_later hb hY
  exact ⟨h1.cell 0, h1.cell 1, h1.cell 2, h1.cell 3, h1.cell 4, h1.cell 5, h1.cell 6, h1.cell 7, h1.cell 8, h1.cell 9, h1.cell 10, h1.cell 11, h1.cell 12, h1.cell 13, h1.cell 14, h1.cell 15, h2.cell 0, h2.cell 1, h2.cell 2, h2.cell 3, k_cell hb hv⟩

set_option maxRecDepth 100000 in
set_option maxHeartbeats 4000000 in
theorem refFold_any (x : Pl) (w : World) (S : Sl) (ss : List Sl) (L : List (List Int)) (hs : Rws w S ss L) (hsh : Short ss 1000) :
    Calls Try.prog 12 #[.agg x.cells, S.v] w fun e w' => e = .returned (.tuple #[(foldY x L L.length).1.v, .int .i64 (foldY x L L.length).2]) ∧ Below w.heap.size w w' := by
  have hl := hs.many
  have hmx := Nat.le_trans hs.src.cap hs.src.max
  obtain ⟨w1, hw1⟩ : ∃ w1, w1 = ((w.alloc (.cells x.cells 23)).alloc (.cells #[.int .i64 0, .int .i64 0, .int .i64 0, .bool false] 25)).alloc (.cells #[.int .i64 0, .int .i64 0, .int .i64 0, .bool false] 25) := ⟨_, rfl⟩
  obtain ⟨k0, k1, k2, k3⟩ := boxes_turn x #[.int .i64 0, .int .i64 0, .int .i64 0, .bool false] w
  rw [← hw1] at k0 k1 k2 k3
  have H0 := Lib.hid (And.intro k0 (And.intro k1 (And.intro k2 k3)))
  have HW1 := Lib.hid hw1
  have HSS := Lib.hid hs
  have HSH := Lib.hid hsh
  have HL := Lib.hid hl
  obtain ⟨A, n, c⟩ := S
  unfold Sl.v at *
  dsimp only at *
  clear hs hsh hw1 k0 k1 k2 k3
  go_enter Try.func12, Try.ntmps12
  go_wp2
  rw [← HW1.out]
  go_loopw [7] (fun iv wr => ∃ i : Nat, i ≤ n ∧ iv = .int .i64 (i : Int) ∧ Below w.heap.size w wr ∧ Whole wr w.heap.size 23 x.cells ∧ Whole wr (w.heap.size + 1) 25 #[.int .i64 0, .int .i64 0, .int .i64 0, .bool false] ∧ Whole wr (w.heap.size + 1 + 1) 25 (foldY x L i).1.cells ∧ (foldY x L i).2 = 0) (fun iv _ => n - (intOf iv).toNat)
  case atStart => exact ⟨0, Nat.zero_le _, rfl, H0.out.1, H0.out.2.1, H0.out.2.2.1, H0.out.2.2.2, rfl⟩
  case round =>
    obtain ⟨i, hi, rfl, hwr, hP, hR, hY, hz⟩ := hrel
    clear H0
    by_cases hlt : i < n
    · have hrws := HSS.out.later hwr
      have hiss : i < ss.length := by rw [hrws.src.len]; exact hlt
      obtain ⟨g, o, hA0, hA2⟩ := hrws.src.get (i := i) hlt
      dsimp only at hA0
      subst hA0
      have a0 := slC_cells hA2
      rw [Nat.mul_one] at a0
      have hrow := hrws.row i hiss
      have hshort := HSH.out i hiss
      obtain ⟨⟨B, k, q⟩, hsl⟩ : ∃ sl, sl = ss.getD i default := ⟨_, rfl⟩
      rw [← hsl] at a0 hrow hshort
      have hst := fold_step hz
      have hrn := fold_run x L i hz
      have ht := fun W (hb : Below wr.heap.size wr W) => (refTurn_any x (runY x L i).y W ⟨B, k, q⟩ (L.getD i []) (hrow.later hb) hshort).mono fun _ _ h => (⟨h.1, k_then h.2 hb, h.2⟩ : _ ∧ Below wr.heap.size wr _ ∧ Below W.heap.size W _)
      have hstep : turnL x (runY x L i).y (L.getD i []) = runY x L (i + 1) := rfl
      rw [hstep] at ht
      rw [hrn] at hY
      obtain ⟨⟨⟨r', s', t', b'⟩, by_, e⟩, hnx⟩ : ∃ N, N = runY x L (i + 1) := ⟨_, rfl⟩
      rw [← hnx] at ht hst
      obtain ⟨⟨r, s, t, b⟩, hy0⟩ : ∃ y, y = (runY x L i).y := ⟨_, rfl⟩
      rw [← hy0] at ht hY
      unfold Tn.v Sl.v Sy.v Sy.cells at *
      dsimp only at *
      have hsf := fold_cells hP hY a0
      unfold Pl.cells at ht
      have HSF := Lib.hid hsf
      have HT := Lib.hid ht
      have HW := Lib.hid (And.intro hwr (And.intro hP (And.intro hR hY)))
      have HST := Lib.hid hst
      have HB0 := Lib.hid (Below.refl wr.heap.size wr)
      have e1 : (0 : Int) ≤ (i : Int) := by omega
      have e2 : (i : Int) < (n : Int) := by omega
      clear hwr hP hR hY hz hrws hA2 a0 hrow hshort hsl hst hrn ht hstep hnx hy0 hsf hiss HSS HSH
      have HZ8 := Lib.hid (show Whole (wr.alloc (.cells #[.int .i64 0, .int .i64 0, .int .i64 0, .bool false] 25)).drew wr.heap.size 25 #[.int .i64 0, .int .i64 0, .int .i64 0, .bool false] from Whole.new _ _ _)
      go_wp2
      go_region_held3 (fun w' => w'.cell? ⟨w.heap.size, 0, none⟩ = some (.int .i64 x.nodes) ∧ w'.cell? ⟨w.heap.size, 1, none⟩ = some (.int .i64 x.kk) ∧ w'.cell? ⟨w.heap.size, 2, none⟩ = some (.int .i64 x.slot) ∧ w'.cell? ⟨w.heap.size, 3, none⟩ = some (.int .i64 x.sendOff) ∧ w'.cell? ⟨w.heap.size, 4, none⟩ = some (.int .i64 x.window) ∧ w'.cell? ⟨w.heap.size, 5, none⟩ = some (.int .i64 x.air) ∧ w'.cell? ⟨w.heap.size, 6, none⟩ = some (.int .i64 x.dmin) ∧ w'.cell? ⟨w.heap.size, 7, none⟩ = some (.int .i64 x.dmax) ∧ w'.cell? ⟨w.heap.size, 8, none⟩ = some (.int .i64 x.rho) ∧ w'.cell? ⟨w.heap.size, 9, none⟩ = some (.int .i64 x.pi) ∧ w'.cell? ⟨w.heap.size, 10, none⟩ = some (.int .i64 x.cap) ∧ w'.cell? ⟨w.heap.size, 11, none⟩ = some (.int .i64 x.delta) ∧ w'.cell? ⟨w.heap.size, 12, none⟩ = some (.int .i64 x.queue) ∧ w'.cell? ⟨w.heap.size, 13, none⟩ = some (.int .i64 x.burst) ∧ w'.cell? ⟨w.heap.size, 14, none⟩ = some (.int .i64 x.payload) ∧ w'.cell? ⟨w.heap.size, 15, none⟩ = some (.int .i64 x.horizon) ∧ w'.cell? ⟨w.heap.size + 1 + 1, 0, none⟩ = some (.int .i64 r) ∧ w'.cell? ⟨w.heap.size + 1 + 1, 1, none⟩ = some (.int .i64 s) ∧ w'.cell? ⟨w.heap.size + 1 + 1, 2, none⟩ = some (.int .i64 t) ∧ w'.cell? ⟨w.heap.size + 1 + 1, 3, none⟩ = some (.bool b) ∧ w'.cell? ⟨g, o + i, none⟩ = some (.slice B k q)) (first | exact HSF.out _ (by repeat (first | exact HB0.out | exact hbc | exact HBC.out | refine bel_al ?_ | refine Below.drew ?_ | refine bel_set ?_)) | go_keep)
        (first
          | (go_at_call 10; refine (HT.out _ ?_).mono ?_; (any_goals (repeat (first | exact HB0.out | refine bel_al ?_ | refine Below.drew ?_))); rintro e' w4 ⟨rfl, hbc, hb⟩; (try (have hz8 := k_later hb HZ8.out; obtain ⟨d0, d1, d2, d3, d4⟩ := y_four hz8; have HD8 := Lib.hid hz8; clear hz8)); have HBC := Lib.hid hbc; clear hb))
      all_goals clear HT HSF
      · have HZ9 := Lib.hid (Whole.new w4 25 #[.int .i64 r', .int .i64 s', .int .i64 t', .bool b'])
        obtain ⟨V, hV⟩ : ∃ V, V = w4.alloc (.cells #[.int .i64 r', .int .i64 s', .int .i64 t', .bool b'] 25) := ⟨_, rfl⟩
        have hbV : Below wr.heap.size wr V := by rw [hV]; repeat (first | exact HBC.out | refine bel_al ?_ | refine bel_set ?_)
        have hT8 : Whole V w4.heap.size 25 #[.int .i64 r', .int .i64 s', .int .i64 t', .bool b'] := by rw [hV]; exact HZ9.out
        rw [← hV]
        have HV := Lib.hid (And.intro hbV hT8)
        clear hV hbV hT8 HBC HZ9
        have h1 := k_later HV.out.1 HW.out.2.2.1
        have h2 := k_later HV.out.1 HW.out.2.2.2
        have HX := Lib.hid (And.intro h1 h2)
        obtain ⟨f0, f1, f2, f3, -⟩ := y_four HV.out.2
        obtain ⟨m0, m1, m2, m3, m4⟩ := y_four h1
        obtain ⟨n0, n1, n2, n3, n4⟩ := y_four h2
        have HBV := Lib.hid (k_then HV.out.1 HW.out.1)
        clear h1 h2
        by_cases q : e = 0
        · subst q
          go_wp2
          go_roundw
          case rel =>
            refine ⟨i + 1, by omega, by go_num, y_below HBV.out (by omega) _ _ _ _, ?_, ?_, ?_, ?_⟩
            · exact f_far (by omega) (k_later HV.out.1 HW.out.2.1) _ _ _ _
            · exact f_far (by omega) HX.out.1 _ _ _ _
            · rw [HST.out]; exact y_store HX.out.2 _ _ _ _
            · rw [HST.out]
          case measure => simp [intOf]; omega
        · have q2 : (e != 0) = true := by simp [bne, q]
          have hne : (foldY x L (i + 1)).2 ≠ 0 := by rw [HST.out]; exact q
          have hfs := fold_stop hne L.length (by rw [HL.out]; omega)
          rw [HST.out] at hfs
          have HFS := Lib.hid hfs
          clear q hne hfs
          go_wp2
          refine bodyPost_ret (results_sy2 rfl _ _ _ 25 _ (0, 0) _ rfl rfl (y_store (f_far (by omega) HX.out.1 _ _ _ _) _ _ _ _) Try.underlying25 rfl sy_info) rfl ⟨?_, y_below (y_below HBV.out (by omega) _ _ _ _) (by omega) _ _ _ _⟩
          rw [HFS.out]
          rfl
      · have HZ9 := Lib.hid (y_store HD8.out (.int .i64 r') (.int .i64 s') (.int .i64 t') (.bool b'))
        obtain ⟨V, hV⟩ : ∃ V, V = (((w4.setCell ⟨wr.heap.size, 0, none⟩ (.int .i64 r')).setCell ⟨wr.heap.size, 1, none⟩ (.int .i64 s')).setCell ⟨wr.heap.size, 2, none⟩ (.int .i64 t')).setCell ⟨wr.heap.size, 3, none⟩ (.bool b') := ⟨_, rfl⟩
        have hbV : Below wr.heap.size wr V := by rw [hV]; repeat (first | exact HBC.out | refine bel_al ?_ | refine bel_set ?_)
        have hT8 : Whole V wr.heap.size 25 #[.int .i64 r', .int .i64 s', .int .i64 t', .bool b'] := by rw [hV]; exact HZ9.out
        rw [← hV]
        have HV := Lib.hid (And.intro hbV hT8)
        clear hV hbV hT8 HBC HZ9
        have h1 := k_later HV.out.1 HW.out.2.2.1
        have h2 := k_later HV.out.1 HW.out.2.2.2
        have HX := Lib.hid (And.intro h1 h2)
        obtain ⟨f0, f1, f2, f3, -⟩ := y_four HV.out.2
        obtain ⟨m0, m1, m2, m3, m4⟩ := y_four h1
        obtain ⟨n0, n1, n2, n3, n4⟩ := y_four h2
        have HBV := Lib.hid (k_then HV.out.1 HW.out.1)
        clear h1 h2
        by_cases q : e = 0
        · subst q
          go_wp2
          go_roundw
          case rel =>
            refine ⟨i + 1, by omega, by go_num, y_below HBV.out (by omega) _ _ _ _, ?_, ?_, ?_, ?_⟩
            · exact f_far (by omega) (k_later HV.out.1 HW.out.2.1) _ _ _ _
            · exact f_far (by omega) HX.out.1 _ _ _ _
            · rw [HST.out]; exact y_store HX.out.2 _ _ _ _
            · rw [HST.out]
          case measure => simp [intOf]; omega
        · have q2 : (e != 0) = true := by simp [bne, q]
          have hne : (foldY x L (i + 1)).2 ≠ 0 := by rw [HST.out]; exact q
          have hfs := fold_stop hne L.length (by rw [HL.out]; omega)
          rw [HST.out] at hfs
          have HFS := Lib.hid hfs
          clear q hne hfs
          go_wp2
          refine bodyPost_ret (results_sy2 rfl _ _ _ 25 _ (0, 0) _ rfl rfl (y_store (f_far (by omega) HX.out.1 _ _ _ _) _ _ _ _) Try.underlying25 rfl sy_info) rfl ⟨?_, y_below (y_below HBV.out (by omega) _ _ _ _) (by omega) _ _ _ _⟩
          rw [HFS.out]
          rfl
    · obtain rfl : i = n := by omega
      obtain ⟨⟨⟨r, s, t, b⟩, e⟩, hn0⟩ : ∃ N, N = foldY x L L.length := ⟨_, rfl⟩
      have hn1 : (⟨r, s, t, b⟩, e) = foldY x L i := by rw [hn0, HL.out]
      rw [← hn1] at hY hz
      have HN := Lib.hid hn0
      unfold Sy.cells at *
      dsimp only at *
      subst hz
      obtain ⟨m0, m1, m2, m3, m4⟩ := y_four hR
      obtain ⟨n0, n1, n2, n3, n4⟩ := y_four hY
      have HR := Lib.hid hR
      have HB := Lib.hid hwr
      clear hwr hP hR hY hn0 hn1
      go_wp2
      refine bodyPost_ret (results_sy2 rfl _ _ _ 25 _ (0, 0) _ rfl rfl (y_store HR.out _ _ _ _) Try.underlying25 rfl sy_info) rfl ⟨?_, y_below HB.out (by omega) _ _ _ _⟩
      rw [← HN.out]
      rfl
end Go.Proofs.Yteljalgfkmnamaa
