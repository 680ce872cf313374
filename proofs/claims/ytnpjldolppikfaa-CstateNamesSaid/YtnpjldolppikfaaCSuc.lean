/- The successor of a C-state: the program's and the document's, each by a contract. -/
import Derived.Test.YtnpjldolppikfaaCStep
namespace Go.Proofs.Ytnpjldolppikfaa
open Go.RowKit

theorem sucT_no {r s m n v : Int} (h : sucB r s m n = false) : sucT r s m n v = .tuple #[.agg #[.int .i64 0, .int .i64 0, .int .i64 0, .int .u16 0], .int .i64 40] := by
  simp [sucT, csv, sucR, sucS, sucM, sucV, sucE, h]
theorem sucT_new {r s m n v : Int} (h : sucB r s m n = true) (e : s = n - 1) : sucT r s m n v = .tuple #[.agg #[.int .i64 (r + 1), .int .i64 0, .int .i64 m, .int .u16 v], .int .i64 0] := by
  simp only [sucT, csv, sucR, sucS, sucM, sucV, sucE, h, if_true, if_pos e]
theorem sucT_on {r s m n v : Int} (h : sucB r s m n = true) (e : ¬ s = n - 1) : sucT r s m n v = .tuple #[.agg #[.int .i64 r, .int .i64 (s + 1), .int .i64 m, .int .u16 v], .int .i64 0] := by
  simp only [sucT, csv, sucR, sucS, sucM, sucV, sucE, h, if_true, if_neg e]
theorem sucB_no1 {r s m n : Int} (h : amongB r s m n = false) : sucB r s m n = false := by simp [sucB, h]
theorem sucB_no2 {r s m n : Int} (h1 : r = 2147483647) (h2 : s = n - 1) : sucB r s m n = false := by simp [sucB, h1, h2]
theorem sucB_yes {r s m n : Int} (h : amongB r s m n = true) (h1 : ¬ (r = 2147483647 ∧ s = n - 1)) : sucB r s m n = true := by
  simp only [sucB, h, Bool.true_and, Bool.not_eq_true', Bool.and_eq_false_iff, decide_eq_false_iff_not]
  by_cases e : r = 2147483647
  · exact .inr (fun e2 => h1 ⟨e, e2⟩)
  · exact .inl e

def SucAt (r s m v n : Int) (w : World) (e : Ending) (w' : World) : Prop := e = .returned (sucT r s m n v) ∧ Below w.heap.size w w'

set_option maxHeartbeats 1000000 in
theorem suc_no (r s m v n : Int) (w : World) (h : amongB r s m n = false) : Calls Try.prog 18 #[.agg #[.int .i64 r, .int .i64 s, .int .i64 m, .int .u16 v], .int .i64 n] w (SucAt r s m v n w) := by
  have hb : Below w.heap.size w ((w.alloc (.cells #[.int .i64 r, .int .i64 s, .int .i64 m, .int .u16 v] 25)).alloc (.cells #[.int .i64 0, .int .i64 0, .int .i64 0, .int .u16 0] 25)) := ((Below.refl _ _).alloc (Nat.le_refl _) _).alloc (by simp) _
  have HA := Lib.hid (amongE_no h)
  have HS := Lib.hid (sucT_no (v := v) (sucB_no1 h))
  clear h
  go_enter Try.func18, Try.ntmps18
  go_wp2_with (go_at_call 43; refine (among_any _ _ _ _ _ _).mono ?_; rintro e w' ⟨rfl, hb2⟩; rw [HA.out]; have hb3 := hb.trans (hb2.mono hb.size); obtain ⟨hc, hf⟩ := bcell hb2; have hz := hb2.size; simp at hz)
  refine bodyPost_ret (v := .tuple #[.agg #[.int .i64 0, .int .i64 0, .int .i64 0, .int .u16 0], .int .i64 40]) (by simp [results, Try.results18, go_sem, hc]) rfl ⟨by rw [HS.out], ?_⟩
  exact (((hb3.setCell (by simp) _).setCell (by simp) _).setCell (by simp) _).setCell (by simp) _

set_option maxHeartbeats 1000000 in
theorem suc_last (r s m v n : Int) (w : World) (h : amongB r s m n = true) (hr : r = 2147483647) (hs : s = n - 1) : Calls Try.prog 18 #[.agg #[.int .i64 r, .int .i64 s, .int .i64 m, .int .u16 v], .int .i64 n] w (SucAt r s m v n w) := by
  have hb : Below w.heap.size w ((w.alloc (.cells #[.int .i64 r, .int .i64 s, .int .i64 m, .int .u16 v] 25)).alloc (.cells #[.int .i64 0, .int .i64 0, .int .i64 0, .int .u16 0] 25)) := ((Below.refl _ _).alloc (Nat.le_refl _) _).alloc (by simp) _
  have hW1 := (Whole.new w 25 #[.int .i64 r, .int .i64 s, .int .i64 m, .int .u16 v]).alloc (.cells #[.int .i64 0, .int .i64 0, .int .i64 0, .int .u16 0] 25)
  have hW2 : Whole ((w.alloc (.cells #[.int .i64 r, .int .i64 s, .int .i64 m, .int .u16 v] 25)).alloc (.cells #[.int .i64 0, .int .i64 0, .int .i64 0, .int .u16 0] 25)) (w.heap.size + 1) 25 #[.int .i64 0, .int .i64 0, .int .i64 0, .int .u16 0] := by
    have := Whole.new (w.alloc (.cells #[.int .i64 r, .int .i64 s, .int .i64 m, .int .u16 v] 25)) 25 #[.int .i64 0, .int .i64 0, .int .i64 0, .int .u16 0]
    simpa using this
  obtain ⟨⟨n1, n2⟩, s3, hk⟩ := amongB_yes h
  obtain ⟨⟨r1, r2⟩, ⟨s1, s2⟩, ⟨m1, m2⟩⟩ := okC_yes hk
  have HA := Lib.hid (amongE_yes h)
  have HS := Lib.hid (sucT_no (v := v) (sucB_no2 (m := m) hr hs))
  have HK := Lib.hid (show chkC (r + 1) 0 m = 40 from by rw [hr]; simp [chkC, okC, winB])
  have e1 : s + 1 = n := by omega
  clear h hk hr hs
  go_enter Try.func18, Try.ntmps18
  go_wp2_with fail
  refine (among_any _ _ _ _ _ _).mono ?_
  rintro e w' ⟨rfl, hb2⟩
  rw [HA.out]
  have hb3 := hb.trans (hb2.mono hb.size)
  have hW3 := hW1.later hb2
  have hW4 := hW2.later hb2
  obtain ⟨c0, c1, c2, c3, cf⟩ := hW3.four
  obtain ⟨d0, d1, d2, d3, df⟩ := hW4.four
  clear hW1 hW2 hb hb2
  go_wp2_with fail
  refine (check_any _ _ _ _ _).mono ?_
  rintro e w2 ⟨rfl, hb4⟩
  rw [HK.out]
  have hW5 := whole_later hb4 (((hW3.set _ _).set _ _).set _ _)
  have hW6 := whole_later hb4 (((hW4.far (by simp) _).far (by simp) _).far (by simp) _)
  have hb6 := below_then hb4 (((hb3.setCell (p := ⟨w.heap.size, _, none⟩) (Nat.le_refl _) _).setCell (p := ⟨w.heap.size, _, none⟩) (Nat.le_refl _) _).setCell (p := ⟨w.heap.size, _, none⟩) (Nat.le_refl _) _)
  obtain ⟨f0, f1, f2, f3, ff⟩ := hW5.four
  obtain ⟨g0, g1, g2, g3, gf⟩ := hW6.four
  clear c0 c1 c2 c3 cf d0 d1 d2 d3 df hW3 hW4 hb3 hb4
  go_wp2
  refine bodyPost_ret (v := .tuple #[.agg #[.int .i64 0, .int .i64 0, .int .i64 0, .int .u16 0], .int .i64 40]) (by simp [results, Try.results18, go_sem, g0, g1, g2, g3]) rfl ⟨by rw [HS.out], ?_⟩
  exact ((((hb6.setCell (p := ⟨w.heap.size + 1, _, none⟩) (Nat.le_succ _) _).setCell (p := ⟨w.heap.size + 1, _, none⟩) (Nat.le_succ _) _).setCell (p := ⟨w.heap.size + 1, _, none⟩) (Nat.le_succ _) _).setCell (p := ⟨w.heap.size + 1, _, none⟩) (Nat.le_succ _) _)

set_option maxHeartbeats 1000000 in
theorem suc_new (r s m v n : Int) (w : World) (h : amongB r s m n = true) (hr : ¬ r = 2147483647) (hs : s = n - 1) : Calls Try.prog 18 #[.agg #[.int .i64 r, .int .i64 s, .int .i64 m, .int .u16 v], .int .i64 n] w (SucAt r s m v n w) := by
  have hb : Below w.heap.size w ((w.alloc (.cells #[.int .i64 r, .int .i64 s, .int .i64 m, .int .u16 v] 25)).alloc (.cells #[.int .i64 0, .int .i64 0, .int .i64 0, .int .u16 0] 25)) := ((Below.refl _ _).alloc (Nat.le_refl _) _).alloc (by simp) _
  have hW1 := (Whole.new w 25 #[.int .i64 r, .int .i64 s, .int .i64 m, .int .u16 v]).alloc (.cells #[.int .i64 0, .int .i64 0, .int .i64 0, .int .u16 0] 25)
  have hW2 : Whole ((w.alloc (.cells #[.int .i64 r, .int .i64 s, .int .i64 m, .int .u16 v] 25)).alloc (.cells #[.int .i64 0, .int .i64 0, .int .i64 0, .int .u16 0] 25)) (w.heap.size + 1) 25 #[.int .i64 0, .int .i64 0, .int .i64 0, .int .u16 0] := by
    have := Whole.new (w.alloc (.cells #[.int .i64 r, .int .i64 s, .int .i64 m, .int .u16 v] 25)) 25 #[.int .i64 0, .int .i64 0, .int .i64 0, .int .u16 0]
    simpa using this
  obtain ⟨⟨n1, n2⟩, s3, hk⟩ := amongB_yes h
  obtain ⟨⟨r1, r2⟩, ⟨s1, s2⟩, ⟨m1, m2⟩⟩ := okC_yes hk
  have HA := Lib.hid (amongE_yes h)
  have HS := Lib.hid (sucT_new (v := v) (sucB_yes h (fun g => hr g.1)) hs)
  have HK := Lib.hid (show chkC (r + 1) 0 m = 0 from by
    have := okC_mk (r := r + 1) (s := 0) (m := m) (by omega)
    simp [chkC, this])
  have e1 : s + 1 = n := by omega
  clear h hk hr hs
  go_enter Try.func18, Try.ntmps18
  go_wp2_with fail
  refine (among_any _ _ _ _ _ _).mono ?_
  rintro e w' ⟨rfl, hb2⟩
  rw [HA.out]
  have hb3 := hb.trans (hb2.mono hb.size)
  have hW3 := hW1.later hb2
  have hW4 := hW2.later hb2
  obtain ⟨c0, c1, c2, c3, cf⟩ := hW3.four
  obtain ⟨d0, d1, d2, d3, df⟩ := hW4.four
  clear hW1 hW2 hb hb2
  go_wp2_with fail
  refine (check_any _ _ _ _ _).mono ?_
  rintro e w2 ⟨rfl, hb4⟩
  rw [HK.out]
  have hW5 := whole_later hb4 (((hW3.set _ _).set _ _).set _ _)
  have hW6 := whole_later hb4 (((hW4.far (by simp) _).far (by simp) _).far (by simp) _)
  have hb6 := below_then hb4 (((hb3.setCell (p := ⟨w.heap.size, _, none⟩) (Nat.le_refl _) _).setCell (p := ⟨w.heap.size, _, none⟩) (Nat.le_refl _) _).setCell (p := ⟨w.heap.size, _, none⟩) (Nat.le_refl _) _)
  obtain ⟨f0, f1, f2, f3, ff⟩ := hW5.four
  obtain ⟨g0, g1, g2, g3, gf⟩ := hW6.four
  clear c0 c1 c2 c3 cf d0 d1 d2 d3 df hW3 hW4 hb3 hb4
  go_wp2
  refine bodyPost_ret (v := .tuple #[.agg #[.int .i64 (r + 1), .int .i64 0, .int .i64 m, .int .u16 v], .int .i64 0]) (by simp [results, Try.results18, go_sem, g0, g1, g2, g3]) rfl ⟨by rw [HS.out], ?_⟩
  exact ((((hb6.setCell (p := ⟨w.heap.size + 1, _, none⟩) (Nat.le_succ _) _).setCell (p := ⟨w.heap.size + 1, _, none⟩) (Nat.le_succ _) _).setCell (p := ⟨w.heap.size + 1, _, none⟩) (Nat.le_succ _) _).setCell (p := ⟨w.heap.size + 1, _, none⟩) (Nat.le_succ _) _)

set_option maxHeartbeats 1000000 in
theorem suc_on (r s m v n : Int) (w : World) (h : amongB r s m n = true) (hs : ¬ s = n - 1) : Calls Try.prog 18 #[.agg #[.int .i64 r, .int .i64 s, .int .i64 m, .int .u16 v], .int .i64 n] w (SucAt r s m v n w) := by
  have hb : Below w.heap.size w ((w.alloc (.cells #[.int .i64 r, .int .i64 s, .int .i64 m, .int .u16 v] 25)).alloc (.cells #[.int .i64 0, .int .i64 0, .int .i64 0, .int .u16 0] 25)) := ((Below.refl _ _).alloc (Nat.le_refl _) _).alloc (by simp) _
  have hW1 := (Whole.new w 25 #[.int .i64 r, .int .i64 s, .int .i64 m, .int .u16 v]).alloc (.cells #[.int .i64 0, .int .i64 0, .int .i64 0, .int .u16 0] 25)
  have hW2 : Whole ((w.alloc (.cells #[.int .i64 r, .int .i64 s, .int .i64 m, .int .u16 v] 25)).alloc (.cells #[.int .i64 0, .int .i64 0, .int .i64 0, .int .u16 0] 25)) (w.heap.size + 1) 25 #[.int .i64 0, .int .i64 0, .int .i64 0, .int .u16 0] := by
    have := Whole.new (w.alloc (.cells #[.int .i64 r, .int .i64 s, .int .i64 m, .int .u16 v] 25)) 25 #[.int .i64 0, .int .i64 0, .int .i64 0, .int .u16 0]
    simpa using this
  obtain ⟨⟨n1, n2⟩, s3, hk⟩ := amongB_yes h
  obtain ⟨⟨r1, r2⟩, ⟨s1, s2⟩, ⟨m1, m2⟩⟩ := okC_yes hk
  have HA := Lib.hid (amongE_yes h)
  have HS := Lib.hid (sucT_on (v := v) (sucB_yes h (fun g => hs g.2)) hs)
  have HK := Lib.hid (show chkC r (s + 1) m = 0 from by
    have := okC_mk (r := r) (s := s + 1) (m := m) (by omega)
    simp [chkC, this])
  have e1 : ((s + 1) == n) = false := by
    have : ¬ s + 1 = n := by omega
    simp [this]
  clear h hk hs
  go_enter Try.func18, Try.ntmps18
  go_wp2_with fail
  refine (among_any _ _ _ _ _ _).mono ?_
  rintro e w' ⟨rfl, hb2⟩
  rw [HA.out]
  have hb3 := hb.trans (hb2.mono hb.size)
  have hW3 := hW1.later hb2
  have hW4 := hW2.later hb2
  obtain ⟨c0, c1, c2, c3, cf⟩ := hW3.four
  obtain ⟨d0, d1, d2, d3, df⟩ := hW4.four
  clear hW1 hW2 hb hb2
  go_wp2_with fail
  refine (check_any _ _ _ _ _).mono ?_
  rintro e w2 ⟨rfl, hb4⟩
  rw [HK.out]
  have hW5 := whole_later hb4 (hW3.set _ _)
  have hW6 := whole_later hb4 (hW4.far (by simp) _)
  have hb6 := below_then hb4 (hb3.setCell (p := ⟨w.heap.size, _, none⟩) (Nat.le_refl _) _)
  obtain ⟨f0, f1, f2, f3, ff⟩ := hW5.four
  obtain ⟨g0, g1, g2, g3, gf⟩ := hW6.four
  clear c0 c1 c2 c3 cf d0 d1 d2 d3 df hW3 hW4 hb3 hb4
  go_wp2
  refine bodyPost_ret (v := .tuple #[.agg #[.int .i64 r, .int .i64 (s + 1), .int .i64 m, .int .u16 v], .int .i64 0]) (by simp [results, Try.results18, go_sem, g0, g1, g2, g3]) rfl ⟨by rw [HS.out], ?_⟩
  exact ((((hb6.setCell (p := ⟨w.heap.size + 1, _, none⟩) (Nat.le_succ _) _).setCell (p := ⟨w.heap.size + 1, _, none⟩) (Nat.le_succ _) _).setCell (p := ⟨w.heap.size + 1, _, none⟩) (Nat.le_succ _) _).setCell (p := ⟨w.heap.size + 1, _, none⟩) (Nat.le_succ _) _)

theorem suc_any (r s m v n : Int) (w : World) : Calls Try.prog 18 #[.agg #[.int .i64 r, .int .i64 s, .int .i64 m, .int .u16 v], .int .i64 n] w (SucAt r s m v n w) := by
  cases h : amongB r s m n
  · exact suc_no r s m v n w h
  · by_cases hs : s = n - 1
    · by_cases hr : r = 2147483647
      · exact suc_last r s m v n w h hr hs
      · exact suc_new r s m v n w h hr hs
    · exact suc_on r s m v n w h hs

set_option maxHeartbeats 1000000 in
theorem refSuc_no (r s m v n : Int) (w : World) (h : amongB r s m n = false) : Calls Try.prog 19 #[.agg #[.int .i64 r, .int .i64 s, .int .i64 m, .int .u16 v], .int .i64 n] w (SucAt r s m v n w) := by
  have hb : Below w.heap.size w ((w.alloc (.cells #[.int .i64 r, .int .i64 s, .int .i64 m, .int .u16 v] 25)).alloc (.cells #[.int .i64 0, .int .i64 0, .int .i64 0, .int .u16 0] 25)) := ((Below.refl _ _).alloc (Nat.le_refl _) _).alloc (by simp) _
  have hW1 := (Whole.new w 25 #[.int .i64 r, .int .i64 s, .int .i64 m, .int .u16 v]).alloc (.cells #[.int .i64 0, .int .i64 0, .int .i64 0, .int .u16 0] 25)
  have hW2 : Whole ((w.alloc (.cells #[.int .i64 r, .int .i64 s, .int .i64 m, .int .u16 v] 25)).alloc (.cells #[.int .i64 0, .int .i64 0, .int .i64 0, .int .u16 0] 25)) (w.heap.size + 1) 25 #[.int .i64 0, .int .i64 0, .int .i64 0, .int .u16 0] := by
    have := Whole.new (w.alloc (.cells #[.int .i64 r, .int .i64 s, .int .i64 m, .int .u16 v] 25)) 25 #[.int .i64 0, .int .i64 0, .int .i64 0, .int .u16 0]
    simpa using this
  have HA := Lib.hid h
  have HS := Lib.hid (sucT_no (v := v) (sucB_no1 h))
  clear h
  go_enter Try.func19, Try.ntmps19
  go_wp2_with fail
  refine (fits4_any _ _ _ _ _ _).mono ?_
  rintro e w' ⟨rfl, hb2⟩
  rw [HA.out]
  have hb3 := hb.trans (hb2.mono hb.size)
  have hW3 := hW1.later hb2
  have hW4 := hW2.later hb2
  obtain ⟨c0, c1, c2, c3, cf⟩ := hW3.four
  obtain ⟨d0, d1, d2, d3, df⟩ := hW4.four
  clear hW1 hW2 hb hb2
  go_wp2
  refine bodyPost_ret (v := .tuple #[.agg #[.int .i64 0, .int .i64 0, .int .i64 0, .int .u16 0], .int .i64 40]) (by simp [results, Try.results19, go_sem, d0, d1, d2, d3]) rfl ⟨by rw [HS.out], ?_⟩
  exact ((((hb3.setCell (p := ⟨w.heap.size + 1, _, none⟩) (Nat.le_succ _) _).setCell (p := ⟨w.heap.size + 1, _, none⟩) (Nat.le_succ _) _).setCell (p := ⟨w.heap.size + 1, _, none⟩) (Nat.le_succ _) _).setCell (p := ⟨w.heap.size + 1, _, none⟩) (Nat.le_succ _) _)

set_option maxHeartbeats 1000000 in
theorem refSuc_last (r s m v n : Int) (w : World) (h : amongB r s m n = true) (hr : r = 2147483647) (hs : s = n - 1) : Calls Try.prog 19 #[.agg #[.int .i64 r, .int .i64 s, .int .i64 m, .int .u16 v], .int .i64 n] w (SucAt r s m v n w) := by
  have hb : Below w.heap.size w ((w.alloc (.cells #[.int .i64 r, .int .i64 s, .int .i64 m, .int .u16 v] 25)).alloc (.cells #[.int .i64 0, .int .i64 0, .int .i64 0, .int .u16 0] 25)) := ((Below.refl _ _).alloc (Nat.le_refl _) _).alloc (by simp) _
  have hW1 := (Whole.new w 25 #[.int .i64 r, .int .i64 s, .int .i64 m, .int .u16 v]).alloc (.cells #[.int .i64 0, .int .i64 0, .int .i64 0, .int .u16 0] 25)
  have hW2 : Whole ((w.alloc (.cells #[.int .i64 r, .int .i64 s, .int .i64 m, .int .u16 v] 25)).alloc (.cells #[.int .i64 0, .int .i64 0, .int .i64 0, .int .u16 0] 25)) (w.heap.size + 1) 25 #[.int .i64 0, .int .i64 0, .int .i64 0, .int .u16 0] := by
    have := Whole.new (w.alloc (.cells #[.int .i64 r, .int .i64 s, .int .i64 m, .int .u16 v] 25)) 25 #[.int .i64 0, .int .i64 0, .int .i64 0, .int .u16 0]
    simpa using this
  obtain ⟨⟨n1, n2⟩, s3, hk⟩ := amongB_yes h
  obtain ⟨⟨r1, r2⟩, ⟨s1, s2⟩, ⟨m1, m2⟩⟩ := okC_yes hk
  have HA := Lib.hid h
  have HS := Lib.hid (sucT_no (v := v) (sucB_no2 (m := m) hr hs))
  clear h hk
  subst hr
  subst hs
  go_enter Try.func19, Try.ntmps19
  go_wp2_with fail
  refine (fits4_any _ _ _ _ _ _).mono ?_
  rintro e w' ⟨rfl, hb2⟩
  rw [HA.out]
  have hb3 := hb.trans (hb2.mono hb.size)
  have hW3 := hW1.later hb2
  have hW4 := hW2.later hb2
  obtain ⟨c0, c1, c2, c3, cf⟩ := hW3.four
  obtain ⟨d0, d1, d2, d3, df⟩ := hW4.four
  clear hW1 hW2 hb hb2
  go_wp2
  refine bodyPost_ret (v := .tuple #[.agg #[.int .i64 0, .int .i64 0, .int .i64 0, .int .u16 0], .int .i64 40]) (by simp [results, Try.results19, go_sem, d0, d1, d2, d3]) rfl ⟨by rw [HS.out], ?_⟩
  exact ((((hb3.setCell (p := ⟨w.heap.size + 1, _, none⟩) (Nat.le_succ _) _).setCell (p := ⟨w.heap.size + 1, _, none⟩) (Nat.le_succ _) _).setCell (p := ⟨w.heap.size + 1, _, none⟩) (Nat.le_succ _) _).setCell (p := ⟨w.heap.size + 1, _, none⟩) (Nat.le_succ _) _)

set_option maxHeartbeats 1000000 in
theorem refSuc_new (r s m v n : Int) (w : World) (h : amongB r s m n = true) (hr : ¬ r = 2147483647) (hs : s = n - 1) : Calls Try.prog 19 #[.agg #[.int .i64 r, .int .i64 s, .int .i64 m, .int .u16 v], .int .i64 n] w (SucAt r s m v n w) := by
  have hb : Below w.heap.size w ((w.alloc (.cells #[.int .i64 r, .int .i64 s, .int .i64 m, .int .u16 v] 25)).alloc (.cells #[.int .i64 0, .int .i64 0, .int .i64 0, .int .u16 0] 25)) := ((Below.refl _ _).alloc (Nat.le_refl _) _).alloc (by simp) _
  have hW1 := (Whole.new w 25 #[.int .i64 r, .int .i64 s, .int .i64 m, .int .u16 v]).alloc (.cells #[.int .i64 0, .int .i64 0, .int .i64 0, .int .u16 0] 25)
  have hW2 : Whole ((w.alloc (.cells #[.int .i64 r, .int .i64 s, .int .i64 m, .int .u16 v] 25)).alloc (.cells #[.int .i64 0, .int .i64 0, .int .i64 0, .int .u16 0] 25)) (w.heap.size + 1) 25 #[.int .i64 0, .int .i64 0, .int .i64 0, .int .u16 0] := by
    have := Whole.new (w.alloc (.cells #[.int .i64 r, .int .i64 s, .int .i64 m, .int .u16 v] 25)) 25 #[.int .i64 0, .int .i64 0, .int .i64 0, .int .u16 0]
    simpa using this
  obtain ⟨⟨n1, n2⟩, s3, hk⟩ := amongB_yes h
  obtain ⟨⟨r1, r2⟩, ⟨s1, s2⟩, ⟨m1, m2⟩⟩ := okC_yes hk
  have HA := Lib.hid h
  have HS := Lib.hid (sucT_new (v := v) (sucB_yes h (fun g => hr g.1)) hs)
  have e1 : (r == 2147483647) = false := by simp [hr]
  have e2 : decide (r = 2147483647) = false := by simp [hr]
  clear h hk
  subst hs
  go_enter Try.func19, Try.ntmps19
  go_wp2_with fail
  refine (fits4_any _ _ _ _ _ _).mono ?_
  rintro e w' ⟨rfl, hb2⟩
  rw [HA.out]
  have hb3 := hb.trans (hb2.mono hb.size)
  have hW3 := hW1.later hb2
  have hW4 := hW2.later hb2
  obtain ⟨c0, c1, c2, c3, cf⟩ := hW3.four
  obtain ⟨d0, d1, d2, d3, df⟩ := hW4.four
  clear hW1 hW2 hb hb2
  go_wp2
  refine bodyPost_ret (v := .tuple #[.agg #[.int .i64 (r + 1), .int .i64 0, .int .i64 m, .int .u16 v], .int .i64 0]) (by simp [results, Try.results19, go_sem, d0, d1, d2, d3]) rfl ⟨by rw [HS.out], ?_⟩
  exact ((((((hb3.setCell (p := ⟨w.heap.size, _, none⟩) (Nat.le_refl _) _).setCell (p := ⟨w.heap.size, _, none⟩) (Nat.le_refl _) _).setCell (p := ⟨w.heap.size + 1, _, none⟩) (Nat.le_succ _) _).setCell (p := ⟨w.heap.size + 1, _, none⟩) (Nat.le_succ _) _).setCell (p := ⟨w.heap.size + 1, _, none⟩) (Nat.le_succ _) _).setCell (p := ⟨w.heap.size + 1, _, none⟩) (Nat.le_succ _) _)

set_option maxHeartbeats 1000000 in
theorem refSuc_on1 (r s m v n : Int) (w : World) (h : amongB r s m n = true) (hr : ¬ r = 2147483647) (hs : ¬ s = n - 1) : Calls Try.prog 19 #[.agg #[.int .i64 r, .int .i64 s, .int .i64 m, .int .u16 v], .int .i64 n] w (SucAt r s m v n w) := by
  have hb : Below w.heap.size w ((w.alloc (.cells #[.int .i64 r, .int .i64 s, .int .i64 m, .int .u16 v] 25)).alloc (.cells #[.int .i64 0, .int .i64 0, .int .i64 0, .int .u16 0] 25)) := ((Below.refl _ _).alloc (Nat.le_refl _) _).alloc (by simp) _
  have hW1 := (Whole.new w 25 #[.int .i64 r, .int .i64 s, .int .i64 m, .int .u16 v]).alloc (.cells #[.int .i64 0, .int .i64 0, .int .i64 0, .int .u16 0] 25)
  have hW2 : Whole ((w.alloc (.cells #[.int .i64 r, .int .i64 s, .int .i64 m, .int .u16 v] 25)).alloc (.cells #[.int .i64 0, .int .i64 0, .int .i64 0, .int .u16 0] 25)) (w.heap.size + 1) 25 #[.int .i64 0, .int .i64 0, .int .i64 0, .int .u16 0] := by
    have := Whole.new (w.alloc (.cells #[.int .i64 r, .int .i64 s, .int .i64 m, .int .u16 v] 25)) 25 #[.int .i64 0, .int .i64 0, .int .i64 0, .int .u16 0]
    simpa using this
  obtain ⟨⟨n1, n2⟩, s3, hk⟩ := amongB_yes h
  obtain ⟨⟨r1, r2⟩, ⟨s1, s2⟩, ⟨m1, m2⟩⟩ := okC_yes hk
  have HA := Lib.hid h
  have HS := Lib.hid (sucT_on (v := v) (sucB_yes h (fun g => hs g.2)) hs)
  have e1 : (s == n - 1) = false := by simp [hs]
  have e2 : (r == 2147483647) = false := by simp [hr]
  clear h hk hs
  go_enter Try.func19, Try.ntmps19
  go_wp2_with fail
  refine (fits4_any _ _ _ _ _ _).mono ?_
  rintro e w' ⟨rfl, hb2⟩
  rw [HA.out]
  have hb3 := hb.trans (hb2.mono hb.size)
  have hW3 := hW1.later hb2
  have hW4 := hW2.later hb2
  obtain ⟨c0, c1, c2, c3, cf⟩ := hW3.four
  obtain ⟨d0, d1, d2, d3, df⟩ := hW4.four
  clear hW1 hW2 hb hb2
  go_wp2
  refine bodyPost_ret (v := .tuple #[.agg #[.int .i64 r, .int .i64 (s + 1), .int .i64 m, .int .u16 v], .int .i64 0]) (by simp [results, Try.results19, go_sem, d0, d1, d2, d3]) rfl ⟨by rw [HS.out], ?_⟩
  exact (((((hb3.setCell (p := ⟨w.heap.size, _, none⟩) (Nat.le_refl _) _).setCell (p := ⟨w.heap.size + 1, _, none⟩) (Nat.le_succ _) _).setCell (p := ⟨w.heap.size + 1, _, none⟩) (Nat.le_succ _) _).setCell (p := ⟨w.heap.size + 1, _, none⟩) (Nat.le_succ _) _).setCell (p := ⟨w.heap.size + 1, _, none⟩) (Nat.le_succ _) _)

set_option maxHeartbeats 1000000 in
theorem refSuc_on2 (r s m v n : Int) (w : World) (h : amongB r s m n = true) (hr : r = 2147483647) (hs : ¬ s = n - 1) : Calls Try.prog 19 #[.agg #[.int .i64 r, .int .i64 s, .int .i64 m, .int .u16 v], .int .i64 n] w (SucAt r s m v n w) := by
  have hb : Below w.heap.size w ((w.alloc (.cells #[.int .i64 r, .int .i64 s, .int .i64 m, .int .u16 v] 25)).alloc (.cells #[.int .i64 0, .int .i64 0, .int .i64 0, .int .u16 0] 25)) := ((Below.refl _ _).alloc (Nat.le_refl _) _).alloc (by simp) _
  have hW1 := (Whole.new w 25 #[.int .i64 r, .int .i64 s, .int .i64 m, .int .u16 v]).alloc (.cells #[.int .i64 0, .int .i64 0, .int .i64 0, .int .u16 0] 25)
  have hW2 : Whole ((w.alloc (.cells #[.int .i64 r, .int .i64 s, .int .i64 m, .int .u16 v] 25)).alloc (.cells #[.int .i64 0, .int .i64 0, .int .i64 0, .int .u16 0] 25)) (w.heap.size + 1) 25 #[.int .i64 0, .int .i64 0, .int .i64 0, .int .u16 0] := by
    have := Whole.new (w.alloc (.cells #[.int .i64 r, .int .i64 s, .int .i64 m, .int .u16 v] 25)) 25 #[.int .i64 0, .int .i64 0, .int .i64 0, .int .u16 0]
    simpa using this
  obtain ⟨⟨n1, n2⟩, s3, hk⟩ := amongB_yes h
  obtain ⟨⟨r1, r2⟩, ⟨s1, s2⟩, ⟨m1, m2⟩⟩ := okC_yes hk
  have HA := Lib.hid h
  have HS := Lib.hid (sucT_on (v := v) (sucB_yes h (fun g => hs g.2)) hs)
  have e1 : (s == n - 1) = false := by simp [hs]
  clear h hk hs
  subst hr
  go_enter Try.func19, Try.ntmps19
  go_wp2_with fail
  refine (fits4_any _ _ _ _ _ _).mono ?_
  rintro e w' ⟨rfl, hb2⟩
  rw [HA.out]
  have hb3 := hb.trans (hb2.mono hb.size)
  have hW3 := hW1.later hb2
  have hW4 := hW2.later hb2
  obtain ⟨c0, c1, c2, c3, cf⟩ := hW3.four
  obtain ⟨d0, d1, d2, d3, df⟩ := hW4.four
  clear hW1 hW2 hb hb2
  go_wp2
  refine bodyPost_ret (v := .tuple #[.agg #[.int .i64 2147483647, .int .i64 (s + 1), .int .i64 m, .int .u16 v], .int .i64 0]) (by simp [results, Try.results19, go_sem, d0, d1, d2, d3]) rfl ⟨by rw [HS.out], ?_⟩
  exact (((((hb3.setCell (p := ⟨w.heap.size, _, none⟩) (Nat.le_refl _) _).setCell (p := ⟨w.heap.size + 1, _, none⟩) (Nat.le_succ _) _).setCell (p := ⟨w.heap.size + 1, _, none⟩) (Nat.le_succ _) _).setCell (p := ⟨w.heap.size + 1, _, none⟩) (Nat.le_succ _) _).setCell (p := ⟨w.heap.size + 1, _, none⟩) (Nat.le_succ _) _)

theorem refSuc_on (r s m v n : Int) (w : World) (h : amongB r s m n = true) (hs : ¬ s = n - 1) : Calls Try.prog 19 #[.agg #[.int .i64 r, .int .i64 s, .int .i64 m, .int .u16 v], .int .i64 n] w (SucAt r s m v n w) := by
  by_cases hr : r = 2147483647
  · exact refSuc_on2 r s m v n w h hr hs
  · exact refSuc_on1 r s m v n w h hr hs

theorem refSuc_any (r s m v n : Int) (w : World) : Calls Try.prog 19 #[.agg #[.int .i64 r, .int .i64 s, .int .i64 m, .int .u16 v], .int .i64 n] w (SucAt r s m v n w) := by
  cases h : amongB r s m n
  · exact refSuc_no r s m v n w h
  · by_cases hs : s = n - 1
    · by_cases hr : r = 2147483647
      · exact refSuc_last r s m v n w h hr hs
      · exact refSuc_new r s m v n w h hr hs
    · exact refSuc_on r s m v n w h hs

end Go.Proofs.Ytnpjldolppikfaa
