/- The C-state of bytes, or the error: the document's, by a contract. -/
import Derived.Test.YtnpjldolppikfaaCDecode
import Derived.Test.YtnpjldolppikfaaRef
import Derived.Deep.RegionHeld3
import Derived.IntWalk
namespace Go.Proofs.Ytnpjldolppikfaa
open Go.RowKit

theorem getSt_some {st : Option (List UInt8)} {k : Nat} {m : List UInt8} (h : (getSt st (k : Int)).1 = some m) : ∃ l, st = some l ∧ l.length = m.length + k := by
  unfold getSt at h
  split at h
  · unfold takeSt at h
    cases st with
    | none => simp at h
    | some l =>
      dsimp only at h
      split at h
      · rename_i hk
        simp at h
        refine ⟨l, rfl, ?_⟩
        rw [← h, List.length_drop]
        omega
      · simp at h
  · simp at h
theorem dec_len {l : List UInt8} (h : decB l = true) : l.length = 8 := by
  unfold decB at h
  rw [Bool.and_eq_true] at h
  have h1 := h.1
  cases e : (rd4 l).1 with
  | none => rw [e] at h1; cases h1
  | some m =>
    rw [e] at h1
    have hm : m = [] := by simpa [isDone] using h1
    subst hm
    obtain ⟨l3, e3, n3⟩ := getSt_some (k := 2) e
    obtain ⟨l2, e2, n2⟩ := getSt_some (k := 1) e3
    obtain ⟨l1, e1, n1⟩ := getSt_some (k := 1) e2
    obtain ⟨l0, e0, n0⟩ := getSt_some (k := 4) e1
    cases e0
    simp at n3
    omega
section
variable (x0 x1 x2 x3 x4 x5 x6 x7 : UInt8)
theorem rd1_eight : rd1 [x0, x1, x2, x3, x4, x5, x6, x7] = (some [x4, x5, x6, x7], beVal [x0, x1, x2, x3]) := by simp [rd1, getSt, takeSt, isW]
theorem rd2_eight : rd2 [x0, x1, x2, x3, x4, x5, x6, x7] = (some [x5, x6, x7], x4.toNat) := by rw [rd2, rd1_eight]; simp [getSt, takeSt, isW, beVal]
theorem rd3_eight : rd3 [x0, x1, x2, x3, x4, x5, x6, x7] = (some [x6, x7], x5.toNat) := by rw [rd3, rd2_eight]; simp [getSt, takeSt, isW, beVal]
theorem rd4_eight : rd4 [x0, x1, x2, x3, x4, x5, x6, x7] = (some [], beVal [x6, x7]) := by rw [rd4, rd3_eight]; simp [getSt, takeSt, isW]
theorem decB_eight : decB [x0, x1, x2, x3, x4, x5, x6, x7] = okC (beVal [x0, x1, x2, x3] : Int) (x4.toNat : Int) (x5.toNat : Int) := by
  rw [decB, rd1_eight, rd2_eight, rd3_eight, rd4_eight]
  simp [isDone]
theorem decT_eight (h : okC (beVal [x0, x1, x2, x3] : Int) (x4.toNat : Int) (x5.toNat : Int) = true) : decT [x0, x1, x2, x3, x4, x5, x6, x7] = .tuple #[.agg #[.int .i64 (beVal [x0, x1, x2, x3] : Int), .int .i64 (x4.toNat : Int), .int .i64 (x5.toNat : Int), .int .u16 (beVal [x6, x7] : Int)], .int .i64 0] := by
  rw [decT_yes (by rw [decB_eight]; exact h), rd1_eight, rd2_eight, rd3_eight, rd4_eight]
end

set_option maxHeartbeats 1000000 in
theorem refDecode_len (A : Option Addr) (n c : Nat) (l : List UInt8) (w : World) (h : n ≠ 8) (hv : decB l = false) : Calls Try.prog 15 #[.slice A n c] w (DecAt l w) := by
  have hb0 : Below w.heap.size w (w.alloc (.cells #[.int .i64 0, .int .i64 0, .int .i64 0, .int .u16 0] 25)) := (Below.refl _ _).alloc (Nat.le_refl _) _
  have d : ((n : Int) != 8) = true := by simp; omega
  have HV := Lib.hid (decT_no hv)
  clear h hv
  go_enter Try.func15, Try.ntmps15
  go_wp2
  exact bodyPost_ret (v := .tuple #[.agg #[.int .i64 0, .int .i64 0, .int .i64 0, .int .u16 0], .int .i64 40]) (by simp [results, Try.results15, go_sem]) rfl ⟨by rw [HV.out], hb0⟩

/-- Eight bytes at a place. -/
structure At8 (b o : Nat) (x0 x1 x2 x3 x4 x5 x6 x7 : UInt8) (w : World) : Prop where
  src : Src w (some ⟨b, o, none⟩) 8 [x0, x1, x2, x3, x4, x5, x6, x7]
section
variable {b o : Nat} {x0 x1 x2 x3 x4 x5 x6 x7 : UInt8} {w w' : World}
theorem At8.c4 (h : At8 b o x0 x1 x2 x3 x4 x5 x6 x7 w) : w.cell? ⟨b, o + 4, none⟩ = some (.int .u8 (x4.toNat : Int)) := by
  obtain ⟨b', o', e, hc⟩ := h.src.2 (by decide)
  cases e
  exact hc 4 (by simp)
theorem At8.c5 (h : At8 b o x0 x1 x2 x3 x4 x5 x6 x7 w) : w.cell? ⟨b, o + 5, none⟩ = some (.int .u8 (x5.toNat : Int)) := by
  obtain ⟨b', o', e, hc⟩ := h.src.2 (by decide)
  cases e
  exact hc 5 (by simp)
theorem At8.alloc (h : At8 b o x0 x1 x2 x3 x4 x5 x6 x7 w) (ob : Obj) : At8 b o x0 x1 x2 x3 x4 x5 x6 x7 (w.alloc ob) := ⟨h.src.kept ((Kept.refl Empty w).alloc ob) (fun _ _ h => h)⟩
theorem At8.drew (h : At8 b o x0 x1 x2 x3 x4 x5 x6 x7 w) : At8 b o x0 x1 x2 x3 x4 x5 x6 x7 w.drew := ⟨h.src⟩
theorem At8.num1 (h : At8 b o x0 x1 x2 x3 x4 x5 x6 x7 w) (c : Nat) : Calls Try.prog 41 #[.slice (some ⟨b, o, none⟩) 4 c] w fun e w' => e = .returned (.int .u64 (beVal [x0, x1, x2, x3] : Int)) ∧ w = w' :=
  number_any _ 4 c _ w (h.src.take (k := 4) (by decide)) (by decide)
theorem At8.num2 (h : At8 b o x0 x1 x2 x3 x4 x5 x6 x7 w) (c : Nat) : Calls Try.prog 41 #[.slice (some ⟨b, o + 6, none⟩) 2 c] w fun e w' => e = .returned (.int .u64 (beVal [x6, x7] : Int)) ∧ w = w' := by
  have hs := h.src.drop (k := 6) (c := 8) (by decide) (by decide)
  rw [if_neg (by decide)] at hs
  have hadd : (⟨b, o, none⟩ : Addr).add 6 = ⟨b, o + 6, none⟩ := by unfold Addr.add; split <;> simp_all
  rw [Option.map_some, hadd] at hs
  exact number_any _ 2 c _ w hs (by decide)
end

set_option maxRecDepth 100000 in
set_option maxHeartbeats 4000000 in
theorem refDecode_eight_no (b o c : Nat) (x0 x1 x2 x3 x4 x5 x6 x7 : UInt8) (w : World) (hc : 8 ≤ c) (hs : At8 b o x0 x1 x2 x3 x4 x5 x6 x7 w) (hk : okC (beVal [x0, x1, x2, x3] : Int) (x4.toNat : Int) (x5.toNat : Int) = false) : Calls Try.prog 15 #[.slice (some ⟨b, o, none⟩) 8 c] w (DecAt [x0, x1, x2, x3, x4, x5, x6, x7] w) := by
  obtain ⟨W, hWe⟩ : ∃ W, w.alloc (.cells #[.int .i64 0, .int .i64 0, .int .i64 0, .int .u16 0] 25) = W := ⟨_, rfl⟩
  have hb0 : Below w.heap.size w W := by rw [← hWe]; exact (Below.refl _ _).alloc (Nat.le_refl _) _
  have W0 : Whole W w.heap.size 25 #[.int .i64 0, .int .i64 0, .int .i64 0, .int .u16 0] := by rw [← hWe]; exact Whole.new _ _ _
  have h8 : At8 b o x0 x1 x2 x3 x4 x5 x6 x7 W := by rw [← hWe]; exact hs.alloc _
  have N1 := Lib.hid (fun (V : World) (h : At8 b o x0 x1 x2 x3 x4 x5 x6 x7 V) => h.num1 c)
  have N2 := Lib.hid (fun (V : World) (h : At8 b o x0 x1 x2 x3 x4 x5 x6 x7 V) => h.num2 (c - 6))
  have v1 := beVal_lt [x0, x1, x2, x3]
  have v2 := beVal_lt [x6, x7]
  have y4 := x4.toNat_lt
  have y5 := x5.toNat_lt
  have hv := decT_no (l := [x0, x1, x2, x3, x4, x5, x6, x7]) (by rw [decB_eight]; exact hk)
  have hch : chkC (beVal [x0, x1, x2, x3] : Int) (x4.toNat : Int) (x5.toNat : Int) = 40 := by simp [chkC, hk]
  clear hk
  simp at v1 v2
  generalize beVal [x0, x1, x2, x3] = R at *
  generalize beVal [x6, x7] = G at *
  have hc1 : (4 : Int) ≤ (c : Int) := by omega
  have hc2 : (6 : Int) ≤ (c : Int) := by omega
  have hc3 : ¬ c = 6 := by omega
  have hc4 : ¬ (c : Int) = 6 := by omega
  have q0 : IntKind.i64.wrap (R : Int) = (R : Int) := IntWalk.i64_in _ (by omega)
  have q1 : IntKind.i64.wrap (x4.toNat : Int) = (x4.toNat : Int) := IntWalk.i64_in _ (by omega)
  have q2 : IntKind.i64.wrap (x5.toNat : Int) = (x5.toNat : Int) := IntWalk.i64_in _ (by omega)
  have q3 : IntKind.u16.wrap (G : Int) = (G : Int) := IntWalk.u16_in _ (by omega)
  have HV := Lib.hid hv
  have HK := Lib.hid hch
  clear hv hch
  have HW := Lib.hid hWe
  clear hWe hs
  go_enter Try.func15, Try.ntmps15
  go_wp2_with fail
  rw [HW.out]
  have g1 := h8.drew
  have g2 := g1.alloc (.cells #[.int .i64 0, .int .i64 0, .int .i64 0, .int .u16 0] 25)
  have gA := Lib.hid (fun ob => g1.alloc ob)
  have gB := Lib.hid (fun ob => (h8.alloc ob).drew)
  have k1 := Lib.hid g1
  have k3 := Lib.hid (h8.alloc (.cells #[.int .i64 0, .int .i64 0, .int .i64 0, .int .u16 0] 25)).drew
  have k2 := Lib.hid g2
  have a4 := g1.c4
  have a5 := g1.c5
  have b4 := g2.c4
  have b5 := g2.c5
  clear h8 g1 g2
  go_region_held3 (fun w' => w'.cell? ⟨b, o + 4, none⟩ = some (.int .u8 (x4.toNat : Int)) ∧ w'.cell? ⟨b, o + 5, none⟩ = some (.int .u8 (x5.toNat : Int))) (first | exact ⟨a4, a5⟩ | exact ⟨b4, b5⟩ | exact ⟨(gA.out _).c4, (gA.out _).c5⟩ | exact ⟨(gB.out _).c4, (gB.out _).c5⟩)
    (first
      | (go_at_call 41; ((with_reducible refine (N1.out _ k1.out).mono ?_); rintro e w' ⟨rfl, rfl⟩))
      | (go_at_call 41; ((with_reducible refine (N1.out _ k2.out).mono ?_); rintro e w' ⟨rfl, rfl⟩))
      | (go_at_call 41; ((with_reducible refine (N1.out _ k3.out).mono ?_); rintro e w' ⟨rfl, rfl⟩))
      | (go_at_call 41; ((with_reducible refine (N2.out _ k1.out).mono ?_); rintro e w' ⟨rfl, rfl⟩))
      | (go_at_call 41; ((with_reducible refine (N2.out _ k2.out).mono ?_); rintro e w' ⟨rfl, rfl⟩))
      | (go_at_call 41; ((with_reducible refine (N2.out _ k3.out).mono ?_); rintro e w' ⟨rfl, rfl⟩)))
  all_goals
    have W1 := (W0.alloc (.cells #[.int .i64 (R : Int), .int .i64 (x4.toNat : Int), .int .i64 (x5.toNat : Int), .int .u16 (G : Int)] 25)).drew
    have Y1 := (Whole.new W 25 #[.int .i64 (R : Int), .int .i64 (x4.toNat : Int), .int .i64 (x5.toNat : Int), .int .u16 (G : Int)]).drew
    have hb5 := (hb0.alloc hb0.size (.cells #[.int .i64 (R : Int), .int .i64 (x4.toNat : Int), .int .i64 (x5.toNat : Int), .int .u16 (G : Int)] 25)).drew
    clear a4 a5 b4 b5
    generalize (W.alloc (.cells #[.int .i64 (R : Int), .int .i64 (x4.toNat : Int), .int .i64 (x5.toNat : Int), .int .u16 (G : Int)] 25)).drew = V at *
    obtain ⟨d0, d1, d2, d3, df⟩ := W1.four
    obtain ⟨y0, y1, y2, y3, yf⟩ := Y1.four
    go_wp2_with fail
    refine (refCheck_any _ _ _ _ _).mono ?_
    rintro e w4 ⟨rfl, k4⟩
    rw [HK.out]
    have hb6 := below_then k4 hb5
    have W2 := whole_later k4 W1
    have Y2 := whole_later k4 Y1
    clear d0 d1 d2 d3 df y0 y1 y2 y3 yf hb5 W1 Y1 k4
    obtain ⟨d0, d1, d2, d3, df⟩ := W2.four
    obtain ⟨y0, y1, y2, y3, yf⟩ := Y2.four
    go_wp2
    refine bodyPost_ret (v := .tuple #[.agg #[.int .i64 0, .int .i64 0, .int .i64 0, .int .u16 0], .int .i64 40]) (by simp [results, Try.results15, go_sem, d0, d1, d2, d3]) rfl ⟨by rw [HV.out], ?_⟩
    exact ((((hb6.setCell (p := ⟨w.heap.size, _, none⟩) (Nat.le_refl _) _).setCell (p := ⟨w.heap.size, _, none⟩) (Nat.le_refl _) _).setCell (p := ⟨w.heap.size, _, none⟩) (Nat.le_refl _) _).setCell (p := ⟨w.heap.size, _, none⟩) (Nat.le_refl _) _)


set_option maxRecDepth 100000 in
set_option maxHeartbeats 4000000 in
theorem refDecode_eight_yes (b o c : Nat) (x0 x1 x2 x3 x4 x5 x6 x7 : UInt8) (w : World) (hc : 8 ≤ c) (hs : At8 b o x0 x1 x2 x3 x4 x5 x6 x7 w) (hk : okC (beVal [x0, x1, x2, x3] : Int) (x4.toNat : Int) (x5.toNat : Int) = true) : Calls Try.prog 15 #[.slice (some ⟨b, o, none⟩) 8 c] w (DecAt [x0, x1, x2, x3, x4, x5, x6, x7] w) := by
  obtain ⟨W, hWe⟩ : ∃ W, w.alloc (.cells #[.int .i64 0, .int .i64 0, .int .i64 0, .int .u16 0] 25) = W := ⟨_, rfl⟩
  have hb0 : Below w.heap.size w W := by rw [← hWe]; exact (Below.refl _ _).alloc (Nat.le_refl _) _
  have W0 : Whole W w.heap.size 25 #[.int .i64 0, .int .i64 0, .int .i64 0, .int .u16 0] := by rw [← hWe]; exact Whole.new _ _ _
  have h8 : At8 b o x0 x1 x2 x3 x4 x5 x6 x7 W := by rw [← hWe]; exact hs.alloc _
  have N1 := Lib.hid (fun (V : World) (h : At8 b o x0 x1 x2 x3 x4 x5 x6 x7 V) => h.num1 c)
  have N2 := Lib.hid (fun (V : World) (h : At8 b o x0 x1 x2 x3 x4 x5 x6 x7 V) => h.num2 (c - 6))
  have v1 := beVal_lt [x0, x1, x2, x3]
  have v2 := beVal_lt [x6, x7]
  have y4 := x4.toNat_lt
  have y5 := x5.toNat_lt
  have hv := decT_eight x0 x1 x2 x3 x4 x5 x6 x7 hk
  have hch : chkC (beVal [x0, x1, x2, x3] : Int) (x4.toNat : Int) (x5.toNat : Int) = 0 := by simp [chkC, hk]
  clear hk
  simp at v1 v2
  generalize beVal [x0, x1, x2, x3] = R at *
  generalize beVal [x6, x7] = G at *
  have hc1 : (4 : Int) ≤ (c : Int) := by omega
  have hc2 : (6 : Int) ≤ (c : Int) := by omega
  have hc3 : ¬ c = 6 := by omega
  have hc4 : ¬ (c : Int) = 6 := by omega
  have q0 : IntKind.i64.wrap (R : Int) = (R : Int) := IntWalk.i64_in _ (by omega)
  have q1 : IntKind.i64.wrap (x4.toNat : Int) = (x4.toNat : Int) := IntWalk.i64_in _ (by omega)
  have q2 : IntKind.i64.wrap (x5.toNat : Int) = (x5.toNat : Int) := IntWalk.i64_in _ (by omega)
  have q3 : IntKind.u16.wrap (G : Int) = (G : Int) := IntWalk.u16_in _ (by omega)
  have HV := Lib.hid hv
  have HK := Lib.hid hch
  clear hv hch
  have HW := Lib.hid hWe
  clear hWe hs
  go_enter Try.func15, Try.ntmps15
  go_wp2_with fail
  rw [HW.out]
  have g1 := h8.drew
  have g2 := g1.alloc (.cells #[.int .i64 0, .int .i64 0, .int .i64 0, .int .u16 0] 25)
  have gA := Lib.hid (fun ob => g1.alloc ob)
  have gB := Lib.hid (fun ob => (h8.alloc ob).drew)
  have k1 := Lib.hid g1
  have k3 := Lib.hid (h8.alloc (.cells #[.int .i64 0, .int .i64 0, .int .i64 0, .int .u16 0] 25)).drew
  have k2 := Lib.hid g2
  have a4 := g1.c4
  have a5 := g1.c5
  have b4 := g2.c4
  have b5 := g2.c5
  clear h8 g1 g2
  go_region_held3 (fun w' => w'.cell? ⟨b, o + 4, none⟩ = some (.int .u8 (x4.toNat : Int)) ∧ w'.cell? ⟨b, o + 5, none⟩ = some (.int .u8 (x5.toNat : Int))) (first | exact ⟨a4, a5⟩ | exact ⟨b4, b5⟩ | exact ⟨(gA.out _).c4, (gA.out _).c5⟩ | exact ⟨(gB.out _).c4, (gB.out _).c5⟩)
    (first
      | (go_at_call 41; ((with_reducible refine (N1.out _ k1.out).mono ?_); rintro e w' ⟨rfl, rfl⟩))
      | (go_at_call 41; ((with_reducible refine (N1.out _ k2.out).mono ?_); rintro e w' ⟨rfl, rfl⟩))
      | (go_at_call 41; ((with_reducible refine (N1.out _ k3.out).mono ?_); rintro e w' ⟨rfl, rfl⟩))
      | (go_at_call 41; ((with_reducible refine (N2.out _ k1.out).mono ?_); rintro e w' ⟨rfl, rfl⟩))
      | (go_at_call 41; ((with_reducible refine (N2.out _ k2.out).mono ?_); rintro e w' ⟨rfl, rfl⟩))
      | (go_at_call 41; ((with_reducible refine (N2.out _ k3.out).mono ?_); rintro e w' ⟨rfl, rfl⟩)))
  all_goals
    have W1 := (W0.alloc (.cells #[.int .i64 (R : Int), .int .i64 (x4.toNat : Int), .int .i64 (x5.toNat : Int), .int .u16 (G : Int)] 25)).drew
    have Y1 := (Whole.new W 25 #[.int .i64 (R : Int), .int .i64 (x4.toNat : Int), .int .i64 (x5.toNat : Int), .int .u16 (G : Int)]).drew
    have hb5 := (hb0.alloc hb0.size (.cells #[.int .i64 (R : Int), .int .i64 (x4.toNat : Int), .int .i64 (x5.toNat : Int), .int .u16 (G : Int)] 25)).drew
    clear a4 a5 b4 b5
    generalize (W.alloc (.cells #[.int .i64 (R : Int), .int .i64 (x4.toNat : Int), .int .i64 (x5.toNat : Int), .int .u16 (G : Int)] 25)).drew = V at *
    obtain ⟨d0, d1, d2, d3, df⟩ := W1.four
    obtain ⟨y0, y1, y2, y3, yf⟩ := Y1.four
    go_wp2_with fail
    refine (refCheck_any _ _ _ _ _).mono ?_
    rintro e w4 ⟨rfl, k4⟩
    rw [HK.out]
    have hb6 := below_then k4 hb5
    have W2 := whole_later k4 W1
    have Y2 := whole_later k4 Y1
    clear d0 d1 d2 d3 df y0 y1 y2 y3 yf hb5 W1 Y1 k4
    obtain ⟨d0, d1, d2, d3, df⟩ := W2.four
    obtain ⟨y0, y1, y2, y3, yf⟩ := Y2.four
    go_wp2
    refine bodyPost_ret (v := .tuple #[.agg #[.int .i64 (R : Int), .int .i64 (x4.toNat : Int), .int .i64 (x5.toNat : Int), .int .u16 (G : Int)], .int .i64 0]) (by simp [results, Try.results15, go_sem, d0, d1, d2, d3]) rfl ⟨by rw [HV.out], ?_⟩
    exact ((((hb6.setCell (p := ⟨w.heap.size, _, none⟩) (Nat.le_refl _) _).setCell (p := ⟨w.heap.size, _, none⟩) (Nat.le_refl _) _).setCell (p := ⟨w.heap.size, _, none⟩) (Nat.le_refl _) _).setCell (p := ⟨w.heap.size, _, none⟩) (Nat.le_refl _) _)


theorem refDecode_any (A : Option Addr) (n c : Nat) (l : List UInt8) (w : World) (hs : Src w A n l) (hc : n ≤ c) : Calls Try.prog 15 #[.slice A n c] w (DecAt l w) := by
  by_cases hn : n = 8
  · subst hn
    obtain ⟨b, o, rfl, _⟩ := hs.2 (by decide)
    match l, hs.1, hs with
    | [x0, x1, x2, x3, x4, x5, x6, x7], _, hs =>
      cases hk : okC (beVal [x0, x1, x2, x3] : Int) (x4.toNat : Int) (x5.toNat : Int)
      · exact refDecode_eight_no b o c x0 x1 x2 x3 x4 x5 x6 x7 w hc ⟨hs⟩ hk
      · exact refDecode_eight_yes b o c x0 x1 x2 x3 x4 x5 x6 x7 w hc ⟨hs⟩ hk
  · refine refDecode_len A n c l w hn ?_
    cases e : decB l
    · rfl
    · exact absurd (hs.1.symm.trans (dec_len e)) hn

end Go.Proofs.Ytnpjldolppikfaa
