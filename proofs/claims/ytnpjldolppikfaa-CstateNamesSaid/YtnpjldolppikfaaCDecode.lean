/- The C-state of bytes, or the error: the program's, by a contract. -/
import Derived.Test.YtnpjldolppikfaaCDec
namespace Go.Proofs.Ytnpjldolppikfaa
open Go.RowKit

def decB (l : List UInt8) : Bool := isDone (rd4 l).1 && okC ((rd1 l).2 : Int) ((rd2 l).2 : Int) ((rd3 l).2 : Int)
def decR (l : List UInt8) : Nat := if decB l then (rd1 l).2 else 0
def decS (l : List UInt8) : Nat := if decB l then (rd2 l).2 else 0
def decM (l : List UInt8) : Nat := if decB l then (rd3 l).2 else 0
def decG (l : List UInt8) : Nat := if decB l then (rd4 l).2 else 0
def decE (l : List UInt8) : Int := if decB l then 0 else 40
def decT (l : List UInt8) : Value := .tuple #[.agg #[.int .i64 (decR l : Int), .int .i64 (decS l : Int), .int .i64 (decM l : Int), .int .u16 (decG l : Int)], .int .i64 (decE l)]
def DecAt (l : List UInt8) (w : World) (e : Ending) (w' : World) : Prop := e = .returned (decT l) ∧ Below w.heap.size w w'
theorem decT_no {l : List UInt8} (h : decB l = false) : decT l = .tuple #[.agg #[.int .i64 0, .int .i64 0, .int .i64 0, .int .u16 0], .int .i64 40] := by
  simp [decT, decR, decS, decM, decG, decE, h]
theorem decT_yes {l : List UInt8} (h : decB l = true) : decT l = .tuple #[.agg #[.int .i64 ((rd1 l).2 : Int), .int .i64 ((rd2 l).2 : Int), .int .i64 ((rd3 l).2 : Int), .int .u16 ((rd4 l).2 : Int)], .int .i64 0] := by
  simp [decT, decR, decS, decM, decG, decE, h]

set_option maxHeartbeats 1000000 in
theorem decode_no1 (A : Option Addr) (n c : Nat) (l : List UInt8) (w : World) (hs : Src w A n l) (hz : A = none → c = 0) (hn : n ≤ 549755813888) (hd : isDone (rd4 l).1 = false) : Calls Try.prog 14 #[.slice A n c] w (DecAt l w) := by
  have hl : l.length ≤ 549755813888 := by rw [hs.1]; exact hn
  have hb0 : Below w.heap.size w (w.alloc (.cells #[.int .i64 0, .int .i64 0, .int .i64 0, .int .u16 0] 25)) := (Below.refl _ _).alloc (Nat.le_refl _) _
  have hs0 : Src (w.alloc (.cells #[.int .i64 0, .int .i64 0, .int .i64 0, .int .u16 0] 25)) A n l := hs.kept ((Kept.refl Empty w).alloc _) (fun _ _ h => h)
  have W0 := Whole.new w 25 #[.int .i64 0, .int .i64 0, .int .i64 0, .int .u16 0]
  have HF := Lib.hid (from_any A n c l hs0 hz hn)
  have HV := Lib.hid (decT_no (l := l) (by simp [decB, hd]))
  have hD := Lib.hid hd
  clear hd
  have HRd := Lib.hid (fun (bi i : Nat) (S : Nat → Prop) (W : World) h hb hne => read_any bi i S l W h hl hb hne)
  generalize (rd1 l).2 = v1 at *
  generalize (rd2 l).2 = v2 at *
  generalize (rd3 l).2 = v3 at *
  generalize (rd4 l).2 = v4 at *
  generalize (rd4 l).1 = s4 at *
  clear hs hs0 hz hn hl
  go_enter Try.func14, Try.ntmps14
  have hmk := hmf
  go_wp2_with fail
  refine HF.out.mono ?_
  rintro e w1 ⟨i, S, rfl, hin, hS, b1⟩
  have hb1 := below_then b1 hb0
  have W1 := whole_later b1 W0
  have hin1 := hin.keep ((Kept.refl Empty w1).alloc (.cells #[.pointer (some ⟨i, 0, none⟩)] 71)) (fun _ _ h => h)
  have X1 := Whole.new w1 71 #[.pointer (some ⟨i, 0, none⟩)]
  have hi : i < w1.heap.size := hin.lt _ hin.own
  have hi2 : w.heap.size < i := by have := hS _ hin.own; simp at this; omega
  have hb1' := hb1.alloc hb1.size (.cells #[.pointer (some ⟨i, 0, none⟩)] 71)
  clear hb0 W0 HF hin b1 hS
  go_wp2_with fail
  refine (HRd.out _ _ _ _ hin1 X1 (by omega)).mono ?_
  rintro e w2 ⟨rfl, hin2, k2⟩
  have hb2 := k2.on hb1' (fun j hj => by simp [Its] at hj; omega) hb1'.size
  have X2 := whole_kept k2 (by simp [Its]; omega) X1
  have W2 := whole_kept k2 (by simp [Its]; omega) (W1.alloc (.cells #[.pointer (some ⟨i, 0, none⟩)] 71))
  have hin3 := hin2.keep ((Kept.refl Empty w2).alloc (.cells #[.int .i64 (v1 : Int), .int .i64 (v2 : Int), .int .i64 (v3 : Int), .int .u16 (v4 : Int)] 25)) (fun _ _ h => h)
  have z1 := X2.lt
  have z2 := W2.lt
  have x0 : w2.cell? ⟨w1.heap.size, 0, none⟩ = some (.pointer (some ⟨i, 0, none⟩)) := X2.cell 0
  obtain ⟨d0, d1, d2, d3, df⟩ := W2.four
  have hb3 := hb2.alloc hb2.size (.cells #[.int .i64 (v1 : Int), .int .i64 (v2 : Int), .int .i64 (v3 : Int), .int .u16 (v4 : Int)] 25)
  have W3 := W2.alloc (.cells #[.int .i64 (v1 : Int), .int .i64 (v2 : Int), .int .i64 (v3 : Int), .int .u16 (v4 : Int)] 25)
  have Y3 := Whole.new w2 25 #[.int .i64 (v1 : Int), .int .i64 (v2 : Int), .int .i64 (v3 : Int), .int .u16 (v4 : Int)]
  have HDn := Lib.hid (inDone_any hin3)
  clear hb1 hb1' W1 hin1 X1 hin2 k2 X2 W2 hb2 HRd hin3
  go_wp2_with fail
  refine HDn.out.mono ?_
  rintro e w' ⟨rfl, rfl⟩
  rw [hD.out]
  clear d0 d1 d2 d3 df x0 Y3 HDn
  obtain ⟨d0, d1, d2, d3, df⟩ := W3.four
  generalize w2.alloc (.cells #[.int .i64 (v1 : Int), .int .i64 (v2 : Int), .int .i64 (v3 : Int), .int .u16 (v4 : Int)] 25) = w5 at *
  go_wp2
  refine bodyPost_ret (v := .tuple #[.agg #[.int .i64 0, .int .i64 0, .int .i64 0, .int .u16 0], .int .i64 40]) (by simp [results, Try.results14, go_sem, d0, d1, d2, d3]) rfl ⟨by rw [HV.out], ?_⟩
  exact ((((hb3.setCell (p := ⟨w.heap.size, _, none⟩) (Nat.le_refl _) _).setCell (p := ⟨w.heap.size, _, none⟩) (Nat.le_refl _) _).setCell (p := ⟨w.heap.size, _, none⟩) (Nat.le_refl _) _).setCell (p := ⟨w.heap.size, _, none⟩) (Nat.le_refl _) _)

set_option maxHeartbeats 1000000 in
theorem decode_no2 (A : Option Addr) (n c : Nat) (l : List UInt8) (w : World) (hs : Src w A n l) (hz : A = none → c = 0) (hn : n ≤ 549755813888) (hd : isDone (rd4 l).1 = true) (hk : okC ((rd1 l).2 : Int) ((rd2 l).2 : Int) ((rd3 l).2 : Int) = false) : Calls Try.prog 14 #[.slice A n c] w (DecAt l w) := by
  have hl : l.length ≤ 549755813888 := by rw [hs.1]; exact hn
  have hb0 : Below w.heap.size w (w.alloc (.cells #[.int .i64 0, .int .i64 0, .int .i64 0, .int .u16 0] 25)) := (Below.refl _ _).alloc (Nat.le_refl _) _
  have hs0 : Src (w.alloc (.cells #[.int .i64 0, .int .i64 0, .int .i64 0, .int .u16 0] 25)) A n l := hs.kept ((Kept.refl Empty w).alloc _) (fun _ _ h => h)
  have W0 := Whole.new w 25 #[.int .i64 0, .int .i64 0, .int .i64 0, .int .u16 0]
  have HF := Lib.hid (from_any A n c l hs0 hz hn)
  have HV := Lib.hid (decT_no (l := l) (by simp [decB, hk]))
  have hD := Lib.hid hd
  have hK := Lib.hid (chk_not hk)
  clear hd hk
  have HRd := Lib.hid (fun (bi i : Nat) (S : Nat → Prop) (W : World) h hb hne => read_any bi i S l W h hl hb hne)
  generalize (rd1 l).2 = v1 at *
  generalize (rd2 l).2 = v2 at *
  generalize (rd3 l).2 = v3 at *
  generalize (rd4 l).2 = v4 at *
  generalize (rd4 l).1 = s4 at *
  clear hs hs0 hz hn hl
  go_enter Try.func14, Try.ntmps14
  have hmk := hmf
  go_wp2_with fail
  refine HF.out.mono ?_
  rintro e w1 ⟨i, S, rfl, hin, hS, b1⟩
  have hb1 := below_then b1 hb0
  have W1 := whole_later b1 W0
  have hin1 := hin.keep ((Kept.refl Empty w1).alloc (.cells #[.pointer (some ⟨i, 0, none⟩)] 71)) (fun _ _ h => h)
  have X1 := Whole.new w1 71 #[.pointer (some ⟨i, 0, none⟩)]
  have hi : i < w1.heap.size := hin.lt _ hin.own
  have hi2 : w.heap.size < i := by have := hS _ hin.own; simp at this; omega
  have hb1' := hb1.alloc hb1.size (.cells #[.pointer (some ⟨i, 0, none⟩)] 71)
  clear hb0 W0 HF hin b1 hS
  go_wp2_with fail
  refine (HRd.out _ _ _ _ hin1 X1 (by omega)).mono ?_
  rintro e w2 ⟨rfl, hin2, k2⟩
  have hb2 := k2.on hb1' (fun j hj => by simp [Its] at hj; omega) hb1'.size
  have X2 := whole_kept k2 (by simp [Its]; omega) X1
  have W2 := whole_kept k2 (by simp [Its]; omega) (W1.alloc (.cells #[.pointer (some ⟨i, 0, none⟩)] 71))
  have hin3 := hin2.keep ((Kept.refl Empty w2).alloc (.cells #[.int .i64 (v1 : Int), .int .i64 (v2 : Int), .int .i64 (v3 : Int), .int .u16 (v4 : Int)] 25)) (fun _ _ h => h)
  have z1 := X2.lt
  have z2 := W2.lt
  have x0 : w2.cell? ⟨w1.heap.size, 0, none⟩ = some (.pointer (some ⟨i, 0, none⟩)) := X2.cell 0
  obtain ⟨d0, d1, d2, d3, df⟩ := W2.four
  have hb3 := hb2.alloc hb2.size (.cells #[.int .i64 (v1 : Int), .int .i64 (v2 : Int), .int .i64 (v3 : Int), .int .u16 (v4 : Int)] 25)
  have W3 := W2.alloc (.cells #[.int .i64 (v1 : Int), .int .i64 (v2 : Int), .int .i64 (v3 : Int), .int .u16 (v4 : Int)] 25)
  have Y3 := Whole.new w2 25 #[.int .i64 (v1 : Int), .int .i64 (v2 : Int), .int .i64 (v3 : Int), .int .u16 (v4 : Int)]
  have HDn := Lib.hid (inDone_any hin3)
  clear hb1 hb1' W1 hin1 X1 hin2 k2 X2 W2 hb2 HRd hin3
  go_wp2_with fail
  refine HDn.out.mono ?_
  rintro e w' ⟨rfl, rfl⟩
  rw [hD.out]
  go_wp2_with fail
  refine (check_any _ _ _ _ _).mono ?_
  rintro e w4 ⟨rfl, k4⟩
  rw [hK.out]
  have hb4 := below_then k4 hb3
  have W4 := whole_later k4 W3
  have Y4 := whole_later k4 Y3
  clear d0 d1 d2 d3 df x0
  obtain ⟨d0, d1, d2, d3, df⟩ := W4.four
  obtain ⟨y0, y1, y2, y3, yf⟩ := Y4.four
  go_wp2
  refine bodyPost_ret (v := .tuple #[.agg #[.int .i64 0, .int .i64 0, .int .i64 0, .int .u16 0], .int .i64 40]) (by simp [results, Try.results14, go_sem, d0, d1, d2, d3]) rfl ⟨by rw [HV.out], ?_⟩
  exact ((((hb4.setCell (p := ⟨w.heap.size, _, none⟩) (Nat.le_refl _) _).setCell (p := ⟨w.heap.size, _, none⟩) (Nat.le_refl _) _).setCell (p := ⟨w.heap.size, _, none⟩) (Nat.le_refl _) _).setCell (p := ⟨w.heap.size, _, none⟩) (Nat.le_refl _) _)

set_option maxHeartbeats 1000000 in
theorem decode_yes (A : Option Addr) (n c : Nat) (l : List UInt8) (w : World) (hs : Src w A n l) (hz : A = none → c = 0) (hn : n ≤ 549755813888) (hd : isDone (rd4 l).1 = true) (hk : okC ((rd1 l).2 : Int) ((rd2 l).2 : Int) ((rd3 l).2 : Int) = true) : Calls Try.prog 14 #[.slice A n c] w (DecAt l w) := by
  have hl : l.length ≤ 549755813888 := by rw [hs.1]; exact hn
  have hb0 : Below w.heap.size w (w.alloc (.cells #[.int .i64 0, .int .i64 0, .int .i64 0, .int .u16 0] 25)) := (Below.refl _ _).alloc (Nat.le_refl _) _
  have hs0 : Src (w.alloc (.cells #[.int .i64 0, .int .i64 0, .int .i64 0, .int .u16 0] 25)) A n l := hs.kept ((Kept.refl Empty w).alloc _) (fun _ _ h => h)
  have W0 := Whole.new w 25 #[.int .i64 0, .int .i64 0, .int .i64 0, .int .u16 0]
  have HF := Lib.hid (from_any A n c l hs0 hz hn)
  have HV := Lib.hid (decT_yes (l := l) (by simp [decB, hk, hd]))
  have hD := Lib.hid hd
  have hK := Lib.hid (show chkC ((rd1 l).2 : Int) ((rd2 l).2 : Int) ((rd3 l).2 : Int) = 0 from by simp [chkC, hk])
  clear hd hk
  have HRd := Lib.hid (fun (bi i : Nat) (S : Nat → Prop) (W : World) h hb hne => read_any bi i S l W h hl hb hne)
  generalize (rd1 l).2 = v1 at *
  generalize (rd2 l).2 = v2 at *
  generalize (rd3 l).2 = v3 at *
  generalize (rd4 l).2 = v4 at *
  generalize (rd4 l).1 = s4 at *
  clear hs hs0 hz hn hl
  go_enter Try.func14, Try.ntmps14
  have hmk := hmf
  go_wp2_with fail
  refine HF.out.mono ?_
  rintro e w1 ⟨i, S, rfl, hin, hS, b1⟩
  have hb1 := below_then b1 hb0
  have W1 := whole_later b1 W0
  have hin1 := hin.keep ((Kept.refl Empty w1).alloc (.cells #[.pointer (some ⟨i, 0, none⟩)] 71)) (fun _ _ h => h)
  have X1 := Whole.new w1 71 #[.pointer (some ⟨i, 0, none⟩)]
  have hi : i < w1.heap.size := hin.lt _ hin.own
  have hi2 : w.heap.size < i := by have := hS _ hin.own; simp at this; omega
  have hb1' := hb1.alloc hb1.size (.cells #[.pointer (some ⟨i, 0, none⟩)] 71)
  clear hb0 W0 HF hin b1 hS
  go_wp2_with fail
  refine (HRd.out _ _ _ _ hin1 X1 (by omega)).mono ?_
  rintro e w2 ⟨rfl, hin2, k2⟩
  have hb2 := k2.on hb1' (fun j hj => by simp [Its] at hj; omega) hb1'.size
  have X2 := whole_kept k2 (by simp [Its]; omega) X1
  have W2 := whole_kept k2 (by simp [Its]; omega) (W1.alloc (.cells #[.pointer (some ⟨i, 0, none⟩)] 71))
  have hin3 := hin2.keep ((Kept.refl Empty w2).alloc (.cells #[.int .i64 (v1 : Int), .int .i64 (v2 : Int), .int .i64 (v3 : Int), .int .u16 (v4 : Int)] 25)) (fun _ _ h => h)
  have z1 := X2.lt
  have z2 := W2.lt
  have x0 : w2.cell? ⟨w1.heap.size, 0, none⟩ = some (.pointer (some ⟨i, 0, none⟩)) := X2.cell 0
  obtain ⟨d0, d1, d2, d3, df⟩ := W2.four
  have hb3 := hb2.alloc hb2.size (.cells #[.int .i64 (v1 : Int), .int .i64 (v2 : Int), .int .i64 (v3 : Int), .int .u16 (v4 : Int)] 25)
  have W3 := W2.alloc (.cells #[.int .i64 (v1 : Int), .int .i64 (v2 : Int), .int .i64 (v3 : Int), .int .u16 (v4 : Int)] 25)
  have Y3 := Whole.new w2 25 #[.int .i64 (v1 : Int), .int .i64 (v2 : Int), .int .i64 (v3 : Int), .int .u16 (v4 : Int)]
  have HDn := Lib.hid (inDone_any hin3)
  clear hb1 hb1' W1 hin1 X1 hin2 k2 X2 W2 hb2 HRd hin3
  go_wp2_with fail
  refine HDn.out.mono ?_
  rintro e w' ⟨rfl, rfl⟩
  rw [hD.out]
  go_wp2_with fail
  refine (check_any _ _ _ _ _).mono ?_
  rintro e w4 ⟨rfl, k4⟩
  rw [hK.out]
  have hb4 := below_then k4 hb3
  have W4 := whole_later k4 W3
  have Y4 := whole_later k4 Y3
  clear d0 d1 d2 d3 df x0
  obtain ⟨d0, d1, d2, d3, df⟩ := W4.four
  obtain ⟨y0, y1, y2, y3, yf⟩ := Y4.four
  go_wp2
  refine bodyPost_ret (v := .tuple #[.agg #[.int .i64 (v1 : Int), .int .i64 (v2 : Int), .int .i64 (v3 : Int), .int .u16 (v4 : Int)], .int .i64 0]) (by simp [results, Try.results14, go_sem, d0, d1, d2, d3]) rfl ⟨by rw [HV.out], ?_⟩
  exact ((((hb4.setCell (p := ⟨w.heap.size, _, none⟩) (Nat.le_refl _) _).setCell (p := ⟨w.heap.size, _, none⟩) (Nat.le_refl _) _).setCell (p := ⟨w.heap.size, _, none⟩) (Nat.le_refl _) _).setCell (p := ⟨w.heap.size, _, none⟩) (Nat.le_refl _) _)

theorem decode_any (A : Option Addr) (n c : Nat) (l : List UInt8) (w : World) (hs : Src w A n l) (hz : A = none → c = 0) (hn : n ≤ 549755813888) : Calls Try.prog 14 #[.slice A n c] w (DecAt l w) := by
  cases hd : isDone (rd4 l).1
  · exact decode_no1 A n c l w hs hz hn hd
  · cases hk : okC ((rd1 l).2 : Int) ((rd2 l).2 : Int) ((rd3 l).2 : Int)
    · exact decode_no2 A n c l w hs hz hn hd hk
    · exact decode_yes A n c l w hs hz hn hd hk

end Go.Proofs.Ytnpjldolppikfaa
