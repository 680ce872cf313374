/- With, or without, a node; in whom two differ: the program's and the document's, each by a contract. -/
import Derived.Test.YtnpjldolppikfaaCStep
import Derived.Test.YtnpjldolppikfaaGRef3
import Derived.Test.YtnpjldolppikfaaAlive
import Derived.BigQuiet
import Derived.Deep.QuietTactic
namespace Go.Proofs.Ytnpjldolppikfaa
open Go.RowKit

theorem hmf (fn : Fn) (first cap : Array Value) (w : World) : (Instr.makeFunc fn first cap).run Try.prog w = .ok (.func fn first cap) w := rfl

def seenG (g : Nat) (n : Int) (is : Bool) : Nat := if is then withG g n else withoutG g n
theorem seenG_lt {g : Nat} (n : Int) (is : Bool) (h : g < 65536) : seenG g n is < 65536 := by
  cases is
  · exact withoutG_lt n h
  · exact withG_lt n h

def One (b : Nat) : Nat → Prop := fun k => k = b

set_option maxHeartbeats 1000000 in
theorem turned_with (bc bn : Nat) (r s m n : Int) (g : Nat) (w : World) (hg : g < 65536) (hc : Whole w bc 25 #[.int .i64 r, .int .i64 s, .int .i64 m, .int .u16 (g : Int)]) (hn : Whole w bn 3 #[.int .i64 n]) :
    Calls Try.prog 49 #[.func (.func 50) #[] #[], .pointer (some ⟨bc, 0, none⟩), .pointer (some ⟨bn, 0, none⟩)] w fun e w' => e = .returned (.agg #[.int .i64 r, .int .i64 s, .int .i64 m, .int .u16 ((withG g n : Nat) : Int)]) ∧ Kept (One bc) w w' := by
  have hk := ((Kept.refl (One bc) w).setCell (p := ⟨bc, 3, none⟩) (.inl rfl) (.int .u16 ((withG g n : Nat) : Int))).alloc (.cells #[.int .i64 r, .int .i64 s, .int .i64 m, .int .u16 ((withG g n : Nat) : Int)] 25)
  obtain ⟨c0, c1, c2, c3, cf⟩ := hc.four
  have n0 : w.cell? ⟨bn, 0, none⟩ = some (.int .i64 n) := hn.cell 0
  have z1 := hc.lt
  have z2 := hn.lt
  clear hc hn
  have HG := Lib.hid hg
  clear hg
  go_enter Try.func49, Try.ntmps49
  go_wp2_with (go_at_call 50; refine (with_any _ _ _ HG.out).mono ?_; rintro e w' ⟨rfl, rfl⟩)
  refine bodyPost_ret (v := .agg #[.int .i64 r, .int .i64 s, .int .i64 m, .int .u16 ((withG g n : Nat) : Int)]) (by simp [results, Try.results49, go_sem]) rfl ⟨rfl, ?_⟩
  exact hk

set_option maxHeartbeats 1000000 in
theorem turned_without (bc bn : Nat) (r s m n : Int) (g : Nat) (w : World) (hg : g < 65536) (hc : Whole w bc 25 #[.int .i64 r, .int .i64 s, .int .i64 m, .int .u16 (g : Int)]) (hn : Whole w bn 3 #[.int .i64 n]) :
    Calls Try.prog 49 #[.func (.func 51) #[] #[], .pointer (some ⟨bc, 0, none⟩), .pointer (some ⟨bn, 0, none⟩)] w fun e w' => e = .returned (.agg #[.int .i64 r, .int .i64 s, .int .i64 m, .int .u16 ((withoutG g n : Nat) : Int)]) ∧ Kept (One bc) w w' := by
  have hk := ((Kept.refl (One bc) w).setCell (p := ⟨bc, 3, none⟩) (.inl rfl) (.int .u16 ((withoutG g n : Nat) : Int))).alloc (.cells #[.int .i64 r, .int .i64 s, .int .i64 m, .int .u16 ((withoutG g n : Nat) : Int)] 25)
  obtain ⟨c0, c1, c2, c3, cf⟩ := hc.four
  have n0 : w.cell? ⟨bn, 0, none⟩ = some (.int .i64 n) := hn.cell 0
  have z1 := hc.lt
  have z2 := hn.lt
  clear hc hn
  have HG := Lib.hid hg
  clear hg
  go_enter Try.func49, Try.ntmps49
  go_wp2_with (go_at_call 51; refine (without_any _ _ _ HG.out).mono ?_; rintro e w' ⟨rfl, rfl⟩)
  refine bodyPost_ret (v := .agg #[.int .i64 r, .int .i64 s, .int .i64 m, .int .u16 ((withoutG g n : Nat) : Int)]) (by simp [results, Try.results49, go_sem]) rfl ⟨rfl, ?_⟩
  exact hk

set_option maxHeartbeats 1000000 in
theorem seen_true (r s m n : Int) (g : Nat) (w : World) (hg : g < 65536) : Calls Try.prog 26 #[.agg #[.int .i64 r, .int .i64 s, .int .i64 m, .int .u16 (g : Int)], .int .i64 n, .bool true] w fun e w' => e = .returned (.agg #[.int .i64 r, .int .i64 s, .int .i64 m, .int .u16 ((seenG g n true : Nat) : Int)]) ∧ Below w.heap.size w w' := by
  obtain ⟨W, hWe⟩ : ∃ W, ((w.alloc (.cells #[.int .i64 r, .int .i64 s, .int .i64 m, .int .u16 (g : Int)] 25)).alloc (.cells #[.int .i64 n] 3)).alloc (.cells #[.int .i64 0, .int .i64 0, .int .i64 0, .int .u16 0] 25) = W := ⟨_, rfl⟩
  have hb : Below w.heap.size w W := by rw [← hWe]; exact (((Below.refl _ _).alloc (Nat.le_refl _) _).alloc (by simp) _).alloc (by simp; omega) _
  have hW1 : Whole W w.heap.size 25 #[.int .i64 r, .int .i64 s, .int .i64 m, .int .u16 (g : Int)] := by rw [← hWe]; exact ((Whole.new w _ _).alloc _).alloc _
  have hW2 : Whole W (w.heap.size + 1) 3 #[.int .i64 n] := by
    rw [← hWe]
    have := (Whole.new (w.alloc (.cells #[.int .i64 r, .int .i64 s, .int .i64 m, .int .u16 (g : Int)] 25)) 3 #[.int .i64 n]).alloc (.cells #[.int .i64 0, .int .i64 0, .int .i64 0, .int .u16 0] 25)
    simpa using this
  have hW3 : Whole W (w.heap.size + 1 + 1) 25 #[.int .i64 0, .int .i64 0, .int .i64 0, .int .u16 0] := by
    rw [← hWe]
    have := Whole.new ((w.alloc (.cells #[.int .i64 r, .int .i64 s, .int .i64 m, .int .u16 (g : Int)] 25)).alloc (.cells #[.int .i64 n] 3)) 25 #[.int .i64 0, .int .i64 0, .int .i64 0, .int .u16 0]
    simpa using this
  have HT := Lib.hid (turned_with w.heap.size (w.heap.size + 1) r s m n g W hg hW1 hW2)
  have HW := Lib.hid hWe
  have HV := Lib.hid (show seenG g n true = withG g n from rfl)
  clear hWe hW1 hW2
  rw [HV.out]
  go_enter Try.func26, Try.ntmps26
  have hmk := hmf
  go_wp2_with fail
  rw [HW.out]
  refine HT.out.mono ?_
  rintro e w1 ⟨rfl, k1⟩
  have hW4 := hW3.kept k1 (by simp [One]; omega)
  have hb1 := k1.on hb (fun k hk => by simp [One] at hk; omega) hb.size
  obtain ⟨c0, c1, c2, c3, cf⟩ := hW4.four
  clear HT HW hW3 hb k1 hW4
  go_wp2
  refine bodyPost_ret (v := .agg #[.int .i64 r, .int .i64 s, .int .i64 m, .int .u16 ((withG g n : Nat) : Int)]) (by simp [results, Try.results26, go_sem, c0, c1, c2, c3]) rfl ⟨rfl, ?_⟩
  exact (((hb1.setCell (p := ⟨w.heap.size + 1 + 1, _, none⟩) (by simp; omega) _).setCell (p := ⟨w.heap.size + 1 + 1, _, none⟩) (by simp; omega) _).setCell (p := ⟨w.heap.size + 1 + 1, _, none⟩) (by simp; omega) _).setCell (p := ⟨w.heap.size + 1 + 1, _, none⟩) (by simp; omega) _

set_option maxHeartbeats 1000000 in
theorem seen_false (r s m n : Int) (g : Nat) (w : World) (hg : g < 65536) : Calls Try.prog 26 #[.agg #[.int .i64 r, .int .i64 s, .int .i64 m, .int .u16 (g : Int)], .int .i64 n, .bool false] w fun e w' => e = .returned (.agg #[.int .i64 r, .int .i64 s, .int .i64 m, .int .u16 ((seenG g n false : Nat) : Int)]) ∧ Below w.heap.size w w' := by
  obtain ⟨W, hWe⟩ : ∃ W, ((w.alloc (.cells #[.int .i64 r, .int .i64 s, .int .i64 m, .int .u16 (g : Int)] 25)).alloc (.cells #[.int .i64 n] 3)).alloc (.cells #[.int .i64 0, .int .i64 0, .int .i64 0, .int .u16 0] 25) = W := ⟨_, rfl⟩
  have hb : Below w.heap.size w W := by rw [← hWe]; exact (((Below.refl _ _).alloc (Nat.le_refl _) _).alloc (by simp) _).alloc (by simp; omega) _
  have hW1 : Whole W w.heap.size 25 #[.int .i64 r, .int .i64 s, .int .i64 m, .int .u16 (g : Int)] := by rw [← hWe]; exact ((Whole.new w _ _).alloc _).alloc _
  have hW2 : Whole W (w.heap.size + 1) 3 #[.int .i64 n] := by
    rw [← hWe]
    have := (Whole.new (w.alloc (.cells #[.int .i64 r, .int .i64 s, .int .i64 m, .int .u16 (g : Int)] 25)) 3 #[.int .i64 n]).alloc (.cells #[.int .i64 0, .int .i64 0, .int .i64 0, .int .u16 0] 25)
    simpa using this
  have hW3 : Whole W (w.heap.size + 1 + 1) 25 #[.int .i64 0, .int .i64 0, .int .i64 0, .int .u16 0] := by
    rw [← hWe]
    have := Whole.new ((w.alloc (.cells #[.int .i64 r, .int .i64 s, .int .i64 m, .int .u16 (g : Int)] 25)).alloc (.cells #[.int .i64 n] 3)) 25 #[.int .i64 0, .int .i64 0, .int .i64 0, .int .u16 0]
    simpa using this
  have HT := Lib.hid (turned_without w.heap.size (w.heap.size + 1) r s m n g W hg hW1 hW2)
  have HW := Lib.hid hWe
  have HV := Lib.hid (show seenG g n false = withoutG g n from rfl)
  clear hWe hW1 hW2
  rw [HV.out]
  go_enter Try.func26, Try.ntmps26
  have hmk := hmf
  go_wp2_with fail
  rw [HW.out]
  refine HT.out.mono ?_
  rintro e w1 ⟨rfl, k1⟩
  have hW4 := hW3.kept k1 (by simp [One]; omega)
  have hb1 := k1.on hb (fun k hk => by simp [One] at hk; omega) hb.size
  obtain ⟨c0, c1, c2, c3, cf⟩ := hW4.four
  clear HT HW hW3 hb k1 hW4
  go_wp2
  refine bodyPost_ret (v := .agg #[.int .i64 r, .int .i64 s, .int .i64 m, .int .u16 ((withoutG g n : Nat) : Int)]) (by simp [results, Try.results26, go_sem, c0, c1, c2, c3]) rfl ⟨rfl, ?_⟩
  exact (((hb1.setCell (p := ⟨w.heap.size + 1 + 1, _, none⟩) (by simp; omega) _).setCell (p := ⟨w.heap.size + 1 + 1, _, none⟩) (by simp; omega) _).setCell (p := ⟨w.heap.size + 1 + 1, _, none⟩) (by simp; omega) _).setCell (p := ⟨w.heap.size + 1 + 1, _, none⟩) (by simp; omega) _

set_option maxHeartbeats 1000000 in
theorem refSeen_true (r s m n : Int) (g : Nat) (w : World) (hg : g < 65536) : Calls Try.prog 27 #[.agg #[.int .i64 r, .int .i64 s, .int .i64 m, .int .u16 (g : Int)], .int .i64 n, .bool true] w fun e w' => e = .returned (.agg #[.int .i64 r, .int .i64 s, .int .i64 m, .int .u16 ((seenG g n true : Nat) : Int)]) ∧ Below w.heap.size w w' := by
  have HT := fun W => Lib.hid (refWith_any g n W hg)
  have HV := Lib.hid (show seenG g n true = withG g n from rfl)
  clear hg
  rw [HV.out]
  go_enter Try.func27, Try.ntmps27
  go_wp2_with (go_at_call 52; refine (HT _).out.mono ?_; rintro e w' ⟨rfl, rfl⟩)
  refine bodyPost_ret (v := .agg #[.int .i64 r, .int .i64 s, .int .i64 m, .int .u16 ((withG g n : Nat) : Int)]) (by simp [results, Try.results27, go_sem]) rfl ⟨rfl, ?_⟩
  exact ((Below.refl _ _).alloc (Nat.le_refl _) _).alloc (by simp) _

set_option maxHeartbeats 1000000 in
theorem refSeen_false (r s m n : Int) (g : Nat) (w : World) (hg : g < 65536) : Calls Try.prog 27 #[.agg #[.int .i64 r, .int .i64 s, .int .i64 m, .int .u16 (g : Int)], .int .i64 n, .bool false] w fun e w' => e = .returned (.agg #[.int .i64 r, .int .i64 s, .int .i64 m, .int .u16 ((seenG g n false : Nat) : Int)]) ∧ Below w.heap.size w w' := by
  have HT := fun W => Lib.hid (refWithout_any g n W hg)
  have HV := Lib.hid (show seenG g n false = withoutG g n from rfl)
  clear hg
  rw [HV.out]
  go_enter Try.func27, Try.ntmps27
  go_wp2_with (go_at_call 53; refine (HT _).out.mono ?_; rintro e w' ⟨rfl, rfl⟩)
  refine bodyPost_ret (v := .agg #[.int .i64 r, .int .i64 s, .int .i64 m, .int .u16 ((withoutG g n : Nat) : Int)]) (by simp [results, Try.results27, go_sem]) rfl ⟨rfl, ?_⟩
  exact ((Below.refl _ _).alloc (Nat.le_refl _) _).alloc (by simp) _

end Go.Proofs.Ytnpjldolppikfaa
