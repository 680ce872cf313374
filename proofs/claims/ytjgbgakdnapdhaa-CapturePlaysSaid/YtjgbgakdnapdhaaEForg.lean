/- A capture's Forget and Copy, by contracts. No condition. -/
import Derived.Test.YtjgbgakdnapdhaaENote
import Derived.BigFrame
namespace Go.Proofs.Ytjgbgakdnapdhaa
open Go.RowKit Go.Shelf

theorem CapTo.later {w w1 w2 : World} {a : Nat} {f : Ca} (hb : Below w.heap.size w w1) (h : CapTo w1 a f w2) : CapTo w a f w2 := ⟨h.1, (Kept.of_below hb _).trans h.2 (fun _ _ e => e)⟩
theorem ca_set4 {w W : World} {a n : Nat} {f : Ca} {x y : Option Int} (h : CapAt w a f) (hb : Below w.heap.size w W) (hn : n < 16) (hx : OkO x) (hy : OkO y) :
    CapTo w a (setN f n x y) ((((W.setCell ⟨a, n * 4, none⟩ (.int .i64 (x.getD 0))).setCell ⟨a, n * 4 + 1, none⟩ (.bool x.isSome)).setCell ⟨a, n * 4 + 2, none⟩ (.int .i64 (y.getD 0))).setCell ⟨a, n * 4 + 3, none⟩ (.bool y.isSome)) := by
  have h2 := ((((k_later hb h.whole).set (n * 4) (.int .i64 (x.getD 0))).set (n * 4 + 1) (.bool x.isSome)).set (n * 4 + 2) (.int .i64 (y.getD 0))).set (n * 4 + 3) (.bool y.isSome)
  rw [capC_set f hn x y] at h2
  have hk : Kept (fun i => i = a) W ((((W.setCell ⟨a, n * 4, none⟩ (.int .i64 (x.getD 0))).setCell ⟨a, n * 4 + 1, none⟩ (.bool x.isSome)).setCell ⟨a, n * 4 + 2, none⟩ (.int .i64 (y.getD 0))).setCell ⟨a, n * 4 + 3, none⟩ (.bool y.isSome)) :=
    Kept.setCell (S := fun i => i = a) (Kept.setCell (S := fun i => i = a) (Kept.setCell (S := fun i => i = a) (Kept.setCell (S := fun i => i = a) (Kept.refl _ W) (p := ⟨a, n * 4, none⟩) (.inl rfl) _) (p := ⟨a, n * 4 + 1, none⟩) (.inl rfl) _) (p := ⟨a, n * 4 + 2, none⟩) (.inl rfl) _) (p := ⟨a, n * 4 + 3, none⟩) (.inl rfl) _
  exact ⟨⟨h2, h.ok.set n hx hy⟩, (Kept.of_below hb _).trans hk (fun _ _ e => e)⟩
theorem drop_none {f : Ca} {n : Int} (h : ofC f n = none) : dropC f n = f := by
  unfold ofC at h
  unfold dropC
  split
  · rename_i hn
    rw [if_pos hn] at h
    obtain ⟨h0, h1⟩ := devP_none.1 h
    have := set_same f n.toNat
    rw [h0, h1] at this
    exact this
  · rfl

set_option maxRecDepth 100000 in
set_option maxHeartbeats 4000000 in
theorem forget_any {w : World} {a : Nat} {f : Ca} (h : CapAt w a f) (n : Int) : Calls Try.prog 21 #[.pointer (some ⟨a, 0, none⟩), .int .i64 n] w fun e w' => e = .returned (.bool (ofC f n).isSome) ∧ CapTo w a (dropC f n) w' := by
  have HO := Lib.hid (of_any h n)
  have H := Lib.hid h
  clear h
  cases ho : ofC f n with
  | none =>
    rw [ho] at HO
    have hd := drop_none ho
    rw [hd]
    unfold ofV at HO
    clear hd ho
    go_enter Try.func21, Try.ntmps21
    go_wp2_with (go_at_call 10; refine HO.out.mono ?_; rintro e w1 ⟨rfl, hb⟩; have HB := Lib.hid hb; clear hb)
    go_ret
    exact ⟨rfl, H.out.later HB.out, Kept.of_below HB.out _⟩
  | some v =>
    rw [ho] at HO
    unfold ofV at HO
    have hn : nodeB n = true := by
      unfold ofC at ho
      cases h : nodeB n
      · rw [h] at ho; cases ho
      · rfl
    have hd : dropC f n = setN f n.toNat none none := by unfold dropC; rw [if_pos hn]
    rw [hd]
    obtain ⟨k, hk, rfl⟩ := nodeB_iff.1 hn
    rw [Int.toNat_natCast]
    have e1 : (0 : Int) ≤ (k : Int) := by omega
    have e2 : (k : Int) < 16 := by omega
    have HE := Lib.hid (fun W (hW : Below w.heap.size w W) => ca_set4 (x := none) (y := none) H.out hW hk oko_none oko_none)
    have KX := Lib.hid (fun (W : World) (hW : Below w.heap.size w W) => (show (∃ u, W.cell? ⟨a, k * 4, none⟩ = some u) ∧ (∃ u, W.cell? ⟨a, k * 4 + 1, none⟩ = some u) ∧ (∃ u, W.cell? ⟨a, k * 4 + 2, none⟩ = some u) ∧ (∃ u, W.cell? ⟨a, k * 4 + 3, none⟩ = some u) ∧ (∀ i, W.frozen? ⟨a, i, none⟩ = false) from by
      have q := (H.out.later hW)
      obtain ⟨c0, c1, c2, c3⟩ := q.cells hk
      exact ⟨⟨_, c0⟩, ⟨_, c1⟩, ⟨_, c2⟩, ⟨_, c3⟩, q.whole.frozen⟩))
    clear hn hd hk ho H
    go_enter Try.func21, Try.ntmps21
    go_wp2_with (go_at_call 10; refine HO.out.mono ?_; rintro e w1 ⟨rfl, hb⟩; obtain ⟨⟨u0, q0⟩, ⟨u1, q1⟩, ⟨u2, q2⟩, ⟨u3, q3⟩, qf⟩ := KX.out w1 hb; have HE1 := Lib.hid (HE.out w1 hb); clear hb)
    go_ret
    exact ⟨rfl, HE1.out⟩
set_option maxHeartbeats 1000000 in
theorem forgetNil_any (n : Int) (w : World) : Calls Try.prog 21 #[.pointer none, .int .i64 n] w fun e w' => e = .returned (.bool false) ∧ w' = w := by
  have HO := Lib.hid (fun W => ofNil_any n W)
  unfold ofV at HO
  go_enter Try.func21, Try.ntmps21
  go_wp2_with (go_at_call 10; refine (HO.out _).mono ?_; rintro e w1 ⟨rfl, hw1⟩; obtain rfl := hw1.symm)
  go_ret
  exact ⟨rfl, rfl⟩

section
variable {P : Program} {ops : Array Oper} {rest : List Oper} {o : Oper} {a : Act} {w : World} {Q : Exit → Act → World → Prop}
/-- A whole row into the block that was made last. -/
theorem wpList_store_last (hgd : o.guard = none) (ty : TypeId) (x y : Operand) (ho : o.op = .store ty x y) (g : Nat) (cells : Array Value) (hx : a.eval x = .pointer (some ⟨g, 0, none⟩)) (hy : a.eval y = .agg cells)
    (t : TypeId) (old : Array Value) (hg : g = w.heap.size) (hi : (P.info? ty).map (·.size) = some cells.size) (hold : old.size = cells.size) (h1 : cells.all (·.oneCell') = true)
    (h : wpList P ops Q rest (a.put o.dst undef) (w.alloc (.cells cells t))) : wpList P ops Q (o :: rest) a (w.alloc (.cells old t)) := by
  subst hg
  refine wpList_store_row hgd ty x y ho w.heap.size cells hx hy t old (heap_alloc_last w _) hi hold h1 ?_
  rw [World.setRow_alloc_new]
  exact h
end
theorem info_cap : (Try.prog.info? 31).map (·.size) = some 64 := by kernel_rfl
/-- A capture's cells: sixty-four, each one a cell. -/
structure CellsE (cs : Array Value) : Prop where
  size : cs.size = 64
  one : cs.all (·.oneCell') = true
theorem cellsE (f : Ca) : CellsE (capC f) := ⟨capC_size f, capC_one f⟩
theorem CellsE.info {cs : Array Value} (h : CellsE cs) : (Try.prog.info? 31).map (·.size) = some cs.size := by rw [h.size]; exact info_cap
set_option maxRecDepth 100000 in
set_option maxHeartbeats 4000000 in
theorem copy_any {w : World} {a : Nat} {f : Ca} (h : CapAt w a f) : Calls Try.prog 20 #[.pointer (some ⟨a, 0, none⟩)] w fun e w' => e = .returned (.pointer (some ⟨w.heap.size, 0, none⟩)) ∧ CapAt w' w.heap.size f ∧ Below w.heap.size w w' := by
  have HR := Lib.hid (show Whole w a 31 (capC f) from h.whole)
  have HS := Lib.hid (cellsE f)
  have HF := Lib.hid (show CapAt (w.alloc (.cells (capC f) 31)) w.heap.size f ∧ Below w.heap.size w (w.alloc (.cells (capC f) 31)) from ⟨⟨Whole.new _ _ _, h.ok⟩, (Below.refl _ _).alloc (Nat.le_refl _) _⟩)
  clear h
  generalize capC f = cs at *
  go_enter Try.func20, Try.ntmps20
  go_wp2_with (first
    | (refine wpList_load_row rfl 31 (.tmp 7) rfl a rfl 31 cs (0, 0) _ HR.out Try.underlying31 rfl HS.out.info ?_)
    | (refine wpList_store_last rfl 31 (.tmp 3) (.tmp 8) rfl w.heap.size cs rfl rfl 31 _ rfl HS.out.info (by rw [HS.out.size]; rfl) HS.out.one ?_))
  go_ret
  exact ⟨rfl, HF.out⟩
set_option maxHeartbeats 1000000 in
theorem copyNil_any (w : World) : Calls Try.prog 20 #[.pointer none] w fun e w' => e = .returned (.pointer none) ∧ w' = w := by
  go_enter Try.func20, Try.ntmps20
  go_wp2
  go_ret
  exact ⟨rfl, rfl⟩
end Go.Proofs.Ytjgbgakdnapdhaa
