/- ScriptNames' fifteen turns, each by a contract. No condition. | Words for ScriptNames: what its script reads as, in memory. No condition. -/
import Derived.Laws.MakeOwn
import Derived.Test.YtljcaigaofalbaaQNam
import Derived.Test.YtljcaigaofalbaaQEx
import Derived.Test.YtljcaigaofalbaaQRDecX
namespace Go.Proofs.Ytljcaigaofalbaa
open Go.RowKit Go.Shelf
theorem hapsame {W : World} {w : World} {x1 x2 y1 y2 : HpA} (e1 : y1.A = x1.A ∧ y1.c = x1.c) (e2 : y1.pl = x1.pl) (e3 : y2.A = x2.A ∧ y2.c = x2.c) (e4 : y2.pl = x2.pl) : ∀ b0, w.heap.size ≤ b0 → b0 < W.heap.size → (∀ a ∈ [x1, x2], PlAt W a ∧ ∀ ad, a.A = some ad → b0 ≤ ad.block ∧ UB W ad.block) → ∀ a ∈ [y1, y2], PlAt W a ∧ ∀ ad, a.A = some ad → b0 ≤ ad.block ∧ UB W ad.block := by
  intro b0 _ _ h a ha
  obtain ⟨k1, n1, t1, A1, c1, p1⟩ := x1
  obtain ⟨k2, n2, t2, A2, c2, p2⟩ := x2
  obtain ⟨k3, n3, t3, A3, c3, p3⟩ := y1
  obtain ⟨k4, n4, t4, A4, c4, p4⟩ := y2
  dsimp only at e1 e2 e3 e4
  obtain ⟨rfl, rfl⟩ := e1
  obtain ⟨rfl, rfl⟩ := e3
  subst e2 e4
  simp only [List.mem_cons, List.not_mem_nil, or_false] at ha
  rcases ha with rfl | rfl
  · obtain ⟨u1, u2⟩ := h _ (List.mem_cons_self ..)
    exact ⟨⟨u1.src, u1.cap, u1.max, u1.no⟩, u2⟩
  · obtain ⟨u1, u2⟩ := h _ (List.mem_cons_of_mem _ (List.mem_cons_self ..))
    exact ⟨⟨u1.src, u1.cap, u1.max, u1.no⟩, u2⟩
set_option maxRecDepth 100000 in
set_option maxHeartbeats 4000000 in
theorem turn1 {w W : World} {bp bt : Nat} {V : Vs} {s : ScA} (h : Tn w W bp bt V s) : Calls Try.prog 27 #[.pointer (some ⟨bt, 0, none⟩)] W (TurnedN w bt) := by
  obtain ⟨g0, z0, g1, z1, g2, z2, g3, z3, g4, z4, A1, c1, A2, c2, rfl, rfl⟩ := h.open
  obtain ⟨b0, B, q1, q2, q3⟩ := h.sb
  have c0 : W.cell? ⟨bt, 0, none⟩ = some (.slice (some ⟨g0, 0, none⟩) 4 z0) := h.box.cell 0
  obtain ⟨r0, f0⟩ := own_cell q3.r0 0 (.int .i64 65542) rfl
  have HB := Lib.hid (h.set0 rfl 0 (.int .i64 65543) [(65543, 65536), (65530, 65536), (65530, 65536), (65530, 65536)] rfl rfl bad_n1)
  clear h q1 q2 q3
  go_enter Try.func27, Try.ntmps27
  go_wp2
  first | exact bodyPost_ret (results_none rfl _ _ _) rfl ⟨rfl, HB.out⟩ | exact bodyPost_end (results_none rfl _ _ _) rfl ⟨rfl, HB.out⟩
set_option maxRecDepth 100000 in
set_option maxHeartbeats 4000000 in
theorem turn2 {w W : World} {bp bt : Nat} {V : Vs} {s : ScA} (h : Tn w W bp bt V s) : Calls Try.prog 28 #[.pointer (some ⟨bt, 0, none⟩)] W (TurnedN w bt) := by
  obtain ⟨g0, z0, g1, z1, g2, z2, g3, z3, g4, z4, A1, c1, A2, c2, rfl, rfl⟩ := h.open
  obtain ⟨b0, B, q1, q2, q3⟩ := h.sb
  have c0 : W.cell? ⟨bt, 0, none⟩ = some (.slice (some ⟨g0, 0, none⟩) 4 z0) := h.box.cell 0
  obtain ⟨r0, f0⟩ := own_cell q3.r0 1 (.int .i64 65536) rfl
  have HB := Lib.hid (h.set0 rfl 1 (.int .i64 1) [(65542, 1), (65530, 65536), (65530, 65536), (65530, 65536)] rfl rfl bad_n2)
  clear h q1 q2 q3
  go_enter Try.func28, Try.ntmps28
  go_wp2
  first | exact bodyPost_ret (results_none rfl _ _ _) rfl ⟨rfl, HB.out⟩ | exact bodyPost_end (results_none rfl _ _ _) rfl ⟨rfl, HB.out⟩
set_option maxRecDepth 100000 in
set_option maxHeartbeats 4000000 in
theorem turn3 {w W : World} {bp bt : Nat} {V : Vs} {s : ScA} (h : Tn w W bp bt V s) : Calls Try.prog 29 #[.pointer (some ⟨bt, 0, none⟩)] W (TurnedN w bt) := by
  obtain ⟨g0, z0, g1, z1, g2, z2, g3, z3, g4, z4, A1, c1, A2, c2, rfl, rfl⟩ := h.open
  obtain ⟨b0, B, q1, q2, q3⟩ := h.sb
  have c0 : W.cell? ⟨bt, 1, none⟩ = some (.slice (some ⟨g1, 0, none⟩) 4 z1) := h.box.cell 1
  obtain ⟨r0, f0⟩ := own_cell q3.r1 0 (.int .i64 0) rfl
  have HB := Lib.hid (h.set1 rfl 0 (.int .i64 (-2)) [-2, -1, -1, -1] rfl rfl bad_n3)
  clear h q1 q2 q3
  go_enter Try.func29, Try.ntmps29
  go_wp2
  first | exact bodyPost_ret (results_none rfl _ _ _) rfl ⟨rfl, HB.out⟩ | exact bodyPost_end (results_none rfl _ _ _) rfl ⟨rfl, HB.out⟩
set_option maxRecDepth 100000 in
set_option maxHeartbeats 4000000 in
theorem turn6 {w W : World} {bp bt : Nat} {V : Vs} {s : ScA} (h : Tn w W bp bt V s) : Calls Try.prog 33 #[.pointer (some ⟨bt, 0, none⟩)] W (TurnedN w bt) := by
  obtain ⟨g0, z0, g1, z1, g2, z2, g3, z3, g4, z4, A1, c1, A2, c2, rfl, rfl⟩ := h.open
  obtain ⟨b0, B, q1, q2, q3⟩ := h.sb
  have c0 : W.cell? ⟨bt, 2, none⟩ = some (.slice (some ⟨g2, 0, none⟩) 2 z2) := h.box.cell 2
  obtain ⟨r0, f0⟩ := own_cell q3.r2 0 (.int .i64 4) rfl
  have HB := Lib.hid (h.set2 rfl 0 (.int .i64 5) [5, 0] rfl rfl bad_n6)
  clear h q1 q2 q3
  go_enter Try.func33, Try.ntmps33
  go_wp2
  first | exact bodyPost_ret (results_none rfl _ _ _) rfl ⟨rfl, HB.out⟩ | exact bodyPost_end (results_none rfl _ _ _) rfl ⟨rfl, HB.out⟩
set_option maxRecDepth 100000 in
set_option maxHeartbeats 4000000 in
theorem turn10 {w W : World} {bp bt : Nat} {V : Vs} {s : ScA} (h : Tn w W bp bt V s) : Calls Try.prog 37 #[.pointer (some ⟨bt, 0, none⟩)] W (TurnedN w bt) := by
  obtain ⟨g0, z0, g1, z1, g2, z2, g3, z3, g4, z4, A1, c1, A2, c2, rfl, rfl⟩ := h.open
  obtain ⟨b0, B, q1, q2, q3⟩ := h.sb
  have c0 : W.cell? ⟨bt, 3, none⟩ = some (.slice (some ⟨g3, 0, none⟩) 2 z3) := h.box.cell 3
  obtain ⟨r0, f0⟩ := own_cell q3.r3 0 (.int .i64 2) rfl
  have HB := Lib.hid (h.set3 rfl 0 (.int .i64 3) [⟨3, 1, 258, A1, c1, [104, 105]⟩, ⟨0, 3, 38155, A2, c2, []⟩] rfl rfl (hapsame ⟨rfl, rfl⟩ rfl ⟨rfl, rfl⟩ rfl) bad_n10)
  clear h q1 q2 q3
  go_enter Try.func37, Try.ntmps37
  go_wp2
  first | exact bodyPost_ret (results_none rfl _ _ _) rfl ⟨rfl, HB.out⟩ | exact bodyPost_end (results_none rfl _ _ _) rfl ⟨rfl, HB.out⟩
set_option maxRecDepth 100000 in
set_option maxHeartbeats 4000000 in
theorem turn11 {w W : World} {bp bt : Nat} {V : Vs} {s : ScA} (h : Tn w W bp bt V s) : Calls Try.prog 38 #[.pointer (some ⟨bt, 0, none⟩)] W (TurnedN w bt) := by
  obtain ⟨g0, z0, g1, z1, g2, z2, g3, z3, g4, z4, A1, c1, A2, c2, rfl, rfl⟩ := h.open
  obtain ⟨b0, B, q1, q2, q3⟩ := h.sb
  have c0 : W.cell? ⟨bt, 4, none⟩ = some (.slice (some ⟨g4, 0, none⟩) 2 z4) := h.box.cell 4
  obtain ⟨r0, f0⟩ := own_cell q3.r4 2 (.int .i64 4) rfl
  have HB := Lib.hid (h.set4 rfl 2 (.int .i64 5) [⟨2, 256, 5, 3, true⟩, ⟨2, 256, 1, 1, false⟩] rfl rfl bad_n11)
  clear h q1 q2 q3
  go_enter Try.func38, Try.ntmps38
  go_wp2
  first | exact bodyPost_ret (results_none rfl _ _ _) rfl ⟨rfl, HB.out⟩ | exact bodyPost_end (results_none rfl _ _ _) rfl ⟨rfl, HB.out⟩
set_option maxRecDepth 100000 in
set_option maxHeartbeats 4000000 in
theorem turn12 {w W : World} {bp bt : Nat} {V : Vs} {s : ScA} (h : Tn w W bp bt V s) : Calls Try.prog 39 #[.pointer (some ⟨bt, 0, none⟩)] W (TurnedN w bt) := by
  obtain ⟨g0, z0, g1, z1, g2, z2, g3, z3, g4, z4, A1, c1, A2, c2, rfl, rfl⟩ := h.open
  obtain ⟨b0, B, q1, q2, q3⟩ := h.sb
  have c0 : W.cell? ⟨bt, 4, none⟩ = some (.slice (some ⟨g4, 0, none⟩) 2 z4) := h.box.cell 4
  obtain ⟨r0, f0⟩ := own_cell q3.r4 3 (.int .i64 3) rfl
  have HB := Lib.hid (h.set4 rfl 3 (.int .i64 0) [⟨2, 256, 4, 0, true⟩, ⟨2, 256, 1, 1, false⟩] rfl rfl bad_n12)
  clear h q1 q2 q3
  go_enter Try.func39, Try.ntmps39
  go_wp2
  first | exact bodyPost_ret (results_none rfl _ _ _) rfl ⟨rfl, HB.out⟩ | exact bodyPost_end (results_none rfl _ _ _) rfl ⟨rfl, HB.out⟩
set_option maxRecDepth 100000 in
set_option maxHeartbeats 4000000 in
theorem turn13 {w W : World} {bp bt : Nat} {V : Vs} {s : ScA} (h : Tn w W bp bt V s) : Calls Try.prog 40 #[.pointer (some ⟨bt, 0, none⟩)] W (TurnedN w bt) := by
  obtain ⟨g0, z0, g1, z1, g2, z2, g3, z3, g4, z4, A1, c1, A2, c2, rfl, rfl⟩ := h.open
  obtain ⟨b0, B, q1, q2, q3⟩ := h.sb
  have c0 : W.cell? ⟨bt, 4, none⟩ = some (.slice (some ⟨g4, 0, none⟩) 2 z4) := h.box.cell 4
  obtain ⟨r0, f0⟩ := own_cell q3.r4 1 (.int .i64 256) rfl
  have HB := Lib.hid (h.set4 rfl 1 (.int .i64 65536) [⟨2, 65536, 4, 3, true⟩, ⟨2, 256, 1, 1, false⟩] rfl rfl bad_n13)
  clear h q1 q2 q3
  go_enter Try.func40, Try.ntmps40
  go_wp2
  first | exact bodyPost_ret (results_none rfl _ _ _) rfl ⟨rfl, HB.out⟩ | exact bodyPost_end (results_none rfl _ _ _) rfl ⟨rfl, HB.out⟩
set_option maxRecDepth 100000 in
set_option maxHeartbeats 4000000 in
theorem turn14 {w W : World} {bp bt : Nat} {V : Vs} {s : ScA} (h : Tn w W bp bt V s) : Calls Try.prog 41 #[.pointer (some ⟨bt, 0, none⟩)] W (TurnedN w bt) := by
  obtain ⟨g0, z0, g1, z1, g2, z2, g3, z3, g4, z4, A1, c1, A2, c2, rfl, rfl⟩ := h.open
  obtain ⟨b0, B, q1, q2, q3⟩ := h.sb
  have c0 : W.cell? ⟨bt, 4, none⟩ = some (.slice (some ⟨g4, 0, none⟩) 2 z4) := h.box.cell 4
  obtain ⟨r0, f0⟩ := own_cell q3.r4 0 (.int .i64 2) rfl
  have HB := Lib.hid (h.set4 rfl 0 (.int .i64 4) [⟨4, 256, 4, 3, true⟩, ⟨2, 256, 1, 1, false⟩] rfl rfl bad_n14)
  clear h q1 q2 q3
  go_enter Try.func41, Try.ntmps41
  go_wp2
  first | exact bodyPost_ret (results_none rfl _ _ _) rfl ⟨rfl, HB.out⟩ | exact bodyPost_end (results_none rfl _ _ _) rfl ⟨rfl, HB.out⟩
theorem planF_cells {W : World} {bp : Nat} (h : Whole W bp 23 planF.cells) : W.cell? ⟨bp, 0, none⟩ = some (.int .i64 4) ∧ W.cell? ⟨bp, 1, none⟩ = some (.int .i64 1) ∧ W.cell? ⟨bp, 2, none⟩ = some (.int .i64 578) ∧ W.cell? ⟨bp, 3, none⟩ = some (.int .i64 278) ∧ W.cell? ⟨bp, 4, none⟩ = some (.int .i64 108) ∧ W.cell? ⟨bp, 5, none⟩ = some (.int .i64 2) ∧ W.cell? ⟨bp, 6, none⟩ = some (.int .i64 1) ∧ W.cell? ⟨bp, 7, none⟩ = some (.int .i64 5) ∧ W.cell? ⟨bp, 8, none⟩ = some (.int .i64 10000) ∧ W.cell? ⟨bp, 9, none⟩ = some (.int .i64 98) ∧ W.cell? ⟨bp, 10, none⟩ = some (.int .i64 72) ∧ W.cell? ⟨bp, 11, none⟩ = some (.int .i64 11756) ∧ W.cell? ⟨bp, 12, none⟩ = some (.int .i64 4) ∧ W.cell? ⟨bp, 13, none⟩ = some (.int .i64 2) ∧ W.cell? ⟨bp, 14, none⟩ = some (.int .i64 8) ∧ W.cell? ⟨bp, 15, none⟩ = some (.int .i64 92480) := ⟨h.cell 0, h.cell 1, h.cell 2, h.cell 3, h.cell 4, h.cell 5, h.cell 6, h.cell 7, h.cell 8, h.cell 9, h.cell 10, h.cell 11, h.cell 12, h.cell 13, h.cell 14, h.cell 15⟩
theorem round_n (W : World) : Calls Try.prog 31 #[.agg #[.int .i64 4, .int .i64 1, .int .i64 578, .int .i64 278, .int .i64 108, .int .i64 2, .int .i64 1, .int .i64 5, .int .i64 10000, .int .i64 98, .int .i64 72, .int .i64 11756, .int .i64 4, .int .i64 2, .int .i64 8, .int .i64 92480]] W fun e w' => e = .returned (.int .i64 2312) ∧ Below W.heap.size W w' := Round_any planF W
theorem make_256 (w : World) : (Instr.makeSlice 30 (.int .i64 256) (.int .i64 256)).run Try.prog w = .ok (.slice (some ⟨w.heap.size, 0, none⟩) 256 256) (w.alloc (.cells (bv (List.replicate 256 0)).toArray 5)) := by kernel_rfl
theorem make_65 (w : World) : (Instr.makeSlice 27 (.int .i64 65) (.int .i64 65)).run Try.prog w = .ok (.slice (some ⟨w.heap.size, 0, none⟩) 65 65) (w.alloc (.cells ((List.replicate 65 (⟨0, 0, 0, 0, false⟩ : Ft)).flatMap ftC).toArray 54)) := by kernel_rfl
theorem src_block {W : World} {g : Nat} {l : List UInt8} (h : Whole W g 5 (bv l).toArray) : Src W (some ⟨g, 0, none⟩) l.length l := by
  refine ⟨rfl, fun _ => ⟨g, 0, rfl, fun i hi => ?_⟩⟩
  rw [Nat.zero_add, h.cell i]
  simp [bv, List.getElem?_eq_getElem hi]
/-- A payload in a new block, in the place of another one's. -/
theorem hapnew {W : World} {w : World} {x1 x2 y1 y2 : HpA} {g : Nat} {l : List UInt8} {c : Nat} (hg : Whole W g 5 (bv l).toArray) (hlt : g + 1 = W.heap.size) (hc : l.length ≤ c) (hc2 : c ≤ 9223372036854775807)
    (e1 : (y1.A = x1.A ∧ y1.c = x1.c ∧ y1.pl = x1.pl) ∨ (y1.A = some ⟨g, 0, none⟩ ∧ y1.c = c ∧ y1.pl = l)) (e2 : (y2.A = x2.A ∧ y2.c = x2.c ∧ y2.pl = x2.pl) ∨ (y2.A = some ⟨g, 0, none⟩ ∧ y2.c = c ∧ y2.pl = l)) : ∀ b0, w.heap.size ≤ b0 → b0 < W.heap.size → (∀ a ∈ [x1, x2], PlAt W a ∧ ∀ ad, a.A = some ad → b0 ≤ ad.block ∧ UB W ad.block) → ∀ a ∈ [y1, y2], PlAt W a ∧ ∀ ad, a.A = some ad → b0 ≤ ad.block ∧ UB W ad.block := by
  intro b0 _ hb0 h a ha
  have key : ∀ x y : HpA, (PlAt W x ∧ ∀ ad, x.A = some ad → b0 ≤ ad.block ∧ UB W ad.block) → ((y.A = x.A ∧ y.c = x.c ∧ y.pl = x.pl) ∨ (y.A = some ⟨g, 0, none⟩ ∧ y.c = c ∧ y.pl = l)) → PlAt W y ∧ ∀ ad, y.A = some ad → b0 ≤ ad.block ∧ UB W ad.block := by
    intro x y hx hxy
    obtain ⟨k1, n1, t1, A1, c1, p1⟩ := x
    obtain ⟨k3, n3, t3, A3, c3, p3⟩ := y
    dsimp only at hxy
    rcases hxy with ⟨rfl, rfl, rfl⟩ | ⟨rfl, rfl, rfl⟩
    · exact ⟨⟨hx.1.src, hx.1.cap, hx.1.max, hx.1.no⟩, hx.2⟩
    · exact ⟨⟨src_block hg, hc, hc2, fun e => by cases e⟩, fun ad e => by cases e; exact ⟨by show b0 ≤ g; omega, ⟨_, hg⟩⟩⟩
  simp only [List.mem_cons, List.not_mem_nil, or_false] at ha
  rcases ha with rfl | rfl
  · exact key _ _ (h _ (List.mem_cons_self ..)) e1
  · exact key _ _ (h _ (List.mem_cons_of_mem _ (List.mem_cons_self ..))) e2
theorem rsrc_block {W : World} {g c : Nat} {t : TypeId} {xs : List Ft} (h : Whole W g t (xs.flatMap ftC).toArray) (hc : xs.length ≤ c) (hc2 : c ≤ 9223372036854775807) : RSrc ftC 5 W ⟨some ⟨g, 0, none⟩, xs.length, c⟩ xs := by
  refine ⟨rfl, hc, hc2, (fun e => by cases e), fun _ => ⟨g, 0, rfl, fun i x hx j u hu => ?_⟩⟩
  have hj : j < 5 := by have := (List.getElem?_eq_some_iff.1 hu).1; simpa [ftC] using this
  rw [Nat.zero_add, h.cell (i * 5 + j)]
  have := flat_get (cells := ftC) (k := 5) (fun _ => rfl) xs i x j hx hj
  simpa using this.trans hu
set_option maxRecDepth 100000 in
set_option maxHeartbeats 4000000 in
theorem turn7 {w W : World} {bp bt : Nat} {V : Vs} {s : ScA} (h : Tn w W bp bt V s) : Calls Try.prog 34 #[.pointer (some ⟨bt, 0, none⟩)] W (TurnedN w bt) := by
  obtain ⟨g0, z0, g1, z1, g2, z2, g3, z3, g4, z4, A1, c1, A2, c2, rfl, rfl⟩ := h.open
  obtain ⟨b0, B, q1, q2, q3⟩ := h.sb
  have c0 : W.cell? ⟨bt, 3, none⟩ = some (.slice (some ⟨g3, 0, none⟩) 2 z3) := h.box.cell 3
  obtain ⟨r0, f0⟩ := own_cell q3.r3 7 (.slice A2 0 c2) rfl
  have hb1 : Below W.heap.size W (W.alloc (.cells #[.int .u8 1] 5)) := (Below.refl _ _).alloc (Nat.le_refl _) _
  have hg : Whole (W.alloc (.cells #[.int .u8 1] 5)) W.heap.size 5 (bv [1]).toArray := Whole.new W 5 #[.int .u8 1]
  have hB := (h.later hb1).set3 rfl 7 (.slice (some ⟨W.heap.size, 0, none⟩) 1 1) [⟨2, 1, 258, A1, c1, [104, 105]⟩, ⟨0, 3, 38155, some ⟨W.heap.size, 0, none⟩, 1, [1]⟩] rfl rfl (hapnew (c := 1) (l := [1]) hg (by simp) (by decide) (by decide) (.inl ⟨rfl, rfl, rfl⟩) (.inr ⟨rfl, rfl, rfl⟩)) bad_n7
  rw [World.setCell_alloc_past _ _ _ _ (World.block_lt_of_cell? W _ r0)] at hB
  have HB := Lib.hid hB
  have r1 := k_cell hb1 r0
  have c1' := k_cell hb1 c0
  have f1 : (W.alloc (.cells #[.int .u8 1] 5)).frozen? ⟨g3, 7, none⟩ = false := (hb1.frozen (World.block_lt_of_cell? W _ r0)).trans f0
  have g3lt := World.block_lt_of_cell? W _ r0
  clear h q1 q2 q3 hb1 hg hB
  go_enter Try.func34, Try.ntmps34
  go_wp2
  first | exact bodyPost_ret (results_none rfl _ _ _) rfl ⟨rfl, HB.out⟩ | exact bodyPost_end (results_none rfl _ _ _) rfl ⟨rfl, HB.out⟩
set_option maxRecDepth 100000 in
set_option maxHeartbeats 4000000 in
theorem turn15 {w W : World} {bp bt : Nat} {V : Vs} {s : ScA} (h : Tn w W bp bt V s) : Calls Try.prog 42 #[.pointer (some ⟨bt, 0, none⟩)] W (TurnedN w bt) := by
  obtain ⟨g0, z0, g1, z1, g2, z2, g3, z3, g4, z4, A1, c1, A2, c2, rfl, rfl⟩ := h.open
  obtain ⟨b0, B, q1, q2, q3⟩ := h.sb
  have c0 : W.cell? ⟨bt, 4, none⟩ = some (.slice (some ⟨g4, 0, none⟩) 2 z4) := h.box.cell 4
  have f0 := h.box.frozen 4
  have hlt := h.box.lt
  have hmk := make_65
  have hb1 : Below W.heap.size W (W.alloc (.cells ((List.replicate 65 (⟨0, 0, 0, 0, false⟩ : Ft)).flatMap ftC).toArray 54)) := (Below.refl _ _).alloc (Nat.le_refl _) _
  have hg : Whole (W.alloc (.cells ((List.replicate 65 (⟨0, 0, 0, 0, false⟩ : Ft)).flatMap ftC).toArray 54)) W.heap.size 54 ((List.replicate 65 (⟨0, 0, 0, 0, false⟩ : Ft)).flatMap ftC).toArray := Whole.new W _ _
  have hB := (h.later hb1).box4 ⟨some ⟨W.heap.size, 0, none⟩, 65, 65⟩ (List.replicate 65 ⟨0, 0, 0, 0, false⟩) (fun W2 hk => rsrc_block (c := 65) (hg.kept hk (by show ¬ W.heap.size = bt; omega)) (by decide) (by decide)) bad_n15
  rw [World.setCell_alloc_past _ _ _ _ hlt] at hB
  generalize ((List.replicate 65 (⟨0, 0, 0, 0, false⟩ : Ft)).flatMap ftC).toArray = zs at *
  have HB := Lib.hid hB
  have c1' := k_cell hb1 c0
  have f1 : (W.alloc (.cells zs 54)).frozen? ⟨bt, 4, none⟩ = false := (h.later hb1).box.frozen 4
  clear h q1 q2 q3 hb1 hg hB
  go_enter Try.func42, Try.ntmps42
  go_wp2
  first | exact bodyPost_ret (results_none rfl _ _ _) rfl ⟨rfl, HB.out⟩ | exact bodyPost_end (results_none rfl _ _ _) rfl ⟨rfl, HB.out⟩
set_option maxRecDepth 100000 in
set_option maxHeartbeats 4000000 in
theorem turn5 {w W : World} {bp bt : Nat} {V : Vs} {s : ScA} (h : Tn w W bp bt V s) : Calls Try.prog 32 #[.pointer (some ⟨bt, 0, none⟩)] W (TurnedN w bt) := by
  obtain ⟨g0, z0, g1, z1, g2, z2, g3, z3, g4, z4, A1, c1, A2, c2, rfl, rfl⟩ := h.open
  obtain ⟨b0, B, q1, q2, q3⟩ := h.sb
  have c0 : W.cell? ⟨bt, 1, none⟩ = some (.slice (some ⟨g1, 0, none⟩) 4 z1) := h.box.cell 1
  have f0 := h.box.frozen 1
  have r1 := (own_cell q3.r1 1 (.int .i64 (-1)) rfl).1
  have r2 := (own_cell q3.r1 2 (.int .i64 (-1)) rfl).1
  have r3 := (own_cell q3.r1 3 (.int .i64 (-1)) rfl).1
  have g1ne : ¬ g1 = bt := fun e3 => by
    obtain ⟨_, c2, p2⟩ := own_typed q3.r1 (g := g1) rfl
    subst e3
    exact typed_apart p2 (show W.heap[g1]? = _ from h.box) (by decide) rfl
  obtain ⟨hz1, hz2⟩ : 4 ≤ z1 ∧ z1 ≤ 9223372036854775807 := by
    obtain ⟨⟨A9, n9, c9⟩, e1, e2, _⟩ := rsrc_of_own (cells := numC) (fun _ => rfl) rfl q3.r1
    have e1 : Value.slice (some ⟨g1, 0, none⟩) 4 z1 = Value.slice A9 n9 c9 := e1
    cases e1
    exact ⟨e2.cap, e2.max⟩
  have hB := h.box1 ⟨some ⟨g1, 1, none⟩, 3, z1 - 1⟩ [-1, -1, -1] (fun W2 hk => ⟨rfl, by show 3 ≤ z1 - 1; omega, by show z1 - 1 ≤ _; omega, (fun e => by cases e), fun _ => ⟨g1, 1, rfl, fun i x hx j u hu => by
    have hi : i < 3 := (List.getElem?_eq_some_iff.1 hx).1
    have hj : j < 1 := (List.getElem?_eq_some_iff.1 hu).1
    obtain rfl : j = 0 := by omega
    rcases (show i = 0 ∨ i = 1 ∨ i = 2 by omega) with rfl | rfl | rfl
    · cases hx; cases hu; exact hk.cell r1 g1ne
    · cases hx; cases hu; exact hk.cell r2 g1ne
    · cases hx; cases hu; exact hk.cell r3 g1ne⟩⟩) bad_n5
  have HB := Lib.hid hB
  have hz3 : (1 : Int) ≤ (z1 : Int) := by omega
  have hz4 : ¬ (z1 = 1) := by omega
  clear h q1 q2 q3 hB r1 r2 r3 g1ne
  go_enter Try.func32, Try.ntmps32
  go_wp2
  first | exact bodyPost_ret (results_none rfl _ _ _) rfl ⟨rfl, HB.out⟩ | exact bodyPost_end (results_none rfl _ _ _) rfl ⟨rfl, HB.out⟩
set_option maxRecDepth 100000 in
set_option maxHeartbeats 4000000 in
theorem turn9 {w W : World} {bp bt : Nat} {V : Vs} {s : ScA} (h : Tn w W bp bt V s) : Calls Try.prog 36 #[.pointer (some ⟨bt, 0, none⟩), .pointer (some ⟨bp, 0, none⟩)] W (TurnedN w bt) := by
  obtain ⟨g0, z0, g1, z1, g2, z2, g3, z3, g4, z4, A1, c1, A2, c2, rfl, rfl⟩ := h.open
  obtain ⟨b0, B, q1, q2, q3⟩ := h.sb
  have c0 : W.cell? ⟨bt, 3, none⟩ = some (.slice (some ⟨g3, 0, none⟩) 2 z3) := h.box.cell 3
  obtain ⟨r0, f0⟩ := own_cell q3.r3 2 (.int .i64 258) rfl
  have p0 : W.cell? ⟨bp, 15, none⟩ = some (.int .i64 92480) := h.plan.cell 15
  have e1 : IntKind.i64.wrap 92481 = 92481 := by decide
  have HB := Lib.hid (h.set3 rfl 2 (.int .i64 92481) [⟨2, 1, 92481, A1, c1, [104, 105]⟩, ⟨0, 3, 38155, A2, c2, []⟩] rfl rfl (hapsame ⟨rfl, rfl⟩ rfl ⟨rfl, rfl⟩ rfl) bad_n9).drew
  clear h q1 q2 q3
  go_enter Try.func36, Try.ntmps36
  go_region
  all_goals (first | exact bodyPost_ret (results_none rfl _ _ _) rfl ⟨rfl, HB.out⟩ | exact bodyPost_end (results_none rfl _ _ _) rfl ⟨rfl, HB.out⟩)
set_option maxRecDepth 100000 in
set_option maxHeartbeats 4000000 in
theorem turn8 {w W : World} {bp bt : Nat} {V : Vs} {s : ScA} (h : Tn w W bp bt V s) : Calls Try.prog 35 #[.pointer (some ⟨bt, 0, none⟩)] W (TurnedN w bt) := by
  obtain ⟨g0, z0, g1, z1, g2, z2, g3, z3, g4, z4, A1, c1, A2, c2, rfl, rfl⟩ := h.open
  obtain ⟨b0, B, q1, q2, q3⟩ := h.sb
  have c0 : W.cell? ⟨bt, 3, none⟩ = some (.slice (some ⟨g3, 0, none⟩) 2 z3) := h.box.cell 3
  obtain ⟨r0, f0⟩ := own_cell q3.r3 3 (.slice A1 2 c1) rfl
  have hmk := make_256
  have hb1 : Below W.heap.size W (W.alloc (.cells (bv (List.replicate 256 0)).toArray 5)) := (Below.refl _ _).alloc (Nat.le_refl _) _
  have hg : Whole (W.alloc (.cells (bv (List.replicate 256 0)).toArray 5)) W.heap.size 5 (bv (List.replicate 256 0)).toArray := Whole.new W 5 _
  have hB := (h.later hb1).set3 rfl 3 (.slice (some ⟨W.heap.size, 0, none⟩) 256 256) [⟨2, 1, 258, some ⟨W.heap.size, 0, none⟩, 256, List.replicate 256 0⟩, ⟨0, 3, 38155, A2, c2, []⟩] rfl rfl (hapnew (c := 256) (l := List.replicate 256 0) hg (by simp) (by decide) (by decide) (.inr ⟨rfl, rfl, rfl⟩) (.inl ⟨rfl, rfl, rfl⟩)) bad_n8
  rw [World.setCell_alloc_past _ _ _ _ (World.block_lt_of_cell? W _ r0)] at hB
  generalize (bv (List.replicate 256 0)).toArray = zs at *
  have HB := Lib.hid hB.drew
  have r1 := k_cell hb1 r0
  have c1' := k_cell hb1 c0
  have f1 : (W.alloc (.cells zs 5)).frozen? ⟨g3, 3, none⟩ = false := (hb1.frozen (World.block_lt_of_cell? W _ r0)).trans f0
  have g3lt := World.block_lt_of_cell? W _ r0
  clear h q1 q2 q3 hb1 hg hB
  go_enter Try.func35, Try.ntmps35
  go_region
  all_goals (first | exact bodyPost_ret (results_none rfl _ _ _) rfl ⟨rfl, HB.out⟩ | exact bodyPost_end (results_none rfl _ _ _) rfl ⟨rfl, HB.out⟩)
set_option maxRecDepth 100000 in
set_option maxHeartbeats 4000000 in
theorem turn4 {w W : World} {bp bt : Nat} {V : Vs} {s : ScA} (h : Tn w W bp bt V s) : Calls Try.prog 30 #[.pointer (some ⟨bt, 0, none⟩), .pointer (some ⟨bp, 0, none⟩)] W (TurnedN w bt) := by
  obtain ⟨g0, z0, g1, z1, g2, z2, g3, z3, g4, z4, A1, c1, A2, c2, rfl, rfl⟩ := h.open
  obtain ⟨b0, B, q1, q2, q3⟩ := h.sb
  obtain ⟨r0, f0⟩ := own_cell q3.r1 0 (.int .i64 0) rfl
  have g1ne : bt ≠ g1 := fun e3 => by
    obtain ⟨_, c2, p2⟩ := own_typed q3.r1 (g := g1) rfl
    subst e3
    exact typed_apart p2 (show W.heap[bt]? = _ from h.box) (by decide) rfl
  have pne : bp ≠ g1 := fun e3 => by
    obtain ⟨_, c2, p2⟩ := own_typed q3.r1 (g := g1) rfl
    subst e3
    exact typed_apart p2 (show W.heap[bp]? = _ from h.plan) (by decide) rfl
  have HT := Lib.hid h.drew
  have KS := Lib.hid (fun w1 (h1 : Tn w w1 bp bt ⟨.slice (some ⟨g0, 0, none⟩) 4 z0, .slice (some ⟨g1, 0, none⟩) 4 z1, .slice (some ⟨g2, 0, none⟩) 2 z2, .slice (some ⟨g3, 0, none⟩) 2 z3, .slice (some ⟨g4, 0, none⟩) 2 z4⟩ ⟨[(65542, 65536), (65530, 65536), (65530, 65536), (65530, 65536)], [0, -1, -1, -1], [4, 0], [⟨2, 1, 258, A1, c1, [104, 105]⟩, ⟨0, 3, 38155, A2, c2, []⟩], [⟨2, 256, 4, 3, true⟩, ⟨2, 256, 1, 1, false⟩]⟩) => (show (w1).cell? ⟨bt, 1, none⟩ = some (.slice (some ⟨g1, 0, none⟩) 4 z1) ∧ (w1).cell? ⟨bp, 0, none⟩ = some (.int .i64 4) ∧ (w1).cell? ⟨bp, 1, none⟩ = some (.int .i64 1) ∧ (w1).cell? ⟨bp, 2, none⟩ = some (.int .i64 578) ∧ (w1).cell? ⟨bp, 3, none⟩ = some (.int .i64 278) ∧ (w1).cell? ⟨bp, 4, none⟩ = some (.int .i64 108) ∧ (w1).cell? ⟨bp, 5, none⟩ = some (.int .i64 2) ∧ (w1).cell? ⟨bp, 6, none⟩ = some (.int .i64 1) ∧ (w1).cell? ⟨bp, 7, none⟩ = some (.int .i64 5) ∧ (w1).cell? ⟨bp, 8, none⟩ = some (.int .i64 10000) ∧ (w1).cell? ⟨bp, 9, none⟩ = some (.int .i64 98) ∧ (w1).cell? ⟨bp, 10, none⟩ = some (.int .i64 72) ∧ (w1).cell? ⟨bp, 11, none⟩ = some (.int .i64 11756) ∧ (w1).cell? ⟨bp, 12, none⟩ = some (.int .i64 4) ∧ (w1).cell? ⟨bp, 13, none⟩ = some (.int .i64 2) ∧ (w1).cell? ⟨bp, 14, none⟩ = some (.int .i64 8) ∧ (w1).cell? ⟨bp, 15, none⟩ = some (.int .i64 92480) from ⟨h1.box.cell 1, planF_cells h1.plan⟩))
  have KF := Lib.hid (fun w1 v (h1 : Tn w w1 bp bt ⟨.slice (some ⟨g0, 0, none⟩) 4 z0, .slice (some ⟨g1, 0, none⟩) 4 z1, .slice (some ⟨g2, 0, none⟩) 2 z2, .slice (some ⟨g3, 0, none⟩) 2 z3, .slice (some ⟨g4, 0, none⟩) 2 z4⟩ ⟨[(65542, 65536), (65530, 65536), (65530, 65536), (65530, 65536)], [0, -1, -1, -1], [4, 0], [⟨2, 1, 258, A1, c1, [104, 105]⟩, ⟨0, 3, 38155, A2, c2, []⟩], [⟨2, 256, 4, 3, true⟩, ⟨2, 256, 1, 1, false⟩]⟩) => (show (w1.setCell ⟨g1, 0, none⟩ v).cell? ⟨bt, 1, none⟩ = some (.slice (some ⟨g1, 0, none⟩) 4 z1) ∧ (w1.setCell ⟨g1, 0, none⟩ v).cell? ⟨bp, 0, none⟩ = some (.int .i64 4) ∧ (w1.setCell ⟨g1, 0, none⟩ v).cell? ⟨bp, 1, none⟩ = some (.int .i64 1) ∧ (w1.setCell ⟨g1, 0, none⟩ v).cell? ⟨bp, 2, none⟩ = some (.int .i64 578) ∧ (w1.setCell ⟨g1, 0, none⟩ v).cell? ⟨bp, 3, none⟩ = some (.int .i64 278) ∧ (w1.setCell ⟨g1, 0, none⟩ v).cell? ⟨bp, 4, none⟩ = some (.int .i64 108) ∧ (w1.setCell ⟨g1, 0, none⟩ v).cell? ⟨bp, 5, none⟩ = some (.int .i64 2) ∧ (w1.setCell ⟨g1, 0, none⟩ v).cell? ⟨bp, 6, none⟩ = some (.int .i64 1) ∧ (w1.setCell ⟨g1, 0, none⟩ v).cell? ⟨bp, 7, none⟩ = some (.int .i64 5) ∧ (w1.setCell ⟨g1, 0, none⟩ v).cell? ⟨bp, 8, none⟩ = some (.int .i64 10000) ∧ (w1.setCell ⟨g1, 0, none⟩ v).cell? ⟨bp, 9, none⟩ = some (.int .i64 98) ∧ (w1.setCell ⟨g1, 0, none⟩ v).cell? ⟨bp, 10, none⟩ = some (.int .i64 72) ∧ (w1.setCell ⟨g1, 0, none⟩ v).cell? ⟨bp, 11, none⟩ = some (.int .i64 11756) ∧ (w1.setCell ⟨g1, 0, none⟩ v).cell? ⟨bp, 12, none⟩ = some (.int .i64 4) ∧ (w1.setCell ⟨g1, 0, none⟩ v).cell? ⟨bp, 13, none⟩ = some (.int .i64 2) ∧ (w1.setCell ⟨g1, 0, none⟩ v).cell? ⟨bp, 14, none⟩ = some (.int .i64 8) ∧ (w1.setCell ⟨g1, 0, none⟩ v).cell? ⟨bp, 15, none⟩ = some (.int .i64 92480) from ⟨(h1.box.far (p := ⟨g1, 0, none⟩) g1ne v).cell 1, planF_cells (h1.plan.far (p := ⟨g1, 0, none⟩) pne v)⟩))
  have e1 : IntKind.i64.wrap (4 * 2312) = 9248 := by decide
  have e2 : IntKind.i64.wrap (9248 + 1) = 9249 := by decide
  have e3 : IntKind.i64.wrap 9248 = 9248 := by decide
  have e4 : IntKind.i64.wrap 9249 = 9249 := by decide
  have HSB := Lib.hid (And.intro r0 f0)
  clear h q1 q2 q3 r0 f0 g1ne pne
  go_enter Try.func30, Try.ntmps30
  go_region_held3 (fun W' => W'.cell? ⟨bt, 1, none⟩ = some (.slice (some ⟨g1, 0, none⟩) 4 z1) ∧ W'.cell? ⟨bp, 0, none⟩ = some (.int .i64 4) ∧ W'.cell? ⟨bp, 1, none⟩ = some (.int .i64 1) ∧ W'.cell? ⟨bp, 2, none⟩ = some (.int .i64 578) ∧ W'.cell? ⟨bp, 3, none⟩ = some (.int .i64 278) ∧ W'.cell? ⟨bp, 4, none⟩ = some (.int .i64 108) ∧ W'.cell? ⟨bp, 5, none⟩ = some (.int .i64 2) ∧ W'.cell? ⟨bp, 6, none⟩ = some (.int .i64 1) ∧ W'.cell? ⟨bp, 7, none⟩ = some (.int .i64 5) ∧ W'.cell? ⟨bp, 8, none⟩ = some (.int .i64 10000) ∧ W'.cell? ⟨bp, 9, none⟩ = some (.int .i64 98) ∧ W'.cell? ⟨bp, 10, none⟩ = some (.int .i64 72) ∧ W'.cell? ⟨bp, 11, none⟩ = some (.int .i64 11756) ∧ W'.cell? ⟨bp, 12, none⟩ = some (.int .i64 4) ∧ W'.cell? ⟨bp, 13, none⟩ = some (.int .i64 2) ∧ W'.cell? ⟨bp, 14, none⟩ = some (.int .i64 8) ∧ W'.cell? ⟨bp, 15, none⟩ = some (.int .i64 92480)) (first | with_reducible exact KS.out _ HT.out | with_reducible exact KS.out _ HT1.out | with_reducible exact KF.out _ _ HT1.out) (first
    | (go_at_call 31; ((with_reducible refine (round_n _).mono ?_); rintro e w1 ⟨rfl, hb⟩; have HT1 := Lib.hid (HT.out.later hb); have r0 := k_cell hb (show W.drew.cell? _ = _ from HSB.out.1); have f0 := (hb.frozen (World.block_lt_of_cell? W.drew _ (show W.drew.cell? _ = _ from HSB.out.1))).trans (show W.drew.frozen? _ = _ from HSB.out.2); have HB := Lib.hid (HT1.out.set1 rfl 0 (.int .i64 9249) [9249, -1, -1, -1] rfl rfl bad_n4); clear hb)))
  all_goals (first | exact bodyPost_ret (results_none rfl _ _ _) rfl ⟨rfl, HB.out⟩ | exact bodyPost_end (results_none rfl _ _ _) rfl ⟨rfl, HB.out⟩)
end Go.Proofs.Ytljcaigaofalbaa

namespace Go.Proofs.Ytljcaigaofalbaa
open Go.RowKit Go.Shelf

theorem names_open {W : World} {V : ScV} {s : ScA} (h : ScAt W V s) (hs : s.sc = scN) : ∃ g0 o0 z0 g1 o1 z1 g2 o2 z2 g3 o3 z3 g4 o4 z4 A1 c1 A2 c2, V = ⟨⟨some ⟨g0, o0, none⟩, 4, z0⟩, ⟨some ⟨g1, o1, none⟩, 4, z1⟩, ⟨some ⟨g2, o2, none⟩, 2, z2⟩, ⟨some ⟨g3, o3, none⟩, 2, z3⟩, ⟨some ⟨g4, o4, none⟩, 2, z4⟩⟩ ∧ s = ⟨[(65542, 65536), (65530, 65536), (65530, 65536), (65530, 65536)], [0, -1, -1, -1], [4, 0], [⟨2, 1, 258, A1, c1, [104, 105]⟩, ⟨0, 3, 38155, A2, c2, []⟩], [⟨2, 256, 4, 3, true⟩, ⟨2, 256, 1, 1, false⟩]⟩ := by
  obtain ⟨r, o, d, hs', f⟩ := s
  have e0 : r = [(65542, 65536), (65530, 65536), (65530, 65536), (65530, 65536)] := congrArg Sc.rates hs
  have e1 : o = [0, -1, -1, -1] := congrArg Sc.on hs
  have e2 : d = [4, 0] := congrArg Sc.delays hs
  have e3 : hs'.map HpA.hp = [⟨2, 1, 258, [104, 105]⟩, ⟨0, 3, 38155, []⟩] := congrArg Sc.haps hs
  have e4 : f = [⟨2, 256, 4, 3, true⟩, ⟨2, 256, 1, 1, false⟩] := congrArg Sc.faults hs
  subst e0 e1 e2 e4
  obtain ⟨h1, hs', rfl⟩ : ∃ a t, hs' = a :: t := by
    cases hs' with
    | nil => simp at e3
    | cons a t => exact ⟨_, _, rfl⟩
  obtain ⟨h2, hs', rfl⟩ : ∃ a t, hs' = a :: t := by
    cases hs' with
    | nil => simp at e3
    | cons a t => exact ⟨_, _, rfl⟩
  obtain rfl : hs' = [] := by
    cases hs' with
    | nil => rfl
    | cons a t => simp at e3
  obtain ⟨k1, n1, t1, A1, c1, p1⟩ := h1
  obtain ⟨k2, n2, t2, A2, c2, p2⟩ := h2
  simp only [HpA.hp, List.map_cons, List.map_nil, List.cons.injEq, Hp.mk.injEq, and_true] at e3
  obtain ⟨⟨rfl, rfl, rfl, rfl⟩, rfl, rfl, rfl, rfl⟩ := e3
  obtain ⟨⟨a0, n0, z0⟩, ⟨a1, n1, z1⟩, ⟨a2, n2, z2⟩, ⟨a3, n3, z3⟩, ⟨a4, n4, z4⟩⟩ := V
  obtain rfl : 4 = n0 := h.r.len
  obtain rfl : 4 = n1 := h.o.len
  obtain rfl : 2 = n2 := h.d.len
  obtain rfl : 2 = n3 := h.h.row.len
  obtain rfl : 2 = n4 := h.f.len
  obtain ⟨g0, o0, e0, _⟩ := h.r.at_ (by show 0 < 4; decide)
  obtain ⟨g1, o1, e1, _⟩ := h.o.at_ (by show 0 < 4; decide)
  obtain ⟨g2, o2, e2, _⟩ := h.d.at_ (by show 0 < 2; decide)
  obtain ⟨g3, o3, e3, _⟩ := h.h.row.at_ (by show 0 < 2; decide)
  obtain ⟨g4, o4, e4, _⟩ := h.f.at_ (by show 0 < 2; decide)
  dsimp only at e0 e1 e2 e3 e4
  subst e0 e1 e2 e3 e4
  exact ⟨_, _, _, _, _, _, _, _, _, _, _, _, _, _, _, _, _, _, _, rfl, rfl⟩
section
variable {W : World} {g0 o0 z0 g1 o1 z1 g2 o2 z2 g3 o3 z3 g4 o4 z4 c1 c2 : Nat} {A1 A2 : Option Addr}
theorem names_at {α : Type} {cells : α → List Value} {k g o n z : Nat} {xs : List α} (h : RSrc cells k W ⟨some ⟨g, o, none⟩, n, z⟩ xs) (i j : Nat) (x : α) (u : Value) (hx : xs[i]? = some x) (hu : (cells x)[j]? = some u) : W.cell? ⟨g, o + i * k + j, none⟩ = some u := by
  obtain ⟨g', o', e, hc⟩ := h.spot hx
  dsimp only at e
  cases e
  exact hc j u hu
theorem names_cells (h : ScAt W ⟨⟨some ⟨g0, o0, none⟩, 4, z0⟩, ⟨some ⟨g1, o1, none⟩, 4, z1⟩, ⟨some ⟨g2, o2, none⟩, 2, z2⟩, ⟨some ⟨g3, o3, none⟩, 2, z3⟩, ⟨some ⟨g4, o4, none⟩, 2, z4⟩⟩ ⟨[(65542, 65536), (65530, 65536), (65530, 65536), (65530, 65536)], [0, -1, -1, -1], [4, 0], [⟨2, 1, 258, A1, c1, [104, 105]⟩, ⟨0, 3, 38155, A2, c2, []⟩], [⟨2, 256, 4, 3, true⟩, ⟨2, 256, 1, 1, false⟩]⟩) : W.cell? ⟨g0, o0, none⟩ = some (.int .i64 65542) ∧ W.cell? ⟨g0, o0 + 2, none⟩ = some (.int .i64 65530) ∧ W.cell? ⟨g1, o1, none⟩ = some (.int .i64 0) ∧ W.cell? ⟨g1, o1 + 1, none⟩ = some (.int .i64 (-1)) ∧ W.cell? ⟨g2, o2, none⟩ = some (.int .i64 4) ∧ W.cell? ⟨g2, o2 + 1, none⟩ = some (.int .i64 0) ∧ W.cell? ⟨g3, o3, none⟩ = some (.int .i64 2) ∧ W.cell? ⟨g3, o3 + 1, none⟩ = some (.int .i64 1) ∧ W.cell? ⟨g3, o3 + 2, none⟩ = some (.int .i64 258) ∧ W.cell? ⟨g3, o3 + 3, none⟩ = some (.slice A1 2 c1) ∧ W.cell? ⟨g3, o3 + 4, none⟩ = some (.int .i64 0) ∧ W.cell? ⟨g3, o3 + 4 + 1, none⟩ = some (.int .i64 3) ∧ W.cell? ⟨g3, o3 + 4 + 2, none⟩ = some (.int .i64 38155) ∧ W.cell? ⟨g4, o4, none⟩ = some (.int .i64 2) ∧ W.cell? ⟨g4, o4 + 1, none⟩ = some (.int .i64 256) ∧ W.cell? ⟨g4, o4 + 2, none⟩ = some (.int .i64 4) ∧ W.cell? ⟨g4, o4 + 3, none⟩ = some (.int .i64 3) ∧ W.cell? ⟨g4, o4 + 4, none⟩ = some (.bool true) ∧ W.cell? ⟨g4, o4 + 5, none⟩ = some (.int .i64 2) ∧ W.cell? ⟨g4, o4 + 5 + 1, none⟩ = some (.int .i64 256) ∧ W.cell? ⟨g4, o4 + 5 + 2, none⟩ = some (.int .i64 1) ∧ W.cell? ⟨g4, o4 + 5 + 3, none⟩ = some (.int .i64 1) ∧ W.cell? ⟨g4, o4 + 5 + 4, none⟩ = some (.bool false) := by
  refine ⟨?_, ?_, ?_, ?_, ?_, ?_, ?_, ?_, ?_, ?_, ?_, ?_, ?_, ?_, ?_, ?_, ?_, ?_, ?_, ?_, ?_, ?_, ?_⟩
  · exact names_at h.r 0 0 _ _ rfl rfl
  · exact names_at h.r 1 0 _ _ rfl rfl
  · exact names_at h.o 0 0 _ _ rfl rfl
  · exact names_at h.o 1 0 _ _ rfl rfl
  · exact names_at h.d 0 0 _ _ rfl rfl
  · exact names_at h.d 1 0 _ _ rfl rfl
  · exact names_at h.h.row 0 0 _ _ rfl rfl
  · exact names_at h.h.row 0 1 _ _ rfl rfl
  · exact names_at h.h.row 0 2 _ _ rfl rfl
  · exact names_at h.h.row 0 3 _ _ rfl rfl
  · exact names_at h.h.row 1 0 _ _ rfl rfl
  · exact names_at h.h.row 1 1 _ _ rfl rfl
  · exact names_at h.h.row 1 2 _ _ rfl rfl
  · exact names_at h.f 0 0 _ _ rfl rfl
  · exact names_at h.f 0 1 _ _ rfl rfl
  · exact names_at h.f 0 2 _ _ rfl rfl
  · exact names_at h.f 0 3 _ _ rfl rfl
  · exact names_at h.f 0 4 _ _ rfl rfl
  · exact names_at h.f 1 0 _ _ rfl rfl
  · exact names_at h.f 1 1 _ _ rfl rfl
  · exact names_at h.f 1 2 _ _ rfl rfl
  · exact names_at h.f 1 3 _ _ rfl rfl
  · exact names_at h.f 1 4 _ _ rfl rfl
theorem names_pl (h : ScAt W ⟨⟨some ⟨g0, o0, none⟩, 4, z0⟩, ⟨some ⟨g1, o1, none⟩, 4, z1⟩, ⟨some ⟨g2, o2, none⟩, 2, z2⟩, ⟨some ⟨g3, o3, none⟩, 2, z3⟩, ⟨some ⟨g4, o4, none⟩, 2, z4⟩⟩ ⟨[(65542, 65536), (65530, 65536), (65530, 65536), (65530, 65536)], [0, -1, -1, -1], [4, 0], [⟨2, 1, 258, A1, c1, [104, 105]⟩, ⟨0, 3, 38155, A2, c2, []⟩], [⟨2, 256, 4, 3, true⟩, ⟨2, 256, 1, 1, false⟩]⟩) : Src W A1 2 [104, 105] := (h.h.pl ⟨2, 1, 258, A1, c1, [104, 105]⟩ (List.mem_cons_self ..)).src
end
theorem own_full (w : World) (cs : Array Value) (n base : Nat) (e : TypeId) (hb : base ≤ w.heap.size) (hn : n ≤ 1000000) (hs : cs.size = n) : (w.alloc (.cells cs e)).ownsRow base e 1 (.slice (some ⟨w.heap.size, 0, none⟩) n n) n cs.toList :=
  ⟨by rw [Nat.mul_one, ← hs, Array.length_toList], .inr ⟨w.heap.size, n, cs, rfl, hb, heap_alloc_new w _, Nat.le_refl _, by simp only [maxLen]; omega, by omega, by rw [Nat.mul_one, ← hs, ← Array.length_toList, List.take_length]⟩⟩
theorem wpList_append_zeros {P : Program} (w : World) {ops : Array Oper} {rest : List Oper} {o : Oper} {a : Act} {Q : Exit → Act → World → Prop} (hgd : o.guard = none) (s x : Operand) (t tn : TypeId)
    (ho : o.op = .call { callee := .builtin .append, args := #[s, x], argTypes := #[t, tn] }) (base : Nat)
    (e : TypeId) (i : TypeInfo) (kn : IntKind) (ht : P.underlying t = some (.slice e)) (htn : P.underlying tn = some (.int kn)) (hi : P.info? e = some i) (hz : i.zero = some (.int .u8 0)) (hsize : i.size = 1) (hby : i.bytes = 1)
    (v : Value) (n : Nat) (l : List UInt8) (hs : a.eval s = v) (hown : w.ownsRow base e 1 v n (bv l)) (m : Nat) (hx : a.eval x = .int .i64 (m : Int)) (h0 : 0 < m) (hlen : n + m ≤ 1099511627776) (hbase : base ≤ w.heap.size)
    (h : ∀ v' w', w'.ownsRow base e 1 v' (n + m) (bv (l ++ zer m)) → w.grownBy w' v.ownBlock → wpList P ops Q rest (a.put o.dst v') w') : wpList P ops Q (o :: rest) a w :=
  wpList_plain hgd fun _ hK => by
    obtain ⟨v', w', hrun, h2, h3, h4⟩ := run_append_zeros (P := P) w base t tn o.type e i kn ht htn hi hz hsize hby v n l hown m h0 hlen hbase
    unfold Oper.wp execOp
    simp only [ho, resolve, invoke, builtin, Sem.run_bind, Sem.run_pure, Result.andThen_ok, List.map_toArray, List.map_cons, List.map_nil, hs, hx, hrun]
    exact hK _ _ (h v' w' h2 h3)
/-- A function value that makes the copy one that may not be. -/
def TurnF (bp : Nat) (fv : Value) : Prop := ∃ (k : FuncId) (cap : Array Value), fv = .func (.func k) #[] cap ∧ (∀ args W, (callFunc k args).run Try.prog W = .ok (.enter k args) W) ∧ ∀ (w W : World) (bt : Nat) (V : Vs) (s : ScA), Tn w W bp bt V s → Calls Try.prog k (#[.pointer (some ⟨bt, 0, none⟩)] ++ cap) W (TurnedN w bt)
theorem turnf1 (bp : Nat) : TurnF bp (.func (.func 27) #[] #[]) := ⟨_, _, rfl, enters_of Try.func27 (by kernel_rfl) rfl, fun _ _ _ _ _ h => turn1 h⟩
theorem turnf2 (bp : Nat) : TurnF bp (.func (.func 28) #[] #[]) := ⟨_, _, rfl, enters_of Try.func28 (by kernel_rfl) rfl, fun _ _ _ _ _ h => turn2 h⟩
theorem turnf3 (bp : Nat) : TurnF bp (.func (.func 29) #[] #[]) := ⟨_, _, rfl, enters_of Try.func29 (by kernel_rfl) rfl, fun _ _ _ _ _ h => turn3 h⟩
theorem turnf4 (bp : Nat) : TurnF bp (.func (.func 30) #[] #[.pointer (some ⟨bp, 0, none⟩)]) := ⟨_, _, rfl, enters_of Try.func30 (by kernel_rfl) rfl, fun _ _ _ _ _ h => turn4 h⟩
theorem turnf5 (bp : Nat) : TurnF bp (.func (.func 32) #[] #[]) := ⟨_, _, rfl, enters_of Try.func32 (by kernel_rfl) rfl, fun _ _ _ _ _ h => turn5 h⟩
theorem turnf6 (bp : Nat) : TurnF bp (.func (.func 33) #[] #[]) := ⟨_, _, rfl, enters_of Try.func33 (by kernel_rfl) rfl, fun _ _ _ _ _ h => turn6 h⟩
theorem turnf7 (bp : Nat) : TurnF bp (.func (.func 34) #[] #[]) := ⟨_, _, rfl, enters_of Try.func34 (by kernel_rfl) rfl, fun _ _ _ _ _ h => turn7 h⟩
theorem turnf8 (bp : Nat) : TurnF bp (.func (.func 35) #[] #[]) := ⟨_, _, rfl, enters_of Try.func35 (by kernel_rfl) rfl, fun _ _ _ _ _ h => turn8 h⟩
theorem turnf9 (bp : Nat) : TurnF bp (.func (.func 36) #[] #[.pointer (some ⟨bp, 0, none⟩)]) := ⟨_, _, rfl, enters_of Try.func36 (by kernel_rfl) rfl, fun _ _ _ _ _ h => turn9 h⟩
theorem turnf10 (bp : Nat) : TurnF bp (.func (.func 37) #[] #[]) := ⟨_, _, rfl, enters_of Try.func37 (by kernel_rfl) rfl, fun _ _ _ _ _ h => turn10 h⟩
theorem turnf11 (bp : Nat) : TurnF bp (.func (.func 38) #[] #[]) := ⟨_, _, rfl, enters_of Try.func38 (by kernel_rfl) rfl, fun _ _ _ _ _ h => turn11 h⟩
theorem turnf12 (bp : Nat) : TurnF bp (.func (.func 39) #[] #[]) := ⟨_, _, rfl, enters_of Try.func39 (by kernel_rfl) rfl, fun _ _ _ _ _ h => turn12 h⟩
theorem turnf13 (bp : Nat) : TurnF bp (.func (.func 40) #[] #[]) := ⟨_, _, rfl, enters_of Try.func40 (by kernel_rfl) rfl, fun _ _ _ _ _ h => turn13 h⟩
theorem turnf14 (bp : Nat) : TurnF bp (.func (.func 41) #[] #[]) := ⟨_, _, rfl, enters_of Try.func41 (by kernel_rfl) rfl, fun _ _ _ _ _ h => turn14 h⟩
theorem turnf15 (bp : Nat) : TurnF bp (.func (.func 42) #[] #[]) := ⟨_, _, rfl, enters_of Try.func42 (by kernel_rfl) rfl, fun _ _ _ _ _ h => turn15 h⟩
def turnsN (bp : Nat) : Array Value := #[.func (.func 27) #[] #[], .func (.func 28) #[] #[], .func (.func 29) #[] #[], .func (.func 30) #[] #[.pointer (some ⟨bp, 0, none⟩)], .func (.func 32) #[] #[], .func (.func 33) #[] #[], .func (.func 34) #[] #[], .func (.func 35) #[] #[], .func (.func 36) #[] #[.pointer (some ⟨bp, 0, none⟩)], .func (.func 37) #[] #[], .func (.func 38) #[] #[], .func (.func 39) #[] #[], .func (.func 40) #[] #[], .func (.func 41) #[] #[], .func (.func 42) #[] #[]]
theorem turns_all (bp k : Nat) (hk : k < 15) : ∃ fv, (turnsN bp)[k]? = some fv ∧ TurnF bp fv := by
  rcases (show k = 0 ∨ k = 1 ∨ k = 2 ∨ k = 3 ∨ k = 4 ∨ k = 5 ∨ k = 6 ∨ k = 7 ∨ k = 8 ∨ k = 9 ∨ k = 10 ∨ k = 11 ∨ k = 12 ∨ k = 13 ∨ k = 14 by omega) with rfl | rfl | rfl | rfl | rfl | rfl | rfl | rfl | rfl | rfl | rfl | rfl | rfl | rfl | rfl
  · exact ⟨_, rfl, turnf1 bp⟩
  · exact ⟨_, rfl, turnf2 bp⟩
  · exact ⟨_, rfl, turnf3 bp⟩
  · exact ⟨_, rfl, turnf4 bp⟩
  · exact ⟨_, rfl, turnf5 bp⟩
  · exact ⟨_, rfl, turnf6 bp⟩
  · exact ⟨_, rfl, turnf7 bp⟩
  · exact ⟨_, rfl, turnf8 bp⟩
  · exact ⟨_, rfl, turnf9 bp⟩
  · exact ⟨_, rfl, turnf10 bp⟩
  · exact ⟨_, rfl, turnf11 bp⟩
  · exact ⟨_, rfl, turnf12 bp⟩
  · exact ⟨_, rfl, turnf13 bp⟩
  · exact ⟨_, rfl, turnf14 bp⟩
  · exact ⟨_, rfl, turnf15 bp⟩
theorem names_copy {W : World} {g0 o0 z0 g1 o1 z1 g2 o2 z2 g3 o3 z3 g4 o4 z4 c1 c2 : Nat} {A1 A2 : Option Addr} (h : ScAt W ⟨⟨some ⟨g0, o0, none⟩, 4, z0⟩, ⟨some ⟨g1, o1, none⟩, 4, z1⟩, ⟨some ⟨g2, o2, none⟩, 2, z2⟩, ⟨some ⟨g3, o3, none⟩, 2, z3⟩, ⟨some ⟨g4, o4, none⟩, 2, z4⟩⟩ ⟨[(65542, 65536), (65530, 65536), (65530, 65536), (65530, 65536)], [0, -1, -1, -1], [4, 0], [⟨2, 1, 258, A1, c1, [104, 105]⟩, ⟨0, 3, 38155, A2, c2, []⟩], [⟨2, 256, 4, 3, true⟩, ⟨2, 256, 1, 1, false⟩]⟩) :
    Calls Try.prog 11 #[.agg (ScV.cells ⟨⟨some ⟨g0, o0, none⟩, 4, z0⟩, ⟨some ⟨g1, o1, none⟩, 4, z1⟩, ⟨some ⟨g2, o2, none⟩, 2, z2⟩, ⟨some ⟨g3, o3, none⟩, 2, z3⟩, ⟨some ⟨g4, o4, none⟩, 2, z4⟩⟩)] W fun e w' => ∃ (S : ScV) (V' : Vs) (s' : ScA) (B b0 : Nat), e = .returned (.agg S.cells) ∧ V'.cells = S.cells ∧ SB w' (fun i => b0 ≤ i) b0 B V' s' ∧ s'.sc = scN ∧ Below W.heap.size W w' ∧ W.heap.size ≤ b0 := by
  refine (refCopy_new _ _ W h ⟨⟨by show 4 ≤ 1000000; decide, by show 4 ≤ 1000000; decide⟩, ⟨by show 2 ≤ 1000000; decide, by show 2 ≤ 1000000; decide⟩, by show 2 ≤ 1000000; decide⟩ (fun y hy => ?_)).mono fun e w' k => ?_
  · simp only [List.mem_cons, List.not_mem_nil, or_false] at hy
    rcases hy with rfl | rfl
    · show 2 ≤ 1000000; decide
    · show 0 ≤ 1000000; decide
  · obtain ⟨V', s', B, b0, rfl, hsb, hsc, hb, hlo⟩ := k
    obtain ⟨S, e1, _, _⟩ := hsb.sc
    exact ⟨S, V', s', B, b0, by rw [e1], e1, hsb, hsc, hb, hlo⟩
theorem names_tn {W w2 : World} {bp : Nat} {S : ScV} {V' : Vs} {s' : ScA} {B b0 : Nat} (e1 : V'.cells = S.cells) (hsb : SB w2 (fun i => b0 ≤ i) b0 B V' s') (hsc : s'.sc = scN) (hb : Below W.heap.size W w2) (hlo : W.heap.size ≤ b0) (hp : Whole W bp 23 planF.cells) : Tn W (w2.alloc (.cells S.cells 29)) bp w2.heap.size V' s' := by
  have hba : Below w2.heap.size w2 (w2.alloc (.cells S.cells 29)) := (Below.refl _ _).alloc (Nat.le_refl _) _
  have hB := hsb.box.lt
  exact ⟨by rw [e1]; exact Whole.new w2 _ _, k_later hba (k_later hb hp), ⟨hp.lt, hb.size⟩, ⟨b0, B, hlo, by omega, hsb.same (Kept.of_below hba _)⟩, k_then hba hb, hsc⟩
theorem turned_enc {V : ScV} {s : ScA} {W : World} (h : ScAt W V s) (hm : mayS planF s.sc = false) : Calls Try.prog 13 #[.agg planF.cells, .agg V.cells] W fun e w' => e = .returned (.tuple #[.slice none 0 0, .int .i64 110]) ∧ Below W.heap.size W w' := encode_no planF V s W h hm
theorem turned_chk {V : ScV} {s : ScA} {W : World} (h : ScAt W V s) (hm : mayS planF s.sc = false) : Calls Try.prog 18 #[.agg planF.cells, .agg V.cells] W fun e w' => e = .returned (.int .i64 110) ∧ Below W.heap.size W w' := by
  have := CheckS_any planF V s W h
  rw [hm] at this
  exact this
set_option maxRecDepth 100000 in
theorem make_big : ∃ zs : Array Value, ∀ w : World, (Instr.makeSlice 30 (.int .i64 65537) (.int .i64 65537)).run Try.prog w = .ok (.slice (some ⟨w.heap.size, 0, none⟩) 65537 65537) (w.alloc (.cells zs 5)) := by
  obtain ⟨i, hi, hz, hs, hb⟩ := info_parts u8_info
  exact ⟨_, fun w => run_makeSlice w 30 5 i (.int .u8 0) Try.underlying30 hi hz .i64 .i64 65537 65537 (by decide) (by decide) (by rw [hs]; decide) (by rw [hb]; decide) (by decide)⟩
theorem names_long (A : Option Addr) (W : World) : Calls Try.prog 15 #[.agg #[.int .i64 4, .int .i64 1, .int .i64 578, .int .i64 278, .int .i64 108, .int .i64 2, .int .i64 1, .int .i64 5, .int .i64 10000, .int .i64 98, .int .i64 72, .int .i64 11756, .int .i64 4, .int .i64 2, .int .i64 8, .int .i64 92480], .slice A 65537 65537] W fun e w' => e = .returned (.tuple #[.agg #[.slice none 0 0, .slice none 0 0, .slice none 0 0, .slice none 0 0, .slice none 0 0], .int .i64 110]) ∧ Below W.heap.size W w' := decode_long planF failsF A 65537 65537 (by decide) W
theorem fails_zero : ¬ failsL zeroL 11 = 0 := by decide
theorem names_zero (W : World) : Calls Try.prog 15 #[.agg #[.int .i64 0, .int .i64 0, .int .i64 0, .int .i64 0, .int .i64 0, .int .i64 0, .int .i64 0, .int .i64 0, .int .i64 0, .int .i64 0, .int .i64 0, .int .i64 0, .int .i64 0, .int .i64 0, .int .i64 0, .int .i64 0], .slice none 0 0] W fun e w' => e = .returned (.tuple #[.agg #[.slice none 0 0, .slice none 0 0, .slice none 0 0, .slice none 0 0, .slice none 0 0], .int .i64 110]) ∧ Below W.heap.size W w' := decode_plan zeroL fails_zero none 0 0 W
set_option maxRecDepth 100000 in
theorem names_enc {W : World} {g0 o0 z0 g1 o1 z1 g2 o2 z2 g3 o3 z3 g4 o4 z4 c1 c2 : Nat} {A1 A2 : Option Addr} (h : ScAt W ⟨⟨some ⟨g0, o0, none⟩, 4, z0⟩, ⟨some ⟨g1, o1, none⟩, 4, z1⟩, ⟨some ⟨g2, o2, none⟩, 2, z2⟩, ⟨some ⟨g3, o3, none⟩, 2, z3⟩, ⟨some ⟨g4, o4, none⟩, 2, z4⟩⟩ ⟨[(65542, 65536), (65530, 65536), (65530, 65536), (65530, 65536)], [0, -1, -1, -1], [4, 0], [⟨2, 1, 258, A1, c1, [104, 105]⟩, ⟨0, 3, 38155, A2, c2, []⟩], [⟨2, 256, 4, 3, true⟩, ⟨2, 256, 1, 1, false⟩]⟩) : Calls Try.prog 13 #[.agg planF.cells, .agg (ScV.cells ⟨⟨some ⟨g0, o0, none⟩, 4, z0⟩, ⟨some ⟨g1, o1, none⟩, 4, z1⟩, ⟨some ⟨g2, o2, none⟩, 2, z2⟩, ⟨some ⟨g3, o3, none⟩, 2, z3⟩, ⟨some ⟨g4, o4, none⟩, 2, z4⟩⟩)] W fun e w' => ∃ A c, e = .returned (.tuple #[.slice A 71 c, .int .i64 0]) ∧ Below W.heap.size W w' := by
  refine (Encode_u planF _ _ W h (encU planF scN) 0 rfl (by show errS (mayS planF scN) = 0; rw [may_n]; rfl)).mono fun e w' k => ?_
  obtain ⟨A, c, e1, _, e3⟩ := k
  rw [enc_n] at e1
  exact ⟨A, c, e1, e3⟩
set_option maxRecDepth 100000 in
theorem names_nil (W : World) : Calls Try.prog 18 #[.agg planF.cells, .agg #[.slice none 0 0, .slice none 0 0, .slice none 0 0, .slice none 0 0, .slice none 0 0]] W fun e w' => e = .returned (.int .i64 110) ∧ Below W.heap.size W w' := turned_chk (V := ScV.zero) (s := ⟨[], [], [], [], []⟩) (ScAt.zero W) bad_nil
theorem later_next {W w2 : World} {y : Later W} (hb : Below y.at_.heap.size y.at_ w2) : ∃ z : Later W, w2 = z.at_ := ⟨⟨w2, k_then hb y.below⟩, rfl⟩
theorem raw_cat : (((((([0, 0, 0, 12, 0, 0, 0, 1, 0, 0, 0, 13, 0, 0, 0, 0] ++ zer 16) ++ [0, 2, 0, 0, 0, 4, 0, 0, 0, 5]) ++ [6, 9, 0, 0, 1, 2, 2, 104, 105]) ++ [7, 6, 1, 0, 9, 5, 3]) ++ [3, 2, 1, 0, 1, 0, 0]) ++ [0, 3, 1]) = rawN := by rfl
end Go.Proofs.Ytljcaigaofalbaa
