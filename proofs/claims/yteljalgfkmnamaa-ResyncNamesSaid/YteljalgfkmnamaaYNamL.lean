/- ResyncNames, its walk. No condition. -/
import Derived.Test.YteljalgfkmnamaaYSome
import Derived.Test.YteljalgfkmnamaaYFold
namespace Go.Proofs.Yteljalgfkmnamaa
open Go.RowKit Go.Shelf

theorem corl_0 : corE planS [70, 70, 70] = 151 ∧ corB planS [70, 70, 70] = 0 := cor_out (a := 70) (b := 70) (by decide) (by decide) ⟨by decide, by decide⟩ ⟨by decide, by decide⟩ (by decide)
theorem corl_1 : corE planS [0, 64, 64] = 0 ∧ corB planS [0, 64, 64] = -64 := cor_in (a := 64) (b := 64) (by decide) (by decide) ⟨by decide, by decide⟩ ⟨by decide, by decide⟩ _ (by decide) (by decide)
theorem corl_2 : corE planS [0, 65, 65] = 151 ∧ corB planS [0, 65, 65] = 0 := cor_out (a := 65) (b := 65) (by decide) (by decide) ⟨by decide, by decide⟩ ⟨by decide, by decide⟩ (by decide)
theorem corl_3 : corE planS [0, -64, -64] = 0 ∧ corB planS [0, -64, -64] = 64 := cor_in (a := -64) (b := -64) (by decide) (by decide) ⟨by decide, by decide⟩ ⟨by decide, by decide⟩ _ (by decide) (by decide)
theorem corl_4 : corE planS [0, -65, -65] = 151 ∧ corB planS [0, -65, -65] = 0 := cor_out (a := -65) (b := -65) (by decide) (by decide) ⟨by decide, by decide⟩ ⟨by decide, by decide⟩ (by decide)
theorem corl_5 : corE planS [0, 1, 2] = 0 ∧ corB planS [0, 1, 2] = -1 := cor_in (a := 1) (b := 1) (by decide) (by decide) ⟨by decide, by decide⟩ ⟨by decide, by decide⟩ _ (by decide) (by decide)
theorem corl_6 : corE planS [4294967297] = 150 ∧ corB planS [4294967297] = 0 := cor_bad (by decide)
theorem corl_7 : corE planS [-4294967296] = 0 ∧ corB planS [-4294967296] = 0 := cor_few (by decide) (by decide)
theorem corl_8 : corE planS [0, 0, 0] = 0 ∧ corB planS [0, 0, 0] = 0 := cor_in (a := 0) (b := 0) (by decide) (by decide) ⟨by decide, by decide⟩ ⟨by decide, by decide⟩ _ (by decide) (by decide)
theorem corl_9 : corE planS [] = 0 ∧ corB planS [] = 0 := cor_few (by decide) (by decide)
theorem corl_10 : corE planS [-5, -5, -5] = 0 ∧ corB planS [-5, -5, -5] = 5 := cor_in (a := -5) (b := -5) (by decide) (by decide) ⟨by decide, by decide⟩ ⟨by decide, by decide⟩ _ (by decide) (by decide)
theorem corl_11 : corE planS [0, 2, 4] = 0 ∧ corB planS [0, 2, 4] = -2 := cor_in (a := 2) (b := 2) (by decide) (by decide) ⟨by decide, by decide⟩ ⟨by decide, by decide⟩ _ (by decide) (by decide)
theorem corl_12 : corE planS [-4, -4, -4] = 0 ∧ corB planS [-4, -4, -4] = 4 := cor_in (a := -4) (b := -4) (by decide) (by decide) ⟨by decide, by decide⟩ ⟨by decide, by decide⟩ _ (by decide) (by decide)
theorem corl_13 : corE planS [99, 99, 99] = 151 ∧ corB planS [99, 99, 99] = 0 := cor_out (a := 99) (b := 99) (by decide) (by decide) ⟨by decide, by decide⟩ ⟨by decide, by decide⟩ (by decide)
theorem turn_I : turnL planS ⟨3, 2, 7, false⟩ [70, 70, 70] = ⟨⟨3, 2, 7, true⟩, 0, 151⟩ := turn_is corl_0 (by rfl)
theorem turn_J : turnL planS ⟨3, 2, 7, true⟩ [0, 0, 0] = ⟨⟨3, 2, 7, true⟩, 0, 151⟩ := turn_is corl_8 (by rfl)
theorem turn_K : turnL planS ⟨3, 2, 7, false⟩ [] = ⟨⟨4, 2, 7, false⟩, 0, 0⟩ := turn_is corl_9 (by rfl)
theorem turn_L : turnL planS ⟨0, 1, 0, false⟩ [] = ⟨⟨0, 0, 0, false⟩, 0, 150⟩ := turn_is corl_9 (by rfl)
theorem turn_M : turnL planS ⟨-1, 0, 0, false⟩ [] = ⟨⟨0, 0, 0, false⟩, 0, 150⟩ := turn_is corl_9 (by rfl)
theorem turn_N : turnL planS ⟨2147483647, 0, 0, false⟩ [] = ⟨⟨0, 0, 0, false⟩, 0, 150⟩ := turn_is corl_9 (by rfl)
theorem turn_O : turnL planS ⟨1, 0, 4294967296, false⟩ [-5, -5, -5] = ⟨⟨0, 0, 0, false⟩, 0, 150⟩ := turn_is corl_10 (by rfl)
theorem zero_no : planB zeroL = false := by decide
theorem turn_P : turnL zeroL ⟨0, 0, 0, false⟩ [] = ⟨⟨0, 0, 0, false⟩, 0, 150⟩ := turn_is (e := 150) (c := 0) (by unfold corE corB; rw [zero_no]; exact ⟨rfl, rfl⟩) (by rfl)
theorem turn_Q0 : turnL planS ⟨0, 0, 0, false⟩ [0, 2, 4] = ⟨⟨1, 1, -2, false⟩, -2, 0⟩ := turn_is corl_11 (by rfl)
theorem turn_Q1 : turnL planS ⟨1, 1, -2, false⟩ [] = ⟨⟨2, 1, -2, false⟩, 0, 0⟩ := turn_is corl_9 (by rfl)
theorem turn_Q2 : turnL planS ⟨2, 1, -2, false⟩ [-4, -4, -4] = ⟨⟨3, 2, 2, false⟩, 4, 0⟩ := turn_is corl_12 (by rfl)
theorem turn_Q3 : turnL planS ⟨3, 2, 2, false⟩ [0, 0, 0] = ⟨⟨4, 2, 2, false⟩, 0, 0⟩ := turn_is corl_8 (by rfl)
theorem fold_Q : foldY planS [[0, 2, 4], [], [-4, -4, -4], [0, 0, 0]] 4 = (⟨4, 2, 2, false⟩, 0) := by
  have h0 : foldY planS [[0, 2, 4], [], [-4, -4, -4], [0, 0, 0]] 0 = (⟨0, 0, 0, false⟩, 0) := rfl
  have h1 : foldY planS [[0, 2, 4], [], [-4, -4, -4], [0, 0, 0]] 1 = (⟨1, 1, -2, false⟩, 0) := by
    have e : foldY planS [[0, 2, 4], [], [-4, -4, -4], [0, 0, 0]] 1 = if (foldY planS [[0, 2, 4], [], [-4, -4, -4], [0, 0, 0]] 0).2 = 0 then ((turnL planS (foldY planS [[0, 2, 4], [], [-4, -4, -4], [0, 0, 0]] 0).1 [0, 2, 4]).y, (turnL planS (foldY planS [[0, 2, 4], [], [-4, -4, -4], [0, 0, 0]] 0).1 [0, 2, 4]).e) else foldY planS [[0, 2, 4], [], [-4, -4, -4], [0, 0, 0]] 0 := rfl
    rw [e, h0, if_pos rfl, turn_Q0]
  have h2 : foldY planS [[0, 2, 4], [], [-4, -4, -4], [0, 0, 0]] 2 = (⟨2, 1, -2, false⟩, 0) := by
    have e : foldY planS [[0, 2, 4], [], [-4, -4, -4], [0, 0, 0]] 2 = if (foldY planS [[0, 2, 4], [], [-4, -4, -4], [0, 0, 0]] 1).2 = 0 then ((turnL planS (foldY planS [[0, 2, 4], [], [-4, -4, -4], [0, 0, 0]] 1).1 []).y, (turnL planS (foldY planS [[0, 2, 4], [], [-4, -4, -4], [0, 0, 0]] 1).1 []).e) else foldY planS [[0, 2, 4], [], [-4, -4, -4], [0, 0, 0]] 1 := rfl
    rw [e, h1, if_pos rfl, turn_Q1]
  have h3 : foldY planS [[0, 2, 4], [], [-4, -4, -4], [0, 0, 0]] 3 = (⟨3, 2, 2, false⟩, 0) := by
    have e : foldY planS [[0, 2, 4], [], [-4, -4, -4], [0, 0, 0]] 3 = if (foldY planS [[0, 2, 4], [], [-4, -4, -4], [0, 0, 0]] 2).2 = 0 then ((turnL planS (foldY planS [[0, 2, 4], [], [-4, -4, -4], [0, 0, 0]] 2).1 [-4, -4, -4]).y, (turnL planS (foldY planS [[0, 2, 4], [], [-4, -4, -4], [0, 0, 0]] 2).1 [-4, -4, -4]).e) else foldY planS [[0, 2, 4], [], [-4, -4, -4], [0, 0, 0]] 2 := rfl
    rw [e, h2, if_pos rfl, turn_Q2]
  have h4 : foldY planS [[0, 2, 4], [], [-4, -4, -4], [0, 0, 0]] 4 = (⟨4, 2, 2, false⟩, 0) := by
    have e : foldY planS [[0, 2, 4], [], [-4, -4, -4], [0, 0, 0]] 4 = if (foldY planS [[0, 2, 4], [], [-4, -4, -4], [0, 0, 0]] 3).2 = 0 then ((turnL planS (foldY planS [[0, 2, 4], [], [-4, -4, -4], [0, 0, 0]] 3).1 [0, 0, 0]).y, (turnL planS (foldY planS [[0, 2, 4], [], [-4, -4, -4], [0, 0, 0]] 3).1 [0, 0, 0]).e) else foldY planS [[0, 2, 4], [], [-4, -4, -4], [0, 0, 0]] 3 := rfl
    rw [e, h3, if_pos rfl, turn_Q3]
  exact h4
theorem turn_R0 : turnL planS ⟨0, 0, 0, false⟩ [0, 2, 4] = ⟨⟨1, 1, -2, false⟩, -2, 0⟩ := turn_is corl_11 (by rfl)
theorem turn_R1 : turnL planS ⟨1, 1, -2, false⟩ [99, 99, 99] = ⟨⟨1, 1, -2, true⟩, 0, 151⟩ := turn_is corl_13 (by rfl)
theorem fold_R : foldY planS [[0, 2, 4], [99, 99, 99], [0, 0, 0]] 3 = (⟨1, 1, -2, true⟩, 151) := by
  have h0 : foldY planS [[0, 2, 4], [99, 99, 99], [0, 0, 0]] 0 = (⟨0, 0, 0, false⟩, 0) := rfl
  have h1 : foldY planS [[0, 2, 4], [99, 99, 99], [0, 0, 0]] 1 = (⟨1, 1, -2, false⟩, 0) := by
    have e : foldY planS [[0, 2, 4], [99, 99, 99], [0, 0, 0]] 1 = if (foldY planS [[0, 2, 4], [99, 99, 99], [0, 0, 0]] 0).2 = 0 then ((turnL planS (foldY planS [[0, 2, 4], [99, 99, 99], [0, 0, 0]] 0).1 [0, 2, 4]).y, (turnL planS (foldY planS [[0, 2, 4], [99, 99, 99], [0, 0, 0]] 0).1 [0, 2, 4]).e) else foldY planS [[0, 2, 4], [99, 99, 99], [0, 0, 0]] 0 := rfl
    rw [e, h0, if_pos rfl, turn_R0]
  have h2 : foldY planS [[0, 2, 4], [99, 99, 99], [0, 0, 0]] 2 = (⟨1, 1, -2, true⟩, 151) := by
    have e : foldY planS [[0, 2, 4], [99, 99, 99], [0, 0, 0]] 2 = if (foldY planS [[0, 2, 4], [99, 99, 99], [0, 0, 0]] 1).2 = 0 then ((turnL planS (foldY planS [[0, 2, 4], [99, 99, 99], [0, 0, 0]] 1).1 [99, 99, 99]).y, (turnL planS (foldY planS [[0, 2, 4], [99, 99, 99], [0, 0, 0]] 1).1 [99, 99, 99]).e) else foldY planS [[0, 2, 4], [99, 99, 99], [0, 0, 0]] 1 := rfl
    rw [e, h1, if_pos rfl, turn_R1]
  have h3 : foldY planS [[0, 2, 4], [99, 99, 99], [0, 0, 0]] 3 = (⟨1, 1, -2, true⟩, 151) := by
    have e : foldY planS [[0, 2, 4], [99, 99, 99], [0, 0, 0]] 3 = if (foldY planS [[0, 2, 4], [99, 99, 99], [0, 0, 0]] 2).2 = 0 then ((turnL planS (foldY planS [[0, 2, 4], [99, 99, 99], [0, 0, 0]] 2).1 [0, 0, 0]).y, (turnL planS (foldY planS [[0, 2, 4], [99, 99, 99], [0, 0, 0]] 2).1 [0, 0, 0]).e) else foldY planS [[0, 2, 4], [99, 99, 99], [0, 0, 0]] 2 := rfl
    rw [e, h2, if_neg (by decide)]
  exact h3
theorem fold_S : foldY planS [] 0 = (⟨0, 0, 0, false⟩, 0) := by
  rfl

/-- What the law keeps: the plan's box, and boxes of states. -/
structure NB (w : World) (g1 : Nat) (ps : Array Value) (bs : List (Nat × Array Value)) (W : World) : Prop where
  below : Below w.heap.size w W
  plan : Whole W g1 23 ps
  box : ∀ p ∈ bs, Whole W p.1 25 p.2
theorem NB.later {w W W' : World} {g1 : Nat} {ps : Array Value} {bs : List (Nat × Array Value)} (h : NB w g1 ps bs W) (hb : Below W.heap.size W W') : NB w g1 ps bs W' :=
  ⟨k_then hb h.below, k_later hb h.plan, fun p hp => k_later hb (h.box p hp)⟩
theorem NB.add {w W : World} {g1 : Nat} {ps : Array Value} {bs : List (Nat × Array Value)} (h : NB w g1 ps bs W) (cs : Array Value) : NB w g1 ps ((W.heap.size, cs) :: bs) (W.alloc (.cells cs 25)) := by
  have hb : Below W.heap.size W (W.alloc (.cells cs 25)) := (Below.refl _ _).alloc (Nat.le_refl _) _
  have h2 := h.later hb
  refine ⟨h2.below, h2.plan, fun p hp => ?_⟩
  rcases List.mem_cons.1 hp with rfl | hp
  · exact Whole.new _ _ _
  · exact h2.box p hp
theorem slot_list (cs : Array Value) (L : List Sl) (h : cs = (L.flatMap slC).toArray) {W : World} : RSrc slC 1 (W.alloc (.cells cs 26)) ⟨some ⟨W.heap.size, 0, none⟩, L.length, L.length⟩ L ∨ L.length > 1000000 := by
  rcases Nat.lt_or_ge 1000000 L.length with q | q
  · exact .inr q
  · exact .inl (rsrc_whole (cells := slC) (k := 1) (t := 26) (fun _ => rfl) (by rw [h]; exact Whole.new _ _ _) (by omega))
/-- Rows that were just written. -/
theorem fold_Q_new (W : World) (ps : Array Value) (hps : ps = planS.cells) : Calls Try.prog 11 #[.agg ps, .slice (some ⟨W.heap.size + 1 + 1 + 1, 0, none⟩) 4 4]
    ((((W.alloc (.cells #[.int .i64 0, .int .i64 2, .int .i64 4] 2)).alloc (.cells #[.int .i64 (-4), .int .i64 (-4), .int .i64 (-4)] 2)).alloc (.cells #[.int .i64 0, .int .i64 0, .int .i64 0] 2)).alloc (.cells #[.slice (some ⟨W.heap.size, 0, none⟩) 3 3, .slice none 0 0, .slice (some ⟨W.heap.size + 1, 0, none⟩) 3 3, .slice (some ⟨W.heap.size + 1 + 1, 0, none⟩) 3 3] 26))
    fun e w' => e = .returned (.tuple #[.agg #[.int .i64 4, .int .i64 2, .int .i64 2, .bool false], .int .i64 0]) ∧ Below W.heap.size W w' := by
  subst hps
  obtain ⟨r1, k1⟩ := src_new (W := W) (fs := [0, 2, 4]) (n := 3) rfl (by decide) (cs := #[.int .i64 0, .int .i64 2, .int .i64 4]) rfl
  obtain ⟨r2, k2⟩ := src_new (W := W.alloc (.cells #[.int .i64 0, .int .i64 2, .int .i64 4] 2)) (fs := [-4, -4, -4]) (n := 3) rfl (by decide) (cs := #[.int .i64 (-4), .int .i64 (-4), .int .i64 (-4)]) rfl
  obtain ⟨r3, k3⟩ := src_new (W := (W.alloc (.cells #[.int .i64 0, .int .i64 2, .int .i64 4] 2)).alloc (.cells #[.int .i64 (-4), .int .i64 (-4), .int .i64 (-4)] 2)) (fs := [0, 0, 0]) (n := 3) rfl (by decide) (cs := #[.int .i64 0, .int .i64 0, .int .i64 0]) rfl
  have s4 := (slot_list (W := ((W.alloc (.cells #[.int .i64 0, .int .i64 2, .int .i64 4] 2)).alloc (.cells #[.int .i64 (-4), .int .i64 (-4), .int .i64 (-4)] 2)).alloc (.cells #[.int .i64 0, .int .i64 0, .int .i64 0] 2)) #[.slice (some ⟨W.heap.size, 0, none⟩) 3 3, .slice none 0 0, .slice (some ⟨W.heap.size + 1, 0, none⟩) 3 3, .slice (some ⟨W.heap.size + 1 + 1, 0, none⟩) 3 3] [⟨some ⟨W.heap.size, 0, none⟩, 3, 3⟩, nilS, ⟨some ⟨W.heap.size + 1, 0, none⟩, 3, 3⟩, ⟨some ⟨W.heap.size + 1 + 1, 0, none⟩, 3, 3⟩] rfl).resolve_right (by simp)
  generalize hW1 : W.alloc (.cells #[.int .i64 0, .int .i64 2, .int .i64 4] 2) = W1 at *
  generalize hW2 : W1.alloc (.cells #[.int .i64 (-4), .int .i64 (-4), .int .i64 (-4)] 2) = W2 at *
  generalize hW3 : W2.alloc (.cells #[.int .i64 0, .int .i64 0, .int .i64 0] 2) = W3 at *
  have z1 : W1.heap.size = W.heap.size + 1 := by rw [← hW1]; simp
  have z2 : W2.heap.size = W.heap.size + 1 + 1 := by rw [← hW2, World.size_alloc, z1]
  have z3 : W3.heap.size = W.heap.size + 1 + 1 + 1 := by rw [← hW3, World.size_alloc, z2]
  rw [z1] at r2
  rw [z2] at r3
  rw [z3] at s4
  generalize hW4 : W3.alloc _ = W4 at *
  have k4 : Below W3.heap.size W3 W4 := by rw [← hW4]; exact (Below.refl _ _).alloc (Nat.le_refl _) _
  have hr : Rws W4 ⟨some ⟨W.heap.size + 1 + 1 + 1, 0, none⟩, 4, 4⟩ [⟨some ⟨W.heap.size, 0, none⟩, 3, 3⟩, nilS, ⟨some ⟨W.heap.size + 1, 0, none⟩, 3, 3⟩, ⟨some ⟨W.heap.size + 1 + 1, 0, none⟩, 3, 3⟩] [[0, 2, 4], [], [-4, -4, -4], [0, 0, 0]] := by
    refine ⟨s4, rfl, fun i hi => ?_⟩
    have hi : i < 4 := hi
    rcases (show i = 0 ∨ i = 1 ∨ i = 2 ∨ i = 3 by omega) with rfl | rfl | rfl | rfl
    · exact ((r1.later k2).later k3).later k4
    · exact RSrc.nil _
    · exact (r2.later k3).later k4
    · exact r3.later k4
  have h := Fold_any planS W4 _ _ _ hr (fun i hi => by
    have hi : i < 4 := hi
    rcases (show i = 0 ∨ i = 1 ∨ i = 2 ∨ i = 3 by omega) with rfl | rfl | rfl | rfl <;> first | (show (3 : Nat) ≤ 1000; decide) | (show (0 : Nat) ≤ 1000; decide))
  rw [show ([[0, 2, 4], [], [-4, -4, -4], [0, 0, 0]] : List (List Int)).length = 4 from rfl, fold_Q] at h
  exact h.mono fun _ _ ⟨e, k⟩ => ⟨e, k_then k (k_then k4 (k_then k3 (k_then k2 k1)))⟩
theorem fold_R_new (W : World) (ps : Array Value) (hps : ps = planS.cells) : Calls Try.prog 11 #[.agg ps, .slice (some ⟨W.heap.size + 1 + 1 + 1, 0, none⟩) 3 3]
    ((((W.alloc (.cells #[.int .i64 0, .int .i64 2, .int .i64 4] 2)).alloc (.cells #[.int .i64 99, .int .i64 99, .int .i64 99] 2)).alloc (.cells #[.int .i64 0, .int .i64 0, .int .i64 0] 2)).alloc (.cells #[.slice (some ⟨W.heap.size, 0, none⟩) 3 3, .slice (some ⟨W.heap.size + 1, 0, none⟩) 3 3, .slice (some ⟨W.heap.size + 1 + 1, 0, none⟩) 3 3] 26))
    fun e w' => e = .returned (.tuple #[.agg #[.int .i64 1, .int .i64 1, .int .i64 (-2), .bool true], .int .i64 151]) ∧ Below W.heap.size W w' := by
  subst hps
  obtain ⟨r1, k1⟩ := src_new (W := W) (fs := [0, 2, 4]) (n := 3) rfl (by decide) (cs := #[.int .i64 0, .int .i64 2, .int .i64 4]) rfl
  obtain ⟨r2, k2⟩ := src_new (W := W.alloc (.cells #[.int .i64 0, .int .i64 2, .int .i64 4] 2)) (fs := [99, 99, 99]) (n := 3) rfl (by decide) (cs := #[.int .i64 99, .int .i64 99, .int .i64 99]) rfl
  obtain ⟨r3, k3⟩ := src_new (W := (W.alloc (.cells #[.int .i64 0, .int .i64 2, .int .i64 4] 2)).alloc (.cells #[.int .i64 99, .int .i64 99, .int .i64 99] 2)) (fs := [0, 0, 0]) (n := 3) rfl (by decide) (cs := #[.int .i64 0, .int .i64 0, .int .i64 0]) rfl
  have s4 := (slot_list (W := ((W.alloc (.cells #[.int .i64 0, .int .i64 2, .int .i64 4] 2)).alloc (.cells #[.int .i64 99, .int .i64 99, .int .i64 99] 2)).alloc (.cells #[.int .i64 0, .int .i64 0, .int .i64 0] 2)) #[.slice (some ⟨W.heap.size, 0, none⟩) 3 3, .slice (some ⟨W.heap.size + 1, 0, none⟩) 3 3, .slice (some ⟨W.heap.size + 1 + 1, 0, none⟩) 3 3] [⟨some ⟨W.heap.size, 0, none⟩, 3, 3⟩, ⟨some ⟨W.heap.size + 1, 0, none⟩, 3, 3⟩, ⟨some ⟨W.heap.size + 1 + 1, 0, none⟩, 3, 3⟩] rfl).resolve_right (by simp)
  generalize hW1 : W.alloc (.cells #[.int .i64 0, .int .i64 2, .int .i64 4] 2) = W1 at *
  generalize hW2 : W1.alloc (.cells #[.int .i64 99, .int .i64 99, .int .i64 99] 2) = W2 at *
  generalize hW3 : W2.alloc (.cells #[.int .i64 0, .int .i64 0, .int .i64 0] 2) = W3 at *
  have z1 : W1.heap.size = W.heap.size + 1 := by rw [← hW1]; simp
  have z2 : W2.heap.size = W.heap.size + 1 + 1 := by rw [← hW2, World.size_alloc, z1]
  have z3 : W3.heap.size = W.heap.size + 1 + 1 + 1 := by rw [← hW3, World.size_alloc, z2]
  rw [z1] at r2
  rw [z2] at r3
  rw [z3] at s4
  generalize hW4 : W3.alloc _ = W4 at *
  have k4 : Below W3.heap.size W3 W4 := by rw [← hW4]; exact (Below.refl _ _).alloc (Nat.le_refl _) _
  have hr : Rws W4 ⟨some ⟨W.heap.size + 1 + 1 + 1, 0, none⟩, 3, 3⟩ [⟨some ⟨W.heap.size, 0, none⟩, 3, 3⟩, ⟨some ⟨W.heap.size + 1, 0, none⟩, 3, 3⟩, ⟨some ⟨W.heap.size + 1 + 1, 0, none⟩, 3, 3⟩] [[0, 2, 4], [99, 99, 99], [0, 0, 0]] := by
    refine ⟨s4, rfl, fun i hi => ?_⟩
    have hi : i < 3 := hi
    rcases (show i = 0 ∨ i = 1 ∨ i = 2 by omega) with rfl | rfl | rfl
    · exact ((r1.later k2).later k3).later k4
    · exact (r2.later k3).later k4
    · exact r3.later k4
  have h := Fold_any planS W4 _ _ _ hr (fun i hi => by
    have hi : i < 3 := hi
    rcases (show i = 0 ∨ i = 1 ∨ i = 2 by omega) with rfl | rfl | rfl <;> (show (3 : Nat) ≤ 1000; decide))
  rw [show ([[0, 2, 4], [99, 99, 99], [0, 0, 0]] : List (List Int)).length = 3 from rfl, fold_R] at h
  exact h.mono fun _ _ ⟨e, k⟩ => ⟨e, k_then k (k_then k4 (k_then k3 (k_then k2 k1)))⟩
theorem fold_S_new (W : World) : Calls Try.prog 11 #[.agg planS.cells, .slice none 0 0] W fun e w' => e = .returned (.tuple #[.agg #[.int .i64 0, .int .i64 0, .int .i64 0, .bool false], .int .i64 0]) ∧ Below W.heap.size W w' :=
  Fold_any planS W nilS [] [] ⟨RSrc.nil W, rfl, fun i hi => absurd hi (by simp)⟩ (fun i hi => absurd hi (by simp))

set_option maxRecDepth 100000 in
set_option maxHeartbeats 16000000 in
theorem resyncNames_walk (w : World) : Calls Try.prog 4 #[] w fun e w' => e = .returned (.bool true) ∧ Below w.heap.size w w' := by
  have HSO := Lib.hid (fun W => someS_any W)
  have HAL := Lib.hid (fun W => alive_any W)
  have HA := Lib.hid (fun W => cor_nil W)
  have HB := Lib.hid (fun W => cor_new (n := 3) W (-64) 0 (-64) rfl (by decide) (cs := #[.int .i64 0, .int .i64 64, .int .i64 64]) rfl corl_1 rfl)
  have HC := Lib.hid (fun W => cor_new (n := 3) W 151000 151 0 rfl (by decide) (cs := #[.int .i64 0, .int .i64 65, .int .i64 65]) rfl corl_2 rfl)
  have HD := Lib.hid (fun W => cor_new (n := 3) W 64 0 64 rfl (by decide) (cs := #[.int .i64 0, .int .i64 (-64), .int .i64 (-64)]) rfl corl_3 rfl)
  have HE := Lib.hid (fun W => cor_new (n := 3) W 151000 151 0 rfl (by decide) (cs := #[.int .i64 0, .int .i64 (-65), .int .i64 (-65)]) rfl corl_4 rfl)
  have HF := Lib.hid (fun W => cor_new (n := 3) W (-1) 0 (-1) rfl (by decide) (cs := #[.int .i64 0, .int .i64 1, .int .i64 2]) rfl corl_5 rfl)
  have HG := Lib.hid (fun W => cor_new (n := 1) W 150000 150 0 rfl (by decide) (cs := #[.int .i64 4294967297]) rfl corl_6 rfl)
  have HH := Lib.hid (fun W => cor_new (n := 1) W 0 0 0 rfl (by decide) (cs := #[.int .i64 (-4294967296)]) rfl corl_7 rfl)
  have HI := Lib.hid (fun W => turn_new (n := 3) W planS ⟨3, 2, 7, false⟩ _ rfl (by decide) (cs := #[.int .i64 70, .int .i64 70, .int .i64 70]) rfl turn_I)
  have HJ := Lib.hid (fun W => turn_new (n := 3) W planS ⟨3, 2, 7, true⟩ _ rfl (by decide) (cs := #[.int .i64 0, .int .i64 0, .int .i64 0]) rfl turn_J)
  have HK := Lib.hid (fun W => turn_nil W planS ⟨3, 2, 7, false⟩ _ turn_K)
  have HL := Lib.hid (fun W => turn_nil W planS ⟨0, 1, 0, false⟩ _ turn_L)
  have HM := Lib.hid (fun W => turn_nil W planS ⟨-1, 0, 0, false⟩ _ turn_M)
  have HNN := Lib.hid (fun W => turn_nil W planS ⟨2147483647, 0, 0, false⟩ _ turn_N)
  have HO := Lib.hid (fun W => turn_new (n := 3) W planS ⟨1, 0, 4294967296, false⟩ _ rfl (by decide) (cs := #[.int .i64 (-5), .int .i64 (-5), .int .i64 (-5)]) rfl turn_O)
  have HP := Lib.hid (fun W => turn_nil W zeroL ⟨0, 0, 0, false⟩ _ turn_P)
  have HS3 := Lib.hid (fun W => fold_S_new W)
  have HE3 := Lib.hid (fun W => (show Calls Try.prog 14 #[.agg planS.cells, .int .i64 3] W fun e w' => e = .returned (.bool true) ∧ Below W.heap.size W w' from by have h := Enough_any planS 3 W; rw [show enoughB planS 3 = true by decide] at h; exact h))
  have HE2 := Lib.hid (fun W => (show Calls Try.prog 14 #[.agg planS.cells, .int .i64 2] W fun e w' => e = .returned (.bool false) ∧ Below W.heap.size W w' from by have h := Enough_any planS 2 W; rw [show enoughB planS 2 = false by decide] at h; exact h))
  have HE9 := Lib.hid (fun W => (show Calls Try.prog 14 #[.agg zeroL.cells, .int .i64 9] W fun e w' => e = .returned (.bool false) ∧ Below W.heap.size W w' from by have h := Enough_any zeroL 9 W; rw [show enoughB zeroL 9 = false by decide] at h; exact h))
  have HS := Lib.hid planS.cellsL
  unfold Tn.v Sy.v at *
  unfold Pl.cells zeroL at HP HE9
  dsimp only at HA HB HC HD HE HF HG HH HI HJ HK HL HM HNN HO HP HE9
  have HQ := Lib.hid (fun W => fold_Q_new W planS.cells rfl)
  have HR := Lib.hid (fun W => fold_R_new W planS.cells rfl)
  generalize planS.cells = ps at *
  go_enter Try.func4, Try.ntmps4
  go_upto_region 2 with (first
    | (go_at_call 15; refine (HSO.out _).mono ?_; rintro e w1 ⟨rfl, hb⟩; have HN := Lib.hid (NB.mk (w := w) (g1 := w1.heap.size) (ps := ps) (bs := []) (hb.alloc hb.size (.cells ps 23)) (Whole.new w1 23 ps) (fun p hp => by cases hp)); clear hb)
    | (refine wpList_store_last rfl 23 _ _ rfl _ ps rfl rfl 23 _ rfl HS.out.plan HS.out.size.symm HS.out.one ?_))
  generalize (w1.alloc _ : World) = V1 at *
  generalize w1.heap.size = g1 at *

  go_upto_region 3 with (first
    | (go_at_call 16; with_reducible refine (HA.out _).mono ?_; (rintro e wA ⟨rfl, hb⟩; have HNo := HN; clear HN; have HN := Lib.hid (HNo.out.later hb); clear hb HNo HA))
    | (go_at_call 16; with_reducible refine (HB.out _).mono ?_; (rintro e wB ⟨rfl, hb⟩; have HNo := HN; clear HN; have HN := Lib.hid (HNo.out.later hb); clear hb HNo HB))
    | (go_at_call 16; with_reducible refine (HC.out _).mono ?_; (rintro e wC ⟨rfl, hb⟩; have HNo := HN; clear HN; have HN := Lib.hid (HNo.out.later hb); clear hb HNo HC))
    | (go_at_call 16; with_reducible refine (HD.out _).mono ?_; (rintro e wD ⟨rfl, hb⟩; have HNo := HN; clear HN; have HN := Lib.hid (HNo.out.later hb); clear hb HNo HD))
    | (go_at_call 16; with_reducible refine (HE.out _).mono ?_; (rintro e wE ⟨rfl, hb⟩; have HNo := HN; clear HN; have HN := Lib.hid (HNo.out.later hb); clear hb HNo HE))
    | (go_at_call 16; with_reducible refine (HF.out _).mono ?_; (rintro e wF ⟨rfl, hb⟩; have HNo := HN; clear HN; have HN := Lib.hid (HNo.out.later hb); clear hb HNo HF))
    | (go_at_call 16; with_reducible refine (HG.out _).mono ?_; (rintro e wG ⟨rfl, hb⟩; have HNo := HN; clear HN; have HN := Lib.hid (HNo.out.later hb); clear hb HNo HG))
    | (go_at_call 16; with_reducible refine (HH.out _).mono ?_; (rintro e wH ⟨rfl, hb⟩; have HNo := HN; clear HN; have HN := Lib.hid (HNo.out.later hb); clear hb HNo HH)))
  go_upto_region 4 with (first
    | (refine wpList_load_row rfl 23 (.tmp 1) rfl g1 rfl 23 ps (0, 0) _ HN.out.plan Try.underlying23 rfl HS.out.plan ?_)
    | (go_at_call 9; with_reducible refine (HI.out _).mono ?_; (rintro e wI ⟨rfl, hb⟩; have HNo := HN; clear HN; have HN := Lib.hid ((HNo.out.later hb).add #[.int .i64 3, .int .i64 2, .int .i64 7, .bool true]); clear hb HNo HI)))
  generalize (wI.alloc _ : World) = V3 at *
  generalize wI.heap.size = b3 at *
  obtain ⟨x0, x1, x2, x3, -⟩ := y_four (HN.out.box (b3, #[.int .i64 3, .int .i64 2, .int .i64 7, .bool true]) (by simp))
  go_upto_region 5 with (first
    | (refine wpList_load_row rfl 23 (.tmp 1) rfl g1 rfl 23 ps (0, 0) _ HN.out.plan Try.underlying23 rfl HS.out.plan ?_)
    | (go_at_call 9; with_reducible refine (HJ.out _).mono ?_; (rintro e wJ ⟨rfl, hb⟩; have HNo := HN; clear HN; have HN := Lib.hid ((HNo.out.later hb).add #[.int .i64 3, .int .i64 2, .int .i64 7, .bool true]); clear hb HNo HJ)))
  clear x0 x1 x2 x3
  generalize (wJ.alloc _ : World) = V4 at *
  generalize wJ.heap.size = b4 at *
  go_upto_region 6 with (first
    | (refine wpList_load_row rfl 23 (.tmp 1) rfl g1 rfl 23 ps (0, 0) _ HN.out.plan Try.underlying23 rfl HS.out.plan ?_)
    | (go_at_call 9; with_reducible refine (HK.out _).mono ?_; (rintro e wK ⟨rfl, hb⟩; have HNo := HN; clear HN; have HN := Lib.hid ((HNo.out.later hb).add #[.int .i64 4, .int .i64 2, .int .i64 7, .bool false]); clear hb HNo HK)))
  generalize (wK.alloc _ : World) = V5 at *
  generalize wK.heap.size = b5 at *
  obtain ⟨x0, x1, x2, x3, -⟩ := y_four (HN.out.box (b3, #[.int .i64 3, .int .i64 2, .int .i64 7, .bool true]) (by simp))
  obtain ⟨y0, y1, y2, y3, -⟩ := y_four (HN.out.box (b4, #[.int .i64 3, .int .i64 2, .int .i64 7, .bool true]) (by simp))
  obtain ⟨z0, z1, z2, z3, -⟩ := y_four (HN.out.box (b5, #[.int .i64 4, .int .i64 2, .int .i64 7, .bool false]) (by simp))
  go_upto_region 7 with (fail)
  clear x0 x1 x2 x3 y0 y1 y2 y3 z0 z1 z2 z3
  go_upto_region 8 with (first
    | (refine wpList_load_row rfl 23 (.tmp 1) rfl g1 rfl 23 ps (0, 0) _ HN.out.plan Try.underlying23 rfl HS.out.plan ?_)
    | (go_at_call 9; with_reducible refine (HL.out _).mono ?_; (rintro e wL ⟨rfl, hb⟩; have HNo := HN; clear HN; have HN := Lib.hid ((HNo.out.later hb).add #[.int .i64 0, .int .i64 0, .int .i64 0, .bool false]); clear hb HNo HL)))
  generalize (wL.alloc _ : World) = V7 at *
  generalize wL.heap.size = b7 at *
  go_upto_region 9 with (first
    | (refine wpList_load_row rfl 23 (.tmp 1) rfl g1 rfl 23 ps (0, 0) _ HN.out.plan Try.underlying23 rfl HS.out.plan ?_)
    | (go_at_call 9; with_reducible refine (HM.out _).mono ?_; (rintro e wM ⟨rfl, hb⟩; have HNo := HN; clear HN; have HN := Lib.hid ((HNo.out.later hb).add #[.int .i64 0, .int .i64 0, .int .i64 0, .bool false]); clear hb HNo HM)))
  generalize (wM.alloc _ : World) = V8 at *
  generalize wM.heap.size = b8 at *
  go_upto_region 10 with (first
    | (refine wpList_load_row rfl 23 (.tmp 1) rfl g1 rfl 23 ps (0, 0) _ HN.out.plan Try.underlying23 rfl HS.out.plan ?_)
    | (go_at_call 9; with_reducible refine (HNN.out _).mono ?_; (rintro e wN ⟨rfl, hb⟩; have HNo := HN; clear HN; have HN := Lib.hid ((HNo.out.later hb).add #[.int .i64 0, .int .i64 0, .int .i64 0, .bool false]); clear hb HNo HNN)))
  generalize (wN.alloc _ : World) = V9 at *
  generalize wN.heap.size = b9 at *
  go_upto_region 11 with (first
    | (refine wpList_load_row rfl 23 (.tmp 1) rfl g1 rfl 23 ps (0, 0) _ HN.out.plan Try.underlying23 rfl HS.out.plan ?_)
    | (go_at_call 9; with_reducible refine (HO.out _).mono ?_; (rintro e wO ⟨rfl, hb⟩; have HNo := HN; clear HN; have HN := Lib.hid ((HNo.out.later hb).add #[.int .i64 0, .int .i64 0, .int .i64 0, .bool false]); clear hb HNo HO)))
  generalize (wO.alloc _ : World) = V10 at *
  generalize wO.heap.size = b10 at *
  go_upto_region 12 with (first
    | (refine wpList_load_row rfl 23 (.tmp 1) rfl g1 rfl 23 ps (0, 0) _ HN.out.plan Try.underlying23 rfl HS.out.plan ?_)
    | (go_at_call 9; with_reducible refine (HP.out _).mono ?_; (rintro e wP ⟨rfl, hb⟩; have HNo := HN; clear HN; have HN := Lib.hid ((HNo.out.later hb).add #[.int .i64 0, .int .i64 0, .int .i64 0, .bool false]); clear hb HNo HP)))
  generalize (wP.alloc _ : World) = V11 at *
  generalize wP.heap.size = b11 at *
  go_upto_region 13 with (first
    | (refine wpList_load_row rfl 23 (.tmp 1) rfl g1 rfl 23 ps (0, 0) _ HN.out.plan Try.underlying23 rfl HS.out.plan ?_)
    | (go_at_call 11; with_reducible refine (HQ.out _).mono ?_; (rintro e wQ ⟨rfl, hb⟩; have HNo := HN; clear HN; have HN := Lib.hid ((HNo.out.later hb).add #[.int .i64 4, .int .i64 2, .int .i64 2, .bool false]); clear hb HNo HQ)))
  generalize (wQ.alloc _ : World) = V12 at *
  generalize wQ.heap.size = b12 at *
  go_upto_region 14 with (first
    | (refine wpList_load_row rfl 23 (.tmp 1) rfl g1 rfl 23 ps (0, 0) _ HN.out.plan Try.underlying23 rfl HS.out.plan ?_)
    | (go_at_call 11; with_reducible refine (HR.out _).mono ?_; (rintro e wR ⟨rfl, hb⟩; have HNo := HN; clear HN; have HN := Lib.hid ((HNo.out.later hb).add #[.int .i64 1, .int .i64 1, .int .i64 (-2), .bool true]); clear hb HNo HR)))
  generalize (wR.alloc _ : World) = V13 at *
  generalize wR.heap.size = b13 at *
  go_upto_region 15 with (first
    | (refine wpList_load_row rfl 23 (.tmp 1) rfl g1 rfl 23 ps (0, 0) _ HN.out.plan Try.underlying23 rfl HS.out.plan ?_)
    | (go_at_call 11; with_reducible refine (HS3.out _).mono ?_; (rintro e wS ⟨rfl, hb⟩; have HNo := HN; clear HN; have HN := Lib.hid ((HNo.out.later hb).add #[.int .i64 0, .int .i64 0, .int .i64 0, .bool false]); clear hb HNo HS3)))
  generalize (wS.alloc _ : World) = V14 at *
  generalize wS.heap.size = b14 at *
  obtain ⟨x0, x1, x2, x3, -⟩ := y_four (HN.out.box (b12, #[.int .i64 4, .int .i64 2, .int .i64 2, .bool false]) (by simp))
  obtain ⟨y0, y1, y2, y3, -⟩ := y_four (HN.out.box (b13, #[.int .i64 1, .int .i64 1, .int .i64 (-2), .bool true]) (by simp))
  obtain ⟨z0, z1, z2, z3, -⟩ := y_four (HN.out.box (b14, #[.int .i64 0, .int .i64 0, .int .i64 0, .bool false]) (by simp))
  go_upto_region 16 with (fail)
  clear x0 x1 x2 x3 y0 y1 y2 y3 z0 z1 z2 z3
  go_wp2_with (first
    | (go_at_call 17; with_reducible refine (HAL.out _).mono ?_; (rintro e wT ⟨rfl, hb⟩; have HNo := HN; clear HN; have HN := Lib.hid (HNo.out.later hb); clear hb HNo HAL))
    | (refine wpList_load_want rfl 23 (.tmp 1) rfl g1 rfl 23 ps (0, 0) _ HN.out.plan Try.underlying23 rfl HS.out.plan ?_)
    | (go_at_call 14; with_reducible refine (HE3.out _).mono ?_; (rintro e wHE3 ⟨rfl, hb⟩; have HNo := HN; clear HN; have HN := Lib.hid (HNo.out.later hb); clear hb HNo HE3))
    | (go_at_call 14; with_reducible refine (HE2.out _).mono ?_; (rintro e wHE2 ⟨rfl, hb⟩; have HNo := HN; clear HN; have HN := Lib.hid (HNo.out.later hb); clear hb HNo HE2))
    | (go_at_call 14; with_reducible refine (HE9.out _).mono ?_; (rintro e wHE9 ⟨rfl, hb⟩; have HNo := HN; clear HN; have HN := Lib.hid (HNo.out.later hb); clear hb HNo HE9)))
  go_ret
  exact ⟨rfl, HN.out.below⟩
end Go.Proofs.Yteljalgfkmnamaa
