/- Slices of numbers: how they are opened, held against each other, made new; contracts of the document's Longs. No condition. -/
import Derived.Test.YtfpkbhnlpmnegaaRow
import Derived.Test.YtfpkbhnlpmnegaaKMem
import Derived.BigQuiet
import Derived.Deep.QuietTactic
import Derived.WalkSmall
import Derived.LoopTactic
import Derived.Handy
import Derived.Shelf.Abstract
import Derived.RangeFuncNested
namespace Go.Proofs.Ytfpkbhnlpmnegaa
open Go.RowKit Go.Shelf

def inC (v : Int) : List Value := [.int .i64 v]
theorem inC_cells {w : World} {g o : Nat} {x : Int} (h : w.rangeAt g o (inC x)) : w.cell? ⟨g, o, none⟩ = some (.int .i64 x) := h 0 _ rfl
theorem inC_ones : ∀ (d : Int), ∀ u ∈ inC d, u.oneCell' = true := by
  intro d u hu
  simp only [inC, List.mem_cons, List.not_mem_nil, or_false] at hu
  rw [hu]
  rfl
theorem flat_inC (L : List Int) : L.flatMap inC = L.map (Value.int .i64) := by
  induction L with
  | nil => rfl
  | cons d L ih => rw [List.flatMap_cons, List.map_cons, ih]; rfl
theorem i_i64 : (Try.prog.info? 2).map (fun i => (i.zero, i.size, i.bytes)) = some (some (.int .i64 0), 1, 8) := by kernel_rfl
theorem list_eq_of {α : Type} [Inhabited α] {xs ys : List α} (hl : xs.length = ys.length) (h : ∀ j, j < xs.length → xs.getD j default = ys.getD j default) : xs = ys := by
  apply List.ext_getElem hl
  intro i h1 h2
  have := h i h1
  rwa [List.getD_eq_getElem?_getD, List.getD_eq_getElem?_getD, List.getElem?_eq_getElem h1, List.getElem?_eq_getElem h2] at this

set_option maxRecDepth 100000 in
set_option maxHeartbeats 2000000 in
theorem longs_any (w : World) (s t : Sl) (es fs : List Int) (h1 : RSrc inC 1 w s es) (h2 : RSrc inC 1 w t fs) :
    Calls Try.prog 15 #[s.v, t.v] w fun e w' => e = .returned (.bool (decide (es = fs))) ∧ Below w.heap.size w w' := by
  have l1 := h1.len
  have l2 := h2.len
  have m1 := Nat.le_trans h1.cap h1.max
  have m2 := Nat.le_trans h2.cap h2.max
  obtain ⟨A, n, c⟩ := s
  obtain ⟨B, m, d⟩ := t
  unfold Sl.v
  dsimp only at *
  by_cases hnm : n = m
  · subst hnm
    have hl : es.length = fs.length := l1.trans l2.symm
    have H := Lib.hid (And.intro h1 (And.intro h2 (And.intro hl l1)))
    clear h1 h2 hl l1 l2
    go_enter Try.func15, Try.ntmps15
    go_wp2
    go_loopw [5] (fun iv wr => ∃ (k : Nat), k ≤ n ∧ iv = .int .i64 (k : Int) ∧ Below w.heap.size w wr ∧ ∀ j, j < k → es.getD j default = fs.getD j default) (fun iv _ => n - (intOf iv).toNat)
    case atStart => exact ⟨0, Nat.zero_le _, rfl, Below.refl _ _, fun j hj => absurd hj (Nat.not_lt_zero _)⟩
    case round =>
      obtain ⟨k, hk, rfl, hwr, hall⟩ := hrel
      by_cases hlt : k < n
      · obtain ⟨g, o, hA0, hA2⟩ := (H.out.1.later hwr).get (i := k) hlt
        obtain ⟨g', o', hB0, hB2⟩ := (H.out.2.1.later hwr).get (i := k) hlt
        dsimp only at hA0 hB0
        subst hA0 hB0
        obtain ⟨x, hx⟩ : ∃ x, x = es.getD k default := ⟨_, rfl⟩
        obtain ⟨y, hy⟩ : ∃ y, y = fs.getD k default := ⟨_, rfl⟩
        rw [← hx] at hA2
        rw [← hy] at hB2
        have a0 := inC_cells hA2
        have b0 := inC_cells hB2
        have e1 : (0 : Int) ≤ (k : Int) := by omega
        have e2 : (k : Int) < (n : Int) := by omega
        rw [Nat.mul_one] at a0 b0
        have HW := Lib.hid hwr
        have HX := Lib.hid (And.intro hx (And.intro hy hall))
        clear hA2 hB2 hwr hx hy hall
        obtain ⟨b, hb⟩ : ∃ b, decide (x = y) = b := ⟨_, rfl⟩
        have HBB := Lib.hid hb
        clear hb
        cases b
        · have hne : decide (es = fs) = false := by
            simp only [decide_eq_false_iff_not]
            have hxy : ¬ x = y := by simpa using HBB.out
            rw [HX.out.1, HX.out.2.1] at hxy
            exact fun e => hxy (by rw [e])
          have HNE := Lib.hid hne
          clear hne
          have hq2 : (x == y) = false := beq_eq_false_iff_ne.2 (by simpa using HBB.out)
          have hq3 : (x != y) = true := by simp [bne, hq2]
          go_wp2
          go_quiet (fail)
          go_wp2
          go_ret
          exact ⟨by rw [HNE.out]; rfl, below_drewN HW.out _⟩
        · have hq1 : x = y := by simpa using HBB.out
          have HQ := Lib.hid hq1
          have hq2 : (x == y) = true := beq_iff_eq.2 hq1
          have hq3 : (x != y) = false := by simp [bne, hq2]
          clear hq1
          go_wp2
          go_quiet (fail)
          go_wp2
          go_roundw
          case rel =>
            refine ⟨k + 1, by omega, by go_num, below_drewN HW.out _, fun j hj => ?_⟩
            rcases Nat.lt_or_ge j k with h | h
            · exact HX.out.2.2 j h
            · obtain rfl : j = k := by omega
              rw [← HX.out.1, ← HX.out.2.1]
              exact HQ.out
          case measure => simp [intOf]; omega
      · have he : decide (es = fs) = true := by
          simp only [decide_eq_true_eq]
          exact list_eq_of H.out.2.2.1 (fun j hj => hall j (by have := H.out.2.2.2; omega))
        have HE := Lib.hid he
        have HW := Lib.hid hwr
        clear he hall hwr
        go_wp2
        go_ret
        exact ⟨by rw [HE.out]; rfl, HW.out⟩
  · have hne : decide (es = fs) = false := by
      simp only [decide_eq_false_iff_not]
      intro e
      rw [← l1, ← l2, e] at hnm
      exact hnm rfl
    have HNE := Lib.hid hne
    have hnm2 : ((n : Int) == (m : Int)) = false := beq_eq_false_iff_ne.2 (by omega)
    have hnm3 : ((n : Int) != (m : Int)) = true := by simp [bne, hnm2]
    clear h1 h2 l1 l2 hne
    go_enter Try.func15, Try.ntmps15
    go_wp2
    go_ret
    exact ⟨by rw [HNE.out]; rfl, Below.refl _ _⟩

/-- A row of one's own that was made since. -/
def NewRow {α : Type} (cells : α → List Value) (k : Nat) (t : TypeId) (xs : List α) (w : World) (e : Ending) (w' : World) : Prop :=
  ∃ v, e = .returned v ∧ w'.ownsRow w.heap.size t k v xs.length (xs.flatMap cells) ∧ Below w.heap.size w w'
theorem ownsRow_putObj {w : World} {b D k n : Nat} {e : TypeId} {v : Value} {xs : List Value} {o o' : Obj} (h : w.ownsRow b e k v n xs) (hD : w.heap[D]? = some o') (ho : ∀ cs t p, o' ≠ .cells cs t p) : (w.putObj D o).ownsRow b e k v n xs := by
  refine ⟨h.1, ?_⟩
  rcases h.2 with h0 | ⟨g, cap, cur, rfl, hb, hgb, h3⟩
  · exact .inl h0
  · exact .inr ⟨g, cap, cur, rfl, hb, (World.putObj_heap_other (fun e => by rw [e, hD] at hgb; exact ho _ _ _ (by simpa using hgb))).trans hgb, h3⟩
theorem own_low {w : World} {b b' k n : Nat} {e : TypeId} {v : Value} {xs : List Value} (h : w.ownsRow b e k v n xs) (hb : b' ≤ b) : w.ownsRow b' e k v n xs := by
  refine ⟨h.1, ?_⟩
  rcases h.2 with h0 | ⟨g, cap, cur, e, h1, h3⟩
  · exact .inl h0
  · exact .inr ⟨g, cap, cur, e, by omega, h3⟩
/-- A new row reads as a slice. -/
theorem newrow_src {α : Type} {cells : α → List Value} {k : Nat} {t : TypeId} {xs : List α} {w w' : World} {e : Ending} (hc : ∀ a, (cells a).length = k) (h : NewRow cells k t xs w e w') :
    ∃ A c, e = .returned (.slice A xs.length c) ∧ RSrc cells k w' ⟨A, xs.length, c⟩ xs ∧ (∀ ad, A = some ad → w.heap.size ≤ ad.block) ∧ Below w.heap.size w w' := by
  obtain ⟨v, rfl, hr, hb⟩ := h
  obtain ⟨⟨A, n, c⟩, rfl, hs, hA⟩ := rsrc_of_own hc rfl hr
  have hn : xs.length = n := hs.len
  subst hn
  refine ⟨A, c, rfl, hs, fun ad e => ?_, hb⟩
  subst e
  exact (own_typed hr hA.symm).1
/-- A block that was just made reads as a slice. -/
theorem rsrc_whole {α : Type} {cells : α → List Value} {k : Nat} (hc : ∀ a, (cells a).length = k) {w : World} {g : Nat} {t : TypeId} {xs : List α} (h : Whole w g t (xs.flatMap cells).toArray) (hl : xs.length ≤ 1000000) : RSrc cells k w ⟨some ⟨g, 0, none⟩, xs.length, xs.length⟩ xs :=
  ⟨rfl, Nat.le_refl _, by show xs.length ≤ _; omega, (fun e => by cases e), fun _ => ⟨g, 0, rfl, fun i x hx j v hv => by
    have hj : j < k := by have := (List.getElem?_eq_some_iff.1 hv).1; rwa [hc] at this
    rw [h.cell, List.getElem?_toArray, Nat.zero_add, flat_get hc xs i x j hx hj]
    exact hv⟩⟩

theorem longs_new {W : World} {es : List Int} {A : Option Addr} {n c : Nat} (hr : RSrc inC 1 W ⟨A, n, c⟩ es) (fs : List Int) (hf : fs.length ≤ 1000000) (cs : Array Value) (hcs : (fs.flatMap inC).toArray = cs) :
    Calls Try.prog 15 #[.slice A n c, .slice (some ⟨W.heap.size, 0, none⟩) fs.length fs.length] (W.alloc (.cells cs 2)) fun e w' => e = .returned (.bool (decide (es = fs))) ∧ Below W.heap.size W w' := by
  have hb : Below W.heap.size W (W.alloc (.cells cs 2)) := (Below.refl _ _).alloc (Nat.le_refl _) _
  refine (longs_any (W.alloc (.cells cs 2)) ⟨A, n, c⟩ ⟨some ⟨W.heap.size, 0, none⟩, fs.length, fs.length⟩ es fs (hr.later hb) (rsrc_whole (cells := inC) (k := 1) (t := 2) (fun _ => rfl) (by rw [hcs]; exact Whole.new _ _ _) hf)).mono ?_
  rintro e w' ⟨rfl, k⟩
  exact ⟨rfl, k_then k hb⟩

theorem longs_same {W : World} {A1 A2 : Option Addr} {n m c1 c2 : Nat} {L : List Int} (h1 : RSrc inC 1 W ⟨A1, n, c1⟩ L) (h2 : RSrc inC 1 W ⟨A2, m, c2⟩ L) : Calls Try.prog 15 #[.slice A1 n c1, .slice A2 m c2] W fun e w' => e = .returned (.bool true) ∧ Below W.heap.size W w' :=
  (longs_any W ⟨A1, n, c1⟩ ⟨A2, m, c2⟩ L L h1 h2).mono fun _ _ ⟨e, k⟩ => ⟨by rw [e, decide_eq_true (rfl : L = L)], k⟩
end Go.Proofs.Ytfpkbhnlpmnegaa
