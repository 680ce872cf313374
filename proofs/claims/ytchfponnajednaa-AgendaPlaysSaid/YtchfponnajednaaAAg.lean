/- An agenda in memory: its events in order; mayBe, kept, Len and First by contracts. No condition. -/
import Derived.Test.YtchfponnajednaaAHeap
namespace Go.Proofs.Ytchfponnajednaa
open Go.RowKit Go.Shelf

/-- An event may be. -/
def okE (x : Ev) : Prop := 0 ≤ x.t ∧ x.t ≤ 4294967296 ∧ 0 ≤ x.k ∧ 0 ≤ x.n ∧ 0 ≤ x.m
instance (x : Ev) : Decidable (okE x) := by unfold okE; infer_instance
def okB (x : Ev) : Bool := decide (okE x)

def zeroEv : Ev := ⟨0, 0, 0, 0, 0⟩
/-- The first event, or none's cells. -/
def headV (l : List En) : List Value := match l with
  | [] => zeroEv.cells
  | x :: _ => x.e.cells

set_option maxRecDepth 100000 in
set_option maxHeartbeats 2000000 in
theorem mayBe5 (t k n m v : Int) (w : World) : Calls Try.prog 31 #[.agg #[.int .i64 t, .int .i64 k, .int .i64 n, .int .i64 m, .int .i64 v]] w fun e w' => e = .returned (.bool (okB ⟨t, k, n, m, v⟩)) ∧ Below w.heap.size w w' := by
  have hb : Below w.heap.size w (w.alloc (.cells #[.int .i64 t, .int .i64 k, .int .i64 n, .int .i64 m, .int .i64 v] 36)) := (Below.refl _ _).alloc (Nat.le_refl _) _
  have HB := Lib.hid hb
  have hq : okB ⟨t, k, n, m, v⟩ = decide (0 ≤ t ∧ t ≤ 4294967296 ∧ 0 ≤ k ∧ 0 ≤ n ∧ 0 ≤ m) := rfl
  have HQ := Lib.hid hq
  clear hb hq
  by_cases h1 : 0 ≤ t
  · by_cases h2 : t ≤ 4294967296
    · by_cases h3 : 0 ≤ k ∧ 0 ≤ n ∧ 0 ≤ m
      · have hr : okB ⟨t, k, n, m, v⟩ = true := by rw [HQ.out]; simp only [decide_eq_true_eq]; omega
        have HR := Lib.hid hr
        obtain ⟨h3a, h3b, h3c⟩ := h3
        have hm : decide (0 ≤ min (min k n) m) = true := by simp only [decide_eq_true_eq]; omega
        clear hr
        go_enter Try.func31, Try.ntmps31
        go_wp2
        all_goals go_ret
        all_goals exact ⟨by rw [HR.out]; first | rfl | (simp; done) | (simp; omega), HB.out⟩
      · have hr : okB ⟨t, k, n, m, v⟩ = false := by rw [HQ.out]; simp only [decide_eq_false_iff_not]; omega
        have HR := Lib.hid hr
        have hm : decide (0 ≤ min (min k n) m) = false := by simp only [decide_eq_false_iff_not]; omega
        clear hr
        go_enter Try.func31, Try.ntmps31
        go_wp2
        all_goals go_ret
        all_goals exact ⟨by rw [HR.out]; first | rfl | (simp; done) | (simp; omega), HB.out⟩
    · have hr : okB ⟨t, k, n, m, v⟩ = false := by rw [HQ.out]; simp only [decide_eq_false_iff_not]; omega
      have HR := Lib.hid hr
      clear hr
      go_enter Try.func31, Try.ntmps31
      go_wp2
      all_goals go_ret
      all_goals exact ⟨by rw [HR.out]; first | rfl | (simp; done) | (simp; omega), HB.out⟩
  · have hr : okB ⟨t, k, n, m, v⟩ = false := by rw [HQ.out]; simp only [decide_eq_false_iff_not]; omega
    have HR := Lib.hid hr
    clear hr
    go_enter Try.func31, Try.ntmps31
    go_wp2
    all_goals go_ret
    all_goals exact ⟨by rw [HR.out]; first | rfl | (simp; done) | (simp; omega), HB.out⟩
theorem mayBe_any (x : Ev) (w : World) : Calls Try.prog 31 #[.agg x.cells.toArray] w fun e w' => e = .returned (.bool (okB x)) ∧ Below w.heap.size w w' := mayBe5 x.t x.k x.n x.m x.v w

/-- An agenda at block a, of the blocks S, whose next turn is nx, and whose events are L, in order. -/
structure AgAt (w : World) (S : Nat → Prop) (a nx : Nat) (L : List En) : Prop where
  lt : ∀ k, S k → k < w.heap.size
  own : S a
  shape : (Whole w a 27 #[.pointer none] ∧ L = [] ∧ nx = 0) ∨
    ∃ p v l, Whole w a 27 #[.pointer (some ⟨p, 0, none⟩)] ∧ S p ∧ (∀ g, v.ownBlock = some g → S g) ∧ PileAt w p v nx l ∧ Heap l ∧ l.Perm L
  sorted : L.Pairwise lessP
  turns : ∀ x ∈ L, x.u < nx
  may : ∀ x ∈ L, okE x.e
theorem AgAt.kept {w w' : World} {S T : Nat → Prop} {a nx : Nat} {L : List En} (h : AgAt w S a nx L) (hk : Kept T w w') (hd : ∀ k, S k → ¬ T k) : AgAt w' S a nx L := by
  refine ⟨fun k hs => Nat.lt_of_lt_of_le (h.lt k hs) hk.size, h.own, ?_, h.sorted, h.turns, h.may⟩
  rcases h.shape with ⟨h1, h2⟩ | ⟨p, v, l, h1, h2, h3, h4, h5⟩
  · exact .inl ⟨h1.kept hk (hd _ h.own), h2⟩
  · exact .inr ⟨p, v, l, h1.kept hk (hd _ h.own), h2, h3, h4.kept hk (hd _ h2) (fun g hg => hd _ (h3 g hg)), h5⟩
theorem AgAt.later {w w' : World} {S : Nat → Prop} {a nx : Nat} {L : List En} (h : AgAt w S a nx L) (hb : Below w.heap.size w w') : AgAt w' S a nx L := h.kept (Kept.of_below hb Empty) (fun _ _ h => h)
theorem Grow.lt {S : Nat → Prop} {w w' : World} (h : ∀ k, S k → k < w.heap.size) (hs : w.heap.size ≤ w'.heap.size) : ∀ k, Grow S w w' k → k < w'.heap.size := by
  rintro k (hk | hk)
  · exact Nat.lt_of_lt_of_le (h k hk) hs
  · exact hk.2
theorem AgAt.grow {w w' : World} {S : Nat → Prop} {a nx : Nat} {L : List En} (h : AgAt w' S a nx L) (hs : ∀ k, S k → k < w.heap.size) (hz : w.heap.size ≤ w'.heap.size) : AgAt w' (Grow S w w') a nx L := by
  refine ⟨Grow.lt hs hz, .inl h.own, ?_, h.sorted, h.turns, h.may⟩
  rcases h.shape with h1 | ⟨p, v, l, h1, h2, h3, h4⟩
  · exact .inl h1
  · exact .inr ⟨p, v, l, h1, .inl h2, fun g hg => .inl (h3 g hg), h4⟩
/-- An agenda that nobody made. -/
theorem AgAt.zero {w : World} {a : Nat} (h : Whole w a 27 #[.pointer none]) : AgAt w (fun k => k = a) a 0 [] :=
  ⟨fun k hk => by subst hk; exact h.lt, rfl, .inl ⟨h, rfl, rfl⟩, List.Pairwise.nil, (fun _ h => by cases h), (fun _ h => by cases h)⟩

/-- The first of a heap is the first of all. -/
theorem heap_head {l L : List En} {x : En} (hh : Heap l) (hp : l.Perm (x :: L)) (hs : (x :: L).Pairwise lessP) : l.getD 0 default = x := by
  have hl : 0 < l.length := by rw [hp.length_eq]; simp
  have hm : l.getD 0 default ∈ x :: L := by
    rw [← hp.mem_iff, List.getD_eq_getElem?_getD, List.getElem?_eq_getElem hl]
    exact List.getElem_mem hl
  rcases List.mem_cons.1 hm with h | h
  · exact h
  · have h1 : lessP x (l.getD 0 default) := (List.pairwise_cons.1 hs).1 _ h
    have hx : x ∈ l := hp.mem_iff.2 (List.mem_cons_self ..)
    obtain ⟨i, hi, e⟩ := List.getElem_of_mem hx
    have h2 := HeapFrom.first hh i hi
    rw [List.getD_eq_getElem?_getD (i := i), List.getElem?_eq_getElem hi, e] at h2
    exact absurd h1 h2
theorem heap_none {l : List En} (hp : l.Perm []) : l = [] := hp.eq_nil

/-- The pile of an agenda, or an empty one that nobody else has. -/
def KeptPile (w : World) (S : Nat → Prop) (a nx : Nat) (L : List En) (e : Ending) (w' : World) : Prop :=
  ∃ p v l, e = .returned (.pointer (some ⟨p, 0, none⟩)) ∧ PileAt w' p v nx l ∧ Heap l ∧ l.Perm L ∧ Below w.heap.size w w' ∧ Grow S w w' p ∧ (∀ g, v.ownBlock = some g → Grow S w w' g) ∧
    ((∃ q, Whole w a 27 #[q]) ∧ (Whole w' a 27 #[.pointer (some ⟨p, 0, none⟩)] ∨ (L = [] ∧ nx = 0 ∧ Whole w' a 27 #[.pointer none] ∧ w.heap.size ≤ p ∧ v = .slice none 0 0)))
theorem pile_new (w : World) : PileAt (w.alloc (.cells #[.slice none 0 0, .int .u64 0] 63)) w.heap.size (.slice none 0 0) 0 [] :=
  ⟨Whole.new w _ _, ⟨rfl, .inl ⟨rfl, rfl⟩⟩⟩
theorem heap_nil : Heap ([] : List En) := fun c _ hc _ => by simp at hc

set_option maxRecDepth 100000 in
set_option maxHeartbeats 1000000 in
theorem keptNil_any (w : World) : Calls Try.prog 28 #[.pointer none] w fun e w' => e = .returned (.pointer (some ⟨w.heap.size, 0, none⟩)) ∧ w' = w.alloc (.cells #[.slice none 0 0, .int .u64 0] 63) := by
  go_enter Try.func28, Try.ntmps28
  go_wp2
  go_ret
  exact ⟨rfl, rfl⟩
set_option maxRecDepth 100000 in
set_option maxHeartbeats 1000000 in
theorem kept_any (w : World) (S : Nat → Prop) (a nx : Nat) (L : List En) (h : AgAt w S a nx L) : Calls Try.prog 28 #[.pointer (some ⟨a, 0, none⟩)] w (KeptPile w S a nx L) := by
  rcases h.shape with ⟨h1, rfl, rfl⟩ | ⟨p, v, l, h1, h2, h3, h4, h5, h6⟩
  · have hc := h1.cell 0
    simp at hc
    have hd : Below w.heap.size w (w.alloc (.cells #[.slice none 0 0, .int .u64 0] 63)) := (Below.refl _ _).alloc (Nat.le_refl _) _
    have fin : KeptPile w S a 0 [] (.returned (.pointer (some ⟨w.heap.size, 0, none⟩))) (w.alloc (.cells #[.slice none 0 0, .int .u64 0] 63)) :=
      ⟨w.heap.size, _, [], rfl, pile_new w, heap_nil, List.Perm.refl _, hd, .inr ⟨Nat.le_refl _, by simp⟩, fun g hg => by simp [Value.ownBlock] at hg, ⟨_, h1⟩, .inr ⟨rfl, rfl, h1.alloc _, Nat.le_refl _, rfl⟩⟩
    have HF := Lib.hid fin
    clear fin hd h1 h
    go_enter Try.func28, Try.ntmps28
    go_wp2
    go_ret
    exact HF.out
  · have hc := h1.cell 0
    simp at hc
    have fin : KeptPile w S a nx L (.returned (.pointer (some ⟨p, 0, none⟩))) w :=
      ⟨p, v, l, rfl, h4, h5, h6, Below.refl _ _, .inl h2, fun g hg => .inl (h3 g hg), ⟨_, h1⟩, .inl h1⟩
    have HF := Lib.hid fin
    clear fin h1 h2 h3 h4 h5 h6 h
    go_enter Try.func28, Try.ntmps28
    go_wp2
    go_ret
    exact HF.out

set_option maxRecDepth 100000 in
set_option maxHeartbeats 1000000 in
theorem agLen_any (w : World) (S : Nat → Prop) (a nx : Nat) (L : List En) (h : AgAt w S a nx L) :
    Calls Try.prog 14 #[.pointer (some ⟨a, 0, none⟩)] w fun e w' => e = .returned (.int .i64 (L.length : Int)) ∧ Below w.heap.size w w' := by
  have HK := Lib.hid (kept_any w S a nx L h)
  clear h
  go_enter Try.func14, Try.ntmps14
  go_wp2_with fail
  refine HK.out.mono ?_
  rintro e w1 ⟨p, v, l, rfl, hp, _, hpm, hb, _⟩
  obtain ⟨A, c, rfl⟩ := pile_slice hp
  have hc := hp.cell0
  have HL := Lib.hid hpm.length_eq
  have HB := Lib.hid hb
  clear hp hpm hb HK
  go_wp2_with (go_at_call 29; refine (len_any _ _ _ _).mono ?_; rintro e w' ⟨rfl, rfl⟩)
  go_ret
  exact ⟨by rw [← HL.out]; rfl, HB.out⟩
end Go.Proofs.Ytchfponnajednaa
