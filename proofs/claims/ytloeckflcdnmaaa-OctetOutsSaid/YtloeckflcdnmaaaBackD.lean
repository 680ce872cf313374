/- OctetBack, plain facts: which calls write something, their bytes, and a list of calls in memory of its own. -/
import Derived.Test.YtloeckflcdnmaaaVal
import Derived.Test.YtloeckflcdnmaaaTrio
import Derived.Test.YtloeckflcdnmaaaOpsP
import Derived.Deep.RegionHeld3
namespace Go.Proofs.Ytloeckflcdnmaaa
open Go.RowKit

/-! Taking an operation of a region first, its slot given as a number. -/
section
variable {P : Program} {ops : Array Oper} {Q : Exit → Act → World → Prop} {md : Region.Mode} {S : World → Prop}
theorem takeH (i : Nat) (d : Option Tmp) (v : Value) {oi : Oper} {fuel : Nat} {listed : Array Bool} {a : Act} {w : World} (hi : ops[i]? = some oi) (hd : oi.dst = d)
    (hs : Region.noSelect ops = true) (hf : Region.free md ops listed i = true) (hr : (Region.ready md ops listed).contains i = true)
    (hQ : ∀ c a w, Q (.panic c) (a.put d v) w → Q (.panic c) a w) (hw : Region.wanted oi (yielded ops a.tmps) = true) (hy : ∀ w, S w → (execOp a.eval oi).run P w = .ok (.value v) w) (hS : S w)
    (h : wpAnyH P md ops Q S fuel (listed.setIfInBounds i true) (a.put d v) w) : wpAnyH P md ops Q S (fuel + 1) listed a w := by
  subst hd
  exact wpAnyH_take hi hs hf hr hQ (Or.inl ⟨hw, hy⟩) hS h
theorem skipH (i : Nat) (d : Option Tmp) {oi : Oper} {fuel : Nat} {listed : Array Bool} {a : Act} {w : World} (hi : ops[i]? = some oi) (hd : oi.dst = d)
    (hs : Region.noSelect ops = true) (hf : Region.free md ops listed i = true) (hr : (Region.ready md ops listed).contains i = true)
    (hQ : ∀ c a w, Q (.panic c) (a.put d undef) w → Q (.panic c) a w) (hw : Region.wanted oi (yielded ops a.tmps) = false) (hS : S w)
    (h : wpAnyH P md ops Q S fuel (listed.setIfInBounds i true) (a.put d undef) w) : wpAnyH P md ops Q S (fuel + 1) listed a w := by
  subst hd
  exact wpAnyH_take hi hs hf hr hQ (Or.inr ⟨hw, rfl⟩) hS h
end

/-- Does a call write something, and spoil nothing? -/
def goodB (x : OpD) : Bool := (decide (x.kind = 0) && fitsW x.n x.v) || (decide (x.kind = 1) && decide (0 < x.b.length))
/-- The bytes that a call writes. -/
def opBytes (x : OpD) : List UInt8 := if x.kind = 0 then beBytes x.n.toNat x.v else x.b
def doneOf (xs : List OpD) : List OpD := xs.filter goodB
def bytesAll (ds : List OpD) : List UInt8 := ds.flatMap opBytes

theorem doneOf_snoc (xs : List OpD) (x : OpD) : doneOf (xs ++ [x]) = if goodB x then doneOf xs ++ [x] else doneOf xs := by
  unfold doneOf
  rw [List.filter_append]
  by_cases h : goodB x = true <;> simp [h]
theorem bytesAll_snoc (ds : List OpD) (x : OpD) : bytesAll (ds ++ [x]) = bytesAll ds ++ opBytes x := by simp [bytesAll]
theorem bytesAll_cons (ds : List OpD) (x : OpD) : bytesAll (x :: ds) = opBytes x ++ bytesAll ds := by simp [bytesAll]
theorem doneOf_length (xs : List OpD) : (doneOf xs).length ≤ xs.length := List.length_filter_le _ _

theorem good_zero {x : OpD} (h : x.kind = 0) : goodB x = fitsW x.n x.v := by simp [goodB, h]
theorem good_one {x : OpD} (h : x.kind = 1) : goodB x = decide (0 < x.b.length) := by simp [goodB, h]
theorem good_other {x : OpD} (h0 : x.kind ≠ 0) (h1 : x.kind ≠ 1) : goodB x = false := by simp [goodB, h0, h1]

theorem opBytes_le {x : OpD} (h : goodB x = true) : (opBytes x).length ≤ 8 + x.b.length := by
  unfold opBytes
  split
  · rename_i h0
    rw [good_zero h0] at h
    have hn : x.n.toNat ≤ 8 := by
      simp [fitsW, isW] at h
      omega
    rw [beBytes_length]
    omega
  · omega
theorem opBytes_pos {x : OpD} (h : goodB x = true) : 0 < (opBytes x).length := by
  unfold opBytes
  split
  · rename_i h0
    rw [good_zero h0] at h
    have hn : 0 < x.n.toNat := by
      simp [fitsW, isW] at h
      omega
    rw [beBytes_length]
    exact hn
  · rename_i h0
    by_cases h1 : x.kind = 1
    · rw [good_one h1] at h
      simpa using h
    · rw [good_other h0 h1] at h
      cases h

theorem bytesAll_le (xs : List OpD) : (bytesAll (doneOf xs)).length ≤ 8 * xs.length + opsSum xs := by
  rw [← List.reverse_reverse xs]
  generalize xs.reverse = ys
  induction ys with
  | nil => simp [bytesAll, doneOf, opsSum]
  | cons y ys ih =>
    rw [List.reverse_cons, doneOf_snoc, opsSum_snoc, List.length_append, List.length_singleton]
    split
    · rename_i h
      rw [bytesAll_snoc, List.length_append]
      have := opBytes_le h
      omega
    · omega

/-- The cells of a call. -/
def opCells (x : OpD) (Q : Option Addr) (c : Nat) : Array Value := #[.int .i64 x.kind, .int .i64 x.n, .int .u64 (x.v : Int), .slice Q x.b.length c]
theorem opCells_one (x : OpD) (Q : Option Addr) (c : Nat) : ∀ u ∈ (opCells x Q c).toList, u.oneCell' = true := by
  intro u hu
  simp [opCells] at hu
  rcases hu with rfl | rfl | rfl | rfl <;> rfl

/-- A call's four cells in a list of cells; its bytes' memory is older than w. -/
def CellsOf (w : World) (vs : List Value) (p : Nat) (x : OpD) : Prop :=
  ∃ Q c, vs[p]? = some (.int .i64 x.kind) ∧ vs[p + 1]? = some (.int .i64 x.n) ∧ vs[p + 2]? = some (.int .u64 (x.v : Int)) ∧ vs[p + 3]? = some (.slice Q x.b.length c) ∧ Src w Q x.b.length x.b ∧ (0 < x.b.length → ∀ ad, Q = some ad → ad.block < w.heap.size)
def RowOf (w : World) (ds : List OpD) (vs : List Value) : Prop := vs.length = ds.length * 4 ∧ ∀ j (h : j < ds.length), CellsOf w vs (j * 4) ds[j]

theorem rowOf_nil (w : World) : RowOf w [] [] := ⟨rfl, fun j h => absurd h (by simp)⟩
theorem RowOf.snoc {w : World} {ds : List OpD} {vs : List Value} (h : RowOf w ds vs) {x : OpD} {Q : Option Addr} {c : Nat} (hs : Src w Q x.b.length x.b) (hq : 0 < x.b.length → ∀ ad, Q = some ad → ad.block < w.heap.size) :
    RowOf w (ds ++ [x]) (vs ++ (opCells x Q c).toList) := by
  refine ⟨by rw [List.length_append, List.length_append, h.1]; simp [opCells]; omega, fun j hj => ?_⟩
  have hl := h.1
  by_cases hlt : j < ds.length
  · rw [List.getElem_append_left hlt]
    obtain ⟨Q', c', h0, h1, h2, h3, h4⟩ := h.2 j hlt
    refine ⟨Q', c', ?_, ?_, ?_, ?_, h4⟩
    · rw [List.getElem?_append_left (by omega)]; exact h0
    · rw [List.getElem?_append_left (by omega)]; exact h1
    · rw [List.getElem?_append_left (by omega)]; exact h2
    · rw [List.getElem?_append_left (by omega)]; exact h3
  · obtain rfl : j = ds.length := by simp at hj; omega
    rw [List.getElem_concat_length rfl]
    refine ⟨Q, c, ?_, ?_, ?_, ?_, hs, hq⟩
    · rw [List.getElem?_append_right (by omega), hl, show ds.length * 4 - ds.length * 4 = 0 from by omega]; rfl
    · rw [List.getElem?_append_right (by omega), hl, show ds.length * 4 + 1 - ds.length * 4 = 1 from by omega]; rfl
    · rw [List.getElem?_append_right (by omega), hl, show ds.length * 4 + 2 - ds.length * 4 = 2 from by omega]; rfl
    · rw [List.getElem?_append_right (by omega), hl, show ds.length * 4 + 3 - ds.length * 4 = 3 from by omega]; rfl

theorem not_grow {S : Nat → Prop} {W W' : World} {v : Value} {base n size : Nat} {e : TypeId} {vs : List Value} (hrow : W.ownsRow base e size v n vs) (hvS : ∀ g, v.ownBlock = some g → ¬ S g) : ∀ g, v.ownBlock = some g → ¬ Grow S W W' g := fun g hg h => by
  have := (hrow.lt g hg).2
  rcases h with h | h
  · exact hvS g hg h
  · omega

/-- A call has been put behind the list. -/
theorem back_push {w W W2 : World} {S : Nat → Prop} {a n g cap : Nat} {st : Option (List UInt8)} {v : Value} {vs news : List Value} {o : Obj} (ho : OutAt W S a st) (hb : Below w.heap.size w W)
    (hrow : W.ownsRow w.heap.size 34 4 v n vs) (hvS : ∀ g, v.ownBlock = some g → ¬ S g) (_ : W2.ownsRow w.heap.size 34 4 (.slice (some ⟨g, 0, none⟩) (n + 1) cap) (n + 1) (vs ++ news))
    (hg : (W.alloc o).grownBy W2 v.ownBlock) (hat : v.ownBlock = some g ∨ g = W.heap.size + 1) :
    OutAt W2 S a st ∧ Below w.heap.size w W2 ∧ ∀ g', (Value.slice (some ⟨g, 0, none⟩) (n + 1) cap).ownBlock = some g' → ¬ S g' := by
  have k0 : Kept Empty W (W.alloc o) := (Kept.refl _ _).alloc _
  have k1 : Kept (fun k => v.ownBlock = some k) (W.alloc o) W2 := (Kept.refl _ _).grown hg (fun k e => .inl e)
  refine ⟨(ho.keep k0 (fun _ _ h => h)).keep k1 (fun k hk e => hvS k e hk), k1.on (k0.on hb (fun _ h => h.elim) hb.size) (fun k e => (hrow.lt k e).1) (by have := hb.size; simp; omega), fun g' e hs => ?_⟩
  obtain rfl : g = g' := by simpa [Value.ownBlock] using e
  rcases hat with hat | hat
  · exact hvS g hat hs
  · have := ho.lt g hs
    omega

theorem far_out {w : World} {S : Nat → Prop} {Q : Option Addr} {n : Nat} (hq : 0 < n → ∀ ad, Q = some ad → ad.block < w.heap.size) (hS : ∀ i, S i → w.heap.size ≤ i) : 0 < n → ∀ ad, Q = some ad → ¬ S ad.block := fun h0 ad e hs => by
  have h1 := hq h0 ad e
  have h2 := hS _ hs
  omega

/-- What the first loop has. -/
def BackOut (w : World) (xs : List OpD) (a : Nat) (v k : Value) (W : World) : Prop :=
  ∃ j S vs, j ≤ xs.length ∧ k = .int .i64 (j : Int) ∧ OutAt W S a (some (bytesAll (doneOf (xs.take j)))) ∧ (∀ i, S i → w.heap.size ≤ i) ∧ Below w.heap.size w W ∧
    W.ownsRow w.heap.size 34 4 v (doneOf (xs.take j)).length vs ∧ RowOf w (doneOf (xs.take j)) vs ∧ (∀ g, v.ownBlock = some g → ¬ S g)

theorem back_next {w W : World} {xs ds : List OpD} {a j : Nat} {S : Nat → Prop} {v : Value} {vs : List Value} (hj : j < xs.length) (hd : doneOf (xs.take (j + 1)) = ds) (ho : OutAt W S a (some (bytesAll ds))) (hS : ∀ i, S i → w.heap.size ≤ i) (hb : Below w.heap.size w W)
    (hrow : W.ownsRow w.heap.size 34 4 v ds.length vs) (hvs : RowOf w ds vs) (hvS : ∀ g, v.ownBlock = some g → ¬ S g) : BackOut w xs a v (.int .i64 ((j + 1 : Nat) : Int)) W := by
  subst hd
  exact ⟨j + 1, S, vs, hj, rfl, ho, hS, hb, hrow, hvs, hvS⟩

/-- What the second loop has: the In, the list, the Out. -/
def BackIn (w : World) (ds : List OpD) (a x : Nat) (v : Value) (k : Value) (W : World) : Prop :=
  ∃ j S T vs, j ≤ ds.length ∧ k = .int .i64 (j : Int) ∧ OutAt W S a (some (bytesAll ds)) ∧ InAt W T x (some (bytesAll (ds.drop j))) ∧ (∀ i, S i → w.heap.size ≤ i) ∧ (∀ i, T i → w.heap.size ≤ i) ∧ Below w.heap.size w W ∧
    W.ownsRow w.heap.size 34 4 v ds.length vs ∧ RowOf w ds vs ∧ (∀ i, S i → ¬ T i) ∧ (∀ g, v.ownBlock = some g → ¬ T g)

theorem row_slice {W : World} {base n size : Nat} {e : TypeId} {v : Value} {vs : List Value} (h : W.ownsRow base e size v n vs) : ∃ A c, v = .slice A n c := by
  rcases h.2 with ⟨rfl, rfl⟩ | ⟨g, cap, cur, rfl, _⟩
  · exact ⟨_, _, rfl⟩
  · exact ⟨_, _, rfl⟩

/-- A call's cells in the list's own memory. -/
theorem row_cells {w W : World} {A : Option Addr} {ds : List OpD} {c j : Nat} {vs : List Value} (h : W.ownsRow w.heap.size 34 4 (.slice A ds.length c) ds.length vs) (hr : RowOf w ds vs) (hb : Below w.heap.size w W) (hj : j < ds.length) :
    ∃ g Q cq, A = some ⟨g, 0, none⟩ ∧ W.cell? ⟨g, j * 4, none⟩ = some (.int .i64 ds[j].kind) ∧ W.cell? ⟨g, j * 4 + 1, none⟩ = some (.int .i64 ds[j].n) ∧ W.cell? ⟨g, j * 4 + 2, none⟩ = some (.int .u64 (ds[j].v : Int)) ∧ W.cell? ⟨g, j * 4 + 3, none⟩ = some (.slice Q ds[j].b.length cq) ∧
      Src W Q ds[j].b.length ds[j].b ∧ (0 < ds[j].b.length → ∀ ad, Q = some ad → ad.block < w.heap.size) := by
  obtain ⟨g, cap, hv, _, _⟩ := h.form (by omega)
  simp only [Value.slice.injEq] at hv
  obtain ⟨rfl, _, rfl⟩ := hv
  obtain ⟨Q, cq, h0, h1, h2, h3, h4, h5⟩ := hr.2 j hj
  have hc := h.cells (g := g) rfl
  have c0 := hc _ _ h0
  have c1 := hc _ _ h1
  have c2 := hc _ _ h2
  have c3 := hc _ _ h3
  simp only [plain_add, Nat.zero_add] at c0 c1 c2 c3
  exact ⟨g, Q, cq, rfl, c0, c1, c2, c3, h4.below hb, h5⟩

/-- One more call has been read. -/
theorem back_step {w W W1 W2 : World} {ds : List OpD} {a x j : Nat} {S T : Nat → Prop} {v : Value} {vs : List Value} (hj : j < ds.length) (ho : OutAt W S a (some (bytesAll ds))) (hS : ∀ i, S i → w.heap.size ≤ i) (hT : ∀ i, T i → w.heap.size ≤ i) (hb : Below w.heap.size w W)
    (hrow : W.ownsRow w.heap.size 34 4 v ds.length vs) (hvs : RowOf w ds vs) (hST : ∀ i, S i → ¬ T i) (hvT : ∀ g, v.ownBlock = some g → ¬ T g)
    (k1 : Kept Empty W W1) (k2 : Kept (fun k => k = x) W1 W2) (hin : InAt W2 T x (some (bytesAll (ds.drop (j + 1))))) : BackIn w ds a x v (.int .i64 ((j + 1 : Nat) : Int)) W2 := by
  have hx := hin.own
  have hb1 := k1.on hb (fun _ h => h.elim) hb.size
  refine ⟨j + 1, S, T, vs, hj, rfl, (ho.keep k1 (fun _ _ h => h)).keep k2 (fun k hk e => hST k hk (by rw [e]; exact hx)), hin, hS, hT, k2.on hb1 (fun i e => by rw [e]; exact hT _ hx) hb1.size, ?_, hvs, hST, hvT⟩
  exact ownsRow_kept (ownsRow_kept hrow k1 (fun _ _ h => h)) k2 (fun g hg e => hvT g hg (by rw [e]; exact hx))

theorem read_zero {x : OpD} (h : goodB x = true) (h0 : x.kind = 0) (rest : List UInt8) : getSt (some (opBytes x ++ rest)) x.n = (some rest, x.v) := by
  rw [good_zero h0] at h
  simp only [fitsW, Bool.and_eq_true, decide_eq_true_eq] at h
  obtain ⟨hw, hv⟩ := h
  have hn : 0 ≤ x.n := by simp [isW] at hw; omega
  obtain ⟨k, hk⟩ := Int.eq_ofNat_of_zero_le hn
  have e : opBytes x = beBytes k x.v := by simp [opBytes, h0, hk]
  rw [hk] at hw hv ⊢
  simp only [Int.toNat_natCast] at hv
  have hl := beBytes_length k x.v
  have hg := getSt_take (opBytes x ++ rest) k hw (by rw [e, List.length_append]; omega)
  refine hg.trans ?_
  rw [e, List.drop_left' hl, List.take_left' hl, beVal_beBytes k _ hv]
theorem read_one {x : OpD} (h1 : x.kind = 1) (rest : List UInt8) : takeSt (some (opBytes x ++ rest)) (x.b.length : Int) = (some rest, x.b) := by
  have e : opBytes x = x.b := by simp [opBytes, h1]
  rw [e, takeSt_take _ _ (by rw [List.length_append]; omega), List.drop_left' rfl, List.take_left' rfl]

end Go.Proofs.Ytloeckflcdnmaaa
