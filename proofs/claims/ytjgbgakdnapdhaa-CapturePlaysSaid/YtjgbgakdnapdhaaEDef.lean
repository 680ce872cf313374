/- What captures are, in numbers: deviations of nodes and channels. No condition. -/
import Derived.Test.YtjgbgakdnapdhaaRow
import Derived.Deep.MidRow
import Derived.Deep.WholeRow
import Derived.Laws.StructEq
namespace Go.Proofs.Ytjgbgakdnapdhaa
open Go.RowKit Go.Shelf

/-- What is noted of each node and channel. -/
abbrev Ca := Nat → Nat → Option Int
/-- A node's cells. -/
def prC (a b : Option Int) : List Value := [.int .i64 (a.getD 0), .bool a.isSome, .int .i64 (b.getD 0), .bool b.isSome]
/-- A node's deviation. -/
def devP : Option Int → Option Int → Option Int
  | none, none => none
  | some x, none => some x
  | none, some y => some y
  | some x, some y => some ((x + y) / 2)
def devF (f : Ca) (n : Nat) : Option Int := devP (f n 0) (f n 1)
/-- A capture's cells. -/
def capL (f : Ca) : List Value := (List.range 16).flatMap fun n => prC (f n 0) (f n 1)
def capC (f : Ca) : Array Value := (capL f).toArray
def noCa : Ca := fun _ _ => none
/-- A deviation is noted. -/
def putC (f : Ca) (n c : Nat) (v : Int) : Ca := fun i j => if i = n ∧ j = c then some v else f i j
/-- A node's are others. -/
def setN (f : Ca) (n : Nat) (a b : Option Int) : Ca := fun i j => if i = n then (if j = 0 then a else if j = 1 then b else f i j) else f i j
/-- Deviations are such. -/
def OkC (f : Ca) : Prop := ∀ n c v, f n c = some v → -4294967296 ≤ v ∧ v ≤ 4294967296
/-- Two that are the same, as far as there are nodes. -/
def EqC (f g : Ca) : Prop := ∀ n, n < 16 → f n 0 = g n 0 ∧ f n 1 = g n 1
def nodeB (n : Int) : Bool := decide (0 ≤ n) && decide (n < 16)
def chanB (c : Int) : Bool := decide (0 ≤ c) && decide (c < 2)
def byB (v : Int) : Bool := decide (-4294967296 ≤ v) && decide (v ≤ 4294967296)
/-- May it be noted? -/
def okB (f : Ca) (n c v : Int) : Bool := nodeB n && chanB c && byB v && !(f n.toNat c.toNat).isSome
/-- What Note answers, and what is noted behind it. -/
def noteE (f : Ca) (n c v : Int) : Int := if okB f n c v then 0 else 130
def noteF (f : Ca) (n c v : Int) : Ca := if okB f n c v then putC f n.toNat c.toNat v else f
/-- What Of answers. -/
def ofC (f : Ca) (n : Int) : Option Int := if nodeB n then devF f n.toNat else none
/-- What is there behind Forget. -/
def dropC (f : Ca) (n : Int) : Ca := if nodeB n then setN f n.toNat none none else f
/-- A deviation with its node. -/
structure De where
  n : Nat
  v : Int
deriving DecidableEq
instance : Inhabited De := ⟨⟨0, 0⟩⟩
def deC (d : De) : List Value := [.int .i64 (d.n : Int), .int .i64 d.v]
def inC (v : Int) : List Value := [.int .i64 v]
/-- All of them, of the nodes ahead of k. -/
def listTo (f : Ca) (k : Nat) : List De := (List.range k).filterMap fun n => (devF f n).map fun v => ⟨n, v⟩
def listC (f : Ca) : List De := listTo f 16
/-- .. with 0 where own stands. -/
def ownC (f : Ca) (own : Int) : Ca := if nodeB own then setN f own.toNat (some 0) none else f
def valC (f : Ca) (own : Int) : List Int := (listC (ownC f own)).map De.v

theorem prC_len (a b : Option Int) : (prC a b).length = 4 := rfl
theorem capL_len (f : Ca) : (capL f).length = 64 := by
  unfold capL
  rw [flat_len (k := 4) (fun n => prC_len _ _), List.length_range]
theorem capC_size (f : Ca) : (capC f).size = 64 := by rw [capC, List.size_toArray, capL_len]
theorem capL_get (f : Ca) (n j : Nat) (hn : n < 16) (hj : j < 4) : (capL f)[n * 4 + j]? = (prC (f n 0) (f n 1))[j]? := by
  unfold capL
  exact flat_get (cells := fun n => prC (f n 0) (f n 1)) (k := 4) (fun n => prC_len _ _) (List.range 16) n n j (by rw [List.getElem?_range hn]) hj
theorem prC_one (a b : Option Int) : ∀ u ∈ prC a b, u.oneCell' = true := by
  intro u hu
  simp only [prC, List.mem_cons, List.not_mem_nil, or_false] at hu
  rcases hu with rfl | rfl | rfl | rfl <;> rfl
theorem capC_one (f : Ca) : (capC f).all (·.oneCell') = true := by
  unfold capC
  exact all_oneCell_toArray (fun v hv => by
    obtain ⟨n, _, h⟩ := List.mem_flatMap.1 hv
    exact prC_one _ _ v h)
theorem capL_congr {f g : Ca} (h : EqC f g) : capL f = capL g := by
  unfold capL
  rw [List.flatMap_def, List.flatMap_def, List.map_congr_left]
  intro n hn
  rw [(h n (List.mem_range.1 hn)).1, (h n (List.mem_range.1 hn)).2]
theorem capC_congr {f g : Ca} (h : EqC f g) : capC f = capC g := by unfold capC; rw [capL_congr h]
theorem dev_congr {f g : Ca} (h : EqC f g) {n : Nat} (hn : n < 16) : devF f n = devF g n := by unfold devF; rw [(h n hn).1, (h n hn).2]
theorem EqC.refl (f : Ca) : EqC f f := fun _ _ => ⟨rfl, rfl⟩
theorem EqC.symm {f g : Ca} (h : EqC f g) : EqC g f := fun n hn => ⟨(h n hn).1.symm, (h n hn).2.symm⟩
theorem EqC.trans {f g e : Ca} (h : EqC f g) (k : EqC g e) : EqC f e := fun n hn => ⟨(h n hn).1.trans (k n hn).1, (h n hn).2.trans (k n hn).2⟩
theorem listTo_succ (f : Ca) (k : Nat) : listTo f (k + 1) = listTo f k ++ (match devF f k with | some v => [⟨k, v⟩] | none => []) := by
  unfold listTo
  rw [List.range_succ, List.filterMap_append]
  cases h : devF f k <;> simp [h]
theorem listTo_congr {f g : Ca} (h : EqC f g) : ∀ k, k ≤ 16 → listTo f k = listTo g k
  | 0, _ => rfl
  | k + 1, hk => by rw [listTo_succ, listTo_succ, listTo_congr h k (by omega), dev_congr h (by omega)]
theorem listC_congr {f g : Ca} (h : EqC f g) : listC f = listC g := listTo_congr h 16 (Nat.le_refl _)
theorem listTo_len (f : Ca) : ∀ k, (listTo f k).length ≤ k
  | 0 => Nat.le_refl _
  | k + 1 => by
    rw [listTo_succ, List.length_append]
    have := listTo_len f k
    split <;> simp <;> omega
theorem mem_listTo {f : Ca} {k : Nat} {d : De} : d ∈ listTo f k ↔ d.n < k ∧ devF f d.n = some d.v := by
  obtain ⟨n, v⟩ := d
  unfold listTo
  simp only [List.mem_filterMap, List.mem_range, Option.map_eq_some_iff, De.mk.injEq]
  constructor
  · rintro ⟨a, h1, b, h2, rfl, rfl⟩
    exact ⟨h1, h2⟩
  · rintro ⟨h1, h2⟩
    exact ⟨n, h1, v, h2, rfl, rfl⟩
theorem devP_none {a b : Option Int} : devP a b = none ↔ a = none ∧ b = none := by
  cases a <;> cases b <;> simp [devP]
theorem devP_isSome (a b : Option Int) : (devP a b).isSome = (a.isSome || b.isSome) := by cases a <;> cases b <;> rfl
theorem set_same (f : Ca) (n : Nat) : setN f n (f n 0) (f n 1) = f := by
  funext i j
  unfold setN
  split
  · rename_i h
    subst h
    split
    · rename_i h; rw [h]
    · split
      · rename_i h; rw [h]
      · rfl
  · rfl
theorem set_at (f : Ca) (n : Nat) (a b : Option Int) : setN f n a b n 0 = a ∧ setN f n a b n 1 = b := by
  unfold setN
  simp
theorem set_far (f : Ca) {n i : Nat} (a b : Option Int) (h : i ≠ n) (j : Nat) : setN f n a b i j = f i j := by
  unfold setN
  rw [if_neg h]
theorem put_set0 (f : Ca) (n : Nat) (v : Int) : EqC (putC f n 0 v) (setN f n (some v) (f n 1)) := by
  intro i _
  unfold putC setN
  by_cases h : i = n <;> simp [h]
theorem put_set1 (f : Ca) (n : Nat) (v : Int) : EqC (putC f n 1 v) (setN f n (f n 0) (some v)) := by
  intro i _
  unfold putC setN
  by_cases h : i = n <;> simp [h]
end Go.Proofs.Ytjgbgakdnapdhaa
