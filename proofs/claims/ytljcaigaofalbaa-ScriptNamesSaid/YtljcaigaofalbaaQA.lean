/- Words for memory that the octet proofs share: blocks outside a set are as they were; a block known whole; a slice that reads as bytes. No condition. | Words for a doubt (a function value that answers a Bool, whatever was laid since) and for a clock's box. No condition. | A region that draws its order, whose operations only read, and whose callees may make memory: walked once, in the text's order. No condition. | Blocks that lie whole, all at once, and all that was there as it was: words for a law's walk. No condition. | A plan as sixteen numbers; what the chapter's conditions ask of them; what a number has to be at least. No condition. | A whole plan out of a block, and into one: its cells a letter, so the walk unrolls nothing. No condition. | An argument that is a plan, opened: sixteen numbers. -/
import Derived.WalkKit
import Derived.WalkSpells
import Derived.WalkLawsBesides
import Derived.Below
import Derived.Lib.Hide
import Derived.Maps.AppendAt
import Derived.Deep.AppendLies
import Derived.Deep.Draws
import Derived.Laws.IdiomStrings
import Derived.Test.YtljcaigaofalbaaProg
import Derived.BigQuiet
import Derived.Deep.QuietTactic
import Derived.Deep.RegionHeld3
import Derived.LoopTactic
import Derived.Shelf.Abstract
import Derived.Handy
import Derived.Laws.EntriesVeiled
import Derived.WalkSmall
import Derived.Deep.WholeRow
import Derived.BigFrame
import Derived.ProofKit
import Derived.OpenShut
import Derived.Lib.SmallJoins
namespace Go.Proofs.Ytljcaigaofalbaa
open Go.RowKit

/-- Every block of w outside S is in w' as it was. -/
structure Kept (S : Nat → Prop) (w w' : World) : Prop where
  os : w'.os = w.os
  tape : w'.tape = w.tape
  output : w'.output = w.output
  size : w.heap.size ≤ w'.heap.size
  block : ∀ k, k < w.heap.size → ¬ S k → w'.heap[k]? = w.heap[k]?

/-- S, and all that was laid between w and w'. -/
def Grow (S : Nat → Prop) (w w' : World) : Nat → Prop := fun k => S k ∨ (w.heap.size ≤ k ∧ k < w'.heap.size)
def Empty : Nat → Prop := fun _ => False

theorem Kept.refl (S : Nat → Prop) (w : World) : Kept S w w := ⟨rfl, rfl, rfl, Nat.le_refl _, fun _ _ _ => rfl⟩
theorem Kept.trans {S T : Nat → Prop} {a b c : World} (h : Kept S a b) (k : Kept T b c) (hT : ∀ i, i < a.heap.size → T i → S i) : Kept S a c :=
  ⟨k.os.trans h.os, k.tape.trans h.tape, k.output.trans h.output, Nat.le_trans h.size k.size,
    fun i hi hn => (k.block i (Nat.lt_of_lt_of_le hi h.size) (fun ht => hn (hT i hi ht))).trans (h.block i hi hn)⟩
theorem Kept.mono {S T : Nat → Prop} {a b : World} (h : Kept S a b) (hT : ∀ i, S i → T i) : Kept T a b :=
  ⟨h.os, h.tape, h.output, h.size, fun i hi hn => h.block i hi (fun hs => hn (hT i hs))⟩
theorem Kept.alloc {S : Nat → Prop} {a b : World} (h : Kept S a b) (o : Obj) : Kept S a (b.alloc o) :=
  ⟨h.os, h.tape, h.output, Nat.le_trans h.size (by simp), fun i hi hn => (Below.heap_alloc b o i (Nat.lt_of_lt_of_le hi h.size)).trans (h.block i hi hn)⟩
theorem Kept.drew {S : Nat → Prop} {a b : World} (h : Kept S a b) : Kept S a b.drew := ⟨h.os, h.tape, h.output, h.size, h.block⟩
theorem Kept.drewN {S : Nat → Prop} {a b : World} (h : Kept S a b) (n : Nat) : Kept S a (b.drewN n) := ⟨h.os, h.tape, h.output, h.size, h.block⟩
theorem Kept.setCell {S : Nat → Prop} {a b : World} (h : Kept S a b) {p : Addr} (hp : S p.block ∨ a.heap.size ≤ p.block) (u : Value) : Kept S a (b.setCell p u) :=
  ⟨h.os, h.tape, h.output, by simpa [World.setCell] using h.size, fun i hi hn => (Below.heap_setCell b p u i (by
    rintro rfl
    rcases hp with hp | hp
    · exact hn hp
    · omega)).trans (h.block i hi hn)⟩
theorem Kept.grown {S : Nat → Prop} {a b c : World} {row : Option Nat} (h : Kept S a b) (hg : b.grownBy c row) (hr : ∀ k, row = some k → S k ∨ a.heap.size ≤ k) : Kept S a c :=
  ⟨hg.os.trans h.os, hg.tape.trans h.tape, hg.output.trans h.output, Nat.le_trans h.size hg.size,
    fun i hi hn => (hg.block i (Nat.lt_of_lt_of_le hi h.size) (fun e => by
      rcases hr i e.symm with h1 | h1
      · exact hn h1
      · omega)).trans (h.block i hi hn)⟩
theorem Kept.of_below {a b : World} (h : Below a.heap.size a b) (S : Nat → Prop) : Kept S a b := ⟨h.os, h.tape, h.output, h.size, fun i hi _ => h.block i hi⟩
theorem Kept.below {a b : World} {S : Nat → Prop} (h : Kept S a b) (hS : ∀ k, k < a.heap.size → ¬ S k) : Below a.heap.size a b := ⟨h.os, h.tape, h.output, h.size, fun i hi => h.block i hi (hS i hi)⟩
theorem Kept.cell {S : Nat → Prop} {a b : World} (h : Kept S a b) {p : Addr} {v : Value} (hc : a.cell? p = some v) (hp : ¬ S p.block) : b.cell? p = some v :=
  (World.cell?_of_block (h.block p.block (World.block_lt_of_cell? a p hc) hp)).trans hc

/-- Block g is just the cells cs, of type t, none frozen. -/
def Whole (w : World) (g : Nat) (t : TypeId) (cs : Array Value) : Prop := w.heap[g]? = some (.cells cs t (0, 0))
section
variable {w w' : World} {g : Nat} {t : TypeId} {cs : Array Value}
theorem Whole.lt (h : Whole w g t cs) : g < w.heap.size := (Array.getElem?_eq_some_iff.1 h).1
theorem Whole.cell (h : Whole w g t cs) (i : Nat) : w.cell? ⟨g, i, none⟩ = cs[i]? := cell_of_row w g i cs t (0, 0) h
theorem Whole.frozen (h : Whole w g t cs) (i : Nat) : w.frozen? ⟨g, i, none⟩ = false := by
  have h' : w.heap[g]? = _ := h
  simp [World.frozen?, h']
theorem Whole.new (w : World) (t : TypeId) (cs : Array Value) : Whole (w.alloc (.cells cs t)) w.heap.size t cs := heap_alloc_new w _
theorem Whole.alloc (h : Whole w g t cs) (o : Obj) : Whole (w.alloc o) g t cs := (Below.heap_alloc w o g h.lt).trans h
theorem Whole.drew (h : Whole w g t cs) : Whole w.drew g t cs := h
theorem Whole.set (h : Whole w g t cs) (i : Nat) (u : Value) : Whole (w.setCell ⟨g, i, none⟩ u) g t (cs.setIfInBounds i u) := by
  have h' : w.heap[g]? = _ := h
  simp [Whole, World.setCell, Array.getElem?_modify, h']
theorem Whole.far (h : Whole w g t cs) {p : Addr} (hp : g ≠ p.block) (u : Value) : Whole (w.setCell p u) g t cs := (Below.heap_setCell w p u g hp).trans h
theorem Whole.kept {S : Nat → Prop} (h : Whole w g t cs) (hk : Kept S w w') (hg : ¬ S g) : Whole w' g t cs := (hk.block g h.lt hg).trans h
theorem Whole.below {B : Nat} (h : Whole w g t cs) (hk : Below B w w') (hg : g < B) : Whole w' g t cs := (hk.block g hg).trans h
theorem Whole.grown {row : Option Nat} (h : Whole w g t cs) (hk : w.grownBy w' row) (hg : some g ≠ row) : Whole w' g t cs := (hk.block g h.lt hg).trans h
theorem Whole.apart {g' : Nat} {t' : TypeId} {cs' : Array Value} (h : Whole w g t cs) (h' : Whole w g' t' cs') (hne : t ≠ t') : g ≠ g' := by
  rintro rfl
  have e := (show w.heap[g]? = _ from h).symm.trans h'
  simp at e
  exact hne e.2
theorem Whole.not_row {e : TypeId} {base size n : Nat} {v : Value} {xs : List Value} (h : Whole w g t cs) (hte : t ≠ e) (hr : w.ownsRow base e size v n xs) : some g ≠ v.ownBlock := by
  rcases hr.2 with ⟨rfl, _⟩ | ⟨g', cap, cur, rfl, _, hgb, _⟩
  · simp [Value.ownBlock]
  · intro e'
    obtain rfl : g = g' := by simpa [Value.ownBlock] using e'
    exact Whole.apart h hgb hte rfl
end

/-- Bytes as values. -/
def bv (l : List UInt8) : List Value := l.map fun b => .int .u8 (b.toNat : Int)
theorem bv_length (l : List UInt8) : (bv l).length = l.length := by simp [bv]
theorem bv_append (l m : List UInt8) : bv (l ++ m) = bv l ++ bv m := by simp [bv]
theorem bv_one {l : List UInt8} : ∀ u ∈ bv l, u.oneCell' = true := by
  intro u hu
  obtain ⟨b, _, rfl⟩ := List.mem_map.1 hu
  rfl

/-- The slice with address A, of n elements, reads as the bytes l. -/
def Src (w : World) (A : Option Addr) (n : Nat) (l : List UInt8) : Prop :=
  l.length = n ∧ (0 < n → ∃ b o, A = some ⟨b, o, none⟩ ∧ ∀ i (h : i < l.length), w.cell? ⟨b, o + i, none⟩ = some (.int .u8 (l[i].toNat : Int)))
section
variable {w w' : World} {A : Option Addr} {n : Nat} {l : List UInt8}
theorem Src.nil (w : World) (A : Option Addr) : Src w A 0 [] := ⟨rfl, fun h => absurd h (by omega)⟩
theorem Src.keep (h : Src w A n l) (hk : ∀ b o v, A = some ⟨b, o, none⟩ → ∀ i, w.cell? ⟨b, i, none⟩ = some v → w'.cell? ⟨b, i, none⟩ = some v) : Src w' A n l :=
  ⟨h.1, fun hn => by
    obtain ⟨b, o, hA, hc⟩ := h.2 hn
    exact ⟨b, o, hA, fun i hi => hk b o _ hA _ (hc i hi)⟩⟩
theorem Src.kept {S : Nat → Prop} (h : Src w A n l) (hk : Kept S w w') (hS : ∀ ad, A = some ad → ¬ S ad.block) : Src w' A n l :=
  h.keep fun b o _ hA _ hc => hk.cell hc (fun hb => hS ⟨b, o, none⟩ hA hb)
theorem Src.below (h : Src w A n l) (hk : Below w.heap.size w w') : Src w' A n l := h.kept (Kept.of_below hk Empty) (fun _ _ h => h)
theorem Src.of_own {base : Nat} {e : TypeId} {v : Value} (h : w.ownsRow base e 1 v n (bv l)) : ∃ A c, v = .slice A n c ∧ n ≤ c ∧ Src w A n l ∧ (∀ ad, A = some ad → v.ownBlock = some ad.block ∧ base ≤ ad.block) ∧ (A = none → n = 0 ∧ c = 0) := by
  have hl : l.length = n := by have := h.1; rw [bv_length] at this; omega
  rcases h.2 with ⟨rfl, rfl⟩ | ⟨g, cap, cur, rfl, hb, hg, hnc, _, _, _⟩
  · exact ⟨none, 0, rfl, Nat.le_refl _, ⟨hl, fun h => absurd h (by omega)⟩, (fun _ h => by cases h), fun _ => ⟨rfl, rfl⟩⟩
  · refine ⟨_, cap, rfl, hnc, ⟨hl, fun _ => ⟨g, 0, rfl, fun i hi => ?_⟩⟩, (fun ad hA => by cases hA; exact ⟨rfl, hb⟩), (fun hA => by cases hA)⟩
    have := h.cells (g := g) rfl i (.int .u8 (l[i].toNat : Int)) (by simp [bv, List.getElem?_eq_getElem hi])
    have hadd : (⟨g, 0, none⟩ : Addr).add i = ⟨g, 0 + i, none⟩ := by unfold Addr.add; split <;> simp_all
    rwa [hadd] at this
theorem Src.convert {P : Program} (h : Src w A n l) (c : Nat) (src e dst : TypeId) (hs : P.underlying src = some (.slice e)) (he : P.underlying e = some (.int .u8)) (hd : P.underlying dst = some .string) :
    (convert src dst (.slice A n c)).run P w = .ok (.string ⟨l.toArray⟩) w := by
  obtain ⟨rfl, h2⟩ := h
  rcases Nat.eq_zero_or_pos l.length with h0 | h0
  · obtain rfl : l = [] := List.eq_nil_of_length_eq_zero h0
    cases A with
    | none => rw [run_convert_bytes_string w src dst e _ _ c hs he hd]; simp [Conv.bytesToString]; rfl
    | some ad => exact run_convert_bytes_back w src dst e ad c [] hs he hd (fun j hj => absurd hj (by simp))
  · obtain ⟨b, o, rfl, hc⟩ := h2 h0
    refine run_convert_bytes_back w src dst e _ c l hs he hd (fun j hj => ?_)
    have hadd : (⟨b, o, none⟩ : Addr).add j = ⟨b, o + j, none⟩ := by unfold Addr.add; split <;> simp_all
    rw [hadd]
    exact hc j hj
end

/-- append onto a row of the call's own, of whatever source that reads as bytes. -/
theorem run_append_src {P : Program} (w : World) (base : Nat) (t ty e : TypeId) (i : TypeInfo) (ht : P.underlying t = some (.slice e)) (hi : P.info? e = some i) (hz : i.zero = some (.int .u8 0))
    (hsize : i.size = 1) (hby : i.bytes = 1) (v : Value) (n : Nat) (xs : List Value) (hown : w.ownsRow base e 1 v n xs)
    (A : Option Addr) (m c : Nat) (l : List UInt8) (hr : Src w A m l) (hlen : n + m ≤ 1099511627776) (hbase : base ≤ w.heap.size) :
    ∃ v' w', (Builtin.append_ #[t, t] ty #[v, .slice A m c]).run P w = .ok v' w' ∧ w'.ownsRow base e 1 v' (n + m) (xs ++ bv l) ∧ w.grownBy w' v.ownBlock ∧
      (v'.ownBlock = v.ownBlock ∨ v'.ownBlock = some w.heap.size) := by
  obtain ⟨rfl, h2⟩ := hr
  by_cases h0 : l = [] ∧ A = none
  · obtain ⟨rfl, rfl⟩ := h0
    refine ⟨v, w, ?_, by simpa [bv] using hown, World.grownBy.refl w _, .inl rfl⟩
    rcases hown.2 with ⟨rfl, rfl⟩ | ⟨g, cap, cur, rfl, _, _, hnc, _⟩
    · simp [Builtin.append_, run_underlying ht, sizeOf, typeInfo, hi, Builtin.lenOf, Builtin.firstCells]
    · simp [Builtin.append_, run_underlying ht, sizeOf, typeInfo, hi, Builtin.lenOf, Builtin.firstCells, hnc, storeCells]
  · obtain ⟨ad, rfl, hc⟩ : ∃ ad, A = some ad ∧ ∀ j u, (bv l)[j]? = some u → w.cell? (ad.add j) = some u := by
      rcases Nat.eq_zero_or_pos l.length with hl | hl
      · obtain rfl : l = [] := List.eq_nil_of_length_eq_zero hl
        cases A with
        | none => exact absurd ⟨rfl, rfl⟩ h0
        | some ad => exact ⟨ad, rfl, fun j u hu => by simp [bv] at hu⟩
      · obtain ⟨b, o, rfl, hc⟩ := h2 hl
        refine ⟨_, rfl, fun j u hu => ?_⟩
        have hj : j < l.length := by
          have := (List.getElem?_eq_some_iff.1 hu).1
          simpa [bv] using this
        have hadd : (⟨b, o, none⟩ : Addr).add j = ⟨b, o + j, none⟩ := by unfold Addr.add; split <;> simp_all
        rw [hadd, hc j hj]
        simp [bv, List.getElem?_eq_getElem hj] at hu
        rw [hu]
    obtain ⟨v', w', hrun, h3, h4, _, h6⟩ := run_append_own_at (P := P) w base t ty e i (.int .u8 0) 1 1 ht hi hz hsize hby rfl (by decide) v n xs hown ad l.length c (bv l) (by rw [bv_length, Nat.mul_one]) hc bv_one (by simp only [maxLen]; omega) (by omega) hbase
    exact ⟨v', w', hrun, h3, h4, h6⟩

theorem wpList_append_src {P : Program} (w : World) {ops : Array Oper} {rest : List Oper} {o : Oper} {a : Act} {Q : Exit → Act → World → Prop} (hgd : o.guard = none) (s x : Operand) (t : TypeId)
    (ho : o.op = .call { callee := .builtin .append, args := #[s, x], argTypes := #[t, t] })
    (base : Nat) (e : TypeId) (i : TypeInfo) (ht : P.underlying t = some (.slice e)) (hi : P.info? e = some i) (hz : i.zero = some (.int .u8 0)) (hsize : i.size = 1) (hby : i.bytes = 1)
    (v : Value) (n : Nat) (xs : List Value) (hs : a.eval s = v) (hown : w.ownsRow base e 1 v n xs)
    (A : Option Addr) (m c : Nat) (l : List UInt8) (hx : a.eval x = .slice A m c) (hr : Src w A m l) (hlen : n + m ≤ 1099511627776) (hbase : base ≤ w.heap.size)
    (h : ∀ v' w', w'.ownsRow base e 1 v' (n + m) (xs ++ bv l) → w.grownBy w' v.ownBlock → (v'.ownBlock = v.ownBlock ∨ v'.ownBlock = some w.heap.size) → wpList P ops Q rest (a.put o.dst v') w') : wpList P ops Q (o :: rest) a w :=
  wpList_plain hgd fun _ hK => by
    obtain ⟨v', w', hrun, h2, h3, h4⟩ := run_append_src (P := P) w base t o.type e i ht hi hz hsize hby v n xs hown A m c l hr hlen hbase
    unfold Oper.wp execOp
    simp only [ho, resolve, invoke, builtin, Sem.run_bind, Sem.run_pure, Result.andThen_ok, List.map_toArray, List.map_cons, List.map_nil, hs, hx, hrun]
    exact hK _ _ (h v' w' h2 h3 h4)

end Go.Proofs.Ytljcaigaofalbaa

namespace Go.Proofs.Ytljcaigaofalbaa
open Go.RowKit Go.Shelf

theorem k_later {w w' : World} {g : Nat} {t : TypeId} {cs : Array Value} (hk : Below w.heap.size w w') (h : Whole w g t cs) : Whole w' g t cs := h.below hk h.lt
theorem k_then {a b c : World} (h2 : Below b.heap.size b c) (h1 : Below a.heap.size a b) : Below a.heap.size a c := h1.trans (h2.mono h1.size)
theorem k_cell {w w' : World} (hk : Below w.heap.size w w') {p : Addr} {v : Value} (h : w.cell? p = some v) : w'.cell? p = some v :=
  (hk.cell (World.block_lt_of_cell? w p h)).trans h

/-- v is a function value that, called in whatever world is a later one than w, answers b, and writes nothing that was there. -/
def Doubt (P : Program) (w : World) (v : Value) (b : Bool) : Prop :=
  ∃ (k : FuncId) (cap : Array Value), v = .func (.func k) #[] cap ∧ Enters P k ∧ ∀ W, Below w.heap.size w W → Calls P k cap W fun e W' => e = .returned (.bool b) ∧ Below W.heap.size W W'
theorem Doubt.later {P : Program} {w w' : World} {v : Value} {b : Bool} (h : Doubt P w v b) (hk : Below w.heap.size w w') : Doubt P w' v b := by
  obtain ⟨k, cap, rfl, he, hc⟩ := h
  exact ⟨k, cap, rfl, he, fun W hW => hc W (hk.trans (hW.mono hk.size))⟩

theorem Doubt.open {P : Program} {w : World} {v : Value} {b : Bool} (h : Doubt P w v b) : ∃ (k : FuncId) (cap : Array Value), v = .func (.func k) #[] cap := by
  obtain ⟨k, cap, h, _⟩ := h
  exact ⟨k, cap, h⟩

/-- A clock. -/
def ck (n d o j : Int) : Value := .agg #[.int .i64 n, .int .i64 d, .int .i64 o, .int .i64 j]
/-- A block of one number. -/
theorem k_one {w : World} {g : Nat} {t : TypeId} {a : Value} (h : Whole w g t #[a]) : w.cell? ⟨g, 0, none⟩ = some a ∧ ∀ i, w.frozen? ⟨g, i, none⟩ = false := ⟨h.cell 0, h.frozen⟩
theorem k_two {w : World} {g : Nat} {t : TypeId} {a b : Value} (h : Whole w g t #[a, b]) : w.cell? ⟨g, 0, none⟩ = some a ∧ w.cell? ⟨g, 1, none⟩ = some b ∧ ∀ i, w.frozen? ⟨g, i, none⟩ = false := ⟨h.cell 0, h.cell 1, h.frozen⟩
theorem k_four {w : World} {g : Nat} {t : TypeId} {a b c d : Value} (h : Whole w g t #[a, b, c, d]) :
    w.cell? ⟨g, 0, none⟩ = some a ∧ w.cell? ⟨g, 1, none⟩ = some b ∧ w.cell? ⟨g, 2, none⟩ = some c ∧ w.cell? ⟨g, 3, none⟩ = some d ∧ ∀ i, w.frozen? ⟨g, i, none⟩ = false :=
  ⟨h.cell 0, h.cell 1, h.cell 2, h.cell 3, h.frozen⟩

end Go.Proofs.Ytljcaigaofalbaa

namespace Go.Proofs.Ytljcaigaofalbaa
open Go.RowKit

/-- A world in which all that lies in w lies as it lay. -/
structure Later (w : World) where
  at_ : World
  below : Below w.heap.size w at_
instance (w : World) : Nonempty (Later w) := ⟨⟨w, Below.refl _ _⟩⟩
theorem Later.cell {w : World} (y : Later w) {p : Addr} {v : Value} (h : w.cell? p = some v) : y.at_.cell? p = some v :=
  (y.below.cell (World.block_lt_of_cell? w p h)).trans h

theorem wp_region_later {P : Program} {id : Nat} {Q : Exit → Act → World → Prop} {a : Act} {w : World} {l : List Oper} (hm : P.follows .mixedOrders = true) (hB : Region.lexB .any l.toArray = true)
    (h : wpQuiet P l.toArray (fun w' => ∃ y : Later w, w' = y.at_) (fun a' => ∀ w', (∃ y : Later w, w' = y.at_) → Q .normal a' w') l a) : (Code.region id l.toArray true).wp P Q a w :=
  wp_region_quiet (C := fun w' => ∃ y : Later w, w' = y.at_) hm hB ⟨⟨_, below_drewN (Below.refl _ w) 1⟩, rfl⟩ (by simpa using h)

section
variable {P : Program} {f : FuncId} {args : Array Value} {w : World} {v : Value}
theorem later_of (y : Later w) (h : ∀ W, Calls P f args W fun e w' => e = .returned v ∧ Below W.heap.size W w') : Calls P f args y.at_ fun e w' => e = .returned v ∧ ∃ z : Later w, w' = z.at_ :=
  (h y.at_).mono fun _ w' k => ⟨k.1, ⟨w', y.below.trans (k.2.mono y.below.size)⟩, rfl⟩
theorem later_same (y : Later w) (h : ∀ W, Calls P f args W fun e w' => e = .returned v ∧ W = w') : Calls P f args y.at_ fun e w' => e = .returned v ∧ ∃ z : Later w, w' = z.at_ :=
  (h y.at_).mono fun _ _ k => ⟨k.1, y, k.2.symm⟩
theorem later_quiet (y : Later w) (h : ∀ W, Calls P f args W fun e w' => e = .returned v ∧ ∃ n, w' = W.drewN n) : Calls P f args y.at_ fun e w' => e = .returned v ∧ ∃ z : Later w, w' = z.at_ :=
  (h y.at_).mono fun _ w' k => ⟨k.1, ⟨w', by obtain ⟨n, rfl⟩ := k.2; exact below_drewN y.below n⟩, rfl⟩
end

end Go.Proofs.Ytljcaigaofalbaa

namespace Go.Proofs.Ytljcaigaofalbaa
open Go.RowKit

/-- All that was in w0 is as it was; each of these blocks is whole. -/
def Held (w0 : World) (l : List (Nat × TypeId × Array Value)) (W : World) : Prop := Below w0.heap.size w0 W ∧ ∀ x ∈ l, Whole W x.1 x.2.1 x.2.2
theorem held_start (w : World) : Held w [] w := ⟨Below.refl _ _, fun _ h => by cases h⟩
theorem held_later {w0 W W' : World} {l : List (Nat × TypeId × Array Value)} (h : Below W.heap.size W W') (k : Held w0 l W) : Held w0 l W' := ⟨k_then h k.1, fun x hx => k_later h (k.2 x hx)⟩
theorem held_new {w0 W : World} {l : List (Nat × TypeId × Array Value)} (k : Held w0 l W) (t : TypeId) (cs : Array Value) : Held w0 (l ++ [(W.heap.size, t, cs)]) (W.alloc (.cells cs t)) := by
  refine ⟨k.1.alloc k.1.size _, fun x hx => ?_⟩
  rcases List.mem_append.1 hx with h | h
  · exact (k.2 x h).alloc _
  · obtain rfl : x = (W.heap.size, t, cs) := by simpa using h
    exact Whole.new W t cs
theorem held_drew {w0 W : World} {l : List (Nat × TypeId × Array Value)} (k : Held w0 l W) (n : Nat) : Held w0 l (W.drewN n) := ⟨below_drewN k.1 n, fun x hx => (k.2 x hx)⟩
theorem held_y {w0 W : World} {l : List (Nat × TypeId × Array Value)} (k : Held w0 l W) {y : World} (h : Below W.heap.size W y) : Held w0 l y := held_later h k
section
variable {w0 W : World} {a b c d e f : Nat × TypeId × Array Value} {l : List (Nat × TypeId × Array Value)}
theorem held1 (k : Held w0 (a :: l) W) : Whole W a.1 a.2.1 a.2.2 := k.2 _ (by simp)
theorem held2 (k : Held w0 (a :: b :: l) W) : Whole W b.1 b.2.1 b.2.2 := k.2 _ (by simp)
theorem held3 (k : Held w0 (a :: b :: c :: l) W) : Whole W c.1 c.2.1 c.2.2 := k.2 _ (by simp)
theorem held4 (k : Held w0 (a :: b :: c :: d :: l) W) : Whole W d.1 d.2.1 d.2.2 := k.2 _ (by simp)
theorem held5 (k : Held w0 (a :: b :: c :: d :: e :: l) W) : Whole W e.1 e.2.1 e.2.2 := k.2 _ (by simp)
theorem held6 (k : Held w0 (a :: b :: c :: d :: e :: f :: l) W) : Whole W f.1 f.2.1 f.2.2 := k.2 _ (by simp)
theorem held7 {g : Nat × TypeId × Array Value} (k : Held w0 (a :: b :: c :: d :: e :: f :: g :: l) W) : Whole W g.1 g.2.1 g.2.2 := k.2 _ (by simp)
theorem held8 {g h : Nat × TypeId × Array Value} (k : Held w0 (a :: b :: c :: d :: e :: f :: g :: h :: l) W) : Whole W h.1 h.2.1 h.2.2 := k.2 _ (by simp)
end
end Go.Proofs.Ytljcaigaofalbaa

namespace Go.Proofs.Ytljcaigaofalbaa
open Go.RowKit Go.Shelf

/-- A plan's numbers, in their order. -/
structure Pl where
  nodes : Int
  kk : Int
  slot : Int
  sendOff : Int
  window : Int
  air : Int
  dmin : Int
  dmax : Int
  rho : Int
  pi : Int
  cap : Int
  delta : Int
  queue : Int
  burst : Int
  payload : Int
  horizon : Int

def Pl.cells (x : Pl) : Array Value := #[.int .i64 x.nodes, .int .i64 x.kk, .int .i64 x.slot, .int .i64 x.sendOff, .int .i64 x.window, .int .i64 x.air, .int .i64 x.dmin, .int .i64 x.dmax,
  .int .i64 x.rho, .int .i64 x.pi, .int .i64 x.cap, .int .i64 x.delta, .int .i64 x.queue, .int .i64 x.burst, .int .i64 x.payload, .int .i64 x.horizon]

/-- The round. -/
def rdL (x : Pl) : Int := x.nodes * x.slot
def eL (x : Pl) : Int := x.dmax - x.dmin + 6
def gL (x : Pl) : Int := 2 * (2 * rdL x / x.rho + 4)
def aL (x : Pl) : Int := 2 * (eL x + gL x)
def lPi (x : Pl) : Int := 2 * (aL x + gL x) + eL x
def lWin (x : Pl) : Int := x.pi + eL x
def lCap (x : Pl) : Int := aL x + 2 * gL x + 2 * eL x
def lSend (x : Pl) : Int := x.window + x.cap + x.pi
def lSlot (x : Pl) : Int := x.sendOff + x.window + 2 * (x.dmax + x.air) + x.cap + x.pi + 8
def frL (x : Pl) : Int := (x.queue + x.burst - 1) / x.burst
def lDel (x : Pl) : Int := (frL x + 3) * rdL x + 2 * x.pi
def lHor (x : Pl) : Int := 40 * rdL x

/-- The conditions, by their numbers. -/
def holdL (x : Pl) : Nat → Prop
  | 1 => (4 ≤ x.nodes ∧ x.nodes ≤ 16) ∧ (0 ≤ x.kk ∧ 2 * x.kk + 2 ≤ x.nodes)
  | 2 => (1 ≤ x.air ∧ x.air ≤ 1048576) ∧ 0 ≤ x.dmin ∧ (x.dmin ≤ x.dmax ∧ x.dmax ≤ 1048576)
  | 3 => (1 ≤ x.slot ∧ x.slot ≤ 1048576) ∧ (4 ≤ x.rho ∧ x.rho ≤ 1048576)
  | 4 => lPi x ≤ x.pi ∧ x.pi ≤ 1048576
  | 5 => lWin x ≤ x.window ∧ x.window ≤ 1048576
  | 6 => lCap x ≤ x.cap ∧ x.cap ≤ 1048576
  | 7 => lSend x ≤ x.sendOff ∧ x.sendOff ≤ 1048576
  | 8 => lSlot x ≤ x.slot
  | 9 => ((1 ≤ x.queue ∧ x.queue ≤ 64) ∧ (1 ≤ x.burst ∧ x.burst ≤ 8)) ∧ (1 ≤ x.payload ∧ x.payload ≤ 32)
  | 10 => lDel x ≤ x.delta ∧ x.delta ≤ 64 * rdL x
  | 11 => lHor x ≤ x.horizon ∧ x.horizon ≤ 2147483648
  | _ => True
instance (x : Pl) (k : Nat) : Decidable (holdL x k) := by
  unfold holdL
  split <;> infer_instance

/-- r is the number of the first condition, up to the last one to ask, that does not hold; 0, if these do. -/
def FirstL (x : Pl) (last r : Nat) : Prop :=
  (r = 0 ∧ ∀ j, 1 ≤ j → j ≤ last → holdL x j) ∨ (1 ≤ r ∧ r ≤ last ∧ ¬ holdL x r ∧ ∀ j, 1 ≤ j → j < r → holdL x j)
theorem FirstL.same {x : Pl} {last r s : Nat} (h : FirstL x last r) (k : FirstL x last s) : r = s := by
  rcases h with ⟨rfl, h⟩ | ⟨h1, h2, h3, h4⟩ <;> rcases k with ⟨rfl, k⟩ | ⟨k1, k2, k3, k4⟩
  · rfl
  · exact absurd (h s k1 k2) k3
  · exact absurd (k r h1 h2) h3
  · rcases Nat.lt_trichotomy r s with g | g | g
    · exact absurd (k4 r h1 g) h3
    · exact g
    · exact absurd (h4 s k1 g) k3
/-- The first of the conditions from k on, up to the last one, that does not hold; 0, if these do. -/
def scanL (x : Pl) (last : Nat) : Nat → Nat → Nat
  | 0, _ => 0
  | f + 1, k => if k ≤ last then (if holdL x k then scanL x last f (k + 1) else k) else 0
def failsL (x : Pl) (last : Nat) : Nat := scanL x last 12 1
theorem scanL_first {x : Pl} {last : Nat} : ∀ (f k : Nat), last < f + k → 1 ≤ k → (∀ j, 1 ≤ j → j < k → holdL x j) → FirstL x last (scanL x last f k)
  | 0, k, h, h1, h2 => by
    exact .inl ⟨rfl, fun j a b => h2 j a (by omega)⟩
  | f + 1, k, h, h1, h2 => by
    unfold scanL
    by_cases hk : k ≤ last
    · rw [if_pos hk]
      by_cases hh : holdL x k
      · rw [if_pos hh]
        exact scanL_first f (k + 1) (by omega) (by omega) fun j a b => by
          by_cases e : j = k
          · subst e; exact hh
          · exact h2 j a (by omega)
      · rw [if_neg hh]
        exact .inr ⟨h1, hk, hh, h2⟩
    · rw [if_neg hk]
      exact .inl ⟨rfl, fun j a b => h2 j a (by omega)⟩
theorem failsL_first (x : Pl) {last : Nat} (h : last ≤ 11) : FirstL x last (failsL x last) := scanL_first 12 1 (by omega) (by omega) fun j a b => by omega
theorem failsL_of {x : Pl} {last r : Nat} (h : FirstL x last r) (hl : last ≤ 11) : failsL x last = r := (failsL_first x hl).same h

/-- Sixteen cells. -/
theorem l_cells {w : World} {g : Nat} {t : TypeId} {x : Pl} (h : Whole w g t x.cells) :
    (w.cell? ⟨g, 0, none⟩ = some (.int .i64 x.nodes) ∧ w.cell? ⟨g, 1, none⟩ = some (.int .i64 x.kk) ∧ w.cell? ⟨g, 2, none⟩ = some (.int .i64 x.slot) ∧ w.cell? ⟨g, 3, none⟩ = some (.int .i64 x.sendOff)) ∧
    (w.cell? ⟨g, 4, none⟩ = some (.int .i64 x.window) ∧ w.cell? ⟨g, 5, none⟩ = some (.int .i64 x.air) ∧ w.cell? ⟨g, 6, none⟩ = some (.int .i64 x.dmin) ∧ w.cell? ⟨g, 7, none⟩ = some (.int .i64 x.dmax)) ∧
    (w.cell? ⟨g, 8, none⟩ = some (.int .i64 x.rho) ∧ w.cell? ⟨g, 9, none⟩ = some (.int .i64 x.pi) ∧ w.cell? ⟨g, 10, none⟩ = some (.int .i64 x.cap) ∧ w.cell? ⟨g, 11, none⟩ = some (.int .i64 x.delta)) ∧
    (w.cell? ⟨g, 12, none⟩ = some (.int .i64 x.queue) ∧ w.cell? ⟨g, 13, none⟩ = some (.int .i64 x.burst) ∧ w.cell? ⟨g, 14, none⟩ = some (.int .i64 x.payload) ∧ w.cell? ⟨g, 15, none⟩ = some (.int .i64 x.horizon)) ∧
    ∀ i, w.frozen? ⟨g, i, none⟩ = false :=
  ⟨⟨h.cell 0, h.cell 1, h.cell 2, h.cell 3⟩, ⟨h.cell 4, h.cell 5, h.cell 6, h.cell 7⟩, ⟨h.cell 8, h.cell 9, h.cell 10, h.cell 11⟩, ⟨h.cell 12, h.cell 13, h.cell 14, h.cell 15⟩, h.frozen⟩

/-- Bounds, where the first three conditions hold. -/
structure TickL (x : Pl) : Prop where
  n1 : 4 ≤ x.nodes
  n2 : x.nodes ≤ 16
  k1 : 0 ≤ x.kk
  k2 : 2 * x.kk + 2 ≤ x.nodes
  a1 : 1 ≤ x.air
  a2 : x.air ≤ 1048576
  d1 : 0 ≤ x.dmin
  d2 : x.dmin ≤ x.dmax
  d3 : x.dmax ≤ 1048576
  s1 : 0 ≤ x.slot
  s2 : x.slot ≤ 1048576
  r1 : 4 ≤ x.rho
  r2 : x.rho ≤ 1048576
  m1 : 0 ≤ rdL x
  m2 : rdL x ≤ 16777216
  q1 : 0 ≤ 2 * rdL x / x.rho
  q2 : 2 * rdL x / x.rho ≤ 8388608
theorem tick_of {x : Pl} (h1 : holdL x 1) (h2 : holdL x 2) (s1 : 0 ≤ x.slot) (s2 : x.slot ≤ 1048576) (r1 : 4 ≤ x.rho) (r2 : x.rho ≤ 1048576) : TickL x := by
  obtain ⟨⟨a, b⟩, c, d⟩ := h1
  obtain ⟨⟨e, f⟩, g, i, j⟩ := h2
  have m1 : 0 ≤ rdL x := Int.mul_nonneg (by omega) (by omega)
  have m2 : rdL x ≤ 16 * 1048576 := Int.mul_le_mul (by omega) (by omega) (by omega) (by omega)
  have q1 : 0 ≤ 2 * rdL x / x.rho := Int.ediv_nonneg (by omega) (by omega)
  have q2 : 2 * rdL x / x.rho ≤ 8388608 := by
    have : 2 * rdL x ≤ 8388608 * 4 := by omega
    have h4 : (8388608 : Int) * 4 ≤ 8388608 * x.rho := Int.mul_le_mul_of_nonneg_left r1 (by omega)
    exact Int.ediv_le_of_le_mul (by omega) (by omega)
  exact ⟨a, b, c, d, e, f, g, i, j, s1, s2, r1, r2, m1, by omega, q1, q2⟩
theorem tick_three {x : Pl} (h1 : holdL x 1) (h2 : holdL x 2) (h3 : holdL x 3) : TickL x := tick_of h1 h2 (by have := h3.1.1; omega) h3.1.2 h3.2.1 h3.2.2

end Go.Proofs.Ytljcaigaofalbaa

namespace Go.Proofs.Ytljcaigaofalbaa
open Go.RowKit Go.Shelf

/-- A plan's cells: sixteen, each one a number. -/
structure CellsL (cs : Array Value) : Prop where
  size : cs.size = 16
  one : cs.all (·.oneCell') = true
theorem Pl.cellsL (x : Pl) : CellsL x.cells := ⟨rfl, by simp [Pl.cells, Value.oneCell']⟩
theorem info_plan : (Try.prog.info? 23).map (·.size) = some 16 := by kernel_rfl
theorem info_draft : (Try.prog.info? 122).map (·.size) = some 16 := by kernel_rfl
theorem CellsL.plan {cs : Array Value} (h : CellsL cs) : (Try.prog.info? 23).map (·.size) = some cs.size := by rw [h.size]; exact info_plan
theorem CellsL.draft {cs : Array Value} (h : CellsL cs) : (Try.prog.info? 122).map (·.size) = some cs.size := by rw [h.size]; exact info_draft

section
variable {P : Program} {ops : Array Oper} {rest : List Oper} {o : Oper} {a : Act} {w : World} {Q : Exit → Act → World → Prop}
/-- A whole row into the block that was made last. -/
theorem wpList_store_last (hgd : o.guard = none) (ty : TypeId) (x y : Operand) (ho : o.op = .store ty x y) (g : Nat) (cells : Array Value) (hx : a.eval x = .pointer (some ⟨g, 0, none⟩)) (hy : a.eval y = .agg cells)
    (t : TypeId) (old : Array Value) (hg : g = w.heap.size) (hi : (P.info? ty).map (·.size) = some cells.size) (hold : old.size = cells.size) (h1 : cells.all (·.oneCell') = true)
    (h : wpList P ops Q rest (a.put o.dst undef) (w.alloc (.cells cells t))) : wpList P ops Q (o :: rest) a (w.alloc (.cells old t)) := by
  subst hg
  refine wpList_store_row hgd ty x y ho w.heap.size cells hx hy t old (heap_alloc_last w _) hi hold h1 ?_
  rw [World.setRow_alloc_new]
  exact h
/-- A whole row read under a guard that is met. -/
theorem wpList_load_want (hw : Region.wanted o (yielded ops a.tmps) = true) (ty : TypeId) (x : Operand) (ho : o.op = .load ty x) (g : Nat) (hx : a.eval x = .pointer (some ⟨g, 0, none⟩)) (t : TypeId) (cs : Array Value) (fr : Nat × Nat) (d : TypeDesc)
    (hg : w.heap[g]? = some (.cells cs t fr)) (hu : P.underlying ty = some d) (hd : (match d with | .struct _ | .array _ _ => true | _ => false) = true) (hi : (P.info? ty).map (·.size) = some cs.size)
    (h : wpList P ops Q rest (a.put o.dst (.agg cs)) w) : wpList P ops Q (o :: rest) a w :=
  BigFrame.wpList_want hw fun _ hK => wp_load_row ty x ho g hx t cs fr d hg hu hd hi (hK _ _ h)
end

end Go.Proofs.Ytljcaigaofalbaa

namespace Go.Proofs.Ytljcaigaofalbaa
open Go.ChangeShapes Go.WideShapes Go.ChangeAt Go.RowKit Go.Deep Go.Joins

theorem cells_int : Try.prog.cellsOf 3 = 1 := by kernel_rfl
theorem cells_i64 : Try.prog.cellsOf 2 = 1 := by kernel_rfl
theorem cells_plan : Try.prog.cellsOf 23 = 16 := by kernel_rfl

set_option maxRecDepth 100000 in
set_option maxHeartbeats 4000000 in
theorem open_plan {H : Type} {enc : TypeId × Value → H} {W : World} {base : Nat} {v : Value} {d : DataW H} {p : List MemPlace} (hv : Value.okWide Try.prog W .any base 23 v) (h : DataW.Trod enc Try.prog W 0 (fun _ => true) true 23 v d p) :
    ∃ x : Pl, v = .agg x.cells := by
  obtain ⟨cs, rfl, hsz⟩ := okWide_struct Try.underlying23 hv
  obtain ⟨l⟩ := cs
  match l, hsz.trans cells_plan with
  | [c0, c1, c2, c3, c4, c5, c6, c7, c8, c9, c10, c11, c12, c13, c14, c15], _ =>
    obtain ⟨fuel, hf⟩ := h
    obtain ⟨xs, n, _, hx, _, hlen, hg⟩ := DataW.trod_struct Try.underlying23 hf
    clear hx hf hv hsz
    have hlen : xs.length = 16 := hlen
    obtain ⟨y0, hy0⟩ : ∃ y, xs[0]? = some y := ⟨xs[0], List.getElem?_eq_getElem (by omega)⟩
    have g0 := (hg 0 _ rfl).trans hy0
    obtain ⟨k0, e0, _, _⟩ := DataW.trod_int (x := y0) Try.underlying3 (by simpa [cells_int, cells_i64, Value.cells] using g0 : DataW.trod enc Try.prog W 0 (fun _ => true) true n 3 [c0] = some y0)
    clear g0
    obtain ⟨y1, hy1⟩ : ∃ y, xs[1]? = some y := ⟨xs[1], List.getElem?_eq_getElem (by omega)⟩
    have g1 := (hg 1 _ rfl).trans hy1
    obtain ⟨k1, e1, _, _⟩ := DataW.trod_int (x := y1) Try.underlying3 (by simpa [cells_int, cells_i64, Value.cells] using g1 : DataW.trod enc Try.prog W 0 (fun _ => true) true n 3 [c1] = some y1)
    clear g1
    obtain ⟨y2, hy2⟩ : ∃ y, xs[2]? = some y := ⟨xs[2], List.getElem?_eq_getElem (by omega)⟩
    have g2 := (hg 2 _ rfl).trans hy2
    obtain ⟨k2, e2, _, _⟩ := DataW.trod_int (x := y2) Try.underlying2 (by simpa [cells_int, cells_i64, Value.cells] using g2 : DataW.trod enc Try.prog W 0 (fun _ => true) true n 2 [c2] = some y2)
    clear g2
    obtain ⟨y3, hy3⟩ : ∃ y, xs[3]? = some y := ⟨xs[3], List.getElem?_eq_getElem (by omega)⟩
    have g3 := (hg 3 _ rfl).trans hy3
    obtain ⟨k3, e3, _, _⟩ := DataW.trod_int (x := y3) Try.underlying2 (by simpa [cells_int, cells_i64, Value.cells] using g3 : DataW.trod enc Try.prog W 0 (fun _ => true) true n 2 [c3] = some y3)
    clear g3
    obtain ⟨y4, hy4⟩ : ∃ y, xs[4]? = some y := ⟨xs[4], List.getElem?_eq_getElem (by omega)⟩
    have g4 := (hg 4 _ rfl).trans hy4
    obtain ⟨k4, e4, _, _⟩ := DataW.trod_int (x := y4) Try.underlying2 (by simpa [cells_int, cells_i64, Value.cells] using g4 : DataW.trod enc Try.prog W 0 (fun _ => true) true n 2 [c4] = some y4)
    clear g4
    obtain ⟨y5, hy5⟩ : ∃ y, xs[5]? = some y := ⟨xs[5], List.getElem?_eq_getElem (by omega)⟩
    have g5 := (hg 5 _ rfl).trans hy5
    obtain ⟨k5, e5, _, _⟩ := DataW.trod_int (x := y5) Try.underlying2 (by simpa [cells_int, cells_i64, Value.cells] using g5 : DataW.trod enc Try.prog W 0 (fun _ => true) true n 2 [c5] = some y5)
    clear g5
    obtain ⟨y6, hy6⟩ : ∃ y, xs[6]? = some y := ⟨xs[6], List.getElem?_eq_getElem (by omega)⟩
    have g6 := (hg 6 _ rfl).trans hy6
    obtain ⟨k6, e6, _, _⟩ := DataW.trod_int (x := y6) Try.underlying2 (by simpa [cells_int, cells_i64, Value.cells] using g6 : DataW.trod enc Try.prog W 0 (fun _ => true) true n 2 [c6] = some y6)
    clear g6
    obtain ⟨y7, hy7⟩ : ∃ y, xs[7]? = some y := ⟨xs[7], List.getElem?_eq_getElem (by omega)⟩
    have g7 := (hg 7 _ rfl).trans hy7
    obtain ⟨k7, e7, _, _⟩ := DataW.trod_int (x := y7) Try.underlying2 (by simpa [cells_int, cells_i64, Value.cells] using g7 : DataW.trod enc Try.prog W 0 (fun _ => true) true n 2 [c7] = some y7)
    clear g7
    obtain ⟨y8, hy8⟩ : ∃ y, xs[8]? = some y := ⟨xs[8], List.getElem?_eq_getElem (by omega)⟩
    have g8 := (hg 8 _ rfl).trans hy8
    obtain ⟨k8, e8, _, _⟩ := DataW.trod_int (x := y8) Try.underlying2 (by simpa [cells_int, cells_i64, Value.cells] using g8 : DataW.trod enc Try.prog W 0 (fun _ => true) true n 2 [c8] = some y8)
    clear g8
    obtain ⟨y9, hy9⟩ : ∃ y, xs[9]? = some y := ⟨xs[9], List.getElem?_eq_getElem (by omega)⟩
    have g9 := (hg 9 _ rfl).trans hy9
    obtain ⟨k9, e9, _, _⟩ := DataW.trod_int (x := y9) Try.underlying2 (by simpa [cells_int, cells_i64, Value.cells] using g9 : DataW.trod enc Try.prog W 0 (fun _ => true) true n 2 [c9] = some y9)
    clear g9
    obtain ⟨y10, hy10⟩ : ∃ y, xs[10]? = some y := ⟨xs[10], List.getElem?_eq_getElem (by omega)⟩
    have g10 := (hg 10 _ rfl).trans hy10
    obtain ⟨k10, e10, _, _⟩ := DataW.trod_int (x := y10) Try.underlying2 (by simpa [cells_int, cells_i64, Value.cells] using g10 : DataW.trod enc Try.prog W 0 (fun _ => true) true n 2 [c10] = some y10)
    clear g10
    obtain ⟨y11, hy11⟩ : ∃ y, xs[11]? = some y := ⟨xs[11], List.getElem?_eq_getElem (by omega)⟩
    have g11 := (hg 11 _ rfl).trans hy11
    obtain ⟨k11, e11, _, _⟩ := DataW.trod_int (x := y11) Try.underlying2 (by simpa [cells_int, cells_i64, Value.cells] using g11 : DataW.trod enc Try.prog W 0 (fun _ => true) true n 2 [c11] = some y11)
    clear g11
    obtain ⟨y12, hy12⟩ : ∃ y, xs[12]? = some y := ⟨xs[12], List.getElem?_eq_getElem (by omega)⟩
    have g12 := (hg 12 _ rfl).trans hy12
    obtain ⟨k12, e12, _, _⟩ := DataW.trod_int (x := y12) Try.underlying3 (by simpa [cells_int, cells_i64, Value.cells] using g12 : DataW.trod enc Try.prog W 0 (fun _ => true) true n 3 [c12] = some y12)
    clear g12
    obtain ⟨y13, hy13⟩ : ∃ y, xs[13]? = some y := ⟨xs[13], List.getElem?_eq_getElem (by omega)⟩
    have g13 := (hg 13 _ rfl).trans hy13
    obtain ⟨k13, e13, _, _⟩ := DataW.trod_int (x := y13) Try.underlying3 (by simpa [cells_int, cells_i64, Value.cells] using g13 : DataW.trod enc Try.prog W 0 (fun _ => true) true n 3 [c13] = some y13)
    clear g13
    obtain ⟨y14, hy14⟩ : ∃ y, xs[14]? = some y := ⟨xs[14], List.getElem?_eq_getElem (by omega)⟩
    have g14 := (hg 14 _ rfl).trans hy14
    obtain ⟨k14, e14, _, _⟩ := DataW.trod_int (x := y14) Try.underlying3 (by simpa [cells_int, cells_i64, Value.cells] using g14 : DataW.trod enc Try.prog W 0 (fun _ => true) true n 3 [c14] = some y14)
    clear g14
    obtain ⟨y15, hy15⟩ : ∃ y, xs[15]? = some y := ⟨xs[15], List.getElem?_eq_getElem (by omega)⟩
    have g15 := (hg 15 _ rfl).trans hy15
    obtain ⟨k15, e15, _, _⟩ := DataW.trod_int (x := y15) Try.underlying2 (by simpa [cells_int, cells_i64, Value.cells] using g15 : DataW.trod enc Try.prog W 0 (fun _ => true) true n 2 [c15] = some y15)
    clear g15
    simp only [List.cons.injEq, and_true] at e0 e1 e2 e3 e4 e5 e6 e7 e8 e9 e10 e11 e12 e13 e14 e15
    subst e0 e1 e2 e3 e4 e5 e6 e7 e8 e9 e10 e11 e12 e13 e14 e15
    exact ⟨⟨k0, k1, k2, k3, k4, k5, k6, k7, k8, k9, k10, k11, k12, k13, k14, k15⟩, rfl⟩

end Go.Proofs.Ytljcaigaofalbaa
