/- A capture in memory; Of, Note, Forget and Copy by contracts. No condition. -/
import Derived.Test.YtjgbgakdnapdhaaEFun
import Derived.Test.YtjgbgakdnapdhaaLater
import Derived.Deep.RegionHeld3
import Derived.Deep.Cut
import Derived.StillTailTactics
namespace Go.Proofs.Ytjgbgakdnapdhaa
open Go.RowKit Go.Shelf

theorem capC_get (f : Ca) {i : Nat} (hi : i < 64) : (capC f)[i]? = (prC (f (i / 4) 0) (f (i / 4) 1))[i % 4]? := by
  have := capL_get f (i / 4) (i % 4) (by omega) (Nat.mod_lt _ (by decide))
  rw [Nat.div_add_mod' i 4] at this
  rw [capC, List.getElem?_toArray]
  exact this
theorem capC_out (f : Ca) {i : Nat} (hi : 64 ≤ i) : (capC f)[i]? = none := by
  rw [Array.getElem?_eq_none_iff, capC_size]
  exact hi
/-- Four cells of a node are laid. -/
theorem capC_set (f : Ca) {n : Nat} (hn : n < 16) (a b : Option Int) :
    ((((capC f).setIfInBounds (n * 4) (.int .i64 (a.getD 0))).setIfInBounds (n * 4 + 1) (.bool a.isSome)).setIfInBounds (n * 4 + 2) (.int .i64 (b.getD 0))).setIfInBounds (n * 4 + 3) (.bool b.isSome) = capC (setN f n a b) := by
  apply Array.ext_getElem?
  intro i
  rcases Nat.lt_or_ge i 64 with hi | hi
  · rw [capC_get _ hi]
    simp only [Array.getElem?_setIfInBounds, Array.size_setIfInBounds, capC_size]
    by_cases hq : i / 4 = n
    · have hm : i % 4 = 0 ∨ i % 4 = 1 ∨ i % 4 = 2 ∨ i % 4 = 3 := by omega
      rw [hq, (set_at f n a b).1, (set_at f n a b).2]
      rcases hm with h | h | h | h
      · obtain rfl : i = n * 4 := by omega
        rw [h, if_neg (by omega), if_neg (by omega), if_neg (by omega), if_pos rfl, if_pos (by omega)]
        rfl
      · obtain rfl : i = n * 4 + 1 := by omega
        rw [h, if_neg (by omega), if_neg (by omega), if_pos rfl, if_pos (by omega)]
        rfl
      · obtain rfl : i = n * 4 + 2 := by omega
        rw [h, if_neg (by omega), if_pos rfl, if_pos (by omega)]
        rfl
      · obtain rfl : i = n * 4 + 3 := by omega
        rw [h, if_pos rfl, if_pos (by omega)]
        rfl
    · rw [if_neg (by omega), if_neg (by omega), if_neg (by omega), if_neg (by omega), set_far f a b hq, set_far f a b hq]
      exact capC_get f hi
  · rw [capC_out _ hi]
    simp only [Array.getElem?_setIfInBounds, Array.size_setIfInBounds, capC_size]
    rw [if_neg (by omega), if_neg (by omega), if_neg (by omega), if_neg (by omega)]
    exact capC_out f hi
/-- One that stands in its place changes nothing. -/
theorem set_self {cs : Array Value} {i : Nat} {v : Value} (h : cs[i]? = some v) : cs.setIfInBounds i v = cs := by
  apply Array.ext_getElem?
  intro j
  rw [Array.getElem?_setIfInBounds]
  split
  · rename_i e
    subst e
    split
    · exact h.symm
    · rename_i hl
      rw [Array.getElem?_eq_none_iff.2 (by omega)] at h
      cases h
  · rfl
theorem capC_cells (f : Ca) {n : Nat} (hn : n < 16) : (capC f)[n * 4]? = some (.int .i64 ((f n 0).getD 0)) ∧ (capC f)[n * 4 + 1]? = some (.bool (f n 0).isSome) ∧ (capC f)[n * 4 + 2]? = some (.int .i64 ((f n 1).getD 0)) ∧ (capC f)[n * 4 + 3]? = some (.bool (f n 1).isSome) := by
  refine ⟨?_, ?_, ?_, ?_⟩
  · rw [capC_get f (by omega), show n * 4 / 4 = n by omega, show n * 4 % 4 = 0 by omega]; rfl
  · rw [capC_get f (by omega), show (n * 4 + 1) / 4 = n by omega, show (n * 4 + 1) % 4 = 1 by omega]; rfl
  · rw [capC_get f (by omega), show (n * 4 + 2) / 4 = n by omega, show (n * 4 + 2) % 4 = 2 by omega]; rfl
  · rw [capC_get f (by omega), show (n * 4 + 3) / 4 = n by omega, show (n * 4 + 3) % 4 = 3 by omega]; rfl
/-- One deviation is laid. -/
theorem capC_put (f : Ca) {n c : Nat} (hn : n < 16) (hc : c < 2) (v : Int) :
    ((capC f).setIfInBounds (n * 4 + c * 2) (.int .i64 v)).setIfInBounds (n * 4 + c * 2 + 1) (.bool true) = capC (putC f n c v) := by
  obtain ⟨k0, k1, k2, k3⟩ := capC_cells f hn
  rcases (show c = 0 ∨ c = 1 by omega) with rfl | rfl
  · rw [capC_congr (put_set0 f n v), ← capC_set f hn (some v) (f n 1)]
    simp only [Nat.zero_mul, Nat.add_zero, Option.getD_some, Option.isSome_some]
    rw [set_self (i := n * 4 + 2) (v := .int .i64 ((f n 1).getD 0)), set_self (i := n * 4 + 3)]
    · simp only [Array.getElem?_setIfInBounds]
      rw [if_neg (by omega), if_neg (by omega)]
      exact k3
    · simp only [Array.getElem?_setIfInBounds]
      rw [if_neg (by omega), if_neg (by omega)]
      exact k2
  · rw [capC_congr (put_set1 f n v), ← capC_set f hn (f n 0) (some v)]
    rw [set_self k0, set_self k1]
    rfl

/-- A capture lies in block a. -/
structure CapAt (w : World) (a : Nat) (f : Ca) : Prop where
  whole : Whole w a 31 (capC f)
  ok : OkC f
section
variable {w w' : World} {a : Nat} {f g : Ca}
theorem CapAt.later (h : CapAt w a f) (hb : Below w.heap.size w w') : CapAt w' a f := ⟨k_later hb h.whole, h.ok⟩
theorem CapAt.kept {S : Nat → Prop} (h : CapAt w a f) (hk : Kept S w w') (hs : ¬ S a) : CapAt w' a f := ⟨h.whole.kept hk hs, h.ok⟩
theorem CapAt.lt (h : CapAt w a f) : a < w.heap.size := h.whole.lt
theorem CapAt.oko (h : CapAt w a f) (n c : Nat) : OkO (f n c) := fun v hv => h.ok n c v hv
theorem CapAt.cells (h : CapAt w a f) {n : Nat} (hn : n < 16) : w.cell? ⟨a, n * 4, none⟩ = some (.int .i64 ((f n 0).getD 0)) ∧ w.cell? ⟨a, n * 4 + 1, none⟩ = some (.bool (f n 0).isSome) ∧ w.cell? ⟨a, n * 4 + 2, none⟩ = some (.int .i64 ((f n 1).getD 0)) ∧ w.cell? ⟨a, n * 4 + 3, none⟩ = some (.bool (f n 1).isSome) := by
  obtain ⟨k0, k1, k2, k3⟩ := capC_cells f hn
  exact ⟨by rw [h.whole.cell]; exact k0, by rw [h.whole.cell]; exact k1, by rw [h.whole.cell]; exact k2, by rw [h.whole.cell]; exact k3⟩
theorem CapAt.same (h : CapAt w a f) (e : EqC f g) (hg : OkC g) : CapAt w a g := ⟨by rw [← capC_congr e]; exact h.whole, hg⟩
end
theorem nodeB_iff {n : Int} : nodeB n = true ↔ ∃ k : Nat, k < 16 ∧ n = (k : Int) := by
  unfold nodeB
  simp only [Bool.and_eq_true, decide_eq_true_eq]
  constructor
  · rintro ⟨h1, h2⟩
    exact ⟨n.toNat, by omega, by omega⟩
  · rintro ⟨k, h1, rfl⟩
    omega
theorem chanB_iff {n : Int} : chanB n = true ↔ ∃ k : Nat, k < 2 ∧ n = (k : Int) := by
  unfold chanB
  simp only [Bool.and_eq_true, decide_eq_true_eq]
  constructor
  · rintro ⟨h1, h2⟩
    exact ⟨n.toNat, by omega, by omega⟩
  · rintro ⟨k, h1, rfl⟩
    omega
theorem byB_iff {n : Int} : byB n = true ↔ -4294967296 ≤ n ∧ n ≤ 4294967296 := by
  unfold byB
  simp only [Bool.and_eq_true, decide_eq_true_eq]
theorem OkC.put {f : Ca} (h : OkC f) (n c : Nat) {v : Int} (hv : -4294967296 ≤ v ∧ v ≤ 4294967296) : OkC (putC f n c v) := by
  intro i j x hx
  unfold putC at hx
  split at hx
  · cases hx; exact hv
  · exact h i j x hx
theorem OkC.set {f : Ca} (h : OkC f) (n : Nat) {a b : Option Int} (ha : OkO a) (hb : OkO b) : OkC (setN f n a b) := by
  intro i j x hx
  unfold setN at hx
  split at hx
  · split at hx
    · exact ha x hx
    · split at hx
      · exact hb x hx
      · exact h i j x hx
  · exact h i j x hx
theorem oko_none : OkO none := fun _ h => by cases h
theorem okc_no : OkC noCa := fun _ _ _ h => by cases h
theorem devF_ok {f : Ca} (h : OkC f) {n : Nat} {v : Int} (e : devF f n = some v) : -4294967296 ≤ v ∧ v ≤ 4294967296 := by
  unfold devF at e
  cases h0 : f n 0 with
  | none =>
    cases h1 : f n 1 with
    | none => rw [h0, h1] at e; cases e
    | some y => rw [h0, h1] at e; cases e; exact h n 1 _ h1
  | some x =>
    have := h n 0 _ h0
    cases h1 : f n 1 with
    | none => rw [h0, h1] at e; cases e; exact this
    | some y =>
      rw [h0, h1] at e
      have h3 := h n 1 _ h1
      simp only [devP, Option.some.injEq] at e
      omega

/-- What Of answers, as a value. -/
def ofV (o : Option Int) : Value := .tuple #[.int .i64 (o.getD 0), .bool o.isSome]

set_option maxRecDepth 100000 in
set_option maxHeartbeats 4000000 in
theorem of_any {w : World} {a : Nat} {f : Ca} (h : CapAt w a f) (n : Int) : Calls Try.prog 10 #[.pointer (some ⟨a, 0, none⟩), .int .i64 n] w fun e w' => e = .returned (ofV (ofC f n)) ∧ Below w.heap.size w w' := by
  have HN := Lib.hid (fun W => isNode_any n W)
  unfold ofC ofV
  cases hn : nodeB n
  · rw [hn] at HN
    have HD := Lib.hid hn
    clear h hn
    go_enter Try.func10, Try.ntmps10
    go_wp2_with (go_at_call 28; refine (HN.out _).mono ?_; rintro e w1 ⟨rfl, hw1⟩; obtain rfl := hw1)
    go_ret2
    exact ⟨rfl, Below.refl _ _⟩
  · rw [hn] at HN
    obtain ⟨k, hk, rfl⟩ := nodeB_iff.1 hn
    rw [if_pos rfl, Int.toNat_natCast]
    have HH := Lib.hid (fun W => (show Calls Try.prog 30 #[.agg #[.int .i64 ((f k 0).getD 0), .bool (f k 0).isSome, .int .i64 ((f k 1).getD 0), .bool (f k 1).isSome]] W _ from has_any (f k 0) (f k 1) W))
    have HM := Lib.hid (fun W => (show Calls Try.prog 29 #[.agg #[.int .i64 ((f k 0).getD 0), .bool (f k 0).isSome, .int .i64 ((f k 1).getD 0), .bool (f k 1).isSome]] W _ from middle_any (f k 0) (f k 1) (h.oko _ _) (h.oko _ _) W))
    have hd : devP (f k 0) (f k 1) = devF f k := rfl
    rw [hd] at HH HM
    obtain ⟨y0, y1, y2, y3⟩ : (∀ y : Later w, y.at_.cell? ⟨a, k * 4, none⟩ = some (.int .i64 ((f k 0).getD 0))) ∧ (∀ y : Later w, y.at_.cell? ⟨a, k * 4 + 1, none⟩ = some (.bool (f k 0).isSome)) ∧ (∀ y : Later w, y.at_.cell? ⟨a, k * 4 + 2, none⟩ = some (.int .i64 ((f k 1).getD 0))) ∧ (∀ y : Later w, y.at_.cell? ⟨a, k * 4 + 3, none⟩ = some (.bool (f k 1).isSome)) :=
      ⟨fun y => y.cell (h.cells hk).1, fun y => y.cell (h.cells hk).2.1, fun y => y.cell (h.cells hk).2.2.1, fun y => y.cell (h.cells hk).2.2.2⟩
    have e1 : (0 : Int) ≤ (k : Int) := by omega
    have e2 : (k : Int) < 16 := by omega
    clear hn hd h
    generalize (f k 0).getD 0 = x at *
    generalize (f k 0).isSome = p at *
    generalize (f k 1).getD 0 = z at *
    generalize (f k 1).isSome = q at *
    generalize (devF f k).getD 0 = r at *
    generalize (devF f k).isSome = s at *
    go_enter Try.func10, Try.ntmps10
    go_upto_region 3 with (go_at_call 28; refine (HN.out _).mono ?_; rintro e w1 ⟨rfl, hw1⟩; obtain rfl := hw1.symm)
    refine wp_region_later (by kernel_rfl) (by kernel_rfl) ?_
    repeat (go_big_quiet_step ((first
      | (go_at_call 29; exact later_of _ HM.out)
      | (go_at_call 30; exact later_of _ HH.out))))
    refine wpQuiet_nil ?_
    intro _ hw'
    obtain ⟨y, hw''⟩ := hw'
    subst hw''
    have HY := Lib.hid y.below
    go_wp2
    go_ret2
    exact ⟨rfl, HY.out⟩
set_option maxHeartbeats 1000000 in
theorem ofNil_any (n : Int) (w : World) : Calls Try.prog 10 #[.pointer none, .int .i64 n] w fun e w' => e = .returned (ofV none) ∧ w' = w := by
  unfold ofV
  go_enter Try.func10, Try.ntmps10
  go_wp2
  go_ret2
  exact ⟨rfl, rfl⟩
end Go.Proofs.Ytjgbgakdnapdhaa
