/- Next of a group, by a contract. -/
import Derived.Test.YtnefjkbnolbpbaaGList
namespace Go.Proofs.Ytnefjkbnolbpbaa
open Go.RowKit Go.Shelf
attribute [local go_sem] Oper.semAt_some

theorem folG_lt {m i : Nat} (h : i ∈ folG m) : i < 16 := by
  simp [folG] at h
  omega
theorem find_same {α : Type} {p q : α → Bool} {l : List α} (h : ∀ x ∈ l, p x = q x) : l.find? p = l.find? q := by
  induction l with
  | nil => rfl
  | cons a l ih => rw [List.find?_cons, List.find?_cons, h a (List.mem_cons_self ..), ih fun x hx => h x (List.mem_cons_of_mem _ hx)]
theorem wpIn_scope_any {n : Nat} {P : Program} {c : Code} {Q : Exit → Act → World → Prop} {a : Act} {w : World} (h : c.wpIn Fence.wide n P (Exit.noGoto Q) a w) : (Code.scope c).wpIn Fence.wide n P Q a w :=
  wpIn_wide.2 (wp_scope_straight (wpIn_wide.1 h))
/-- The first of the nodes that came that is in the group; -1, if none is. -/
def findI (g : Nat) (l : List Nat) : Int := match l.find? (fun i : Nat => hasG g (i : Int)) with | some i => (i : Int) | none => -1
theorem nextG_fol (g : Nat) (n : Int) : nextG g n = findI g (folI n) := by
  unfold nextG findI folI
  split
  · rename_i h
    rw [find_same fun i hi => (hasG_nat (g := g) (folG_lt hi)).symm]
    rfl
  · rfl
theorem findI_none {g : Nat} {l : List Nat} (h : ∀ i ∈ l, hasG g (i : Int) = false) : findI g l = -1 := by
  unfold findI
  rw [List.find?_eq_none.2 (fun i hi => by rw [h i hi]; decide)]
theorem findI_some {g : Nat} {l p : List Nat} {i : Nat} (hl : p ++ [i] <+: l) (h : ∀ j ∈ p, hasG g (j : Int) = false) (hi : hasG g (i : Int) = true) : findI g l = (i : Int) := by
  obtain ⟨r, rfl⟩ := hl
  unfold findI
  rw [List.append_assoc, List.find?_append, List.find?_eq_none.2 (fun j hj => by rw [h j hj]; decide), Option.none_or]
  simp [hi]

/-- What holds between two rounds: none of those that came is in the group. -/
def NextI (g : Nat) (w : World) (pre : List Nat) (W : World) : Prop :=
  (Boxed W (w.heap.size + 1) 3 (.int .i64 (-1)) ∧ Boxed W w.heap.size 23 (.int .u16 (g : Int)) ∧ Below w.heap.size w W) ∧ ∀ i ∈ pre, hasG g (i : Int) = false
/-- What holds where a round has left. -/
def NextX (g : Nat) (w : World) (pre : List Nat) (W : World) : Prop :=
  ∃ (p : List Nat) (i : Nat), pre = p ++ [i] ∧ (∀ j ∈ p, hasG g (j : Int) = false) ∧ hasG g (i : Int) = true ∧ Boxed W (w.heap.size + 1) 3 (.int .i64 (i : Int)) ∧ Below w.heap.size w W

theorem boxed_from {W W' : World} {row : Option Nat} {B b : Nat} {t : TypeId} {v : Value} (h : Boxed W b t v) (hg : W.grownBy W' row) (hr : ∀ r, row = some r → B ≤ r ∧ ∃ o : Obj, W.heap[r]? = some o ∧ o.isCells = false) : Boxed W' b t v :=
  h.kept hg (fun e => by obtain ⟨_, o, ho, hc⟩ := hr b e.symm; rw [show W.heap[b]? = _ from h] at ho; cases ho; cases hc)

theorem NextI.own (g : Nat) (w : World) {B : Nat} (hB : w.heap.size ≤ B) : OwnFrom B (NextI g w) := fun pre W W' row hs hg hr =>
  ⟨⟨boxed_from hs.1.1 hg hr, boxed_from hs.1.2.1 hg hr, (ownFrom_below (Nat.le_refl _) hB) pre W W' row hs.1.2.2 hg hr⟩, hs.2⟩
theorem NextX.own (g : Nat) (w : World) {B : Nat} (hB : w.heap.size ≤ B) : OwnFrom B (NextX g w) := fun pre W W' row hs hg hr => by
  obtain ⟨p, i, e, h1, h2, h3, h4⟩ := hs
  exact ⟨p, i, e, h1, h2, boxed_from h3 hg hr, (ownFrom_below (Nat.le_refl _) hB) pre W W' row h4 hg hr⟩

set_option maxRecDepth 100000 in
set_option maxHeartbeats 2000000 in
theorem next_any (g : Nat) (n : Int) (w : World) (hg : g < 65536) : Calls Try.prog 22 #[.int .u16 (g : Int), .int .i64 n] w fun e w' => e = .returned (.int .i64 (nextG g n)) ∧ Below w.heap.size w w' := by
  rw [nextG_fol]
  have HG := Lib.hid hg
  clear hg
  refine (callsIn_wide (n := 5)).1 ?_
  refine callsIn_of_wp_marks Try.func22 rfl trivial ?_ rfl
  simp only [Try.ntmps22, List.size_toArray, List.length_cons, List.length_nil, Nat.reduceAdd, Nat.reduceSub, Array.replicate_succ, Array.replicate_zero, List.push_toArray, List.append_toArray, List.nil_append, List.cons_append]
  gi_wp2_with (refine ⟨trivial, ?_⟩; gi_at_call 39; refine (following_in _ _ _).mono ?_; rintro e w' ⟨rfl, rfl⟩)
  refine wpIn_scope_any ?_
  gi_wp2
  refine wpIn_label ?_
  gi_wp2_with (refine ⟨trivial, ?_⟩; gi_at_call 39; refine (following_in _ _ _).mono ?_; rintro e w' ⟨rfl, rfl⟩)
  have bG := Boxed.new w 23 (.int .u16 (g : Int))
  have bM := Boxed.new (w.alloc (.cells #[.int .u16 (g : Int)] 23)) 3 (.int .i64 (-1))
  have bN := Boxed.new ((w.alloc (.cells #[.int .u16 (g : Int)] 23)).alloc (.cells #[.int .i64 (-1)] 3)) 3 (.int .i64 n)
  simp only [World.size_alloc] at bM bN
  have hB0 : Below w.heap.size w (((w.alloc (.cells #[.int .u16 (g : Int)] 23)).alloc (.cells #[.int .i64 (-1)] 3)).alloc (.cells #[.int .i64 n] 3)) := (((Below.refl _ w).alloc (Nat.le_refl _) _).alloc (by simp) _).alloc (by simp; omega) _
  refine wpIn_rangeFunc_ownG rfl (by omega) (gf := 45) (lb := #[.pointer (some ⟨w.heap.size + 1 + 1, 0, none⟩)]) rfl trivial (enters_of Try.func45 (by kernel_rfl) rfl)
    (fol_stops 4 (by omega) (w.heap.size + 1 + 1) n _ (by simp) bN.cell)
    (fun h k => k.trans h)
    (fun W l o o' hl ho hc _ => KpC.other (World.putObj_heap_other (by simp at hl; omega)))
    (Below.refl _ _) (fun _ => rfl)
    (NextI g w)
    (fun c pre W => c = .exit 0 ∧ NextX g w pre W)
    (NextI.own g w (by simp; omega))
    (fun c => OwnFrom.and (ownFrom_pure _ _) (NextX.own g w (by simp; omega)))
    ⟨⟨bM.alloc _, (bG.alloc _).alloc _, hB0⟩, fun i hi => absurd hi (by simp)⟩
    (fun i => { tmps := #[.int .u16 (g : Int), .int .i64 n, .pointer (some ⟨w.heap.size, 0, none⟩), undef, .int .i64 0, .pointer (some ⟨w.heap.size + 1, 0, none⟩), .int .i64 (i : Int), .int .i64 n, .func (.func 45) #[] #[.pointer (some ⟨w.heap.size + 1 + 1, 0, none⟩)], .int .i64 (i : Int), undef, undef, undef, undef, undef], defers := [] }) ?assign ?body ?done ?stop
  case assign =>
    intro l x W K hK
    gi_wp2
    exact hK
  case body =>
    rintro l pre i W ⟨⟨hbm, hbg, hB⟩, hno⟩ hlt
    have hcg := hbg.cell
    have hcm := hbm.cell
    have hfm := hbm.frozen
    clear hB0 bG bM bN
    have HNo := Lib.hid hno
    clear hno
    cases hh : hasG g (i : Int)
    · have HH := Lib.hid hh
      clear hh
      gi_wp2_with (refine ⟨trivial, ?_⟩; gi_at_call 14; refine (CallsIn.inRound l (has_in g i HG.out _ _)).mono ?_; rintro e w' ⟨rfl, rfl⟩; rw [HH.out])
      refine ⟨KeepsFrom.refl _ _, rfl, ⟨hbm, hbg, hB⟩, fun j hj => ?_⟩
      rcases List.mem_append.1 hj with hj | hj
      · exact HNo.out j hj
      · rw [List.mem_singleton.1 hj]; exact HH.out
    · have HH := Lib.hid hh
      clear hh
      gi_wp2_with (refine ⟨trivial, ?_⟩; gi_at_call 14; refine (CallsIn.inRound l (has_in g i HG.out _ _)).mono ?_; rintro e w' ⟨rfl, rfl⟩; rw [HH.out])
      exact ⟨(KeepsOthers.setCell _ _ _).from _, rfl, pre, i, rfl, HNo.out, HH.out, hbm.set _, hB.setCell (p := ⟨w.heap.size + 1, 0, none⟩) (by simp) _⟩
  case done =>
    rintro D ys W hD rfl ⟨⟨hbm, hbg, hB⟩, hno⟩ hK
    have hc := hbm.cell
    have hf := findI_none hno
    have HF := Lib.hid hf
    clear hf hno
    gi_wp2
    rw [Exit.noGoto_ret]
    refine ⟨by simp, .inl ⟨_, _, rfl, run_takeDeferred hK, ?_⟩⟩
    exact ⟨_, results_tmp rfl _ _ _, by rw [HF.out]; rfl, hB.trans (belowK_b (w := w) (Nat.le_refl _) W D _ _ (by simp at hD; omega) hK rfl rfl)⟩
  case stop =>
    rintro D c pre W hD hpre ⟨rfl, p, i, rfl, hp, hi, hbm, hB⟩ hK
    have hc := hbm.cell
    have hf := findI_some hpre hp hi
    have HF := Lib.hid hf
    clear hf hp hi hpre
    gi_wp2
    rw [Exit.noGoto_ret]
    refine ⟨by simp, .inl ⟨_, _, rfl, run_takeDeferred hK, ?_⟩⟩
    exact ⟨_, results_tmp rfl _ _ _, by rw [HF.out]; rfl, hB.trans (belowK_b (w := w) (Nat.le_refl _) W D _ _ (by simp at hD; omega) hK rfl rfl)⟩

end Go.Proofs.Ytnefjkbnolbpbaa
