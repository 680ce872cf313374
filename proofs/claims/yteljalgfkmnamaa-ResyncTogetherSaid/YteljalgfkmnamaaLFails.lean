/- The first of a draft's conditions that does not hold: by a contract. -/
import Derived.Test.YteljalgfkmnamaaLMeth
namespace Go.Proofs.Yteljalgfkmnamaa
open Go.RowKit Go.Shelf
attribute [local go_sem] Oper.semAt_some

theorem wpIn_scope_any {n : Nat} {P : Program} {c : Code} {Q : Exit → Act → World → Prop} {a : Act} {w : World} (h : c.wpIn Fence.wide n P (Exit.noGoto Q) a w) : (Code.scope c).wpIn Fence.wide n P Q a w :=
  wpIn_wide.2 (wp_scope_straight (wpIn_wide.1 h))

/-- Between two rounds: k conditions hold. -/
def HeldL (x : Pl) (last B k : Nat) (W : World) : Prop := Boxed W B 68 (.int .i64 0) ∧ ∀ j, 1 ≤ j → j ≤ k → holdL x j ∧ j ≤ last
/-- Round k has left. -/
def LeftL (x : Pl) (last B k : Nat) (W : World) : Prop :=
  (∀ j, 1 ≤ j → j < k → holdL x j ∧ j ≤ last) ∧ ((last < k ∧ Boxed W B 68 (.int .i64 0)) ∨ (k ≤ last ∧ ¬ holdL x k ∧ Boxed W B 68 (.int .i64 (k : Int))))

theorem below_last {S : Nat → Prop} {a b c : World} (h : Below a.heap.size a b) (k : Kept S b c) (hS : ∀ i, S i → a.heap.size ≤ i) {D : Nat} (hD : a.heap.size ≤ D) {ds : List Deferred} (hc : c.heap[D]? = some (.deferred (some ds))) :
    Below a.heap.size a (c.putObj D (.deferred none)) := by
  have hz := h.size
  have h2 : Below a.heap.size a c := h.trans ⟨k.os, k.tape, k.output, k.size, fun i hi => k.block i (by omega) (fun hs => by have := hS i hs; omega)⟩
  exact h2.trans (belowK_b (w := a) (Nat.le_refl _) c D _ _ hD hc rfl rfl)

set_option maxRecDepth 100000 in
set_option maxHeartbeats 4000000 in
theorem failsIn_any {x : Pl} {g : Nat} {t : TypeId} (last : Nat) (hl : last ≤ 11) (w : World) (hW : Whole w g t x.cells) :
    Calls Try.prog 36 #[.pointer (some ⟨g, 0, none⟩), .int .i64 (last : Int)] w fun e w' => e = .returned (.int .i64 (failsL x last : Int)) ∧ Below w.heap.size w w' := by
  have HF := Lib.hid (fun r (h : FirstL x last r) => failsL_of h hl)
  have hg := hW.lt
  refine (callsIn_wide (n := 5)).1 ?_
  refine callsIn_of_wp_marks Try.func36 rfl trivial ?_ rfl
  simp only [Try.ntmps36, List.size_toArray, List.length_cons, List.length_nil, Nat.reduceAdd, Nat.reduceSub, Array.replicate_succ, Array.replicate_zero, List.push_toArray, List.append_toArray, List.nil_append, List.cons_append]
  gi_wp2
  refine wpIn_scope_any ?_
  gi_wp2
  refine wpIn_label ?_
  gi_wp2_with (refine ⟨trivial, ?_⟩; gi_at_call 39; refine (conditions_in _ _ _).mono ?_; rintro e w' ⟨rfl, rfl⟩)
  have bL := Boxed.new w 68 (.int .i64 (last : Int))
  have bF := Boxed.new (w.alloc (.cells #[.int .i64 (last : Int)] 68)) 68 (.int .i64 0)
  have bD := Boxed.new ((w.alloc (.cells #[.int .i64 (last : Int)] 68)).alloc (.cells #[.int .i64 0] 68)) 74 (.pointer (some ⟨g, 0, none⟩))
  simp only [World.size_alloc] at bF bD
  have hB0 : Below w.heap.size w (((w.alloc (.cells #[.int .i64 (last : Int)] 68)).alloc (.cells #[.int .i64 0] 68)).alloc (.cells #[.pointer (some ⟨g, 0, none⟩)] 74)) := (((Below.refl _ w).alloc (Nat.le_refl _) _).alloc (by simp) _).alloc (by simp; omega) _
  have hz : (((w.alloc (.cells #[.int .i64 (last : Int)] 68)).alloc (.cells #[.int .i64 0] 68)).alloc (.cells #[.pointer (some ⟨g, 0, none⟩)] 74)).heap.size = w.heap.size + 1 + 1 + 1 := by simp
  have bL2 := (bL.alloc (.cells #[.int .i64 0] 68)).alloc (.cells #[.pointer (some ⟨g, 0, none⟩)] 74)
  have bF2 := bF.alloc (.cells #[.pointer (some ⟨g, 0, none⟩)] 74)
  have hW2 : Whole (((w.alloc (.cells #[.int .i64 (last : Int)] 68)).alloc (.cells #[.int .i64 0] 68)).alloc (.cells #[.pointer (some ⟨g, 0, none⟩)] 74)) g t x.cells := hW.below hB0 hg
  clear bL bF
  generalize hw3 : (((w.alloc (.cells #[.int .i64 (last : Int)] 68)).alloc (.cells #[.int .i64 0] 68)).alloc (.cells #[.pointer (some ⟨g, 0, none⟩)] 74)) = w3 at *
  clear hw3
  have HB0 := Lib.hid hB0
  refine wpIn_rounds (S := fun i => i = w.heap.size + 1) (fun i h => by omega) (by omega) (gf := 50) (lb := #[.pointer (some ⟨w.heap.size + 1 + 1, 0, none⟩)]) rfl
    (enters_of Try.func50 (by kernel_rfl) rfl) (encs := encL g) (M := 11) (fun _ => rfl)
    (rounds_any 4 (by omega) (w.heap.size + 1 + 1) g w3 (by omega) bD.cell)
    (HeldL x last (w.heap.size + 1)) (fun c k W => c = .exit 0 ∧ LeftL x last (w.heap.size + 1) k W)
    (fun k A B h i => ⟨(h _ rfl).trans i.1, i.2⟩)
    (fun c k A B h i => ⟨i.1, i.2.1, i.2.2.imp (fun j => ⟨j.1, (h _ rfl).trans j.2⟩) (fun j => ⟨j.1, j.2.1, (h _ rfl).trans j.2.2⟩)⟩)
    ⟨bF2, fun j a b => by omega⟩
    (fun k => { tmps := #[.pointer (some ⟨g, 0, none⟩), .int .i64 (last : Int), undef, .pointer (some ⟨w.heap.size, 0, none⟩), .int .i64 0, .pointer (some ⟨w.heap.size + 1, 0, none⟩), .int .i64 (k : Int), boundL g k, .pointer (some ⟨g, 0, none⟩),
      .func (.func 50) #[] #[.pointer (some ⟨w.heap.size + 1 + 1, 0, none⟩)], .int .i64 (k : Int), boundL g k, undef, undef, undef, undef, undef, undef, undef, undef, undef, undef], defers := [] }) ?assign ?body ?done ?stop
  case assign =>
    intro l k W K hK
    unfold encL boundL at *
    generalize methL k = f at *
    gi_wp2
    exact hK
  case body =>
    rintro l k W hkM hK ⟨hbF, hHeld⟩
    have hbL : Boxed W w.heap.size 68 (.int .i64 (last : Int)) := (hK.block _ (by omega) (by omega)).trans bL2
    have hWW : Whole W g t x.cells := (hK.block _ (by omega) (by omega)).trans hW2
    have hcL := hbL.cell
    have hcF := hbF.cell
    have hfF := hbF.frozen
    clear bL2 bF2 hW2 bD hB0 hW hK hbL
    have HH := Lib.hid hHeld
    have HBF := Lib.hid hbF
    clear hHeld hbF
    by_cases hlk : last < k + 1
    · have hlk2 : (last : Int) < (k : Int) + 1 := by omega
      have HL := Lib.hid hlk
      clear hlk
      unfold boundL
      gi_wp2
      exact ⟨Kept.refl _ _, rfl, fun j a b => HH.out j a (by omega), .inl ⟨HL.out, HBF.out⟩⟩
    · have hlk2 : (k : Int) + 1 ≤ (last : Int) := by omega
      have hm := meth_any (k + 1) (by omega) (by omega) (fun j a b => (HH.out j a (by omega)).1) hWW
      have en := enters_meth (k + 1)
      have HL := Lib.hid hlk
      clear hlk hWW
      unfold boundL
      generalize methL (k + 1) = f at *
      cases hb : holdB x (k + 1)
      · have hnot : ¬ holdL x (k + 1) := of_decide_eq_false hb
        rw [hb] at hm
        have HM := Lib.hid hm
        have HN := Lib.hid hnot
        clear hb hm hnot
        gi_wp2
        refine ⟨trivial, (CallsIn.inRound l (callsIn_wide.2 HM.out)).mono ?_⟩
        rintro e w' ⟨rfl, n, rfl⟩
        gi_wp2
        have hbx : Boxed (W.drewN n) (w.heap.size + 1) 68 (.int .i64 0) := HBF.out
        exact ⟨Kept.setCell (S := fun i => i = w.heap.size + 1) (p := ⟨w.heap.size + 1, 0, none⟩) ((Kept.refl _ W).drewN n) (.inl rfl) _, rfl, fun j a b => HH.out j a (by omega), .inr ⟨by omega, HN.out, hbx.set _⟩⟩
      · have hyes : holdL x (k + 1) := of_decide_eq_true hb
        rw [hb] at hm
        have HM := Lib.hid hm
        have HY := Lib.hid hyes
        clear hb hm hyes
        gi_wp2
        refine ⟨trivial, (CallsIn.inRound l (callsIn_wide.2 HM.out)).mono ?_⟩
        rintro e w' ⟨rfl, n, rfl⟩
        gi_wp2
        refine ⟨(Kept.refl _ W).drewN n, HBF.out, fun j a b => ?_⟩
        by_cases hj : j = k + 1
        · subst hj; exact ⟨HY.out, by omega⟩
        · exact HH.out j a (by omega)
  case done =>
    rintro D W hD hK ⟨hbF, hHeld⟩ hDD
    have hc := hbF.cell
    have HH := Lib.hid (HF.out 0 (.inl ⟨rfl, fun j a b => (hHeld j a (by omega)).1⟩))
    have HB := Lib.hid (below_last hB0 hK (fun i h => by omega) (by omega) hDD)
    clear hHeld hbF bL2 bF2 hW2 bD hB0 hW hK
    gi_wp2
    rw [Exit.noGoto_ret]
    refine ⟨by simp, .inl ⟨_, _, rfl, run_takeDeferred hDD, ?_⟩⟩
    exact ⟨_, results_tmp rfl _ _ _, by rw [HH.out]; rfl, HB.out⟩
  case stop =>
    rintro D c k W hD h1 h2 hK ⟨rfl, hHeld, hleft⟩ hDD
    have HB := Lib.hid (below_last hB0 hK (fun i h => by omega) (by omega) hDD)
    clear bL2 bF2 hW2 bD hB0 hW hK
    rcases hleft with ⟨h3, hbF⟩ | ⟨h3, h4, hbF⟩
    · have HH := Lib.hid (HF.out 0 (.inl ⟨rfl, fun j a b => (hHeld j a (by omega)).1⟩))
      have hc := hbF.cell
      clear hHeld hbF h3
      gi_wp2
      rw [Exit.noGoto_ret]
      refine ⟨by simp, .inl ⟨_, _, rfl, run_takeDeferred hDD, ?_⟩⟩
      exact ⟨_, results_tmp rfl _ _ _, by rw [HH.out]; rfl, HB.out⟩
    · have HH := Lib.hid (HF.out k (.inr ⟨h1, h3, h4, fun j a b => (hHeld j a b).1⟩))
      have hc := hbF.cell
      clear hHeld hbF h3 h4
      gi_wp2
      rw [Exit.noGoto_ret]
      refine ⟨by simp, .inl ⟨_, _, rfl, run_takeDeferred hDD, ?_⟩⟩
      exact ⟨_, results_tmp rfl _ _ _, by rw [HH.out]; rfl, HB.out⟩

end Go.Proofs.Yteljalgfkmnamaa
