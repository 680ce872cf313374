/- List and Next of a group, each by a contract. -/
import Derived.Test.YtnpjldolppikfaaGFol
namespace Go.Proofs.Ytnpjldolppikfaa
open Go.RowKit Go.Shelf
attribute [local go_sem] Oper.semAt_some

/-- Numbers as values. -/
def iv (l : List Int) : List Value := l.map (Value.int .i64)
theorem iv_length (l : List Int) : (iv l).length = l.length := by simp [iv]
theorem iv_append (l m : List Int) : iv (l ++ m) = iv l ++ iv m := by simp [iv]
/-- A slice in new memory that reads as the numbers l. -/
def FreshI (w : World) (l : List Int) (e : Ending) (w' : World) : Prop :=
  ∃ v, e = .returned v ∧ w'.ownsRow w.heap.size 3 1 v l.length (iv l) ∧ Below w.heap.size w w'

/-- The slice with address A reads as the numbers l. -/
def ISrc (w : World) (A : Option Addr) (l : List Int) : Prop := 0 < l.length → ∃ b o, A = some ⟨b, o, none⟩ ∧ ∀ i (h : i < l.length), w.cell? ⟨b, o + i, none⟩ = some (.int .i64 l[i])
theorem ISrc.keep {w w' : World} {A : Option Addr} {l : List Int} (h : ISrc w A l) (hk : ∀ b o i v, A = some ⟨b, o, none⟩ → w.cell? ⟨b, i, none⟩ = some v → w'.cell? ⟨b, i, none⟩ = some v) : ISrc w' A l := fun h0 => by
  obtain ⟨b, o, hA, hc⟩ := h h0
  exact ⟨b, o, hA, fun i hi => hk b o _ _ hA (hc i hi)⟩
theorem ISrc.below {w w' : World} {A : Option Addr} {l : List Int} (h : ISrc w A l) (hk : Below w.heap.size w w') : ISrc w' A l :=
  h.keep fun b _ i _ _ hc => (hk.cell (p := ⟨b, i, none⟩) (World.block_lt_of_cell? w _ hc)).trans hc
theorem ISrc.drewN {w : World} {A : Option Addr} {l : List Int} (h : ISrc w A l) (n : Nat) : ISrc (w.drewN n) A l := h
theorem ISrc.nil (w : World) (A : Option Addr) : ISrc w A [] := fun h => absurd h (by simp)
/-- What List hands back, opened. -/
theorem FreshI.opened {w w' : World} {l : List Int} {e : Ending} (h : FreshI w l e w') : ∃ A c, e = .returned (.slice A l.length c) ∧ ISrc w' A l ∧ (∀ ad, A = some ad → w.heap.size ≤ ad.block ∧ ad.block < w'.heap.size) ∧ Below w.heap.size w w' := by
  obtain ⟨v, rfl, hown, hb⟩ := h
  rcases hown.2 with ⟨rfl, h0⟩ | ⟨g, cap, cur, rfl, hg, hblk, _⟩
  · refine ⟨none, 0, by rw [h0], ?_, (fun _ h => by cases h), hb⟩
    rw [List.eq_nil_of_length_eq_zero h0]
    exact ISrc.nil _ _
  · refine ⟨_, cap, rfl, fun h0 => ⟨g, 0, rfl, fun i hi => ?_⟩, (fun ad e => by cases e; exact ⟨hg, (Array.getElem?_eq_some_iff.1 hblk).1⟩), hb⟩
    have := hown.cells (g := g) rfl i (.int .i64 l[i]) (by simp [iv, List.getElem?_eq_getElem hi])
    have hadd : (⟨g, 0, none⟩ : Addr).add i = ⟨g, 0 + i, none⟩ := by unfold Addr.add; split <;> simp_all
    rwa [hadd] at this

/-- Those of the nodes that came that are in the group. -/
def gotG (g : Nat) (pre : List Nat) : List Int := (pre.filter fun i : Nat => hasG g (i : Int)).map fun i : Nat => (i : Int)
theorem gotG_hit {g i : Nat} (pre : List Nat) (h : hasG g (i : Int) = true) : gotG g (pre ++ [i]) = gotG g pre ++ [(i : Int)] := by simp [gotG, h]
theorem gotG_miss {g i : Nat} (pre : List Nat) (h : hasG g (i : Int) = false) : gotG g (pre ++ [i]) = gotG g pre := by simp [gotG, h]
theorem gotG_length (g : Nat) (pre : List Nat) : (gotG g pre).length ≤ pre.length := by
  unfold gotG
  rw [List.length_map]
  exact List.length_filter_le _ _
/-- A group's nodes, rising, as numbers. -/
def listI (g : Nat) : List Int := (listG g).map fun i : Nat => (i : Int)
theorem listI_length (g : Nat) : (listI g).length = countG g := by simp [listI, countG]
theorem listI_le (g : Nat) : (listI g).length ≤ 16 := by rw [listI_length]; exact countG_le g
theorem fol_last : folI 15 = List.range 16 := by decide
theorem gotG_last (g : Nat) : gotG g (folI 15) = listI g := by
  rw [fol_last]
  unfold gotG listI listG
  rw [show (fun i : Nat => hasG g (i : Int)) = fun i : Nat => hasG g (i : Int) from rfl, List.filter_congr fun i hi => hasG_nat (g := g) (List.mem_range.1 hi)]

theorem int_info : (Try.prog.info? 3).map (fun i => (i.zero, i.size, i.bytes)) = some (some (.int .i64 0), 1, 8) := by kernel_rfl
theorem has_in (g : Nat) (n : Int) (hg : g < 65536) (k : Nat) (w : World) : CallsIn Fence.wide k Try.prog 31 #[.int .u16 (g : Int), .int .i64 n] w fun e w' => e = .returned (.bool (hasG g n)) ∧ w = w' := callsIn_wide.2 (has_any g n w hg)
theorem KpC.other {B : Nat} {W W' : World} (h : W'.heap[B]? = W.heap[B]?) : KpC B W W' := World.cell?_of_block h

theorem ownsRow_from {w : World} {b b' : Nat} {e : TypeId} {size : Nat} {v : Value} {n : Nat} {xs : List Value} (h : w.ownsRow b e size v n xs) (hb : b' ≤ b) : w.ownsRow b' e size v n xs := by
  obtain ⟨h1, h2⟩ := h
  refine ⟨h1, ?_⟩
  rcases h2 with h2 | ⟨g, cap, cur, hv, hg, r⟩
  · exact .inl h2
  · exact .inr ⟨g, cap, cur, hv, by omega, r⟩

/-- 'out = append(out, x)', where the row lies at n₁ or beyond: what the walk owes, and every block below n₁ but the box lies as it lay. -/
theorem Boxed.collected {W w1 : World} {n₀ n₁ B : Nat} {t e : TypeId} {size : Nat} {v v' : Value} {k m : Nat} {xs ys : List Value} {tmp : Obj}
    (hv : Boxed W B t v) (hte : t ≠ e) (hrow : W.ownsRow n₁ e size v k xs) (hle : n₀ ≤ n₁) (hn₁ : n₁ ≤ W.heap.size) (hB : n₀ ≤ B)
    (hown' : w1.ownsRow n₁ e size v' m ys) (hgrow : (W.alloc tmp).grownBy w1 v.ownBlock) :
    Boxed w1 B t v ∧ Boxed (w1.setCell ⟨B, 0, none⟩ v') B t v' ∧ (w1.setCell ⟨B, 0, none⟩ v').ownsRow n₁ e size v' m ys ∧ KeepsOthers W (w1.setCell ⟨B, 0, none⟩ v') ∧ Below n₀ W (w1.setCell ⟨B, 0, none⟩ v') ∧
      ∀ N, N < n₁ → N ≠ B → (w1.setCell ⟨B, 0, none⟩ v').heap[N]? = W.heap[N]? := by
  obtain ⟨h1, h2, _, h4, h5⟩ := hv.appended hte (ownsRow_from hrow hle) (Nat.le_trans hle hn₁) hB (ownsRow_from hown' hle) hgrow
  refine ⟨h1, h2, hown'.kept (grownBy_setCell' w1 B v') (.inr (h1.not_row hte hown').symm), h4, h5, fun N hN hne => ?_⟩
  refine (Below.heap_setCell _ _ _ N hne).trans ((hgrow.block N (by simp; omega) (fun e => ?_)).trans (Below.heap_alloc W tmp N (by omega)))
  rcases hrow.2 with ⟨rfl, _⟩ | ⟨g, cap, cur, rfl, hg, _⟩
  · simp [Value.ownBlock] at e
  · have : N = g := by simpa [Value.ownBlock] using e
    omega

set_option maxRecDepth 100000 in
set_option maxHeartbeats 2000000 in
theorem list_any (g : Nat) (w : World) (hg : g < 65536) : Calls Try.prog 30 #[.int .u16 (g : Int)] w (FreshI w (listI g)) := by
  have HG := Lib.hid hg
  clear hg
  obtain ⟨i0, hi, hz0, hz1, hz2⟩ := info_parts int_info
  refine (callsIn_wide (n := 5)).1 ?_
  refine callsIn_of_wp_marks Try.func30 rfl trivial ?_ rfl
  simp only [Try.ntmps30, List.size_toArray, List.length_cons, List.length_nil, Nat.reduceAdd, Nat.reduceSub, Array.replicate_succ, Array.replicate_zero, List.push_toArray, List.append_toArray, List.nil_append, List.cons_append]
  gi_wp2_with (refine ⟨trivial, ?_⟩; gi_at_call 54; refine (following_in _ _ _).mono ?_; rintro e w' ⟨rfl, rfl⟩)
  have bG := Boxed.new w 23 (.int .u16 (g : Int))
  have bL := Boxed.new (w.alloc (.cells #[.int .u16 (g : Int)] 23)) 59 (.slice none 0 0)
  have bN := Boxed.new ((w.alloc (.cells #[.int .u16 (g : Int)] 23)).alloc (.cells #[.slice none 0 0] 59)) 3 (.int .i64 15)
  simp only [World.size_alloc] at bL bN
  have hB0 : Below w.heap.size w (((w.alloc (.cells #[.int .u16 (g : Int)] 23)).alloc (.cells #[.slice none 0 0] 59)).alloc (.cells #[.int .i64 15] 3)) := (((Below.refl _ w).alloc (Nat.le_refl _) _).alloc (by simp) _).alloc (by simp; omega) _
  refine wpIn_rangeFunc_ownG rfl (by omega) (gf := 72) (lb := #[.pointer (some ⟨w.heap.size + 1 + 1, 0, none⟩)]) rfl trivial (enters_of Try.func72 (by kernel_rfl) rfl)
    (fol_stops 4 (by omega) (w.heap.size + 1 + 1) 15 _ (by simp) bN.cell)
    (fun h k => k.trans h)
    (fun W l o o' hl ho hc _ => KpC.other (World.putObj_heap_other (by simp at hl; omega)))
    (Below.refl _ _) (fun _ => rfl)
    (fun pre W => (∃ v, Boxed W (w.heap.size + 1) 59 v ∧ W.ownsRow (w.heap.size + 1 + 1 + 1) 3 1 v (gotG g pre).length (iv (gotG g pre)) ∧ True) ∧ Boxed W w.heap.size 23 (.int .u16 (g : Int)) ∧ (Below w.heap.size w W ∧ w.heap.size + 1 + 1 + 1 ≤ W.heap.size))
    (fun _ _ _ => False)
    (OwnFrom.and (Own.from (holdsRow_own (w.heap.size + 1 + 1 + 1) (w.heap.size + 1) 59 3 1 (fun pre => (gotG g pre).length) (fun pre => iv (gotG g pre)) (fun _ _ => True)) _) (OwnFrom.and (Own.from (boxed_own w.heap.size 23 (fun _ => .int .u16 (g : Int))) _) (OwnFrom.and (ownFrom_below (Nat.le_refl _) (by simp; omega)) (fun _ _ _ _ hs hg _ => Nat.le_trans hs hg.size))))
    (fun _ _ _ _ _ hs _ _ => hs)
    ⟨⟨_, bL.alloc _, World.ownsRow_nil _ _ _ _, trivial⟩, (bG.alloc _).alloc _, hB0, by simp⟩
    (fun i => { tmps := #[.int .u16 (g : Int), .pointer (some ⟨w.heap.size, 0, none⟩), .slice none 0 0, .pointer (some ⟨w.heap.size + 1, 0, none⟩), .int .i64 (i : Int), .func (.func 72) #[] #[.pointer (some ⟨w.heap.size + 1 + 1, 0, none⟩)], .int .i64 (i : Int), undef, undef, undef, undef, undef, undef, undef, undef], defers := [] }) ?assign ?body ?done ?stop
  case assign =>
    intro l x W K hK
    gi_wp2
    exact hK
  case body =>
    rintro l pre i W ⟨⟨v, hv, hrow, _⟩, hbg, hB, hsz⟩ hlt
    have hc := hv.cell
    have hcg := hbg.cell
    have hpl := gotG_length g pre
    clear hB0 bG bL bN
    have hle : w.heap.size ≤ w.heap.size + 1 + 1 + 1 := by omega
    have hB1 : w.heap.size ≤ w.heap.size + 1 := by omega
    cases hh : hasG g (i : Int)
    · have HH := Lib.hid hh
      clear hh
      gi_wp2_with (refine ⟨trivial, ?_⟩; gi_at_call 31; refine (CallsIn.inRound l (has_in g i HG.out _ _)).mono ?_; rintro e w' ⟨rfl, rfl⟩; rw [HH.out])
      exact ⟨KeepsFrom.refl _ _, rfl, ⟨⟨v, hv, by rw [gotG_miss pre HH.out]; exact hrow, trivial⟩, hbg, hB, hsz⟩⟩
    · have HH := Lib.hid hh
      clear hh
      gi_wp2_with (first
        | (refine ⟨trivial, ?_⟩; gi_at_call 31; refine (CallsIn.inRound l (has_in g i HG.out _ _)).mono ?_; rintro e w' ⟨rfl, rfl⟩; rw [HH.out])
        | (gi_at_builtin; refine wpListIn_append_own _ rfl _ _ 59 rfl (w.heap.size + 1 + 1 + 1) 3 i0 (.int .i64 0) 1 8 Try.underlying59 hi hz0 hz1 hz2 rfl (by decide) _ _ _ rfl (hrow.alloc _) ⟨W.heap.size, 0, none⟩ 1 1 [.int .i64 (i : Int)] rfl rfl (cell_one_new _ _ _) (by simp [Value.oneCell']) (by unfold maxLen; omega) (by omega) (by simp; omega) ?_; intro v' w1 hown' hgrow _; obtain ⟨g', cap', rfl⟩ := ownsRow_succ hown'; obtain ⟨hv1, hv2, hr2, hk2, hb2, hot⟩ := Boxed.collected hv (by decide) hrow hle hsz hB1 hown' hgrow; have hc1 := hv1.cell; have hf1 := hv1.frozen))
      exact ⟨hk2.from _, KpC.other (hot _ (by omega) (by omega)), ⟨⟨_, hv2, by rw [gotG_hit pre HH.out, iv_append, List.length_append]; exact hr2, trivial⟩, (hot _ (by omega) (by omega)).trans hbg, hB.trans hb2, Nat.le_trans hsz hb2.size⟩⟩
  case done =>
    rintro D ys W hD rfl ⟨⟨v, hv, hrow, _⟩, hbg, hB, hsz⟩ hK
    have hc := hv.cell
    gi_wp2
    refine ⟨by simp, .inl ⟨_, _, rfl, run_takeDeferred hK, ?_⟩⟩
    refine ⟨_, results_tmp rfl _ _ _, v, rfl, ?_, hB.trans (belowK_b (w := w) (Nat.le_refl _) W D _ _ (by simp at hD; omega) hK rfl rfl)⟩
    have := ownsRow_putObj (ownsRow_from hrow (by omega : w.heap.size ≤ _)) (.deferred none) hK rfl
    rw [gotG_last] at this
    exact this
  case stop =>
    rintro D c pre W _ _ h _
    exact h.elim

end Go.Proofs.Ytnpjldolppikfaa
