/- Two agendas into which the same events, no two of one number, are put in two orders hold the same events. No condition. -/
import Derived.Test.YtchfponnajednaaALawT
namespace Go.Proofs.Ytchfponnajednaa
open Go.RowKit Go.Shelf

theorem fillL_perm : ∀ (k : Nat) (es : List Ev), es.length = k → k ≤ 65536 → ((fillL es).map En.e).Perm (es.filter okB)
  | 0, es, h, _ => by
    obtain rfl := List.eq_nil_of_length_eq_zero h
    exact List.Perm.refl _
  | k + 1, es, h, hk => by
    obtain ⟨fs, x, rfl⟩ : ∃ fs x, es = fs ++ [x] := by
      refine ⟨es.dropLast, es.getLast (by intro e; rw [e] at h; cases h), (List.dropLast_concat_getLast _).symm⟩
    have hl : fs.length = k := by simpa using h
    have ih := fillL_perm k fs hl (by omega)
    have hs := (fill_small k fs hl).2
    rw [(fill_snoc fs x).2, List.filter_append]
    unfold putL putB
    by_cases hx : okB x = true
    · rw [if_pos (by rw [hx, Bool.true_and, decide_eq_true_eq]; omega)]
      refine ((insE_perm _ _).map _).trans ?_
      rw [List.map_cons, List.filter_cons_of_pos hx, List.filter_nil]
      exact ((ih.cons x).trans (List.perm_append_singleton _ _).symm)
    · rw [if_neg (by simp [hx]), List.filter_cons_of_neg hx, List.filter_nil, List.append_nil]
      exact ih

theorem ahead_asymm {x y : Ev} (h : aheadP x y) : ¬ aheadP y x := by unfold aheadP at *; omega
theorem perm_eq : ∀ {l m : List Ev}, l.Perm m → l.Pairwise aheadP → m.Pairwise aheadP → l = m
  | [], m, h, _, _ => h.symm.eq_nil.symm
  | x :: l, m, h, hl, hm => by
    cases m with
    | nil => exact absurd h.eq_nil (by simp)
    | cons y m =>
      rw [List.pairwise_cons] at hl hm
      have e : x = y := by
        rcases List.mem_cons.1 (h.mem_iff.1 (List.mem_cons_self (a := x) (l := l))) with e | hx
        · exact e
        · rcases List.mem_cons.1 (h.mem_iff.2 (List.mem_cons_self (a := y) (l := m))) with e | hy
          · exact e.symm
          · exact absurd (hl.1 y hy) (ahead_asymm (hm.1 x hx))
      subst e
      rw [perm_eq (List.perm_cons x |>.1 h) hl.2 hm.2]
theorem ahead_of {L : List En} (hL : L.Pairwise lessP) (hd : (L.map En.e).Pairwise (fun x y => x.m ≠ y.m)) : (L.map En.e).Pairwise aheadP := by
  rw [List.pairwise_map] at hd ⊢
  refine hL.imp₂ (fun x y h k => ?_) hd
  unfold lessP sameP at h
  rcases h with h | h
  · exact h
  · exact absurd h.1.2.2.2 k
theorem same_lists {es fs : List Ev} (hp : es.Perm fs) (he : es.length ≤ 65536) (hd : es.Pairwise (fun x y => x.m ≠ y.m)) (h1 : (fillL es).Pairwise lessP) (h2 : (fillL fs).Pairwise lessP) : (fillL es).map En.e = (fillL fs).map En.e := by
  have p1 := fillL_perm _ es rfl he
  have p2 := fillL_perm _ fs rfl (by rw [← hp.length_eq]; exact he)
  have p3 : (es.filter okB).Perm (fs.filter okB) := hp.filter _
  have hsym : ∀ {x y : Ev}, x.m ≠ y.m → y.m ≠ x.m := fun h => Ne.symm h
  have d1 : (es.filter okB).Pairwise (fun x y => x.m ≠ y.m) := hd.filter _
  have d2 : ((fillL es).map En.e).Pairwise (fun x y => x.m ≠ y.m) := (p1.pairwise_iff hsym).2 d1
  have d3 : ((fillL fs).map En.e).Pairwise (fun x y => x.m ≠ y.m) := (p2.pairwise_iff hsym).2 ((p3.pairwise_iff hsym).1 d1)
  exact perm_eq (p1.trans (p3.trans p2.symm)) (ahead_of h1 d2) (ahead_of h2 d3)

/-- The events, each with its place as its Number. -/
def numL (es : List Ev) : List Ev := es.mapIdx fun i x => { x with m := (i : Int) }
theorem numL_length (es : List Ev) : (numL es).length = es.length := by simp [numL]
theorem numL_get {es : List Ev} {i : Nat} (h : i < es.length) : (numL es).getD i default = { es.getD i default with m := (i : Int) } := by
  simp [numL, List.getD, List.getElem?_eq_getElem h]
theorem numL_apart (es : List Ev) : (numL es).Pairwise (fun x y => x.m ≠ y.m) := by
  rw [List.pairwise_iff_getElem]
  intro i j hi hj hij
  simp [numL]
  omega
/-- .. in the midst of it. -/
def midL (es : List Ev) (k : Nat) : List Ev := (numL es).take k ++ es.drop k
theorem midL_length (es : List Ev) (k : Nat) (h : k ≤ es.length) : (midL es k).length = es.length := by
  simp [midL, numL_length]
  omega
theorem midL_zero (es : List Ev) : midL es 0 = es := by simp [midL]
theorem midL_all (es : List Ev) : midL es es.length = numL es := by
  unfold midL
  rw [List.take_of_length_le (by rw [numL_length]; exact Nat.le_refl _), List.drop_length, List.append_nil]
theorem midL_get {es : List Ev} {k : Nat} (h : k < es.length) : (midL es k).getD k default = es.getD k default := by
  unfold midL
  rw [List.getD_eq_getElem?_getD, List.getElem?_append_right (by simp [numL_length]; omega)]
  simp [numL_length, List.getD, Nat.min_eq_left (Nat.le_of_lt h)]
theorem midL_set {es : List Ev} {k : Nat} (h : k < es.length) : (midL es k).set k { es.getD k default with m := (k : Int) } = midL es (k + 1) := by
  unfold midL
  have hk : ((numL es).take k).length = k := by simp [numL_length]; omega
  rw [List.set_append_right _ _ (by omega), hk, Nat.sub_self, List.drop_eq_getElem_cons h, List.set_cons_zero, List.take_add_one, List.getElem?_eq_getElem (by rw [numL_length]; exact h)]
  rw [Option.toList_some, List.append_assoc]
  have e : (numL es)[k]'(by rw [numL_length]; exact h) = { es.getD k default with m := (k : Int) } := by
    simp [numL, List.getD, List.getElem?_eq_getElem h]
  rw [e]
  rfl
theorem rev_get {es : List Ev} {p : Nat} (h : p < es.length) : es.reverse.getD p default = es.getD (es.length - 1 - p) default := by
  rw [List.getD_eq_getElem?_getD, List.getD_eq_getElem?_getD, List.getElem?_reverse h]

section
variable {w0 W W' : World} {a nx b ny : Nat} {L M : List En} {Q : World → Prop} {A : Option Addr} {n c : Nat} {es : List Ev}
theorem isSt0 : IsSt (fun _ _ => True) := ⟨fun _ _ _ _ _ => trivial, fun _ _ _ _ _ => trivial⟩
theorem HoldQ.begin (w : World) : HoldQ (fun _ _ => True) w (fun _ => True) w :=
  ⟨fun k => k < w.heap.size, trivial, fun _ h => h, Below.refl _ _, fun _ h => h, trivial, only_true _⟩
theorem newEv_below (W : World) : Below W.heap.size W (W.alloc (.cells #[] 36)) := (Below.refl _ _).alloc (Nat.le_refl _) _
abbrev newAg (W : World) : World := W.alloc (.cells #[.pointer none] 27)
theorem newAg_below (W : World) : Below W.heap.size W (newAg W) := (Below.refl _ _).alloc (Nat.le_refl _) _
theorem newAg_at (W : World) : AgAt (newAg W) (fun k => k = W.heap.size) W.heap.size 0 [] := AgAt.zero (Whole.new W _ _)
theorem HoldR.new1 {St : (Nat → Prop) → World → Prop} (h : HoldR St w0 Q A n c es W) : HoldR (fun F V => AgF F W.heap.size 0 [] V) w0 Q A n c es (newAg W) := by
  have h0 : HoldR (fun _ _ => True) w0 Q A n c es (newAg W) := (h.mapSt fun _ _ => trivial).later isSt0 (newAg_below W)
  obtain ⟨F, g1, g2, g3, g4, g5, g6, g7, g8⟩ := h
  obtain ⟨g3', g5', g7'⟩ := (⟨h0.below, h0.fact, h0.row⟩ : _ ∧ _ ∧ _)
  exact ⟨F, ⟨_, newAg_at W, fun k hk hs => by
    subst hs
    rcases hk with hk | hk
    · have := g2 _ hk; omega
    · have := g7.lt hk; omega⟩, g2.more (newAg_below W).size, g3', g4, g5', g6, g7', g8⟩
theorem HoldR.new2 {St : (Nat → Prop) → World → Prop} (h : HoldR St w0 Q A n c es W) : HoldR (fun F V => Ag2 F W.heap.size 0 [] (W.heap.size + 1) 0 [] V) w0 Q A n c es (newAg (newAg W)) := by
  have hb := k_then (newAg_below (newAg W)) (newAg_below W)
  have hz : (newAg W).heap.size = W.heap.size + 1 := by simp
  have h0 : HoldR (fun _ _ => True) w0 Q A n c es (newAg (newAg W)) := (h.mapSt fun _ _ => trivial).later isSt0 hb
  have h2 := newAg_at (newAg W)
  rw [hz] at h2
  obtain ⟨F, g1, g2, g3, g4, g5, g6, g7, g8⟩ := h
  have hF : ∀ k, F k ∨ blk A k → k < W.heap.size := fun k hk => by
    rcases hk with hk | hk
    · exact g2 k hk
    · exact g7.lt hk
  exact ⟨F, ⟨_, _, (newAg_at W).later (newAg_below (newAg W)), h2, fun k h1 h2 => by subst h1; omega, fun k hk hs => by have := hF k hk; omega, fun k hk hs => by have := hF k hk; omega⟩, g2.more hb.size, h0.below, g4, h0.fact, g6, h0.row, g8⟩
theorem put_r {x : Ev} (h : HoldR (fun F V => AgF F a nx L V) w0 Q A n c es W) (hnx : nx < 1000000000) :
    Calls Try.prog 16 #[.pointer (some ⟨a, 0, none⟩), evV x] W fun e W' => e = .returned (.int .i64 (putE L x)) ∧ HoldR (fun F V => AgF F a (putN nx L x) (putL nx L x) V) w0 Q A n c es W' :=
  h.op fun _ hB hG => put_f hG hB hnx
theorem put_r2 {x : Ev} (h : HoldR (fun F V => Ag2 F a nx L b ny M V) w0 Q A n c es W) (hnx : nx < 1000000000) :
    Calls Try.prog 16 #[.pointer (some ⟨a, 0, none⟩), evV x] W fun e W' => e = .returned (.int .i64 (putE L x)) ∧ HoldR (fun F V => Ag2 F a (putN nx L x) (putL nx L x) b ny M V) w0 Q A n c es W' :=
  h.op fun _ hB hG => hG.step hB fun _ hB' hG' => put_f hG' hB' hnx
theorem HoldR.sorted (h : HoldR (fun F V => AgF F a nx L V) w0 Q A n c es W) : L.Pairwise lessP := by
  obtain ⟨F, ⟨S, h1, _⟩, _⟩ := h
  exact h1.sorted
end
end Go.Proofs.Ytchfponnajednaa
