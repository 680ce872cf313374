/- Events that are put with their place as their Value come in the order of their places where they are the same. No condition. -/
import Derived.Test.YtchfponnajednaaALHeapD
namespace Go.Proofs.Ytchfponnajednaa
open Go.RowKit Go.Shelf

/-- Later turns have greater Values. -/
def TV (L : List En) (nx k : Nat) : Prop := (∀ x ∈ L, x.u < nx ∧ x.e.v < (k : Int)) ∧ ∀ x ∈ L, ∀ y ∈ L, x.u < y.u → x.e.v < y.e.v
theorem TV.nil : TV [] 0 0 := ⟨fun x h => by simp at h, fun x h => by simp at h⟩
theorem TV.more {L : List En} {nx k : Nat} (h : TV L nx k) : TV L nx (k + 1) := ⟨fun x hx => by have := h.1 x hx; exact ⟨this.1, by omega⟩, h.2⟩
theorem TV.put {L : List En} {nx k : Nat} {x : Ev} (h : TV L nx k) (hv : x.v = (k : Int)) : TV (insE ⟨x, nx⟩ L) (nx + 1) (k + 1) := by
  have hm : ∀ y, y ∈ insE ⟨x, nx⟩ L → y = ⟨x, nx⟩ ∨ y ∈ L := fun y hy => List.mem_cons.1 ((insE_perm _ _).mem_iff.1 hy)
  refine ⟨fun y hy => ?_, fun y hy z hz hu => ?_⟩
  · rcases hm y hy with rfl | h1
    · exact ⟨by show nx < nx + 1; omega, by show x.v < _; omega⟩
    · have := h.1 y h1; exact ⟨by omega, by omega⟩
  · rcases hm y hy with rfl | h1 <;> rcases hm z hz with rfl | h2
    · exact absurd hu (Nat.lt_irrefl _)
    · have := h.1 z h2
      have : nx < z.u := hu
      omega
    · have := h.1 y h1
      show y.e.v < x.v
      omega
    · exact h.2 y h1 z h2 hu
theorem TV.tail {L : List En} {nx k : Nat} {z : En} (h : TV (z :: L) nx k) : TV L nx k := ⟨fun x hx => h.1 x (List.mem_cons_of_mem _ hx), fun x hx y hy => h.2 x (List.mem_cons_of_mem _ hx) y (List.mem_cons_of_mem _ hy)⟩
/-- Two that follow one another: the law's question says no. -/
theorem follow {z y : En} {L : List En} {nx k : Nat} (hs : (z :: y :: L).Pairwise lessP) (ht : TV (z :: y :: L) nx k) : afterB z.e y.e = false ∧ (afterB y.e z.e = true ∨ (afterB y.e z.e = false ∧ ¬ y.e.v < z.e.v)) := by
  have hl : lessP z y := (List.pairwise_cons.1 hs).1 y List.mem_cons_self
  unfold afterB
  have h1 : ¬ aheadP y.e z.e := fun h => by
    unfold lessP at hl
    rcases hl with hl | hl
    · exact ahead_asymm h hl
    · have := hl.1
      unfold aheadP at h
      unfold sameP at this
      omega
  refine ⟨decide_eq_false h1, ?_⟩
  by_cases h2 : aheadP z.e y.e
  · exact .inl (decide_eq_true h2)
  · refine .inr ⟨decide_eq_false h2, ?_⟩
    unfold lessP at hl
    rcases hl with hl | hl
    · exact absurd hl h2
    · have := ht.2 z List.mem_cons_self y (List.mem_cons_of_mem _ List.mem_cons_self) hl.2
      omega

/-- The events, each with its place as its Value. -/
def valL (es : List Ev) : List Ev := es.mapIdx fun i x => { x with v := (i : Int) }
theorem valL_length (es : List Ev) : (valL es).length = es.length := by simp [valL]
theorem valL_get {es : List Ev} {i : Nat} (h : i < es.length) : (valL es).getD i default = { es.getD i default with v := (i : Int) } := by
  simp [valL, List.getD, List.getElem?_eq_getElem h]
def midW (es : List Ev) (k : Nat) : List Ev := (valL es).take k ++ es.drop k
theorem midW_length (es : List Ev) (k : Nat) (h : k ≤ es.length) : (midW es k).length = es.length := by
  simp [midW, valL_length]
  omega
theorem midW_zero (es : List Ev) : midW es 0 = es := by simp [midW]
theorem midW_get {es : List Ev} {k : Nat} (h : k < es.length) : (midW es k).getD k default = es.getD k default := by
  unfold midW
  rw [List.getD_eq_getElem?_getD, List.getElem?_append_right (by simp [valL_length]; omega)]
  simp [valL_length, List.getD, Nat.min_eq_left (Nat.le_of_lt h)]
theorem midW_new {es : List Ev} {k : Nat} (h : k < es.length) : (midW es (k + 1)).getD k default = (valL es).getD k default := by
  unfold midW
  rw [List.getD_eq_getElem?_getD, List.getElem?_append_left (by simp [valL_length]; omega), List.getElem?_take, if_pos (by omega), ← List.getD_eq_getElem?_getD]
theorem midW_set {es : List Ev} {k : Nat} (h : k < es.length) : (midW es k).set k { es.getD k default with v := (k : Int) } = midW es (k + 1) := by
  unfold midW
  have hk : ((valL es).take k).length = k := by simp [valL_length]; omega
  rw [List.set_append_right _ _ (by omega), hk, Nat.sub_self, List.drop_eq_getElem_cons h, List.set_cons_zero, List.take_add_one, List.getElem?_eq_getElem (by rw [valL_length]; exact h)]
  rw [Option.toList_some, List.append_assoc]
  have e : (valL es)[k]'(by rw [valL_length]; exact h) = { es.getD k default with v := (k : Int) } := by
    simp [valL, List.getD, List.getElem?_eq_getElem h]
  rw [e]
  rfl
section
variable {w0 W W' : World} {a nx : Nat} {L : List En} {Q : World → Prop} {A : Option Addr} {n c : Nat} {es : List Ev}
theorem HoldR.forget {St : (Nat → Prop) → World → Prop} (h : HoldR St w0 Q A n c es W) : HoldR St w0 (fun _ => True) A n c es W := by
  obtain ⟨F, h1, h2, h3, h4, h5, h6, h7⟩ := h
  exact ⟨F, h1, h2, h3, h4, trivial, only_true _, h7⟩
theorem HoldQ.forget {St : (Nat → Prop) → World → Prop} (h : HoldQ St w0 Q W) : HoldQ St w0 (fun _ => True) W := by
  obtain ⟨F, h1, h2, h3, h4, h5, h6⟩ := h
  exact ⟨F, h1, h2, h3, h4, trivial, only_true _⟩
theorem first_r (h : HoldR (fun F V => AgF F a nx L V) w0 Q A n c es W) : Calls Try.prog 11 #[.pointer (some ⟨a, 0, none⟩)] W fun e W' => e = .returned (headOf L) ∧ Below W.heap.size W W' := by
  obtain ⟨F, h⟩ := h.one
  exact first_f h
theorem len_r (h : HoldR (fun F V => AgF F a nx L V) w0 Q A n c es W) : Calls Try.prog 14 #[.pointer (some ⟨a, 0, none⟩)] W fun e W' => e = .returned (.int .i64 (L.length : Int)) ∧ Below W.heap.size W W' := by
  obtain ⟨F, h⟩ := h.one
  exact len_f h
theorem take_r (h : HoldR (fun F V => AgF F a nx L V) w0 Q A n c es W) (hl : L.length ≤ 1000000) :
    Calls Try.prog 17 #[.pointer (some ⟨a, 0, none⟩)] W fun e W' => e = .returned (headOf L) ∧ HoldR (fun F V => AgF F a nx L.tail V) w0 Q A n c es W' :=
  h.op fun _ hB hG => take_f hG hB hl
/-- A new box, beside. -/
theorem HoldR.box {St : (Nat → Prop) → World → Prop} (hS : IsSt St) (h : HoldR St w0 Q A n c es W) (t : TypeId) (cs : Array Value) : HoldR St w0 (fun V => Q V ∧ Whole V W.heap.size t cs) A n c es (W.alloc (.cells cs t)) :=
  h.add hS ((Below.refl _ _).alloc (Nat.le_refl _) _) (Whole.new W t cs) (only_whole ⟨Nat.le_refl _, by simp⟩)
/-- A box of an event is a row of one. -/
theorem HoldQ.box1 {St : (Nat → Prop) → World → Prop} (hS : IsSt St) (h : HoldQ St w0 Q W) (x : Ev) : HoldR St w0 Q (some ⟨W.heap.size, 0, none⟩) 1 1 [x] (W.alloc (.cells #[.int .i64 x.t, .int .i64 x.k, .int .i64 x.n, .int .i64 x.m, .int .i64 x.v] 36)) :=
  h.row hS ((Below.refl _ _).alloc (Nat.le_refl _) _) (World.ownsRow_lit W #[.int .i64 x.t, .int .i64 x.k, .int .i64 x.n, .int .i64 x.m, .int .i64 x.v] 1 (Nat.zero_le _) (by decide) rfl) (fun k hk => by obtain ⟨ad, e, rfl⟩ := hk; injection e with e; subst e; exact Nat.le_refl _)
theorem flatV_set1 (x : Ev) (v0 v1 v2 v3 v4 : Int) : (((((flatV [x]).set 0 (.int .i64 v0)).set 1 (.int .i64 v1)).set 2 (.int .i64 v2)).set 3 (.int .i64 v3)).set 4 (.int .i64 v4) = flatV [⟨v0, v1, v2, v3, v4⟩] := rfl
/-- .. into which another event is stored. -/
theorem HoldR.store1 {St : (Nat → Prop) → World → Prop} (hS : IsSt St) {g : Nat} {x : Ev} (h : HoldR St w0 Q (some ⟨g, 0, none⟩) 1 1 [x] W) (y : Ev) : HoldR St w0 Q (some ⟨g, 0, none⟩) 1 1 [y] (W.setCells g 0 y.cells) := by
  have e0 : (flatV [x]).set 0 (.int .i64 y.t) = flatV [⟨y.t, x.k, x.n, x.m, x.v⟩] := rfl
  have h0 := h.stored hS 0 (.int .i64 y.t) e0
  have e1 : (flatV [⟨y.t, x.k, x.n, x.m, x.v⟩]).set 1 (.int .i64 y.k) = flatV [⟨y.t, y.k, x.n, x.m, x.v⟩] := rfl
  have h1 := h0.stored hS 1 (.int .i64 y.k) e1
  have e2 : (flatV [⟨y.t, y.k, x.n, x.m, x.v⟩]).set 2 (.int .i64 y.n) = flatV [⟨y.t, y.k, y.n, x.m, x.v⟩] := rfl
  have h2 := h1.stored hS 2 (.int .i64 y.n) e2
  have e3 : (flatV [⟨y.t, y.k, y.n, x.m, x.v⟩]).set 3 (.int .i64 y.m) = flatV [⟨y.t, y.k, y.n, y.m, x.v⟩] := rfl
  have h3 := h2.stored hS 3 (.int .i64 y.m) e3
  have e4 : (flatV [⟨y.t, y.k, y.n, y.m, x.v⟩]).set 4 (.int .i64 y.v) = flatV [y] := rfl
  exact h3.stored hS 4 (.int .i64 y.v) e4
theorem HoldR.cells1 {St : (Nat → Prop) → World → Prop} {g : Nat} {x : Ev} (h : HoldR St w0 Q (some ⟨g, 0, none⟩) 1 1 [x] W) :
    (W.cell? ⟨g, 0, none⟩ = some (.int .i64 x.t) ∧ W.cell? ⟨g, 1, none⟩ = some (.int .i64 x.k) ∧ W.cell? ⟨g, 2, none⟩ = some (.int .i64 x.n) ∧ W.cell? ⟨g, 3, none⟩ = some (.int .i64 x.m) ∧ W.cell? ⟨g, 4, none⟩ = some (.int .i64 x.v)) ∧ ∀ j, W.frozen? ⟨g, j, none⟩ = false := by
  have hr : W.ownsRow 0 36 5 (.slice (some ⟨g, 0, none⟩) 1 1) 1 (flatV [x]) := h.row
  exact ⟨⟨World.ownsRow.cellAt hr 0 (by omega), World.ownsRow.cellAt hr 1 (by omega), World.ownsRow.cellAt hr 2 (by omega), World.ownsRow.cellAt hr 3 (by omega), World.ownsRow.cellAt hr 4 (by omega)⟩, fun j => World.ownsRow.frozenAt hr j⟩
end
end Go.Proofs.Ytchfponnajednaa
