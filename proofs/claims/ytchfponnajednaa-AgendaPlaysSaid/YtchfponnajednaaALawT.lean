/- More for the laws of an agenda: what Until parts, in order; a row begun; Drop. No condition. -/
import Derived.Test.YtchfponnajednaaALawS
namespace Go.Proofs.Ytchfponnajednaa
open Go.RowKit Go.Shelf
section
variable {w0 W W' : World} {a nx b ny : Nat} {L M : List En} {Q : World → Prop} {A : Option Addr} {n c : Nat} {es : List Ev} {t : Int}
theorem HoldQ.mapSt {St St' : (Nat → Prop) → World → Prop} (h : HoldQ St w0 Q W) (hS : ∀ F, St F W → St' F W) : HoldQ St' w0 Q W := by
  obtain ⟨F, h1, h2⟩ := h
  exact ⟨F, hS F h1, h2⟩
theorem HoldQ.fst2 (h : HoldQ (fun F V => Ag2 F a nx L b ny M V) w0 Q W) : HoldQ (fun F V => AgF F a nx L V) w0 Q W := h.mapSt fun _ h => h.fst
theorem HoldQ.sorted (h : HoldQ (fun F V => AgF F a nx L V) w0 Q W) : L.Pairwise lessP := by
  obtain ⟨F, ⟨S, h1, _⟩, _⟩ := h
  exact h1.sorted
theorem HoldR.mapSt {St St' : (Nat → Prop) → World → Prop} (h : HoldR St w0 Q A n c es W) (hS : ∀ F, St F W → St' F W) : HoldR St' w0 Q A n c es W := by
  obtain ⟨F, h1, h2⟩ := h
  exact ⟨F, hS _ h1, h2⟩
theorem HoldR.fst2 (h : HoldR (fun F V => Ag2 F a nx L b ny M V) w0 Q A n c es W) : HoldR (fun F V => AgF F a nx L V) w0 Q A n c es W := h.mapSt fun _ h => h.fst
theorem all_r (h : HoldR (fun F V => AgF F a nx L V) w0 Q A n c es W) (hl : L.length ≤ 1000000) : Calls Try.prog 13 #[.pointer (some ⟨a, 0, none⟩)] W fun e W' =>
    ∃ B d, e = .returned (.slice B L.length d) ∧ HoldR (fun F V => AgF F a nx L V) w0 (fun V => Q V ∧ RowV V B L.length d (L.map En.e)) A n c es W' := by
  refine (h.rowed (fun G _ hG => all_rowed hl G W hG)).mono ?_
  rintro e W' ⟨B, m, d, fs, rfl, ⟨rfl, rfl⟩, hr⟩
  exact ⟨B, d, rfl, hr⟩
theorem drop_h {kind node : Int} (h : HoldQ (fun F V => AgF F a nx L V) w0 Q W) (hl : L.length ≤ 1000000) :
    Calls Try.prog 19 #[.pointer (some ⟨a, 0, none⟩), .int .i64 kind, .int .i64 node] W fun e W' => e = .returned (.int .i64 ((L.length : Int) - ((L.filter (keepB kind node)).length : Int))) ∧ HoldQ (fun F V => AgF F a nx (L.filter (keepB kind node)) V) w0 Q W' :=
  drop_q (show AgQ w0 a nx L Q W from h) hl
/-- No row yet. -/
theorem RowV.nil (W : World) : RowV W none 0 0 [] := ⟨rfl, .inl ⟨rfl, rfl⟩⟩
theorem HoldQ.row0 {St : (Nat → Prop) → World → Prop} (hS : IsSt St) (h : HoldQ St w0 Q W) : HoldR St w0 Q none 0 0 [] W :=
  h.row hS (Below.refl _ _) (RowV.nil W) (fun k hk => by obtain ⟨ad, e, _⟩ := hk; cases e)
theorem HoldQ.lit0 {St : (Nat → Prop) → World → Prop} (hS : IsSt St) (h : HoldQ St w0 Q W) : HoldR St w0 Q (some ⟨W.heap.size, 0, none⟩) 0 0 [] (W.alloc (.cells #[] 36)) :=
  h.row hS ((Below.refl _ _).alloc (Nat.le_refl _) _) (World.ownsRow_lit W #[] 0 (Nat.zero_le _) (Nat.zero_le _) (by rw [Nat.zero_mul]; rfl)) (fun k hk => by obtain ⟨ad, e, rfl⟩ := hk; injection e with e; subst e; exact Nat.le_refl _)
end
theorem upTo_time {t : Int} {L : List En} {n : Nat} (hs : L.Pairwise lessP) (h : UpTo t L n) {j : Nat} (hj : j < L.length) : (L.getD j default).e.t ≤ t ↔ j < n := by
  constructor
  · intro hle
    by_cases hjn : j < n
    · exact hjn
    · have hn := h.no (by omega)
      rcases Nat.eq_or_lt_of_le (show n ≤ j by omega) with rfl | hlt
      · omega
      · have hp := List.pairwise_iff_getElem.1 hs n j (by omega) hj hlt
        rw [show L[n]'(by omega) = L.getD n default by simp [List.getD, List.getElem?_eq_getElem (show n < L.length by omega)], show L[j] = L.getD j default by simp [List.getD, List.getElem?_eq_getElem hj]] at hp
        unfold lessP aheadP sameP at hp
        omega
  · exact h.all j
theorem evs_rest (L : List En) (m : Nat) : evs L m ++ (L.drop m).map En.e = L.map En.e := by
  unfold evs
  rw [← List.map_append, List.take_append_drop]
theorem map_getD {L : List En} {j : Nat} (h : j < L.length) : (L.map En.e).getD j default = (L.getD j default).e := by
  simp [List.getD, List.getElem?_eq_getElem h]
theorem take_more {L : List En} {j : Nat} (hj : j < L.length) : L.take (j + 1) = L.take j ++ [L.getD j default] := by
  rw [List.take_add_one, List.getElem?_eq_getElem hj]
  simp [List.getD, List.getElem?_eq_getElem hj]
theorem one_src {W : World} {g : Nat} {x : Ev} (h : W.rangeAt g 0 x.cells) : VSrc W (some ⟨g, 0, none⟩) 1 [x] := by
  refine ⟨rfl, fun _ => ⟨g, 0, rfl, fun i y hy => ?_⟩⟩
  obtain ⟨hi, rfl⟩ := List.getElem?_eq_some_iff.1 hy
  simp at hi
  subst hi
  simpa using h
theorem one_new (W : World) (x : Ev) : VSrc (W.alloc (.cells #[.int .i64 x.t, .int .i64 x.k, .int .i64 x.n, .int .i64 x.m, .int .i64 x.v] 36)) (some ⟨W.heap.size, 0, none⟩) 1 [x] :=
  one_src fun j v hj => by
    rw [Nat.zero_add, (Whole.new W 36 #[.int .i64 x.t, .int .i64 x.k, .int .i64 x.n, .int .i64 x.m, .int .i64 x.v]).cell j, ← hj]
    simp [Ev.cells]
theorem dropB_no {kind node : Int} {x : En} : keepB kind node x = (decide (x.e.k ≠ kind) || decide (x.e.n ≠ node)) := by
  unfold keepB dropB
  by_cases h1 : x.e.k = kind <;> by_cases h2 : x.e.n = node <;> simp [h1, h2]
theorem keep_more {kind node : Int} {L P : List En} {j : Nat} {x : En} (hj : j < L.length) (hx : x = L.getD j default) (hP : P = (L.take j).filter (keepB kind node)) :
    (keepB kind node x = true → P ++ [x] = (L.take (j + 1)).filter (keepB kind node)) ∧ (keepB kind node x = false → P = (L.take (j + 1)).filter (keepB kind node)) := by
  rw [take_more hj, ← hx, List.filter_append, ← hP]
  constructor
  · intro h
    rw [List.filter_cons_of_pos h, List.filter_nil]
  · intro h
    rw [List.filter_cons_of_neg (by rw [h]; simp), List.filter_nil, List.append_nil]
/-- A row of the law's own: where it lies, and what a store does. -/
theorem RowV.spot {W : World} {A : Option Addr} {n c : Nat} {es : List Ev} (h : RowV W A n c es) {i : Nat} (hi : i < n) : es.length = n ∧ ∃ g, A = some ⟨g, 0, none⟩ ∧ W.rangeAt g (i * 5) (es.getD i default).cells ∧ ∀ j, W.frozen? ⟨g, j, none⟩ = false := by
  have hs := h.src
  obtain ⟨g, o, rfl, hc⟩ := hs.at_ hi
  refine ⟨hs.1, g, ?_⟩
  rcases h.2 with ⟨h', _⟩ | ⟨g', cap', cur, h', _⟩
  · simp at h'
  · simp only [Value.slice.injEq, Option.some.injEq, Addr.mk.injEq, and_true, true_and] at h'
    obtain ⟨⟨rfl, rfl⟩, rfl⟩ := h'
    rw [Nat.zero_add] at hc
    exact ⟨rfl, hc, fun j => World.ownsRow.frozenAt h j⟩
theorem flatV_set3 : ∀ (es : List Ev) (i : Nat) (z : Int), i < es.length → (flatV es).set (i * 5 + 3) (.int .i64 z) = flatV (es.set i { es.getD i default with m := z })
  | [], i, z, h => by simp at h
  | x :: l, 0, z, _ => rfl
  | x :: l, i + 1, z, h => by
    have ih := flatV_set3 l i z (by simpa using h)
    show (x.cells ++ flatV l).set ((i + 1) * 5 + 3) _ = x.cells ++ flatV (l.set i _)
    rw [List.set_append_right _ _ (by show 5 ≤ _; omega), show (i + 1) * 5 + 3 - x.cells.length = i * 5 + 3 by show (i + 1) * 5 + 3 - 5 = _; omega, ih]
    rfl
theorem flatV_set4 : ∀ (es : List Ev) (i : Nat) (z : Int), i < es.length → (flatV es).set (i * 5 + 4) (.int .i64 z) = flatV (es.set i { es.getD i default with v := z })
  | [], i, z, h => by simp at h
  | x :: l, 0, z, _ => rfl
  | x :: l, i + 1, z, h => by
    have ih := flatV_set4 l i z (by simpa using h)
    show (x.cells ++ flatV l).set ((i + 1) * 5 + 4) _ = x.cells ++ flatV (l.set i _)
    rw [List.set_append_right _ _ (by show 5 ≤ _; omega), show (i + 1) * 5 + 4 - x.cells.length = i * 5 + 4 by show (i + 1) * 5 + 4 - 5 = _; omega, ih]
    rfl
theorem HoldR.stored {St : (Nat → Prop) → World → Prop} {w0 W : World} {Q : World → Prop} {n c g : Nat} {es fs : List Ev} (hS : IsSt St) (h : HoldR St w0 Q (some ⟨g, 0, none⟩) n c es W) (j : Nat) (u : Value) (he : (flatV es).set j u = flatV fs) :
    HoldR St w0 Q (some ⟨g, 0, none⟩) n c fs (W.setCell ⟨g, j, none⟩ u) := by
  have h1 := World.ownsRow.stored (show W.ownsRow 0 36 5 (.slice (some ⟨g, 0, none⟩) n c) n (flatV es) from h.row) j u
  rw [he] at h1
  obtain ⟨A', c', e, h2⟩ := h.grown hS h1.1 h1.2 (.inl rfl)
  simp only [Value.slice.injEq, true_and] at e
  obtain ⟨rfl, rfl⟩ := e
  exact h2
end Go.Proofs.Ytchfponnajednaa
