/- The document's words on events: After, Events; two events held against one another. No condition. -/
import Derived.Test.YtchfponnajednaaAAll
import Derived.Laws.StructEq
namespace Go.Proofs.Ytchfponnajednaa
open Go.RowKit Go.Shelf

abbrev evV (x : Ev) : Value := .agg #[.int .i64 x.t, .int .i64 x.k, .int .i64 x.n, .int .i64 x.m, .int .i64 x.v]
theorem evV_cells (x : Ev) : evV x = .agg x.cells.toArray := rfl
theorem ev_same (x y : Ev) : decide (x = y) = (decide (x.t = y.t) && (decide (x.k = y.k) && (decide (x.n = y.n) && (decide (x.m = y.m) && decide (x.v = y.v))))) := by
  rw [Bool.eq_iff_iff]
  obtain ⟨a, b, c, d, e⟩ := x
  obtain ⟨a', b', c', d', e'⟩ := y
  simp
set_option maxHeartbeats 1000000 in
theorem ev_eql (x y : Ev) (w : World) : (binOp .eql 36 (evV x) (evV y)).run Try.prog w = .ok (.bool (decide (x = y))) w := by
  have hS : Try.prog.underlying 36 = some (.struct (Try.prog.fieldsOf 36)) := by kernel_rfl
  have hp : Try.prog.stoodInHeld 36 = false := by kernel_rfl
  rw [ev_same]
  unfold evV
  rw [run_eql_struct, show (10000 : Nat) = 9999 + 1 from rfl, run_equalIn_agg w 9999 36 _ _ hS hp]
  simp only [Program.fieldsOf, Try.underlying36]
  go_simp
  by_cases h1 : x.t = y.t <;> by_cases h2 : x.k = y.k <;> by_cases h3 : x.n = y.n <;> by_cases h4 : x.m = y.m <;> by_cases h5 : x.v = y.v <;> simp [h1, h2, h3, h4, h5]
theorem ev_equal (x y : Ev) (w : World) : (Op.equalIn 10000 36 (evV x) (evV y)).run Try.prog w = .ok (decide (x = y)) w := by
  have h := ev_eql x y w
  rw [run_eql_struct] at h
  cases hr : (Op.equalIn 10000 36 (evV x) (evV y)).run Try.prog w with
  | ok b w' =>
    rw [hr] at h
    simp [Result.andThen] at h
    rw [h.1, h.2]
  | halt x w' => rw [hr] at h; simp [Result.andThen] at h
theorem ev_neq (x y : Ev) (w : World) : (binOp .neq 36 (evV x) (evV y)).run Try.prog w = .ok (.bool (!decide (x = y))) w := by
  rw [run_neq_struct, ev_equal]; rfl

/-- The slice with address A, of n events, reads as es. -/
def VSrc (w : World) (A : Option Addr) (n : Nat) (es : List Ev) : Prop :=
  es.length = n ∧ (0 < n → ∃ g o, A = some ⟨g, o, none⟩ ∧ ∀ i x, es[i]? = some x → w.rangeAt g (o + i * 5) x.cells)
theorem VSrc.kept {S : Nat → Prop} {w w' : World} {A : Option Addr} {n : Nat} {es : List Ev} (h : VSrc w A n es) (hk : Kept S w w') (hS : ∀ ad, A = some ad → ¬ S ad.block) : VSrc w' A n es :=
  ⟨h.1, fun hn => by
    obtain ⟨g, o, e, hc⟩ := h.2 hn
    exact ⟨g, o, e, fun i x hx j v hv => hk.cell (hc i x hx j v hv) (show ¬ S g from hS ⟨g, o, none⟩ e)⟩⟩
theorem VSrc.later {w w' : World} {A : Option Addr} {n : Nat} {es : List Ev} (h : VSrc w A n es) (hb : Below w.heap.size w w') : VSrc w' A n es := h.kept (Kept.of_below hb Empty) (fun _ _ h => h)
theorem flatV_get : ∀ (l : List Ev) (i : Nat) (x : Ev) (j : Nat), l[i]? = some x → j < 5 → (flatV l)[i * 5 + j]? = x.cells[j]?
  | [], i, x, j, h, _ => by simp at h
  | y :: l, 0, x, j, h, hj => by
    obtain rfl : y = x := by simpa using h
    show (y.cells ++ flatV l)[0 * 5 + j]? = _
    rw [Nat.zero_mul, Nat.zero_add, List.getElem?_append_left (by rw [Ev.cells_length]; exact hj)]
  | y :: l, i + 1, x, j, h, hj => by
    show (y.cells ++ flatV l)[(i + 1) * 5 + j]? = _
    rw [List.getElem?_append_right (by rw [Ev.cells_length]; omega), Ev.cells_length, show (i + 1) * 5 + j - 5 = i * 5 + j by omega]
    exact flatV_get l i x j (by simpa using h) hj
theorem flatV_ones {l : List Ev} : ∀ u ∈ flatV l, u.oneCell' = true := by
  intro u hu
  obtain ⟨x, _, hx⟩ := List.mem_flatMap.1 hu
  exact x.cells_one u hx
theorem VSrc.of_own {w : World} {base n : Nat} {v : Value} {es : List Ev} (h : w.ownsRow base 36 5 v n (flatV es)) : ∃ A c, v = .slice A n c ∧ VSrc w A n es ∧ ∀ ad, A = some ad → v.ownBlock = some ad.block := by
  have hl : es.length = n := by have := h.1; rw [flatV_length] at this; omega
  rcases h.2 with ⟨rfl, h0⟩ | ⟨g, cap, cur, rfl, _, hg, _⟩
  · exact ⟨none, 0, by rw [h0], ⟨hl, fun hn => by omega⟩, fun ad h => by cases h⟩
  · refine ⟨_, cap, rfl, ⟨hl, fun _ => ⟨g, 0, rfl, fun i x hx j u hu => ?_⟩⟩, fun ad h => by cases h; rfl⟩
    have hj : j < 5 := by
      have := (List.getElem?_eq_some_iff.1 hu).1
      rwa [Ev.cells_length] at this
    have := h.cells (g := g) rfl (i * 5 + j) u (by rw [flatV_get es i x j hx hj]; exact hu)
    rw [Addr.add_mid] at this
    rw [Nat.zero_add]
    rw [Nat.zero_add] at this
    exact this
/-- The five cells of an event. -/
theorem five_of {w : World} {g o : Nat} {x : Ev} (h : w.rangeAt g o x.cells) :
    w.cell? ⟨g, o, none⟩ = some (.int .i64 x.t) ∧ w.cell? ⟨g, o + 1, none⟩ = some (.int .i64 x.k) ∧ w.cell? ⟨g, o + 2, none⟩ = some (.int .i64 x.n) ∧
    w.cell? ⟨g, o + 3, none⟩ = some (.int .i64 x.m) ∧ w.cell? ⟨g, o + 4, none⟩ = some (.int .i64 x.v) :=
  ⟨h 0 _ rfl, h 1 _ rfl, h 2 _ rfl, h 3 _ rfl, h 4 _ rfl⟩
theorem VSrc.at_ {w : World} {A : Option Addr} {n : Nat} {es : List Ev} (h : VSrc w A n es) {i : Nat} (hi : i < n) : ∃ g o, A = some ⟨g, o, none⟩ ∧ w.rangeAt g (o + i * 5) (es.getD i default).cells := by
  obtain ⟨g, o, e, hc⟩ := h.2 (by omega)
  exact ⟨g, o, e, hc i _ (by rw [List.getD_eq_getElem?_getD, List.getElem?_eq_getElem (by rw [h.1]; exact hi)]; rfl)⟩

theorem evs_ne {es fs : List Ev} {k : Nat} (h2 : es.getD k default ≠ fs.getD k default) : es ≠ fs := fun e => h2 (by rw [e])
theorem evs_eq {es fs : List Ev} (hl : es.length = fs.length) (h : ∀ k, k < es.length → es.getD k default = fs.getD k default) : es = fs := by
  apply List.ext_getElem hl
  intro k h1 h2
  have := h k h1
  rwa [List.getD_eq_getElem?_getD, List.getD_eq_getElem?_getD, List.getElem?_eq_getElem h1, List.getElem?_eq_getElem h2] at this

set_option maxRecDepth 100000 in
set_option maxHeartbeats 2000000 in
theorem events_any (w : World) (A B : Option Addr) (n m c d : Nat) (es fs : List Ev) (h1 : VSrc w A n es) (h2 : VSrc w B m fs) (hn : n ≤ 1000000) (hm : m ≤ 1000000) :
    Calls Try.prog 15 #[.slice A n c, .slice B m d] w fun e w' => e = .returned (.bool (decide (es = fs))) ∧ ∃ k, w' = w.drewN k := by
  by_cases hnm : n = m
  · subst hnm
    have hl : es.length = fs.length := h1.1.trans h2.1.symm
    have H := Lib.hid (And.intro h1 (And.intro h2 hl))
    clear h1 h2 hl
    go_enter Try.func15, Try.ntmps15
    go_wp2
    go_loopw [5] (fun iv wr => ∃ (k q : Nat), k ≤ n ∧ iv = .int .i64 (k : Int) ∧ wr = w.drewN q ∧ ∀ j, j < k → es.getD j default = fs.getD j default) (fun iv _ => n - (intOf iv).toNat)
    case atStart => exact ⟨0, 0, Nat.zero_le _, rfl, rfl, fun j hj => absurd hj (Nat.not_lt_zero _)⟩
    case round =>
      obtain ⟨k, q, hk, rfl, hwr, hall⟩ := hrel
      by_cases hlt : k < n
      · obtain ⟨g, o, rfl, hA⟩ := H.out.1.at_ hlt
        obtain ⟨g', o', rfl, hB⟩ := H.out.2.1.at_ hlt
        have hA2 : wr.rangeAt g (o + k * 5) (es.getD k default).cells := by rw [hwr]; exact hA
        have hB2 : wr.rangeAt g' (o' + k * 5) (fs.getD k default).cells := by rw [hwr]; exact hB
        obtain ⟨x, hx⟩ : ∃ x, x = es.getD k default := ⟨_, rfl⟩
        obtain ⟨y, hy⟩ : ∃ y, y = fs.getD k default := ⟨_, rfl⟩
        rw [← hx] at hA2
        rw [← hy] at hB2
        obtain ⟨a0, a1, a2, a3, a4⟩ := five_of hA2
        obtain ⟨b0, b1, b2, b3, b4⟩ := five_of hB2
        have e1 : (0 : Int) ≤ (k : Int) := by omega
        have e2 : (k : Int) < (n : Int) := by omega
        have qE := fun W => ev_equal x y W
        have qN := fun W => ev_neq x y W
        have HW := Lib.hid (show ∃ q, wr = w.drewN q from ⟨q, hwr⟩)
        have HX := Lib.hid (And.intro hx (And.intro hy hall))
        clear hA hB hA2 hB2 hwr hx hy hall
        generalize hb : decide (x = y) = b at *
        have HBB := Lib.hid hb
        clear hb
        cases b
        · have hne : decide (es = fs) = false := by
            simp only [decide_eq_false_iff_not]
            have hxy : ¬ x = y := by simpa using HBB.out
            rw [HX.out.1, HX.out.2.1] at hxy
            exact evs_ne hxy
          have HNE := Lib.hid hne
          clear hne
          go_wp2
          go_quiet (fail)
          go_wp2
          go_ret
          obtain ⟨q, hq⟩ := HW.out
          exact ⟨by rw [HNE.out]; rfl, q + nq, by rw [hq]; exact World.drewN_drewN _ _ _⟩
        · go_wp2
          go_quiet (fail)
          go_wp2
          go_roundw
          case rel =>
            obtain ⟨q, hq⟩ := HW.out
            refine ⟨k + 1, q + nq, by omega, by go_num, by rw [hq]; exact World.drewN_drewN _ _ _, fun j hj => ?_⟩
            rcases Nat.lt_or_ge j k with h | h
            · exact HX.out.2.2 j h
            · obtain rfl : j = k := by omega
              rw [← HX.out.1, ← HX.out.2.1]
              simpa using HBB.out
          case measure => simp [intOf]; omega
      · have he : decide (es = fs) = true := by
          simp only [decide_eq_true_eq]
          exact evs_eq H.out.2.2 (fun j hj => hall j (by rw [H.out.1.1] at hj; omega))
        have HE := Lib.hid he
        have HW := Lib.hid hwr
        clear he hall hwr
        go_wp2
        go_ret
        exact ⟨by rw [HE.out]; rfl, q, HW.out⟩
  · have hne : decide (es = fs) = false := by
      simp only [decide_eq_false_iff_not]
      intro e
      rw [← h1.1, ← h2.1, e] at hnm
      exact hnm rfl
    have HNE := Lib.hid hne
    have hnm2 : ((n : Int) == (m : Int)) = false := beq_eq_false_iff_ne.2 (by omega)
    have hnm3 : ¬ (n : Int) = (m : Int) := by omega
    clear hne h1 h2
    go_enter Try.func15, Try.ntmps15
    go_wp2
    go_ret
    exact ⟨by rw [HNE.out]; rfl, 0, rfl⟩

/-- Does an event stand behind another one? -/
def afterB (x y : Ev) : Bool := decide (aheadP y x)
set_option maxRecDepth 100000 in
set_option maxHeartbeats 2000000 in
theorem after5 (a b c d e a' b' c' d' e' : Int) (w : World) : Calls Try.prog 22 #[.agg #[.int .i64 a, .int .i64 b, .int .i64 c, .int .i64 d, .int .i64 e], .agg #[.int .i64 a', .int .i64 b', .int .i64 c', .int .i64 d', .int .i64 e']] w fun r w' => r = .returned (.bool (afterB ⟨a, b, c, d, e⟩ ⟨a', b', c', d', e'⟩)) ∧ Below w.heap.size w w' := by
  have hb : Below w.heap.size w ((w.alloc (.cells #[.int .i64 a, .int .i64 b, .int .i64 c, .int .i64 d, .int .i64 e] 36)).alloc (.cells #[.int .i64 a', .int .i64 b', .int .i64 c', .int .i64 d', .int .i64 e'] 36)) := ((Below.refl _ _).alloc (Nat.le_refl _) _).alloc (by simp) _
  have HB := Lib.hid hb
  have hq : ∀ z : Bool, (z = true ↔ aheadP ⟨a', b', c', d', e'⟩ ⟨a, b, c, d, e⟩) → afterB ⟨a, b, c, d, e⟩ ⟨a', b', c', d', e'⟩ = z := fun z hz => by
    unfold afterB
    rw [Bool.eq_iff_iff, decide_eq_true_eq]
    exact hz.symm
  have HQ := Lib.hid hq
  clear hb hq
  by_cases h1 : a = a'
  · subst h1
    by_cases h2 : b = b'
    · subst h2
      by_cases h3 : c = c'
      · subst h3
        go_enter Try.func22, Try.ntmps22
        go_wp2
        go_ret
        exact ⟨by rw [HQ.out (decide (d' < d)) (by simp [aheadP])]; rfl, HB.out⟩
      · have h4 : (c == c') = false := by simpa using h3
        go_enter Try.func22, Try.ntmps22
        go_wp2
        go_ret
        exact ⟨by rw [HQ.out (decide (c' < c)) (by simp [aheadP]; omega)]; rfl, HB.out⟩
    · have h4 : (b == b') = false := by simpa using h2
      go_enter Try.func22, Try.ntmps22
      go_wp2
      go_ret
      exact ⟨by rw [HQ.out (decide (b' < b)) (by simp [aheadP]; omega)]; rfl, HB.out⟩
  · have h4 : (a == a') = false := by simpa using h1
    go_enter Try.func22, Try.ntmps22
    go_wp2
    go_ret
    exact ⟨by rw [HQ.out (decide (a' < a)) (by simp [aheadP]; omega)]; rfl, HB.out⟩
theorem after_any (x y : Ev) (w : World) : Calls Try.prog 22 #[evV x, evV y] w fun r w' => r = .returned (.bool (afterB x y)) ∧ Below w.heap.size w w' := after5 x.t x.k x.n x.m x.v y.t y.k y.n y.m y.v w
end Go.Proofs.Ytchfponnajednaa
