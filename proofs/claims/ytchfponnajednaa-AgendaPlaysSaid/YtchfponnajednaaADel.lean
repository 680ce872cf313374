/- What Drop asks of an entry; slices.IndexFunc and DeleteFunc with it: by contracts. No condition. -/
import Derived.Test.YtchfponnajednaaACopy
namespace Go.Proofs.Ytchfponnajednaa
open Go.RowKit Go.Shelf

def dropB (kind node : Int) (x : En) : Bool := decide (x.e.k = kind) && decide (x.e.n = node)

set_option maxRecDepth 100000 in
set_option maxHeartbeats 2000000 in
theorem dropFn_any (x : En) (bk bn : Nat) (kind node : Int) (w : World) (ck : w.cell? ⟨bk, 0, none⟩ = some (.int .i64 kind)) (cn : w.cell? ⟨bn, 0, none⟩ = some (.int .i64 node)) :
    Calls Try.prog 36 #[.agg #[.int .i64 x.e.t, .int .i64 x.e.k, .int .i64 x.e.n, .int .i64 x.e.m, .int .i64 x.e.v, .int .u64 (x.u : Int)], .pointer (some ⟨bk, 0, none⟩), .pointer (some ⟨bn, 0, none⟩)] w fun e w' => e = .returned (.bool (dropB kind node x)) ∧ Below w.heap.size w w' := by
  have hb : Below w.heap.size w (w.alloc (.cells #[.int .i64 x.e.t, .int .i64 x.e.k, .int .i64 x.e.n, .int .i64 x.e.m, .int .i64 x.e.v, .int .u64 (x.u : Int)] 70)) := (Below.refl _ _).alloc (Nat.le_refl _) _
  have HB := Lib.hid hb
  have hbk := World.block_lt_of_cell? w _ ck
  have hbn := World.block_lt_of_cell? w _ cn
  have hdb : dropB kind node x = (decide (x.e.k = kind) && decide (x.e.n = node)) := rfl
  have HD := Lib.hid hdb
  clear hb hdb
  generalize x.e.t = t at *
  generalize x.e.k = k at *
  generalize x.e.n = n at *
  generalize x.e.m = m at *
  generalize x.e.v = v at *
  generalize (x.u : Int) = u at *
  by_cases h1 : k = kind
  · subst h1
    by_cases h2 : n = node
    · subst h2
      have h3 : dropB k n x = true := by rw [HD.out]; simp
      rw [h3]
      clear h3
      go_enter Try.func36, Try.ntmps36
      go_wp2
      go_ret
      exact ⟨rfl, HB.out⟩
    · have h3 : dropB k node x = false := by rw [HD.out]; simp [h2]
      have h4 : (n == node) = false := by simpa using h2
      rw [h3]
      clear h3
      go_enter Try.func36, Try.ntmps36
      go_wp2
      go_ret
      exact ⟨rfl, HB.out⟩
  · have h3 : dropB kind node x = false := by rw [HD.out]; simp [h1]
    have h4 : (k == kind) = false := by simpa using h1
    rw [h3]
    clear h3
    go_enter Try.func36, Try.ntmps36
    go_wp2
    go_ret
    exact ⟨rfl, HB.out⟩

def dropV (bk bn : Nat) : Value := .func (.func 36) #[] #[.pointer (some ⟨bk, 0, none⟩), .pointer (some ⟨bn, 0, none⟩)]
/-- The first entry that is to be dropped, or none. -/
def FirstDrop (kind node : Int) (l : List En) (w : World) (e : Ending) (w' : World) : Prop :=
  Below w.heap.size w w' ∧ ((e = .returned (.int .i64 (-1)) ∧ ∀ x ∈ l, dropB kind node x = false) ∨
    ∃ i, i < l.length ∧ e = .returned (.int .i64 (i : Int)) ∧ dropB kind node (l.getD i default) = true ∧ ∀ k, k < i → dropB kind node (l.getD k default) = false)

set_option maxRecDepth 100000 in
set_option maxHeartbeats 2000000 in
theorem indexFn_any (w : World) (g cap n : Nat) (l : List En) (bk bn : Nat) (kind node : Int) (h : RowAt w g cap l) (hn : l.length = n) (hl : n ≤ 1000000) (ck : w.cell? ⟨bk, 0, none⟩ = some (.int .i64 kind)) (cn : w.cell? ⟨bn, 0, none⟩ = some (.int .i64 node)) :
    Calls Try.prog 42 #[.slice (some ⟨g, 0, none⟩) n cap, .func (.func 36) #[] #[.pointer (some ⟨bk, 0, none⟩), .pointer (some ⟨bn, 0, none⟩)]] w (FirstDrop kind node l w) := by
  have eg : ∀ args w, (callFunc 36 args).run Try.prog w = .ok (.enter 36 args) w := enters_of Try.func36 (by kernel_rfl) rfl
  have H := Lib.hid (And.intro h (And.intro ck (And.intro cn hn)))
  clear h ck cn hn
  go_enter Try.func42, Try.ntmps42
  go_wp2
  go_loopw [5, 8] (fun _ iv wr => ∃ k : Nat, k ≤ n ∧ iv = .int .i64 (k : Int) ∧ Below w.heap.size w wr ∧ ∀ j, j < k → dropB kind node (l.getD j default) = false) (fun _ iv _ => n - (intOf iv).toNat)
  case atStart => exact ⟨0, Nat.zero_le _, rfl, Below.refl _ _, fun j hj => absurd hj (Nat.not_lt_zero _)⟩
  case round =>
    obtain ⟨k, hk, rfl, hb, hno⟩ := hrel
    by_cases hlt : k < n
    · obtain ⟨x, hx⟩ : ∃ x, x = l.getD k default := ⟨_, rfl⟩
      have hR := H.out.1.later hb
      have hcx := hR.cells k _ (getD_some (by rw [H.out.2.2.2]; exact hlt))
      rw [← hx] at hcx
      obtain ⟨a0, a1, a2, a3, a4, a5⟩ := six_of hcx
      have hd := dropFn_any x bk bn kind node wr (k_cell hb H.out.2.1) (k_cell hb H.out.2.2.1)
      have HB := Lib.hid hb
      have HNO := Lib.hid hno
      have HX := Lib.hid hx
      clear hb hno hR hcx hx
      cases hq : dropB kind node x
      · rw [hq] at hd
        have HD := Lib.hid hd
        have HQ := Lib.hid hq
        clear hd hq
        go_wp2_with fail
        refine HD.out.mono ?_
        rintro e w2 ⟨rfl, hb2⟩
        have HB2 := Lib.hid (k_then hb2 HB.out)
        clear hb2 HD a0 a1 a2 a3 a4 a5
        go_wp2
        go_roundw
        case rel =>
          refine ⟨k + 1, by omega, by go_num, HB2.out, fun j hj => ?_⟩
          rcases Nat.lt_or_ge j k with h1 | h1
          · exact HNO.out j h1
          · obtain rfl : j = k := by omega
            rw [← HX.out]
            exact HQ.out
        case measure => simp [intOf]; omega
      · rw [hq] at hd
        have HD := Lib.hid hd
        have HQ := Lib.hid hq
        clear hd hq
        go_wp2_with fail
        refine HD.out.mono ?_
        rintro e w2 ⟨rfl, hb2⟩
        have HB2 := Lib.hid (k_then hb2 HB.out)
        clear hb2 HD a0 a1 a2 a3 a4 a5
        go_wp2
        go_ret
        exact ⟨HB2.out, .inr ⟨k, by rw [H.out.2.2.2]; exact hlt, rfl, by rw [← HX.out]; exact HQ.out, HNO.out⟩⟩
    · have HB := Lib.hid hb
      have HNO := Lib.hid hno
      clear hb hno
      go_wp2
      go_ret
      refine ⟨HB.out, .inl ⟨rfl, fun x hx => ?_⟩⟩
      obtain ⟨j, hj, e⟩ := List.getElem_of_mem hx
      have := HNO.out j (by have := H.out.2.2.2; omega)
      rwa [List.getD_eq_getElem?_getD, List.getElem?_eq_getElem hj, Option.getD_some, e] at this
set_option maxHeartbeats 1000000 in
theorem indexNo_any (w : World) (A : Option Addr) (c : Nat) (f : Value) : Calls Try.prog 42 #[.slice A 0 c, f] w fun e w' => e = .returned (.int .i64 (-1)) ∧ w' = w := by
  go_enter Try.func42, Try.ntmps42
  go_wp2
  refine wp_loop_rounds 1 ?_
  rw [rounds_succ]
  go_wp2
  go_ret
  exact ⟨rfl, rfl⟩

/-- In the midst of DeleteFunc: i entries are kept of the first j. -/
structure DelAt (q : En → Bool) (l lk : List En) (i j : Nat) : Prop where
  len : lk.length = l.length
  lt : i < j
  done : lk.take i = (l.take j).filter q
  rest : ∀ k, j ≤ k → lk.getD k default = l.getD k default
theorem filter_first {q : En → Bool} {l : List En} {i : Nat} (h : ∀ k, k < i → q (l.getD k default) = true) (hi : i ≤ l.length) : (l.take i).filter q = l.take i := by
  rw [List.filter_eq_self]
  intro x hx
  obtain ⟨k, hk, e⟩ := List.getElem_of_mem hx
  rw [List.length_take] at hk
  have := h k (by omega)
  rw [List.getD_eq_getElem?_getD, List.getElem?_eq_getElem (by omega), Option.getD_some] at this
  rw [List.getElem_take] at e
  rw [← e]
  exact this
theorem filter_one (q : En → Bool) (x : En) : [x].filter q = if q x then [x] else [] := by
  rw [List.filter_cons]; rfl
theorem take_snocE {l : List En} {j : Nat} (h : j < l.length) : l.take (j + 1) = l.take j ++ [l.getD j default] := by
  rw [List.take_succ_eq_append_getElem h, List.getD_eq_getElem?_getD, List.getElem?_eq_getElem h]; rfl
theorem DelAt.start {q : En → Bool} {l : List En} {i : Nat} (h : ∀ k, k < i → q (l.getD k default) = true) (hi : i < l.length) (hd : q (l.getD i default) = false) : DelAt q l l i (i + 1) :=
  ⟨rfl, Nat.lt_succ_self _, by rw [take_snocE hi, List.filter_append, filter_first h (by omega), filter_one, hd]; simp, fun _ _ => rfl⟩
theorem DelAt.skip {q : En → Bool} {l lk : List En} {i j : Nat} (h : DelAt q l lk i j) (hj : j < l.length) (hd : q (l.getD j default) = false) : DelAt q l lk i (j + 1) :=
  ⟨h.len, Nat.lt_succ_of_lt h.lt, by rw [h.done, take_snocE hj, List.filter_append, filter_one, hd]; simp, fun k hk => h.rest k (by omega)⟩
theorem DelAt.keep {q : En → Bool} {l lk : List En} {i j : Nat} (h : DelAt q l lk i j) (hj : j < l.length) (hd : q (l.getD j default) = true) : DelAt q l (lk.set i (l.getD j default)) (i + 1) (j + 1) := by
  have hl := h.len
  have hlt := h.lt
  refine ⟨by rw [List.length_set, hl], Nat.succ_lt_succ h.lt, ?_, fun k hk => ?_⟩
  · rw [take_snocE hj, List.filter_append, ← h.done, take_snocE (by rw [List.length_set]; omega), List.take_set_of_le (Nat.le_refl _)]
    have : (lk.set i (l.getD j default)).getD i default = l.getD j default := by
      rw [List.getD_eq_getElem?_getD, List.getElem?_set_self (by omega)]; rfl
    rw [this, filter_one, hd]
    rfl
  · have := h.rest k (by omega)
    rw [← this, List.getD_eq_getElem?_getD, List.getElem?_set_ne (by omega), ← List.getD_eq_getElem?_getD]

theorem zeros_one (n : Nat) : ∀ v ∈ (Builtin.zeroCells #[.int .i64 0, .int .i64 0, .int .i64 0, .int .i64 0, .int .i64 0, .int .u64 0] n).toList, v.oneCell' = true := by
  intro v hv
  simp only [Builtin.zeroCells, Array.toList_map, List.mem_map] at hv
  obtain ⟨i, _, rfl⟩ := hv
  have : i % 6 < 6 := Nat.mod_lt _ (by decide)
  show ((#[Value.int .i64 0, .int .i64 0, .int .i64 0, .int .i64 0, .int .i64 0, .int .u64 0] : Array Value)[i % 6]!).oneCell' = true
  generalize i % 6 = k at *
  have : k = 0 ∨ k = 1 ∨ k = 2 ∨ k = 3 ∨ k = 4 ∨ k = 5 := by omega
  rcases this with rfl | rfl | rfl | rfl | rfl | rfl <;> rfl
theorem zeros_length (n : Nat) : (Builtin.zeroCells #[.int .i64 0, .int .i64 0, .int .i64 0, .int .i64 0, .int .i64 0, .int .u64 0] n).toList.length = n * 6 := by
  rw [Array.length_toList, size_zeroCells]; rfl
theorem run_clear_row {w : World} {g cap : Nat} {l : List En} (h : RowAt w g cap l) (i n c : Nat) (hn : 0 < n) (hi : i + n ≤ cap) (ty : TypeId) :
    (Builtin.clear_ #[60] ty #[.slice (some ⟨g, i * 6, none⟩) n c]).run Try.prog w = .ok (.tuple #[]) (w.setCells g (i * 6) (Builtin.zeroCells #[.int .i64 0, .int .i64 0, .int .i64 0, .int .i64 0, .int .i64 0, .int .u64 0] n).toList) := by
  have hth : ∀ j, j < n * 6 → (w.cell? ⟨g, i * 6 + j, none⟩).isSome = true ∧ w.frozen? ⟨g, i * 6 + j, none⟩ = false := by
    intro j hj
    have := h.there (i + j / 6) (by omega) (j % 6) (Nat.mod_lt _ (by decide))
    rwa [show (i + j / 6) * 6 + j % 6 = i * 6 + j by omega] at this
  have hst := run_storeCells_cells (P := Try.prog) g (i * 6) (Builtin.zeroCells #[.int .i64 0, .int .i64 0, .int .i64 0, .int .i64 0, .int .i64 0, .int .u64 0] n).toList 0 w
    (fun j hj => by rw [zeros_length] at hj; simpa using (hth j hj).1) (fun j hj => by rw [zeros_length] at hj; simpa using (hth j hj).2) (zeros_one n)
  simp only [Nat.add_zero] at hst
  have hz : ∀ w, (zeroValue 70).run Try.prog w = .ok (.agg #[.int .i64 0, .int .i64 0, .int .i64 0, .int .i64 0, .int .i64 0, .int .u64 0]) w := fun w => by kernel_rfl
  obtain ⟨m, rfl⟩ : ∃ m, n = m + 1 := ⟨n - 1, by omega⟩
  simp only [Builtin.clear_]
  simp [run_underlying Try.underlying60, hz, Value.cells, hst]
theorem RowAt.wipe {w : World} {g cap : Nat} {l : List En} (h : RowAt w g cap l) (i : Nat) (hi : i ≤ l.length) (vs : List Value) : RowAt (w.setCells g (i * 6) vs) g cap (l.take i) := by
  obtain ⟨cur, hc, hs⟩ := h.room
  obtain ⟨cur', hc', hs'⟩ := setCells_row g 70 vs (i * 6) w cur hc
  refine ⟨⟨cur', hc', hs'.trans hs⟩, fun k x hx => ?_, by rw [List.length_take]; have := h.fits; omega, h.small⟩
  have hk : k < i := by
    have := (List.getElem?_eq_some_iff.1 hx).1
    rw [List.length_take] at this
    omega
  rw [List.getElem?_take, if_pos hk] at hx
  refine World.rangeAt_setCells_apart (h.cells k x hx) _ _ _ (.inr (.inl ?_))
  rw [En.cells_length]
  omega
end Go.Proofs.Ytchfponnajednaa
