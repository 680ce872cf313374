/- A list of calls that came in, and the guard great over it. -/
import Derived.Test.YtloeckflcdnmaaaOct
namespace Go.Proofs.Ytloeckflcdnmaaa
open Go.RowKit

/-- A call, as data. -/
structure OpD where
  kind : Int
  n : Int
  v : Nat
  b : List UInt8

/-- A call's four cells at place p of block g. -/
def OpAt (w : World) (g p : Nat) (x : OpD) : Prop :=
  x.v < 18446744073709551616 ∧ w.cell? ⟨g, p, none⟩ = some (.int .i64 x.kind) ∧ w.cell? ⟨g, p + 1, none⟩ = some (.int .i64 x.n) ∧ w.cell? ⟨g, p + 2, none⟩ = some (.int .u64 (x.v : Int)) ∧
    ∃ B c, w.cell? ⟨g, p + 3, none⟩ = some (.slice B x.b.length c) ∧ Src w B x.b.length x.b ∧ (B = none → c = 0) ∧ x.b.length ≤ 140737488351232 ∧ (0 < x.b.length → ∀ ad, B = some ad → ad.block < w.heap.size)

/-- The slice with address A, of n elements, reads as the calls xs. -/
def Ops (w : World) (A : Option Addr) (n : Nat) (xs : List OpD) : Prop :=
  xs.length = n ∧ (0 < n → ∃ g o, A = some ⟨g, o, none⟩ ∧ g < w.heap.size ∧ ∀ i (h : i < xs.length), OpAt w g (o + i * 4) xs[i])

theorem OpAt.below {w w' : World} {g p : Nat} {x : OpD} (h : OpAt w g p x) (hg : g < w.heap.size) (hb : Below w.heap.size w w') : OpAt w' g p x := by
  obtain ⟨h0, h1, h2, h3, B, c, h4, h5, h6, h7, h8⟩ := h
  refine ⟨h0, (hb.cell (p := ⟨g, p, none⟩) hg).trans h1, (hb.cell (p := ⟨g, p + 1, none⟩) hg).trans h2, (hb.cell (p := ⟨g, p + 2, none⟩) hg).trans h3, B, c, (hb.cell (p := ⟨g, p + 3, none⟩) hg).trans h4, h5.below hb, h6, h7, fun h0 ad e => Nat.lt_of_lt_of_le (h8 h0 ad e) hb.size⟩

def opsSum (xs : List OpD) : Nat := xs.foldl (fun a x => a + x.b.length) 0
theorem opsSum_snoc (xs : List OpD) (x : OpD) : opsSum (xs ++ [x]) = opsSum xs + x.b.length := by simp [opsSum]
theorem opsSum_le (xs : List OpD) (h : ∀ x ∈ xs, x.b.length ≤ 140737488351232) : opsSum xs ≤ 140737488351232 * xs.length := by
  rw [← List.reverse_reverse xs] at *
  generalize xs.reverse = ys at *
  induction ys with
  | nil => simp [opsSum]
  | cons y ys ih =>
    rw [List.reverse_cons, opsSum_snoc, List.length_append, List.length_singleton, Nat.mul_add]
    have h1 := ih (fun x hx => h x (by rw [List.reverse_cons]; exact List.mem_append_left _ hx))
    have h2 := h y (by rw [List.reverse_cons]; exact List.mem_append_right _ (by simp))
    omega

def greatB (xs : List OpD) : Bool := decide (100 < xs.length) || decide (20000 < opsSum xs)

/-- Past a hundred calls great says yes, whatever their bytes. -/
theorem great_long (A : Option Addr) (n c : Nat) (xs : List OpD) (w : World) (h : Ops w A n xs) (hn : n ≤ 9223372036854775807) (h1 : 100 < n) :
    Calls Try.prog 9 #[.slice A n c] w fun e w' => e = .returned (.bool true) ∧ w = w' := by
  obtain ⟨rfl, hx⟩ := h
  obtain ⟨g, o, rfl, hg, hat⟩ := hx (by omega)
  go_enter Try.func9, Try.ntmps9
  go_wp2
  go_loop [3, 4, 7] (fun t _ k => ∃ (z : Int) (j : Nat), t = .int .i64 z ∧ j ≤ xs.length ∧ k = .int .i64 (j : Int)) (fun _ _ k => xs.length - (intOf k).toNat)
  case atStart => exact ⟨0, 0, rfl, Nat.zero_le _, rfl⟩
  case round =>
    obtain ⟨z, j, rfl, hj, rfl⟩ := hrel
    by_cases hlt : j < xs.length
    · obtain ⟨_, _, _, _, B, c', hc, _⟩ := hat j hlt
      go_wp2
      exact ⟨⟨_, j + 1, rfl, by omega, by go_num⟩, by simp [intOf]; omega⟩
    · go_wp2
      go_ret
      exact ⟨rfl, rfl⟩

theorem great_short (A : Option Addr) (n c : Nat) (xs : List OpD) (w : World) (h : Ops w A n xs) (h1 : n ≤ 100) :
    Calls Try.prog 9 #[.slice A n c] w fun e w' => e = .returned (.bool (decide (20000 < opsSum xs))) ∧ w = w' := by
  obtain ⟨rfl, hx⟩ := h
  go_enter Try.func9, Try.ntmps9
  go_wp2
  go_loop [3, 4, 7] (fun t _ k => ∃ j : Nat, t = .int .i64 (opsSum (xs.take j) : Int) ∧ j ≤ xs.length ∧ k = .int .i64 (j : Int)) (fun _ _ k => xs.length - (intOf k).toNat)
  case atStart => exact ⟨0, rfl, Nat.zero_le _, rfl⟩
  case round =>
    obtain ⟨j, rfl, hj, rfl⟩ := hrel
    by_cases hlt : j < xs.length
    · obtain ⟨g, o, rfl, hg, hat⟩ := hx (by omega)
      have hs := opsSum_le (xs.take j) (fun x hm => by
        obtain ⟨i, hi, rfl⟩ := List.getElem_of_mem (List.mem_of_mem_take hm)
        obtain ⟨_, _, _, _, B, c', _, _, _, h7, _⟩ := hat i hi
        exact h7)
      rw [List.length_take] at hs
      obtain ⟨_, _, _, _, B, c', hc, _, _, h7, _⟩ := hat j hlt
      have HS := Lib.hid (show opsSum (xs.take (j + 1)) = opsSum (xs.take j) + xs[j].b.length from by rw [List.take_succ_eq_append_getElem hlt, opsSum_snoc])
      have hle : opsSum (xs.take j) ≤ 14073748835123200 := by omega
      clear hs hat hx
      generalize opsSum (xs.take j) = t at *
      go_wp2
      exact ⟨⟨j + 1, by rw [HS.out]; go_num, by omega, by go_num⟩, by simp [intOf]; omega⟩
    · have e : xs.take j = xs := List.take_of_length_le (by omega)
      rw [e]
      have hb : decide (100 < xs.length) = false := by simpa using h1
      go_wp2
      go_ret
      refine ⟨?_, rfl⟩
      show Ending.returned (.bool (decide (100 < (xs.length : Int)) || decide (20000 < (opsSum xs : Int)))) = _
      rw [show decide (100 < (xs.length : Int)) = false from by simp; omega, Bool.false_or, show decide (20000 < (opsSum xs : Int)) = decide (20000 < opsSum xs) from decide_eq_decide.2 (by omega)]

theorem great_any (A : Option Addr) (n c : Nat) (xs : List OpD) (w : World) (h : Ops w A n xs) (hn : n ≤ 9223372036854775807) :
    Calls Try.prog 9 #[.slice A n c] w fun e w' => e = .returned (.bool (greatB xs)) ∧ w = w' := by
  have hl := h.1
  by_cases h1 : 100 < n
  · have e : greatB xs = true := by simp only [greatB, hl, decide_eq_true h1, Bool.true_or]
    rw [e]
    exact great_long A n c xs w h hn h1
  · have e : greatB xs = decide (20000 < opsSum xs) := by simp only [greatB, hl, decide_eq_false h1, Bool.false_or]
    rw [e]
    exact great_short A n c xs w h (by omega)

theorem not_great {xs : List OpD} (h : greatB xs = false) : xs.length ≤ 100 ∧ opsSum xs ≤ 20000 := by
  simp [greatB] at h
  omega

end Go.Proofs.Ytloeckflcdnmaaa
