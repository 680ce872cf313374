/- How a frame's bytes are heard, by a contract. No condition. -/
import Derived.Test.YtmplidgafdobkaaUFate
namespace Go.Proofs.Ytmplidgafdobkaa
open Go.RowKit Go.Shelf

theorem RSrc.take {α : Type} {cells : α → List Value} {k : Nat} {w : World} {A : Option Addr} {n c : Nat} {xs : List α} (h : RSrc cells k w ⟨A, n, c⟩ xs) (m : Nat) (hm : m ≤ n) : RSrc cells k w ⟨A, m, c⟩ (xs.take m) := by
  have hl : xs.length = n := h.len
  refine ⟨by rw [List.length_take]; show min m xs.length = m; omega, Nat.le_trans hm h.cap, h.max, h.no, fun h0 => ?_⟩
  have h0 : 0 < m := h0
  obtain ⟨g, o, e, hc⟩ := h.at_ (by show 0 < n; omega)
  refine ⟨g, o, e, fun i x hx => hc i x ?_⟩
  rw [List.getElem?_take] at hx
  split at hx
  · exact hx
  · cases hx
/-- Bytes in new memory. -/
def FreshB (w : World) (l : List UInt8) (e : Ending) (w' : World) : Prop := ∃ r : Sl, e = .returned r.v ∧ RSrc u8C 1 w' r l ∧ (∀ ad, r.A = some ad → w.heap.size ≤ ad.block) ∧ Below w.heap.size w w'
section
variable {w : World} {gb o : Nat} {a : SdA}
set_option maxRecDepth 100000 in
set_option maxHeartbeats 4000000 in
theorem heard_any (y : w.cell? ⟨gb, o + 2, none⟩ = some a.rw.v) (h : SdAt w a) (hm : a.rw.n ≤ 1000000) (d : Int) (lo cu : Bool) :
    Calls Try.prog 39 #[.pointer (some ⟨gb, o, none⟩), .agg #[.int .i64 d, .bool lo, .bool cu]] w (FreshB w (heardS a.s cu)) := by
  have hr := h.raw
  have hl := hr.len
  obtain ⟨⟨A, n, c⟩, hrw⟩ : ∃ s, s = a.rw := ⟨_, rfl⟩
  rw [← hrw] at y hr hl hm
  have hcap : n ≤ c := hr.cap
  have hcm : c ≤ 9223372036854775807 := hr.max
  have hno : A = none → c = 0 := hr.no
  unfold Sl.v at y
  simp only at hl hm
  have hb : Below w.heap.size w (w.alloc (.cells #[.int .i64 d, .bool lo, .bool cu] 47)) := (Below.refl _ _).alloc (Nat.le_refl _) _
  have bgb := World.block_lt_of_cell? _ _ y
  have hcl : ∀ m, m ≤ n → Calls Try.prog 31 #[.slice A m c] (w.alloc (.cells #[.int .i64 d, .bool lo, .bool cu] 47)) (FreshB (w.alloc (.cells #[.int .i64 d, .bool lo, .bool cu] 47)) (a.s.raw.take m)) := fun m hmn =>
    (clone_raw _ ⟨A, m, c⟩ _ ((hr.later hb).take m hmn) (by show m ≤ 1000000; omega)).mono fun e w' ⟨r, h1, h2, h3, h4⟩ => ⟨r, h1, h2, h3, h4⟩
  have HB := Lib.hid hb
  clear hr hrw h hb
  cases cu
  · have hc0 := hcl n (Nat.le_refl _)
    rw [List.take_of_length_le (by omega)] at hc0
    unfold heardS
    rw [if_neg (by decide)]
    have HC := Lib.hid hc0
    have e1 : ¬ ((c : Int) < (n : Int)) := by omega
    clear hcl hc0 hl
    cases A with
    | none =>
      obtain rfl := hno rfl
      obtain rfl : n = 0 := by omega
      go_enter Try.func39, Try.ntmps39
      go_wp2_with (go_at_call 31; refine HC.out.mono ?_; rintro e w1 ⟨r, rfl, h2, h3, h4⟩; have HR := Lib.hid (And.intro h2 (And.intro h3 h4)); clear h2 h3 h4)
      go_ret
      exact ⟨r, rfl, HR.out.1, fun ad e => Nat.le_trans (by simp) (HR.out.2.1 ad e), k_then HR.out.2.2 HB.out⟩
    | some ad =>
      go_enter Try.func39, Try.ntmps39
      go_wp2_with (go_at_call 31; refine HC.out.mono ?_; rintro e w1 ⟨r, rfl, h2, h3, h4⟩; have HR := Lib.hid (And.intro h2 (And.intro h3 h4)); clear h2 h3 h4)
      go_ret
      exact ⟨r, rfl, HR.out.1, fun ad e => Nat.le_trans (by simp) (HR.out.2.1 ad e), k_then HR.out.2.2 HB.out⟩
  · have hc0 := hcl (n - 1) (by omega)
    unfold heardS
    rw [if_pos rfl, hl]
    have HC := Lib.hid hc0
    clear hcl hc0 hl
    cases A with
    | none =>
      obtain rfl := hno rfl
      obtain rfl : n = 0 := by omega
      go_enter Try.func39, Try.ntmps39
      go_wp2_with (go_at_call 31; refine HC.out.mono ?_; rintro e w1 ⟨r, rfl, h2, h3, h4⟩; have HR := Lib.hid (And.intro h2 (And.intro h3 h4)); clear h2 h3 h4)
      go_ret
      exact ⟨r, rfl, HR.out.1, fun ad e => Nat.le_trans (by simp) (HR.out.2.1 ad e), k_then HR.out.2.2 HB.out⟩
    | some ad =>
      by_cases hn0 : n = 0
      · subst hn0
        go_enter Try.func39, Try.ntmps39
        go_wp2_with (go_at_call 31; refine HC.out.mono ?_; rintro e w1 ⟨r, rfl, h2, h3, h4⟩; have HR := Lib.hid (And.intro h2 (And.intro h3 h4)); clear h2 h3 h4)
        go_ret
        exact ⟨r, rfl, HR.out.1, fun ad e => Nat.le_trans (by simp) (HR.out.2.1 ad e), k_then HR.out.2.2 HB.out⟩
      · obtain ⟨m, rfl⟩ : ∃ m, n = m + 1 := ⟨n - 1, by omega⟩
        rw [Nat.add_sub_cancel] at HC
        rw [Nat.add_sub_cancel]
        have e1 : ¬ ((c : Int) < (m : Int)) := by omega
        go_enter Try.func39, Try.ntmps39
        go_wp2_with (go_at_call 31; refine HC.out.mono ?_; rintro e w1 ⟨r, rfl, h2, h3, h4⟩; have HR := Lib.hid (And.intro h2 (And.intro h3 h4)); clear h2 h3 h4)
        go_ret
        exact ⟨r, rfl, HR.out.1, fun ad e => Nat.le_trans (by simp) (HR.out.2.1 ad e), k_then HR.out.2.2 HB.out⟩
end
end Go.Proofs.Ytmplidgafdobkaa
