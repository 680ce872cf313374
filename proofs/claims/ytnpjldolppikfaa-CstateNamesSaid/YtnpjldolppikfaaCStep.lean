/- Among n nodes; the successor of a C-state: the program's and the document's, each by a contract. -/
import Derived.Test.YtnpjldolppikfaaCChk
namespace Go.Proofs.Ytnpjldolppikfaa
open Go.RowKit

theorem bcell {W w1 : World} (hb : Below W.heap.size W w1) : (∀ b o, b < W.heap.size → w1.cell? ⟨b, o, none⟩ = W.cell? ⟨b, o, none⟩) ∧ (∀ b o, b < W.heap.size → w1.frozen? ⟨b, o, none⟩ = W.frozen? ⟨b, o, none⟩) :=
  ⟨fun b o h => hb.cell (p := ⟨b, o, none⟩) h, fun b o h => hb.frozen (p := ⟨b, o, none⟩) h⟩

/-- A block of four cells. -/
theorem Whole.four {w : World} {g : Nat} {t : TypeId} {a b c d : Value} (h : Whole w g t #[a, b, c, d]) :
    w.cell? ⟨g, 0, none⟩ = some a ∧ w.cell? ⟨g, 1, none⟩ = some b ∧ w.cell? ⟨g, 2, none⟩ = some c ∧ w.cell? ⟨g, 3, none⟩ = some d ∧ ∀ i, w.frozen? ⟨g, i, none⟩ = false :=
  ⟨h.cell 0, h.cell 1, h.cell 2, h.cell 3, h.frozen⟩

theorem Whole.later {w w' : World} {g : Nat} {t : TypeId} {cs : Array Value} (h : Whole w g t cs) (hk : Below w.heap.size w w') : Whole w' g t cs := h.below hk h.lt

theorem whole_later {w w' : World} {g : Nat} {t : TypeId} {cs : Array Value} (hk : Below w.heap.size w w') (h : Whole w g t cs) : Whole w' g t cs := h.below hk h.lt
theorem below_then {a b c : World} (h2 : Below b.heap.size b c) (h1 : Below a.heap.size a b) : Below a.heap.size a c := h1.trans (h2.mono h1.size)

def sucB (r s m n : Int) : Bool := amongB r s m n && !(decide (r = 2147483647) && decide (s = n - 1))
def sucR (r s m n : Int) : Int := if sucB r s m n then (if s = n - 1 then r + 1 else r) else 0
def sucS (r s m n : Int) : Int := if sucB r s m n then (if s = n - 1 then 0 else s + 1) else 0
def sucM (r s m n : Int) : Int := if sucB r s m n then m else 0
def sucV (r s m n v : Int) : Int := if sucB r s m n then v else 0
def sucE (r s m n : Int) : Int := if sucB r s m n then 0 else 40
def csv (r s m v : Int) : Value := .agg #[.int .i64 r, .int .i64 s, .int .i64 m, .int .u16 v]
def sucT (r s m n v : Int) : Value := .tuple #[csv (sucR r s m n) (sucS r s m n) (sucM r s m n) (sucV r s m n v), .int .i64 (sucE r s m n)]

theorem amongB_yes {r s m n : Int} (h : amongB r s m n = true) : (1 ≤ n ∧ n ≤ 16) ∧ s < n ∧ okC r s m = true := by
  simp only [amongB, Bool.and_eq_true, decide_eq_true_eq] at h
  exact ⟨h.1.1, h.1.2, h.2⟩
theorem amongE_yes {r s m n : Int} (h : amongB r s m n = true) : amongE r s m n = 0 := by simp [amongE, h]
theorem amongE_no {r s m n : Int} (h : amongB r s m n = false) : amongE r s m n = 40 := by simp [amongE, h]

set_option maxHeartbeats 1000000 in
theorem among_any (r s m v n : Int) (w : World) : Calls Try.prog 43 #[.agg #[.int .i64 r, .int .i64 s, .int .i64 m, .int .u16 v], .int .i64 n] w fun e w' => e = .returned (.int .i64 (amongE r s m n)) ∧ Below w.heap.size w w' := by
  have hb : Below w.heap.size w (w.alloc (.cells #[.int .i64 r, .int .i64 s, .int .i64 m, .int .u16 v] 25)) := (Below.refl _ _).alloc (Nat.le_refl _) _
  by_cases a1 : n < 1
  · have HA := Lib.hid (show amongE r s m n = 40 from amongE_no (by simp [amongB]; intro h; omega))
    go_enter Try.func43, Try.ntmps43
    go_wp2
    go_ret
    exact ⟨by rw [HA.out]; rfl, hb⟩
  have d1 : decide (n < 1) = false := decide_eq_false a1
  by_cases a2 : 16 < n
  · have HA := Lib.hid (show amongE r s m n = 40 from amongE_no (by simp [amongB]; intro h; omega))
    clear a1
    go_enter Try.func43, Try.ntmps43
    go_wp2
    go_ret
    exact ⟨by rw [HA.out]; rfl, hb⟩
  have d2 : decide (16 < n) = false := decide_eq_false a2
  by_cases a3 : n ≤ s
  · have HA := Lib.hid (show amongE r s m n = 40 from amongE_no (by simp [amongB]; intro _ _ h; omega))
    clear a1 a2
    go_enter Try.func43, Try.ntmps43
    go_wp2
    go_ret
    exact ⟨by rw [HA.out]; rfl, hb⟩
  · have d3 : decide (n ≤ s) = false := decide_eq_false a3
    have HA := Lib.hid (show amongE r s m n = chkC r s m from by
      have h1 : 1 ≤ n := by omega
      have h2 : n ≤ 16 := by omega
      have h3 : s < n := by omega
      simp [amongE, amongB, chkC, h1, h2, h3])
    clear a1 a2 a3
    go_enter Try.func43, Try.ntmps43
    go_wp2_with (go_at_call 16; refine (check_any _ _ _ _ _).mono ?_; rintro e w' ⟨rfl, hb2⟩; have hb3 := hb.trans (hb2.mono hb.size))
    go_ret
    exact ⟨by rw [HA.out]; rfl, hb3⟩

set_option maxHeartbeats 1000000 in
theorem fits4_any (r s m v n : Int) (w : World) : Calls Try.prog 44 #[.agg #[.int .i64 r, .int .i64 s, .int .i64 m, .int .u16 v], .int .i64 n] w fun e w' => e = .returned (.bool (amongB r s m n)) ∧ Below w.heap.size w w' := by
  have hb : Below w.heap.size w (w.alloc (.cells #[.int .i64 r, .int .i64 s, .int .i64 m, .int .u16 v] 25)) := (Below.refl _ _).alloc (Nat.le_refl _) _
  by_cases a1 : 1 ≤ n
  · by_cases a2 : n ≤ 16
    · cases h : okC r s m
      · have HK := Lib.hid (show chkC r s m = 40 from by simp [chkC, h])
        have HA := Lib.hid (show amongB r s m n = false from by simp [amongB, h])
        go_enter Try.func44, Try.ntmps44
        go_wp2_with (go_at_call 17; refine (refCheck_any _ _ _ _ _).mono ?_; rintro e w' ⟨rfl, hb2⟩; rw [HK.out]; have hb3 := hb.trans (hb2.mono hb.size); obtain ⟨hc, hf⟩ := bcell hb2; have hz := hb2.size; simp at hz)
        go_ret
        exact ⟨by rw [HA.out]; rfl, hb3⟩
      · have HK := Lib.hid (show chkC r s m = 0 from by simp [chkC, h])
        by_cases a3 : s < n
        · have HA := Lib.hid (show amongB r s m n = true from by simp [amongB, h, a1, a2, a3])
          clear h
          go_enter Try.func44, Try.ntmps44
          go_wp2_with (go_at_call 17; refine (refCheck_any _ _ _ _ _).mono ?_; rintro e w' ⟨rfl, hb2⟩; rw [HK.out]; have hb3 := hb.trans (hb2.mono hb.size); obtain ⟨hc, hf⟩ := bcell hb2; have hz := hb2.size; simp at hz)
          go_ret
          exact ⟨by rw [HA.out]; rfl, hb3⟩
        · have HA := Lib.hid (show amongB r s m n = false from by simp [amongB, a3])
          have d3 : decide (s < n) = false := decide_eq_false a3
          clear h
          go_enter Try.func44, Try.ntmps44
          go_wp2_with (go_at_call 17; refine (refCheck_any _ _ _ _ _).mono ?_; rintro e w' ⟨rfl, hb2⟩; rw [HK.out]; have hb3 := hb.trans (hb2.mono hb.size); obtain ⟨hc, hf⟩ := bcell hb2; have hz := hb2.size; simp at hz)
          go_ret
          exact ⟨by rw [HA.out]; rfl, hb3⟩
    · have HA := Lib.hid (show amongB r s m n = false from by simp [amongB, a2])
      have d2 : decide (n ≤ 16) = false := decide_eq_false a2
      go_enter Try.func44, Try.ntmps44
      go_wp2
      go_ret
      exact ⟨by rw [HA.out]; rfl, hb⟩
  · have HA := Lib.hid (show amongB r s m n = false from by simp [amongB, a1])
    have d2 : decide (1 ≤ n) = false := decide_eq_false a1
    go_enter Try.func44, Try.ntmps44
    go_wp2
    go_ret
    exact ⟨by rw [HA.out]; rfl, hb⟩

end Go.Proofs.Ytnpjldolppikfaa
