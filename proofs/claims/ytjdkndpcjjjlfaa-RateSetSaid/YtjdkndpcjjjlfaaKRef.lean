/- The first doubt that is right, of a row of doubts: by a contract. No condition. -/
import Derived.Test.YtjdkndpcjjjlfaaKBey
namespace Go.Proofs.Ytjdkndpcjjjlfaa
open Go.RowKit Go.Shelf

def refE (b : Bool) : Int := if b then 60 else 0
theorem refE_ne (b : Bool) : (refE b != 0) = b := by cases b <;> rfl

set_option maxHeartbeats 1000000 in
theorem refused_any (l : List (Value × Bool)) (g c : Nat) (w : World) (hn : l.length ≤ 4) (hc : ∀ i (h : i < l.length), w.cell? ⟨g, i, none⟩ = some (l[i]).1) (hd : ∀ x ∈ l, Doubt Try.prog w x.1 x.2) :
    Calls Try.prog 29 #[.slice (some ⟨g, 0, none⟩) l.length c] w fun e w' => e = .returned (.int .i64 (refE (l.any (·.2)))) ∧ Below w.heap.size w w' := by
  go_enter Try.func29, Try.ntmps29
  go_wp2
  go_loopw [7] (fun i V => ∃ k : Nat, k ≤ l.length ∧ i = .int .i64 (k : Int) ∧ Below w.heap.size w V ∧ ∀ j (h : j < l.length), j < k → (l[j]).2 = false) (fun i _ => l.length - (intOf i).toNat)
  case atStart => exact ⟨0, Nat.zero_le _, rfl, Below.refl _ _, fun j _ h => absurd h (by omega)⟩
  case round =>
    obtain ⟨k, hk, rfl, hbl, hf⟩ := hrel
    by_cases hlt : k < l.length
    · obtain ⟨fk, cap, hv, hent, hcall⟩ := hd _ (List.getElem_mem hlt)
      have hcell := k_cell hbl (hc k hlt)
      rw [hv] at hcell
      have hcl := hcall _ hbl
      clear hcall hv hc hd
      have hen : ∀ (args : Array Value) (W : World), (callFunc fk args).run Try.prog W = .ok (.enter fk args) W := hent
      have HF := Lib.hid hf
      clear hf
      cases hb : (l[k]).2
      · rw [hb] at hcl
        have HB := Lib.hid hb
        clear hb
        go_wp2_with fail
        refine hcl.mono ?_
        rintro e w2 ⟨rfl, hb2⟩
        have hb3 := k_then hb2 hbl
        go_wp2
        go_round
        case rel =>
          refine ⟨k + 1, by omega, by go_num, hb3, fun j hj hjk => ?_⟩
          by_cases e : j = k
          · subst e; exact HB.out
          · exact HF.out j hj (by omega)
        case measure => simp [intOf]; omega
      · rw [hb] at hcl
        have HA := Lib.hid (show l.any (·.2) = true from List.any_eq_true.2 ⟨_, List.getElem_mem hlt, hb⟩)
        clear hb
        go_wp2_with fail
        refine hcl.mono ?_
        rintro e w2 ⟨rfl, hb2⟩
        have hb3 := k_then hb2 hbl
        go_wp2
        go_ret
        exact ⟨by rw [HA.out]; rfl, hb3⟩
    · obtain rfl : k = l.length := by omega
      have HA := Lib.hid (show l.any (·.2) = false from by
        rw [List.any_eq_false]
        intro x hx
        obtain ⟨j, hj, rfl⟩ := List.getElem_of_mem hx
        simp [hf j hj hj])
      clear hf hd hc
      go_wp2
      go_ret
      exact ⟨by rw [HA.out]; rfl, hbl⟩

theorem refused1 (v1 : Value) (b1 : Bool) (g c : Nat) (t : TypeId) (w : World) (hW : Whole w g t #[v1]) (h1 : Doubt Try.prog w v1 b1) :
    Calls Try.prog 29 #[.slice (some ⟨g, 0, none⟩) 1 c] w fun e w' => e = .returned (.int .i64 (refE b1)) ∧ Below w.heap.size w w' := by
  have h := refused_any [(v1, b1)] g c w (by simp) (fun i hi => (hW.cell i).trans (by
    obtain rfl : i = 0 := by simp at hi; omega
    rfl)) (fun x hx => by simp at hx; subst hx; exact h1)
  simpa using h
theorem refused2 (v1 v2 : Value) (b1 b2 : Bool) (g c : Nat) (t : TypeId) (w : World) (hW : Whole w g t #[v1, v2]) (h1 : Doubt Try.prog w v1 b1) (h2 : Doubt Try.prog w v2 b2) :
    Calls Try.prog 29 #[.slice (some ⟨g, 0, none⟩) 2 c] w fun e w' => e = .returned (.int .i64 (refE (b1 || b2))) ∧ Below w.heap.size w w' := by
  have h := refused_any [(v1, b1), (v2, b2)] g c w (by simp) (fun i hi => (hW.cell i).trans (by
    have : i = 0 ∨ i = 1 := by simp at hi; omega
    rcases this with rfl | rfl <;> rfl)) (fun x hx => by simp at hx; rcases hx with rfl | rfl <;> assumption)
  simpa using h
theorem refused3 (v1 v2 v3 : Value) (b1 b2 b3 : Bool) (g c : Nat) (t : TypeId) (w : World) (hW : Whole w g t #[v1, v2, v3]) (h1 : Doubt Try.prog w v1 b1) (h2 : Doubt Try.prog w v2 b2) (h3 : Doubt Try.prog w v3 b3) :
    Calls Try.prog 29 #[.slice (some ⟨g, 0, none⟩) 3 c] w fun e w' => e = .returned (.int .i64 (refE (b1 || (b2 || b3)))) ∧ Below w.heap.size w w' := by
  have h := refused_any [(v1, b1), (v2, b2), (v3, b3)] g c w (by simp) (fun i hi => (hW.cell i).trans (by
    have : i = 0 ∨ i = 1 ∨ i = 2 := by simp at hi; omega
    rcases this with rfl | rfl | rfl <;> rfl)) (fun x hx => by simp at hx; rcases hx with rfl | rfl | rfl <;> assumption)
  simpa using h

end Go.Proofs.Ytjdkndpcjjjlfaa
