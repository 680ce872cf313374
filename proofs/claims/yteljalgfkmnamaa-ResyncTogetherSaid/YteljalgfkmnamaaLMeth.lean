/- Each condition's method, where the conditions ahead of it hold: one contract for all. -/
import Derived.Test.YteljalgfkmnamaaLIter
namespace Go.Proofs.Yteljalgfkmnamaa
open Go.RowKit Go.Shelf

section
variable {x : Pl} {g : Nat} {t : TypeId} {w : World}

theorem lPi_pos (T : TickL x) : 0 ≤ lPi x := by
  have := num_bounds T
  unfold lPi
  omega
theorem lCap_pos (T : TickL x) : 0 ≤ lCap x := by
  have := num_bounds T
  unfold lCap
  omega
/-- What conditions 4 to 7 leave of their numbers. -/
theorem pi_of (T : TickL x) (h : holdL x 4) : 0 ≤ x.pi ∧ x.pi ≤ 1048576 := ⟨Int.le_trans (lPi_pos T) h.1, h.2⟩
theorem win_of (T : TickL x) (h : holdL x 4) (k : holdL x 5) : 0 ≤ x.window ∧ x.window ≤ 1048576 := by
  have := num_bounds T
  have := pi_of T h
  refine ⟨Int.le_trans ?_ k.1, k.2⟩
  unfold lWin
  omega
theorem cap_of (T : TickL x) (h : holdL x 6) : 0 ≤ x.cap ∧ x.cap ≤ 1048576 := ⟨Int.le_trans (lCap_pos T) h.1, h.2⟩
theorem send_of (T : TickL x) (h4 : holdL x 4) (h5 : holdL x 5) (h6 : holdL x 6) (h : holdL x 7) : 0 ≤ x.sendOff ∧ x.sendOff ≤ 1048576 := by
  have := pi_of T h4
  have := win_of T h4 h5
  have := cap_of T h6
  refine ⟨Int.le_trans ?_ h.1, h.2⟩
  unfold lSend
  omega

theorem enters_meth (k : Nat) : ∀ (args : Array Value) (W : World), (callFunc (methL k) args).run Try.prog W = .ok (.enter (methL k) args) W := by
  unfold methL
  split
  · exact enters_of Try.func51 (by kernel_rfl) rfl
  · exact enters_of Try.func52 (by kernel_rfl) rfl
  · exact enters_of Try.func53 (by kernel_rfl) rfl
  · exact enters_of Try.func54 (by kernel_rfl) rfl
  · exact enters_of Try.func55 (by kernel_rfl) rfl
  · exact enters_of Try.func56 (by kernel_rfl) rfl
  · exact enters_of Try.func57 (by kernel_rfl) rfl
  · exact enters_of Try.func58 (by kernel_rfl) rfl
  · exact enters_of Try.func59 (by kernel_rfl) rfl
  · exact enters_of Try.func60 (by kernel_rfl) rfl
  · exact enters_of Try.func61 (by kernel_rfl) rfl

theorem meth_any (k : Nat) (h1 : 1 ≤ k) (h2 : k ≤ 11) (hp : ∀ j, 1 ≤ j → j < k → holdL x j) (hW : Whole w g t x.cells) :
    Calls Try.prog (methL k) #[.pointer (some ⟨g, 0, none⟩)] w fun e w' => e = .returned (.bool (holdB x k)) ∧ ∃ n, w' = w.drewN n := by
  have hT : 3 < k → TickL x := fun h => tick_three (hp 1 (by omega) (by omega)) (hp 2 (by omega) (by omega)) (hp 3 (by omega) (by omega))
  have : k = 1 ∨ k = 2 ∨ k = 3 ∨ k = 4 ∨ k = 5 ∨ k = 6 ∨ k = 7 ∨ k = 8 ∨ k = 9 ∨ k = 10 ∨ k = 11 := by omega
  rcases this with rfl | rfl | rfl | rfl | rfl | rfl | rfl | rfl | rfl | rfl | rfl
  · exact nodesHold_any hW
  · exact delaysHold_any hW
  · exact ticksHold_any hW
  · exact piHolds_any (hT (by omega)) hW
  · have T := hT (by omega)
    obtain ⟨p1, p2⟩ := pi_of T (hp 4 (by omega) (by omega))
    exact windowHolds_any T p1 p2 hW
  · exact capHolds_any (hT (by omega)) hW
  · have T := hT (by omega)
    obtain ⟨p1, p2⟩ := pi_of T (hp 4 (by omega) (by omega))
    obtain ⟨w1, w2⟩ := win_of T (hp 4 (by omega) (by omega)) (hp 5 (by omega) (by omega))
    obtain ⟨k1, k2⟩ := cap_of T (hp 6 (by omega) (by omega))
    exact sendOffHolds_any p1 p2 w1 w2 k1 k2 hW
  · have T := hT (by omega)
    obtain ⟨p1, p2⟩ := pi_of T (hp 4 (by omega) (by omega))
    obtain ⟨w1, w2⟩ := win_of T (hp 4 (by omega) (by omega)) (hp 5 (by omega) (by omega))
    obtain ⟨k1, k2⟩ := cap_of T (hp 6 (by omega) (by omega))
    obtain ⟨s1, s2⟩ := send_of T (hp 4 (by omega) (by omega)) (hp 5 (by omega) (by omega)) (hp 6 (by omega) (by omega)) (hp 7 (by omega) (by omega))
    exact slotHolds_any T p1 p2 w1 w2 k1 k2 s1 s2 hW
  · exact queueHolds_any hW
  · have T := hT (by omega)
    obtain ⟨p1, p2⟩ := pi_of T (hp 4 (by omega) (by omega))
    exact deltaHolds_any T (hp 9 (by omega) (by omega)) p1 p2 hW
  · exact horizonHolds_any (hT (by omega)) hW

end
end Go.Proofs.Yteljalgfkmnamaa
