/- A capture's Clear, by its contract; two lists held against each other. No condition. -/
import Derived.Test.YtjgbgakdnapdhaaEVals
namespace Go.Proofs.Ytjgbgakdnapdhaa
open Go.RowKit Go.Shelf

set_option maxRecDepth 100000 in
set_option maxHeartbeats 4000000 in
theorem clear_any {w : World} {a : Nat} {f : Ca} (h : CapAt w a f) : Calls Try.prog 22 #[.pointer (some ⟨a, 0, none⟩)] w fun e w' => e = .returned (.int .i64 ((listC f).length : Int)) ∧ CapTo w a noCa w' := by
  have HC := Lib.hid (count_any (SrcE.of h))
  have HE := Lib.hid (fun W (hb : Below w.heap.size w W) => (show Whole W a 31 (capC f) ∧ (capC f).size = 64 ∧ CapTo w a noCa (W.setRow a (capC noCa)) from by
    have q := k_later hb h.whole
    have hrow : Whole (W.setRow a (capC noCa)) a 31 (capC noCa) := by
      exact setRow_heap W a (capC f) (capC noCa) _ _ q
    have hk : Kept (fun i => i = a) W (W.setRow a (capC noCa)) := ⟨rfl, rfl, rfl, by rw [size_setRow]; exact Nat.le_refl _, fun i _ hn => setRow_other W a i _ hn⟩
    exact ⟨q, capC_size f, ⟨hrow, okc_no⟩, (Kept.of_below hb _).trans hk (fun _ _ e => e)⟩))
  generalize (listC f).length = n at *
  clear h
  go_enter Try.func22, Try.ntmps22
  go_wp2_with (first
    | (go_at_call 14; refine HC.out.mono ?_; rintro e w1 ⟨rfl, hb⟩; have HB := Lib.hid (HE.out w1 hb); clear hb)
    | (refine wpList_store_row rfl 31 (.tmp 10) (.tmp 9) rfl a _ rfl rfl 31 (capC f) HB.out.1 (by kernel_rfl) (by rw [HB.out.2.1]; rfl) (by kernel_rfl) ?_))
  go_ret
  exact ⟨rfl, HB.out.2.2⟩
set_option maxHeartbeats 1000000 in
theorem clearNil_any (w : World) : Calls Try.prog 22 #[.pointer none] w fun e w' => e = .returned (.int .i64 0) ∧ Below w.heap.size w w' := by
  have HC := Lib.hid (count_any (SrcE.nil w))
  go_enter Try.func22, Try.ntmps22
  go_wp2_with (go_at_call 14; refine HC.out.mono ?_; rintro e w1 ⟨rfl, hb⟩; have HB := Lib.hid hb; clear hb)
  go_ret
  exact ⟨rfl, HB.out⟩
end Go.Proofs.Ytjgbgakdnapdhaa
