/- The document's Parse, by a contract. No condition. -/
import Derived.Test.YtdeiohcciafffaaGreatDoorTRParse
namespace Go.Proofs.YtdeiohcciafffaaGreatDoor
open Go.RowKit Go.Shelf

theorem lineT_at {l : List UInt8} {k n : Nat} (h : lineT l = .at_ k n) : k < 16 ∧ n < 1000000000000000 := by
  unfold lineT at h
  split at h
  · cases h
  · split at h
    · cases h
    · rename_i k' n' hs
      cases h
      obtain ⟨h1, _, h3⟩ := sayT_some hs
      exact ⟨h1, h3⟩
theorem make_longs (w : World) : (Instr.makeSlice 80 (.int .i64 16) (.int .i64 16)).run Tryz.prog w = .ok (.slice (some ⟨w.heap.size, 0, none⟩) 16 16) (w.alloc (.cells St8.start.plan.cells 2)) := by kernel_rfl
theorem count_start : St8.start.count = 0 := by decide

end Go.Proofs.YtdeiohcciafffaaGreatDoor
