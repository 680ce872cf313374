/- The pile behind an interface: which methods it has. No condition. -/
import Derived.Test.YtchfponnajednaaAPop
namespace Go.Proofs.Ytchfponnajednaa
open Go.RowKit Go.Shelf

theorem nil_len (a : Addr) (w : World) (n : Nat) : (nilAhead (n + 1) 25 (.pointer (some a)) "Len").run Try.prog w = .ok (some false) w := by kernel_rfl
theorem nil_less (a : Addr) (w : World) (n : Nat) : (nilAhead (n + 1) 25 (.pointer (some a)) "Less").run Try.prog w = .ok (some false) w := by kernel_rfl
theorem nil_swap (a : Addr) (w : World) (n : Nat) : (nilAhead (n + 1) 25 (.pointer (some a)) "Swap").run Try.prog w = .ok (some false) w := by kernel_rfl
theorem nil_push (a : Addr) (w : World) (n : Nat) : (nilAhead (n + 1) 25 (.pointer (some a)) "Push").run Try.prog w = .ok (some false) w := by kernel_rfl
theorem nil_pop (a : Addr) (w : World) (n : Nat) : (nilAhead (n + 1) 25 (.pointer (some a)) "Pop").run Try.prog w = .ok (some false) w := by kernel_rfl
theorem nil_first (a : Addr) (w : World) (n : Nat) : (nilAhead (n + 1) 25 (.pointer (some a)) "vespers/agenda.first").run Try.prog w = .ok (some false) w := by kernel_rfl
theorem method_push (a : Addr) (w : World) (n : Nat) : (method (n + 1) 25 (.pointer (some a)) "Push").run Try.prog w = .ok (62, .pointer (some a)) w := by kernel_rfl
theorem method_pop (a : Addr) (w : World) (n : Nat) : (method (n + 1) 25 (.pointer (some a)) "Pop").run Try.prog w = .ok (61, .pointer (some a)) w := by kernel_rfl
theorem load_pile {w : World} {p : Nat} {v : Value} (h : w.cell? ⟨p, 0, none⟩ = some v) : (loadVar 60 ⟨p, 0, none⟩).run Try.prog w = .ok v w := by
  unfold loadVar
  rw [Sem.run_bind, Try.isAgg60]
  simp [h]
theorem method_len {w : World} {p : Nat} {v : Value} (h : w.cell? ⟨p, 0, none⟩ = some v) (n : Nat) : (method (n + 1) 25 (.pointer (some ⟨p, 0, none⟩)) "Len").run Try.prog w = .ok (29, v) w := by
  have e : (method (n + 1) 25 (.pointer (some ⟨p, 0, none⟩)) "Len").run Try.prog w = (do let v ← loadVar 60 ⟨p, 0, none⟩; pure (29, v) : Sem (FuncId × Value)).run Try.prog w := by kernel_rfl
  rw [e, Sem.run_bind, load_pile h]; rfl
theorem method_less {w : World} {p : Nat} {v : Value} (h : w.cell? ⟨p, 0, none⟩ = some v) (n : Nat) : (method (n + 1) 25 (.pointer (some ⟨p, 0, none⟩)) "Less").run Try.prog w = .ok (60, v) w := by
  have e : (method (n + 1) 25 (.pointer (some ⟨p, 0, none⟩)) "Less").run Try.prog w = (do let v ← loadVar 60 ⟨p, 0, none⟩; pure (60, v) : Sem (FuncId × Value)).run Try.prog w := by kernel_rfl
  rw [e, Sem.run_bind, load_pile h]; rfl
theorem method_swap {w : World} {p : Nat} {v : Value} (h : w.cell? ⟨p, 0, none⟩ = some v) (n : Nat) : (method (n + 1) 25 (.pointer (some ⟨p, 0, none⟩)) "Swap").run Try.prog w = .ok (63, v) w := by
  have e : (method (n + 1) 25 (.pointer (some ⟨p, 0, none⟩)) "Swap").run Try.prog w = (do let v ← loadVar 60 ⟨p, 0, none⟩; pure (63, v) : Sem (FuncId × Value)).run Try.prog w := by kernel_rfl
  rw [e, Sem.run_bind, load_pile h]; rfl
theorem method_first {w : World} {p : Nat} {v : Value} (h : w.cell? ⟨p, 0, none⟩ = some v) (n : Nat) : (method (n + 1) 25 (.pointer (some ⟨p, 0, none⟩)) "vespers/agenda.first").run Try.prog w = .ok (30, v) w := by
  have e : (method (n + 1) 25 (.pointer (some ⟨p, 0, none⟩)) "vespers/agenda.first").run Try.prog w = (do let v ← loadVar 60 ⟨p, 0, none⟩; pure (30, v) : Sem (FuncId × Value)).run Try.prog w := by kernel_rfl
  rw [e, Sem.run_bind, load_pile h]; rfl
end Go.Proofs.Ytchfponnajednaa
