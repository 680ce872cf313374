/- CaptureNames' facts, and words for its walk. No condition. -/
import Derived.Test.YtjgbgakdnapdhaaEAgW
namespace Go.Proofs.Ytjgbgakdnapdhaa
open Go.RowKit Go.Shelf

def osN : List Oe := [⟨0, -1, 0, 0⟩, ⟨0, 16, 0, 0⟩, ⟨0, 0, 2, 0⟩, ⟨0, 0, -1, 0⟩, ⟨0, 0, 0, 4294967297⟩, ⟨0, 0, 0, -4294967297⟩]
theorem osN_bad : ∀ k, k < 6 → okB noCa (osN.getD k default).n (osN.getD k default).c (osN.getD k default).v = false := by
  intro k hk
  rcases (show k = 0 ∨ k = 1 ∨ k = 2 ∨ k = 3 ∨ k = 4 ∨ k = 5 by omega) with rfl | rfl | rfl | rfl | rfl | rfl <;> kernel_rfl
def gN1 : Ca := noteF noCa 0 0 (-4294967296)
def gN2 : Ca := noteF gN1 15 1 4294967296
def gN3 : Ca := noteF gN2 5 0 (-4)
def gN4 : Ca := noteF gN3 5 1 (-3)
def gN5 : Ca := dropC gN4 5
def gN6 : Ca := dropC gN5 5
def gN7 : Ca := noteF gN6 5 1 2
theorem n_e1 : noteE noCa 0 0 (-4294967296) = 0 := by kernel_rfl
theorem n_e2 : noteE gN1 15 1 4294967296 = 0 := by kernel_rfl
theorem n_e3 : noteE gN2 5 0 (-4) = 0 := by kernel_rfl
theorem n_e4 : noteE gN3 5 1 (-3) = 0 := by kernel_rfl
theorem n_o5 : ofC gN4 5 = some (-4) := by kernel_rfl
theorem n_o6 : ofC gN4 6 = none := by kernel_rfl
theorem n_o16 : ofC gN4 16 = none := by kernel_rfl
theorem n_v99 : valC gN4 99 = [-4294967296, -4, 4294967296] := by kernel_rfl
theorem n_v5 : valC gN4 5 = [-4294967296, 0, 4294967296] := by kernel_rfl
theorem n_f1 : (ofC gN4 5).isSome = true := by kernel_rfl
theorem n_f2 : (ofC gN5 5).isSome = false := by kernel_rfl
theorem n_e7 : noteE gN6 5 1 2 = 0 := by kernel_rfl
theorem n_l7 : (listC gN7).length = 3 := by kernel_rfl
theorem n_l4 : (listC gN4).length = 3 := by kernel_rfl
theorem n_l0 : (listC noCa).length = 0 := by kernel_rfl
theorem n_v0 : valC noCa 0 = [0] := by kernel_rfl

/-- Two captures. -/
structure NmW (w : World) (a d : Nat) (f g : Ca) (W : World) : Prop where
  la : LawC w a f W
  ld : LawC w d g W
  ne : a ≠ d
section
variable {w W W' : World} {a d : Nat} {f g e : Ca}
theorem NmW.later (h : NmW w a d f g W) (hb : Below W.heap.size W W') : NmW w a d f g W' := ⟨h.la.later hb, h.ld.later hb, h.ne⟩
theorem NmW.toA (h : NmW w a d f g W) (k : CapTo W a e W') : NmW w a d e g W' := ⟨h.la.to k, h.ld.far k (Ne.symm h.ne) (h.la.to k).below, h.ne⟩
theorem nm_note (h : NmW w a d f g W) (n c v : Int) : Calls Try.prog 19 #[.pointer (some ⟨a, 0, none⟩), .int .i64 n, .int .i64 c, .int .i64 v] W fun e w' => e = .returned (.int .i64 (noteE f n c v)) ∧ NmW w a d (noteF f n c v) g w' :=
  (note_any h.la.cap n c v).mono fun _ _ ⟨e, k⟩ => ⟨e, h.toA k⟩
theorem nm_forget (h : NmW w a d f g W) (n : Int) : Calls Try.prog 21 #[.pointer (some ⟨a, 0, none⟩), .int .i64 n] W fun e w' => e = .returned (.bool (ofC f n).isSome) ∧ NmW w a d (dropC f n) g w' :=
  (forget_any h.la.cap n).mono fun _ _ ⟨e, k⟩ => ⟨e, h.toA k⟩
theorem nm_clear (h : NmW w a d f g W) : Calls Try.prog 22 #[.pointer (some ⟨a, 0, none⟩)] W fun e w' => e = .returned (.int .i64 ((listC f).length : Int)) ∧ NmW w a d noCa g w' :=
  (clear_any h.la.cap).mono fun _ _ ⟨e, k⟩ => ⟨e, h.toA k⟩
theorem nm_count (h : NmW w a d f g W) : Calls Try.prog 14 #[.pointer (some ⟨a, 0, none⟩)] W fun e w' => e = .returned (.int .i64 ((listC f).length : Int)) ∧ NmW w a d f g w' :=
  (count_any (SrcE.of h.la.cap)).mono fun _ _ ⟨e, k⟩ => ⟨e, h.later k⟩
theorem nm_countD (h : NmW w a d f g W) : Calls Try.prog 14 #[.pointer (some ⟨d, 0, none⟩)] W fun e w' => e = .returned (.int .i64 ((listC g).length : Int)) ∧ NmW w a d f g w' :=
  (count_any (SrcE.of h.ld.cap)).mono fun _ _ ⟨e, k⟩ => ⟨e, h.later k⟩
theorem nm_values (h : NmW w a d f g W) (own : Int) : Calls Try.prog 13 #[.pointer (some ⟨a, 0, none⟩), .int .i64 own] W fun e w' => ∃ A c, e = .returned (.slice A (valC f own).length c) ∧ RSrc inC 1 w' ⟨A, (valC f own).length, c⟩ (valC f own) ∧ NmW w a d f g w' :=
  (law_values h.la own).mono fun _ _ ⟨A, c, h1, h2, _, _, h5⟩ => ⟨A, c, h1, h2, h.later h5⟩
end
/-- Calls on none. -/
theorem nil_count (w : World) : Calls Try.prog 14 #[.pointer none] w fun e w' => e = .returned (.int .i64 0) ∧ Below w.heap.size w w' := count_any (SrcE.nil w)
theorem nil_list (w : World) : Calls Try.prog 12 #[.pointer none] w fun e w' => ∃ A c, e = .returned (.slice A 0 c) ∧ Below w.heap.size w w' :=
  (list_any (SrcE.nil w)).mono fun _ _ k => by
    obtain ⟨A, c, h1, _, _, h4⟩ := newrow_src (cells := deC) (k := 2) (fun _ => rfl) k
    exact ⟨A, c, h1, h4⟩
theorem nil_values (w : World) (own : Int) : Calls Try.prog 13 #[.pointer none, .int .i64 own] w fun e w' => ∃ A c, e = .returned (.slice A 0 c) ∧ Below w.heap.size w w' :=
  (valuesNil_any w own).mono fun _ _ k => by
    obtain ⟨A, c, h1, _, _, h4⟩ := newrow_src (cells := inC) (k := 1) (fun _ => rfl) k
    exact ⟨A, c, h1, h4⟩
end Go.Proofs.Ytjgbgakdnapdhaa
