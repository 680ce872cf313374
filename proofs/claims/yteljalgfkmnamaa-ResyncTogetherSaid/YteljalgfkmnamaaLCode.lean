/- Fails, Check, Round, Numbers: by contracts. No condition. -/
import Derived.Test.YteljalgfkmnamaaLFails
import Derived.Test.YteljalgfkmnamaaLRow
namespace Go.Proofs.Yteljalgfkmnamaa
open Go.RowKit Go.Shelf

def chkL (x : Pl) : Int := if failsL x 11 = 0 then 0 else 70
def roundL (x : Pl) : Int := if failsL x 3 = 0 then rdL x else 0
def numE (x : Pl) : Int := if failsL x 3 = 0 then eL x else 0
def numG (x : Pl) : Int := if failsL x 3 = 0 then gL x else 0
def numA (x : Pl) : Int := if failsL x 3 = 0 then aL x else 0
theorem tick_fails {x : Pl} {last : Nat} (hl : 3 ≤ last) (hm : last ≤ 11) (h : failsL x last = 0) : TickL x := by
  have := failsL_first x hm
  rw [h] at this
  rcases this with ⟨_, k⟩ | ⟨k, _⟩
  · exact tick_three (k 1 (by omega) (by omega)) (k 2 (by omega) (by omega)) (k 3 (by omega) (by omega))
  · omega

theorem fails11 {x : Pl} {g : Nat} {t : TypeId} (w : World) (hW : Whole w g t x.cells) :
    Calls Try.prog 36 #[.pointer (some ⟨g, 0, none⟩), .int .i64 11] w fun e w' => e = .returned (.int .i64 (failsL x 11 : Int)) ∧ Below w.heap.size w w' := failsIn_any 11 (by omega) w hW
theorem fails3 {x : Pl} {g : Nat} {t : TypeId} (w : World) (hW : Whole w g t x.cells) :
    Calls Try.prog 36 #[.pointer (some ⟨g, 0, none⟩), .int .i64 3] w fun e w' => e = .returned (.int .i64 (failsL x 3 : Int)) ∧ Below w.heap.size w w' := failsIn_any 3 (by omega) w hW

section
variable (x : Pl) (w : World)
/-- The plan's box, and the draft's behind it. -/
theorem two_boxes (cs : Array Value) (w : World) (t u : TypeId) : Below w.heap.size w ((w.alloc (.cells cs t)).alloc (.cells cs u)) ∧ Whole ((w.alloc (.cells cs t)).alloc (.cells cs u)) (w.heap.size + 1) u cs := by
  refine ⟨((Below.refl _ _).alloc (Nat.le_refl _) _).alloc (by simp) _, ?_⟩
  have := Whole.new (w.alloc (.cells cs t)) u cs
  rwa [World.size_alloc] at this

set_option maxRecDepth 100000 in
set_option maxHeartbeats 1000000 in
theorem Fails_any : Calls Try.prog 28 #[.agg x.cells] w fun e w' => e = .returned (.int .i64 (failsL x 11 : Int)) ∧ Below w.heap.size w w' := by
  obtain ⟨hb, hW⟩ := two_boxes x.cells w 23 66
  have HC := Lib.hid (fails11 _ hW)
  have HB := Lib.hid hb
  have HS := Lib.hid x.cellsL
  clear hb hW
  generalize x.cells = cs at *
  generalize failsL x 11 = r at *
  go_enter Try.func28, Try.ntmps28
  go_wp2_with (first
    | (refine wpList_load_row rfl 23 _ rfl w.heap.size rfl 23 cs (0, 0) _ (heap_alloc_last w _) Try.underlying23 rfl HS.out.plan ?_)
    | (refine wpList_store_last rfl 66 _ _ rfl _ cs rfl rfl 66 _ (by simp) HS.out.draft HS.out.size.symm HS.out.one ?_)
    | (go_at_call 36; refine HC.out.mono ?_; rintro e w' ⟨rfl, hb2⟩))
  go_ret
  exact ⟨rfl, k_then hb2 HB.out⟩

set_option maxRecDepth 100000 in
set_option maxHeartbeats 1000000 in
theorem Check_any : Calls Try.prog 18 #[.agg x.cells] w fun e w' => e = .returned (.int .i64 (chkL x)) ∧ Below w.heap.size w w' := by
  have HB := Lib.hid ((Below.refl w.heap.size w).alloc (Nat.le_refl _) (.cells x.cells 23))
  have HC := Lib.hid (fun W => Fails_any x W)
  have HS := Lib.hid x.cellsL
  generalize x.cells = cs at *
  by_cases h : failsL x 11 = 0
  · have H := Lib.hid (show chkL x = 0 from if_pos h)
    have h0 : ((failsL x 11 : Nat) : Int) = 0 := by omega
    rw [h0] at HC
    clear h h0
    go_enter Try.func18, Try.ntmps18
    go_wp2_with (first
      | (refine wpList_load_row rfl 23 _ rfl w.heap.size rfl 23 cs (0, 0) _ (heap_alloc_last w _) Try.underlying23 rfl HS.out.plan ?_)
      | (go_at_call 28; refine (HC.out _).mono ?_; rintro e w' ⟨rfl, hb2⟩))
    go_ret
    exact ⟨by rw [H.out]; rfl, k_then hb2 HB.out⟩
  · have H := Lib.hid (show chkL x = 70 from if_neg h)
    have h0 : ((failsL x 11 : Nat) : Int) ≠ 0 := by omega
    have h1 : (((failsL x 11 : Nat) : Int) == 0) = false := by rw [beq_eq_false_iff_ne]; exact h0
    generalize ((failsL x 11 : Nat) : Int) = r at *
    clear h h0
    go_enter Try.func18, Try.ntmps18
    go_wp2_with (first
      | (refine wpList_load_row rfl 23 _ rfl w.heap.size rfl 23 cs (0, 0) _ (heap_alloc_last w _) Try.underlying23 rfl HS.out.plan ?_)
      | (go_at_call 28; refine (HC.out _).mono ?_; rintro e w' ⟨rfl, hb2⟩))
    go_ret
    exact ⟨by rw [H.out]; rfl, k_then hb2 HB.out⟩

def numV (x : Pl) : Value := .tuple #[.int .i64 (numE x), .int .i64 (numG x), .int .i64 (numA x)]
end
end Go.Proofs.Yteljalgfkmnamaa
