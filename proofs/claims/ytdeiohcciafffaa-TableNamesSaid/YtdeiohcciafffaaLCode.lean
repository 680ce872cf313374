/- Fails, Check, Round, Numbers: by contracts. No condition. -/
import Derived.Test.YtdeiohcciafffaaLFails
import Derived.Test.YtdeiohcciafffaaLRow
namespace Go.Proofs.Ytdeiohcciafffaa
open Go.RowKit Go.Shelf

def chkL (x : Pl) : Int := if failsL x 11 = 0 then 0 else 70
def roundL (x : Pl) : Int := if failsL x 3 = 0 then rdL x else 0
def numE (x : Pl) : Int := if failsL x 3 = 0 then eL x else 0
def numG (x : Pl) : Int := if failsL x 3 = 0 then gL x else 0
def numA (x : Pl) : Int := if failsL x 3 = 0 then aL x else 0
theorem tick_fails {x : Pl} {last : Nat} (hl : 3 ≤ last) (hm : last ≤ 11) (h : failsL x last = 0) : TickL x := by
  have := failsL_first x hm
  rw [h] at this
  rcases this with ⟨_, k⟩ | ⟨k, _⟩
  · exact tick_three (k 1 (by omega) (by omega)) (k 2 (by omega) (by omega)) (k 3 (by omega) (by omega))
  · omega

theorem fails11 {x : Pl} {g : Nat} {t : TypeId} (w : World) (hW : Whole w g t x.cells) :
    Calls Try.prog 46 #[.pointer (some ⟨g, 0, none⟩), .int .i64 11] w fun e w' => e = .returned (.int .i64 (failsL x 11 : Int)) ∧ Below w.heap.size w w' := failsIn_any 11 (by omega) w hW
theorem fails3 {x : Pl} {g : Nat} {t : TypeId} (w : World) (hW : Whole w g t x.cells) :
    Calls Try.prog 46 #[.pointer (some ⟨g, 0, none⟩), .int .i64 3] w fun e w' => e = .returned (.int .i64 (failsL x 3 : Int)) ∧ Below w.heap.size w w' := failsIn_any 3 (by omega) w hW

section
variable (x : Pl) (w : World)
/-- The plan's box, and the draft's behind it. -/
theorem two_boxes (cs : Array Value) (w : World) (t u : TypeId) : Below w.heap.size w ((w.alloc (.cells cs t)).alloc (.cells cs u)) ∧ Whole ((w.alloc (.cells cs t)).alloc (.cells cs u)) (w.heap.size + 1) u cs := by
  refine ⟨((Below.refl _ _).alloc (Nat.le_refl _) _).alloc (by simp) _, ?_⟩
  have := Whole.new (w.alloc (.cells cs t)) u cs
  rwa [World.size_alloc] at this

set_option maxRecDepth 100000 in
set_option maxHeartbeats 1000000 in
theorem Fails_any : Calls Try.prog 55 #[.agg x.cells] w fun e w' => e = .returned (.int .i64 (failsL x 11 : Int)) ∧ Below w.heap.size w w' := by
  obtain ⟨hb, hW⟩ := two_boxes x.cells w 23 66
  have HC := Lib.hid (fails11 _ hW)
  have HB := Lib.hid hb
  have HS := Lib.hid x.cellsL
  clear hb hW
  generalize x.cells = cs at *
  generalize failsL x 11 = r at *
  go_enter Try.func55, Try.ntmps55
  go_wp2_with (first
    | (refine wpList_load_row rfl 23 _ rfl w.heap.size rfl 23 cs (0, 0) _ (heap_alloc_last w _) Try.underlying23 rfl HS.out.plan ?_)
    | (refine wpList_store_last rfl 66 _ _ rfl _ cs rfl rfl 66 _ (by simp) HS.out.draft HS.out.size.symm HS.out.one ?_)
    | (go_at_call 46; refine HC.out.mono ?_; rintro e w' ⟨rfl, hb2⟩))
  go_ret
  exact ⟨rfl, k_then hb2 HB.out⟩

set_option maxRecDepth 100000 in
set_option maxHeartbeats 1000000 in
theorem Check_any : Calls Try.prog 49 #[.agg x.cells] w fun e w' => e = .returned (.int .i64 (chkL x)) ∧ Below w.heap.size w w' := by
  have HB := Lib.hid ((Below.refl w.heap.size w).alloc (Nat.le_refl _) (.cells x.cells 23))
  have HC := Lib.hid (fun W => Fails_any x W)
  have HS := Lib.hid x.cellsL
  generalize x.cells = cs at *
  by_cases h : failsL x 11 = 0
  · have H := Lib.hid (show chkL x = 0 from if_pos h)
    have h0 : ((failsL x 11 : Nat) : Int) = 0 := by omega
    rw [h0] at HC
    clear h h0
    go_enter Try.func49, Try.ntmps49
    go_wp2_with (first
      | (refine wpList_load_row rfl 23 _ rfl w.heap.size rfl 23 cs (0, 0) _ (heap_alloc_last w _) Try.underlying23 rfl HS.out.plan ?_)
      | (go_at_call 55; refine (HC.out _).mono ?_; rintro e w' ⟨rfl, hb2⟩))
    go_ret
    exact ⟨by rw [H.out]; rfl, k_then hb2 HB.out⟩
  · have H := Lib.hid (show chkL x = 70 from if_neg h)
    have h0 : ((failsL x 11 : Nat) : Int) ≠ 0 := by omega
    have h1 : (((failsL x 11 : Nat) : Int) == 0) = false := by rw [beq_eq_false_iff_ne]; exact h0
    generalize ((failsL x 11 : Nat) : Int) = r at *
    clear h h0
    go_enter Try.func49, Try.ntmps49
    go_wp2_with (first
      | (refine wpList_load_row rfl 23 _ rfl w.heap.size rfl 23 cs (0, 0) _ (heap_alloc_last w _) Try.underlying23 rfl HS.out.plan ?_)
      | (go_at_call 55; refine (HC.out _).mono ?_; rintro e w' ⟨rfl, hb2⟩))
    go_ret
    exact ⟨by rw [H.out]; rfl, k_then hb2 HB.out⟩

set_option maxRecDepth 100000 in
set_option maxHeartbeats 1000000 in
theorem Round_any : Calls Try.prog 31 #[.agg x.cells] w fun e w' => e = .returned (.int .i64 (roundL x)) ∧ Below w.heap.size w w' := by
  obtain ⟨hb, hW⟩ := two_boxes x.cells w 23 66
  have HC := Lib.hid (fails3 _ hW)
  have HB := Lib.hid hb
  have HS := Lib.hid x.cellsL
  by_cases h : failsL x 3 = 0
  · have T := tick_fails (Nat.le_refl 3) (by omega) h
    have HR := Lib.hid (fun W (hB : Below ((w.alloc (.cells x.cells 23)).alloc (.cells x.cells 66)).heap.size ((w.alloc (.cells x.cells 23)).alloc (.cells x.cells 66)) W) => round_any T (k_later hB hW))
    have H := Lib.hid (show roundL x = rdL x from if_pos h)
    have h0 : ((failsL x 3 : Nat) : Int) = 0 := by omega
    rw [h0] at HC
    clear h h0 T hb hW
    generalize rdL x = m at *
    generalize x.cells = cs at *
    go_enter Try.func31, Try.ntmps31
    go_wp2_with (first
      | (refine wpList_load_row rfl 23 _ rfl w.heap.size rfl 23 cs (0, 0) _ (heap_alloc_last w _) Try.underlying23 rfl HS.out.plan ?_)
      | (refine wpList_store_last rfl 66 _ _ rfl _ cs rfl rfl 66 _ (by simp) HS.out.draft HS.out.size.symm HS.out.one ?_)
      | (go_at_call 46; refine HC.out.mono ?_; rintro e' w' ⟨rfl, hb2⟩)
      | (go_at_call 47; refine (HR.out _ hb2).mono ?_; rintro e' w' ⟨rfl, n, rfl⟩))
    go_ret
    exact ⟨by rw [H.out]; rfl, below_drewN (k_then hb2 HB.out) _⟩
  · have H := Lib.hid (show roundL x = 0 from if_neg h)
    have h0 : ((failsL x 3 : Nat) : Int) ≠ 0 := by omega
    have h1 : (((failsL x 3 : Nat) : Int) == 0) = false := by rw [beq_eq_false_iff_ne]; exact h0
    generalize ((failsL x 3 : Nat) : Int) = r at *
    clear h h0 hb hW
    generalize x.cells = cs at *
    go_enter Try.func31, Try.ntmps31
    go_wp2_with (first
      | (refine wpList_load_row rfl 23 _ rfl w.heap.size rfl 23 cs (0, 0) _ (heap_alloc_last w _) Try.underlying23 rfl HS.out.plan ?_)
      | (refine wpList_store_last rfl 66 _ _ rfl _ cs rfl rfl 66 _ (by simp) HS.out.draft HS.out.size.symm HS.out.one ?_)
      | (go_at_call 46; refine HC.out.mono ?_; rintro e' w' ⟨rfl, hb2⟩))
    go_ret
    exact ⟨by rw [H.out]; rfl, k_then hb2 HB.out⟩

def numV (x : Pl) : Value := .tuple #[.int .i64 (numE x), .int .i64 (numG x), .int .i64 (numA x)]
end
end Go.Proofs.Ytdeiohcciafffaa
