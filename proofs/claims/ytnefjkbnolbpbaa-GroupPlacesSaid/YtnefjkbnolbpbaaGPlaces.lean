/- GroupPlaces, its walk. -/
import Derived.Test.YtnefjkbnolbpbaaGRound
import Derived.Test.YtnefjkbnolbpbaaLater
namespace Go.Proofs.Ytnefjkbnolbpbaa
open Go.RowKit

theorem rank_zero (n : Int) : rankG 0 n = 0 := by
  unfold rankG
  rw [listG_zero]
  rfl
theorem cell_on {W W' : World} (hb : Below W.heap.size W W') {p : Addr} {v : Value} (hc : W.cell? p = some v) : W'.cell? p = some v :=
  (hb.cell (World.block_lt_of_cell? W p hc)).trans hc

theorem places_zero (h x : Nat) (w : World) (hx : x < 256) : Calls Try.prog 9 #[.int .u16 0, .int .u16 (h : Int), .int .u8 (x : Int)] w fun e w' => e = .returned (.bool true) ∧ Below w.heap.size w w' := by
  have HNX := Lib.hid (fun n w => next_val 0 n (-1) (next_zero n) w (by decide))
  have HRK := Lib.hid (fun n W => rank_eq 0 n 0 (rank_zero n) W (by decide))
  have HLN := Lib.hid (fun W => list_n 0 W (by decide))
  rw [show countG 0 = 0 from by decide] at HLN
  go_enter Try.func9, Try.ntmps9
  go_wp2_with fail
  refine (alive_any _).mono ?_
  rintro e w0 ⟨rfl, b0⟩
  go_wp2_with fail
  refine (HLN.out _).mono ?_
  rintro e w1 ⟨A, c, rfl, b1⟩
  have hb1 := b0.trans (b1.mono b0.size)
  go_wp2_with fail
  refine (HNX.out _ _).mono ?_
  rintro e w2 ⟨rfl, b2⟩
  have hb2 := hb1.trans (b2.mono hb1.size)
  go_wp2_with fail
  refine (HRK.out _ _).mono ?_
  rintro e w3 ⟨rfl, n3, rfl⟩
  go_wp2_with fail
  go_ret
  exact ⟨rfl, below_drewN hb2 _⟩

/-- A slice of c numbers; at place j stands nx. -/
def ListAt (c j : Nat) (nx : Int) (w : World) (e : Ending) (w' : World) : Prop := ∃ b o cc, e = .returned (.slice (some ⟨b, o, none⟩) c cc) ∧ w'.cell? ⟨b, o + j, none⟩ = some (.int .i64 nx) ∧ Below w.heap.size w w'
/-- What the walk is told of the callees. -/
structure PlacesAt (g h u v : Nat) (n : Int) (c k j : Nat) (nx : Int) (v1 v2 : Bool) : Prop where
  next : ∀ W, Calls Try.prog 22 #[.int .u16 (g : Int), .int .i64 n] W fun e w' => e = .returned (.int .i64 nx) ∧ Below W.heap.size W w'
  list : ∀ W, Calls Try.prog 11 #[.int .u16 (g : Int)] W (ListAt c j nx W)
  rank : ∀ W, Calls Try.prog 24 #[.int .u16 (g : Int), .int .i64 n] W fun e w' => e = .returned (.int .i64 (k : Int)) ∧ ∃ m, w' = W.drewN m
  both : ∀ W, Calls Try.prog 28 #[.int .u16 (g : Int), .int .u16 (h : Int)] W fun e w' => e = .returned (.int .u16 (u : Int)) ∧ W = w'
  less : ∀ W, Calls Try.prog 30 #[.int .u16 (g : Int), .int .u16 (h : Int)] W fun e w' => e = .returned (.int .u16 (v : Int)) ∧ W = w'
  hasG : ∀ W, Calls Try.prog 14 #[.int .u16 (g : Int), .int .i64 n] W fun e w' => e = .returned (.bool v1) ∧ W = w'
  hasH : ∀ W, Calls Try.prog 14 #[.int .u16 (h : Int), .int .i64 n] W fun e w' => e = .returned (.bool v2) ∧ W = w'
  hasU : ∀ W, Calls Try.prog 14 #[.int .u16 (u : Int), .int .i64 n] W fun e w' => e = .returned (.bool (v1 && v2)) ∧ W = w'
  hasV : ∀ W, Calls Try.prog 14 #[.int .u16 (v : Int), .int .i64 n] W fun e w' => e = .returned (.bool (v1 && !v2)) ∧ W = w'
  place : ((k + if v1 = true then 1 else 0 : Nat) : Int) % (c : Int) = (j : Int)
  inside : j < c
  small : k ≤ 16 ∧ c ≤ 16

theorem places_at {g h : Nat} (hg : g < 65536) (hh : h < 65536) (h0 : g ≠ 0) {n : Nat} (hn : n < 16) :
    ∃ u v c k j nx v1 v2, PlacesAt g h u v (n : Int) c k j nx v1 v2 := by
  have hpos := countG_pos hg h0
  have hnx := next_at hpos hn
  have hj : (rankG g (n : Int) + if hasG g (n : Int) = true then 1 else 0) % countG g < (listI g).length := by rw [listI_length]; exact Nat.mod_lt _ hpos
  refine ⟨bothG g h, lessG g h, countG g, rankG g (n : Int), (rankG g (n : Int) + if hasG g (n : Int) = true then 1 else 0) % countG g, (listI g)[(rankG g (n : Int) + if hasG g (n : Int) = true then 1 else 0) % countG g], hasG g (n : Int), hasG h (n : Int), ?_⟩
  refine ⟨fun W => ?_, fun W => (list_any g W hg).mono fun _ _ hf => ?_, fun W => rank_any g _ W hg, fun W => both_any g h W hg hh, fun W => less_any g h W hg hh, fun W => has_any g _ W hg, fun W => has_any h _ W hh, fun W => ?_, fun W => ?_, ?_, Nat.mod_lt _ hpos, ?_, countG_le g⟩
  · refine next_val g _ _ ?_ W hg
    rw [hnx, List.getD_eq_getElem?_getD, List.getElem?_eq_getElem hj, Option.getD_some]
  · obtain ⟨A, cc, rfl, hsrc, _, hb⟩ := hf.opened
    rw [← listI_length] at hpos
    obtain ⟨b, o, rfl, hc⟩ := hsrc hpos
    exact ⟨b, o, cc, by rw [listI_length], hc _ hj, hb⟩
  · rw [← has_both]
    exact has_any _ _ W (bothG_lt hg)
  · rw [← has_less hh]
    exact has_any _ _ W (lessG_lt hg)
  · exact (Int.natCast_emod _ _).symm
  · rw [rankG_eq]
    exact countG_le _

set_option maxRecDepth 100000 in
set_option maxHeartbeats 4000000 in
theorem places_core {g h u v : Nat} {c k j : Nat} {nx : Int} {v1 v2 : Bool} (x : Nat) (hx : x < 256) (hp : PlacesAt g h u v ((x : Int) % 16) c k j nx v1 v2) (w : World) :
    Calls Try.prog 9 #[.int .u16 (g : Int), .int .u16 (h : Int), .int .u8 (x : Int)] w fun e w' => e = .returned (.bool true) ∧ Below w.heap.size w w' := by
  have HP := Lib.hid hp
  have hplace := hp.place
  have hj := hp.inside
  obtain ⟨hk16, hl16⟩ := hp.small
  have hc0 : ¬ c = 0 := by omega
  have hcz : ((c : Int) == 0) = false := by rw [beq_eq_false_iff_ne]; omega
  clear hp
  have hmod : ((k : Int) + if v1 = true then 1 else 0).tmod (c : Int) = (j : Int) := by
    rw [Int.tmod_eq_emod_of_nonneg (by split <;> omega), ← hplace]
    congr 1
    split <;> simp
  have hj0 : (0 : Int) ≤ (j : Int) := by omega
  have hj1 : (j : Int) < (c : Int) := by omega
  clear hplace
  cases v1 <;> cases v2
  all_goals
    simp only [Bool.false_eq_true, if_false, if_true, Int.add_zero] at hmod
    go_enter Try.func9, Try.ntmps9
    go_wp2_with fail
    refine (alive_any _).mono ?_
    rintro e w0 ⟨rfl, b0⟩
    go_wp2_with fail
    refine (HP.out.list _).mono ?_
    rintro e w1 ⟨bb, o, cc, rfl, hc, b1⟩
    have hb1 := b0.trans (b1.mono b0.size)
    clear b0 b1
    go_wp2_with fail
    refine (HP.out.rank _).mono ?_
    rintro e w2 ⟨rfl, n2, rfl⟩
    go_wp2_with fail
    refine (HP.out.hasG _).mono ?_
    rintro e w' ⟨rfl, rfl⟩
    go_wp2_with fail
    refine (HP.out.both _).mono ?_
    rintro e w' ⟨rfl, rfl⟩
    go_wp2_with fail
    refine (HP.out.hasU _).mono ?_
    rintro e w' ⟨rfl, rfl⟩
    go_wp2_with fail
    refine (HP.out.less _).mono ?_
    rintro e w' ⟨rfl, rfl⟩
    go_wp2_with fail
    refine (HP.out.hasV _).mono ?_
    rintro e w' ⟨rfl, rfl⟩
    have hb2 : Below w.heap.size w (w1.drewN n2) := below_drewN hb1 n2
    have hc2 : (w1.drewN n2).cell? ⟨bb, o + j, none⟩ = some (.int .i64 nx) := hc
    clear hc hb1
    generalize w1.drewN n2 = wr at *
    go_wp2_with fail
    have hcy : ∀ y : Later wr, y.at_.cell? ⟨bb, o + j, none⟩ = some (.int .i64 nx) := fun y => y.cell hc2
    refine wp_region_later (by kernel_rfl) (by kernel_rfl) ?_
    repeat (go_big_quiet_step ((first
      | (go_at_call 22; exact later_of _ HP.out.next)
      | (go_at_call 14; exact later_same _ HP.out.hasG)
      | (go_at_call 14; exact later_same _ HP.out.hasH))))
    refine wpQuiet_nil ?_
    intro _ hw'
    obtain ⟨y, hw''⟩ := hw'
    subst hw''
    go_wp2
    go_ret
    exact ⟨rfl, hb2.trans (y.below.mono hb2.size)⟩

theorem places_walk (g h x : Nat) (w : World) (hg : g < 65536) (hh : h < 65536) (hx : x < 256) : Calls Try.prog 9 #[.int .u16 (g : Int), .int .u16 (h : Int), .int .u8 (x : Int)] w fun e w' => e = .returned (.bool true) ∧ Below w.heap.size w w' := by
  by_cases h0 : g = 0
  · subst h0
    exact places_zero h x w hx
  · obtain ⟨u, v, c, k, j, nx, v1, v2, hp⟩ := places_at hg hh h0 (n := x % 16) (Nat.mod_lt _ (by decide))
    rw [show (((x % 16 : Nat)) : Int) = (x : Int) % 16 from by omega] at hp
    exact places_core x hx hp w

end Go.Proofs.Ytnefjkbnolbpbaa
