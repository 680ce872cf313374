/- TableBegins, its walk: what it leans on. -/
import Derived.Test.YtdeiohcciafffaaPAlive
import Derived.Test.YtdeiohcciafffaaPLawM
namespace Go.Proofs.Ytdeiohcciafffaa
open Go.RowKit Go.Shelf

theorem eql_spot (r s r' s' : Int) (W : World) : (binOp .eql 25 (.agg #[.int .i64 r, .int .i64 s]) (.agg #[.int .i64 r', .int .i64 s'])).run Try.prog W = .ok (.bool (r == r' && s == s')) W := by
  by_cases h1 : r = r' <;> by_cases h2 : s = s' <;> simp [go_sem, h1, h2]
theorem beg_f {x : Pl} {r s : Int} (hh : hasP x r s = true) : r < 2147483647 → errP (ofB x (bgP x r s)) = 0 ∧ tellP (ofB x (bgP x r s)) (spotR x (bgP x r s / x.slot)) = r ∧ tellP (ofB x (bgP x r s)) (spotS x (bgP x r s / x.slot)) = s := by
  intro hr
  obtain ⟨h1, h2, h3⟩ := beg_of hh hr
  rw [h1, h2, h3]
  exact ⟨rfl, rfl, rfl⟩
theorem beg_g {x : Pl} {r s v3 v4 e2 : Int} (hh : hasP x r s = true) (h3 : v3 = tellP (ofB x (bgP x r s - 1)) (spotR x ((bgP x r s - 1) / x.slot))) (h4 : v4 = tellP (ofB x (bgP x r s - 1)) (spotS x ((bgP x r s - 1) / x.slot))) (h5 : e2 = errP (ofB x (bgP x r s - 1))) :
    (e2 = 90 ∧ (r < 2147483647 → r = 0 ∧ s = 0)) ∨ (e2 = 0 ∧ ¬ (r = 0 ∧ s = 0) ∧ (∀ W, Calls Try.prog 13 #[.agg x.cells, spotV v3 v4] W fun e w' => e = .returned (.tuple #[spotV r s, .int .i64 0]) ∧ Below W.heap.size W w') ∧
      ∀ W, Calls Try.prog 15 #[.agg x.cells, spotV v3 v4, spotV r s] W fun e w' => e = .returned (.tuple #[.int .i64 1, .int .i64 0]) ∧ Below W.heap.size W w') := by
  cases hg : ofB x (bgP x r s - 1)
  · rw [hg] at h5
    exact .inl ⟨h5, fun hr => beg_off hh hr hg⟩
  · rw [hg] at h3 h4 h5
    obtain ⟨g1, g2, g3, g4, g5⟩ := beg_ahead hh hg
    refine .inr ⟨h5, fun h0 => ?_, fun W => ?_, fun W => ?_⟩
    · rw [beg_first hh h0] at hg
      cases hg
    · have h := Next_any x W (spotR x ((bgP x r s - 1) / x.slot)) (spotS x ((bgP x r s - 1) / x.slot))
      rw [g2, g3, g4] at h
      rw [h3, h4]
      exact h
    · have h := Apart_any x W (spotR x ((bgP x r s - 1) / x.slot)) (spotS x ((bgP x r s - 1) / x.slot)) r s
      rw [g1, g5, hh] at h
      rw [h3, h4]
      exact h
theorem beg_h {x : Pl} {r s v5 v6 e3 : Int} (hh : hasP x r s = true) (h3 : v5 = tellP (nxB x r s) (spotR x (ahP x r s + 1))) (h4 : v6 = tellP (nxB x r s) (spotS x (ahP x r s + 1))) (h5 : e3 = errP (nxB x r s)) :
    (e3 = 90 ∧ r = 2147483647 ∧ s = x.nodes - 1) ∨ (e3 = 0 ∧ (∀ W, Calls Try.prog 9 #[.agg x.cells, spotV v5 v6] W fun e w' => e = .returned (.tuple #[.int .i64 (bgP x r s + x.slot), .int .i64 0]) ∧ Below W.heap.size W w') ∧
      ∀ W, Calls Try.prog 15 #[.agg x.cells, spotV v5 v6, spotV r s] W fun e w' => e = .returned (.tuple #[.int .i64 (-1), .int .i64 0]) ∧ Below W.heap.size W w') := by
  cases hn : nxB x r s
  · rw [hn] at h5
    exact .inl ⟨h5, beg_last hh hn⟩
  · rw [hn] at h3 h4 h5
    obtain ⟨g1, g2, g3⟩ := beg_next hn
    refine .inr ⟨h5, fun W => ?_, fun W => ?_⟩
    · have h := Begin_any x W (spotR x (ahP x r s + 1)) (spotS x (ahP x r s + 1))
      rw [g1, g2] at h
      rw [h3, h4]
      exact h
    · have h := Apart_any x W (spotR x (ahP x r s + 1)) (spotS x (ahP x r s + 1)) r s
      rw [g1, g3, hh] at h
      rw [h3, h4]
      exact h

end Go.Proofs.Ytdeiohcciafffaa
