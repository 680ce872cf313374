/- A capture's Note, by its contract. No condition. -/
import Derived.Test.YtjgbgakdnapdhaaECap
namespace Go.Proofs.Ytjgbgakdnapdhaa
open Go.RowKit Go.Shelf

/-- The capture in block a is another one; all else is as it was. -/
def CapTo (w : World) (a : Nat) (f : Ca) (w' : World) : Prop := CapAt w' a f ∧ Kept (fun i => i = a) w w'
theorem ca_set2 {w W : World} {a n : Nat} {f : Ca} {c : Nat} {v : Int} (h : CapAt w a f) (hb : Below w.heap.size w W) (hn : n < 16) (hc : c < 2) (hv : -4294967296 ≤ v ∧ v ≤ 4294967296) :
    CapTo w a (putC f n c v) ((W.setCell ⟨a, n * 4 + c * 2, none⟩ (.int .i64 v)).setCell ⟨a, n * 4 + c * 2 + 1, none⟩ (.bool true)) := by
  have h2 := ((k_later hb h.whole).set (n * 4 + c * 2) (.int .i64 v)).set (n * 4 + c * 2 + 1) (.bool true)
  rw [capC_put f hn hc v] at h2
  have hk : Kept (fun i => i = a) W ((W.setCell ⟨a, n * 4 + c * 2, none⟩ (.int .i64 v)).setCell ⟨a, n * 4 + c * 2 + 1, none⟩ (.bool true)) :=
    Kept.setCell (S := fun i => i = a) (Kept.setCell (S := fun i => i = a) (Kept.refl _ W) (p := ⟨a, n * 4 + c * 2, none⟩) (.inl rfl) _) (p := ⟨a, n * 4 + c * 2 + 1, none⟩) (.inl rfl) _
  exact ⟨⟨h2, h.ok.put n c hv⟩, (Kept.of_below hb _).trans hk (fun _ _ e => e)⟩

set_option maxRecDepth 100000 in
set_option maxHeartbeats 4000000 in
theorem note_any {w : World} {a : Nat} {f : Ca} (h : CapAt w a f) (n c v : Int) : Calls Try.prog 19 #[.pointer (some ⟨a, 0, none⟩), .int .i64 n, .int .i64 c, .int .i64 v] w fun e w' => e = .returned (.int .i64 (noteE f n c v)) ∧ CapTo w a (noteF f n c v) w' := by
  have HN := Lib.hid (fun W => isNode_any n W)
  have HC := Lib.hid (fun W => isChannel_any c W)
  have HV := Lib.hid (fun W => isDeviation_any v W)
  have H0 := Lib.hid (show CapTo w a f w from ⟨h, Kept.refl _ _⟩)
  have H := Lib.hid h
  clear h
  unfold noteE noteF
  unfold okB
  cases hn : nodeB n
  · rw [hn] at HN
    clear hn HC HV H
    go_enter Try.func19, Try.ntmps19
    go_wp2_with (go_at_call 28; refine (HN.out _).mono ?_; rintro e w1 ⟨rfl, hw1⟩; obtain rfl := hw1.symm)
    go_ret
    exact ⟨rfl, H0.out⟩
  rw [hn] at HN
  obtain ⟨k, hk, rfl⟩ := nodeB_iff.1 hn
  clear hn
  cases hc : chanB c
  · rw [hc] at HC
    clear hc HV H hk
    go_enter Try.func19, Try.ntmps19
    go_wp2_with (first
      | (go_at_call 28; refine (HN.out _).mono ?_; rintro e w1 ⟨rfl, hw1⟩; obtain rfl := hw1.symm)
      | (go_at_call 33; refine (HC.out _).mono ?_; rintro e w1 ⟨rfl, hw1⟩; obtain rfl := hw1.symm))
    go_ret
    exact ⟨rfl, H0.out⟩
  rw [hc] at HC
  obtain ⟨j, hj, rfl⟩ := chanB_iff.1 hc
  clear hc
  cases hv : byB v
  · rw [hv] at HV
    clear hv H hk hj
    go_enter Try.func19, Try.ntmps19
    go_wp2_with (first
      | (go_at_call 28; refine (HN.out _).mono ?_; rintro e w1 ⟨rfl, hw1⟩; obtain rfl := hw1.symm)
      | (go_at_call 33; refine (HC.out _).mono ?_; rintro e w1 ⟨rfl, hw1⟩; obtain rfl := hw1.symm)
      | (go_at_call 34; refine (HV.out _).mono ?_; rintro e w1 ⟨rfl, hw1⟩; obtain rfl := hw1.symm))
    go_ret
    exact ⟨rfl, H0.out⟩
  rw [hv] at HV
  have hvb := byB_iff.1 hv
  clear hv
  rw [Int.toNat_natCast, Int.toNat_natCast]
  have hq : w.cell? ⟨a, k * 4 + j * 2 + 1, none⟩ = some (.bool (f k j).isSome) := by
    obtain ⟨_, c1, _, c3⟩ := H.out.cells hk
    rcases (show j = 0 ∨ j = 1 by omega) with rfl | rfl
    · exact c1
    · exact c3
  have e1 : (0 : Int) ≤ (k : Int) := by omega
  have e2 : (k : Int) < 16 := by omega
  have e3 : (0 : Int) ≤ (j : Int) := by omega
  have e4 : (j : Int) < 2 := by omega
  cases hs : (f k j).isSome
  · rw [hs] at hq
    have HSO := Lib.hid (fun W => some_any v W)
    have HE := Lib.hid (fun W (hW : Below w.heap.size w W) => ca_set2 (v := v) H.out hW hk hj hvb)
    have KX := Lib.hid (fun (W : World) (hW : Below w.heap.size w W) => (show (∃ u, W.cell? ⟨a, k * 4 + j * 2, none⟩ = some u) ∧ (∃ u, W.cell? ⟨a, k * 4 + j * 2 + 1, none⟩ = some u) ∧ (∀ i, W.frozen? ⟨a, i, none⟩ = false) from by
      have q := (H.out.later hW)
      obtain ⟨c0, c1, c2, c3⟩ := q.cells hk
      refine ⟨?_, ?_, q.whole.frozen⟩
      · rcases (show j = 0 ∨ j = 1 by omega) with rfl | rfl
        · exact ⟨_, c0⟩
        · exact ⟨_, c2⟩
      · rcases (show j = 0 ∨ j = 1 by omega) with rfl | rfl
        · exact ⟨_, c1⟩
        · exact ⟨_, c3⟩))
    clear hs hvb hk hj H0 H
    go_enter Try.func19, Try.ntmps19
    go_upto_region 5 with (first
      | (go_at_call 28; refine (HN.out _).mono ?_; rintro e w1 ⟨rfl, hw1⟩; obtain rfl := hw1.symm)
      | (go_at_call 33; refine (HC.out _).mono ?_; rintro e w1 ⟨rfl, hw1⟩; obtain rfl := hw1.symm)
      | (go_at_call 34; refine (HV.out _).mono ?_; rintro e w1 ⟨rfl, hw1⟩; obtain rfl := hw1.symm))
    clear hq
    have K0 := Lib.hid (show (fun W : World => True) w.drew from trivial)
    go_region_held3 (fun W : World => True) (first | exact trivial) (first
      | (go_at_call 32; refine (HSO.out _).mono ?_; rintro e w5 ⟨rfl, hb⟩; have hb := Below.trans (show Below w.heap.size w w.drew from (Below.refl _ w).drew) hb; obtain ⟨⟨u0, q0⟩, ⟨u1, q1⟩, qf⟩ := KX.out w5 hb; have HE5 := Lib.hid (HE.out w5 hb); clear hb))
    go_wp2
    go_ret
    exact ⟨rfl, HE5.out⟩
  · rw [hs] at hq
    clear hs hvb hk hj H
    go_enter Try.func19, Try.ntmps19
    go_wp2_with (first
      | (go_at_call 28; refine (HN.out _).mono ?_; rintro e w1 ⟨rfl, hw1⟩; obtain rfl := hw1.symm)
      | (go_at_call 33; refine (HC.out _).mono ?_; rintro e w1 ⟨rfl, hw1⟩; obtain rfl := hw1.symm)
      | (go_at_call 34; refine (HV.out _).mono ?_; rintro e w1 ⟨rfl, hw1⟩; obtain rfl := hw1.symm))
    go_ret
    exact ⟨rfl, H0.out⟩
set_option maxHeartbeats 1000000 in
theorem noteNil_any (n c v : Int) (w : World) : Calls Try.prog 19 #[.pointer none, .int .i64 n, .int .i64 c, .int .i64 v] w fun e w' => e = .returned (.int .i64 1) ∧ w' = w := by
  go_enter Try.func19, Try.ntmps19
  go_wp2
  go_ret
  exact ⟨rfl, rfl⟩
end Go.Proofs.Ytjgbgakdnapdhaa
