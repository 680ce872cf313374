/- What a nil agenda answers: Drop, Len, Put, Copy, All. No condition. -/
import Derived.Test.YtchfponnajednaaANil
namespace Go.Proofs.Ytchfponnajednaa
open Go.RowKit Go.Shelf

set_option maxRecDepth 100000 in
set_option maxHeartbeats 1000000 in
theorem agLenNil_any (w : World) : Calls Try.prog 14 #[.pointer none] w fun e w' => e = .returned (.int .i64 0) ∧ Below w.heap.size w w' := by
  have HK := Lib.hid (keptNil2 w)
  go_enter Try.func14, Try.ntmps14
  go_wp2_with fail
  refine HK.out.mono ?_
  rintro e w1 ⟨p, v, l, rfl, hp, _, hpm, hb, _⟩
  obtain ⟨A, c, rfl⟩ := pile_slice hp
  have hc := hp.cell0
  have HL := Lib.hid hpm.length_eq
  have HB := Lib.hid hb
  clear hp hpm hb HK
  go_wp2_with (go_at_call 29; refine (len_any _ _ _ _).mono ?_; rintro e w' ⟨rfl, rfl⟩)
  go_ret
  exact ⟨rfl, HB.out⟩
set_option maxRecDepth 100000 in
set_option maxHeartbeats 1000000 in
theorem agPutNil_any (w : World) (x : Ev) : Calls Try.prog 16 #[.pointer none, evV x] w fun e w' => e = .returned (.int .i64 1) ∧ Below w.heap.size w w' := by
  unfold evV
  go_enter Try.func16, Try.ntmps16
  go_wp2
  go_ret
  exact ⟨rfl, (Below.refl _ _).alloc (Nat.le_refl _) _⟩
set_option maxRecDepth 100000 in
set_option maxHeartbeats 1000000 in
theorem agCopyNil_any (w : World) : Calls Try.prog 18 #[.pointer none] w fun e w' => e = .returned (.pointer none) ∧ w' = w := by
  go_enter Try.func18, Try.ntmps18
  go_wp2
  go_ret
  exact ⟨rfl, rfl⟩
set_option maxRecDepth 100000 in
set_option maxHeartbeats 1000000 in
theorem agAllNil_any (w : World) : Calls Try.prog 13 #[.pointer none] w (NilDone w) := by
  go_enter Try.func13, Try.ntmps13
  go_wp2_with fail
  refine (agCopyNil_any w).mono ?_
  rintro e w1 ⟨rfl, rfl⟩
  go_wp2_with fail
  refine (agUntilNil_any _ _).mono ?_
  rintro e w2 ⟨A, c, rfl, hb⟩
  have HB := Lib.hid hb
  clear hb
  go_wp2
  go_ret
  exact ⟨_, _, rfl, HB.out⟩
set_option maxRecDepth 100000 in
set_option maxHeartbeats 1000000 in
theorem agDropNil_any (w : World) (kind node : Int) :
    Calls Try.prog 19 #[.pointer none, .int .i64 kind, .int .i64 node] w fun e w' => e = .returned (.int .i64 0) ∧ Below w.heap.size w w' := by
  obtain ⟨L, hL⟩ : ∃ L : List En, L = [] := ⟨_, rfl⟩
  obtain ⟨nx, hnx⟩ : ∃ nx : Nat, nx = 0 := ⟨_, rfl⟩
  have hl : L.length ≤ 1000000 := by rw [hL]; simp
  have HLL := Lib.hid hL
  have HNX := Lib.hid hnx
  clear hL hnx
  obtain ⟨w0, hw0⟩ : ∃ w0, w0 = (w.alloc (.cells #[.int .i64 kind] 3)).alloc (.cells #[.int .i64 node] 3) := ⟨_, rfl⟩
  have hb0 : Below w.heap.size w w0 := by rw [hw0]; exact ((Below.refl _ _).alloc (Nat.le_refl _) _).alloc (by simp) _
  have hK0 : Whole w0 w.heap.size 3 #[.int .i64 kind] := by rw [hw0]; exact (Whole.new w _ _).alloc _
  have hN0 : Whole w0 (w.heap.size + 1) 3 #[.int .i64 node] := by
    rw [hw0]
    have := Whole.new (w.alloc (.cells #[.int .i64 kind] 3)) 3 #[.int .i64 node]
    simpa using this
  have HK := Lib.hid (keptNil2 w0)
  have HB0 := Lib.hid (And.intro hb0 (And.intro hK0 hN0))
  rw [hw0] at HK
  have HW0 := Lib.hid hw0
  clear hb0 hK0 hN0 hw0
  go_enter Try.func19, Try.ntmps19
  go_wp2_with fail
  refine HK.out.mono ?_
  rintro e w1 ⟨p, v, l, rfl, hp, hh, hpm, hb, hgp, hgv⟩
  rw [← HW0.out] at hb hgp
  rw [← HLL.out] at hpm
  rw [← HNX.out] at hp
  have hlen := hpm.length_eq
  have hbb := k_then hb HB0.out.1
  have hK1 := k_later hb HB0.out.2.1
  have hN1 := k_later hb HB0.out.2.2
  obtain ⟨A, c, rfl⟩ := pile_slice hp
  have hc0 := hp.cell0
  have hfr := hp.whole.frozen 0
  have hdel := deletePile_any w1 p _ nx l w.heap.size (w.heap.size + 1) kind node hp (by omega) (hK1.cell 0) (hN1.cell 0) (fun e => hK1.not_row (by decide) hp.row e.symm) (fun e => hN1.not_row (by decide) hp.row e.symm)
  have HP := Lib.hid (And.intro hp (And.intro hpm (And.intro hbb (And.intro hgp hgv))))
  have HD := Lib.hid hdel
  have HLN := Lib.hid hlen
  clear hp hh hpm hbb hgp hgv hb hdel hlen hK1 hN1 HK
  generalize hN : l.length = N at *
  have HN := Lib.hid hN
  clear hN
  go_wp2_with (go_at_call 29; refine (len_any _ _ _ _).mono ?_; rintro e w' ⟨rfl, rfl⟩)
  refine HD.out.mono ?_
  rintro e w2 ⟨v2, rfl, ho2, hr2, hk2, A2, c2, rfl⟩
  obtain ⟨l2, hl2⟩ : ∃ l2, l2 = l.filter (keepB kind node) := ⟨_, rfl⟩
  rw [← hl2] at hr2 ho2
  have hpr : ¬ (some p = (Value.slice A N c).ownBlock) := HP.out.1.ne
  have hW2 : Whole w2 p 63 #[.slice A N c, .int .u64 (nx : Int)] := HP.out.1.whole.kept hk2 hpr
  have hc2 := hW2.cell 0
  have hf2 := hW2.frozen 0
  simp at hc2
  have k3 : Kept (fun k => k = p) w2 (w2.setCell ⟨p, 0, none⟩ (.slice A2 l2.length c2)) := Kept.setCell (S := fun k => k = p) (Kept.refl _ w2) (p := ⟨p, 0, none⟩) (.inl rfl) _
  have hp3 : PileAt (w2.setCell ⟨p, 0, none⟩ (.slice A2 l2.length c2)) p (.slice A2 l2.length c2) nx l2 :=
    ⟨hW2.set 0 _, own_kept hr2 k3 (fun g hg e => by obtain rfl : g = p := e; exact hpr (by rw [← ho2, hg]))⟩
  have hle : l2.length ≤ l.length := by rw [hl2]; exact List.length_filter_le _ _
  have hin := heapInit_any _ p _ nx l2 hp3 (by have := HN.out; have := HLN.out; omega)
  have HIN := Lib.hid hin
  have HK2 := Lib.hid (And.intro hk2 (And.intro k3 (And.intro ho2 hl2)))
  rw [← hl2]
  clear hr2 hk2 ho2 hpr hW2 k3 hp3 hin hl2 HD hle hc0 hfr
  go_wp2_with fail
  refine HIN.out.mono ?_
  rintro e w4 ⟨rfl, l4, hp4, hpm4, hh4, hk4⟩
  have hc4 := hp4.cell0
  have hkk : Kept (fun k => k = p ∨ some k = (Value.slice A N c).ownBlock) w1 w4 := by
    refine ((HK2.out.1.mono (T := fun k => k = p ∨ some k = (Value.slice A N c).ownBlock) (fun i hi => .inr hi)).trans HK2.out.2.1 (fun i _ hi => .inl hi)).trans hk4 (fun i _ hi => ?_)
    rcases hi with hi | hi
    · exact .inl hi
    · exact .inr (by rw [hi]; exact HK2.out.2.2.1)
  have hz0 := HB0.out.1.size
  have hfin : Below w.heap.size w w4 := ((Kept.of_below HP.out.2.2.1 Empty).trans hkk (fun i hi e => by
    rcases e with rfl | e
    · have := HP.out.2.2.2.1; omega
    · rw [HP.out.2.2.2.2] at e; simp [Value.ownBlock] at e)).below (fun _ _ h => h)
  have hl4 : (l2.length : Int) = ((L.filter (keepB kind node)).length : Int) := by
    rw [HK2.out.2.2.2]
    have := (HP.out.2.1.filter (keepB kind node)).length_eq
    omega
  have HF := Lib.hid hfin
  have HL4 := Lib.hid hl4
  have hln : (l2.length : Int) ≤ 1000000 := by
    have := (List.filter_sublist (p := keepB kind node) (l := L)).length_le
    omega
  have hNn : (N : Int) ≤ 1000000 := by have := HLN.out; omega
  clear hp4 hpm4 hh4 hk4 hkk hfin hl4 HIN
  have h2 : (l2.length : Int) = 0 := by rw [HL4.out, HLL.out]; simp
  have h3 : (N : Int) = 0 := by have := HLN.out; rw [HLL.out] at this; simp at this; omega
  generalize l2.length = n2 at *
  go_wp2_with (go_at_call 29; refine (len_any _ _ _ _).mono ?_; rintro e w' ⟨rfl, rfl⟩)
  go_ret
  exact ⟨rfl, HF.out⟩
end Go.Proofs.Ytchfponnajednaa
