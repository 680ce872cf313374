/- container/heap.up over a pile: by its contract. No condition. -/
import Derived.Test.YtchfponnajednaaAIfc
namespace Go.Proofs.Ytchfponnajednaa
open Go.RowKit Go.Shelf

/-- Less, asked of a pile's list. -/
theorem pile_row {w : World} {p nx : Nat} {v : Value} {l : List En} (h : PileAt w p v nx l) (hl : 0 < l.length) : ∃ g cap, v = .slice (some ⟨g, 0, none⟩) l.length cap ∧ RowAt w g cap l ∧ g ≠ p := by
  obtain ⟨_, g, cap, e, hrow⟩ := RowAt.of_own h.row hl
  refine ⟨g, cap, e, hrow, ?_⟩
  rintro rfl
  exact h.ne (by rw [e]; rfl)
theorem getD_some {l : List En} {i : Nat} (h : i < l.length) : l[i]? = some (l.getD i default) := by rw [List.getD_eq_getElem?_getD, List.getElem?_eq_getElem h]; rfl
theorem pileLess_any {w : World} {p nx g cap n : Nat} {l : List En} (h : PileAt w p (.slice (some ⟨g, 0, none⟩) n cap) nx l) (hn : l.length = n) (i j : Nat) (hi : i < n) (hj : j < n) :
    Calls Try.prog 60 #[.slice (some ⟨g, 0, none⟩) n cap, .int .i64 (i : Int), .int .i64 (j : Int)] w fun e w' => e = .returned (.bool (lessB (l.getD i default) (l.getD j default))) ∧ PileAt w' p (.slice (some ⟨g, 0, none⟩) n cap) nx l ∧ Below w.heap.size w w' := by
  obtain ⟨g', cap', e, hrow, _⟩ := pile_row h (by omega)
  obtain ⟨rfl, rfl⟩ : g = g' ∧ cap = cap' := by
    injection e with e1 _ e3
    injection e1 with e1
    injection e1 with e1
    exact ⟨e1, e3⟩
  exact (less_any w g cap n l i j _ _ hrow hn (getD_some (by omega)) (getD_some (by omega))).mono fun e w' k => ⟨k.1, h.later k.2, k.2⟩
theorem pileSwap_any {w : World} {p nx g cap n : Nat} {l : List En} (h : PileAt w p (.slice (some ⟨g, 0, none⟩) n cap) nx l) (hn : l.length = n) (i j : Nat) (hi : i < n) (hj : j < n) :
    Calls Try.prog 63 #[.slice (some ⟨g, 0, none⟩) n cap, .int .i64 (i : Int), .int .i64 (j : Int)] w fun e w' => e = .returned (.tuple #[]) ∧ PileAt w' p (.slice (some ⟨g, 0, none⟩) n cap) nx (swapL l i j) ∧ Kept (fun k => k = g) w w' := by
  obtain ⟨g', cap', e, hrow, hgp⟩ := pile_row h (by omega)
  obtain ⟨rfl, rfl⟩ : g = g' ∧ cap = cap' := by
    injection e with e1 _ e3
    injection e1 with e1
    injection e1 with e1
    exact ⟨e1, e3⟩
  refine (swap_any w g cap n l i j hrow hn hi hj).mono fun e w' k => ⟨k.1, ⟨h.whole.kept k.2.2 (fun e => hgp e.symm), ?_⟩, k.2.2⟩
  have := k.2.1.own
  rw [swapL_length, hn] at this
  rw [swapL_length, hn]
  exact this

set_option maxRecDepth 100000 in
set_option maxHeartbeats 2000000 in
theorem up_any (w : World) (p nx g cap n : Nat) (l : List En) (j : Nat) (h : PileAt w p (.slice (some ⟨g, 0, none⟩) n cap) nx l) (hn : l.length = n) (hj : j < n) (hl : n ≤ 1000000) (hu : UpAt j l) :
    Calls Try.prog 40 #[.iface 25 (.pointer (some ⟨p, 0, none⟩)), .int .i64 (j : Int)] w fun e w' => e = .returned (.tuple #[]) ∧
      ∃ l', PileAt w' p (.slice (some ⟨g, 0, none⟩) n cap) nx l' ∧ l'.Perm l ∧ Heap l' ∧ Kept (fun k => k = g) w w' := by
  have n1 := nil_less ⟨p, 0, none⟩
  have n2 := nil_swap ⟨p, 0, none⟩
  go_enter Try.func40, Try.ntmps40
  go_wp2
  go_loopw [1] (fun jv wr => ∃ (jk : Nat) (lk : List En), jv = .int .i64 (jk : Int) ∧ jk < n ∧ lk.length = n ∧ PileAt wr p (.slice (some ⟨g, 0, none⟩) n cap) nx lk ∧ lk.Perm l ∧ UpAt jk lk ∧ Kept (fun k => k = g) w wr) (fun jv _ => (intOf jv).toNat)
  case atStart => exact ⟨j, l, rfl, hj, hn, h, List.Perm.refl _, hu, Kept.refl _ _⟩
  case round =>
    obtain ⟨jk, lk, rfl, hjk, hnk, hp, hperm, hup, hk⟩ := hrel
    clear hu h hj
    have hc := hp.cell0
    have m1 := method_less hc
    by_cases h0 : jk = 0
    · subst h0
      have hfin := hup.done (.inl rfl)
      have H := Lib.hid (And.intro hp (And.intro hperm (And.intro hfin hk)))
      clear hp hperm hfin hk hup hnk hn
      go_wp2
      go_end0
      exact ⟨rfl, lk, H.out⟩
    · obtain ⟨q, hq⟩ : ∃ q, q = (jk - 1) / 2 := ⟨_, rfl⟩
      have eq1 : ((jk : Int) - 1) / 2 = (q : Int) := by omega
      have ne1 : ¬ q = jk := by omega
      have ne2 : ¬ (q : Int) = (jk : Int) := by omega
      have qlt : q < n := by omega
      have q0 : 1 ≤ jk := by omega
      have hL := pileLess_any hp hnk jk q hjk qlt
      cases hless : lessB (lk.getD jk default) (lk.getD q default)
      · rw [hless] at hL
        have hle : leP (lk.getD ((jk - 1) / 2) default) (lk.getD jk default) := by rw [← hq]; exact less_no.1 hless
        have hfin := hup.done (.inr hle)
        have H := Lib.hid (And.intro hperm (And.intro hfin hk))
        have HL := Lib.hid hL
        clear hperm hfin hk hup hle hless hL hnk hn hp hq
        go_wp2_with (first | (go_at_call 60; refine HL.out.mono ?_; rintro e w2 ⟨rfl, hp2, hb2⟩; have HP := Lib.hid hp2; have HB := Lib.hid hb2; clear hp2 hb2))
        go_end0
        exact ⟨rfl, lk, HP.out, H.out.1, H.out.2.1, H.out.2.2.trans (Kept.of_below HB.out (fun k => k = g)) (fun _ _ h => h)⟩
      · rw [hless] at hL
        have hlt : lessP (lk.getD jk default) (lk.getD ((jk - 1) / 2) default) := by rw [← hq]; exact less_iff.1 hless
        have hst := hup.step q0 (by omega) hlt
        rw [← hq] at hst
        have hpm := (swapL_perm lk q jk (by omega) (by omega)).trans hperm
        have hsw := fun W (h : PileAt W p (.slice (some ⟨g, 0, none⟩) n cap) nx lk) => pileSwap_any h hnk q jk qlt hjk
        have hln : (swapL lk q jk).length = n := by rw [swapL_length, hnk]
        have H := Lib.hid (And.intro hpm (And.intro hst (And.intro hk hln)))
        have HL := Lib.hid hL
        have HS := Lib.hid hsw
        clear hperm hk hup hless hL hnk hn hp hlt hst hpm hsw hln hq
        go_wp2_with fail
        refine HL.out.mono ?_
        rintro e w2 ⟨rfl, hp2, hb2⟩
        have hc2 := hp2.cell0
        have m2 := method_swap hc2
        have HP := Lib.hid hp2
        have HB := Lib.hid hb2
        have HS2 := Lib.hid (HS.out _ HP.out)
        clear hp2 hb2 HL HS
        go_wp2_with fail
        refine HS2.out.mono ?_
        rintro e w3 ⟨rfl, hp3, hk3⟩
        have HP3 := Lib.hid hp3
        have HK3 := Lib.hid hk3
        clear hp3 hk3 HS2
        go_wp2
        go_roundw
        case rel => exact ⟨q, swapL lk q jk, rfl, qlt, H.out.2.2.2, HP3.out, H.out.1, H.out.2.1, (H.out.2.2.1.trans (Kept.of_below HB.out (fun k => k = g)) (fun _ _ h => h)).trans HK3.out (fun _ _ h => h)⟩
        case measure => simp [intOf]; omega
end Go.Proofs.Ytchfponnajednaa
