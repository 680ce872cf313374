/- container/heap.down over a pile: by its contract. No condition. -/
import Derived.Test.YtchfponnajednaaAUp
namespace Go.Proofs.Ytchfponnajednaa
open Go.RowKit Go.Shelf

/-- What down answers: some Bool; the list is a heap from i0 on, among its first m; the others stand as they stood. -/
def Downed (w : World) (p nx g cap n i0 m : Nat) (l : List En) (e : Ending) (w' : World) : Prop :=
  (∃ b, e = .returned (.bool b)) ∧ ∃ l', PileAt w' p (.slice (some ⟨g, 0, none⟩) n cap) nx l' ∧ l'.Perm l ∧ HeapFrom i0 m l' ∧ (∀ k, m ≤ k → l'.getD k default = l.getD k default) ∧ Kept (fun k => k = g) w w'
theorem some_bool (b : Bool) : ∃ c, Ending.returned (.bool b) = .returned (.bool c) := ⟨b, rfl⟩

set_option maxRecDepth 100000 in
set_option maxHeartbeats 4000000 in
theorem down_any (w : World) (p nx g cap n : Nat) (l : List En) (i0 m : Nat) (h : PileAt w p (.slice (some ⟨g, 0, none⟩) n cap) nx l) (hn : l.length = n) (hl : n ≤ 1000000) (hm : m ≤ n) (hi0 : i0 ≤ 1000000) (hh : HeapFrom (i0 + 1) m l) :
    Calls Try.prog 41 #[.iface 25 (.pointer (some ⟨p, 0, none⟩)), .int .i64 (i0 : Int), .int .i64 (m : Int)] w (Downed w p nx g cap n i0 m l) := by
  have n1 := nil_less ⟨p, 0, none⟩
  have n2 := nil_swap ⟨p, 0, none⟩
  go_enter Try.func41, Try.ntmps41
  go_wp2
  go_loopw [7] (fun iv wr => ∃ (ik : Nat) (lk : List En), iv = .int .i64 (ik : Int) ∧ i0 ≤ ik ∧ ik ≤ 1000000 ∧ lk.length = n ∧ PileAt wr p (.slice (some ⟨g, 0, none⟩) n cap) nx lk ∧ lk.Perm l ∧ DownAt i0 m ik lk ∧ (∀ k, m ≤ k → lk.getD k default = l.getD k default) ∧ Kept (fun k => k = g) w wr) (fun iv _ => 1000000 - (intOf iv).toNat)
  case atStart => exact ⟨i0, l, rfl, Nat.le_refl _, hi0, hn, h, List.Perm.refl _, DownAt.start hh, fun _ _ => rfl, Kept.refl _ _⟩
  case round =>
    obtain ⟨ik, lk, rfl, hik, hil, hnk, hp, hperm, hdn, hsame, hk⟩ := hrel
    clear hh h
    have hc := hp.cell0
    have m1 := method_less hc
    obtain ⟨j1, hj1⟩ : ∃ j1, j1 = 2 * ik + 1 := ⟨_, rfl⟩
    have eq1 : 2 * (ik : Int) + 1 = (j1 : Int) := by omega
    by_cases hlt : j1 < m
    · obtain ⟨j2, hj2⟩ : ∃ j2, j2 = j1 + 1 := ⟨_, rfl⟩
      have eq2 : (j1 : Int) + 1 = (j2 : Int) := by omega
      have hin : ik < n := by omega
      have hj1n : j1 < n := by omega
      have hneg : ¬ (j1 : Int) < 0 := by omega
      have hjb : j2 ≤ 1000000 := by omega
      by_cases hlt2 : j2 < m
      · have hL1 := pileLess_any hp hnk j2 j1 (by omega) hj1n
        cases hl1 : lessB (lk.getD j2 default) (lk.getD j1 default)
        · rw [hl1] at hL1
          have hmin : ∀ c, c < m → c = 2 * ik + 1 ∨ c = 2 * ik + 2 → leP (lk.getD j1 default) (lk.getD c default) := by
            intro c _ hcc
            rcases hcc with hcc | hcc
            · obtain rfl : c = j1 := by omega
              exact le_refl _
            · obtain rfl : c = j2 := by omega
              exact less_no.1 hl1
          have hL := fun W (h : PileAt W p (.slice (some ⟨g, 0, none⟩) n cap) nx lk) => pileLess_any h hnk j1 ik (by omega) hin
          cases hless : lessB (lk.getD j1 default) (lk.getD ik default)
          · simp only [hless] at hL
            have hfin := hdn.done (j := j1) hmin (less_no.1 hless)
            have H := Lib.hid (And.intro hperm (And.intro hfin (And.intro hsame hk)))
            have HL := Lib.hid hL
            have HP0 := Lib.hid hp
            clear hperm hfin hk hdn hless hL hnk hn hp hj1 hj2 hmin hsame hm
            have HL1 := Lib.hid hL1
            clear hL1 hl1
            go_wp2_with fail
            refine HL1.out.mono ?_
            rintro e w1 ⟨rfl, hp1, hb1⟩
            have hc1 := hp1.cell0
            have m3 := method_less hc1
            have HP := Lib.hid hp1
            have hk1 := Kept.of_below hb1 (fun k => k = g)
            have HB := Lib.hid hk1
            clear hp1 hb1 hk1 HL1
            go_wp2_with fail
            refine (HL.out _ HP.out).mono ?_
            rintro e w2 ⟨rfl, hp2, hb2⟩
            have HP2 := Lib.hid hp2
            have HB2 := Lib.hid hb2
            clear hp2 hb2
            go_wp2
            go_ret
            exact ⟨some_bool _, lk, HP2.out, H.out.1, H.out.2.1, H.out.2.2.1, (H.out.2.2.2.trans HB.out (fun _ _ h => h)).trans (Kept.of_below HB2.out (fun k => k = g)) (fun _ _ h => h)⟩
          · simp only [hless] at hL
            have hst := hdn.step (j := j1) hik (by omega) (by omega) (by omega) hmin (less_iff.1 hless)
            have hpm := (swapL_perm lk ik j1 (by omega) (by omega)).trans hperm
            have hsw := fun W (h : PileAt W p (.slice (some ⟨g, 0, none⟩) n cap) nx lk) => pileSwap_any h hnk ik j1 hin (by omega)
            have hln : (swapL lk ik j1).length = n := by rw [swapL_length, hnk]
            have hsm : ∀ k, m ≤ k → (swapL lk ik j1).getD k default = l.getD k default := fun k hk => by rw [swapL_get lk ik j1 k (by omega) (by omega), if_neg (by omega), if_neg (by omega)]; exact hsame k hk
            have hji : i0 ≤ j1 ∧ j1 ≤ 1000000 ∧ ik < j1 := by omega
            have H := Lib.hid (And.intro hpm (And.intro hst (And.intro hsm (And.intro hk (And.intro hln hji)))))
            have HL := Lib.hid hL
            have HS := Lib.hid hsw
            have HP0 := Lib.hid hp
            clear hperm hk hdn hless hL hnk hn hp hj1 hj2 hmin hsame hm hst hpm hsw hln hsm hji
            have HL1 := Lib.hid hL1
            clear hL1 hl1
            go_wp2_with fail
            refine HL1.out.mono ?_
            rintro e w1 ⟨rfl, hp1, hb1⟩
            have hc1 := hp1.cell0
            have m3 := method_less hc1
            have HP := Lib.hid hp1
            have hk1 := Kept.of_below hb1 (fun k => k = g)
            have HB := Lib.hid hk1
            clear hp1 hb1 hk1 HL1
            go_wp2_with fail
            refine (HL.out _ HP.out).mono ?_
            rintro e w2 ⟨rfl, hp2, hb2⟩
            have hc2 := hp2.cell0
            have m2 := method_swap hc2
            have HP2 := Lib.hid hp2
            have HB2 := Lib.hid hb2
            clear hp2 hb2
            go_wp2_with fail
            refine (HS.out _ HP2.out).mono ?_
            rintro e w3 ⟨rfl, hp3, hk3⟩
            have HP3 := Lib.hid hp3
            have HK3 := Lib.hid hk3
            clear hp3 hk3
            go_wp2
            go_roundw
            case rel => exact ⟨j1, swapL lk ik j1, rfl, H.out.2.2.2.2.2.1, H.out.2.2.2.2.2.2.1, H.out.2.2.2.2.1, HP3.out, H.out.1, H.out.2.1, H.out.2.2.1, (((H.out.2.2.2.1.trans HB.out (fun _ _ h => h)).trans (Kept.of_below HB2.out (fun k => k = g)) (fun _ _ h => h))).trans HK3.out (fun _ _ h => h)⟩
            case measure => have := H.out.2.2.2.2.2.2; simp [intOf]; omega
        · rw [hl1] at hL1
          have hmin : ∀ c, c < m → c = 2 * ik + 1 ∨ c = 2 * ik + 2 → leP (lk.getD j2 default) (lk.getD c default) := by
            intro c _ hcc
            rcases hcc with hcc | hcc
            · obtain rfl : c = j1 := by omega
              exact less_le (less_iff.1 hl1)
            · obtain rfl : c = j2 := by omega
              exact le_refl _
          have hL := fun W (h : PileAt W p (.slice (some ⟨g, 0, none⟩) n cap) nx lk) => pileLess_any h hnk j2 ik (by omega) hin
          cases hless : lessB (lk.getD j2 default) (lk.getD ik default)
          · simp only [hless] at hL
            have hfin := hdn.done (j := j2) hmin (less_no.1 hless)
            have H := Lib.hid (And.intro hperm (And.intro hfin (And.intro hsame hk)))
            have HL := Lib.hid hL
            have HP0 := Lib.hid hp
            clear hperm hfin hk hdn hless hL hnk hn hp hj1 hj2 hmin hsame hm
            have HL1 := Lib.hid hL1
            clear hL1 hl1
            go_wp2_with fail
            refine HL1.out.mono ?_
            rintro e w1 ⟨rfl, hp1, hb1⟩
            have hc1 := hp1.cell0
            have m3 := method_less hc1
            have HP := Lib.hid hp1
            have hk1 := Kept.of_below hb1 (fun k => k = g)
            have HB := Lib.hid hk1
            clear hp1 hb1 hk1 HL1
            go_wp2_with fail
            refine (HL.out _ HP.out).mono ?_
            rintro e w2 ⟨rfl, hp2, hb2⟩
            have HP2 := Lib.hid hp2
            have HB2 := Lib.hid hb2
            clear hp2 hb2
            go_wp2
            go_ret
            exact ⟨some_bool _, lk, HP2.out, H.out.1, H.out.2.1, H.out.2.2.1, (H.out.2.2.2.trans HB.out (fun _ _ h => h)).trans (Kept.of_below HB2.out (fun k => k = g)) (fun _ _ h => h)⟩
          · simp only [hless] at hL
            have hst := hdn.step (j := j2) hik (by omega) (by omega) (by omega) hmin (less_iff.1 hless)
            have hpm := (swapL_perm lk ik j2 (by omega) (by omega)).trans hperm
            have hsw := fun W (h : PileAt W p (.slice (some ⟨g, 0, none⟩) n cap) nx lk) => pileSwap_any h hnk ik j2 hin (by omega)
            have hln : (swapL lk ik j2).length = n := by rw [swapL_length, hnk]
            have hsm : ∀ k, m ≤ k → (swapL lk ik j2).getD k default = l.getD k default := fun k hk => by rw [swapL_get lk ik j2 k (by omega) (by omega), if_neg (by omega), if_neg (by omega)]; exact hsame k hk
            have hji : i0 ≤ j2 ∧ j2 ≤ 1000000 ∧ ik < j2 := by omega
            have H := Lib.hid (And.intro hpm (And.intro hst (And.intro hsm (And.intro hk (And.intro hln hji)))))
            have HL := Lib.hid hL
            have HS := Lib.hid hsw
            have HP0 := Lib.hid hp
            clear hperm hk hdn hless hL hnk hn hp hj1 hj2 hmin hsame hm hst hpm hsw hln hsm hji
            have HL1 := Lib.hid hL1
            clear hL1 hl1
            go_wp2_with fail
            refine HL1.out.mono ?_
            rintro e w1 ⟨rfl, hp1, hb1⟩
            have hc1 := hp1.cell0
            have m3 := method_less hc1
            have HP := Lib.hid hp1
            have hk1 := Kept.of_below hb1 (fun k => k = g)
            have HB := Lib.hid hk1
            clear hp1 hb1 hk1 HL1
            go_wp2_with fail
            refine (HL.out _ HP.out).mono ?_
            rintro e w2 ⟨rfl, hp2, hb2⟩
            have hc2 := hp2.cell0
            have m2 := method_swap hc2
            have HP2 := Lib.hid hp2
            have HB2 := Lib.hid hb2
            clear hp2 hb2
            go_wp2_with fail
            refine (HS.out _ HP2.out).mono ?_
            rintro e w3 ⟨rfl, hp3, hk3⟩
            have HP3 := Lib.hid hp3
            have HK3 := Lib.hid hk3
            clear hp3 hk3
            go_wp2
            go_roundw
            case rel => exact ⟨j2, swapL lk ik j2, rfl, H.out.2.2.2.2.2.1, H.out.2.2.2.2.2.2.1, H.out.2.2.2.2.1, HP3.out, H.out.1, H.out.2.1, H.out.2.2.1, (((H.out.2.2.2.1.trans HB.out (fun _ _ h => h)).trans (Kept.of_below HB2.out (fun k => k = g)) (fun _ _ h => h))).trans HK3.out (fun _ _ h => h)⟩
            case measure => have := H.out.2.2.2.2.2.2; simp [intOf]; omega
      · have hmin : ∀ c, c < m → c = 2 * ik + 1 ∨ c = 2 * ik + 2 → leP (lk.getD j1 default) (lk.getD c default) := by
          intro c _ hcc
          obtain rfl : c = j1 := by omega
          exact le_refl _
        have hL := fun W (h : PileAt W p (.slice (some ⟨g, 0, none⟩) n cap) nx lk) => pileLess_any h hnk j1 ik (by omega) hin
        cases hless : lessB (lk.getD j1 default) (lk.getD ik default)
        · simp only [hless] at hL
          have hfin := hdn.done (j := j1) hmin (less_no.1 hless)
          have H := Lib.hid (And.intro hperm (And.intro hfin (And.intro hsame hk)))
          have HL := Lib.hid hL
          have HP0 := Lib.hid hp
          clear hperm hfin hk hdn hless hL hnk hn hp hj1 hj2 hmin hsame hm
          have HP := HP0
          have HB := Lib.hid (Kept.refl (fun k => k = g) wr)
          go_wp2_with fail
          refine (HL.out _ HP.out).mono ?_
          rintro e w2 ⟨rfl, hp2, hb2⟩
          have HP2 := Lib.hid hp2
          have HB2 := Lib.hid hb2
          clear hp2 hb2
          go_wp2
          go_ret
          exact ⟨some_bool _, lk, HP2.out, H.out.1, H.out.2.1, H.out.2.2.1, (H.out.2.2.2.trans HB.out (fun _ _ h => h)).trans (Kept.of_below HB2.out (fun k => k = g)) (fun _ _ h => h)⟩
        · simp only [hless] at hL
          have hst := hdn.step (j := j1) hik (by omega) (by omega) (by omega) hmin (less_iff.1 hless)
          have hpm := (swapL_perm lk ik j1 (by omega) (by omega)).trans hperm
          have hsw := fun W (h : PileAt W p (.slice (some ⟨g, 0, none⟩) n cap) nx lk) => pileSwap_any h hnk ik j1 hin (by omega)
          have hln : (swapL lk ik j1).length = n := by rw [swapL_length, hnk]
          have hsm : ∀ k, m ≤ k → (swapL lk ik j1).getD k default = l.getD k default := fun k hk => by rw [swapL_get lk ik j1 k (by omega) (by omega), if_neg (by omega), if_neg (by omega)]; exact hsame k hk
          have hji : i0 ≤ j1 ∧ j1 ≤ 1000000 ∧ ik < j1 := by omega
          have H := Lib.hid (And.intro hpm (And.intro hst (And.intro hsm (And.intro hk (And.intro hln hji)))))
          have HL := Lib.hid hL
          have HS := Lib.hid hsw
          have HP0 := Lib.hid hp
          clear hperm hk hdn hless hL hnk hn hp hj1 hj2 hmin hsame hm hst hpm hsw hln hsm hji
          have HP := HP0
          have HB := Lib.hid (Kept.refl (fun k => k = g) wr)
          go_wp2_with fail
          refine (HL.out _ HP.out).mono ?_
          rintro e w2 ⟨rfl, hp2, hb2⟩
          have hc2 := hp2.cell0
          have m2 := method_swap hc2
          have HP2 := Lib.hid hp2
          have HB2 := Lib.hid hb2
          clear hp2 hb2
          go_wp2_with fail
          refine (HS.out _ HP2.out).mono ?_
          rintro e w3 ⟨rfl, hp3, hk3⟩
          have HP3 := Lib.hid hp3
          have HK3 := Lib.hid hk3
          clear hp3 hk3
          go_wp2
          go_roundw
          case rel => exact ⟨j1, swapL lk ik j1, rfl, H.out.2.2.2.2.2.1, H.out.2.2.2.2.2.2.1, H.out.2.2.2.2.1, HP3.out, H.out.1, H.out.2.1, H.out.2.2.1, (((H.out.2.2.2.1.trans HB.out (fun _ _ h => h)).trans (Kept.of_below HB2.out (fun k => k = g)) (fun _ _ h => h))).trans HK3.out (fun _ _ h => h)⟩
          case measure => have := H.out.2.2.2.2.2.2; simp [intOf]; omega
    · have hfin := hdn.leaf (by omega)
      have H := Lib.hid (And.intro hp (And.intro hperm (And.intro hfin (And.intro hsame hk))))
      clear hp hperm hfin hk hdn hnk hn hj1 hsame hm
      go_wp2
      go_ret
      exact ⟨some_bool _, lk, H.out⟩
end Go.Proofs.Ytchfponnajednaa
