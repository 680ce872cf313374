/- OctetIns, its walk. -/
import Derived.Test.YtloeckflcdnmaaaIns
import Derived.Test.YtloeckflcdnmaaaBackD
import Derived.Deep.DrawnRows
import Derived.Deep.DeepCutAuto
import Derived.BigQuiet
namespace Go.Proofs.Ytloeckflcdnmaaa
open Go.RowKit
attribute [local go_sem ↓] Go.wp_at_zero Go.wp_at_succ

set_option maxRecDepth 100000 in
set_option maxHeartbeats 2000000 in
theorem ins_walk (B : Option Addr) (m cb : Nat) (l : List UInt8) (A : Option Addr) (n c : Nat) (xs : List OpD) (w : World) (hs : Src w B m l) (hm : m ≤ 140737488351232) (hx : Ops w A n xs) (hn : n ≤ 9223372036854775807) :
    Calls Try.prog 4 #[.slice B m cb, .slice A n c] w fun e w' => e = .returned (.bool true) ∧ Below w.heap.size w w' := by
  have HX := Lib.hid hx
  have HS := Lib.hid hs
  clear hx hs
  cases gx : greatB xs with
  | true =>
    have GX := Lib.hid gx
    clear gx
    go_enter Try.func4, Try.ntmps4
    go_wp2_with (go_at_call 9; refine (great_any A n c xs _ HX.out hn).mono ?_; rintro e w2 ⟨rfl, rfl⟩; rw [GX.out])
    go_ret
    exact ⟨rfl, Below.refl _ _⟩
  | false =>
    obtain ⟨hx1, hx2⟩ := not_great gx
    have GX := Lib.hid gx
    clear gx
    obtain rfl := HX.out.1
    obtain rfl := HS.out.1
    by_cases h20 : 20000 < l.length
    · go_enter Try.func4, Try.ntmps4
      go_wp2_with (go_at_call 9; refine (great_any A _ c xs _ HX.out hn).mono ?_; rintro e w2 ⟨rfl, rfl⟩; rw [GX.out])
      go_ret
      exact ⟨rfl, Below.refl _ _⟩
    · have d20 : decide (20000 < (l.length : Int)) = false := by simp; omega
      have hl2 : l.length ≤ 20000 := by omega
      go_enter Try.func4, Try.ntmps4
      go_wp2_with fail
      refine (great_any A _ c xs _ HX.out hn).mono ?_
      rintro e w0 ⟨rfl, rfl⟩
      rw [GX.out]
      go_wp2_with fail
      refine (twin_any B _ cb l _ HS.out (by omega)).mono ?_
      rintro e w1 ⟨v1, rfl, own1, b1⟩
      obtain ⟨A1, c1, rfl, _, s1, t1, n1⟩ := Src.of_own own1
      go_wp2_with fail
      refine (from_any A1 _ c1 l s1 (fun e => (n1 e).2) (by omega)).mono ?_
      rintro e w2 ⟨x, T, rfl, hin, hT, b2⟩
      go_wp2_with fail
      refine (twin_any B _ cb l _ ((HS.out.below b1).below b2) (by omega)).mono ?_
      rintro e w3 ⟨v3, rfl, own3, b3⟩
      obtain ⟨A3, c3, rfl, _, s3, t3, n3⟩ := Src.of_own own3
      have hz1 := b1.size
      have hz2 := b2.size
      have hz3 := b3.size
      have hr := refAt_new own3
      have own1' : (w3.alloc (.cells #[.slice A3 l.length c3, .bool false] 46)).ownsRow w.heap.size 5 1 (.slice A1 l.length c1) l.length (bv l) := by
        refine ownsRow_kept (ownsRow_kept (ownsRow_kept own1 (Kept.of_below b2 Empty) (fun _ _ h => h)) (Kept.of_below b3 Empty) (fun _ _ h => h)) ((Kept.refl Empty _).alloc _) (fun _ _ h => h)
      have hin' : InAt (w3.alloc (.cells #[.slice A3 l.length c3, .bool false] 46)) T x (some l) := (hin.keep (Kept.of_below b3 Empty) (fun _ _ h => h)).keep ((Kept.refl Empty _).alloc _) (fun _ _ h => h)
      have hbA : Below w.heap.size w (w3.alloc (.cells #[.slice A3 l.length c3, .bool false] 46)) := ((b1.trans (b2.mono hz1)).trans (b3.mono (by omega))).alloc (by omega) _
      have hR2 : ∀ i, (i = w3.heap.size ∨ (Value.slice A3 l.length c3).ownBlock = some i) → w2.heap.size ≤ i := fun i hi => by
        rcases hi with rfl | hi
        · exact hz3
        · exact (own3.lt i hi).1
      have hT1 : ∀ i, T i → w1.heap.size ≤ i ∧ i < w2.heap.size := fun i hi => ⟨hT i hi, hin.lt i hi⟩
      have ho1 : ∀ i, (∃ ad, A1 = some ad ∧ ad.block = i) → w.heap.size ≤ i ∧ i < w1.heap.size := by
        rintro i ⟨ad, e, rfl⟩
        exact own1.lt _ (t1 ad e).1
      have hi0 := inc_start own1'
      have hTo : ∀ i, T i → ¬ (∃ ad, A1 = some ad ∧ ad.block = i) := fun i h1 h2 => by have h3 := hT1 i h1; have h4 := ho1 i h2; omega
      have hso : ∀ i, (∃ ad, A1 = some ad ∧ ad.block = i) → w.heap.size ≤ i := fun i h2 => (ho1 i h2).1
      obtain ⟨R, hp, hRo⟩ : ∃ R, Pair w (w3.alloc (.cells #[.slice A3 l.length c3, .bool false] 46)) x w3.heap.size T R (some l) (some l) ∧ ∀ i, R i → ¬ (∃ ad, A1 = some ad ∧ ad.block = i) :=
        ⟨_, ⟨hin', hr, fun i h1 h2 => by have h3 := hR2 i h2; have h4 := hT1 i h1; omega, fun i hi => by have := hT1 i hi; omega, fun i hi => by have := hR2 i hi; omega, hbA⟩, fun i h1 h2 => by have h3 := hR2 i h1; have h4 := ho1 i h2; omega⟩
      clear hin' hbA hr own1' own1 own3 s1 t1 n1 s3 t3 n3 hin b1 b2 b3 hT hR2 hT1 ho1
      have HI := Lib.hid hi0
      have HP := Lib.hid hp
      clear hi0 hp
      go_wp2_with fail
      generalize w3.alloc (.cells #[.slice A3 l.length c3, .bool false] 46) = W0 at *
      go_loopw [8, 29] (fun _ k W => Inc W0 A1 l.length k W) (fun _ k _ => l.length - (intOf k).toNat)
      case atStart => exact HI.out
      case round =>
        obtain ⟨j, hj, rfl, hk, hc⟩ := hrel
        by_cases hlt : j < l.length
        · obtain ⟨g, z, rfl, hcell, hfr, hnext⟩ := inc_read (hc (by omega)) hk hlt
          have HN := Lib.hid hnext
          clear hnext hc
          go_wp2_with fail
          go_roundw
          case rel => exact HN.out _
          case measure => simp [intOf]; omega
        · obtain rfl : j = l.length := by omega
          have hp2 := HP.out.keep hk hTo hRo hso
          clear HI HP hk hc hTo hRo hso
          generalize w3.heap.size = r at *
          go_wp2_with fail
          go_loopw [9, 10, 11, 41] (fun _ _ _ k W => InsRel w xs x r T R k W) (fun _ _ _ k _ => xs.length - (intOf k).toNat)
          case atStart => exact ⟨0, some l, Nat.zero_le _, rfl, hp2, hl2⟩
          case round =>
            clear hp2
            obtain ⟨j, st, hj, rfl, hp, hl⟩ := hrel
            by_cases hlt : j < xs.length
            · obtain ⟨g, o, Q, cq, rfl, hnow⟩ := HX.out.each hlt
              generalize xs[j] = y at *
              have HN := Lib.hid hnow
              clear hnow
              obtain ⟨hv, c0, c1, c2, c3, hsrc, hq⟩ := HN.out wr hp.below
              have hl' : (st.getD []).length ≤ 549755813888 := by omega
              by_cases e0 : y.kind = 0
              · rw [e0] at c0
                have PX := Lib.hid (fun W sr (h : Pair w W x r T R st sr) => pair_getX y.n h hl')
                have PR := Lib.hid (fun W sx (h : Pair w W x r T R sx st) => pair_getR y.n h hl')
                have hl3 := getSt_left st y.n
                generalize getSt st y.n = q at *
                obtain ⟨s2, z⟩ := q
                have hpd := hp.drew
                go_wp2_with fail
                go_region_held3 (fun w' => w'.cell? ⟨g, o + j * 4 + 1, none⟩ = some (.int .i64 y.n)) (first | exact f1 | go_keep)
                  (first
                    | (go_at_call 19; refine (PX.out _ _ (by assumption)).mono ?_; rintro e w5 ⟨rfl, hp5⟩; obtain ⟨_, f0, f1, _⟩ := HN.out w5 hp5.below)
                    | (go_at_call 20; refine (PR.out _ _ (by assumption)).mono ?_; rintro e w5 ⟨rfl, hp5⟩; obtain ⟨_, f0, f1, _⟩ := HN.out w5 hp5.below))
                cases s2 with
                | none =>
                  obtain ⟨Ar, cr, hwr⟩ := hp5.ref.cells
                  have r0 := hwr.cell 0
                  have r1 := hwr.cell 1
                  simp at r0 r1
                  go_wp2_with fail
                  go_quiet (first
                    | (go_at_call 23; exact quiet_same (inLeft_any (hp5.inn.drewN _)))
                    | (go_at_call 24; exact quiet_same (inSpoilt_any (hp5.inn.drewN _)))
                    | (go_at_call 25; exact quiet_same (inDone_any (hp5.inn.drewN _))))
                  go_wp2
                  go_roundw
                  case rel => exact ins_next hlt hp5 (by omega) _
                  case measure => simp [intOf]; omega
                | some l5 =>
                  obtain ⟨Ar, cr, hwr⟩ := hp5.ref.cells
                  have r0 := hwr.cell 0
                  have r1 := hwr.cell 1
                  simp at r0 r1
                  have hid : ∃ bd : Bool, isDone (some l5) = bd ∧ ((l5.length : Int) == 0) = bd := ⟨_, rfl, by cases l5 with | nil => rfl | cons a l => simp [isDone]; omega⟩
                  obtain ⟨bd, hd1, hd2⟩ := hid
                  have DN := Lib.hid (fun n => inDone_any (hp5.inn.drewN n))
                  rw [hd1] at DN
                  clear hd1
                  cases bd <;>
                  · go_wp2_with fail
                    go_quiet (first
                      | (go_at_call 23; exact quiet_same (inLeft_any (hp5.inn.drewN _)))
                      | (go_at_call 24; exact quiet_same (inSpoilt_any (hp5.inn.drewN _)))
                      | (go_at_call 25; exact quiet_same (DN.out _)))
                    go_wp2
                    go_roundw
                    case rel => exact ins_next hlt hp5 (by omega) _
                    case measure => simp [intOf]; omega
              · by_cases e1 : y.kind = 1
                · have HE := Lib.hid e1
                  rw [e1] at c0
                  clear e0 e1
                  have PX := Lib.hid (pair_takeX y.n hp hl')
                  have PR := Lib.hid (fun W sx (h : Pair w W x r T R sx st) => pair_takeR y.n h hl')
                  have hl3 := takeSt_left st y.n
                  have hl4 := takeSt_len st y.n
                  have hTs := hp.inn.lt
                  have hRs := hp.ref.lt
                  have hzz := hp.below.size
                  have hrr := hp.ref.lt r hp.ref.own
                  generalize takeSt st y.n = q at *
                  obtain ⟨s2, lq⟩ := q
                  go_wp2_with fail
                  refine PX.out.mono ?_
                  rintro e w5 ⟨v5, rfl, own5, hp5⟩
                  obtain ⟨A5, c5, rfl, _, src5, t5, _⟩ := Src.of_own own5
                  obtain ⟨_, f0, f1, _⟩ := HN.out w5 hp5.below
                  go_wp2_with fail
                  refine wp_region_held_drew (S := (fun w' => w'.cell? ⟨g, o + j * 4 + 1, none⟩ = some (.int .i64 y.n) ∧ Src w' A5 lq.length lq)) (by kernel_rfl) ?_ (fun hHeld => ?_)
                  · exact ⟨by simpa using f1, src5.kept (Kept.refl Empty _).drew (fun _ _ h => h)⟩
                  refine takeH 0 (some 75) (.slice A5 lq.length c5) rfl rfl (by kernel_rfl) (by kernel_rfl) (by kernel_rfl) (fun _ _ _ h => h) (by kernel_rfl) ?_ (by assumption) ?_
                  · intro w' hSw; (try dsimp only at hSw); go_simp; try rfl
                  simp only [Act.put, List.setIfInBounds_toArray, List.set_cons_zero, List.set_cons_succ]
                  refine takeH 1 (some 76) (.string ⟨lq.toArray⟩) rfl rfl (by kernel_rfl) (by kernel_rfl) (by kernel_rfl) (fun _ _ _ h => h) (by kernel_rfl) ?_ (by assumption) ?_
                  · intro w' hSw; have hcv := Src.convert (P := Try.prog) hSw.2 c5 28 5 9 Try.underlying28 Try.underlying5 Try.underlying9; go_simp; try rfl
                  simp only [Act.put, List.setIfInBounds_toArray, List.set_cons_zero, List.set_cons_succ]
                  refine takeH 2 (some 77) (.pointer (some ⟨r, 0, none⟩)) rfl rfl (by kernel_rfl) (by kernel_rfl) (by kernel_rfl) (fun _ _ _ h => h) (by kernel_rfl) ?_ (by assumption) ?_
                  · intro w' hSw; (try dsimp only at hSw); go_simp; try rfl
                  simp only [Act.put, List.setIfInBounds_toArray, List.set_cons_zero, List.set_cons_succ]
                  refine takeH 3 (some 78) (.slice (some ⟨g, o, none⟩) xs.length c) rfl rfl (by kernel_rfl) (by kernel_rfl) (by kernel_rfl) (fun _ _ _ h => h) (by kernel_rfl) ?_ (by assumption) ?_
                  · intro w' hSw; (try dsimp only at hSw); go_simp; try rfl
                  simp only [Act.put, List.setIfInBounds_toArray, List.set_cons_zero, List.set_cons_succ]
                  refine takeH 4 (some 79) (.int .i64 (j : Int)) rfl rfl (by kernel_rfl) (by kernel_rfl) (by kernel_rfl) (fun _ _ _ h => h) (by kernel_rfl) ?_ (by assumption) ?_
                  · intro w' hSw; (try dsimp only at hSw); go_simp; try rfl
                  simp only [Act.put, List.setIfInBounds_toArray, List.set_cons_zero, List.set_cons_succ]
                  refine takeH 5 (some 80) (.pointer (some ⟨g, o + j * 4, none⟩)) rfl rfl (by kernel_rfl) (by kernel_rfl) (by kernel_rfl) (fun _ _ _ h => h) (by kernel_rfl) ?_ (by assumption) ?_
                  · intro w' hSw; (try dsimp only at hSw); go_simp; try rfl
                  simp only [Act.put, List.setIfInBounds_toArray, List.set_cons_zero, List.set_cons_succ]
                  refine takeH 6 (some 81) (.pointer (some ⟨g, o + j * 4 + 1, none⟩)) rfl rfl (by kernel_rfl) (by kernel_rfl) (by kernel_rfl) (fun _ _ _ h => h) (by kernel_rfl) ?_ (by assumption) ?_
                  · intro w' hSw; (try dsimp only at hSw); go_simp; try rfl
                  simp only [Act.put, List.setIfInBounds_toArray, List.set_cons_zero, List.set_cons_succ]
                  refine takeH 7 (some 82) (.int .i64 y.n) rfl rfl (by kernel_rfl) (by kernel_rfl) (by kernel_rfl) (fun _ _ _ h => h) (by kernel_rfl) ?_ (by assumption) ?_
                  · intro w' hSw; (try dsimp only at hSw); go_simp; try rfl
                  simp only [Act.put, List.setIfInBounds_toArray, List.set_cons_zero, List.set_cons_succ]
                  refine wpAnyH_ready (rs := [8]) (by kernel_rfl) (by simp) (AllReadyH.cons rfl (fun K hK => ?_) AllReadyH.nil)
                  go_simp
                  refine (PR.out _ _ hp5.drew).mono ?_
                  rintro e w6 ⟨v6, rfl, own6, hp6, k6⟩
                  obtain ⟨_, g0, g1, _⟩ := HN.out w6 hp6.below
                  obtain ⟨A6, c6, rfl, _, src6, _, _⟩ := Src.of_own own6
                  have hA5 : ∀ ad, A5 = some ad → wr.heap.size ≤ ad.block := fun ad e => (t5 ad e).2
                  have hne : ∀ ad, A5 = some ad → ¬ ad.block = r := fun ad e h => by have := hA5 ad e; omega
                  have own56 := ownsRow_kept own5 (Kept.refl Empty _).drew (fun _ _ h => h)
                  have own57 := ownsRow_kept own56 k6 (fun k hk h => by have := (own5.lt k hk).1; omega)
                  have s56 := (src5.kept (Kept.refl Empty _).drew (fun _ _ h => h)).kept k6 hne
                  refine hK.out _ _ ⟨g1, s56⟩ (fun hHeld => ?_)
                  clear hK K
                  have hcv := Src.convert (P := Try.prog) src6 c6 28 5 9 Try.underlying28 Try.underlying5 Try.underlying9
                  refine wpAnyH_ready (rs := [9]) (by kernel_rfl) (by simp) (AllReadyH.cons rfl (fun K hK => ?_) AllReadyH.nil)
                  go_simp
                  refine hK.out _ _ ⟨g1, s56⟩ (fun hHeld => ?_)
                  clear hK K
                  refine takeH 10 (some 85) (.bool false) rfl rfl (by kernel_rfl) (by kernel_rfl) (by kernel_rfl) (fun _ _ _ h => h) (by kernel_rfl) ?_ (by assumption) ?_
                  · intro w' hSw; (try dsimp only at hSw); go_simp; try rfl
                  simp only [Act.put, List.setIfInBounds_toArray, List.set_cons_zero, List.set_cons_succ]
                  refine wpAnyH_done (by kernel_rfl) ?_ _
                  have HI := Lib.hid (inc_start own57)
                  clear own56 own57 own5 own6 s56 src5 src6 hcv t5 hne hHeld hp5
                  go_wp2_with fail
                  go_loopw [11, 88] (fun _ k W => Inc w6 A5 lq.length k W) (fun _ k _ => lq.length - (intOf k).toNat)
                  case atStart => exact HI.out
                  case round =>
                    obtain ⟨i, hi, rfl, hk, hc⟩ := hrel
                    by_cases hil : i < lq.length
                    · obtain ⟨gi, z, rfl, hcell, hfr, hnext⟩ := inc_read (hc (by omega)) hk hil
                      have HI2 := Lib.hid hnext
                      clear hnext hc
                      go_wp2_with fail
                      go_roundw
                      case rel => exact HI2.out _
                      case measure => simp [intOf]; omega
                    · obtain rfl : i = lq.length := by omega
                      have hp7 := hp6.inc hk hA5 hTs hRs hzz
                      clear HI hk hc hp6
                      cases s2 with
                      | none =>
                        obtain ⟨Ar, cr, hwr⟩ := hp7.ref.cells
                        have r0 := hwr.cell 0
                        have r1 := hwr.cell 1
                        simp at r0 r1
                        go_wp2_with fail
                        go_quiet (first
                          | (go_at_call 23; exact quiet_same (inLeft_any (hp7.inn.drewN _)))
                          | (go_at_call 24; exact quiet_same (inSpoilt_any (hp7.inn.drewN _)))
                          | (go_at_call 25; exact quiet_same (inDone_any (hp7.inn.drewN _))))
                        go_wp2
                        go_roundw
                        case rel => exact ins_next hlt hp7 (by omega) _
                        case measure => simp [intOf]; omega
                      | some l5 =>
                        obtain ⟨Ar, cr, hwr⟩ := hp7.ref.cells
                        have r0 := hwr.cell 0
                        have r1 := hwr.cell 1
                        simp at r0 r1
                        have hid : ∃ bd : Bool, isDone (some l5) = bd ∧ ((l5.length : Int) == 0) = bd := ⟨_, rfl, by cases l5 with | nil => rfl | cons a l => simp [isDone]; omega⟩
                        obtain ⟨bd, hd1, hd2⟩ := hid
                        have DN := Lib.hid (fun n => inDone_any (hp7.inn.drewN n))
                        rw [hd1] at DN
                        clear hd1
                        cases bd <;>
                        · go_wp2_with fail
                          go_quiet (first
                            | (go_at_call 23; exact quiet_same (inLeft_any (hp7.inn.drewN _)))
                            | (go_at_call 24; exact quiet_same (inSpoilt_any (hp7.inn.drewN _)))
                            | (go_at_call 25; exact quiet_same (DN.out _)))
                          go_wp2
                          go_roundw
                          case rel => exact ins_next hlt hp7 (by omega) _
                          case measure => simp [intOf]; omega
                · have b0 : (y.kind == 0) = false := by simp [e0]
                  have b1 : (y.kind == 1) = false := by simp [e1]
                  clear e0 e1
                  cases st with
                  | none =>
                    obtain ⟨Ar, cr, hwr⟩ := hp.ref.cells
                    have r0 := hwr.cell 0
                    have r1 := hwr.cell 1
                    simp at r0 r1
                    go_wp2_with fail
                    go_quiet (first
                      | (go_at_call 23; exact quiet_same (inLeft_any (hp.inn.drewN _)))
                      | (go_at_call 24; exact quiet_same (inSpoilt_any (hp.inn.drewN _)))
                      | (go_at_call 25; exact quiet_same (inDone_any (hp.inn.drewN _))))
                    go_wp2
                    go_roundw
                    case rel => exact ins_next hlt hp (by omega) _
                    case measure => simp [intOf]; omega
                  | some l5 =>
                    obtain ⟨Ar, cr, hwr⟩ := hp.ref.cells
                    have r0 := hwr.cell 0
                    have r1 := hwr.cell 1
                    simp at r0 r1
                    have hid : ∃ bd : Bool, isDone (some l5) = bd ∧ ((l5.length : Int) == 0) = bd := ⟨_, rfl, by cases l5 with | nil => rfl | cons a l => simp [isDone]; omega⟩
                    obtain ⟨bd, hd1, hd2⟩ := hid
                    have DN := Lib.hid (fun n => inDone_any (hp.inn.drewN n))
                    rw [hd1] at DN
                    clear hd1
                    cases bd <;>
                    · go_wp2_with fail
                      go_quiet (first
                        | (go_at_call 23; exact quiet_same (inLeft_any (hp.inn.drewN _)))
                        | (go_at_call 24; exact quiet_same (inSpoilt_any (hp.inn.drewN _)))
                        | (go_at_call 25; exact quiet_same (DN.out _)))
                      go_wp2
                      go_roundw
                      case rel => exact ins_next hlt hp (by omega) _
                      case measure => simp [intOf]; omega
            · obtain rfl : j = xs.length := by omega
              obtain ⟨Ar, cr, hwr⟩ := hp.ref.cells
              have r0 := hwr.cell 0
              simp at r0
              generalize hlen : (st.getD []).length = nl at *
              have HL := Lib.hid (fun n => inLeft_any (hp.inn.drewN n))
              rw [hlen] at HL
              clear hlen
              go_wp2_with fail
              go_quiet (first | (go_at_call 23; exact quiet_same (HL.out _)))
              go_wp2
              go_ret
              exact ⟨rfl, (hp.drewN _).below⟩

end Go.Proofs.Ytloeckflcdnmaaa
