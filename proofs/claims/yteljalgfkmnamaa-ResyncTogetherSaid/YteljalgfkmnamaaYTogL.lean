/- ResyncTogether, its walk. No condition. -/
import Derived.Test.YteljalgfkmnamaaYTogD
import Derived.Deep.AppendLies
import Derived.Deep.RegionLawGrows
import Derived.Deep.RegionHeld3
namespace Go.Proofs.Yteljalgfkmnamaa
open Go.RowKit Go.Shelf

/-- What the law keeps: the plan's box, clocks and errors. -/
structure TG (w : World) (x : Pl) (s t : Sl) (l er : List Int) (W : World) : Prop where
  below : Below w.heap.size w W
  plan : Whole W w.heap.size 23 x.cells
  clocks : RSrc inC 1 W s l
  errors : RSrc inC 1 W t er
theorem TG.later {w W W' : World} {x : Pl} {s t : Sl} {l er : List Int} (h : TG w x s t l er W) (hb : Below W.heap.size W W') : TG w x s t l er W' :=
  ⟨k_then hb h.below, k_later hb h.plan, h.clocks.later hb, h.errors.later hb⟩
theorem src_at {W : World} {A : Option Addr} {n c i : Nat} {l : List Int} (h : RSrc inC 1 W ⟨A, n, c⟩ l) (hi : i < n) : ∃ g o, A = some ⟨g, o, none⟩ ∧ W.cell? ⟨g, o + i, none⟩ = some (.int .i64 (l.getD i 0)) := by
  obtain ⟨g, o, e, hc⟩ := h.get (i := i) hi
  have := inC_cells hc
  rw [Nat.mul_one] at this
  exact ⟨g, o, e, this⟩
theorem t_al {a W : World} {o : Obj} (h : Below a.heap.size a W) : Below a.heap.size a (W.alloc o) := h.alloc h.size _
theorem t_add {w0 W w' : World} {b g cap : Nat} {v1 v2 v3 : Value} {n1 n2 n3 : Nat} {L1 L2 L3 : List Int} {o : Obj} {x : Int} (h : Three w0 b v1 v2 v3 n1 n2 n3 L1 L2 L3 W) (h1 : w'.ownsRow b 2 1 (.slice (some ⟨g, 0, none⟩) (n1 + 1) cap) (n1 + 1) (L1.flatMap inC ++ inC x)) (h2 : (W.alloc o).drew.grownBy w' v1.ownBlock) (h3 : v1.ownBlock = some g ∨ g = (W.alloc o).drew.heap.size) :
    Three w0 b (.slice (some ⟨g, 0, none⟩) (n1 + 1) cap) v2 v3 (n1 + 1) n2 n3 (L1 ++ [x]) L2 L3 w' :=
  (h.later (W' := W.drew) (Below.refl _ _).drew).add (o := o) h1 h2 (h3.elim (fun e => .inl (by rw [e]; rfl)) (fun e => .inr (by rw [e]; rfl)))
/-- One row is given up. -/
theorem Three.drop3 {w0 W : World} {b : Nat} {v1 v2 v3 : Value} {n1 n2 n3 : Nat} {L1 L2 L3 : List Int} (h : Three w0 b v1 v2 v3 n1 n2 n3 L1 L2 L3 W) : Three w0 b v1 v2 (.slice none 0 0) n1 n2 0 L1 L2 [] W :=
  ⟨h.r1, h.r2, ⟨rfl, .inl ⟨rfl, rfl⟩⟩, h.a12, (fun g h1 h2 => by cases h2), (fun g h1 h2 => by cases h2), h.below, h.base⟩

set_option maxRecDepth 100000 in
set_option maxHeartbeats 16000000 in
theorem resyncTogether_walk (x : Pl) (s t : Sl) (l er : List Int) (d : Int) (w : World) (h : RSrc inC 1 w s l) (ht : RSrc inC 1 w t er) :
    Calls Try.prog 5 #[.agg x.cells, s.v, t.v, .int .i64 d] w fun e w' => e = .returned (.bool true) ∧ Below w.heap.size w w' := by
  have HAL := Lib.hid (fun W => alive_any W)
  have hl := h.len
  have hel := ht.len
  have hmx := Nat.le_trans h.cap h.max
  have hemx := Nat.le_trans ht.cap ht.max
  have hb0 : Below w.heap.size w (w.alloc (.cells x.cells 23)) := (Below.refl _ _).alloc (Nat.le_refl _) _
  have H0 := Lib.hid (TG.mk (x := x) hb0 (Whole.new w 23 x.cells) (h.later hb0) (ht.later hb0))
  have HL := Lib.hid hl
  have HEL := Lib.hid hel
  have HS := Lib.hid x.cellsL
  have hck := fun W => Check_any x W
  obtain ⟨A, n, c⟩ := s
  obtain ⟨B, en, ec⟩ := t
  unfold Sl.v
  dsimp only at *
  clear h ht hb0
  cases hp : planB x
  · rw [chk_no hp] at hck
    have HCK := Lib.hid hck
    clear hck hp
    go_enter Try.func5, Try.ntmps5
    go_wp2_with (first
      | (go_at_call 17; refine (HAL.out _).mono ?_; rintro e w1 ⟨rfl, hb⟩; have H1 := Lib.hid (H0.out.later hb); clear hb)
      | (refine wpList_load_row rfl 23 (.tmp 4) rfl w.heap.size rfl 23 x.cells (0, 0) _ H1.out.plan Try.underlying23 rfl HS.out.plan ?_)
      | (go_at_call 18; refine (HCK.out _).mono ?_; rintro e w2 ⟨rfl, hb⟩; have H2 := Lib.hid (H1.out.later hb); have kc := kk_cell H2.out.plan; clear hb))
    go_ret
    exact ⟨rfl, H2.out.below⟩
  · rw [chk_yes hp] at hck
    have HCK := Lib.hid hck
    have T := plan_tick hp
    have hk1 := T.k1
    have hk2 := T.k2
    have hk3 := T.n2
    have HP := Lib.hid hp
    obtain ⟨kk, hkk⟩ : ∃ kk, kk = x.kk := ⟨_, rfl⟩
    have kk_cell : ∀ {W : World} {g : Nat} {t : TypeId}, Whole W g t x.cells → W.cell? ⟨g, 1, none⟩ = some (.int .i64 kk) := fun h => by rw [hkk]; exact kk_cell h
    rw [← hkk] at hk1 hk2
    have s1 : IntKind.i64.wrap (2 * kk) = 2 * kk := IntWalk.i64_in _ (by omega)
    have s2 : IntKind.i64.wrap (2 * kk + 1) = 2 * kk + 1 := IntWalk.i64_in _ (by omega)
    clear hck hp T
    by_cases q1 : (n : Int) < 2 * kk + 1
    · have d1 : decide ((n : Int) < 2 * kk + 1) = true := decide_eq_true q1
      go_enter Try.func5, Try.ntmps5
      go_wp2_with (first
        | (go_at_call 17; refine (HAL.out _).mono ?_; rintro e w1 ⟨rfl, hb⟩; have H1 := Lib.hid (H0.out.later hb); clear hb)
        | (refine wpList_load_row rfl 23 (.tmp 4) rfl w.heap.size rfl 23 x.cells (0, 0) _ H1.out.plan Try.underlying23 rfl HS.out.plan ?_)
        | (go_at_call 18; refine (HCK.out _).mono ?_; rintro e w2 ⟨rfl, hb⟩; have H2 := Lib.hid (H1.out.later hb); have kc := kk_cell H2.out.plan; clear hb))
      go_ret
      exact ⟨rfl, H2.out.below⟩
    · have d1 : decide ((n : Int) < 2 * kk + 1) = false := decide_eq_false q1
      by_cases q2 : (16 : Int) < (n : Int)
      · have d2 : decide ((16 : Int) < (n : Int)) = true := decide_eq_true q2
        go_enter Try.func5, Try.ntmps5
        go_wp2_with (first
          | (go_at_call 17; refine (HAL.out _).mono ?_; rintro e w1 ⟨rfl, hb⟩; have H1 := Lib.hid (H0.out.later hb); clear hb)
          | (refine wpList_load_row rfl 23 (.tmp 4) rfl w.heap.size rfl 23 x.cells (0, 0) _ H1.out.plan Try.underlying23 rfl HS.out.plan ?_)
          | (go_at_call 18; refine (HCK.out _).mono ?_; rintro e w2 ⟨rfl, hb⟩; have H2 := Lib.hid (H1.out.later hb); have kc := kk_cell H2.out.plan; clear hb))
        go_ret
        exact ⟨rfl, H2.out.below⟩
      · have d2 : decide ((16 : Int) < (n : Int)) = false := decide_eq_false q2
        by_cases q3 : d < 0
        · have d3 : decide (d < 0) = true := decide_eq_true q3
          go_enter Try.func5, Try.ntmps5
          go_wp2_with (first
            | (go_at_call 17; refine (HAL.out _).mono ?_; rintro e w1 ⟨rfl, hb⟩; have H1 := Lib.hid (H0.out.later hb); clear hb)
            | (refine wpList_load_row rfl 23 (.tmp 4) rfl w.heap.size rfl 23 x.cells (0, 0) _ H1.out.plan Try.underlying23 rfl HS.out.plan ?_)
            | (go_at_call 18; refine (HCK.out _).mono ?_; rintro e w2 ⟨rfl, hb⟩; have H2 := Lib.hid (H1.out.later hb); have kc := kk_cell H2.out.plan; clear hb))
          go_ret
          exact ⟨rfl, H2.out.below⟩
        · have d3 : decide (d < 0) = false := decide_eq_false q3
          by_cases q4 : 1048576 < d
          · have d4 : decide (1048576 < d) = true := decide_eq_true q4
            go_enter Try.func5, Try.ntmps5
            go_wp2_with (first
              | (go_at_call 17; refine (HAL.out _).mono ?_; rintro e w1 ⟨rfl, hb⟩; have H1 := Lib.hid (H0.out.later hb); clear hb)
              | (refine wpList_load_row rfl 23 (.tmp 4) rfl w.heap.size rfl 23 x.cells (0, 0) _ H1.out.plan Try.underlying23 rfl HS.out.plan ?_)
              | (go_at_call 18; refine (HCK.out _).mono ?_; rintro e w2 ⟨rfl, hb⟩; have H2 := Lib.hid (H1.out.later hb); have kc := kk_cell H2.out.plan; clear hb))
            go_ret
            exact ⟨rfl, H2.out.below⟩
          · have d4 : decide (1048576 < d) = false := decide_eq_false q4
            obtain ⟨g, o, hA0, -⟩ := src_at H0.out.clocks (i := 0) (by omega)
            subst hA0
            have HC := Lib.hid (fun W (hW : TG w x ⟨some ⟨g, o, none⟩, n, c⟩ ⟨B, en, ec⟩ l er W) j (hj : j < n) => (show W.cell? ⟨g, o + j, none⟩ = some (.int .i64 (l.getD j 0)) from by
              obtain ⟨g', o', e, hc⟩ := src_at hW.clocks hj
              cases e
              exact hc))
            obtain ⟨c0, hc0⟩ : ∃ c0, c0 = l.getD 0 0 := ⟨_, rfl⟩
            have HC0 := Lib.hid hc0
            clear hc0
            go_enter Try.func5, Try.ntmps5
            go_wp2_with (first
              | (go_at_call 17; refine (HAL.out _).mono ?_; rintro e w1 ⟨rfl, hb⟩; have H1 := Lib.hid (H0.out.later hb); clear hb)
              | (refine wpList_load_row rfl 23 (.tmp 4) rfl w.heap.size rfl 23 x.cells (0, 0) _ H1.out.plan Try.underlying23 rfl HS.out.plan ?_)
              | (go_at_call 18; refine (HCK.out _).mono ?_; rintro e w2 ⟨rfl, hb⟩; have H2 := Lib.hid (H1.out.later hb); have kc := kk_cell H2.out.plan; clear hb))
            have a0 := HC.out _ H2.out 0 (by omega)
            rw [← HC0.out, Nat.add_zero] at a0
            go_quiet (fail)
            have H3 := Lib.hid (fun q => (H2.out.later (below_drewN (Below.refl w2.heap.size w2) q) : TG w x ⟨some ⟨g, o, none⟩, n, c⟩ ⟨B, en, ec⟩ l er (w2.drewN q)))
            clear a0 kc H0 H1 H2 HAL HCK s1 s2 d1 d2 d3 d4
            go_wp2
            go_loopw [11, 12, 64] (fun lv hv iv wr => ∃ (i : Nat) (lo hi : Int), i ≤ n ∧ iv = .int .i64 (i : Int) ∧ lv = .int .i64 lo ∧ hv = .int .i64 hi ∧ TG w x ⟨some ⟨g, o, none⟩, n, c⟩ ⟨B, en, ec⟩ l er wr ∧ (∀ j, j < i → (lo ≤ l.getD j 0 ∧ l.getD j 0 ≤ hi) ∧ -1073741824 ≤ l.getD j 0 ∧ l.getD j 0 ≤ 1073741824) ∧ (i = 0 ∧ lo = l.getD 0 0 ∧ hi = l.getD 0 0 ∨ 0 < i ∧ -1073741824 ≤ lo ∧ hi ≤ 1073741824)) (fun _ _ iv _ => n - (intOf iv).toNat)
            case atStart => exact ⟨0, c0, c0, Nat.zero_le _, rfl, rfl, rfl, H3.out _, (fun j hj => absurd hj (Nat.not_lt_zero _)), .inl ⟨rfl, HC0.out, HC0.out⟩⟩
            case round =>
              obtain ⟨i, lo, hi, hi', rfl, rfl, rfl, htg, hall, hend⟩ := hrel
              clear H3
              have HTG := Lib.hid htg
              have HAE := Lib.hid (And.intro hall hend)
              clear htg
              by_cases hlt : i < n
              · have a0 := HC.out _ HTG.out i hlt
                obtain ⟨z, hz⟩ : ∃ z, z = l.getD i 0 := ⟨_, rfl⟩
                rw [← hz] at a0
                have e1 : (0 : Int) ≤ (i : Int) := by omega
                have e2 : (i : Int) < (n : Int) := by omega
                have HZ := Lib.hid hz
                clear hz hall hend
                by_cases p1 : z < -1073741824
                · have f1 : decide (z < -1073741824) = true := decide_eq_true p1
                  clear p1
                  go_wp2
                  go_ret
                  exact ⟨rfl, HTG.out.below⟩
                · have f1 : decide (z < -1073741824) = false := decide_eq_false p1
                  by_cases p2 : 1073741824 < z
                  · have f2 : decide (1073741824 < z) = true := decide_eq_true p2
                    clear p1 p2
                    go_wp2
                    go_ret
                    exact ⟨rfl, HTG.out.below⟩
                  · have f2 : decide (1073741824 < z) = false := decide_eq_false p2
                    have HPP := Lib.hid (And.intro p1 p2)
                    clear p1 p2
                    go_wp2
                    go_roundw
                    case rel =>
                      obtain ⟨hall, hend⟩ := HAE.out
                      obtain ⟨p1, p2⟩ := HPP.out
                      refine ⟨i + 1, min lo z, max hi z, by omega, by go_num, rfl, rfl, HTG.out, fun j hj => ?_, .inr ⟨by omega, ?_, ?_⟩⟩
                      · rcases Nat.lt_or_ge j i with h1 | h1
                        · have h2 := hall j h1
                          exact ⟨⟨by omega, by omega⟩, h2.2⟩
                        · obtain rfl : j = i := by omega
                          rw [← HZ.out]
                          exact ⟨⟨by omega, by omega⟩, by omega, by omega⟩
                      · rcases hend with ⟨rfl, h1, _⟩ | ⟨_, h1, _⟩
                        · rw [← HZ.out] at h1; omega
                        · omega
                      · rcases hend with ⟨rfl, _, h1⟩ | ⟨_, _, h1⟩
                        · rw [← HZ.out] at h1; omega
                        · omega
                    case measure => simp [intOf]; omega
              · obtain rfl : i = n := by omega
                obtain ⟨lo1, hi1⟩ : -1073741824 ≤ lo ∧ hi ≤ 1073741824 := by rcases hend with ⟨h0, _⟩ | ⟨_, h1, h2⟩; omega; exact ⟨h1, h2⟩
                have h00 := hall 0 (by omega)
                have HB := Lib.hid (show (∀ j, j < i → lo ≤ l.getD j 0 ∧ l.getD j 0 ≤ hi) ∧ (∀ j, j < i → -1073741824 ≤ l.getD j 0 ∧ l.getD j 0 ≤ 1073741824) from ⟨fun j hj => (hall j hj).1, fun j hj => (hall j hj).2⟩)
                have HLO := Lib.hid (show (-1073741824 ≤ lo ∧ lo ≤ 1073741824) ∧ (-1073741824 ≤ hi ∧ hi ≤ 1073741824) from by omega)
                have HQ := Lib.hid (show (2 * kk + 1 ≤ (i : Int)) ∧ (i ≤ 16) ∧ 0 ≤ d ∧ d ≤ 1048576 from by omega)
                obtain ⟨i0, hi0, hy0, hy1, hy2⟩ := info_parts i_i64
                clear hall hend lo1 hi1 h00 q1 q2 q3 q4 HAE
                generalize wr = V1 at *
                have HT0 := Lib.hid (Three.start V1)
                go_wp2
                go_loopw [15, 83] (fun sv iv wv => ∃ k : Nat, k ≤ i ∧ iv = .int .i64 (k : Int) ∧ Three V1 V1.heap.size sv (.slice none 0 0) (.slice none 0 0) k 0 0 (mapTo (setT x l er d i) k) [] [] wv ∧ ∀ j, j < k → corE x (rowT l er d i j) = 0) (fun _ iv _ => i - (intOf iv).toNat)
                case atStart => exact ⟨0, Nat.zero_le _, rfl, HT0.out, fun j hj => absurd hj (Nat.not_lt_zero _)⟩
                case round =>
                  obtain ⟨k, hk', rfl, hth, hce⟩ := hrel
                  clear HT0
                  have HTH := Lib.hid hth
                  have HCE := Lib.hid hce
                  clear hth hce
                  by_cases hkn : k < i
                  · have e1 : (0 : Int) ≤ (k : Int) := by omega
                    have e2 : (k : Int) < (i : Int) := by omega
                    have HT1 := Lib.hid HTH.out.rot.rot
                    clear HTH
                    go_wp2
                    go_loopw [17, 87] (fun vv iv wu => ∃ j : Nat, j ≤ i ∧ iv = .int .i64 (j : Int) ∧ Three V1 V1.heap.size vv u15 (.slice none 0 0) j k 0 (mapTo (seenT l er d i k) j) (mapTo (setT x l er d i) k) [] wu) (fun _ iv _ => i - (intOf iv).toNat)
                    case atStart => exact ⟨0, Nat.zero_le _, rfl, HT1.out⟩
                    case round =>
                      obtain ⟨j, hj', rfl, hth⟩ := hrel
                      clear HT1
                      have HU := Lib.hid hth
                      have HTU := Lib.hid (HTG.out.later hth.below)
                      clear hth
                      by_cases hji : j < i
                      · have b1 := HC.out _ HTU.out k hkn
                        have b2 := HC.out _ HTU.out j hji
                        obtain ⟨z1, hz1⟩ : ∃ z, z = l.getD k 0 := ⟨_, rfl⟩
                        obtain ⟨z2, hz2⟩ : ∃ z, z = l.getD j 0 := ⟨_, rfl⟩
                        rw [← hz1] at b1
                        rw [← hz2] at b2
                        have bz1 := HB.out.2 k hkn
                        have bz2 := HB.out.2 j hji
                        rw [← hz1] at bz1
                        rw [← hz2] at bz2
                        have HZ := Lib.hid (And.intro hz1 hz2)
                        have e3 : (0 : Int) ≤ (j : Int) := by omega
                        have e4 : (j : Int) < (i : Int) := by omega
                        obtain ⟨ki, hki⟩ : ∃ ki, ki = k * i := ⟨_, rfl⟩
                        have bki : ki ≤ 256 := by rw [hki]; exact Nat.mul_le_mul (show k ≤ 16 by have := HQ.out.2.1; omega) (show i ≤ 16 from HQ.out.2.1)
                        obtain ⟨a, ha⟩ : ∃ a, a = ki + j := ⟨_, rfl⟩
                        have hki2 : ((k : Int) * (i : Int)) = (ki : Int) := by rw [hki]; exact (Int.natCast_mul k i).symm
                        have m1 : IntKind.i64.wrap ((k : Int) * (i : Int)) = (ki : Int) := by rw [hki2]; exact IntWalk.i64_in _ (by omega)
                        have bji : j ≤ 16 := by have := HQ.out.2.1; omega
                        have m2 : IntKind.i64.wrap ((ki : Int) + (j : Int)) = (a : Int) := by rw [IntWalk.i64_in _ (by omega), ha]; omega
                        have m3 : (ki : Int) + (j : Int) = (a : Int) := by omega
                        have hak : k * i + j = a := by rw [ha, hki]
                        have HAK := Lib.hid hak
                        have e5 : (0 : Int) ≤ (a : Int) := by omega
                        have ba : a ≤ 272 := by omega
                        clear hz1 hz2 hki hki2 hak bki ha
                        have fin : ∀ v : Int, offT er d i k j = v → mapTo (seenT l er d i k) (j + 1) = mapTo (seenT l er d i k) j ++ [z1 - z2 + v] := fun v hv => by
                          rw [mapTo_succ]
                          unfold seenT
                          rw [hv, ← HZ.out.1, ← HZ.out.2]
                        have HFIN := Lib.hid fin
                        clear fin
                        obtain ⟨hq1, hq2, hq3, hq4⟩ := HQ.out
                        by_cases hcase : j ≠ k ∧ a < en
                        · obtain ⟨h1, h2⟩ := hcase
                          have n1 : ((j : Int) != (k : Int)) = true := by simp [bne]; omega
                          have n2 : decide ((a : Int) < (en : Int)) = true := decide_eq_true (by omega)
                          obtain ⟨ge, oe, hE, b3⟩ := src_at HTU.out.errors h2
                          obtain ⟨ev, hev⟩ : ∃ ev, ev = er.getD a 0 := ⟨_, rfl⟩
                          rw [← hev] at b3
                          subst hE
                          obtain ⟨dd, hdd⟩ : ∃ dd, dd = d + 1 := ⟨_, rfl⟩
                          have t4 : IntKind.i64.wrap (d + 1) = dd := by rw [hdd]; exact IntWalk.i64_in _ (by omega)
                          obtain ⟨v, hv⟩ : ∃ v, v = ev.tmod dd := ⟨_, rfl⟩
                          have t5 : ev.tmod dd = v := hv.symm
                          have t6 : ¬ (dd = 0) := by omega
                          have bv : -d ≤ v ∧ v ≤ d := by
                            rw [hv]
                            have h1 := Int.lt_tmod_of_pos ev (b := dd) (by omega)
                            have h2 := Int.tmod_lt_of_pos ev (b := dd) (by omega)
                            omega
                          have t7 : IntKind.i64.wrap v = v := IntWalk.i64_in _ (by omega)
                          have e6 : (a : Int) < (en : Int) := by omega
                          have hoff : offT er d i k j = v := by
                            unfold offT
                            rw [HAK.out, if_pos ⟨h1, by rw [HEL.out]; exact h2⟩, ← hev, ← hdd, hv]
                          have HOFF := Lib.hid hoff
                          have t1 : IntKind.i64.wrap (z1 - z2) = z1 - z2 := IntWalk.i64_in _ (by omega)
                          have t2 : IntKind.i64.wrap (z1 - z2 + v) = z1 - z2 + v := IntWalk.i64_in _ (by omega)
                          clear hdd hv hev hoff bv h1 h2 hq1 hq2 hq3 hq4 bz1 bz2
                          go_wp2
                          have HSF := Lib.hid (fun W (hb : Below wr.heap.size wr W) => (show W.cell? ⟨g, o + k, none⟩ = some (.int .i64 z1) ∧ W.cell? ⟨g, o + j, none⟩ = some (.int .i64 z2) from ⟨k_cell hb b1, k_cell hb b2⟩))
                          have HB0 := Lib.hid (Below.refl wr.heap.size wr)
                          have HSG := Lib.hid (fun W (hb : Below V1.heap.size V1 W) => (show W.cell? ⟨g, o + k, none⟩ = some (.int .i64 z1) ∧ W.cell? ⟨g, o + j, none⟩ = some (.int .i64 z2) from by rw [HZ.out.1, HZ.out.2]; exact ⟨HC.out W (HTG.out.later hb) k hkn, HC.out W (HTG.out.later hb) j hji⟩))
                          have hown0 : (wr.alloc (.cells #[.int .i64 (z1 - z2 + v)] 2)).drew.ownsRow V1.heap.size 2 1 u17 j ((mapTo (seenT l er d i k) j).flatMap inC) := HU.out.r1.alloc _
                          have hnews0 : ∀ jj u, (inC (z1 - z2 + v))[jj]? = some u → (wr.alloc (.cells #[.int .i64 (z1 - z2 + v)] 2)).drew.cell? ((⟨wr.heap.size, 0, none⟩ : Addr).add jj) = some u := fun jj u hu => World.news_of_block (show Whole (wr.alloc (.cells #[.int .i64 (z1 - z2 + v)] 2)).drew wr.heap.size 2 #[.int .i64 (z1 - z2 + v)] from Whole.new wr _ _) jj u hu
                          have hbase0 : V1.heap.size ≤ (wr.alloc (.cells #[.int .i64 (z1 - z2 + v)] 2)).drew.heap.size := by have h := HU.out.below.size; simp; omega
                          have HST0 := Lib.hid (fun (ops : Array Oper) (oo : Oper) (aa : Act) (K : Act → World → Prop) (Q : Exit → Act → World → Prop) (E : Prop) h1 h2 h3 h4 h5 => step_append_lies (P := Try.prog) (ops := ops) (o := oo) (a := aa) (w := (wr.alloc (.cells #[.int .i64 (z1 - z2 + v)] 2)).drew) (K := K) (Q := Q) (E := E) h1 (.tmp 111) (.tmp 123) 26 h2 V1.heap.size 2 i0 _ 1 8 u_ints hi0 hy0 hy1 hy2 (by rfl) (by decide) u17 j ((mapTo (seenT l er d i k) j).flatMap inC) h3 hown0 ⟨wr.heap.size, 0, none⟩ 1 1 (inC (z1 - z2 + v)) h4 (by rfl) hnews0 (inC_ones _) (by decide) (by simp only [maxLen]; omega) (by omega) hbase0 _ rfl h5)
                          clear hown0 hnews0 hbase0
                          have hown1 : (wr.drew.alloc (.cells #[.int .i64 (z1 - z2 + v)] 2)).ownsRow V1.heap.size 2 1 u17 j ((mapTo (seenT l er d i k) j).flatMap inC) := HU.out.r1.alloc _
                          have hnews1 : ∀ jj u, (inC (z1 - z2 + v))[jj]? = some u → (wr.drew.alloc (.cells #[.int .i64 (z1 - z2 + v)] 2)).cell? ((⟨wr.heap.size, 0, none⟩ : Addr).add jj) = some u := fun jj u hu => World.news_of_block (show Whole (wr.drew.alloc (.cells #[.int .i64 (z1 - z2 + v)] 2)) wr.heap.size 2 #[.int .i64 (z1 - z2 + v)] from Whole.new wr.drew _ _) jj u hu
                          have hbase1 : V1.heap.size ≤ (wr.drew.alloc (.cells #[.int .i64 (z1 - z2 + v)] 2)).heap.size := by have h := HU.out.below.size; simp; omega
                          have HST1 := Lib.hid (fun (ops : Array Oper) (oo : Oper) (aa : Act) (K : Act → World → Prop) (Q : Exit → Act → World → Prop) (E : Prop) h1 h2 h3 h4 h5 => step_append_lies (P := Try.prog) (ops := ops) (o := oo) (a := aa) (w := (wr.drew.alloc (.cells #[.int .i64 (z1 - z2 + v)] 2))) (K := K) (Q := Q) (E := E) h1 (.tmp 111) (.tmp 123) 26 h2 V1.heap.size 2 i0 _ 1 8 u_ints hi0 hy0 hy1 hy2 (by rfl) (by decide) u17 j ((mapTo (seenT l er d i k) j).flatMap inC) h3 hown1 ⟨wr.heap.size, 0, none⟩ 1 1 (inC (z1 - z2 + v)) h4 (by rfl) hnews1 (inC_ones _) (by decide) (by simp only [maxLen]; omega) (by omega) hbase1 _ rfl h5)
                          clear hown1 hnews1 hbase1
                          refine wp_region_noPanic ?_
                          go_region_law (first
                            | (refine HST0.out _ _ _ _ _ _ (by rfl) (by rfl) (by rfl) (by rfl) ?_; intro g5 cap5 w5 h1 h2 h3 h4; have HR5 := Lib.hid (t_add HU.out h1 h2 h3); clear h1 h2 h3 h4)
                            | (refine HST1.out _ _ _ _ _ _ (by rfl) (by rfl) (by rfl) (by rfl) ?_; intro g5 cap5 w5 h1 h2 h3 h4; have HR5 := Lib.hid (t_add HU.out h1 (show (wr.alloc (.cells #[.int .i64 (z1 - z2 + v)] 2)).drew.grownBy w5 _ from h2) h3); clear h1 h2 h3 h4))
                          all_goals
                            refine NoPanic.normal ?_
                            go_wp2
                            go_roundw
                            case rel => exact ⟨j + 1, by omega, by go_num, by rw [HFIN.out _ HOFF.out]; exact HR5.out⟩
                            case measure => simp [intOf]; omega
                        · have hoff : offT er d i k j = 0 := by
                            unfold offT
                            rw [HAK.out, if_neg (by rw [HEL.out]; exact hcase)]
                          have HOFF := Lib.hid hoff
                          have t1 : IntKind.i64.wrap (z1 - z2) = z1 - z2 := IntWalk.i64_in _ (by omega)
                          rcases (show j = k ∨ (j ≠ k ∧ en ≤ a) by omega) with h1 | ⟨h1, h2⟩
                          · have n1 : ((j : Int) != (k : Int)) = false := by rw [h1]; simp [bne]
                            clear h1 hoff hcase hq1 hq2 hq3 hq4 bz1 bz2
                            go_wp2
                            have HSF := Lib.hid (fun W (hb : Below wr.heap.size wr W) => (show W.cell? ⟨g, o + k, none⟩ = some (.int .i64 z1) ∧ W.cell? ⟨g, o + j, none⟩ = some (.int .i64 z2) from ⟨k_cell hb b1, k_cell hb b2⟩))
                            have HB0 := Lib.hid (Below.refl wr.heap.size wr)
                            have HSG := Lib.hid (fun W (hb : Below V1.heap.size V1 W) => (show W.cell? ⟨g, o + k, none⟩ = some (.int .i64 z1) ∧ W.cell? ⟨g, o + j, none⟩ = some (.int .i64 z2) from by rw [HZ.out.1, HZ.out.2]; exact ⟨HC.out W (HTG.out.later hb) k hkn, HC.out W (HTG.out.later hb) j hji⟩))
                            have hown0 : (wr.alloc (.cells #[.int .i64 (z1 - z2)] 2)).drew.ownsRow V1.heap.size 2 1 u17 j ((mapTo (seenT l er d i k) j).flatMap inC) := HU.out.r1.alloc _
                            have hnews0 : ∀ jj u, (inC (z1 - z2))[jj]? = some u → (wr.alloc (.cells #[.int .i64 (z1 - z2)] 2)).drew.cell? ((⟨wr.heap.size, 0, none⟩ : Addr).add jj) = some u := fun jj u hu => World.news_of_block (show Whole (wr.alloc (.cells #[.int .i64 (z1 - z2)] 2)).drew wr.heap.size 2 #[.int .i64 (z1 - z2)] from Whole.new wr _ _) jj u hu
                            have hbase0 : V1.heap.size ≤ (wr.alloc (.cells #[.int .i64 (z1 - z2)] 2)).drew.heap.size := by have h := HU.out.below.size; simp; omega
                            have HST0 := Lib.hid (fun (ops : Array Oper) (oo : Oper) (aa : Act) (K : Act → World → Prop) (Q : Exit → Act → World → Prop) (E : Prop) h1 h2 h3 h4 h5 => step_append_lies (P := Try.prog) (ops := ops) (o := oo) (a := aa) (w := (wr.alloc (.cells #[.int .i64 (z1 - z2)] 2)).drew) (K := K) (Q := Q) (E := E) h1 (.tmp 111) (.tmp 123) 26 h2 V1.heap.size 2 i0 _ 1 8 u_ints hi0 hy0 hy1 hy2 (by rfl) (by decide) u17 j ((mapTo (seenT l er d i k) j).flatMap inC) h3 hown0 ⟨wr.heap.size, 0, none⟩ 1 1 (inC (z1 - z2)) h4 (by rfl) hnews0 (inC_ones _) (by decide) (by simp only [maxLen]; omega) (by omega) hbase0 _ rfl h5)
                            clear hown0 hnews0 hbase0
                            have hown1 : (wr.drew.alloc (.cells #[.int .i64 (z1 - z2)] 2)).ownsRow V1.heap.size 2 1 u17 j ((mapTo (seenT l er d i k) j).flatMap inC) := HU.out.r1.alloc _
                            have hnews1 : ∀ jj u, (inC (z1 - z2))[jj]? = some u → (wr.drew.alloc (.cells #[.int .i64 (z1 - z2)] 2)).cell? ((⟨wr.heap.size, 0, none⟩ : Addr).add jj) = some u := fun jj u hu => World.news_of_block (show Whole (wr.drew.alloc (.cells #[.int .i64 (z1 - z2)] 2)) wr.heap.size 2 #[.int .i64 (z1 - z2)] from Whole.new wr.drew _ _) jj u hu
                            have hbase1 : V1.heap.size ≤ (wr.drew.alloc (.cells #[.int .i64 (z1 - z2)] 2)).heap.size := by have h := HU.out.below.size; simp; omega
                            have HST1 := Lib.hid (fun (ops : Array Oper) (oo : Oper) (aa : Act) (K : Act → World → Prop) (Q : Exit → Act → World → Prop) (E : Prop) h1 h2 h3 h4 h5 => step_append_lies (P := Try.prog) (ops := ops) (o := oo) (a := aa) (w := (wr.drew.alloc (.cells #[.int .i64 (z1 - z2)] 2))) (K := K) (Q := Q) (E := E) h1 (.tmp 111) (.tmp 123) 26 h2 V1.heap.size 2 i0 _ 1 8 u_ints hi0 hy0 hy1 hy2 (by rfl) (by decide) u17 j ((mapTo (seenT l er d i k) j).flatMap inC) h3 hown1 ⟨wr.heap.size, 0, none⟩ 1 1 (inC (z1 - z2)) h4 (by rfl) hnews1 (inC_ones _) (by decide) (by simp only [maxLen]; omega) (by omega) hbase1 _ rfl h5)
                            clear hown1 hnews1 hbase1
                            refine wp_region_noPanic ?_
                            go_region_law (first
                              | (refine HST0.out _ _ _ _ _ _ (by rfl) (by rfl) (by rfl) (by rfl) ?_; intro g5 cap5 w5 h1 h2 h3 h4; have HR5 := Lib.hid (t_add HU.out h1 h2 h3); clear h1 h2 h3 h4)
                              | (refine HST1.out _ _ _ _ _ _ (by rfl) (by rfl) (by rfl) (by rfl) ?_; intro g5 cap5 w5 h1 h2 h3 h4; have HR5 := Lib.hid (t_add HU.out h1 (show (wr.alloc (.cells #[.int .i64 (z1 - z2)] 2)).drew.grownBy w5 _ from h2) h3); clear h1 h2 h3 h4))
                            all_goals
                              refine NoPanic.normal ?_
                              go_wp2
                              go_roundw
                              case rel => exact ⟨j + 1, by omega, by go_num, by rw [HFIN.out _ HOFF.out, Int.add_zero]; exact HR5.out⟩
                              case measure => simp [intOf]; omega
                          · have n1 : ((j : Int) != (k : Int)) = true := by simp [bne]; omega
                            have n2 : decide ((a : Int) < (en : Int)) = false := decide_eq_false (by omega)
                            have e6 : ¬ ((a : Int) < (en : Int)) := by omega
                            have e7 : decide ((ki : Int) + (j : Int) < (en : Int)) = false := decide_eq_false (by omega)
                            have e8 : ¬ ((ki : Int) + (j : Int) < (en : Int)) := by omega
                            have e10 : decide (a < en) = false := decide_eq_false (by omega)
                            have e11 : decide (ki + j < en) = false := decide_eq_false (by omega)
                            clear hoff hcase hq1 hq2 hq3 hq4 bz1 bz2 h1 h2
                            go_wp2
                            have HSF := Lib.hid (fun W (hb : Below wr.heap.size wr W) => (show W.cell? ⟨g, o + k, none⟩ = some (.int .i64 z1) ∧ W.cell? ⟨g, o + j, none⟩ = some (.int .i64 z2) from ⟨k_cell hb b1, k_cell hb b2⟩))
                            have HB0 := Lib.hid (Below.refl wr.heap.size wr)
                            have HSG := Lib.hid (fun W (hb : Below V1.heap.size V1 W) => (show W.cell? ⟨g, o + k, none⟩ = some (.int .i64 z1) ∧ W.cell? ⟨g, o + j, none⟩ = some (.int .i64 z2) from by rw [HZ.out.1, HZ.out.2]; exact ⟨HC.out W (HTG.out.later hb) k hkn, HC.out W (HTG.out.later hb) j hji⟩))
                            have hown0 : (wr.alloc (.cells #[.int .i64 (z1 - z2)] 2)).drew.ownsRow V1.heap.size 2 1 u17 j ((mapTo (seenT l er d i k) j).flatMap inC) := HU.out.r1.alloc _
                            have hnews0 : ∀ jj u, (inC (z1 - z2))[jj]? = some u → (wr.alloc (.cells #[.int .i64 (z1 - z2)] 2)).drew.cell? ((⟨wr.heap.size, 0, none⟩ : Addr).add jj) = some u := fun jj u hu => World.news_of_block (show Whole (wr.alloc (.cells #[.int .i64 (z1 - z2)] 2)).drew wr.heap.size 2 #[.int .i64 (z1 - z2)] from Whole.new wr _ _) jj u hu
                            have hbase0 : V1.heap.size ≤ (wr.alloc (.cells #[.int .i64 (z1 - z2)] 2)).drew.heap.size := by have h := HU.out.below.size; simp; omega
                            have HST0 := Lib.hid (fun (ops : Array Oper) (oo : Oper) (aa : Act) (K : Act → World → Prop) (Q : Exit → Act → World → Prop) (E : Prop) h1 h2 h3 h4 h5 => step_append_lies (P := Try.prog) (ops := ops) (o := oo) (a := aa) (w := (wr.alloc (.cells #[.int .i64 (z1 - z2)] 2)).drew) (K := K) (Q := Q) (E := E) h1 (.tmp 111) (.tmp 123) 26 h2 V1.heap.size 2 i0 _ 1 8 u_ints hi0 hy0 hy1 hy2 (by rfl) (by decide) u17 j ((mapTo (seenT l er d i k) j).flatMap inC) h3 hown0 ⟨wr.heap.size, 0, none⟩ 1 1 (inC (z1 - z2)) h4 (by rfl) hnews0 (inC_ones _) (by decide) (by simp only [maxLen]; omega) (by omega) hbase0 _ rfl h5)
                            clear hown0 hnews0 hbase0
                            have hown1 : (wr.drew.alloc (.cells #[.int .i64 (z1 - z2)] 2)).ownsRow V1.heap.size 2 1 u17 j ((mapTo (seenT l er d i k) j).flatMap inC) := HU.out.r1.alloc _
                            have hnews1 : ∀ jj u, (inC (z1 - z2))[jj]? = some u → (wr.drew.alloc (.cells #[.int .i64 (z1 - z2)] 2)).cell? ((⟨wr.heap.size, 0, none⟩ : Addr).add jj) = some u := fun jj u hu => World.news_of_block (show Whole (wr.drew.alloc (.cells #[.int .i64 (z1 - z2)] 2)) wr.heap.size 2 #[.int .i64 (z1 - z2)] from Whole.new wr.drew _ _) jj u hu
                            have hbase1 : V1.heap.size ≤ (wr.drew.alloc (.cells #[.int .i64 (z1 - z2)] 2)).heap.size := by have h := HU.out.below.size; simp; omega
                            have HST1 := Lib.hid (fun (ops : Array Oper) (oo : Oper) (aa : Act) (K : Act → World → Prop) (Q : Exit → Act → World → Prop) (E : Prop) h1 h2 h3 h4 h5 => step_append_lies (P := Try.prog) (ops := ops) (o := oo) (a := aa) (w := (wr.drew.alloc (.cells #[.int .i64 (z1 - z2)] 2))) (K := K) (Q := Q) (E := E) h1 (.tmp 111) (.tmp 123) 26 h2 V1.heap.size 2 i0 _ 1 8 u_ints hi0 hy0 hy1 hy2 (by rfl) (by decide) u17 j ((mapTo (seenT l er d i k) j).flatMap inC) h3 hown1 ⟨wr.heap.size, 0, none⟩ 1 1 (inC (z1 - z2)) h4 (by rfl) hnews1 (inC_ones _) (by decide) (by simp only [maxLen]; omega) (by omega) hbase1 _ rfl h5)
                            clear hown1 hnews1 hbase1
                            refine wp_region_noPanic ?_
                            go_region_law (first
                              | (refine HST0.out _ _ _ _ _ _ (by rfl) (by rfl) (by rfl) (by rfl) ?_; intro g5 cap5 w5 h1 h2 h3 h4; have HR5 := Lib.hid (t_add HU.out h1 h2 h3); clear h1 h2 h3 h4)
                              | (refine HST1.out _ _ _ _ _ _ (by rfl) (by rfl) (by rfl) (by rfl) ?_; intro g5 cap5 w5 h1 h2 h3 h4; have HR5 := Lib.hid (t_add HU.out h1 (show (wr.alloc (.cells #[.int .i64 (z1 - z2)] 2)).drew.grownBy w5 _ from h2) h3); clear h1 h2 h3 h4))
                            all_goals
                              refine NoPanic.normal ?_
                              go_wp2
                              go_roundw
                              case rel => exact ⟨j + 1, by omega, by go_num, by rw [HFIN.out _ HOFF.out, Int.add_zero]; exact HR5.out⟩
                              case measure => simp [intOf]; omega
                      · obtain rfl : j = i := by omega
                        have hth := HU.out
                        obtain ⟨⟨A3, n3, c3⟩, rfl, hs3, -⟩ := rsrc_of_own (cells := inC) (fun _ => rfl) (mapTo_len _ _).symm hth.r1
                        have z3 : n3 = j := by have := hs3.len; rw [mapTo_len] at this; exact this.symm
                        obtain ⟨hq1, hq2, hq3, hq4⟩ := HQ.out
                        have hcr := Correction_any x wr ⟨A3, n3, c3⟩ (rowT l er d j k) hs3 (by show n3 ≤ 1000; omega)
                        obtain ⟨he, hcb⟩ := tog_cor (er := er) (n := j) (i := k) HP.out (by rw [← hkk]; exact hq1) ⟨hq3, hq4⟩ HB.out.2 hkn
                        have hbb := corB_bound x (rowT l er d j k)
                        have HRT := Lib.hid (fun W (hb : Below wr.heap.size wr W) => (hth.later hb).rot)
                        unfold corV at hcr
                        obtain ⟨by_, hby⟩ : ∃ v, v = corB x (rowT l er d j k) := ⟨_, rfl⟩
                        rw [← hby] at hcr hbb
                        have HBY := Lib.hid hby
                        unfold Sl.v at *
                        dsimp only at *
                        have HZ1 := Lib.hid (fun W (hb : Below wr.heap.size wr W) => HC.out W (HTU.out.later hb) k hkn)
                        obtain ⟨z1, hz1⟩ : ∃ z, z = l.getD k 0 := ⟨_, rfl⟩
                        rw [← hz1] at HZ1
                        have bz1 := HB.out.2 k hkn
                        rw [← hz1] at bz1
                        have HZZ := Lib.hid hz1
                        have t1 : IntKind.i64.wrap (z1 + by_) = z1 + by_ := IntWalk.i64_in _ (by omega)
                        have bk : k ≤ 16 := by omega
                        rcases he with he | he
                        · rw [he] at hcr
                          have HCR := Lib.hid hcr
                          have HE := Lib.hid he
                          clear hth hs3 hcr hcb hbb hby hz1 bz1 he hq1 hq2 hq3 hq4 HU z3 hji
                          go_wp2_with (first
                            | (refine wpList_load_row rfl 23 (.tmp 4) rfl w.heap.size rfl 23 x.cells (0, 0) _ HTU.out.plan Try.underlying23 rfl HS.out.plan ?_)
                            | (go_at_call 7; refine HCR.out.mono ?_; rintro e w6 ⟨rfl, hb⟩; have HR6 := Lib.hid (HRT.out _ hb); have b1 := HZ1.out _ hb; clear hb)
                            | (at_builtin; refine wpList_append_own_at _ rfl (.tmp 137) (.tmp 144) 26 rfl V1.heap.size 2 i0 _ 1 8 u_ints hi0 hy0 hy1 hy2 rfl (by decide) u15 k ((mapTo (setT x l er d j) k).flatMap inC) rfl (HR6.out.r1.alloc _) ⟨w6.heap.size, 0, none⟩ 1 1 (inC (z1 + by_)) rfl rfl (fun j u hu => World.news_of_block (Whole.new w6 _ _) j u hu) (inC_ones _) (by simp only [maxLen]; omega) (by omega) (by have := HR6.out.below.size; simp; omega) ?_; intro v7 w7 h1 h2 _ h3; have HR7 := Lib.hid (HR6.out.add h1 h2 h3).drop3; clear h1 h2 h3))
                          refine ⟨⟨k + 1, by omega, by go_num, ?_, fun q hq => ?_⟩, by simp [intOf]; omega⟩
                          · have e : mapTo (setT x l er d j) (k + 1) = mapTo (setT x l er d j) k ++ [z1 + by_] := by
                              rw [mapTo_succ]
                              unfold setT
                              rw [← HZZ.out, ← HBY.out]
                            rw [e]
                            exact HR7.out
                          · rcases Nat.lt_or_ge q k with h1 | h1
                            · exact HCE.out q h1
                            · obtain rfl : q = k := by omega
                              exact HE.out
                        · rw [he] at hcr
                          have HCR := Lib.hid hcr
                          clear hth hs3 hcr hcb hbb hby hz1 bz1 he hq1 hq2 hq3 hq4 HU z3 hji
                          go_wp2_with (first
                            | (refine wpList_load_row rfl 23 (.tmp 4) rfl w.heap.size rfl 23 x.cells (0, 0) _ HTU.out.plan Try.underlying23 rfl HS.out.plan ?_)
                            | (go_at_call 7; refine HCR.out.mono ?_; rintro e w6 ⟨rfl, hb⟩; have HB6 := Lib.hid (HTU.out.later hb).below; clear hb))
                          go_ret
                          exact ⟨rfl, HB6.out⟩
                  · obtain rfl : k = i := by omega
                    have hth := HTH.out
                    have htw := HTG.out.later hth.below
                    obtain ⟨⟨A4, n4, c4⟩, rfl, hs4, -⟩ := rsrc_of_own (cells := inC) (fun _ => rfl) (mapTo_len _ _).symm hth.r1
                    have z4 : n4 = k := by have := hs4.len; rw [mapTo_len] at this; exact this.symm
                    subst z4
                    obtain ⟨hq1, hq2, hq3, hq4⟩ := HQ.out
                    obtain ⟨m, hm⟩ : ∃ m : Nat, x.kk = (m : Int) := ⟨x.kk.toNat, by rw [← hkk]; omega⟩
                    obtain ⟨tf1, tf2⟩ := tog_facts (er := er) (n := n4) (m := m) (lo := lo) (hi := hi) (by omega) ⟨hq3, hq4⟩ HB.out.2 HB.out.1
                    have hset : ∀ j, j < n4 → setT x l er d n4 j = l.getD j 0 - midT (rowT l er d n4 j) (m : Int) := fun j hj => by
                      have h := (tog_cor (er := er) (n := n4) (i := j) HP.out (by rw [← hkk]; exact hq1) ⟨hq3, hq4⟩ HB.out.2 hj).2 (HCE.out j hj)
                      unfold setT
                      rw [h, hm]
                      omega
                    have HF1 := Lib.hid (fun j (hj : j < n4) => (show lo - d ≤ setT x l er d n4 j ∧ setT x l er d n4 j ≤ hi + d from by rw [hset j hj]; exact tf1 j hj))
                    have HF2 := Lib.hid (fun j q (hj : j < n4) (hq : q < n4) => (show setT x l er d n4 j - setT x l er d n4 q ≤ 2 * d from by rw [hset j hj, hset q hq]; exact tf2 j q hj hq))
                    have HAT := Lib.hid (fun W (hb : Below wr.heap.size wr W) j (hj : j < n4) => (show ∃ ga oa, A4 = some ⟨ga, oa, none⟩ ∧ W.cell? ⟨ga, oa + j, none⟩ = some (.int .i64 (setT x l er d n4 j)) from by
                      obtain ⟨ga, oa, e, hc⟩ := src_at (hs4.later hb) hj
                      rw [getD_lt (by rw [mapTo_len]; exact hj), mapTo_get] at hc
                      exact ⟨ga, oa, e, hc⟩))
                    generalize wr = V2 at *
                    have HBV := Lib.hid htw.below
                    obtain ⟨ga, oa, hA4, -⟩ := HAT.out V2 (Below.refl _ _) 0 (by omega)
                    subst hA4
                    have HCT := Lib.hid (fun W (hb : Below V2.heap.size V2 W) j (hj : j < n4) => (show W.cell? ⟨ga, oa + j, none⟩ = some (.int .i64 (setT x l er d n4 j)) from by
                      obtain ⟨g', o', e, hc⟩ := HAT.out W hb j hj
                      cases e
                      exact hc))
                    obtain ⟨⟨lo1, lo2⟩, hi1, hi2⟩ := HLO.out
                    have w1 : IntKind.i64.wrap (lo - d) = lo - d := IntWalk.i64_in _ (by omega)
                    have w2 : IntKind.i64.wrap (hi + d) = hi + d := IntWalk.i64_in _ (by omega)
                    have w3 : IntKind.i64.wrap (2 * d) = 2 * d := IntWalk.i64_in _ (by omega)
                    clear hth htw hs4 hm tf1 tf2 hset HAT HTH HCE hq1
                    unfold Sl.v
                    dsimp only
                    go_wp2
                    go_loopw [149] (fun iv wv => ∃ j : Nat, j ≤ n4 ∧ iv = .int .i64 (j : Int) ∧ Below V2.heap.size V2 wv) (fun iv _ => n4 - (intOf iv).toNat)
                    case atStart => exact ⟨0, Nat.zero_le _, rfl, Below.refl _ _⟩
                    case round =>
                      obtain ⟨j, hj', rfl, hwv⟩ := hrel
                      by_cases hjn : j < n4
                      · have b1 := HCT.out _ hwv j hjn
                        have hf := HF1.out j hjn
                        obtain ⟨gj, hgj⟩ : ∃ v, v = setT x l er d n4 j := ⟨_, rfl⟩
                        rw [← hgj] at b1 hf
                        have e1 : (0 : Int) ≤ (j : Int) := by omega
                        have e2 : (j : Int) < (n4 : Int) := by omega
                        have f1 : decide (gj < lo - d) = false := decide_eq_false (by omega)
                        have f2 : decide (hi + d < gj) = false := decide_eq_false (by omega)
                        have HGJ := Lib.hid (And.intro hgj hf)
                        have HWV := Lib.hid hwv
                        clear hgj hf hwv
                        go_wp2
                        clear f1 f2 b1
                        generalize wr = V3 at *
                        go_loopw [171] (fun iv wv => ∃ q : Nat, q ≤ j ∧ iv = .int .i64 (q : Int) ∧ Below V2.heap.size V2 wv) (fun iv _ => j - (intOf iv).toNat)
                        case atStart => exact ⟨0, Nat.zero_le _, rfl, HWV.out⟩
                        case round =>
                          obtain ⟨q, hq', rfl, hwu⟩ := hrel
                          by_cases hqj : q < j
                          · have b1 := HCT.out _ hwu j hjn
                            have b2 := HCT.out _ hwu q (by omega)
                            have p1 := HF2.out j q hjn (by omega)
                            have p2 := HF2.out q j (by omega) hjn
                            have p3 := HF1.out q (by omega)
                            have p4 := HGJ.out.2
                            rw [← HGJ.out.1] at b1 p1 p2
                            obtain ⟨gq, hgq⟩ : ∃ v, v = setT x l er d n4 q := ⟨_, rfl⟩
                            rw [← hgq] at b2 p1 p2 p3
                            have e3 : (0 : Int) ≤ (q : Int) := by omega
                            have e4 : (q : Int) < (j : Int) := by omega
                            have e5 : (q : Int) < (n4 : Int) := by omega
                            have t1 : IntKind.i64.wrap (gj - gq) = gj - gq := IntWalk.i64_in _ (by omega)
                            have t2 : IntKind.i64.wrap (gq - gj) = gq - gj := IntWalk.i64_in _ (by omega)
                            have f1 : decide (2 * d < gj - gq) = false := decide_eq_false (by omega)
                            have f2 : decide (2 * d < gq - gj) = false := decide_eq_false (by omega)
                            have HWU := Lib.hid hwu
                            clear p1 p2 p3 p4 hgq hwu
                            go_wp2
                            go_quiet (fail)
                            go_wp2
                            go_roundw
                            case rel => exact ⟨q + 1, by omega, by go_num, below_drewN HWU.out _⟩
                            case measure => simp [intOf]; omega
                          · obtain rfl : q = j := by omega
                            have HWU := Lib.hid hwu
                            clear hwu
                            go_wp2
                            go_roundw
                            case rel => exact ⟨q + 1, by omega, by go_num, HWU.out⟩
                            case measure => simp [intOf]; omega
                      · obtain rfl : j = n4 := by omega
                        have HWV := Lib.hid (k_then hwv HBV.out)
                        clear hwv
                        go_wp2
                        go_ret
                        exact ⟨rfl, HWV.out⟩
end Go.Proofs.Yteljalgfkmnamaa
