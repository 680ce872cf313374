/- AgendaPlays, of a slice that reads as calls. No condition. -/
import Derived.Test.YtchfponnajednaaADo
import Derived.Test.YtchfponnajednaaAOpenO
import Derived.WalkLawsBesides
import Derived.Deep.DrawnRows
namespace Go.Proofs.Ytchfponnajednaa
open Go.RowKit Go.Shelf
attribute [local go_sem ↓] Go.wp_at_zero Go.wp_at_succ

theorem head_ex (M : List En) : ∃ (z : Ev) (b : Bool), headOf M = .tuple #[evV z, .bool b] := by
  cases M with
  | nil => exact ⟨zeroEv, false, rfl⟩
  | cons x M => exact ⟨x.e, true, rfl⟩
theorem later_drewn {P : Program} {f : FuncId} {args : Array Value} {w : World} {v : Value} (y : Later w) (h : Calls P f args y.at_ fun e w' => e = .returned v ∧ ∃ n, w' = y.at_.drewN n) : Calls P f args y.at_ fun e w' => e = .returned v ∧ ∃ z : Later w, w' = z.at_ :=
  h.mono fun _ w' k => ⟨k.1, ⟨w', by obtain ⟨n, rfl⟩ := k.2; exact below_drewN y.below n⟩, rfl⟩
theorem ev_neq_self (x : Ev) (w : World) : (binOp .neq 36 (evV x) (evV x)).run Try.prog w = .ok (.bool false) w := by rw [ev_neq, decide_eq_true rfl]; rfl
theorem flatV_set0 : ∀ (es : List Ev) (i : Nat) (z : Int), i < es.length → (flatV es).set (i * 5) (.int .i64 z) = flatV (es.set i { es.getD i default with t := z })
  | [], i, z, h => by simp at h
  | x :: l, 0, z, _ => rfl
  | x :: l, i + 1, z, h => by
    have ih := flatV_set0 l i z (by simpa using h)
    show (x.cells ++ flatV l).set ((i + 1) * 5) _ = x.cells ++ flatV (l.set i _)
    rw [List.set_append_right _ _ (by show 5 ≤ _; omega), show (i + 1) * 5 - x.cells.length = i * 5 by show (i + 1) * 5 - 5 = _; omega, ih]
    rfl
theorem blk_none {k : Nat} : ¬ blk none k := fun ⟨_, e, _⟩ => by cases e
/-- A play that nobody has called yet. -/
theorem play_new (w : World) : PlayS (St1 w.heap.size 0 []) (fun k => k < w.heap.size) w (w.heap.size + 2) w.heap.size (w.heap.size + 1) none 0 (([] : List En).map En.e)
    (((w.alloc (.cells #[.pointer none] 27)).alloc (.cells #[.slice none 0 0] 31)).alloc (.cells #[.pointer (some ⟨w.heap.size, 0, none⟩), .pointer (some ⟨w.heap.size + 1, 0, none⟩)] 33)) := by
  have h1 := Whole.new w 27 #[.pointer none]
  have h2 := Whole.new (w.alloc (.cells #[.pointer none] 27)) 31 #[.slice none 0 0]
  have h3 := Whole.new ((w.alloc (.cells #[.pointer none] 27)).alloc (.cells #[.slice none 0 0] 31)) 33 #[.pointer (some ⟨w.heap.size, 0, none⟩), .pointer (some ⟨w.heap.size + 1, 0, none⟩)]
  rw [show (w.alloc (.cells #[.pointer none] 27)).heap.size = w.heap.size + 1 by simp] at h2
  rw [show ((w.alloc (.cells #[.pointer none] 27)).alloc (.cells #[.slice none 0 0] 31)).heap.size = w.heap.size + 2 by simp] at h3
  refine ⟨AgF.zero ((h1.alloc _).alloc _) (fun hf => ?_), ⟨h2.alloc _, VSrc.zero _ _, Nat.le_refl _, fun _ => rfl, blk_none, fun k h => absurd h blk_none⟩, h3, by omega, blk_none, fun k hk => ⟨by omega, blk_none, by omega⟩, fun k hk => hk, (((Kept.refl _ w).alloc _).alloc _).alloc _⟩
  rcases hf with hf | hf | hf | hf
  · exact absurd hf (Nat.lt_irrefl _)
  · omega
  · omega
  · exact blk_none hf
-- the walk
set_option maxRecDepth 1000000 in
set_option maxHeartbeats 4000000 in
theorem playsLaw_any (w : World) (A : Option Addr) (n c : Nat) (os : List OpE) (h : OSrc w A n os) (hn : n ≤ 9223372036854775807) :
    Calls Try.prog 3 #[.slice A n c] w (Says w true) := by
  have H := Lib.hid h
  clear h
  go_enter Try.func3, Try.ntmps3
  by_cases hlt : 150 < n
  · have hd : decide ((150 : Int) < (n : Int)) = true := by simp only [decide_eq_true_eq]; omega
    clear hlt
    go_wp2
    go_ret
    exact ⟨rfl, Below.refl _ _⟩
  have hd : decide ((150 : Int) < (n : Int)) = false := by simp only [decide_eq_false_iff_not]; omega
  have HP0 := Lib.hid (play_new w)
  have HNN := Lib.hid (show n ≤ 150 by omega)
  clear hlt
  go_wp2_with fail
  clear hd
  generalize w.heap.size + 2 = pp at HP0 ⊢
  go_loopw [4, 22] (fun _ iv wr => ∃ (k a rr nx cc : Nat) (B : Option Addr) (L : List En), k ≤ n ∧ iv = .int .i64 (k : Int) ∧ nx ≤ k ∧ L.length ≤ k ∧ PlayS (St1 a nx L) (fun k => k < w.heap.size) w pp a rr B cc (L.map En.e) wr) (fun _ iv _ => n - (intOf iv).toNat)
  case atStart => exact ⟨0, _, _, 0, _, _, [], Nat.zero_le _, rfl, Nat.le_refl _, Nat.le_refl _, HP0.out⟩
  case round =>
    clear HP0
    obtain ⟨k, a, rr, nx, cc, B, L, hk, rfl, hnx, hll, hp⟩ := hrel
    by_cases hlt : k < n
    · have hsrc := H.out.later (hp.kept.below (fun _ h hn => hn h))
      obtain ⟨g, o, rfl, hc⟩ := hsrc.at_ hlt
      obtain ⟨q, hq⟩ : ∃ q, q = os.getD k default := ⟨_, rfl⟩
      rw [← hq] at hc
      obtain ⟨c0, c1, c2, c3, c4, c5⟩ := op_cells hc
      have HD := Lib.hid (do_any _ _ _ _ _ _ _ _ _ _ q.o q.x hp (by have := HNN.out; omega) (by have := HNN.out; omega))
      have HK := Lib.hid (And.intro hnx hll)
      clear hsrc hc hq hp hnx hll
      go_wp2_with fail
      refine HD.out.mono ?_
      rintro e w5 ⟨rfl, a', rr', B', cc', ny, M, hp, hny, hml⟩
      have HK2 := Lib.hid (show ny ≤ k + 1 ∧ M.length ≤ k + 1 from ⟨by have := HK.out.1; omega, by have := HK.out.2; omega⟩)
      have HP := Lib.hid hp
      obtain ⟨z, b, hz⟩ := head_ex M
      obtain ⟨p0, p1⟩ := hx_two hp
      have hfst := first_p hp
      rw [hz] at hfst
      have HF := Lib.hid hfst
      clear hp hny hml HK HD c0 c1 c2 c3 c4 c5 hfst
      go_wp2_with fail
      refine HF.out.mono ?_
      rintro e w6 ⟨rfl, hb6⟩
      have hbx : Below w6.heap.size w6 (w6.alloc (.cells #[.int .i64 z.t, .int .i64 z.k, .int .i64 z.n, .int .i64 z.m, .int .i64 z.v] 36)) := (Below.refl _ _).alloc (Nat.le_refl _) _
      have HW6 := Lib.hid (Whole.new w6 36 #[.int .i64 z.t, .int .i64 z.k, .int .i64 z.n, .int .i64 z.m, .int .i64 z.v])
      have HP6 := Lib.hid ((HP.out.later (isSt1 _ _ _) hb6).later (isSt1 _ _ _) hbx)
      clear hb6 hbx HF HP p0 p1
      obtain ⟨p0, p1⟩ := hx_two HP6.out
      have hrf := refFirst_p HP6.out
      rw [hz] at hrf
      have HF := Lib.hid hrf
      clear hrf hz
      go_wp2_with fail
      refine HF.out.mono ?_
      rintro e w7 ⟨rfl, hb7⟩
      have hbx : Below w7.heap.size w7 (w7.alloc (.cells #[.int .i64 z.t, .int .i64 z.k, .int .i64 z.n, .int .i64 z.m, .int .i64 z.v] 36)) := (Below.refl _ _).alloc (Nat.le_refl _) _
      have HW7 := Lib.hid (Whole.new w7 36 #[.int .i64 z.t, .int .i64 z.k, .int .i64 z.n, .int .i64 z.m, .int .i64 z.v])
      have HW6b := Lib.hid (k_later hbx (k_later hb7 HW6.out))
      have HP7 := Lib.hid ((HP6.out.later (isSt1 _ _ _) hb7).later (isSt1 _ _ _) hbx)
      clear hb7 hbx HF HP6 HW6 p0 p1
      obtain ⟨p0, p1⟩ := hx_two HP7.out
      have HA := Lib.hid (all_f HP7.out.ag (by have := HK2.out.2; have := HNN.out; omega))
      go_wp2_with fail
      refine HA.out.mono ?_
      rintro e w8 ⟨v8, rfl, hr8, hb8⟩
      obtain ⟨D, d, rfl, hdc, hsrc8, hbl8⟩ := all_src hr8
      have hro8 : RowV w8 D M.length d (M.map En.e) := own_base hr8
      obtain ⟨W7, hW7⟩ : ∃ W7, W7 = w7.alloc (.cells #[.int .i64 z.t, .int .i64 z.k, .int .i64 z.n, .int .i64 z.m, .int .i64 z.v] 36) := ⟨_, rfl⟩
      rw [← hW7] at HW7 HW6b HP7 hb8 hbl8
      generalize w6.heap.size = b6 at HW6b ⊢
      generalize w7.heap.size = b7 at HW7 ⊢
      clear hW7 HA p0 p1 hr8
      have HRO := Lib.hid hro8
      have HB8 := Lib.hid hb8
      have HBL := Lib.hid (show ∀ k, blk D k → W7.heap.size ≤ k from fun k ⟨ad, e, hk⟩ => by subst hk; exact (hbl8 ad e).1)
      have HP8 := Lib.hid (HP7.out.later (isSt1 _ _ _) hb8)
      have hf6 := fun y : Later w8 => five_later (k_later HB8.out HW6b.out) y
      have hf7 := fun y : Later w8 => five_later (k_later HB8.out HW7.out) y
      have a0 := fun y => (hf6 y).1
      have a1 := fun y => (hf6 y).2.1
      have a2 := fun y => (hf6 y).2.2.1
      have a3 := fun y => (hf6 y).2.2.2.1
      have a4 := fun y => (hf6 y).2.2.2.2
      have b0 := fun y => (hf7 y).1
      have b1 := fun y => (hf7 y).2.1
      have b2 := fun y => (hf7 y).2.2.1
      have b3 := fun y => (hf7 y).2.2.2.1
      have b4 := fun y => (hf7 y).2.2.2.2
      obtain ⟨p0, p1⟩ := hx_two HP8.out
      have hr := HP8.out.ref.whole.cell 0
      simp only [List.getElem?_toArray, List.getElem?_cons_zero, List.length_map] at hr
      obtain ⟨N, hN⟩ : ∃ N, N = M.length := ⟨_, rfl⟩
      have HLN := Lib.hid (fun y : Later w8 => len_p (HP8.out.later (isSt1 _ _ _) y.below))
      rw [← hN] at hr HLN hdc ⊢
      have p0 := fun y : Later w8 => y.cell p0
      have p1 := fun y : Later w8 => y.cell p1
      have hr := fun y : Later w8 => y.cell hr
      have HEV := Lib.hid (show ∀ y : Later w8, Calls Try.prog 15 #[.slice D N d, .slice B' N cc'] y.at_ fun e w' => e = .returned (.bool true) ∧ ∃ n, w' = y.at_.drewN n from fun y => by
        have h1 := hsrc8.later y.below
        have h2 := HP8.out.ref.src.later y.below
        rw [List.length_map] at h2
        rw [← hN] at h1 h2
        have h3 := events_any y.at_ D B' N N d cc' _ _ h1 h2 (by have := HK2.out.2; have := HNN.out; omega) (by have := HK2.out.2; have := HNN.out; omega)
        rw [decide_eq_true rfl] at h3
        exact h3)
      have hro := HRO.out
      rw [← hN] at hro
      have HRN := Lib.hid hro
      have hNb : N ≤ 150 := by have := HK2.out.2; have := HNN.out; omega
      have m1 := fun V => ev_equal_self z V
      have m2 := fun V => ev_neq_self z V
      clear hsrc8 hro8 hbl8 hb8 hf6 hf7 hN hro HRO HW6b HW7
      go_upto_region 12 with fail
      refine wp_region_later (by kernel_rfl) (by kernel_rfl) ?_
      repeat (go_big_quiet_step (first
        | (go_at_call 14; exact later_at _ (HLN.out _))
        | (go_at_call 15; exact later_drewn _ (HEV.out _))))
      refine wpQuiet_nil ?_
      intro _ hw'
      obtain ⟨y9, hw''⟩ := hw'
      subst hw''
      have HB9 := Lib.hid (k_then y9.below HB8.out)
      have HR9 := Lib.hid (show RowV y9.at_ D N d (M.map En.e) from own_kept HRN.out (Kept.of_below y9.below Empty) (fun _ _ h => h))
      clear p0 p1 hr a0 a1 a2 a3 a4 b0 b1 b2 b3 b4 m1 m2 HLN HEV HRN HP8
      go_wp2_with fail
      go_loopw [10, 91] (fun _ iv V => ∃ (j : Nat) (ds : List Ev), j ≤ N ∧ iv = .int .i64 (j : Int) ∧ RowV V D N d ds ∧ Below W7.heap.size W7 V) (fun _ iv _ => N - (intOf iv).toNat)
      case atStart => exact ⟨0, _, Nat.zero_le _, rfl, HR9.out, HB9.out⟩
      case round =>
        clear HR9 HB9
        obtain ⟨j, ds, hj, rfl, hro, hbj⟩ := hrel
        by_cases hjl : j < N
        · obtain ⟨hlen, g2, rfl, hc, hf⟩ := hro.spot hjl
          have h1 := World.ownsRow.stored (show wr.ownsRow 0 36 5 (.slice (some ⟨g2, 0, none⟩) N d) N (flatV ds) from hro) (j * 5) (.int .i64 (-1))
          rw [flatV_set0 ds j (-1) (by rw [hlen]; exact hjl)] at h1
          have HR2 := Lib.hid h1.1
          have HB2 := Lib.hid (hbj.setCell (p := ⟨g2, j * 5, none⟩) (HBL.out g2 ⟨_, rfl, rfl⟩) (.int .i64 (-1)))
          have a0 := (five_of hc).1
          have f0 := hf (j * 5)
          have e1 : (0 : Int) ≤ (j : Int) := by omega
          have e2 : (j : Int) < (N : Int) := by omega
          clear hc hf h1 hro hbj hlen
          go_wp2
          go_roundw
          case rel => exact ⟨j + 1, _, by omega, by go_num, HR2.out, HB2.out⟩
          case measure => simp [intOf]; omega
        · obtain rfl : j = N := by omega
          have HP9 := Lib.hid (HP7.out.later (isSt1 _ _ _) hbj)
          clear hro hbj
          go_wp2
          go_roundw
          case rel => exact ⟨k + 1, a', rr', ny, cc', B', M, by omega, by go_num, HK2.out.1, HK2.out.2, HP9.out⟩
          case measure => simp [intOf]; omega
    · obtain rfl : k = n := by omega
      have HP := Lib.hid hp
      obtain ⟨p0, p1⟩ := hx_two hp
      have hr := hp.ref.whole.cell 0
      simp only [List.getElem?_toArray, List.getElem?_cons_zero, List.length_map] at hr
      obtain ⟨N, hN⟩ : ∃ N, N = L.length := ⟨_, rfl⟩
      have HLN := Lib.hid (fun y : Later wr => len_p (HP.out.later (isSt1 _ _ _) y.below))
      have HB := Lib.hid (hp.kept.below (fun _ h hn => hn h))
      rw [← hN] at hr HLN
      have q0 := fun y : Later wr => y.cell p0
      have q1 := fun y : Later wr => y.cell p1
      have qr := fun y : Later wr => y.cell hr
      clear hp hnx hll hN p0 p1 hr
      go_upto_region 20 with fail
      refine wp_region_later (by kernel_rfl) (by kernel_rfl) ?_
      repeat (go_big_quiet_step (first | (go_at_call 14; exact later_at _ (HLN.out _))))
      refine wpQuiet_nil ?_
      intro _ hw'
      obtain ⟨y, hw''⟩ := hw'
      subst hw''
      go_wp2
      go_ret
      exact ⟨rfl, k_then y.below HB.out⟩
end Go.Proofs.Ytchfponnajednaa
