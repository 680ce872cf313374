/- Whether a node sends while a frame is there, by a contract. No condition. -/
import Derived.Test.YtmplidgafdobkaaUIter
import Derived.StillTailTactics
import Derived.Sort.QuietTacIn
import Derived.Sort.BigQuietIn
namespace Go.Proofs.Ytmplidgafdobkaa
open Go.RowKit Go.Shelf
attribute [local go_sem] Oper.semAt_some

/-- Between two rounds: none of the k that came is the node's. -/
def NoneU (As : List SdA) (n : Int) (lo B k : Nat) (W : World) : Prop := Boxed W B 4 (.bool false) ∧ ∀ j, j < k → (As.getD (lo + j) default).s.f ≠ n
/-- Round k has left: its sending is the node's. -/
def FoundU (As : List SdA) (n : Int) (lo B k : Nat) (W : World) : Prop := Boxed W B 4 (.bool true) ∧ (As.getD (lo + (k - 1)) default).s.f = n

theorem sends_no {w : World} {S : Nat → Prop} {b l : Nat} {v : Value} {As : List SdA} {g : Lg} (h : BusAt w S b l v As g) (hg : OkG g) {n bg : Int} {lo M : Nat} (hw : WinU As (bg - g.p.air + 1) (bg + g.p.air - 1) lo M) (hn : ∀ j, j < M → (As.getD (lo + j) default).s.f ≠ n) : sendsG g n bg = false := by
  unfold sendsG
  rw [List.any_eq_false]
  intro s hs
  rw [← h.sds] at hs
  obtain ⟨a, ha, rfl⟩ := List.mem_map.1 hs
  obtain ⟨i, hi, rfl⟩ := List.mem_iff_getElem.1 ha
  have e : As.getD i default = As[i] := by rw [List.getD_eq_getElem?_getD, List.getElem?_eq_getElem hi]; rfl
  simp only [Bool.and_eq_true, decide_eq_true_eq, not_and]
  intro h1 h2 h3
  have ht : tmA As i = As[i].s.t := by unfold tmA; rw [e]
  rcases Nat.lt_or_ge i lo with g1 | g1
  · have := hw.fst.no i g1
    simp at this
    omega
  · rcases Nat.lt_or_ge i (lo + M) with g2 | g2
    · have := hn (i - lo) (by omega)
      rw [show lo + (i - lo) = i by omega, e] at this
      exact this h1
    · have h4 := hw.yes (by omega)
      have h5 := times_up h hg (lo + M) i g2 hi
      omega
theorem sends_yes {w : World} {S : Nat → Prop} {b l : Nat} {v : Value} {As : List SdA} {g : Lg} (h : BusAt w S b l v As g) (hg : OkG g) {n bg : Int} {lo M k : Nat} (hw : WinU As (bg - g.p.air + 1) (bg + g.p.air - 1) lo M) (h1 : 1 ≤ k) (hk : k ≤ M) (hf : (As.getD (lo + (k - 1)) default).s.f = n) : sendsG g n bg = true := by
  unfold sendsG
  rw [List.any_eq_true]
  have hle := hw.le
  have hi : lo + (k - 1) < As.length := by omega
  refine ⟨(As.getD (lo + (k - 1)) default).s, (sd_get h _ hi).2.2, ?_⟩
  have h2 := hw.no (k - 1) (by omega)
  have h3 := of_decide_eq_true (hw.fst.yes (by omega))
  have h4 := times_up h hg lo (lo + (k - 1)) (by omega) hi
  unfold tmA at h2 h3 h4
  simp only [Bool.and_eq_true, decide_eq_true_eq]
  exact ⟨hf, by omega, h2⟩

set_option maxRecDepth 100000 in
set_option maxHeartbeats 4000000 in
theorem sends_any {w : World} {S : Nat → Prop} {b l : Nat} {v : Value} {As : List SdA} {g : Lg} (h : BusAt w S b l v As g) (hg : OkG g) (hn : As.length ≤ 1000000) (n bg : Int) (hb1 : 0 ≤ bg) (hb2 : bg ≤ 1000000000000) :
    Calls Try.prog 38 #[.pointer (some ⟨l, 0, none⟩), .int .i64 n, .int .i64 bg] w fun e w' => e = .returned (.bool (sendsG g n bg)) ∧ Below w.heap.size w w' := by
  have hp := planU_of hg.plan
  have a1 := hp.a1
  have a2 := hp.a2
  obtain ⟨A, c, hv⟩ : ∃ A c, v = .slice A As.length c := by
    rcases h.row.2 with ⟨e, h0⟩ | ⟨gb, cap, cur, e, _⟩
    · exact ⟨none, 0, by rw [e, h0]⟩
    · exact ⟨_, _, e⟩
  subst hv
  obtain ⟨gb, hgb⟩ : ∃ gb, 0 < As.length → A = some ⟨gb, 0, none⟩ := by
    rcases Nat.eq_zero_or_pos As.length with h0 | h0
    · exact ⟨0, fun h => by omega⟩
    · obtain ⟨gb, cap, e, _⟩ := sd_cells h 0 h0
      cases e
      exact ⟨gb, fun _ => rfl⟩
  obtain ⟨lo, M, hw⟩ := winU_of As (bg - g.p.air + 1) (bg + g.p.air - 1)
  have hll := h.log.lt
  obtain ⟨w1, hw1⟩ : ∃ w1, w1 = ((w.alloc (.cells #[.int .i64 n] 3)).alloc (.cells #[.bool false] 4)) := ⟨_, rfl⟩
  have hbw1 : Below w.heap.size w w1 := by rw [hw1]; exact ((Below.refl _ _).alloc (Nat.le_refl _) _).alloc (by simp) _
  have hB4 : Boxed w1 w.heap.size 3 (.int .i64 n) := by rw [hw1]; exact (Boxed.new w _ _).alloc _
  have hB7 : Boxed w1 (w.heap.size + 1) 4 (.bool false) := by
    have := Boxed.new (w.alloc (.cells #[.int .i64 n] 3)) 4 (.bool false)
    rw [← hw1] at this
    simpa using this
  have HW1 := Lib.hid hw1
  have HH := Lib.hid h
  have HWI := Lib.hid hw
  have HGB := Lib.hid hgb
  have HG := Lib.hid hg
  obtain ⟨⟨_, _, c5, _, _⟩, _⟩ := log_cells (h.later hbw1).log
  have H1 := Lib.hid (And.intro hbw1 (And.intro hB4 hB7))
  obtain ⟨f, hf⟩ : ∃ f, f = bg - g.p.air + 1 := ⟨_, rfl⟩
  obtain ⟨t, ht⟩ : ∃ t, t = bg + g.p.air - 1 := ⟨_, rfl⟩
  have z1 : IntKind.i64.wrap (bg - g.p.air) = bg - g.p.air := IntWalk.i64_in _ (by omega)
  have z2 : IntKind.i64.wrap (bg - g.p.air + 1) = f := by rw [hf]; exact IntWalk.i64_in _ (by omega)
  have z3 : IntKind.i64.wrap (bg + g.p.air) = bg + g.p.air := IntWalk.i64_in _ (by omega)
  have z4 : IntKind.i64.wrap (bg + g.p.air - 1) = t := by rw [ht]; exact IntWalk.i64_in _ (by omega)
  have HFT := Lib.hid (And.intro hf ht)
  clear hw1 h hw hgb hg hf ht hbw1 hB4 hB7 hp
  refine (callsIn_wide (n := 5)).1 ?_
  refine callsIn_of_wp_marks Try.func38 rfl trivial ?_ rfl
  simp only [Try.ntmps38, List.size_toArray, List.length_cons, List.length_nil, Nat.reduceAdd, Nat.reduceSub, Array.replicate_succ, Array.replicate_zero, List.push_toArray, List.append_toArray, List.nil_append, List.cons_append]
  refine wpIn_wide.2 ?_
  go_wp2
  refine wp_scope_straight ?_
  go_wp2
  rw [← HW1.out]
  refine wp_label ?_
  go_upto_region 2 with fail
  go_still_tail 17, (by kernel_rfl)
  change wpList _ _ _ _ _ w1.drew
  clear c5 z1 z2 z3 z4
  obtain ⟨w2, hw2⟩ : ∃ w2, w2 = ((w1.drew.alloc (.cells #[.pointer (some ⟨l, 0, none⟩)] 58)).alloc (.cells #[.int .i64 f] 2)).alloc (.cells #[.int .i64 t] 2) := ⟨_, rfl⟩
  have HW2 := Lib.hid hw2
  clear hw2
  go_wp2_with (go_at_call 45; refine (callsIn_wide.1 (within_in 5 _ _ _ _)).mono ?_; rintro e w' ⟨rfl, hw'⟩; have HWE := Lib.hid (hw'.trans HW2.out.symm); clear hw')
  rw [HWE.out]
  obtain ⟨B3, hB3⟩ : ∃ B3, B3 = w1.heap.size := ⟨_, rfl⟩
  have hz1 : w.heap.size + 1 + 1 ≤ B3 := by rw [hB3, HW1.out]; simp
  have hb12 : Below w1.heap.size w1 w2 := by rw [HW2.out]; exact ((((Below.refl _ w1).drew).alloc (Nat.le_refl _) _).alloc (by simp) _).alloc (by simp; omega) _
  have v3 : w2.cell? ⟨w1.heap.size, 0, none⟩ = some (.pointer (some ⟨l, 0, none⟩)) := by rw [HW2.out]; exact (((Boxed.new w1.drew 58 (.pointer (some ⟨l, 0, none⟩))).alloc _).alloc _).cell
  have v4 : w2.cell? ⟨w1.heap.size + 1, 0, none⟩ = some (.int .i64 f) := by
    have := ((Boxed.new (w1.drew.alloc (.cells #[.pointer (some ⟨l, 0, none⟩)] 58)) 2 (.int .i64 f)).alloc (.cells #[.int .i64 t] 2)).cell
    rw [HW2.out]
    simpa using this
  have v5 : w2.cell? ⟨w1.heap.size + 1 + 1, 0, none⟩ = some (.int .i64 t) := by
    have := (Boxed.new ((w1.drew.alloc (.cells #[.pointer (some ⟨l, 0, none⟩)] 58)).alloc (.cells #[.int .i64 f] 2)) 2 (.int .i64 t)).cell
    rw [HW2.out]
    simpa using this
  rw [← hB3] at v3 v4 v5 ⊢
  have hz3 : B3 + 1 + 1 + 1 ≤ w2.heap.size := by rw [hB3, HW2.out]; simp
  have hB2 : Below w.heap.size w w2 := k_then hb12 H1.out.1
  have hbus := HH.out.later hB2
  have hwin : WinAt w2 B3 (B3 + 1) (B3 + 1 + 1) f t S b l A c As g := ⟨v3, v4, v5, hbus⟩
  have bN : Boxed w2 w.heap.size 3 (.int .i64 n) := (hb12.block _ (by rw [← hB3]; omega)).trans H1.out.2.1
  have bF : Boxed w2 (w.heap.size + 1) 4 (.bool false) := (hb12.block _ (by rw [← hB3]; omega)).trans H1.out.2.2
  have hKp : ∀ V, Kept (fun i => i = w.heap.size + 1) w2 V → WinAt V B3 (B3 + 1) (B3 + 1 + 1) f t S b l A c As g := fun V hV =>
    ⟨hV.cell v3 (by show ¬ B3 = w.heap.size + 1; omega), hV.cell v4 (by show ¬ B3 + 1 = w.heap.size + 1; omega), hV.cell v5 (by show ¬ B3 + 1 + 1 = w.heap.size + 1; omega),
      hbus.kept hV (by show ¬ b = w.heap.size + 1; have := HH.out.bus.lt; omega) (fun k hk e => by have e : k = w.heap.size + 1 := e; have := HH.out.sS k hk; omega) (fun a ha => by
        have q := (HH.out.src a ha).1
        refine ⟨fun ad e h0 e2 => ?_, fun ad e h0 e2 => ?_, fun ad e h0 e2 => ?_⟩
        · have e2 : ad.block = w.heap.size + 1 := e2
          have := q.raw.lt (fun _ => by simp [u8C]) e h0; omega
        · have e2 : ad.block = w.heap.size + 1 := e2
          have := q.r0.lt (fun _ => by simp [faC]) e h0; omega
        · have e2 : ad.block = w.heap.size + 1 := e2
          have := q.r1.lt (fun _ => by simp [faC]) e h0; omega)⟩
  have hWI := HWI.out
  rw [← HFT.out.1, ← HFT.out.2] at hWI
  have hit := winRounds_any 4 (by omega) B3 (B3 + 1) (B3 + 1 + 1) gb lo M f t S b l A c As g HG.out hn HGB.out hWI w2
  have HKP := Lib.hid hKp
  have HB2 := Lib.hid hB2
  have hle := hWI.le
  have HNO := Lib.hid (fun h => sends_no (n := n) (bg := bg) HH.out HG.out HWI.out h)
  have HYE := Lib.hid (fun k h1 h2 h3 => sends_yes (n := n) (bg := bg) (k := k) HH.out HG.out HWI.out h1 h2 h3)
  have HBN := Lib.hid bN
  clear hB3 hb12 v3 v4 v5 hbus hwin hKp hB2 hWI HW2 HWE
  refine (wpIn_wide (n := 5)).1 ?_
  refine wpIn_rounds8 (S := fun i => i = w.heap.size + 1) (fun i h => by omega) (by omega) (gf := 51) (lb := #[.pointer (some ⟨B3, 0, none⟩), .pointer (some ⟨B3 + 1, 0, none⟩), .pointer (some ⟨B3 + 1 + 1, 0, none⟩)]) rfl
    (enters_of Try.func51 (by kernel_rfl) rfl) (encs := encW gb lo) (M := M) (fun _ => rfl) (fun V hV => HKP.out V hV) hit
    (NoneU As n lo (w.heap.size + 1)) (fun c k W => c = .exit 0 ∧ FoundU As n lo (w.heap.size + 1) k W)
    (fun k A B h i => ⟨(h _ rfl).trans i.1, i.2⟩)
    (fun c k A B h i => ⟨i.1, (h _ rfl).trans i.2.1, i.2.2⟩)
    ⟨bF, fun j h => absurd h (by omega)⟩
    (fun k => { tmps := #[.pointer (some ⟨l, 0, none⟩), .int .i64 n, .int .i64 bg, undef, .pointer (some ⟨w.heap.size, 0, none⟩), undef, .bool false, .pointer (some ⟨w.heap.size + 1, 0, none⟩), .pointer (some ⟨gb, (lo + (k - 1)) * 5, none⟩), .pointer (some ⟨l, 0, none⟩), .int .i64 bg,
      .pointer (some ⟨l, 0, none⟩), .pointer (some ⟨l, 0, none⟩), .pointer (some ⟨l, 0, none⟩), .pointer (some ⟨l, 5, none⟩), .int .i64 g.p.air, .int .i64 (bg - g.p.air), .int .i64 f, .int .i64 bg, .pointer (some ⟨l, 0, none⟩), .pointer (some ⟨l, 0, none⟩), .pointer (some ⟨l, 0, none⟩),
      .pointer (some ⟨l, 5, none⟩), .int .i64 g.p.air, .int .i64 (bg + g.p.air), .int .i64 t, .func (.func 51) #[] #[.pointer (some ⟨B3, 0, none⟩), .pointer (some ⟨B3 + 1, 0, none⟩), .pointer (some ⟨B3 + 1 + 1, 0, none⟩)], .pointer (some ⟨gb, (lo + (k - 1)) * 5, none⟩), undef, undef, undef, undef, undef, undef, undef], defers := [] }) ?assign ?body ?done ?stop
  case assign =>
    intro lp k W K hK
    unfold encW at *
    gi_wp2
    exact hK
  case body =>
    rintro lp k W hkM hK ⟨hbF, hNo⟩
    have hbN : Boxed W w.heap.size 3 (.int .i64 n) := (hK.block _ (by omega) (by omega)).trans HBN.out
    have hwA := HKP.out W hK
    obtain ⟨gb', cap', e, _, _, ⟨y0, _⟩, _⟩ := sd_cells hwA.bus (lo + k) (by omega)
    have eg := HGB.out (by omega)
    subst eg
    cases e
    rw [Nat.add_sub_cancel]
    have cN := hbN.cell
    have cF := hbF.cell
    have fF := hbF.frozen
    have HBF := Lib.hid hbF
    have HN := Lib.hid hNo
    obtain ⟨x, hx⟩ : ∃ x, x = (As.getD (lo + k) default).s.f := ⟨_, rfl⟩
    rw [← hx] at y0
    have HX := Lib.hid hx
    clear hbN hwA hbF hNo hx bN bF hit hK
    by_cases hq : x = n
    · subst hq
      gi_wp2
      gi_region
      all_goals
        gi_wp2
        refine ⟨Kept.setCell (S := fun i => i = w.heap.size + 1) (p := ⟨w.heap.size + 1, 0, none⟩) ((Kept.refl _ W).drew) (.inl rfl) _, rfl, (show Boxed W.drew _ _ _ from HBF.out).set _, ?_⟩
        rw [Nat.add_sub_cancel]
        exact HX.out.symm
    · have hq2 : (x == n) = false := by simp [hq]
      have HQ := Lib.hid hq
      clear hq
      gi_wp2
      gi_region
      all_goals
        gi_wp2
        refine ⟨(Kept.refl _ W).drew, HBF.out, fun j hj => ?_⟩
        rcases Nat.lt_or_ge j k with g1 | g1
        · exact HN.out j g1
        · obtain rfl : j = k := by omega
          rw [← HX.out]
          exact HQ.out
  case done =>
    rintro D W hD hK ⟨hbF, hNo⟩ hDD
    have hc := hbF.cell
    have HH2 := Lib.hid (HNO.out hNo)
    have HB := Lib.hid (below_last HB2.out hK (fun i h => by have h : i = w.heap.size + 1 := h; omega) (by have := HB2.out.size; omega) hDD)
    clear hNo hbF bN bF hit hK
    go_wp2
    rw [Exit.noGoto_ret]
    refine ⟨by simp, .inl ⟨_, _, rfl, run_takeDeferred hDD, ?_⟩⟩
    exact ⟨_, results_tmp rfl _ _ _, by rw [HH2.out]; rfl, HB.out⟩
  case stop =>
    rintro D c k W hD h1 h2 hK ⟨rfl, hbF, hfd⟩ hDD
    have hc := hbF.cell
    have HH2 := Lib.hid (HYE.out k h1 h2 hfd)
    have HB := Lib.hid (below_last HB2.out hK (fun i h => by have h : i = w.heap.size + 1 := h; omega) (by have := HB2.out.size; omega) hDD)
    clear hfd hbF bN bF hit hK h1 h2
    refine wpIn_wide.2 ?_
    go_wp2
    rw [Exit.noGoto_ret]
    refine ⟨by simp, .inl ⟨_, _, rfl, run_takeDeferred hDD, ?_⟩⟩
    exact ⟨_, results_tmp rfl _ _ _, by rw [HH2.out]; rfl, HB.out⟩
end Go.Proofs.Ytmplidgafdobkaa
