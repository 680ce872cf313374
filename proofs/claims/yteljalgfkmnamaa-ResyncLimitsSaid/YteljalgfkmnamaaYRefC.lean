/- The document's Correction, by its contract. No condition. -/
import Derived.Test.YteljalgfkmnamaaYMay
import Derived.Test.YteljalgfkmnamaaLRefC
import Derived.Test.YteljalgfkmnamaaZRefT
namespace Go.Proofs.Yteljalgfkmnamaa
open Go.RowKit Go.Shelf

theorem okV_take {l : List Int} {j : Nat} (hj : j < l.length) : okV (l.take (j + 1)) = (okV (l.take j) && (decide (-4294967296 ≤ l.getD j 0) && decide (l.getD j 0 ≤ 4294967296))) := by
  unfold okV
  rw [List.take_add_one, List.all_append, List.getElem?_eq_getElem hj, getD_lt hj]
  simp
theorem okV_bad {l : List Int} {j : Nat} (hj : j < l.length) (h : ¬ (-4294967296 ≤ l.getD j 0 ∧ l.getD j 0 ≤ 4294967296)) : okV l = false := by
  rw [Bool.eq_false_iff]
  intro hv
  exact h (okV_iff.1 hv _ (getD_mem hj))

theorem corV_no {x : Pl} {l : List Int} (h : (planB x && okV l) = false) : corV x l = .tuple #[.int .i64 0, .int .i64 150] := by
  unfold corV corB corE
  rw [h]
  rfl
theorem corV_over {x : Pl} {l : List Int} (h : (planB x && okV l) = true) (o : overB x l = true) : corV x l = .tuple #[.int .i64 0, .int .i64 151] := by
  unfold corV corB corE
  rw [h, o]
  rfl
theorem corV_ok {x : Pl} {l : List Int} (h : (planB x && okV l) = true) (o : overB x l = false) : corV x l = .tuple #[.int .i64 (wantC x l), .int .i64 0] := by
  unfold corV corB corE
  rw [h, o]
  rfl
set_option maxRecDepth 100000 in
set_option maxHeartbeats 4000000 in
theorem refCorrection_any (x : Pl) (w : World) (s : Sl) (l : List Int) (h : RSrc inC 1 w s l) (hn : s.n ≤ 1000) : Calls Try.prog 8 #[.agg x.cells, s.v] w fun e w' => e = .returned (corV x l) ∧ Below w.heap.size w w' := by
  have hl := h.len
  obtain ⟨hb, hW⟩ := box_plan x w
  have HB := Lib.hid hb
  have HW := Lib.hid hW
  have HS := Lib.hid x.cellsL
  have hc := fun W => refCheck_any x W
  have HO := Lib.hid (fun W (hb : Below w.heap.size w W) => refOf_any W s l x.kk (h.later hb) hn)
  have H := Lib.hid h
  have HL := Lib.hid hl
  obtain ⟨A, n, c⟩ := s
  unfold Sl.v at *
  dsimp only at *
  clear h hb hW
  cases hp : planB x
  · rw [chk_no hp] at hc
    have HC := Lib.hid hc
    rw [corV_no (by rw [hp]; rfl)]
    clear hc hp
    go_enter Try.func8, Try.ntmps8
    go_wp2_with (first
      | (refine wpList_load_row rfl 23 _ rfl w.heap.size rfl 23 x.cells (0, 0) _ HW.out Try.underlying23 rfl HS.out.plan ?_)
      | (go_at_call 13; refine (HC.out _).mono ?_; rintro e w1 ⟨rfl, hb⟩; have H1 := Lib.hid (k_then hb HB.out); clear hb))
    go_ret2
    exact ⟨rfl, H1.out⟩
  · rw [chk_yes hp] at hc
    have HC := Lib.hid hc
    have hcap := plan_cap hp
    have hk1 := (plan_tick hp).k1
    have hk2 := (plan_tick hp).k2
    have hk3 := (plan_tick hp).n2
    have s1 : IntKind.i64.wrap (2 * x.kk) = 2 * x.kk := IntWalk.i64_in _ (by omega)
    have hw : wantC x l = if 2 * x.kk + 1 ≤ (n : Int) then -(midT l x.kk) else 0 := by
      unfold wantC enoughB
      rw [hp, Bool.true_and, hl]
      simp only [decide_eq_true_eq]
    have hm := mid_bound l x.kk
    have hno : okV l = false → corV x l = .tuple #[.int .i64 0, .int .i64 150] := fun h => corV_no (by rw [hp, h]; rfl)
    have hov : okV l = true → (x.cap < wantC x l ∨ wantC x l < -x.cap) → corV x l = .tuple #[.int .i64 0, .int .i64 151] := fun h k => corV_over (by rw [hp, h]; rfl) (decide_eq_true k)
    have hgo : okV l = true → ¬ (x.cap < wantC x l ∨ wantC x l < -x.cap) → corV x l = .tuple #[.int .i64 (wantC x l), .int .i64 0] := fun h k => corV_ok (by rw [hp, h]; rfl) (decide_eq_false k)
    generalize corV x l = ans at *
    generalize wantC x l = want at *
    generalize midT l x.kk = m at *
    generalize errT l x.kk = z at *
    have HK := Lib.hid (fun (W : World) (hW : Whole W w.heap.size 23 x.cells) => kk_cell hW)
    generalize hkk : x.kk = kk at *
    generalize hcc : x.cap = cc at *
    have HKC := Lib.hid (fun (W : World) (hW : Whole W w.heap.size 23 x.cells) => (hcc ▸ cap_cell hW : W.cell? ⟨w.heap.size, 10, none⟩ = some (.int .i64 cc)))
    have s2 : IntKind.i64.wrap (-cc) = -cc := IntWalk.i64_in _ (by omega)
    have s3 : IntKind.i64.wrap (-m) = -m := IntWalk.i64_in _ (by omega)
    have HF := Lib.hid (And.intro hcap (And.intro hw hm))
    have HN := Lib.hid (And.intro hno (And.intro hov hgo))
    clear hc hp hcc hkk hcap hk1 hk2 hk3 hw hm hno hov hgo
    go_enter Try.func8, Try.ntmps8
    go_wp2_with (first
      | (refine wpList_load_row rfl 23 _ rfl w.heap.size rfl 23 x.cells (0, 0) _ HW.out Try.underlying23 rfl HS.out.plan ?_)
      | (go_at_call 13; refine (HC.out _).mono ?_; rintro e w1 ⟨rfl, hb⟩; have H1 := Lib.hid (k_then hb HB.out); have HX1 := Lib.hid (k_later hb HW.out); clear hb))
    go_loopw [6] (fun iv wr => ∃ i : Nat, i ≤ n ∧ iv = .int .i64 (i : Int) ∧ wr = w1 ∧ okV (l.take i) = true) (fun iv _ => n - (intOf iv).toNat)
    case atStart => exact ⟨0, Nat.zero_le _, rfl, by simp [okV]⟩
    case round =>
      obtain ⟨i, hi, rfl, rfl, hok⟩ := hrel
      by_cases hlt : i < n
      · obtain ⟨g, o, hA0, hA2⟩ := (H.out.later H1.out).get (i := i) hlt
        dsimp only at hA0
        subst hA0
        obtain ⟨v, hv⟩ : ∃ v, v = l.getD i 0 := ⟨_, rfl⟩
        have hv2 : l.getD i default = v := hv.symm
        rw [hv2] at hA2
        have a0 := inC_cells hA2
        rw [Nat.mul_one] at a0
        have e1 : (0 : Int) ≤ (i : Int) := by omega
        have e2 : (i : Int) < (n : Int) := by omega
        have HV := Lib.hid (And.intro hv hok)
        clear hA2 hv hv2 hok
        by_cases q : -4294967296 ≤ v ∧ v ≤ 4294967296
        · have d1 : decide (v < -4294967296) = false := decide_eq_false (by omega)
          have d2 : decide (4294967296 < v) = false := decide_eq_false (by omega)
          have HQ := Lib.hid q
          clear q
          go_wp2
          go_roundw
          case rel => exact ⟨i + 1, by omega, by go_num, trivial, by rw [okV_take (by rw [HL.out]; exact hlt), HV.out.2, ← HV.out.1, decide_eq_true HQ.out.1, decide_eq_true HQ.out.2]; rfl⟩
          case measure => simp [intOf]; omega
        · have hbad : okV l = false := okV_bad (j := i) (by rw [HL.out]; exact hlt) (by rw [← HV.out.1]; exact q)
          have HBAD := Lib.hid (HN.out.1 hbad)
          clear hbad
          by_cases q1 : v < -4294967296
          · have d1 : decide (v < -4294967296) = true := decide_eq_true q1
            clear q q1
            go_wp2
            go_ret2
            exact ⟨by rw [HBAD.out]; rfl, H1.out⟩
          · have d1 : decide (v < -4294967296) = false := decide_eq_false q1
            have d2 : decide (4294967296 < v) = true := decide_eq_true (by omega)
            clear q q1
            go_wp2
            go_ret2
            exact ⟨by rw [HBAD.out]; rfl, H1.out⟩
      · obtain rfl : i = n := by omega
        have hgood : okV l = true := by rw [List.take_of_length_le (by rw [HL.out]; exact Nat.le_refl _)] at hok; exact hok
        have HOV := Lib.hid (HN.out.2.1 hgood)
        have HGO := Lib.hid (HN.out.2.2 hgood)
        have c1 := HK.out _ HX1.out
        obtain ⟨hcap, hw, hm⟩ := HF.out
        clear hok hgood
        by_cases q : 2 * kk + 1 ≤ (i : Int)
        · rw [if_pos q] at hw
          have d0 : decide ((i : Int) ≤ 2 * kk) = false := decide_eq_false (by omega)
          subst hw
          by_cases q1 : cc < m
          · have d1 := HOV.out (by omega)
            have HA := Lib.hid d1
            clear q hcap hm d1
            go_wp2_with (go_at_call 21; refine (HO.out _ H1.out).mono ?_; rintro e w3 ⟨rfl, hb⟩; have H3 := Lib.hid (k_then hb H1.out); have c10 := HKC.out _ (k_later hb HX1.out); clear hb)
            go_ret2
            exact ⟨by rw [HA.out]; rfl, H3.out⟩
          · by_cases q2 : m < -cc
            · have d1 := HOV.out (by omega)
              have HA := Lib.hid d1
              clear q hcap hm d1
              go_wp2_with (go_at_call 21; refine (HO.out _ H1.out).mono ?_; rintro e w3 ⟨rfl, hb⟩; have H3 := Lib.hid (k_then hb H1.out); have c10 := HKC.out _ (k_later hb HX1.out); clear hb)
              go_ret2
              exact ⟨by rw [HA.out]; rfl, H3.out⟩
            · have d1 := HGO.out (by omega)
              have HA := Lib.hid d1
              clear q hcap hm d1
              go_wp2_with (go_at_call 21; refine (HO.out _ H1.out).mono ?_; rintro e w3 ⟨rfl, hb⟩; have H3 := Lib.hid (k_then hb H1.out); have c10 := HKC.out _ (k_later hb HX1.out); clear hb)
              go_ret2
              exact ⟨by rw [HA.out]; rfl, H3.out⟩
        · rw [if_neg q] at hw
          have d0 : decide ((i : Int) ≤ 2 * kk) = true := decide_eq_true (by omega)
          subst hw
          have d1 := HGO.out (by omega)
          have HA := Lib.hid d1
          clear q hcap hm d1
          go_wp2
          go_ret2
          exact ⟨by rw [HA.out]; rfl, H1.out⟩
end Go.Proofs.Yteljalgfkmnamaa
