/- Parse and Load, by contracts: the program's. They ask what a variable of the library's holds: some number. -/
import Derived.Test.YtdeiohcciafffaaGreatDoorTRead
import Derived.Test.YtdeiohcciafffaaGreatDoorTShow
import Derived.Maps.OwnOps
namespace Go.Proofs.YtdeiohcciafffaaGreatDoor
open Go.RowKit Go.Shelf

/-- What Parse answers. -/
def parseV (l : List UInt8) : Value := .tuple #[.agg (planT l).cells, .int .i64 (lineNo l : Nat), .int .i64 (if errT l then 80 else 0)]
/-- The plan whose first numbers are set. -/
def partP (f : Nat → Int) : Nat → Pl
  | 0 => zeroP
  | k + 1 => (partP f k).put (f k) k
theorem partP_all (f : Nat → Int) : partP f 16 = planL f := rfl
theorem count_all {s : St8} (h : s.count = 16) : ∀ k, k < 16 → (s k).isSome = true := by
  intro k hk
  cases hs : (s k).isSome
  · exfalso
    have key : ((List.range 16).filter fun k => (s k).isSome).length < 16 := by
      have h1 : ((List.range 16).filter fun j => (s j).isSome).length ≤ ((List.range 16).filter fun j => decide (j ≠ k)).length := by
        apply List.Sublist.length_le
        rw [show ((List.range 16).filter fun j => (s j).isSome) = ((List.range 16).filter fun j => decide (j ≠ k)).filter fun j => (s j).isSome by
          rw [List.filter_filter]
          congr 1
          funext j
          by_cases e : j = k
          · subst e; simp [hs]
          · simp [e]]
        exact List.filter_sublist
      have h2 : ((List.range 16).filter fun j => decide (j ≠ k)).length < 16 := by
        revert hk
        exact fun hk => case16 (p := fun k => ((List.range 16).filter fun j => decide (j ≠ k)).length < 16) (by decide) (by decide) (by decide) (by decide) (by decide) (by decide) (by decide) (by decide) (by decide) (by decide) (by decide) (by decide) (by decide) (by decide) (by decide) (by decide) k hk
      omega
    unfold St8.count at h
    omega
  · rfl

set_option maxRecDepth 100000 in
set_option maxHeartbeats 8000000 in
theorem Parse_any (l : List UInt8) (q : Int) (w : World) (hl : l.length ≤ 1000000) (hm : Sized q w) :
    Calls Tryz.prog 7 #[.string (txt l)] w fun e w' => e = .returned (parseV l) ∧ Below w.heap.size w w' := by
  obtain ⟨tl, htl⟩ : ∃ tl, tl = txt l := ⟨_, rfl⟩
  have hz : tl.size = l.length := by rw [htl]; exact txt_size l
  have HB := Lib.hid ((Below.refl w.heap.size w).alloc (Nat.le_refl _) (.cells zeroP.cells 23))
  have HP := Lib.hid (Whole.new w 23 zeroP.cells)
  by_cases h4 : 4000 < l.length
  · have HV := Lib.hid (show parseV l = .tuple #[.agg zeroP.cells, .int .i64 0, .int .i64 80] by
      have he : errT l = true := by simp [errT, h4]
      rw [parseV, planT, he, lineNo, if_pos h4]
      rfl)
    have h5 : 4000 < tl.size := by omega
    rw [← htl]
    clear htl hz
    go_enter Tryz.func7, Tryz.ntmps7
    go_wp2_with (refine wpList_store_row rfl 23 (.tmp 2) (.tmp 13) rfl w.heap.size zeroP.cells rfl rfl 23 zeroP.cells HP.out zeroP.cellsL.plan rfl zeroP.cellsL.one ?_)
    refine bodyPost_ret (v := parseV l) ?_ rfl ⟨rfl, below_setRow' HB.out (Nat.le_refl _) _⟩
    rw [HV.out]
    exact results_row2 rfl _ _ _ 23 _ (0, 0) _ rfl rfl rfl (setRow_whole HP.out) Tryz.underlying23 rfl zeroP.cellsL.plan
  have h5 : tl.size ≤ 4000 := by omega
  have HN := Lib.hid (fun W => numbers_b W)
  have HM := Lib.hid hm
  have hrd := fun tb W h => read_any l q tb W (by omega) h
  rw [← htl] at hrd ⊢
  have HR := Lib.hid hrd
  have hline : lineNo l = (scanT (linesT l) 1 St8.start).1 := if_neg h4
  have herr : errT l = (decide ((scanT (linesT l) 1 St8.start).1 ≠ 0) || decide ((scanT (linesT l) 1 St8.start).2.count ≠ 16)) := by simp [errT, h4]
  have HV := Lib.hid (show parseV l = .tuple #[.agg (if errT l then zeroP else (scanT (linesT l) 1 St8.start).2.plan).cells, .int .i64 (lineNo l : Nat), .int .i64 (if errT l then 80 else 0)] from rfl)
  rw [hline, herr] at HV
  clear hm hrd hline herr htl hz
  generalize scanT (linesT l) 1 St8.start = r at *
  generalize parseV l = pv at *
  obtain ⟨no, s⟩ := r
  simp only at HR HV
  have hcl := count_le s
  by_cases hno : no = 0
  · subst hno
    by_cases hc : s.count = 16
    · have HW := Lib.hid (show pv = .tuple #[.agg s.plan.cells, .int .i64 0, .int .i64 0] by
        rw [HV.out]
        simp [hc])
      have HALL := Lib.hid (count_all hc)
      have hc2 : (s.count : Int) = 16 := by omega
      have hc3 : ((s.count : Int) != 16) = false := by rw [hc2]; rfl
      clear HV hc
      go_enter Tryz.func7, Tryz.ntmps7
      go_wp2_with (first
      | (go_at_call 23; refine (HN.out _).mono ?_; rintro e w2 ⟨tb, rfl, hlt, hT, hb⟩; have HT := Lib.hid hT; have HB2 := Lib.hid (k_then hb HB.out); have HP2 := Lib.hid (k_later hb HP.out); have HX := Lib.hid hlt; clear hb hT hlt)
      | (go_at_call 27; refine (HR.out tb w2 (HM.out.later HB2.out) HT.out).mono ?_; rintro e w3 ⟨bm, rfl, hS, hb⟩; have HB3 := Lib.hid (k_then hb HB2.out); have HP3 := Lib.hid (k_later hb HP2.out); have HT3 := Lib.hid (k_later hb HT.out); obtain ⟨D, hown, hrd⟩ := hS; have hlen : ∀ ty, (Builtin.len_ #[66] ty #[.map (some bm)]).run Tryz.prog w3 = .ok (.int .i64 (s.count : Int)) w3 := fun ty => by { rw [hown.len Tryz.underlying66 ty, hrd.size] }; have HOW := Lib.hid hown; have HRD := Lib.hid hrd; clear hb hown hrd))
      have hpt : tb ≠ w.heap.size := fun e => by
        have h1 := HT3.out
        rw [e] at h1
        exact Whole.apart h1 HP3.out (by decide) rfl
      have hpm : bm ≠ w.heap.size := fun e => by
        obtain ⟨es, clock, hb, _⟩ := HOW.out
        rw [e] at hb
        have h2 : w3.heap[w.heap.size]? = _ := HP3.out
        rw [hb] at h2
        cases h2
      have HPT := Lib.hid hpt
      have HPM := Lib.hid hpm
      clear hpt hpm hlen HN HR HM HX HT HP2 HB2
      go_loopw [34] (fun i V => ∃ k : Nat, k ≤ 16 ∧ i = .int .i64 (k : Int) ∧ Kept (fun j => j = w.heap.size) w3 V ∧ Whole V w.heap.size 23 (partP (fun k => ((s k).getD 0 : Nat)) k).cells) (fun i _ => 16 - (intOf i).toNat)
      case atStart => exact ⟨0, Nat.zero_le _, rfl, Kept.refl _ _, HP3.out⟩
      case round =>
        obtain ⟨k, hk, rfl, hkp, hpl⟩ := hrel
        have HK := Lib.hid hkp
        have HPL := Lib.hid hpl
        by_cases hlt : k < 16
        · have hTw : Whole wr tb 58 tabC := HT3.out.kept hkp HPT.out
          obtain ⟨hc0, hc1, hc2'⟩ := tab_cells hTw hlt
          have hown : wr.ownsMap Tryz.prog 9 (plainElem Tryz.prog 2) bm s.count D := by
            obtain ⟨es, clock, hb, F, h1, h2⟩ := HOW.out
            exact ⟨es, clock, (hkp.block bm (Array.getElem?_eq_some_iff.1 hb).1 HPM.out).trans hb, F, h1, h2⟩
          have HOV := Lib.hid (hown.alloc (.cells #[.string (nameB k), .func (.func (getF k)) #[] #[], .func (.func (setF k)) #[] #[]] 58))
          have hkey : keyOf Tryz.prog 9 (.string (nameB k)) = some (.string (nameL k)) := keyOf_txt (nameL k) (by have := nameL_le k; omega)
          have HKEY := Lib.hid hkey
          have hat : ∀ c : Int, D.atKey (.string (nameL k)) (.lit (.int .i64 0)) = .lit (.int .i64 c) → c = ((s k).getD 0 : Nat) := by
            intro c h
            have h1 := HALL.out k hlt
            cases hs : s k with
            | none => rw [hs] at h1; simp at h1
            | some n =>
              rw [HRD.out.at_ k n hlt hs] at h
              have : (n : Int) = c := by simpa using h
              rw [← this]
              rfl
          have HAT := Lib.hid hat
          have hen := set_enters hlt
          have HSET := Lib.hid (fun v b W h => set_any (partP (fun k => ((s k).getD 0 : Nat)) k) v b W h hlt)
          have HPUT := Lib.hid (fun v => put_cells (partP (fun k => ((s k).getD 0 : Nat)) k) v hlt)
          clear hown hkey hat hTw hkp hpl
          generalize getF k = gk at *
          generalize setF k = sk at *
          generalize nameB k = nk at *
          generalize nameL k = ln at *
          go_wp2_with (first
            | (at_lookup; refine wpList_lookup_own_int _ rfl _ _ 66 rfl 9 2 .i64 key_string Tryz.underlying66 Tryz.underlying2 (Tryz.zeroValue2 _) bm s.count D rfl HOV.out _ (.string ln) rfl HKEY.out ?_; intro c hc _; have HC := Lib.hid (HAT.out c hc); clear hc)
            | (refine (HSET.out c _ _ (HPL.out.alloc _)).mono ?_; clear HSET; rintro e w5 ⟨rfl, rfl⟩))
          go_round
          case rel => exact ⟨k + 1, by omega, by go_num, (HK.out.alloc _).setCell (p := ⟨w.heap.size, k, none⟩) (.inl rfl) _, by
            have h := (HPL.out.alloc (.cells #[.string nk, .func (.func gk) #[] #[], .func (.func sk) #[] #[]] 58)).set k (.int .i64 c)
            rw [HPUT.out, HC.out] at h
            rw [HC.out]
            exact h⟩
          case measure => simp [intOf]; omega
        · obtain rfl : k = 16 := by omega
          have hplan : partP (fun k => ((s k).getD 0 : Nat)) 16 = s.plan := rfl
          rw [hplan] at HPL
          have HQ := Lib.hid (s.plan.cellsL)
          clear hkp hpl
          generalize s.plan.cells = cs at *
          go_wp2_with (first
            | (refine wpList_load_row rfl 23 (.tmp 2) rfl w.heap.size rfl 23 cs (0, 0) _ HPL.out Tryz.underlying23 rfl HQ.out.plan ?_)
            | (refine wpList_store_row rfl 23 (.tmp 2) (.tmp 46) rfl w.heap.size cs rfl rfl 23 cs HPL.out HQ.out.plan rfl HQ.out.one ?_))
          refine bodyPost_ret (v := pv) ?_ rfl ⟨rfl, below_setRow' (HB3.out.trans (Kept.below_from HK.out HB3.out.size (fun i h => Nat.le_of_eq h.symm))) (Nat.le_refl _) _⟩
          rw [HW.out]
          exact results_row2 rfl _ _ _ 23 _ (0, 0) _ rfl rfl rfl (setRow_whole HPL.out) Tryz.underlying23 rfl HQ.out.plan
    · have hc' : ((s.count : Int) != 16) = true := by rw [bne_iff_ne]; omega
      have HW := Lib.hid (show pv = .tuple #[.agg zeroP.cells, .int .i64 0, .int .i64 80] by
        rw [HV.out]
        simp [hc])
      clear HV hc
      go_enter Tryz.func7, Tryz.ntmps7
      go_wp2_with (first
      | (go_at_call 23; refine (HN.out _).mono ?_; rintro e w2 ⟨tb, rfl, hlt, hT, hb⟩; have HT := Lib.hid hT; have HB2 := Lib.hid (k_then hb HB.out); have HP2 := Lib.hid (k_later hb HP.out); have HX := Lib.hid hlt; clear hb hT hlt)
      | (go_at_call 27; refine (HR.out tb w2 (HM.out.later HB2.out) HT.out).mono ?_; rintro e w3 ⟨bm, rfl, hS, hb⟩; have HB3 := Lib.hid (k_then hb HB2.out); have HP3 := Lib.hid (k_later hb HP2.out); have HT3 := Lib.hid (k_later hb HT.out); obtain ⟨D, hown, hrd⟩ := hS; have hlen : ∀ ty, (Builtin.len_ #[66] ty #[.map (some bm)]).run Tryz.prog w3 = .ok (.int .i64 (s.count : Int)) w3 := fun ty => by { rw [hown.len Tryz.underlying66 ty, hrd.size] }; have HOW := Lib.hid hown; have HRD := Lib.hid hrd; clear hb hown hrd)
      | (refine wpList_store_row rfl 23 (.tmp 2) (.tmp 30) rfl w.heap.size zeroP.cells rfl rfl 23 zeroP.cells HP3.out zeroP.cellsL.plan rfl zeroP.cellsL.one ?_))
      refine bodyPost_ret (v := pv) ?_ rfl ⟨rfl, below_setRow' HB3.out (Nat.le_refl _) _⟩
      rw [HW.out]
      exact results_row2 rfl _ _ _ 23 _ (0, 0) _ rfl rfl rfl (setRow_whole HP3.out) Tryz.underlying23 rfl zeroP.cellsL.plan
  · have hnz : ((no : Int) == 0) = false := by rw [beq_eq_false_iff_ne]; omega
    have hnn : ((no : Int) != 0) = true := by simpa using hno
    have HW := Lib.hid (show pv = .tuple #[.agg zeroP.cells, .int .i64 (no : Int), .int .i64 80] by
      rw [HV.out]
      simp [hno])
    clear HV
    go_enter Tryz.func7, Tryz.ntmps7
    go_wp2_with (first
      | (go_at_call 23; refine (HN.out _).mono ?_; rintro e w2 ⟨tb, rfl, hlt, hT, hb⟩; have HT := Lib.hid hT; have HB2 := Lib.hid (k_then hb HB.out); have HP2 := Lib.hid (k_later hb HP.out); clear hb hT)
      | (go_at_call 27; refine (HR.out tb w2 (HM.out.later HB2.out) HT.out).mono ?_; rintro e w3 ⟨bm, rfl, hS, hb⟩; have HB3 := Lib.hid (k_then hb HB2.out); have HP3 := Lib.hid (k_later hb HP2.out); have HS := Lib.hid hS; clear hb hS)
      | (refine wpList_store_row rfl 23 (.tmp 2) (.tmp 30) rfl w.heap.size zeroP.cells rfl rfl 23 zeroP.cells HP3.out zeroP.cellsL.plan rfl zeroP.cellsL.one ?_))
    refine bodyPost_ret (v := pv) ?_ rfl ⟨rfl, below_setRow' HB3.out (Nat.le_refl _) _⟩
    rw [HW.out]
    exact results_row2 rfl _ _ _ 23 _ (0, 0) _ rfl rfl rfl (setRow_whole HP3.out) Tryz.underlying23 rfl zeroP.cellsL.plan
end Go.Proofs.YtdeiohcciafffaaGreatDoor
