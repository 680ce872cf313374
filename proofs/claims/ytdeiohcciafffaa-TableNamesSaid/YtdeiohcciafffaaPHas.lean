/- Whether places are a plan's own; how long a node is silent; what a question tells: by contracts. No condition but bounds. -/
import Derived.Test.YtdeiohcciafffaaPMeth
namespace Go.Proofs.Ytdeiohcciafffaa
open Go.RowKit Go.Shelf

/-- Places, as a row's cells. -/
def spotsC : List (Int × Int) → List Value
  | [] => []
  | p :: r => .int .i64 p.1 :: .int .i64 p.2 :: spotsC r
theorem spotsC_at : ∀ (ps : List (Int × Int)) (k : Nat) (h : k < ps.length), (spotsC ps)[2 * k]? = some (.int .i64 (ps[k]).1) ∧ (spotsC ps)[2 * k + 1]? = some (.int .i64 (ps[k]).2)
  | [], _, h => absurd h (by simp)
  | p :: r, 0, _ => ⟨rfl, rfl⟩
  | p :: r, k + 1, h => by
    have ih := spotsC_at r k (by simpa using h)
    simpa [spotsC, Nat.mul_add] using ih
/-- All of the first k are own ones. -/
def ownP (x : Pl) (ps : List (Int × Int)) (k : Nat) : Bool := okP x && (ps.take k).all fun p => placeP x p.1 p.2
theorem ownP_next {x : Pl} {ps : List (Int × Int)} {k : Nat} (h : k < ps.length) : ownP x ps (k + 1) = (ownP x ps k && placeP x (ps[k]).1 (ps[k]).2) := by
  unfold ownP
  rw [List.take_succ_eq_append_getElem h, List.all_append, Bool.and_assoc]
  simp

section
variable {x : Pl} {g : Nat} {t : TypeId} {w : World}

set_option maxRecDepth 100000 in
set_option maxHeartbeats 4000000 in
theorem has_any (ps : List (Int × Int)) (b c : Nat) (u : TypeId) (hn : ps.length ≤ 1000) (hW : Whole w g t x.cells) (hP : Whole w b u (spotsC ps).toArray) :
    Calls Try.prog 39 #[.pointer (some ⟨g, 0, none⟩), .slice (some ⟨b, 0, none⟩) ps.length c] w fun e w' => e = .returned (.bool (ownP x ps ps.length)) ∧ Below w.heap.size w w' := by
  have HM := Lib.hid (fun W (h : Whole W g t x.cells) => mayBe_any (w := W) h)
  have HN := Lib.hid (fun W s (h : Whole W g t x.cells) => hasNode_any (w := W) s h)
  have HW := Lib.hid hW
  have HP := Lib.hid hP
  have HZ := Lib.hid (show ownP x ps 0 = okP x by simp [ownP])
  clear hW hP
  go_enter Try.func39, Try.ntmps39
  go_wp2_with (go_at_call 36; refine (HM.out _ HW.out).mono ?_; rintro e w1 ⟨rfl, hb1⟩; have HB1 := Lib.hid hb1; clear hb1)
  go_loopw [5, 12] (fun o i V => ∃ k : Nat, k ≤ ps.length ∧ o = .bool (ownP x ps k) ∧ i = .int .i64 (k : Int) ∧ Below w.heap.size w V) (fun _ i _ => ps.length - (intOf i).toNat)
  case atStart => exact ⟨0, Nat.zero_le _, by rw [HZ.out], rfl, HB1.out⟩
  case round =>
    obtain ⟨k, hk, rfl, rfl, hbl⟩ := hrel
    by_cases hlt : k < ps.length
    · obtain ⟨q0, q1⟩ := spotsC_at ps k hlt
      have c0 : wr.cell? ⟨b, k * 2, none⟩ = some (.int .i64 (ps[k]).1) := k_cell hbl ((HP.out.cell _).trans (by simpa [Nat.mul_comm] using q0))
      have c1 : wr.cell? ⟨b, k * 2 + 1, none⟩ = some (.int .i64 (ps[k]).2) := k_cell hbl ((HP.out.cell _).trans (by simpa [Nat.mul_comm] using q1))
      have HO := Lib.hid (ownP_next (x := x) hlt)
      have HWr := Lib.hid (k_later hbl HW.out)
      have HBr := Lib.hid hbl
      clear q0 q1 hbl
      generalize (ps[k]).1 = r at *
      generalize (ps[k]).2 = s at *
      generalize ownP x ps k = o at *
      have HK := Lib.hid (HBr.out.alloc HBr.out.size (.cells #[.int .i64 r, .int .i64 s] 25))
      have HWk := Lib.hid (HWr.out.alloc (.cells #[.int .i64 r, .int .i64 s] 25))
      cases o
      · go_wp2
        go_round
        case rel => exact ⟨k + 1, by omega, by rw [HO.out]; rfl, by go_num, HK.out⟩
        case measure => simp [intOf]; omega
      · by_cases h1 : 0 ≤ r
        · by_cases h2 : r ≤ 2147483647
          · have HR := Lib.hid (show placeP x r s = nodeP x s by simp [placeP, roundP, h1, h2])
            go_wp2_with (go_at_call 51; refine (HN.out _ _ HWk.out).mono ?_; rintro e w2 ⟨rfl, rfl⟩)
            generalize nodeP x s = q at *
            go_wp2
            go_round
            case rel => exact ⟨k + 1, by omega, by rw [HO.out]; rw [HR.out]; rfl, by go_num, HK.out⟩
            case measure => simp [intOf]; omega
          · have HR := Lib.hid (show placeP x r s = false by simp [placeP, roundP, h2])
            have d2 : decide (r ≤ 2147483647) = false := decide_eq_false h2
            go_wp2
            go_round
            case rel => exact ⟨k + 1, by omega, by rw [HO.out]; rw [HR.out]; rfl, by go_num, HK.out⟩
            case measure => simp [intOf]; omega
        · have HR := Lib.hid (show placeP x r s = false by simp [placeP, roundP, h1])
          have d1 : decide (0 ≤ r) = false := decide_eq_false h1
          go_wp2
          go_round
          case rel => exact ⟨k + 1, by omega, by rw [HO.out]; rw [HR.out]; rfl, by go_num, HK.out⟩
          case measure => simp [intOf]; omega
    · obtain rfl : k = ps.length := by omega
      clear hlt
      go_wp2
      go_ret
      exact ⟨rfl, hbl⟩

theorem has1_any (r s : Int) (b c : Nat) (u : TypeId) (hW : Whole w g t x.cells) (hP : Whole w b u #[.int .i64 r, .int .i64 s]) :
    Calls Try.prog 39 #[.pointer (some ⟨g, 0, none⟩), .slice (some ⟨b, 0, none⟩) 1 c] w fun e w' => e = .returned (.bool (hasP x r s)) ∧ Below w.heap.size w w' := by
  have h := has_any [(r, s)] b c u (by simp) hW hP
  simpa [ownP, hasP] using h
theorem has2_any (r s r' s' : Int) (b c : Nat) (u : TypeId) (hW : Whole w g t x.cells) (hP : Whole w b u #[.int .i64 r, .int .i64 s, .int .i64 r', .int .i64 s']) :
    Calls Try.prog 39 #[.pointer (some ⟨g, 0, none⟩), .slice (some ⟨b, 0, none⟩) 2 c] w fun e w' => e = .returned (.bool (hasP x r s && hasP x r' s')) ∧ Below w.heap.size w w' := by
  have h := has_any [(r, s), (r', s')] b c u (by simp) hW hP
  have e : ownP x [(r, s), (r', s')] 2 = (hasP x r s && hasP x r' s') := by
    simp only [ownP, hasP, List.take, List.all_cons, List.all_nil, Bool.and_true]
    cases okP x <;> simp
  simpa [e] using h

/-- What is told, where it may be; else 0, and the error. -/
def tellP (b : Bool) (v : Int) : Int := if b then v else 0
def errP (b : Bool) : Int := if b then 0 else 90

set_option maxRecDepth 100000 in
set_option maxHeartbeats 4000000 in
theorem answer_any (k : FuncId) (r s v : Int) (hen : Enters Try.prog k) (hk : ∀ W, BoundP x → SpotP x r s → Whole W g t x.cells → Calls Try.prog k #[.pointer (some ⟨g, 0, none⟩), spotV r s] W fun e w' => e = .returned (.int .i64 v) ∧ Below W.heap.size W w') (hW : Whole w g t x.cells) :
    Calls Try.prog 32 #[.pointer (some ⟨g, 0, none⟩), .agg #[.int .i64 r, .int .i64 s, .func (.func k) #[.pointer (some ⟨g, 0, none⟩)] #[]]] w fun e w' => e = .returned (.tuple #[.int .i64 (tellP (hasP x r s) v), .int .i64 (errP (hasP x r s))]) ∧ Below w.heap.size w w' := by
  have HE := Lib.hid (fun (args : Array Value) (W : World) => (hen args W : (callFunc k args).run Try.prog W = .ok (.enter k args) W))
  have hB := (Below.refl w.heap.size w).alloc (Nat.le_refl _) (.cells #[.int .i64 r, .int .i64 s, .func (.func k) #[.pointer (some ⟨g, 0, none⟩)] #[]] 57)
  have hQ := Whole.new w 57 #[.int .i64 r, .int .i64 s, .func (.func k) #[.pointer (some ⟨g, 0, none⟩)] #[]]
  have HW := Lib.hid (hW.alloc (.cells #[.int .i64 r, .int .i64 s, .func (.func k) #[.pointer (some ⟨g, 0, none⟩)] #[]] 57))
  have HH := Lib.hid (fun W b c u (h : Whole W g t x.cells) (hP : Whole W b u #[.int .i64 r, .int .i64 s]) => has1_any (w := W) r s b c u h hP)
  have HK := Lib.hid hk
  have HB := Lib.hid hB
  have HQ := Lib.hid hQ
  have q0 := hQ.cell 0
  have q1 := hQ.cell 1
  clear hW hB hQ hk hen
  go_enter Try.func32, Try.ntmps32
  cases hh : hasP x r s
  · go_wp2_with fail
    refine (HH.out _ _ _ 25 (HW.out.alloc _) (by simpa using Whole.new (w.alloc (.cells #[.int .i64 r, .int .i64 s, .func (.func k) #[.pointer (some ⟨g, 0, none⟩)] #[]] 57)) 25 #[.int .i64 r, .int .i64 s])).mono ?_
    rintro e w1 ⟨rfl, hb1⟩
    rw [hh]
    have HB1 := Lib.hid (k_then hb1 (HB.out.alloc HB.out.size _))
    clear hb1
    go_wp2
    refine bodyPost_ret (v := .tuple #[.int .i64 0, .int .i64 90]) (by simp [results, Try.results32, go_sem]) rfl ⟨rfl, HB1.out⟩
  · obtain ⟨B, S⟩ := has_yes hh
    have HC := Lib.hid (fun W => HK.out W B S)
    clear B S
    go_wp2_with fail
    refine (HH.out _ _ _ 25 (HW.out.alloc _) (by simpa using Whole.new (w.alloc (.cells #[.int .i64 r, .int .i64 s, .func (.func k) #[.pointer (some ⟨g, 0, none⟩)] #[]] 57)) 25 #[.int .i64 r, .int .i64 s])).mono ?_
    rintro e w1 ⟨rfl, hb1⟩
    rw [hh]
    have HB1 := Lib.hid (k_then hb1 (HB.out.alloc HB.out.size _))
    have hQ1 := k_later hb1 (HQ.out.alloc _)
    have HW1 := Lib.hid (k_later hb1 (HW.out.alloc _))
    have c0 := hQ1.cell 0
    have c1 := hQ1.cell 1
    have c2 := hQ1.cell 2
    have hcall := HE.out
    clear hb1 hQ1 q0 q1
    go_wp2_with fail
    refine (HC.out _ HW1.out).mono ?_
    rintro e w2 ⟨rfl, hb2⟩
    have HB2 := Lib.hid (k_then hb2 HB1.out)
    go_wp2
    refine bodyPost_ret (v := .tuple #[.int .i64 v, .int .i64 0]) (by simp [results, Try.results32, go_sem]) rfl ⟨rfl, HB2.out⟩

/-- How long a node is silent. -/
def silP (x : Pl) (n : Int) (s : Int) : Int := (n * x.nodes + s) * x.slot
theorem silP_bg (x : Pl) (n s : Int) : silP x n s = bgP x n s := rfl
set_option maxHeartbeats 4000000 in
theorem silent_any (kind n s : Int) (hkn : kind = 1 ∧ n = 3 ∨ kind = 0 ∧ n = 1) (hW : Whole w g t x.cells) :
    Calls Try.prog 43 #[.pointer (some ⟨g, 0, none⟩), .int .i64 kind, .int .i64 s] w fun e w' => e = .returned (.tuple #[.int .i64 (tellP (hasP x n s) (bgP x n s)), .int .i64 (errP (hasP x n s))]) ∧ Below w.heap.size w w' := by
  have HM := Lib.hid (fun W (h : Whole W g t x.cells) => mayBe_any (w := W) h)
  have HN := Lib.hid (fun W s (h : Whole W g t x.cells) => hasNode_any (w := W) s h)
  have HW := Lib.hid hW
  have hn : 1 ≤ n ∧ n ≤ 3 := by omega
  cases hk : okP x
  · have HV := Lib.hid (show hasP x n s = false by simp [hasP, hk])
    rw [hk] at HM
    clear hW hk
    rw [HV.out]
    go_enter Try.func43, Try.ntmps43
    go_wp2_with (first
      | (go_at_call 36; refine (HM.out _ HW.out).mono ?_; rintro e w1 ⟨rfl, hb1⟩))
    refine bodyPost_ret (v := .tuple #[.int .i64 0, .int .i64 90]) (by simp [results, Try.results43, go_sem]) rfl ⟨rfl, hb1⟩
  · cases hs : nodeP x s
    · have HV := Lib.hid (show hasP x n s = false by simp [hasP, placeP, hs])
      rw [hk] at HM
      have HN2 := Lib.hid (fun W h => HN.out W s h)
      rw [hs] at HN2
      clear hW hk hs
      rw [HV.out]
      go_enter Try.func43, Try.ntmps43
      go_wp2_with (first
        | (go_at_call 36; refine (HM.out _ HW.out).mono ?_; rintro e w1 ⟨rfl, hb1⟩; have HW1 := Lib.hid (k_later hb1 HW.out))
        | (go_at_call 51; refine (HN2.out _ HW1.out).mono ?_; rintro e w2 ⟨rfl, rfl⟩))
      refine bodyPost_ret (v := .tuple #[.int .i64 0, .int .i64 90]) (by simp [results, Try.results43, go_sem]) rfl ⟨rfl, hb1⟩
    · obtain ⟨s1, s2⟩ := node_yes hs
      have HV := Lib.hid (has_mk hk (by omega : 0 ≤ n) (by omega) s1 s2)
      have B := bound_of hk
      obtain ⟨_, _, _, _, a1, a2, b1, b2⟩ := spot_mk B (by omega : 0 ≤ n) (by omega) s1 s2
      have n2 := B.n2
      rw [hk] at HM
      have HN2 := Lib.hid (fun W h => HN.out W s h)
      rw [hs] at HN2
      rw [HV.out]
      have HG := Lib.hid (show bgP x n s = ahP x n s * x.slot from rfl)
      unfold ahP at b1 b2 HG
      clear hk hs B hW
      rcases hkn with ⟨rfl, rfl⟩ | ⟨rfl, rfl⟩
      all_goals
        generalize hm : _ * x.nodes = m at *
        generalize hq : (m + s) * x.slot = q at *
        go_enter Try.func43, Try.ntmps43
        go_wp2_with (first
          | (go_at_call 36; refine (HM.out _ HW.out).mono ?_; rintro e w1 ⟨rfl, hb1⟩; have HW1 := Lib.hid (k_later hb1 HW.out))
          | (go_at_call 51; refine (HN2.out _ HW1.out).mono ?_; rintro e w2 ⟨rfl, rfl⟩))
        obtain ⟨⟨c0, _, c2, _⟩, _⟩ := l_cells HW1.out
        go_quiet (fail)
        go_wp2
        refine bodyPost_ret (v := .tuple #[.int .i64 q, .int .i64 0]) (by simp [results, Try.results43, go_sem]) rfl ⟨by rw [HG.out]; rfl, below_drewN hb1 _⟩

end
end Go.Proofs.Ytdeiohcciafffaa
