/- The sendings that came from a first time to a last one, told one by one. No condition. -/
import Derived.Test.YtmplidgafdobkaaUWithin
namespace Go.Proofs.Ytmplidgafdobkaa
open Go.RowKit Go.Shelf
attribute [local go_sem] Oper.semAt_some

theorem first_of (p : Nat → Bool) (n : Nat) : ∃ r, FirstOf p n r := by
  induction n with
  | zero => exact ⟨0, Nat.le_refl _, fun j h => absurd h (by omega), fun h => absurd h (by omega)⟩
  | succ n ih =>
    obtain ⟨r, h⟩ := ih
    rcases Nat.lt_or_ge r n with hr | hr
    · exact ⟨r, Nat.le_succ_of_le h.le, h.no, fun _ => h.yes hr⟩
    · obtain rfl : r = n := Nat.le_antisymm h.le hr
      cases hp : p r
      · refine ⟨r + 1, Nat.le_refl _, fun j hj => ?_, fun h => absurd h (by omega)⟩
        rcases Nat.lt_or_ge j r with g | g
        · exact h.no j g
        · obtain rfl : j = r := by omega
          exact hp
      · exact ⟨r, Nat.le_succ _, h.no, fun _ => hp⟩
theorem FirstOf.same {p : Nat → Bool} {n r s : Nat} (h : FirstOf p n r) (k : FirstOf p n s) : r = s := by
  rcases Nat.lt_trichotomy r s with g | g | g
  · have := k.no r g
    rw [h.yes (by have := k.le; omega)] at this
    cases this
  · exact g
  · have := h.no s g
    rw [k.yes (by have := h.le; omega)] at this
    cases this
/-- The times, by number. -/
def tmA (As : List SdA) (i : Nat) : Int := (As.getD i default).s.t
/-- The sendings from number lo on, M of them, are those that came from first to last. -/
structure WinU (As : List SdA) (first last : Int) (lo M : Nat) : Prop where
  le : lo + M ≤ As.length
  fst : FirstOf (fun i => decide (first ≤ tmA As i)) As.length lo
  no : ∀ j, j < M → tmA As (lo + j) ≤ last
  yes : lo + M < As.length → last < tmA As (lo + M)
theorem winU_of (As : List SdA) (first last : Int) : ∃ lo M, WinU As first last lo M := by
  obtain ⟨lo, h⟩ := first_of (fun i => decide (first ≤ tmA As i)) As.length
  obtain ⟨M, k⟩ := first_of (fun j => decide (last < tmA As (lo + j))) (As.length - lo)
  refine ⟨lo, M, by have := h.le; have := k.le; omega, h, fun j hj => ?_, fun hM => ?_⟩
  · have := k.no j hj
    simp at this
    exact this
  · have := k.yes (by omega)
    simpa using this
theorem times_up {w : World} {S : Nat → Prop} {b l : Nat} {v : Value} {As : List SdA} {g : Lg} (h : BusAt w S b l v As g) (hg : OkG g) (i j : Nat) (hij : i ≤ j) (hj : j < As.length) : tmA As i ≤ tmA As j := by
  unfold tmA
  rw [(sd_get h i (by omega)).2.1, (sd_get h j hj).2.1]
  have hl : As.length = g.L.length := by rw [← h.sds, List.length_map]
  rcases Nat.lt_or_ge i j with hlt | hge
  · have := List.pairwise_iff_getElem.1 hg.order i j (by omega) (by omega) hlt
    rw [List.getD_eq_getElem?_getD, List.getD_eq_getElem?_getD, List.getElem?_eq_getElem (by omega), List.getElem?_eq_getElem (by omega)]
    exact this
  · obtain rfl : i = j := by omega
    exact Int.le_refl _

/-- What a round is handed: where the sending lies. -/
abbrev encW (gb lo k : Nat) : Array Value := #[.pointer (some ⟨gb, (lo + (k - 1)) * 5, none⟩)]

set_option maxRecDepth 100000 in
set_option maxHeartbeats 4000000 in
theorem winRounds_any (m : Nat) (hm : 1 ≤ m) (B3 B4 B5 gb lo M : Nat) (first last : Int) (S : Nat → Prop) (b l : Nat) (A : Option Addr) (c : Nat) (As : List SdA) (g : Lg) (hg : OkG g) (hn : As.length ≤ 1000000) (hA : 0 < As.length → A = some ⟨gb, 0, none⟩) (hw : WinU As first last lo M) (w : World) :
    Rounds8 m Try.prog 51 #[.pointer (some ⟨B3, 0, none⟩), .pointer (some ⟨B4, 0, none⟩), .pointer (some ⟨B5, 0, none⟩)] (encW gb lo) M (fun W => WinAt W B3 B4 B5 first last S b l A c As g) w := fun lp J Jx W _ hJ hKp hY h0 => by
  have hmf : ∀ (fn : Fn) (first cap : Array Value) (w : World), (Instr.makeFunc fn first cap).run Try.prog w = .ok (.func fn first cap) w := fun _ _ _ _ => rfl
  have hW0 := hKp 0 W h0
  obtain ⟨_, ⟨c16, _, _⟩, _⟩ := log_cells hW0.bus.log
  have c3 := hW0.v3
  have hasks : Asks Try.prog W 52 #[.pointer (some ⟨B3, 0, none⟩), .pointer (some ⟨B4, 0, none⟩)] (fun i => decide (first ≤ tmA As i)) As.length := fun V hV i hi => came_any (hW0.later hV) i hi
  have hse := search_any W As.length 52 #[.pointer (some ⟨B3, 0, none⟩), .pointer (some ⟨B4, 0, none⟩)] (fun i => decide (first ≤ tmA As i)) hn (enters_of Try.func52 (by kernel_rfl) rfl) hasks (fun i j hij hj hi => by
    have := times_up hW0.bus hg i j hij hj
    have h1 : first ≤ tmA As i := of_decide_eq_true hi
    exact decide_eq_true (by omega))
  have HSE := Lib.hid hse
  have HJ := Lib.hid hJ
  have HY := Lib.hid hY
  have HKP := Lib.hid hKp
  have HW := Lib.hid hw
  have H0 := Lib.hid h0
  have HA := Lib.hid hA
  have hle := hw.le
  clear hse hasks hJ hY hKp hw h0 hW0 hA
  refine callsIn_of_wp Try.func51 rfl trivial ?_ rfl
  simp only [Try.ntmps51, List.size_toArray, List.length_cons, List.length_nil, Nat.reduceAdd, Nat.reduceSub, Array.replicate_succ, Array.replicate_zero, List.push_toArray, List.append_toArray, List.nil_append, List.cons_append]
  gi_wp2_with (refine ⟨trivial, ?_⟩; gi_at_call 54; refine (callsIn_wide.2 HSE.out).mono ?_; rintro e W1 ⟨r, rfl, hr, hb1⟩; obtain rfl : r = lo := hr.same HW.out.fst; have H1 := Lib.hid (HJ.out _ _ _ hb1 H0.out); clear hr hb1)
  clear c3 c16
  gi_loopw [7] (fun i wr => ∃ k : Nat, k ≤ M ∧ i = .int .i64 (((r + k : Nat) : Nat) : Int) ∧ J k wr) (fun i _ => r + M + 1 - (intOf i).toNat)
  case atStart => exact ⟨0, Nat.zero_le _, rfl, H1.out⟩
  case round =>
    obtain ⟨k, hk, rfl, hJk⟩ := hrel
    clear H1
    have hfa := falls_any (HKP.out k wr hJk) (r + k)
    by_cases hlt : k < M
    · have hno := HW.out.no k hlt
      unfold tmA at hno
      rw [decide_eq_true (show r + k < As.length by omega), decide_eq_true hno, Bool.and_true] at hfa
      have hgb := HA.out (by omega)
      subst hgb
      obtain ⟨x, hx⟩ : ∃ x, x = r + k := ⟨_, rfl⟩
      rw [← hx] at hfa ⊢
      have HX := Lib.hid hx
      have HFA := Lib.hid hfa
      have HJK := Lib.hid hJk
      have hxl : x < As.length := by omega
      have e1 : (0 : Int) ≤ (x : Int) := by omega
      have e2 : (x : Int) < (As.length : Int) := by omega
      have HMX := Lib.hid (show x < r + M from by omega)
      clear hno hfa hJk hx
      gi_wp2_with (refine ⟨trivial, ?_⟩; gi_at_call 53; refine (callsIn_wide.2 HFA.out).mono ?_; rintro e W2 ⟨rfl, hb2⟩; have HJ2 := Lib.hid (HJ.out _ _ _ hb2 HJK.out); have c3 := (HKP.out _ _ HJ2.out).v3; have c16 := (log_cells (HKP.out _ _ HJ2.out).bus.log).2.1.1; have hy := HY.out k W2 hlt HJ2.out; rw [show encW gb r (k + 1) = #[.pointer (some ⟨gb, x * 5, none⟩)] from (by unfold encW; rw [HX.out]; rfl)] at hy; obtain ⟨fn, tmps, assign, body, hy1, hR⟩ := hy; have HR := Lib.hid hR; clear hb2 hR)
      refine HR.out.mono ?_
      rintro e W3 (⟨rfl, hJ3, _⟩ | ⟨rfl, hJx⟩)
      · have HJ3 := Lib.hid hJ3
        have HK := Lib.hid (show (x : Int) + 1 = ((r + (k + 1) : Nat) : Int) from by have := HX.out; omega)
        have HXK := Lib.hid (show r + M + 1 - (r + (k + 1)) < r + M + 1 - x from by have := HX.out; omega)
        clear hJ3 c3 c16 hy1 HR
        gi_wp2
        go_roundw
        case rel => exact ⟨k + 1, by omega, by rw [← HK.out], HJ3.out⟩
        case measure => simp [intOf]; have := HX.out; omega
      · have HJX := Lib.hid hJx
        clear hJx c3 c16 hy1 HR
        gi_wp2
        refine bodyPost_ret (results_none rfl _ _ _) rfl ?_
        exact ⟨⟨_, rfl⟩, .inr ⟨k + 1, by omega, by omega, HJX.out⟩⟩
    · obtain rfl : k = M := by omega
      have hq : (decide (r + k < As.length) && decide ((As.getD (r + k) default).s.t ≤ last)) = false := by
        rcases Nat.lt_or_ge (r + k) As.length with h | h
        · have := HW.out.yes h
          unfold tmA at this
          rw [decide_eq_false (show ¬ ((As.getD (r + k) default).s.t ≤ last) by omega), Bool.and_false]
        · rw [decide_eq_false (by omega), Bool.false_and]
      rw [hq] at hfa
      have HFA := Lib.hid hfa
      have HJK := Lib.hid hJk
      clear hfa hq hJk
      gi_wp2_with (refine ⟨trivial, ?_⟩; gi_at_call 53; refine (callsIn_wide.2 HFA.out).mono ?_; rintro e W2 ⟨rfl, hb2⟩; have HJ2 := Lib.hid (HJ.out _ _ _ hb2 HJK.out); clear hb2)
      go_end0
      exact ⟨⟨_, rfl⟩, .inl HJ2.out⟩
end Go.Proofs.Ytmplidgafdobkaa
