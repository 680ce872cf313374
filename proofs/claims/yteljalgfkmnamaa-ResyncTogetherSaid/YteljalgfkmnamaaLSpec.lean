/- The least plan: what it is, and how raising what is too low comes to it. No condition. -/
import Derived.Test.YteljalgfkmnamaaLWith
namespace Go.Proofs.Yteljalgfkmnamaa
open Go.RowKit Go.Shelf

/-- How long a slot has to be, by the least of all that goes with its length. -/
def needL (x : Pl) (l : Int) : Int := lSlot (withL x l)
/-- Wishes with which something may be. -/
def BaseL (x : Pl) : Prop := (holdL x 1 ∧ holdL x 2) ∧ (4 ≤ x.rho ∧ x.rho ≤ 1048576)
/-- L is the least length of a slot with which a plan may be, for these wishes. -/
def FitOk (x : Pl) (L : Int) : Prop :=
  (1 ≤ L ∧ L ≤ 1048576) ∧ needL x L ≤ L ∧ (∀ l, 1 ≤ l → l ≤ 1048576 → needL x l ≤ l → L ≤ l) ∧ (∀ j, 1 ≤ j → j ≤ 11 → holdL (withL x L) j) ∧ BaseL x ∧ holdL x 9
theorem FitOk.same {x : Pl} {L M : Int} (h : FitOk x L) (k : FitOk x M) : L = M := by
  obtain ⟨⟨a, b⟩, c, d, _⟩ := h
  obtain ⟨⟨a', b'⟩, c', d', _⟩ := k
  have := d M a' b' c'
  have := d' L a b c
  omega
open Classical in
noncomputable def fitE (x : Pl) : Int := if ∃ L, FitOk x L then 0 else 71
open Classical in
noncomputable def fitP (x : Pl) : Pl := if h : ∃ L, FitOk x L then withL x (Classical.choose h) else zeroL
theorem fit_yes {x : Pl} {L : Int} (h : FitOk x L) : fitP x = withL x L ∧ fitE x = 0 := by
  have he : ∃ L, FitOk x L := ⟨L, h⟩
  refine ⟨?_, if_pos he⟩
  unfold fitP
  rw [dif_pos he, (Classical.choose_spec he).same h]
theorem fit_no {x : Pl} (h : ¬ ∃ L, FitOk x L) : fitP x = zeroL ∧ fitE x = 71 := ⟨dif_neg h, if_neg h⟩

section
variable {x : Pl} {l m : Int}
theorem base_tick (hB : BaseL x) (h0 : 0 ≤ l) (h1 : l ≤ 1048576) : TickL (wishL x l) := tick_of (x := wishL x l) hB.1.1 hB.1.2 h0 h1 hB.2.1 hB.2.2
/-- What goes with a greater length is no less. -/
structure MonoL (x : Pl) (l m : Int) : Prop where
  r : rdL (wishL x l) ≤ rdL (wishL x m)
  g : gL (wishL x l) ≤ gL (wishL x m)
  a : aL (wishL x l) ≤ aL (wishL x m)
  d : 0 ≤ frL x → (frL x + 3) * rdL (wishL x l) ≤ (frL x + 3) * rdL (wishL x m)
theorem mono (hB : BaseL x) (h : l ≤ m) : MonoL x l m := by
  obtain ⟨⟨⟨⟨n1, _⟩, _⟩, _⟩, r1, _⟩ := hB
  have r : rdL (wishL x l) ≤ rdL (wishL x m) := Int.mul_le_mul_of_nonneg_left (c := x.nodes) h (by omega)
  have q : 2 * rdL (wishL x l) / x.rho ≤ 2 * rdL (wishL x m) / x.rho := Int.ediv_le_ediv (by omega) (by omega)
  have g : gL (wishL x l) ≤ gL (wishL x m) := by
    have e1 : gL (wishL x l) = 2 * (2 * rdL (wishL x l) / x.rho + 4) := rfl
    have e2 : gL (wishL x m) = 2 * (2 * rdL (wishL x m) / x.rho + 4) := rfl
    omega
  have a : aL (wishL x l) ≤ aL (wishL x m) := by
    have e1 : aL (wishL x l) = 2 * (eL x + gL (wishL x l)) := rfl
    have e2 : aL (wishL x m) = 2 * (eL x + gL (wishL x m)) := rfl
    omega
  exact ⟨r, g, a, fun h0 => Int.mul_le_mul_of_nonneg_left r (by omega)⟩
theorem lPi_w (x : Pl) (l : Int) : lPi (wishL x l) = 2 * (aL (wishL x l) + gL (wishL x l)) + eL x := rfl
theorem lCap_w (x : Pl) (l : Int) : lCap (wishL x l) = aL (wishL x l) + 2 * gL (wishL x l) + 2 * eL x := rfl
theorem need_w (x : Pl) (l : Int) : needL x l = (lPi (wishL x l) + eL x + lCap (wishL x l) + lPi (wishL x l)) + (lPi (wishL x l) + eL x) + 2 * (x.dmax + x.air) + lCap (wishL x l) + lPi (wishL x l) + 8 := rfl
theorem need_mono (hB : BaseL x) (h : l ≤ m) : needL x l ≤ needL x m := by
  obtain ⟨_, g, a, _⟩ := mono hB h
  rw [need_w, need_w, lPi_w, lPi_w, lCap_w, lCap_w]
  omega
end

/-- A draft on its way: the wishes, and seven numbers. -/
def yL (x : Pl) (s so wi pi ca de ho : Int) : Pl := ⟨x.nodes, x.kk, s, so, wi, x.air, x.dmin, x.dmax, x.rho, pi, ca, de, x.queue, x.burst, x.payload, ho⟩

/-- No number is above what it is in the least plan; none is far from it. -/
structure InvL (x : Pl) (s so wi pi ca de ho : Int) : Prop where
  s1 : 1 ≤ s
  s2 : s ≤ 10000000000
  a1 : 0 ≤ so
  a2 : so ≤ 10000000000
  b1 : 0 ≤ wi
  b2 : wi ≤ 10000000000
  c1 : 0 ≤ pi
  c2 : pi ≤ 10000000000
  d1 : 0 ≤ ca
  d2 : ca ≤ 10000000000
  e1 : 0 ≤ de
  e2 : de ≤ 10000000000
  f1 : 0 ≤ ho
  f2 : ho ≤ 10000000000
  low : ∀ l, 1 ≤ l → l ≤ 1048576 → needL x l ≤ l → s ≤ l
  upPi : pi ≤ lPi (wishL x s)
  upWi : wi ≤ lPi (wishL x s) + eL x
  upCa : ca ≤ lCap (wishL x s)
  upSo : so ≤ lPi (wishL x s) + eL x + lCap (wishL x s) + lPi (wishL x s)
  upDe : holdL x 9 → de ≤ (frL x + 3) * rdL (wishL x s) + 2 * lPi (wishL x s)
  upHo : ho ≤ 40 * rdL (wishL x s)

/-- What mend makes of a draft, and whether that was anything. -/
def mendP (y : Pl) (r : Nat) : Pl :=
  if r = 4 then { y with pi := max y.pi (lPi y) } else if r = 5 then { y with window := max y.window (lWin y) } else if r = 6 then { y with cap := max y.cap (lCap y) }
  else if r = 7 then { y with sendOff := max y.sendOff (lSend y) } else if r = 8 then { y with slot := max y.slot (lSlot y) } else if r = 10 then { y with delta := max y.delta (lDel y) }
  else if r = 11 then { y with horizon := max y.horizon (lHor y) } else y
def mendB (y : Pl) (r : Nat) : Bool :=
  if r = 4 then decide (y.pi < lPi y) else if r = 5 then decide (y.window < lWin y) else if r = 6 then decide (y.cap < lCap y)
  else if r = 7 then decide (y.sendOff < lSend y) else if r = 8 then decide (y.slot < lSlot y) else if r = 10 then decide (y.delta < lDel y)
  else if r = 11 then decide (y.horizon < lHor y) else false
/-- How much there is of a draft. -/
def sumL (y : Pl) : Int := y.slot + y.sendOff + y.window + y.pi + y.cap + y.delta + y.horizon

/-- A draft in the midst: it has the wishes. -/
def MidL (x y : Pl) : Prop := ∃ s so wi pi ca de ho, y = yL x s so wi pi ca de ho ∧ InvL x s so wi pi ca de ho
theorem MidL.sum {x y : Pl} (h : MidL x y) : 0 ≤ sumL y ∧ sumL y ≤ 70000000000 := by
  obtain ⟨s, so, wi, pi, ca, de, ho, rfl, i⟩ := h
  have e : sumL (yL x s so wi pi ca de ho) = s + so + wi + pi + ca + de + ho := rfl
  obtain ⟨s1, s2, a1, a2, b1, b2, c1, c2, d1, d2, e1, e2, f1, f2, _⟩ := i
  omega

section
variable {x : Pl} {s so wi pi ca de ho : Int}
theorem fit_pi (hB : BaseL x) (i : InvL x s so wi pi ca de ho) {L : Int} (h : FitOk x L) : lPi (wishL x s) ≤ 1048576 ∧ lPi (wishL x s) + eL x ≤ 1048576 ∧ lCap (wishL x s) ≤ 1048576 ∧ lPi (wishL x s) + eL x + lCap (wishL x s) + lPi (wishL x s) ≤ 1048576 ∧ s ≤ L ∧ L ≤ 1048576 := by
  obtain ⟨⟨a, b⟩, c, d, e, _⟩ := h
  have hs := i.low L a b c
  obtain ⟨_, g, a', _⟩ := mono hB hs
  have h4 : lPi (wishL x L) ≤ 1048576 := (e 4 (by omega) (by omega)).2
  have h5 : lPi (wishL x L) + eL x ≤ 1048576 := (e 5 (by omega) (by omega)).2
  have h6 : lCap (wishL x L) ≤ 1048576 := (e 6 (by omega) (by omega)).2
  have h7 : lPi (wishL x L) + eL x + lCap (wishL x L) + lPi (wishL x L) ≤ 1048576 := (e 7 (by omega) (by omega)).2
  have := lPi_w x s
  have := lPi_w x L
  have := lCap_w x s
  have := lCap_w x L
  omega

/-- All conditions hold: the draft is the least plan. -/
theorem mid_done (hB : BaseL x) (i : InvL x s so wi pi ca de ho) (h : ∀ j, 1 ≤ j → j ≤ 11 → holdL (yL x s so wi pi ca de ho) j) : FitOk x s ∧ yL x s so wi pi ca de ho = withL x s := by
  have h3 : (1 ≤ s ∧ s ≤ 1048576) ∧ (4 ≤ x.rho ∧ x.rho ≤ 1048576) := h 3 (by omega) (by omega)
  have h4 : lPi (wishL x s) ≤ pi ∧ pi ≤ 1048576 := h 4 (by omega) (by omega)
  have h5 : pi + eL x ≤ wi ∧ wi ≤ 1048576 := h 5 (by omega) (by omega)
  have h6 : lCap (wishL x s) ≤ ca ∧ ca ≤ 1048576 := h 6 (by omega) (by omega)
  have h7 : wi + ca + pi ≤ so ∧ so ≤ 1048576 := h 7 (by omega) (by omega)
  have h8 : so + wi + 2 * (x.dmax + x.air) + ca + pi + 8 ≤ s := h 8 (by omega) (by omega)
  have h9 : holdL x 9 := h 9 (by omega) (by omega)
  have h10 : (frL x + 3) * rdL (wishL x s) + 2 * pi ≤ de ∧ de ≤ 64 * rdL (wishL x s) := h 10 (by omega) (by omega)
  have h11 : 40 * rdL (wishL x s) ≤ ho ∧ ho ≤ 2147483648 := h 11 (by omega) (by omega)
  obtain ⟨s1, s2, a1, a2, b1, b2, c1, c2, d1, d2, e1, e2, f1, f2, low, u1, u2, u3, u4, u5, u6⟩ := i
  have u5' := u5 h9
  obtain rfl : pi = lPi (wishL x s) := by omega
  obtain rfl : wi = lPi (wishL x s) + eL x := by omega
  obtain rfl : ca = lCap (wishL x s) := by omega
  obtain rfl : so = lPi (wishL x s) + eL x + lCap (wishL x s) + lPi (wishL x s) := by omega
  obtain rfl : de = (frL x + 3) * rdL (wishL x s) + 2 * lPi (wishL x s) := by omega
  obtain rfl : ho = 40 * rdL (wishL x s) := by omega
  have e : yL x s (lPi (wishL x s) + eL x + lCap (wishL x s) + lPi (wishL x s)) (lPi (wishL x s) + eL x) (lPi (wishL x s)) (lCap (wishL x s)) ((frL x + 3) * rdL (wishL x s) + 2 * lPi (wishL x s)) (40 * rdL (wishL x s)) = withL x s := rfl
  rw [e] at h
  exact ⟨⟨h3.1, by rw [need_w]; omega, low, h, hB, h9⟩, e⟩

/-- The first condition that does not hold, mended: nearer; if nothing could be mended, there is no least plan. -/
theorem mid_step (hB : BaseL x) (i : InvL x s so wi pi ca de ho) {r : Nat} (h1 : 1 ≤ r) (h2 : r ≤ 11) (hn : ¬ holdL (yL x s so wi pi ca de ho) r) (hp : ∀ j, 1 ≤ j → j < r → holdL (yL x s so wi pi ca de ho) j) :
    (mendB (yL x s so wi pi ca de ho) r = true → MidL x (mendP (yL x s so wi pi ca de ho) r) ∧ sumL (yL x s so wi pi ca de ho) < sumL (mendP (yL x s so wi pi ca de ho) r)) ∧
    (mendB (yL x s so wi pi ca de ho) r = false → ¬ ∃ L, FitOk x L) := by
  have i' := i
  obtain ⟨s1, s2, a1, a2, b1, b2, c1, c2, d1, d2, e1, e2, f1, f2, low, u1, u2, u3, u4, u5, u6⟩ := i
  have no : (∀ L, FitOk x L → False) → ¬ ∃ L, FitOk x L := fun h k => k.elim h
  have hs : 3 < r → s ≤ 1048576 := fun h => (hp 3 (by omega) h).1.2
  have T : 3 < r → TickL (wishL x s) := fun h => base_tick hB (by omega) (hs h)
  have hP : 4 < r → pi = lPi (wishL x s) ∧ pi ≤ 1048576 := fun h => by
    have k : lPi (wishL x s) ≤ pi ∧ pi ≤ 1048576 := hp 4 (by omega) h
    omega
  have hW : 5 < r → wi = lPi (wishL x s) + eL x ∧ wi ≤ 1048576 := fun h => by
    have k : pi + eL x ≤ wi ∧ wi ≤ 1048576 := hp 5 (by omega) h
    have := hP (by omega)
    omega
  have hC : 6 < r → ca = lCap (wishL x s) ∧ ca ≤ 1048576 := fun h => by
    have k : lCap (wishL x s) ≤ ca ∧ ca ≤ 1048576 := hp 6 (by omega) h
    omega
  have hS : 7 < r → so = lPi (wishL x s) + eL x + lCap (wishL x s) + lPi (wishL x s) ∧ so ≤ 1048576 := fun h => by
    have k : wi + ca + pi ≤ so ∧ so ≤ 1048576 := hp 7 (by omega) h
    have := hP (by omega)
    have := hW (by omega)
    have := hC (by omega)
    omega
  have eB : 3 < r → 6 ≤ eL x ∧ eL x ≤ 1048582 ∧ 8 ≤ gL (wishL x s) ∧ gL (wishL x s) ≤ 16777224 ∧ 28 ≤ aL (wishL x s) ∧ aL (wishL x s) ≤ 35651612 := fun h => num_bounds (T h)
  have hw1 := lPi_w x s
  have hw2 := lCap_w x s
  have : r = 1 ∨ r = 2 ∨ r = 3 ∨ r = 4 ∨ r = 5 ∨ r = 6 ∨ r = 7 ∨ r = 8 ∨ r = 9 ∨ r = 10 ∨ r = 11 := by omega
  rcases this with rfl | rfl | rfl | rfl | rfl | rfl | rfl | rfl | rfl | rfl | rfl
  · exact absurd hB.1.1 hn
  · exact absurd hB.1.2 hn
  · refine ⟨(fun h => by cases h), fun _ => no fun L k => ?_⟩
    have := fit_pi hB i' k
    exact hn ⟨⟨s1, by show s ≤ _; omega⟩, hB.2⟩
  · have hn' : ¬ (lPi (wishL x s) ≤ pi ∧ pi ≤ 1048576) := hn
    have := eB (by omega)
    refine ⟨fun h => ?_, fun h => no fun L k => ?_⟩
    · have hl : pi < lPi (wishL x s) := of_decide_eq_true h
      have em : max pi (lPi (wishL x s)) = lPi (wishL x s) := by omega
      refine ⟨⟨s, so, wi, max pi (lPi (wishL x s)), ca, de, ho, rfl, ?_⟩, ?_⟩
      · rw [em]
        exact ⟨s1, s2, a1, a2, b1, b2, by omega, by omega, d1, d2, e1, e2, f1, f2, low, Int.le_refl _, u2, u3, u4, u5, u6⟩
      · show s + so + wi + pi + ca + de + ho < s + so + wi + max pi (lPi (wishL x s)) + ca + de + ho
        omega
    · have hl : ¬ pi < lPi (wishL x s) := of_decide_eq_false h
      have := fit_pi hB i' k
      omega
  · have hn' : ¬ (pi + eL x ≤ wi ∧ wi ≤ 1048576) := hn
    have := eB (by omega)
    have := hP (by omega)
    refine ⟨fun h => ?_, fun h => no fun L k => ?_⟩
    · have hl : wi < pi + eL x := of_decide_eq_true h
      have em : max wi (pi + eL x) = pi + eL x := by omega
      refine ⟨⟨s, so, max wi (pi + eL x), pi, ca, de, ho, rfl, ?_⟩, ?_⟩
      · rw [em]
        exact ⟨s1, s2, a1, a2, by omega, by omega, c1, c2, d1, d2, e1, e2, f1, f2, low, u1, by omega, u3, u4, u5, u6⟩
      · show s + so + wi + pi + ca + de + ho < s + so + max wi (pi + eL x) + pi + ca + de + ho
        omega
    · have hl : ¬ wi < pi + eL x := of_decide_eq_false h
      have := fit_pi hB i' k
      omega
  · have hn' : ¬ (lCap (wishL x s) ≤ ca ∧ ca ≤ 1048576) := hn
    have := eB (by omega)
    refine ⟨fun h => ?_, fun h => no fun L k => ?_⟩
    · have hl : ca < lCap (wishL x s) := of_decide_eq_true h
      have em : max ca (lCap (wishL x s)) = lCap (wishL x s) := by omega
      refine ⟨⟨s, so, wi, pi, max ca (lCap (wishL x s)), de, ho, rfl, ?_⟩, ?_⟩
      · rw [em]
        exact ⟨s1, s2, a1, a2, b1, b2, c1, c2, by omega, by omega, e1, e2, f1, f2, low, u1, u2, Int.le_refl _, u4, u5, u6⟩
      · show s + so + wi + pi + ca + de + ho < s + so + wi + pi + max ca (lCap (wishL x s)) + de + ho
        omega
    · have hl : ¬ ca < lCap (wishL x s) := of_decide_eq_false h
      have := fit_pi hB i' k
      omega
  · have hn' : ¬ (wi + ca + pi ≤ so ∧ so ≤ 1048576) := hn
    have := eB (by omega)
    have := hP (by omega)
    have := hW (by omega)
    have := hC (by omega)
    refine ⟨fun h => ?_, fun h => no fun L k => ?_⟩
    · have hl : so < wi + ca + pi := of_decide_eq_true h
      have em : max so (wi + ca + pi) = wi + ca + pi := by omega
      refine ⟨⟨s, max so (wi + ca + pi), wi, pi, ca, de, ho, rfl, ?_⟩, ?_⟩
      · rw [em]
        exact ⟨s1, s2, by omega, by omega, b1, b2, c1, c2, d1, d2, e1, e2, f1, f2, low, u1, u2, u3, by omega, u5, u6⟩
      · show s + so + wi + pi + ca + de + ho < s + max so (wi + ca + pi) + wi + pi + ca + de + ho
        omega
    · have hl : ¬ so < wi + ca + pi := of_decide_eq_false h
      have := fit_pi hB i' k
      omega
  · have hn' : ¬ (so + wi + 2 * (x.dmax + x.air) + ca + pi + 8 ≤ s) := hn
    have := eB (by omega)
    have := hP (by omega)
    have := hW (by omega)
    have := hC (by omega)
    have := hS (by omega)
    have hB' := hB
    obtain ⟨⟨_, ⟨q1, q2⟩, q3, q4, q5⟩, _⟩ := hB'
    have eN : so + wi + 2 * (x.dmax + x.air) + ca + pi + 8 = needL x s := by rw [need_w]; omega
    refine ⟨fun h => ?_, fun h => ?_⟩
    · have hl : s < so + wi + 2 * (x.dmax + x.air) + ca + pi + 8 := of_decide_eq_true h
      have em : max s (so + wi + 2 * (x.dmax + x.air) + ca + pi + 8) = needL x s := by omega
      refine ⟨⟨max s (so + wi + 2 * (x.dmax + x.air) + ca + pi + 8), so, wi, pi, ca, de, ho, rfl, ?_⟩, ?_⟩
      · rw [em]
        obtain ⟨m1, m2, m3, m4⟩ := mono hB (show s ≤ needL x s by omega)
        have := lPi_w x (needL x s)
        have := lCap_w x (needL x s)
        exact ⟨by omega, by omega, a1, a2, b1, b2, c1, c2, d1, d2, e1, e2, f1, f2, fun l k1 k2 k3 => Int.le_trans (need_mono hB (low l k1 k2 k3)) k3, by omega, by omega, by omega, by omega,
          fun h9 => by have := u5 h9; have := m4 (frac_bounds h9).1; omega, by omega⟩
      · show s + so + wi + pi + ca + de + ho < max s (so + wi + 2 * (x.dmax + x.air) + ca + pi + 8) + so + wi + pi + ca + de + ho
        omega
    · have hl : ¬ s < so + wi + 2 * (x.dmax + x.air) + ca + pi + 8 := of_decide_eq_false h
      omega
  · exact ⟨(fun h => by cases h), fun _ => no fun L k => hn k.2.2.2.2.2⟩
  · have hn' : ¬ ((frL x + 3) * rdL (wishL x s) + 2 * pi ≤ de ∧ de ≤ 64 * rdL (wishL x s)) := hn
    have h9 : holdL x 9 := hp 9 (by omega) (by omega)
    have h8 : so + wi + 2 * (x.dmax + x.air) + ca + pi + 8 ≤ s := hp 8 (by omega) (by omega)
    have := eB (by omega)
    have := hP (by omega)
    have := hW (by omega)
    have := hC (by omega)
    have := hS (by omega)
    have hd := del_bounds (T (by omega)) (show holdL (wishL x s) 9 from h9)
    have hd1 : 0 ≤ (frL x + 3) * rdL (wishL x s) := hd.1
    have hd2 : (frL x + 3) * rdL (wishL x s) ≤ 1241513984 := hd.2
    have := u5 h9
    refine ⟨fun h => ?_, fun h => no fun L k => ?_⟩
    · have hl : de < (frL x + 3) * rdL (wishL x s) + 2 * pi := of_decide_eq_true h
      have em : max de ((frL x + 3) * rdL (wishL x s) + 2 * pi) = (frL x + 3) * rdL (wishL x s) + 2 * pi := by omega
      refine ⟨⟨s, so, wi, pi, ca, max de ((frL x + 3) * rdL (wishL x s) + 2 * pi), ho, rfl, ?_⟩, ?_⟩
      · rw [em]
        exact ⟨s1, s2, a1, a2, b1, b2, c1, c2, d1, d2, by omega, by omega, f1, f2, low, u1, u2, u3, u4, fun _ => by omega, u6⟩
      · show s + so + wi + pi + ca + de + ho < s + so + wi + pi + ca + max de ((frL x + 3) * rdL (wishL x s) + 2 * pi) + ho
        omega
    · have hl : ¬ de < (frL x + 3) * rdL (wishL x s) + 2 * pi := of_decide_eq_false h
      have hsL := fit_pi hB i' k
      have eN : so + wi + 2 * (x.dmax + x.air) + ca + pi + 8 = needL x s := by rw [need_w]; omega
      have hLs := k.2.2.1 s s1 (by omega) (by omega)
      obtain rfl : L = s := by omega
      have h10 : (frL x + 3) * rdL (wishL x L) + 2 * lPi (wishL x L) ≤ 64 * rdL (wishL x L) := (k.2.2.2.1 10 (by omega) (by omega)).2
      omega
  · have hn' : ¬ (40 * rdL (wishL x s) ≤ ho ∧ ho ≤ 2147483648) := hn
    have t := T (by omega)
    have t1 := t.m1
    have t2 := t.m2
    refine ⟨fun h => ?_, fun h => ?_⟩
    · have hl : ho < 40 * rdL (wishL x s) := of_decide_eq_true h
      have em : max ho (40 * rdL (wishL x s)) = 40 * rdL (wishL x s) := by omega
      refine ⟨⟨s, so, wi, pi, ca, de, max ho (40 * rdL (wishL x s)), rfl, ?_⟩, ?_⟩
      · rw [em]
        exact ⟨s1, s2, a1, a2, b1, b2, c1, c2, d1, d2, e1, e2, by omega, by omega, low, u1, u2, u3, u4, u5, Int.le_refl _⟩
      · show s + so + wi + pi + ca + de + ho < s + so + wi + pi + ca + de + max ho (40 * rdL (wishL x s))
        omega
    · have hl : ¬ ho < 40 * rdL (wishL x s) := of_decide_eq_false h
      omega

/-- The draft that is begun with. -/
theorem mid_begun (hB : BaseL x) : MidL x (wishL x 1) := by
  have T := base_tick hB (l := 1) (by omega) (by omega)
  have := num_bounds T
  have hw1 := lPi_w x 1
  have hw2 := lCap_w x 1
  have he : eL (wishL x 1) = eL x := rfl
  have m1 := T.m1
  refine ⟨1, 0, 0, 0, 0, 0, 0, rfl, by omega, by omega, by omega, by omega, by omega, by omega, by omega, by omega, by omega, by omega, by omega, by omega, by omega, by omega, fun l h _ _ => h, by omega, by omega, by omega, by omega, fun h9 => ?_, by omega⟩
  have hd : 0 ≤ (frL x + 3) * rdL (wishL x 1) := (del_bounds T (show holdL (wishL x 1) 9 from h9)).1
  omega
end

end Go.Proofs.Yteljalgfkmnamaa
