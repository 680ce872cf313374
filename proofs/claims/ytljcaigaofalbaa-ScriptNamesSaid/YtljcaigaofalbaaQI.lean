/- The document's With, by a contract: where the wishes may be, and the slot's length is none that runs over. | The least plan: what it is, and how raising what is too low comes to it. No condition. | raise and mend: what is too low is raised to the least that it has to be: by contracts. | begun and Fit: by contracts. No condition. -/
import Derived.Deep.DeepCutAuto
import Derived.Deep.RegionHeld3
import Derived.Test.YtljcaigaofalbaaQH
namespace Go.Proofs.Ytljcaigaofalbaa
open Go.RowKit Go.Shelf

/-- The wishes alone, and a slot's length. -/
def wishL (x : Pl) (l : Int) : Pl := ⟨x.nodes, x.kk, l, 0, 0, x.air, x.dmin, x.dmax, x.rho, 0, 0, 0, x.queue, x.burst, x.payload, 0⟩
/-- .. and the least of all that goes with it. -/
def withL (x : Pl) (l : Int) : Pl :=
  let y := wishL x l
  ⟨x.nodes, x.kk, l, lPi y + eL y + lCap y + lPi y, lPi y + eL y, x.air, x.dmin, x.dmax, x.rho, lPi y, lCap y, (frL y + 3) * rdL y + 2 * lPi y, x.queue, x.burst, x.payload, 40 * rdL y⟩

def zeroL : Pl := ⟨0, 0, 0, 0, 0, 0, 0, 0, 0, 0, 0, 0, 0, 0, 0, 0⟩
theorem below_setRow {n : Nat} {a b : World} {g : Nat} {cs : Array Value} (h : Below n a b) (hg : n ≤ g) : Below n a (b.setRow g cs) :=
  ⟨h.os, h.tape, h.output, by simpa using h.size, fun i hi => (setRow_other b g i cs (by omega)).trans (h.block i hi)⟩
/-- The three blocks that With lays. -/
theorem frame3 (x : Pl) (l : Int) (w : World) :
    Below w.heap.size w (((w.alloc (.cells x.cells 23)).alloc (.cells zeroL.cells 23)).alloc (.cells (wishL x l).cells 23)) ∧
    Whole (((w.alloc (.cells x.cells 23)).alloc (.cells zeroL.cells 23)).alloc (.cells (wishL x l).cells 23)) (w.heap.size + 1) 23 zeroL.cells ∧
    Whole (((w.alloc (.cells x.cells 23)).alloc (.cells zeroL.cells 23)).alloc (.cells (wishL x l).cells 23)) (w.heap.size + 1 + 1) 23 (wishL x l).cells := by
  have hz := (Whole.new (w.alloc (.cells x.cells 23)) 23 zeroL.cells).alloc (.cells (wishL x l).cells 23)
  have hd := Whole.new ((w.alloc (.cells x.cells 23)).alloc (.cells zeroL.cells 23)) 23 (wishL x l).cells
  simp only [World.size_alloc] at hz hd
  exact ⟨((((Below.refl w.heap.size w).alloc (Nat.le_refl _) _).alloc (by simp) _).alloc (by simp; omega) _), hz, hd⟩

/-- Six stores into the block, none into the one ahead of it. -/
theorem six {w w1 : World} {b : Nat} {t : TypeId} {cs zs : Array Value} (hd : Whole w1 (b + 1) t cs) (hz : Whole w1 b t zs) (hb : Below w.heap.size w w1) (hl : w.heap.size ≤ b) (u1 u2 u3 u4 u5 u6 : Value) :
    Whole (((((((w1.setCell ⟨b + 1, 9, none⟩ u1).setCell ⟨b + 1, 4, none⟩ u2).setCell ⟨b + 1, 10, none⟩ u3).setCell ⟨b + 1, 3, none⟩ u4).setCell ⟨b + 1, 11, none⟩ u5).setCell ⟨b + 1, 15, none⟩ u6)) (b + 1) t
      ((((((cs.setIfInBounds 9 u1).setIfInBounds 4 u2).setIfInBounds 10 u3).setIfInBounds 3 u4).setIfInBounds 11 u5).setIfInBounds 15 u6) ∧
    Whole (((((((w1.setCell ⟨b + 1, 9, none⟩ u1).setCell ⟨b + 1, 4, none⟩ u2).setCell ⟨b + 1, 10, none⟩ u3).setCell ⟨b + 1, 3, none⟩ u4).setCell ⟨b + 1, 11, none⟩ u5).setCell ⟨b + 1, 15, none⟩ u6)) b t zs ∧
    Below w.heap.size w (((((((w1.setCell ⟨b + 1, 9, none⟩ u1).setCell ⟨b + 1, 4, none⟩ u2).setCell ⟨b + 1, 10, none⟩ u3).setCell ⟨b + 1, 3, none⟩ u4).setCell ⟨b + 1, 11, none⟩ u5).setCell ⟨b + 1, 15, none⟩ u6)) := by
  have h : b ≠ b + 1 := by omega
  have hp : ∀ i, w.heap.size ≤ (⟨b + 1, i, none⟩ : Addr).block := fun i => by show _ ≤ b + 1; omega
  exact ⟨(((((hd.set 9 _).set 4 _).set 10 _).set 3 _).set 11 _).set 15 _, (((((hz.far h _).far h _).far h _).far h _).far h _).far h _, (((((hb.setCell (hp 9) _).setCell (hp 4) _).setCell (hp 10) _).setCell (hp 3) _).setCell (hp 11) _).setCell (hp 15) _⟩

end Go.Proofs.Ytljcaigaofalbaa

namespace Go.Proofs.Ytljcaigaofalbaa
open Go.RowKit Go.Shelf

/-- How long a slot has to be, by the least of all that goes with its length. -/
def needL (x : Pl) (l : Int) : Int := lSlot (withL x l)
/-- Wishes with which something may be. -/
def BaseL (x : Pl) : Prop := (holdL x 1 ∧ holdL x 2) ∧ (4 ≤ x.rho ∧ x.rho ≤ 1048576)
/-- L is the least length of a slot with which a plan may be, for these wishes. -/
def FitOk (x : Pl) (L : Int) : Prop :=
  (1 ≤ L ∧ L ≤ 1048576) ∧ needL x L ≤ L ∧ (∀ l, 1 ≤ l → l ≤ 1048576 → needL x l ≤ l → L ≤ l) ∧ (∀ j, 1 ≤ j → j ≤ 11 → holdL (withL x L) j) ∧ BaseL x ∧ holdL x 9
theorem FitOk.same {x : Pl} {L M : Int} (h : FitOk x L) (k : FitOk x M) : L = M := by
  obtain ⟨⟨a, b⟩, c, d, _⟩ := h
  obtain ⟨⟨a', b'⟩, c', d', _⟩ := k
  have := d M a' b' c'
  have := d' L a b c
  omega
open Classical in
noncomputable def fitE (x : Pl) : Int := if ∃ L, FitOk x L then 0 else 71
open Classical in
noncomputable def fitP (x : Pl) : Pl := if h : ∃ L, FitOk x L then withL x (Classical.choose h) else zeroL
theorem fit_yes {x : Pl} {L : Int} (h : FitOk x L) : fitP x = withL x L ∧ fitE x = 0 := by
  have he : ∃ L, FitOk x L := ⟨L, h⟩
  refine ⟨?_, if_pos he⟩
  unfold fitP
  rw [dif_pos he, (Classical.choose_spec he).same h]
theorem fit_no {x : Pl} (h : ¬ ∃ L, FitOk x L) : fitP x = zeroL ∧ fitE x = 71 := ⟨dif_neg h, if_neg h⟩

section
variable {x : Pl} {l m : Int}
theorem base_tick (hB : BaseL x) (h0 : 0 ≤ l) (h1 : l ≤ 1048576) : TickL (wishL x l) := tick_of (x := wishL x l) hB.1.1 hB.1.2 h0 h1 hB.2.1 hB.2.2
/-- What goes with a greater length is no less. -/
structure MonoL (x : Pl) (l m : Int) : Prop where
  r : rdL (wishL x l) ≤ rdL (wishL x m)
  g : gL (wishL x l) ≤ gL (wishL x m)
  a : aL (wishL x l) ≤ aL (wishL x m)
  d : 0 ≤ frL x → (frL x + 3) * rdL (wishL x l) ≤ (frL x + 3) * rdL (wishL x m)
theorem mono (hB : BaseL x) (h : l ≤ m) : MonoL x l m := by
  obtain ⟨⟨⟨⟨n1, _⟩, _⟩, _⟩, r1, _⟩ := hB
  have r : rdL (wishL x l) ≤ rdL (wishL x m) := Int.mul_le_mul_of_nonneg_left (c := x.nodes) h (by omega)
  have q : 2 * rdL (wishL x l) / x.rho ≤ 2 * rdL (wishL x m) / x.rho := Int.ediv_le_ediv (by omega) (by omega)
  have g : gL (wishL x l) ≤ gL (wishL x m) := by
    have e1 : gL (wishL x l) = 2 * (2 * rdL (wishL x l) / x.rho + 4) := rfl
    have e2 : gL (wishL x m) = 2 * (2 * rdL (wishL x m) / x.rho + 4) := rfl
    omega
  have a : aL (wishL x l) ≤ aL (wishL x m) := by
    have e1 : aL (wishL x l) = 2 * (eL x + gL (wishL x l)) := rfl
    have e2 : aL (wishL x m) = 2 * (eL x + gL (wishL x m)) := rfl
    omega
  exact ⟨r, g, a, fun h0 => Int.mul_le_mul_of_nonneg_left r (by omega)⟩
theorem lPi_w (x : Pl) (l : Int) : lPi (wishL x l) = 2 * (aL (wishL x l) + gL (wishL x l)) + eL x := rfl
theorem lCap_w (x : Pl) (l : Int) : lCap (wishL x l) = aL (wishL x l) + 2 * gL (wishL x l) + 2 * eL x := rfl
theorem need_w (x : Pl) (l : Int) : needL x l = (lPi (wishL x l) + eL x + lCap (wishL x l) + lPi (wishL x l)) + (lPi (wishL x l) + eL x) + 2 * (x.dmax + x.air) + lCap (wishL x l) + lPi (wishL x l) + 8 := rfl
theorem need_mono (hB : BaseL x) (h : l ≤ m) : needL x l ≤ needL x m := by
  obtain ⟨_, g, a, _⟩ := mono hB h
  rw [need_w, need_w, lPi_w, lPi_w, lCap_w, lCap_w]
  omega
end

/-- A draft on its way: the wishes, and seven numbers. -/
def yL (x : Pl) (s so wi pi ca de ho : Int) : Pl := ⟨x.nodes, x.kk, s, so, wi, x.air, x.dmin, x.dmax, x.rho, pi, ca, de, x.queue, x.burst, x.payload, ho⟩

/-- No number is above what it is in the least plan; none is far from it. -/
structure InvL (x : Pl) (s so wi pi ca de ho : Int) : Prop where
  s1 : 1 ≤ s
  s2 : s ≤ 10000000000
  a1 : 0 ≤ so
  a2 : so ≤ 10000000000
  b1 : 0 ≤ wi
  b2 : wi ≤ 10000000000
  c1 : 0 ≤ pi
  c2 : pi ≤ 10000000000
  d1 : 0 ≤ ca
  d2 : ca ≤ 10000000000
  e1 : 0 ≤ de
  e2 : de ≤ 10000000000
  f1 : 0 ≤ ho
  f2 : ho ≤ 10000000000
  low : ∀ l, 1 ≤ l → l ≤ 1048576 → needL x l ≤ l → s ≤ l
  upPi : pi ≤ lPi (wishL x s)
  upWi : wi ≤ lPi (wishL x s) + eL x
  upCa : ca ≤ lCap (wishL x s)
  upSo : so ≤ lPi (wishL x s) + eL x + lCap (wishL x s) + lPi (wishL x s)
  upDe : holdL x 9 → de ≤ (frL x + 3) * rdL (wishL x s) + 2 * lPi (wishL x s)
  upHo : ho ≤ 40 * rdL (wishL x s)

/-- What mend makes of a draft, and whether that was anything. -/
def mendP (y : Pl) (r : Nat) : Pl :=
  if r = 4 then { y with pi := max y.pi (lPi y) } else if r = 5 then { y with window := max y.window (lWin y) } else if r = 6 then { y with cap := max y.cap (lCap y) }
  else if r = 7 then { y with sendOff := max y.sendOff (lSend y) } else if r = 8 then { y with slot := max y.slot (lSlot y) } else if r = 10 then { y with delta := max y.delta (lDel y) }
  else if r = 11 then { y with horizon := max y.horizon (lHor y) } else y
def mendB (y : Pl) (r : Nat) : Bool :=
  if r = 4 then decide (y.pi < lPi y) else if r = 5 then decide (y.window < lWin y) else if r = 6 then decide (y.cap < lCap y)
  else if r = 7 then decide (y.sendOff < lSend y) else if r = 8 then decide (y.slot < lSlot y) else if r = 10 then decide (y.delta < lDel y)
  else if r = 11 then decide (y.horizon < lHor y) else false
/-- How much there is of a draft. -/
def sumL (y : Pl) : Int := y.slot + y.sendOff + y.window + y.pi + y.cap + y.delta + y.horizon

/-- A draft in the midst: it has the wishes. -/
def MidL (x y : Pl) : Prop := ∃ s so wi pi ca de ho, y = yL x s so wi pi ca de ho ∧ InvL x s so wi pi ca de ho
theorem MidL.sum {x y : Pl} (h : MidL x y) : 0 ≤ sumL y ∧ sumL y ≤ 70000000000 := by
  obtain ⟨s, so, wi, pi, ca, de, ho, rfl, i⟩ := h
  have e : sumL (yL x s so wi pi ca de ho) = s + so + wi + pi + ca + de + ho := rfl
  obtain ⟨s1, s2, a1, a2, b1, b2, c1, c2, d1, d2, e1, e2, f1, f2, _⟩ := i
  omega

section
variable {x : Pl} {s so wi pi ca de ho : Int}
theorem fit_pi (hB : BaseL x) (i : InvL x s so wi pi ca de ho) {L : Int} (h : FitOk x L) : lPi (wishL x s) ≤ 1048576 ∧ lPi (wishL x s) + eL x ≤ 1048576 ∧ lCap (wishL x s) ≤ 1048576 ∧ lPi (wishL x s) + eL x + lCap (wishL x s) + lPi (wishL x s) ≤ 1048576 ∧ s ≤ L ∧ L ≤ 1048576 := by
  obtain ⟨⟨a, b⟩, c, d, e, _⟩ := h
  have hs := i.low L a b c
  obtain ⟨_, g, a', _⟩ := mono hB hs
  have h4 : lPi (wishL x L) ≤ 1048576 := (e 4 (by omega) (by omega)).2
  have h5 : lPi (wishL x L) + eL x ≤ 1048576 := (e 5 (by omega) (by omega)).2
  have h6 : lCap (wishL x L) ≤ 1048576 := (e 6 (by omega) (by omega)).2
  have h7 : lPi (wishL x L) + eL x + lCap (wishL x L) + lPi (wishL x L) ≤ 1048576 := (e 7 (by omega) (by omega)).2
  have := lPi_w x s
  have := lPi_w x L
  have := lCap_w x s
  have := lCap_w x L
  omega

/-- All conditions hold: the draft is the least plan. -/
theorem mid_done (hB : BaseL x) (i : InvL x s so wi pi ca de ho) (h : ∀ j, 1 ≤ j → j ≤ 11 → holdL (yL x s so wi pi ca de ho) j) : FitOk x s ∧ yL x s so wi pi ca de ho = withL x s := by
  have h3 : (1 ≤ s ∧ s ≤ 1048576) ∧ (4 ≤ x.rho ∧ x.rho ≤ 1048576) := h 3 (by omega) (by omega)
  have h4 : lPi (wishL x s) ≤ pi ∧ pi ≤ 1048576 := h 4 (by omega) (by omega)
  have h5 : pi + eL x ≤ wi ∧ wi ≤ 1048576 := h 5 (by omega) (by omega)
  have h6 : lCap (wishL x s) ≤ ca ∧ ca ≤ 1048576 := h 6 (by omega) (by omega)
  have h7 : wi + ca + pi ≤ so ∧ so ≤ 1048576 := h 7 (by omega) (by omega)
  have h8 : so + wi + 2 * (x.dmax + x.air) + ca + pi + 8 ≤ s := h 8 (by omega) (by omega)
  have h9 : holdL x 9 := h 9 (by omega) (by omega)
  have h10 : (frL x + 3) * rdL (wishL x s) + 2 * pi ≤ de ∧ de ≤ 64 * rdL (wishL x s) := h 10 (by omega) (by omega)
  have h11 : 40 * rdL (wishL x s) ≤ ho ∧ ho ≤ 2147483648 := h 11 (by omega) (by omega)
  obtain ⟨s1, s2, a1, a2, b1, b2, c1, c2, d1, d2, e1, e2, f1, f2, low, u1, u2, u3, u4, u5, u6⟩ := i
  have u5' := u5 h9
  obtain rfl : pi = lPi (wishL x s) := by omega
  obtain rfl : wi = lPi (wishL x s) + eL x := by omega
  obtain rfl : ca = lCap (wishL x s) := by omega
  obtain rfl : so = lPi (wishL x s) + eL x + lCap (wishL x s) + lPi (wishL x s) := by omega
  obtain rfl : de = (frL x + 3) * rdL (wishL x s) + 2 * lPi (wishL x s) := by omega
  obtain rfl : ho = 40 * rdL (wishL x s) := by omega
  have e : yL x s (lPi (wishL x s) + eL x + lCap (wishL x s) + lPi (wishL x s)) (lPi (wishL x s) + eL x) (lPi (wishL x s)) (lCap (wishL x s)) ((frL x + 3) * rdL (wishL x s) + 2 * lPi (wishL x s)) (40 * rdL (wishL x s)) = withL x s := rfl
  rw [e] at h
  exact ⟨⟨h3.1, by rw [need_w]; omega, low, h, hB, h9⟩, e⟩

/-- The first condition that does not hold, mended: nearer; if nothing could be mended, there is no least plan. -/
theorem mid_step (hB : BaseL x) (i : InvL x s so wi pi ca de ho) {r : Nat} (h1 : 1 ≤ r) (h2 : r ≤ 11) (hn : ¬ holdL (yL x s so wi pi ca de ho) r) (hp : ∀ j, 1 ≤ j → j < r → holdL (yL x s so wi pi ca de ho) j) :
    (mendB (yL x s so wi pi ca de ho) r = true → MidL x (mendP (yL x s so wi pi ca de ho) r) ∧ sumL (yL x s so wi pi ca de ho) < sumL (mendP (yL x s so wi pi ca de ho) r)) ∧
    (mendB (yL x s so wi pi ca de ho) r = false → ¬ ∃ L, FitOk x L) := by
  have i' := i
  obtain ⟨s1, s2, a1, a2, b1, b2, c1, c2, d1, d2, e1, e2, f1, f2, low, u1, u2, u3, u4, u5, u6⟩ := i
  have no : (∀ L, FitOk x L → False) → ¬ ∃ L, FitOk x L := fun h k => k.elim h
  have hs : 3 < r → s ≤ 1048576 := fun h => (hp 3 (by omega) h).1.2
  have T : 3 < r → TickL (wishL x s) := fun h => base_tick hB (by omega) (hs h)
  have hP : 4 < r → pi = lPi (wishL x s) ∧ pi ≤ 1048576 := fun h => by
    have k : lPi (wishL x s) ≤ pi ∧ pi ≤ 1048576 := hp 4 (by omega) h
    omega
  have hW : 5 < r → wi = lPi (wishL x s) + eL x ∧ wi ≤ 1048576 := fun h => by
    have k : pi + eL x ≤ wi ∧ wi ≤ 1048576 := hp 5 (by omega) h
    have := hP (by omega)
    omega
  have hC : 6 < r → ca = lCap (wishL x s) ∧ ca ≤ 1048576 := fun h => by
    have k : lCap (wishL x s) ≤ ca ∧ ca ≤ 1048576 := hp 6 (by omega) h
    omega
  have hS : 7 < r → so = lPi (wishL x s) + eL x + lCap (wishL x s) + lPi (wishL x s) ∧ so ≤ 1048576 := fun h => by
    have k : wi + ca + pi ≤ so ∧ so ≤ 1048576 := hp 7 (by omega) h
    have := hP (by omega)
    have := hW (by omega)
    have := hC (by omega)
    omega
  have eB : 3 < r → 6 ≤ eL x ∧ eL x ≤ 1048582 ∧ 8 ≤ gL (wishL x s) ∧ gL (wishL x s) ≤ 16777224 ∧ 28 ≤ aL (wishL x s) ∧ aL (wishL x s) ≤ 35651612 := fun h => num_bounds (T h)
  have hw1 := lPi_w x s
  have hw2 := lCap_w x s
  have : r = 1 ∨ r = 2 ∨ r = 3 ∨ r = 4 ∨ r = 5 ∨ r = 6 ∨ r = 7 ∨ r = 8 ∨ r = 9 ∨ r = 10 ∨ r = 11 := by omega
  rcases this with rfl | rfl | rfl | rfl | rfl | rfl | rfl | rfl | rfl | rfl | rfl
  · exact absurd hB.1.1 hn
  · exact absurd hB.1.2 hn
  · refine ⟨(fun h => by cases h), fun _ => no fun L k => ?_⟩
    have := fit_pi hB i' k
    exact hn ⟨⟨s1, by show s ≤ _; omega⟩, hB.2⟩
  · have hn' : ¬ (lPi (wishL x s) ≤ pi ∧ pi ≤ 1048576) := hn
    have := eB (by omega)
    refine ⟨fun h => ?_, fun h => no fun L k => ?_⟩
    · have hl : pi < lPi (wishL x s) := of_decide_eq_true h
      have em : max pi (lPi (wishL x s)) = lPi (wishL x s) := by omega
      refine ⟨⟨s, so, wi, max pi (lPi (wishL x s)), ca, de, ho, rfl, ?_⟩, ?_⟩
      · rw [em]
        exact ⟨s1, s2, a1, a2, b1, b2, by omega, by omega, d1, d2, e1, e2, f1, f2, low, Int.le_refl _, u2, u3, u4, u5, u6⟩
      · show s + so + wi + pi + ca + de + ho < s + so + wi + max pi (lPi (wishL x s)) + ca + de + ho
        omega
    · have hl : ¬ pi < lPi (wishL x s) := of_decide_eq_false h
      have := fit_pi hB i' k
      omega
  · have hn' : ¬ (pi + eL x ≤ wi ∧ wi ≤ 1048576) := hn
    have := eB (by omega)
    have := hP (by omega)
    refine ⟨fun h => ?_, fun h => no fun L k => ?_⟩
    · have hl : wi < pi + eL x := of_decide_eq_true h
      have em : max wi (pi + eL x) = pi + eL x := by omega
      refine ⟨⟨s, so, max wi (pi + eL x), pi, ca, de, ho, rfl, ?_⟩, ?_⟩
      · rw [em]
        exact ⟨s1, s2, a1, a2, by omega, by omega, c1, c2, d1, d2, e1, e2, f1, f2, low, u1, by omega, u3, u4, u5, u6⟩
      · show s + so + wi + pi + ca + de + ho < s + so + max wi (pi + eL x) + pi + ca + de + ho
        omega
    · have hl : ¬ wi < pi + eL x := of_decide_eq_false h
      have := fit_pi hB i' k
      omega
  · have hn' : ¬ (lCap (wishL x s) ≤ ca ∧ ca ≤ 1048576) := hn
    have := eB (by omega)
    refine ⟨fun h => ?_, fun h => no fun L k => ?_⟩
    · have hl : ca < lCap (wishL x s) := of_decide_eq_true h
      have em : max ca (lCap (wishL x s)) = lCap (wishL x s) := by omega
      refine ⟨⟨s, so, wi, pi, max ca (lCap (wishL x s)), de, ho, rfl, ?_⟩, ?_⟩
      · rw [em]
        exact ⟨s1, s2, a1, a2, b1, b2, c1, c2, by omega, by omega, e1, e2, f1, f2, low, u1, u2, Int.le_refl _, u4, u5, u6⟩
      · show s + so + wi + pi + ca + de + ho < s + so + wi + pi + max ca (lCap (wishL x s)) + de + ho
        omega
    · have hl : ¬ ca < lCap (wishL x s) := of_decide_eq_false h
      have := fit_pi hB i' k
      omega
  · have hn' : ¬ (wi + ca + pi ≤ so ∧ so ≤ 1048576) := hn
    have := eB (by omega)
    have := hP (by omega)
    have := hW (by omega)
    have := hC (by omega)
    refine ⟨fun h => ?_, fun h => no fun L k => ?_⟩
    · have hl : so < wi + ca + pi := of_decide_eq_true h
      have em : max so (wi + ca + pi) = wi + ca + pi := by omega
      refine ⟨⟨s, max so (wi + ca + pi), wi, pi, ca, de, ho, rfl, ?_⟩, ?_⟩
      · rw [em]
        exact ⟨s1, s2, by omega, by omega, b1, b2, c1, c2, d1, d2, e1, e2, f1, f2, low, u1, u2, u3, by omega, u5, u6⟩
      · show s + so + wi + pi + ca + de + ho < s + max so (wi + ca + pi) + wi + pi + ca + de + ho
        omega
    · have hl : ¬ so < wi + ca + pi := of_decide_eq_false h
      have := fit_pi hB i' k
      omega
  · have hn' : ¬ (so + wi + 2 * (x.dmax + x.air) + ca + pi + 8 ≤ s) := hn
    have := eB (by omega)
    have := hP (by omega)
    have := hW (by omega)
    have := hC (by omega)
    have := hS (by omega)
    have hB' := hB
    obtain ⟨⟨_, ⟨q1, q2⟩, q3, q4, q5⟩, _⟩ := hB'
    have eN : so + wi + 2 * (x.dmax + x.air) + ca + pi + 8 = needL x s := by rw [need_w]; omega
    refine ⟨fun h => ?_, fun h => ?_⟩
    · have hl : s < so + wi + 2 * (x.dmax + x.air) + ca + pi + 8 := of_decide_eq_true h
      have em : max s (so + wi + 2 * (x.dmax + x.air) + ca + pi + 8) = needL x s := by omega
      refine ⟨⟨max s (so + wi + 2 * (x.dmax + x.air) + ca + pi + 8), so, wi, pi, ca, de, ho, rfl, ?_⟩, ?_⟩
      · rw [em]
        obtain ⟨m1, m2, m3, m4⟩ := mono hB (show s ≤ needL x s by omega)
        have := lPi_w x (needL x s)
        have := lCap_w x (needL x s)
        exact ⟨by omega, by omega, a1, a2, b1, b2, c1, c2, d1, d2, e1, e2, f1, f2, fun l k1 k2 k3 => Int.le_trans (need_mono hB (low l k1 k2 k3)) k3, by omega, by omega, by omega, by omega,
          fun h9 => by have := u5 h9; have := m4 (frac_bounds h9).1; omega, by omega⟩
      · show s + so + wi + pi + ca + de + ho < max s (so + wi + 2 * (x.dmax + x.air) + ca + pi + 8) + so + wi + pi + ca + de + ho
        omega
    · have hl : ¬ s < so + wi + 2 * (x.dmax + x.air) + ca + pi + 8 := of_decide_eq_false h
      omega
  · exact ⟨(fun h => by cases h), fun _ => no fun L k => hn k.2.2.2.2.2⟩
  · have hn' : ¬ ((frL x + 3) * rdL (wishL x s) + 2 * pi ≤ de ∧ de ≤ 64 * rdL (wishL x s)) := hn
    have h9 : holdL x 9 := hp 9 (by omega) (by omega)
    have h8 : so + wi + 2 * (x.dmax + x.air) + ca + pi + 8 ≤ s := hp 8 (by omega) (by omega)
    have := eB (by omega)
    have := hP (by omega)
    have := hW (by omega)
    have := hC (by omega)
    have := hS (by omega)
    have hd := del_bounds (T (by omega)) (show holdL (wishL x s) 9 from h9)
    have hd1 : 0 ≤ (frL x + 3) * rdL (wishL x s) := hd.1
    have hd2 : (frL x + 3) * rdL (wishL x s) ≤ 1241513984 := hd.2
    have := u5 h9
    refine ⟨fun h => ?_, fun h => no fun L k => ?_⟩
    · have hl : de < (frL x + 3) * rdL (wishL x s) + 2 * pi := of_decide_eq_true h
      have em : max de ((frL x + 3) * rdL (wishL x s) + 2 * pi) = (frL x + 3) * rdL (wishL x s) + 2 * pi := by omega
      refine ⟨⟨s, so, wi, pi, ca, max de ((frL x + 3) * rdL (wishL x s) + 2 * pi), ho, rfl, ?_⟩, ?_⟩
      · rw [em]
        exact ⟨s1, s2, a1, a2, b1, b2, c1, c2, d1, d2, by omega, by omega, f1, f2, low, u1, u2, u3, u4, fun _ => by omega, u6⟩
      · show s + so + wi + pi + ca + de + ho < s + so + wi + pi + ca + max de ((frL x + 3) * rdL (wishL x s) + 2 * pi) + ho
        omega
    · have hl : ¬ de < (frL x + 3) * rdL (wishL x s) + 2 * pi := of_decide_eq_false h
      have hsL := fit_pi hB i' k
      have eN : so + wi + 2 * (x.dmax + x.air) + ca + pi + 8 = needL x s := by rw [need_w]; omega
      have hLs := k.2.2.1 s s1 (by omega) (by omega)
      obtain rfl : L = s := by omega
      have h10 : (frL x + 3) * rdL (wishL x L) + 2 * lPi (wishL x L) ≤ 64 * rdL (wishL x L) := (k.2.2.2.1 10 (by omega) (by omega)).2
      omega
  · have hn' : ¬ (40 * rdL (wishL x s) ≤ ho ∧ ho ≤ 2147483648) := hn
    have t := T (by omega)
    have t1 := t.m1
    have t2 := t.m2
    refine ⟨fun h => ?_, fun h => ?_⟩
    · have hl : ho < 40 * rdL (wishL x s) := of_decide_eq_true h
      have em : max ho (40 * rdL (wishL x s)) = 40 * rdL (wishL x s) := by omega
      refine ⟨⟨s, so, wi, pi, ca, de, max ho (40 * rdL (wishL x s)), rfl, ?_⟩, ?_⟩
      · rw [em]
        exact ⟨s1, s2, a1, a2, b1, b2, c1, c2, d1, d2, e1, e2, by omega, by omega, low, u1, u2, u3, u4, u5, Int.le_refl _⟩
      · show s + so + wi + pi + ca + de + ho < s + so + wi + pi + ca + de + max ho (40 * rdL (wishL x s))
        omega
    · have hl : ¬ ho < 40 * rdL (wishL x s) := of_decide_eq_false h
      omega

/-- The draft that is begun with. -/
theorem mid_begun (hB : BaseL x) : MidL x (wishL x 1) := by
  have T := base_tick hB (l := 1) (by omega) (by omega)
  have := num_bounds T
  have hw1 := lPi_w x 1
  have hw2 := lCap_w x 1
  have he : eL (wishL x 1) = eL x := rfl
  have m1 := T.m1
  refine ⟨1, 0, 0, 0, 0, 0, 0, rfl, by omega, by omega, by omega, by omega, by omega, by omega, by omega, by omega, by omega, by omega, by omega, by omega, by omega, by omega, fun l h _ _ => h, by omega, by omega, by omega, by omega, fun h9 => ?_, by omega⟩
  have hd : 0 ≤ (frL x + 3) * rdL (wishL x 1) := (del_bounds T (show holdL (wishL x 1) 9 from h9)).1
  omega
end

end Go.Proofs.Ytljcaigaofalbaa

namespace Go.Proofs.Ytljcaigaofalbaa
open Go.RowKit Go.Shelf

theorem set_same {cs : Array Value} {i : Nat} {u : Value} (h : cs[i]? = some u) : cs.setIfInBounds i u = cs := by
  apply Array.ext_getElem?
  intro j
  by_cases e : i = j
  · subst e
    rw [Array.getElem?_setIfInBounds_self, h]
    have := (Array.getElem?_eq_some_iff.1 h).1
    simp [this]
  · rw [Array.getElem?_setIfInBounds_ne e]

def highB (v l : Int) : Bool := decide (v < l)
def highV (v l : Int) : Int := max v l

set_option maxHeartbeats 1000000 in
theorem raise_any {w : World} {g i : Nat} {t : TypeId} {cs : Array Value} {v : Int} (l : Int) (hW : Whole w g t cs) (hi : cs[i]? = some (.int .i64 v)) :
    Calls Try.prog 116 #[.pointer (some ⟨g, i, none⟩), .int .i64 l] w fun e w' => e = .returned (.bool (highB v l)) ∧ Kept (fun j => j = g) w w' ∧ Whole w' g t (cs.setIfInBounds i (.int .i64 (highV v l))) := by
  have hc : w.cell? ⟨g, i, none⟩ = some (.int .i64 v) := (hW.cell i).trans hi
  have hf : w.frozen? ⟨g, i, none⟩ = false := hW.frozen i
  have HW := Lib.hid hW
  by_cases h : l ≤ v
  · have H1 := Lib.hid (show highB v l = false from decide_eq_false (by omega))
    have H2 := Lib.hid (show highV v l = v from by unfold highV; omega)
    have HS := Lib.hid (set_same hi)
    clear hW hi
    go_enter Try.func116, Try.ntmps116
    go_wp2
    go_ret
    exact ⟨by rw [H1.out]; rfl, Kept.refl _ _, by rw [H2.out, HS.out]; exact HW.out⟩
  · have H1 := Lib.hid (show highB v l = true from decide_eq_true (by omega))
    have H2 := Lib.hid (show highV v l = l from by unfold highV; omega)
    have d1 : decide (l ≤ v) = false := decide_eq_false h
    clear hW hi
    go_enter Try.func116, Try.ntmps116
    go_wp2
    go_ret
    exact ⟨by rw [H1.out]; rfl, Kept.setCell (S := fun j => j = g) (p := ⟨g, i, none⟩) (Kept.refl _ w) (.inl rfl) _, by rw [H2.out]; exact HW.out.set _ _⟩

section
variable {y : Pl} {g : Nat} {t : TypeId} {w : World}

set_option maxHeartbeats 2000000 in
theorem mend4 (T : TickL y) (hW : Whole w g t y.cells) :
    Calls Try.prog 104 #[.pointer (some ⟨g, 0, none⟩), .int .i64 4] w fun e w' => e = .returned (.bool (mendB y 4)) ∧ Kept (fun j => j = g) w w' ∧ Whole w' g t (mendP y 4).cells := by
  have HL := Lib.hid (fun W (h : Whole W g t y.cells) => leastPi_any T h)
  have HR := Lib.hid (fun W (h : Whole W g t y.cells) => raise_any (lPi y) h (show y.cells[9]? = some (.int .i64 y.pi) from rfl))
  have HW := Lib.hid hW
  have H1 := Lib.hid (show mendB y 4 = highB y.pi (lPi y) from rfl)
  have H2 := Lib.hid (show (mendP y 4).cells = y.cells.setIfInBounds 9 (.int .i64 (highV y.pi (lPi y))) from rfl)
  generalize highV y.pi (lPi y) = m at *
  generalize highB y.pi (lPi y) = b at *
  generalize lPi y = l at *
  clear hW
  go_enter Try.func104, Try.ntmps104
  go_wp2
  go_region_held3 (fun _ => True) (trivial) (first
    | (go_at_call 117; refine (HL.out _ (by exact HW.out)).mono ?_; rintro e wA ⟨rfl, n, rfl⟩)
    | (go_at_call 116; refine (HR.out _ (by exact HW.out)).mono ?_; rintro e wB ⟨rfl, hk, hw⟩))
  go_wp2
  go_ret
  exact ⟨by rw [H1.out]; rfl, ⟨hk.os, hk.tape, hk.output, hk.size, hk.block⟩, by rw [H2.out]; exact hw⟩

set_option maxHeartbeats 2000000 in
theorem mend5 (T : TickL y) (p1 : 0 ≤ y.pi) (p2 : y.pi ≤ 1048576) (hW : Whole w g t y.cells) :
    Calls Try.prog 104 #[.pointer (some ⟨g, 0, none⟩), .int .i64 5] w fun e w' => e = .returned (.bool (mendB y 5)) ∧ Kept (fun j => j = g) w w' ∧ Whole w' g t (mendP y 5).cells := by
  have HL := Lib.hid (fun W (h : Whole W g t y.cells) => leastWin_any T p1 p2 h)
  have HR := Lib.hid (fun W (h : Whole W g t y.cells) => raise_any (lWin y) h (show y.cells[4]? = some (.int .i64 y.window) from rfl))
  have HW := Lib.hid hW
  have H1 := Lib.hid (show mendB y 5 = highB y.window (lWin y) from rfl)
  have H2 := Lib.hid (show (mendP y 5).cells = y.cells.setIfInBounds 4 (.int .i64 (highV y.window (lWin y))) from rfl)
  generalize highV y.window (lWin y) = m at *
  generalize highB y.window (lWin y) = b at *
  generalize lWin y = l at *
  clear hW
  go_enter Try.func104, Try.ntmps104
  go_wp2
  go_region_held3 (fun _ => True) (trivial) (first
    | (go_at_call 118; refine (HL.out _ (by exact HW.out)).mono ?_; rintro e wA ⟨rfl, n, rfl⟩)
    | (go_at_call 116; refine (HR.out _ (by exact HW.out)).mono ?_; rintro e wB ⟨rfl, hk, hw⟩))
  go_wp2
  go_ret
  exact ⟨by rw [H1.out]; rfl, ⟨hk.os, hk.tape, hk.output, hk.size, hk.block⟩, by rw [H2.out]; exact hw⟩

set_option maxHeartbeats 2000000 in
theorem mend6 (T : TickL y) (hW : Whole w g t y.cells) :
    Calls Try.prog 104 #[.pointer (some ⟨g, 0, none⟩), .int .i64 6] w fun e w' => e = .returned (.bool (mendB y 6)) ∧ Kept (fun j => j = g) w w' ∧ Whole w' g t (mendP y 6).cells := by
  have HL := Lib.hid (fun W (h : Whole W g t y.cells) => leastCap_any T h)
  have HR := Lib.hid (fun W (h : Whole W g t y.cells) => raise_any (lCap y) h (show y.cells[10]? = some (.int .i64 y.cap) from rfl))
  have HW := Lib.hid hW
  have H1 := Lib.hid (show mendB y 6 = highB y.cap (lCap y) from rfl)
  have H2 := Lib.hid (show (mendP y 6).cells = y.cells.setIfInBounds 10 (.int .i64 (highV y.cap (lCap y))) from rfl)
  generalize highV y.cap (lCap y) = m at *
  generalize highB y.cap (lCap y) = b at *
  generalize lCap y = l at *
  clear hW
  go_enter Try.func104, Try.ntmps104
  go_wp2
  go_region_held3 (fun _ => True) (trivial) (first
    | (go_at_call 119; refine (HL.out _ (by exact HW.out)).mono ?_; rintro e wA ⟨rfl, n, rfl⟩)
    | (go_at_call 116; refine (HR.out _ (by exact HW.out)).mono ?_; rintro e wB ⟨rfl, hk, hw⟩))
  go_wp2
  go_ret
  exact ⟨by rw [H1.out]; rfl, ⟨hk.os, hk.tape, hk.output, hk.size, hk.block⟩, by rw [H2.out]; exact hw⟩

set_option maxHeartbeats 2000000 in
theorem mend7 (p1 : 0 ≤ y.pi) (p2 : y.pi ≤ 1048576) (w1 : 0 ≤ y.window) (w2 : y.window ≤ 1048576) (k1 : 0 ≤ y.cap) (k2 : y.cap ≤ 1048576) (hW : Whole w g t y.cells) :
    Calls Try.prog 104 #[.pointer (some ⟨g, 0, none⟩), .int .i64 7] w fun e w' => e = .returned (.bool (mendB y 7)) ∧ Kept (fun j => j = g) w w' ∧ Whole w' g t (mendP y 7).cells := by
  have HL := Lib.hid (fun W (h : Whole W g t y.cells) => leastSend_any p1 p2 w1 w2 k1 k2 h)
  have HR := Lib.hid (fun W (h : Whole W g t y.cells) => raise_any (lSend y) h (show y.cells[3]? = some (.int .i64 y.sendOff) from rfl))
  have HW := Lib.hid hW
  have H1 := Lib.hid (show mendB y 7 = highB y.sendOff (lSend y) from rfl)
  have H2 := Lib.hid (show (mendP y 7).cells = y.cells.setIfInBounds 3 (.int .i64 (highV y.sendOff (lSend y))) from rfl)
  generalize highV y.sendOff (lSend y) = m at *
  generalize highB y.sendOff (lSend y) = b at *
  generalize lSend y = l at *
  clear hW
  go_enter Try.func104, Try.ntmps104
  go_wp2
  go_region_held3 (fun _ => True) (trivial) (first
    | (go_at_call 120; refine (HL.out _ (by exact HW.out)).mono ?_; rintro e wA ⟨rfl, n, rfl⟩)
    | (go_at_call 116; refine (HR.out _ (by exact HW.out)).mono ?_; rintro e wB ⟨rfl, hk, hw⟩))
  go_wp2
  go_ret
  exact ⟨by rw [H1.out]; rfl, ⟨hk.os, hk.tape, hk.output, hk.size, hk.block⟩, by rw [H2.out]; exact hw⟩

set_option maxHeartbeats 2000000 in
theorem mend8 (T : TickL y) (p1 : 0 ≤ y.pi) (p2 : y.pi ≤ 1048576) (w1 : 0 ≤ y.window) (w2 : y.window ≤ 1048576) (k1 : 0 ≤ y.cap) (k2 : y.cap ≤ 1048576) (s1 : 0 ≤ y.sendOff) (s2 : y.sendOff ≤ 1048576) (hW : Whole w g t y.cells) :
    Calls Try.prog 104 #[.pointer (some ⟨g, 0, none⟩), .int .i64 8] w fun e w' => e = .returned (.bool (mendB y 8)) ∧ Kept (fun j => j = g) w w' ∧ Whole w' g t (mendP y 8).cells := by
  have HL := Lib.hid (fun W (h : Whole W g t y.cells) => leastSlot_any T p1 p2 w1 w2 k1 k2 s1 s2 h)
  have HR := Lib.hid (fun W (h : Whole W g t y.cells) => raise_any (lSlot y) h (show y.cells[2]? = some (.int .i64 y.slot) from rfl))
  have HW := Lib.hid hW
  have H1 := Lib.hid (show mendB y 8 = highB y.slot (lSlot y) from rfl)
  have H2 := Lib.hid (show (mendP y 8).cells = y.cells.setIfInBounds 2 (.int .i64 (highV y.slot (lSlot y))) from rfl)
  generalize highV y.slot (lSlot y) = m at *
  generalize highB y.slot (lSlot y) = b at *
  generalize lSlot y = l at *
  clear hW
  go_enter Try.func104, Try.ntmps104
  go_wp2
  go_region_held3 (fun _ => True) (trivial) (first
    | (go_at_call 121; refine (HL.out _ (by exact HW.out)).mono ?_; rintro e wA ⟨rfl, n, rfl⟩)
    | (go_at_call 116; refine (HR.out _ (by exact HW.out)).mono ?_; rintro e wB ⟨rfl, hk, hw⟩))
  go_wp2
  go_ret
  exact ⟨by rw [H1.out]; rfl, ⟨hk.os, hk.tape, hk.output, hk.size, hk.block⟩, by rw [H2.out]; exact hw⟩

set_option maxHeartbeats 2000000 in
theorem mend10 (T : TickL y) (h9 : holdL y 9) (p1 : 0 ≤ y.pi) (p2 : y.pi ≤ 1048576) (hW : Whole w g t y.cells) :
    Calls Try.prog 104 #[.pointer (some ⟨g, 0, none⟩), .int .i64 10] w fun e w' => e = .returned (.bool (mendB y 10)) ∧ Kept (fun j => j = g) w w' ∧ Whole w' g t (mendP y 10).cells := by
  have HL := Lib.hid (fun W (h : Whole W g t y.cells) => leastDel_any T h9 p1 p2 h)
  have HR := Lib.hid (fun W (h : Whole W g t y.cells) => raise_any (lDel y) h (show y.cells[11]? = some (.int .i64 y.delta) from rfl))
  have HW := Lib.hid hW
  have H1 := Lib.hid (show mendB y 10 = highB y.delta (lDel y) from rfl)
  have H2 := Lib.hid (show (mendP y 10).cells = y.cells.setIfInBounds 11 (.int .i64 (highV y.delta (lDel y))) from rfl)
  generalize highV y.delta (lDel y) = m at *
  generalize highB y.delta (lDel y) = b at *
  generalize lDel y = l at *
  clear hW
  go_enter Try.func104, Try.ntmps104
  go_wp2
  go_region_held3 (fun _ => True) (trivial) (first
    | (go_at_call 122; refine (HL.out _ (by exact HW.out)).mono ?_; rintro e wA ⟨rfl, n, rfl⟩)
    | (go_at_call 116; refine (HR.out _ (by exact HW.out)).mono ?_; rintro e wB ⟨rfl, hk, hw⟩))
  go_wp2
  go_ret
  exact ⟨by rw [H1.out]; rfl, ⟨hk.os, hk.tape, hk.output, hk.size, hk.block⟩, by rw [H2.out]; exact hw⟩

set_option maxHeartbeats 2000000 in
theorem mend11 (T : TickL y) (hW : Whole w g t y.cells) :
    Calls Try.prog 104 #[.pointer (some ⟨g, 0, none⟩), .int .i64 11] w fun e w' => e = .returned (.bool (mendB y 11)) ∧ Kept (fun j => j = g) w w' ∧ Whole w' g t (mendP y 11).cells := by
  have HL := Lib.hid (fun W (h : Whole W g t y.cells) => leastHor_any T h)
  have HR := Lib.hid (fun W (h : Whole W g t y.cells) => raise_any (lHor y) h (show y.cells[15]? = some (.int .i64 y.horizon) from rfl))
  have HW := Lib.hid hW
  have H1 := Lib.hid (show mendB y 11 = highB y.horizon (lHor y) from rfl)
  have H2 := Lib.hid (show (mendP y 11).cells = y.cells.setIfInBounds 15 (.int .i64 (highV y.horizon (lHor y))) from rfl)
  generalize highV y.horizon (lHor y) = m at *
  generalize highB y.horizon (lHor y) = b at *
  generalize lHor y = l at *
  clear hW
  go_enter Try.func104, Try.ntmps104
  go_wp2
  go_region_held3 (fun _ => True) (trivial) (first
    | (go_at_call 123; refine (HL.out _ (by exact HW.out)).mono ?_; rintro e wA ⟨rfl, n, rfl⟩)
    | (go_at_call 116; refine (HR.out _ (by exact HW.out)).mono ?_; rintro e wB ⟨rfl, hk, hw⟩))
  go_wp2
  go_ret
  exact ⟨by rw [H1.out]; rfl, ⟨hk.os, hk.tape, hk.output, hk.size, hk.block⟩, by rw [H2.out]; exact hw⟩

set_option maxHeartbeats 1000000 in
theorem mend1 (hW : Whole w g t y.cells) :
    Calls Try.prog 104 #[.pointer (some ⟨g, 0, none⟩), .int .i64 1] w fun e w' => e = .returned (.bool (mendB y 1)) ∧ Kept (fun j => j = g) w w' ∧ Whole w' g t (mendP y 1).cells := by
  have HW := Lib.hid hW
  have H1 := Lib.hid (show mendB y 1 = false from rfl)
  have H2 := Lib.hid (show mendP y 1 = y from rfl)
  clear hW
  go_enter Try.func104, Try.ntmps104
  go_wp2
  go_ret
  exact ⟨by rw [H1.out]; rfl, Kept.refl _ _, by rw [H2.out]; exact HW.out⟩

set_option maxHeartbeats 1000000 in
theorem mend2 (hW : Whole w g t y.cells) :
    Calls Try.prog 104 #[.pointer (some ⟨g, 0, none⟩), .int .i64 2] w fun e w' => e = .returned (.bool (mendB y 2)) ∧ Kept (fun j => j = g) w w' ∧ Whole w' g t (mendP y 2).cells := by
  have HW := Lib.hid hW
  have H1 := Lib.hid (show mendB y 2 = false from rfl)
  have H2 := Lib.hid (show mendP y 2 = y from rfl)
  clear hW
  go_enter Try.func104, Try.ntmps104
  go_wp2
  go_ret
  exact ⟨by rw [H1.out]; rfl, Kept.refl _ _, by rw [H2.out]; exact HW.out⟩

set_option maxHeartbeats 1000000 in
theorem mend3 (hW : Whole w g t y.cells) :
    Calls Try.prog 104 #[.pointer (some ⟨g, 0, none⟩), .int .i64 3] w fun e w' => e = .returned (.bool (mendB y 3)) ∧ Kept (fun j => j = g) w w' ∧ Whole w' g t (mendP y 3).cells := by
  have HW := Lib.hid hW
  have H1 := Lib.hid (show mendB y 3 = false from rfl)
  have H2 := Lib.hid (show mendP y 3 = y from rfl)
  clear hW
  go_enter Try.func104, Try.ntmps104
  go_wp2
  go_ret
  exact ⟨by rw [H1.out]; rfl, Kept.refl _ _, by rw [H2.out]; exact HW.out⟩

set_option maxHeartbeats 1000000 in
theorem mend9 (hW : Whole w g t y.cells) :
    Calls Try.prog 104 #[.pointer (some ⟨g, 0, none⟩), .int .i64 9] w fun e w' => e = .returned (.bool (mendB y 9)) ∧ Kept (fun j => j = g) w w' ∧ Whole w' g t (mendP y 9).cells := by
  have HW := Lib.hid hW
  have H1 := Lib.hid (show mendB y 9 = false from rfl)
  have H2 := Lib.hid (show mendP y 9 = y from rfl)
  clear hW
  go_enter Try.func104, Try.ntmps104
  go_wp2
  go_ret
  exact ⟨by rw [H1.out]; rfl, Kept.refl _ _, by rw [H2.out]; exact HW.out⟩

/-- The first condition that does not hold, mended. -/
theorem mend_any {r : Nat} (h1 : 1 ≤ r) (h2 : r ≤ 11) (hp : ∀ j, 1 ≤ j → j < r → holdL y j) (hW : Whole w g t y.cells) :
    Calls Try.prog 104 #[.pointer (some ⟨g, 0, none⟩), .int .i64 (r : Int)] w fun e w' => e = .returned (.bool (mendB y r)) ∧ Kept (fun j => j = g) w w' ∧ Whole w' g t (mendP y r).cells := by
  have hT : 3 < r → TickL y := fun h => tick_three (hp 1 (by omega) (by omega)) (hp 2 (by omega) (by omega)) (hp 3 (by omega) (by omega))
  have : r = 1 ∨ r = 2 ∨ r = 3 ∨ r = 4 ∨ r = 5 ∨ r = 6 ∨ r = 7 ∨ r = 8 ∨ r = 9 ∨ r = 10 ∨ r = 11 := by omega
  rcases this with rfl | rfl | rfl | rfl | rfl | rfl | rfl | rfl | rfl | rfl | rfl
  · exact mend1 hW
  · exact mend2 hW
  · exact mend3 hW
  · exact mend4 (hT (by omega)) hW
  · have T := hT (by omega)
    obtain ⟨p1, p2⟩ := pi_of T (hp 4 (by omega) (by omega))
    exact mend5 T p1 p2 hW
  · exact mend6 (hT (by omega)) hW
  · have T := hT (by omega)
    obtain ⟨p1, p2⟩ := pi_of T (hp 4 (by omega) (by omega))
    obtain ⟨w1, w2⟩ := win_of T (hp 4 (by omega) (by omega)) (hp 5 (by omega) (by omega))
    obtain ⟨k1, k2⟩ := cap_of T (hp 6 (by omega) (by omega))
    exact mend7 p1 p2 w1 w2 k1 k2 hW
  · have T := hT (by omega)
    obtain ⟨p1, p2⟩ := pi_of T (hp 4 (by omega) (by omega))
    obtain ⟨w1, w2⟩ := win_of T (hp 4 (by omega) (by omega)) (hp 5 (by omega) (by omega))
    obtain ⟨k1, k2⟩ := cap_of T (hp 6 (by omega) (by omega))
    obtain ⟨s1, s2⟩ := send_of T (hp 4 (by omega) (by omega)) (hp 5 (by omega) (by omega)) (hp 6 (by omega) (by omega)) (hp 7 (by omega) (by omega))
    exact mend8 T p1 p2 w1 w2 k1 k2 s1 s2 hW
  · exact mend9 hW
  · have T := hT (by omega)
    obtain ⟨p1, p2⟩ := pi_of T (hp 4 (by omega) (by omega))
    exact mend10 T (hp 9 (by omega) (by omega)) p1 p2 hW
  · exact mend11 (hT (by omega)) hW
end
end Go.Proofs.Ytljcaigaofalbaa

namespace Go.Proofs.Ytljcaigaofalbaa
open Go.RowKit Go.Shelf

/-- A draft that the loop comes to. -/
def OnL (x y : Pl) : Prop := (BaseL x ∧ MidL x y) ∨ (¬ BaseL x ∧ y = wishL x 1)
theorem on_begun (x : Pl) : OnL x (wishL x 1) := by
  by_cases h : BaseL x
  · exact .inl ⟨h, mid_begun h⟩
  · exact .inr ⟨h, rfl⟩
theorem on_done {x y : Pl} (h : OnL x y) (k : failsL y 11 = 0) : ∃ L, FitOk x L ∧ y = withL x L := by
  have hf := failsL_first y (last := 11) (by omega)
  rw [k] at hf
  rcases hf with ⟨_, hh⟩ | ⟨hh, _⟩
  · rcases h with ⟨hB, s, so, wi, pi, ca, de, ho, rfl, i⟩ | ⟨hB, rfl⟩
    · obtain ⟨a, b⟩ := mid_done hB i hh
      exact ⟨s, a, b⟩
    · exact absurd ⟨⟨hh 1 (by omega) (by omega), hh 2 (by omega) (by omega)⟩, (hh 3 (by omega) (by omega)).2⟩ hB
  · omega
structure StepL (x y : Pl) (r : Nat) : Prop where
  h1 : 1 ≤ r
  h2 : r ≤ 11
  hp : ∀ j, 1 ≤ j → j < r → holdL y j
  yes : mendB y r = true → OnL x (mendP y r) ∧ sumL y < sumL (mendP y r) ∧ sumL (mendP y r) ≤ 70000000000
  no : mendB y r = false → ¬ ∃ L, FitOk x L
theorem on_step {x y : Pl} (h : OnL x y) (k : failsL y 11 ≠ 0) : StepL x y (failsL y 11) := by
  have hf := failsL_first y (last := 11) (by omega)
  generalize failsL y 11 = r at *
  rcases hf with ⟨e, _⟩ | ⟨h1, h2, hn, hp⟩
  · exact absurd e k
  · refine (fun (g : (mendB y r = true → OnL x (mendP y r) ∧ sumL y < sumL (mendP y r) ∧ sumL (mendP y r) ≤ 70000000000) ∧ (mendB y r = false → ¬ ∃ L, FitOk x L)) => ⟨h1, h2, hp, g.1, g.2⟩) ?_
    rcases h with ⟨hB, s, so, wi, pi, ca, de, ho, rfl, i⟩ | ⟨hB, rfl⟩
    · obtain ⟨a, b⟩ := mid_step hB i h1 h2 hn hp
      exact ⟨fun e => ⟨.inl ⟨hB, (a e).1⟩, (a e).2, (a e).1.sum.2⟩, b⟩
    · have hr : r ≤ 3 := by
        by_cases g : r ≤ 3
        · exact g
        · exact absurd ⟨⟨hp 1 (by omega) (by omega), hp 2 (by omega) (by omega)⟩, (hp 3 (by omega) (by omega)).2⟩ hB
      have : r = 1 ∨ r = 2 ∨ r = 3 := by omega
      have hm : mendB (wishL x 1) r = false := by rcases this with rfl | rfl | rfl <;> rfl
      rw [hm]
      exact ⟨fun e => (by cases e), fun _ g => g.elim fun L q => hB q.2.2.2.2.1⟩

/-- How far a draft is from the most that it may come to, read off its block. -/
def leftW (g : Nat) (V : World) : Nat := match V.heap[g]? with
  | some (.cells cs _ _) => (70000000000 - (intOf (cs.getD 2 undef) + intOf (cs.getD 3 undef) + intOf (cs.getD 4 undef) + intOf (cs.getD 9 undef) + intOf (cs.getD 10 undef) + intOf (cs.getD 11 undef) + intOf (cs.getD 15 undef))).toNat
  | _ => 0
theorem leftW_eq {V : World} {g : Nat} {t : TypeId} {y : Pl} (h : Whole V g t y.cells) : leftW g V = (70000000000 - sumL y).toNat := by
  unfold leftW
  rw [show V.heap[g]? = _ from h]
  rfl

/-- A plan out of its cell, and a number behind it. -/
theorem results_cell_tmp {P : Program} {fn : Func} {p q : Tmp} {ty : TypeId} (h : fn.results = #[.cell p ty, .tmp q]) (tmps : Array Value) (w : World) (g : Nat) (t : TypeId) (cs : Array Value) (fr : Nat × Nat) (d : TypeDesc)
    (hp : tmps.getD p undef = .pointer (some ⟨g, 0, none⟩)) {v : Value} (hv : tmps.getD q undef = v) (hg : w.heap[g]? = some (.cells cs t fr))
    (hu : P.underlying ty = some d) (hd : (match d with | .struct _ | .array _ _ => true | _ => false) = true) (hi : (P.info? ty).map (·.size) = some cs.size) :
    (results fn tmps).run P w = .ok (.tuple #[.agg cs, v]) w := by
  subst hv
  have hp' : tmps[p]?.getD undef = .pointer (some ⟨g, 0, none⟩) := by simpa using hp
  simp [results, h, hp', asAddr, run_loadVar_row w g t ty cs fr d hg hu hd hi]

set_option maxRecDepth 100000 in
set_option maxHeartbeats 1000000 in
theorem begun_any (x : Pl) (w : World) : Calls Try.prog 103 #[.agg x.cells] w fun e w' => e = .returned (.agg (wishL x 1).cells) ∧ Below w.heap.size w w' := by
  obtain ⟨⟨z0, z1, _, _⟩, ⟨_, z5, z6, z7⟩, ⟨z8, _⟩, ⟨z12, z13, z14, _⟩⟩ := x.at
  have HS := Lib.hid (wishL x 1).cellsL
  have HB := Lib.hid (((Below.refl w.heap.size w).alloc (Nat.le_refl _) (.cells x.cells 23)).alloc (by simp) (.cells (wishL x 1).cells 122))
  have hW := Whole.new (w.alloc (.cells x.cells 23)) 122 (wishL x 1).cells
  rw [World.size_alloc] at hW
  have HW := Lib.hid hW
  clear hW
  generalize x.cells = cs at *
  go_enter Try.func103, Try.ntmps103
  go_wp2_with (refine wpList_store_last rfl 122 _ _ rfl _ (wishL x 1).cells rfl rfl 122 _ (by simp) HS.out.draft rfl HS.out.one ?_)
  refine bodyPost_ret (v := .agg (wishL x 1).cells) (results_cell_row rfl _ _ _ 122 (wishL x 1).cells (0, 0) _ rfl HW.out Try.underlying122 rfl HS.out.draft) rfl ⟨rfl, HB.out⟩

noncomputable def fitV (x : Pl) : Value := .tuple #[.agg (fitP x).cells, .int .i64 (fitE x)]

/-- The plan's box, and the answer's cell behind it. -/
theorem fit_frame (x : Pl) (w : World) : Below w.heap.size w ((w.alloc (.cells x.cells 23)).alloc (.cells zeroL.cells 23)) ∧
    Whole ((w.alloc (.cells x.cells 23)).alloc (.cells zeroL.cells 23)) w.heap.size 23 x.cells ∧
    Whole ((w.alloc (.cells x.cells 23)).alloc (.cells zeroL.cells 23)) (w.heap.size + 1) 23 zeroL.cells := by
  have hz := Whole.new (w.alloc (.cells x.cells 23)) 23 zeroL.cells
  rw [World.size_alloc] at hz
  exact ⟨((Below.refl _ _).alloc (Nat.le_refl _) _).alloc (by simp) _, (Whole.new w _ _).alloc _, hz⟩

theorem below_kept {S : Nat → Prop} {n : Nat} {a b c : World} (h : Below n a b) (k : Kept S b c) (hS : ∀ i, S i → n ≤ i) (hn : n ≤ b.heap.size) : Below n a c :=
  h.trans ⟨k.os, k.tape, k.output, k.size, fun i hi => k.block i (by omega) (fun hs => by have := hS i hs; omega)⟩

set_option maxRecDepth 100000 in
set_option maxHeartbeats 4000000 in
theorem Fit_any (x : Pl) (w : World) : Calls Try.prog 77 #[.agg x.cells] w fun e w' => e = .returned (fitV x) ∧ Below w.heap.size w w' := by
  have HX := Lib.hid (fit_frame x w)
  have HS := Lib.hid x.cellsL
  have HY := Lib.hid (wishL x 1).cellsL
  have HG := Lib.hid (fun W => begun_any x W)
  have HV := Lib.hid (show fitV x = .tuple #[.agg (fitP x).cells, .int .i64 (fitE x)] from rfl)
  have HF := Lib.hid (fun (y : Pl) (g : Nat) W (h : Whole W g 122 y.cells) => fails11 W h)
  have HM := Lib.hid (fun (y : Pl) (g : Nat) W (k : StepL x y (failsL y 11)) (h : Whole W g 122 y.cells) => mend_any k.h1 k.h2 k.hp h)
  go_enter Try.func77, Try.ntmps77
  go_upto_region 1 with fail
  obtain ⟨hb, h1, h2⟩ := HX.out
  change Code.wp _ _ _ _ ((w.alloc (.cells x.cells 23)).alloc (.cells zeroL.cells 23))
  generalize (w.alloc (.cells x.cells 23)).alloc (.cells zeroL.cells 23) = w1 at *
  have HB1 := Lib.hid hb
  have H1 := Lib.hid h1
  have H2 := Lib.hid h2
  clear hb h1 h2 HX
  go_upto_region 2 with (first
    | (refine wpList_load_row rfl 23 _ rfl _ rfl 23 x.cells (0, 0) _ H1.out Try.underlying23 rfl HS.out.plan ?_)
    | (refine wpList_store_last rfl 122 _ _ rfl _ (wishL x 1).cells rfl rfl 122 _ rfl HY.out.draft rfl HY.out.one ?_)
    | (go_at_call 103; refine (HG.out _).mono ?_; rintro e w2 ⟨rfl, hb2⟩))
  have hd := Whole.new w2 122 (wishL x 1).cells
  have hz0 := k_later hb2 H2.out
  have hk0 := k_then hb2 HB1.out
  have hne : w.heap.size + 1 < w2.heap.size := hz0.lt
  have hz := hz0.alloc (.cells (wishL x 1).cells 122)
  have hk := hk0.alloc hk0.size (.cells (wishL x 1).cells 122)
  generalize w2.alloc (.cells (wishL x 1).cells 122) = w3 at *
  generalize w2.heap.size = g0 at *
  clear hz0 hk0 hb2 H1 H2 HB1 HG HS HY
  have HD := Lib.hid hd
  have HZ := Lib.hid hz
  have HK := Lib.hid hk
  clear hd hz hk
  go_wp2_with (go_at_call 78; refine (HF.out (wishL x 1) g0 _ HD.out).mono ?_; rintro e w4 ⟨rfl, hb4⟩)
  go_loopw [5] (fun f V => ∃ y : Pl, f = .int .i64 ((failsL y 11 : Nat) : Int) ∧ OnL x y ∧ Whole V g0 122 y.cells ∧ Whole V (w.heap.size + 1) 23 zeroL.cells ∧ Below w.heap.size w V) (fun _ V => leftW g0 V)
  case atStart => exact ⟨wishL x 1, rfl, on_begun x, k_later hb4 HD.out, k_later hb4 HZ.out, k_then hb4 HK.out⟩
  case round =>
    obtain ⟨y, rfl, hon, hd, hz, hk⟩ := hrel
    have HD1 := Lib.hid hd
    have HZ1 := Lib.hid hz
    have HK1 := Lib.hid hk
    clear hd hz hk hb4 HD HZ HK
    by_cases h0 : failsL y 11 = 0
    · obtain ⟨L, hL, hy⟩ := on_done hon h0
      have HVy := Lib.hid (show fitV x = .tuple #[.agg y.cells, .int .i64 0] by rw [fitV, (fit_yes hL).1, (fit_yes hL).2, hy])
      have HC := Lib.hid y.cellsL
      rw [h0]
      clear h0 hon hL hy
      go_wp2_with (first
        | (refine wpList_load_row rfl 122 _ rfl _ rfl 122 y.cells (0, 0) _ HD1.out Try.underlying122 rfl HC.out.draft ?_)
        | (refine wpList_store_row rfl 23 _ _ rfl _ y.cells rfl rfl 23 zeroL.cells HZ1.out HC.out.plan rfl HC.out.one ?_))
      refine bodyPost_ret (v := fitV x) (by rw [HVy.out]; exact results_cell_tmp rfl _ _ _ 23 y.cells (0, 0) _ rfl rfl (setRow_heap _ _ _ _ _ _ HZ1.out) Try.underlying23 rfl HC.out.plan) rfl ⟨rfl, ?_⟩
      exact below_setRow HK1.out (by omega)
    · have K := on_step hon h0
      have e1 : (((failsL y 11 : Nat) : Int) == 0) = false := by rw [beq_eq_false_iff_ne]; omega
      have HMy := Lib.hid (HM.out y g0 wr K HD1.out)
      have hl := leftW_eq HD1.out
      clear h0 hon
      generalize failsL y 11 = r at *
      cases hmb : mendB y r
      · have HVz := Lib.hid (show fitV x = .tuple #[.agg zeroL.cells, .int .i64 71] by rw [fitV, (fit_no (K.no hmb)).1, (fit_no (K.no hmb)).2])
        rw [hmb] at HMy
        have HC := Lib.hid zeroL.cellsL
        clear hl K hmb
        go_wp2_with (first
          | (go_at_call 104; refine HMy.out.mono ?_; rintro e w5 ⟨rfl, hk5, hd5⟩; have HK5 := Lib.hid (below_kept HK1.out hk5 (fun i hi => by omega) HK1.out.size); have HZ5 := Lib.hid (HZ1.out.kept hk5 (by omega)))
          | (refine wpList_store_row rfl 23 _ _ rfl _ zeroL.cells rfl rfl 23 zeroL.cells HZ5.out HC.out.plan rfl HC.out.one ?_))
        refine bodyPost_ret (v := fitV x) (by rw [HVz.out]; exact results_cell_tmp rfl _ _ _ 23 zeroL.cells (0, 0) _ rfl rfl (setRow_heap _ _ _ _ _ _ HZ5.out) Try.underlying23 rfl HC.out.plan) rfl ⟨rfl, ?_⟩
        exact below_setRow HK5.out (by omega)
      · rw [hmb] at HMy
        obtain ⟨ka, kb, kc⟩ := K.yes hmb
        have HKa := Lib.hid ka
        have HKb := Lib.hid kb
        have HKc := Lib.hid kc
        have HLl := Lib.hid hl
        clear hl K hmb ka kb kc
        go_wp2_with (first
          | (go_at_call 104; refine HMy.out.mono ?_; rintro e w5 ⟨rfl, hk5, hd5⟩; have HK5 := Lib.hid (below_kept HK1.out hk5 (fun i hi => by omega) HK1.out.size); have HZ5 := Lib.hid (HZ1.out.kept hk5 (by omega)); have HD5 := Lib.hid hd5; clear hk5 hd5)
          | (go_at_call 78; refine (HF.out (mendP y r) g0 _ HD5.out).mono ?_; rintro e w6 ⟨rfl, hb6⟩))
        go_roundw
        case rel => exact ⟨mendP y r, rfl, HKa.out, k_later hb6 HD5.out, k_later hb6 HZ5.out, k_then hb6 HK5.out⟩
        case measure =>
          have e2 := leftW_eq (k_later hb6 HD5.out)
          have := HLl.out
          have := HKb.out
          have := HKc.out
          show leftW g0 _ < leftW g0 _
          omega

end Go.Proofs.Ytljcaigaofalbaa
