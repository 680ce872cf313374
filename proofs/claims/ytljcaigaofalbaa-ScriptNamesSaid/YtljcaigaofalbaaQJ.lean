/- A script as data; what may be, its bytes, and what bytes say. Plain; no condition. | A script is read from its bytes as it was; rates and when nodes are switched on hang on the first bytes alone. Plain; no condition. | Slices of structs in memory, and a script there; an argument that is a script, opened. No condition. | Arguments of script's laws, opened: bytes, beside plans and scripts. No condition. -/
import Derived.Deep.Slices
import Derived.Deep.Fields
import Derived.ChangeSame
import Derived.Test.YtljcaigaofalbaaQA
import Derived.Test.YtljcaigaofalbaaQD
namespace Go.Proofs.Ytljcaigaofalbaa
open Go.RowKit

/-- A happening: kind, node, time, payload. -/
structure Hp where
  k : Int
  n : Int
  t : Int
  pl : List UInt8
deriving DecidableEq
/-- A fault: sender, number, receiver, channels; is it a cut? -/
structure Ft where
  s : Int
  n : Int
  r : Int
  c : Int
  cut : Bool
deriving DecidableEq
/-- A script; a rate is its Num and its Den. -/
structure Sc where
  rates : List (Int × Int)
  on : List Int
  delays : List Int
  haps : List Hp
  faults : List Ft
deriving DecidableEq
instance : Inhabited Hp := ⟨⟨0, 0, 0, []⟩⟩
instance : Inhabited Ft := ⟨⟨0, 0, 0, 0, false⟩⟩

def drL (x : Pl) : Int := 65536 / x.rho
def lateL (x : Pl) : Int := 4 * rdL x
def okRate (x : Pl) (r : Int × Int) : Bool := decide (r.2 = 65536) && (decide (65536 - drL x ≤ r.1) && decide (r.1 ≤ 65536 + drL x))
def okOn (x : Pl) (o : Int) : Bool := decide (-1 ≤ o) && decide (o ≤ lateL x)
def okDel (x : Pl) (d : Int) : Bool := decide (0 ≤ d) && decide (d ≤ x.dmax - x.dmin)
def okHap (x : Pl) (h : Hp) : Bool := (decide (0 ≤ h.k) && decide (h.k ≤ 2)) && ((decide (0 ≤ h.n) && decide (h.n < x.nodes)) && ((decide (0 ≤ h.t) && decide (h.t ≤ x.horizon)) && (decide (h.pl.length ≤ 255) && (decide (h.k = 2) || decide (h.pl.length = 0)))))
def okFt (x : Pl) (f : Ft) : Bool := (decide (0 ≤ f.s) && decide (f.s < x.nodes)) && ((decide (0 ≤ f.n) && decide (f.n ≤ 65535)) && ((decide (0 ≤ f.r) && decide (f.r ≤ x.nodes)) && (decide (1 ≤ f.c) && decide (f.c ≤ 3))))
def lensB (x : Pl) (s : Sc) : Bool := (decide ((s.rates.length : Int) = x.nodes) && decide ((s.on.length : Int) = x.nodes)) && (decide (s.delays.length ≤ 256) && (decide (s.haps.length ≤ 64) && decide (s.faults.length ≤ 64)))
/-- May it be, of a plan that may be? -/
def okS (x : Pl) (s : Sc) : Bool := lensB x s && (s.rates.all (okRate x) && (s.on.all (okOn x) && (s.delays.all (okDel x) && (s.haps.all (okHap x) && s.faults.all (okFt x)))))

theorem okRate_iff {x : Pl} {r : Int × Int} : okRate x r = true ↔ r.2 = 65536 ∧ 65536 - drL x ≤ r.1 ∧ r.1 ≤ 65536 + drL x := by simp [okRate]
theorem okOn_iff {x : Pl} {o : Int} : okOn x o = true ↔ -1 ≤ o ∧ o ≤ lateL x := by simp [okOn]
theorem okDel_iff {x : Pl} {d : Int} : okDel x d = true ↔ 0 ≤ d ∧ d ≤ x.dmax - x.dmin := by simp [okDel]
theorem okHap_iff {x : Pl} {h : Hp} : okHap x h = true ↔ 0 ≤ h.k ∧ h.k ≤ 2 ∧ 0 ≤ h.n ∧ h.n < x.nodes ∧ 0 ≤ h.t ∧ h.t ≤ x.horizon ∧ h.pl.length ≤ 255 ∧ (h.k = 2 ∨ h.pl.length = 0) := by
  simp only [okHap, Bool.and_eq_true, Bool.or_eq_true, decide_eq_true_eq, and_assoc]
theorem okFt_iff {x : Pl} {f : Ft} : okFt x f = true ↔ 0 ≤ f.s ∧ f.s < x.nodes ∧ 0 ≤ f.n ∧ f.n ≤ 65535 ∧ 0 ≤ f.r ∧ f.r ≤ x.nodes ∧ 1 ≤ f.c ∧ f.c ≤ 3 := by
  simp only [okFt, Bool.and_eq_true, decide_eq_true_eq, and_assoc]
theorem okS_iff {x : Pl} {s : Sc} : okS x s = true ↔ (s.rates.length : Int) = x.nodes ∧ (s.on.length : Int) = x.nodes ∧ s.delays.length ≤ 256 ∧ s.haps.length ≤ 64 ∧ s.faults.length ≤ 64 ∧
    (∀ r ∈ s.rates, okRate x r = true) ∧ (∀ r ∈ s.on, okOn x r = true) ∧ (∀ r ∈ s.delays, okDel x r = true) ∧ (∀ r ∈ s.haps, okHap x r = true) ∧ (∀ r ∈ s.faults, okFt x r = true) := by
  simp only [okS, lensB, Bool.and_eq_true, decide_eq_true_eq, List.all_eq_true, and_assoc]

/-- A number's bytes. -/
def be (w : Nat) (n : Int) : List UInt8 := beBytes w n.toNat
theorem be_length (w : Nat) (n : Int) : (be w n).length = w := beBytes_length _ _
def headE1 (x : Pl) (r : (Int × Int) × Int) : List UInt8 := be 4 (r.1.1 - (65536 - drL x)) ++ be 4 (r.2 + 1)
def headE (x : Pl) (s : Sc) : List UInt8 := (s.rates.zip s.on).flatMap (headE1 x)
def delE (d : Int) : List UInt8 := be 4 d
def hapE (h : Hp) : List UInt8 := be 1 h.k ++ be 1 h.n ++ be 4 h.t ++ (if h.k = 2 then be 1 h.pl.length ++ h.pl else [])
def ftE (f : Ft) : List UInt8 := be 1 3 ++ be 1 f.s ++ be 2 f.n ++ be 1 f.r ++ be 1 (f.c - 1) ++ be 1 (if f.cut then 1 else 0)
/-- A script's bytes. -/
def encS (x : Pl) (s : Sc) : List UInt8 := headE x s ++ (be 2 s.delays.length ++ (s.delays.flatMap delE ++ (s.haps.flatMap hapE ++ s.faults.flatMap ftE)))

/-- The next bytes, noughts behind the end. -/
def pad (w : Nat) (l : List UInt8) : List UInt8 := (List.range w).map fun i => l.getD i 0
/-- The next number, folded. -/
def num (w : Nat) (m : Int) (l : List UInt8) : Int := (beVal (pad w l) : Int) % m
theorem num_lt {w : Nat} {m : Int} {l : List UInt8} (h : 0 < m) : 0 ≤ num w m l ∧ num w m l < m := ⟨Int.emod_nonneg _ (by omega), Int.emod_lt_of_pos _ h⟩

/-- What stands next, and what is left. -/
def oneE (x : Pl) (l : List UInt8) : Sum Hp Ft × List UInt8 :=
  if num 1 4 l = 3 then (.inr ⟨num 1 x.nodes (l.drop 1), num 2 65536 (l.drop 2), num 1 (x.nodes + 1) (l.drop 4), 1 + num 1 3 (l.drop 5), decide (num 1 2 (l.drop 6) = 1)⟩, l.drop 7)
  else if num 1 4 l = 2 then (.inl ⟨2, num 1 x.nodes (l.drop 1), num 4 (x.horizon + 1) (l.drop 2), (l.drop 7).take (num 1 256 (l.drop 6)).toNat⟩, l.drop (7 + (num 1 256 (l.drop 6)).toNat))
  else (.inl ⟨num 1 4 l, num 1 x.nodes (l.drop 1), num 4 (x.horizon + 1) (l.drop 2), []⟩, l.drop 6)
theorem oneE_less (x : Pl) {l : List UInt8} (h : l ≠ []) : (oneE x l).2.length < l.length := by
  have : 0 < l.length := List.length_pos_iff.2 h
  unfold oneE
  split
  · simp; omega
  · split
    · simp; omega
    · simp; omega
def entsF (x : Pl) : Nat → List UInt8 → List (Sum Hp Ft)
  | 0, _ => []
  | n + 1, l => if l = [] then [] else (oneE x l).1 :: entsF x n (oneE x l).2
/-- All that stands there, up to the end. -/
def entsL (x : Pl) (l : List UInt8) : List (Sum Hp Ft) := entsF x l.length l
theorem entsF_more (x : Pl) : ∀ (n m : Nat) (l : List UInt8), l.length ≤ n → l.length ≤ m → entsF x n l = entsF x m l
  | 0, 0, _, _, _ => rfl
  | 0, m + 1, l, h, _ => by
    obtain rfl : l = [] := List.eq_nil_of_length_eq_zero (by omega)
    simp [entsF]
  | n + 1, 0, l, _, h => by
    obtain rfl : l = [] := List.eq_nil_of_length_eq_zero (by omega)
    simp [entsF]
  | n + 1, m + 1, l, h1, h2 => by
    unfold entsF
    by_cases h : l = []
    · simp [h]
    · rw [if_neg h, if_neg h, entsF_more x n m _ (by have := oneE_less x h; omega) (by have := oneE_less x h; omega)]
theorem ents_nil (x : Pl) : entsL x [] = [] := rfl
theorem ents_step (x : Pl) {l : List UInt8} (h : l ≠ []) : entsL x l = (oneE x l).1 :: entsL x (oneE x l).2 := by
  have h1 := oneE_less x h
  unfold entsL
  rw [entsF_more x l.length (l.length - 1 + 1) l (Nat.le_refl _) (by omega)]
  rw [show entsF x (l.length - 1 + 1) l = if l = [] then [] else (oneE x l).1 :: entsF x (l.length - 1) (oneE x l).2 from rfl, if_neg h, entsF_more x (l.length - 1) (oneE x l).2.length _ (by omega) (Nat.le_refl _)]
def hapsOf (es : List (Sum Hp Ft)) : List Hp := es.filterMap Sum.getLeft?
def faultsOf (es : List (Sum Hp Ft)) : List Ft := es.filterMap Sum.getRight?
def rateD (x : Pl) (l : List UInt8) (i : Nat) : Int × Int := (65536 - drL x + num 4 (2 * drL x + 1) (l.drop (8 * i)), 65536)
def onD (x : Pl) (l : List UInt8) (i : Nat) : Int := num 4 (lateL x + 2) (l.drop (8 * i + 4)) - 1
def manyD (x : Pl) (l : List UInt8) : Nat := (num 2 257 (l.drop (8 * x.nodes.toNat))).toNat
def delD (x : Pl) (l : List UInt8) (i : Nat) : Int := num 4 (x.dmax - x.dmin + 1) (l.drop (8 * x.nodes.toNat + 2 + 4 * i))
def restD (x : Pl) (l : List UInt8) : List UInt8 := l.drop (8 * x.nodes.toNat + 2 + 4 * manyD x l)
/-- What bytes say. -/
def decS (x : Pl) (l : List UInt8) : Sc :=
  ⟨(List.range x.nodes.toNat).map (rateD x l), (List.range x.nodes.toNat).map (onD x l), (List.range (manyD x l)).map (delD x l), (hapsOf (entsL x (restD x l))).take 64, (faultsOf (entsL x (restD x l))).take 64⟩

/-- Bounds of a plan that may be. -/
structure OkP (x : Pl) : Prop where
  n1 : 4 ≤ x.nodes
  n2 : x.nodes ≤ 16
  d1 : 0 ≤ x.dmin
  d2 : x.dmin ≤ x.dmax
  d3 : x.dmax ≤ 1048576
  s1 : 1 ≤ x.slot
  s2 : x.slot ≤ 1048576
  r1 : 4 ≤ x.rho
  r2 : x.rho ≤ 1048576
  h1 : 40 * rdL x ≤ x.horizon
  h2 : x.horizon ≤ 2147483648
section
variable {x : Pl}
theorem OkP.drift (h : OkP x) : 0 ≤ drL x ∧ drL x ≤ 16384 := by
  have h1 := h.r1; have h2 := h.r2
  unfold drL
  exact ⟨Int.ediv_nonneg (by omega) (by omega), Int.ediv_le_of_le_mul (by omega) (by omega)⟩
theorem OkP.round (h : OkP x) : 4 ≤ rdL x ∧ rdL x ≤ 16777216 := by
  have h1 := h.n1; have h2 := h.n2; have h3 := h.s1; have h4 := h.s2
  unfold rdL
  constructor
  · have := Int.mul_le_mul h1 h3 (by omega) (by omega); omega
  · have := Int.mul_le_mul h2 h4 (by omega) (by omega); omega
theorem OkP.hor (h : OkP x) : 160 ≤ x.horizon := by have := h.h1; have := h.round; omega

theorem oneE_hap (h : OkP x) {l : List UInt8} {y : Hp} (e : (oneE x l).1 = .inl y) : okHap x y = true := by
  have h1 := h.n1; have h2 := h.n2; have h3 := h.hor
  have a := num_lt (w := 1) (l := l) (show (0 : Int) < 4 by omega)
  have b := num_lt (w := 1) (l := l.drop 1) (show (0 : Int) < x.nodes by omega)
  have c := num_lt (w := 4) (l := l.drop 2) (show (0 : Int) < x.horizon + 1 by omega)
  have d := num_lt (w := 1) (l := l.drop 6) (show (0 : Int) < 256 by omega)
  unfold oneE at e
  split at e
  · cases e
  · split at e
    · cases e
      have : ((List.drop 7 l).take (num 1 256 (List.drop 6 l)).toNat).length ≤ 255 := by rw [List.length_take]; omega
      rw [okHap_iff]
      exact ⟨by show (0 : Int) ≤ 2; omega, by show (2 : Int) ≤ 2; omega, b.1, b.2, c.1, by show num 4 (x.horizon + 1) (List.drop 2 l) ≤ _; omega, this, .inl rfl⟩
    · cases e
      rw [okHap_iff]
      exact ⟨a.1, by show num 1 4 l ≤ 2; omega, b.1, b.2, c.1, by show num 4 (x.horizon + 1) (List.drop 2 l) ≤ _; omega, by simp, .inr rfl⟩
theorem oneE_ft (h : OkP x) {l : List UInt8} {y : Ft} (e : (oneE x l).1 = .inr y) : okFt x y = true := by
  have h1 := h.n1; have h2 := h.n2
  have b := num_lt (w := 1) (l := l.drop 1) (show (0 : Int) < x.nodes by omega)
  have c := num_lt (w := 2) (l := l.drop 2) (show (0 : Int) < 65536 by omega)
  have d := num_lt (w := 1) (l := l.drop 4) (show (0 : Int) < x.nodes + 1 by omega)
  have f := num_lt (w := 1) (l := l.drop 5) (show (0 : Int) < 3 by omega)
  unfold oneE at e
  split at e
  · cases e
    rw [okFt_iff]
    exact ⟨b.1, b.2, c.1, by show num 2 65536 (List.drop 2 l) ≤ _; omega, d.1, by show num 1 (x.nodes + 1) (List.drop 4 l) ≤ _; omega, by show 1 ≤ 1 + num 1 3 (List.drop 5 l); omega, by show 1 + num 1 3 (List.drop 5 l) ≤ 3; omega⟩
  · split at e <;> cases e
theorem entsF_ok (h : OkP x) : ∀ (n : Nat) (l : List UInt8), (hapsOf (entsF x n l)).all (okHap x) = true ∧ (faultsOf (entsF x n l)).all (okFt x) = true
  | 0, _ => ⟨rfl, rfl⟩
  | n + 1, l => by
    unfold entsF
    by_cases hl : l = []
    · rw [if_pos hl]; exact ⟨rfl, rfl⟩
    · rw [if_neg hl]
      obtain ⟨i1, i2⟩ := entsF_ok h n (oneE x l).2
      cases hy : (oneE x l).1 with
      | inl y =>
        have := oneE_hap h hy
        exact ⟨by simp [hapsOf, this] at i1 ⊢; exact i1, by simpa [faultsOf] using i2⟩
      | inr y =>
        have := oneE_ft h hy
        exact ⟨by simpa [hapsOf] using i1, by simp [faultsOf, this] at i2 ⊢; exact i2⟩
theorem all_take {α : Type} {p : α → Bool} {l : List α} (h : l.all p = true) (k : Nat) : (l.take k).all p = true := by
  rw [List.all_eq_true] at h ⊢
  exact fun a ha => h a (List.mem_of_mem_take ha)
/-- Any bytes say a script that may be. -/
theorem dec_ok (h : OkP x) (l : List UInt8) : okS x (decS x l) = true := by
  have h1 := h.n1; have h2 := h.n2; have h3 := h.drift; have h4 := h.round; have h5 := h.d1; have h6 := h.d2
  obtain ⟨e1, e2⟩ := entsF_ok h (restD x l).length (restD x l)
  rw [okS_iff]
  refine ⟨?_, ?_, ?_, ?_, ?_, ?_, ?_, ?_, List.all_eq_true.1 (all_take e1 64), List.all_eq_true.1 (all_take e2 64)⟩
  · simp only [decS, List.length_map, List.length_range]; omega
  · simp only [decS, List.length_map, List.length_range]; omega
  · simp only [decS, List.length_map, List.length_range]
    have := num_lt (w := 2) (l := l.drop (8 * x.nodes.toNat)) (show (0 : Int) < 257 by omega)
    unfold manyD; omega
  · simp only [decS, List.length_take]; omega
  · simp only [decS, List.length_take]; omega
  · intro r hr
    obtain ⟨i, _, rfl⟩ := List.mem_map.1 hr
    have := num_lt (w := 4) (l := l.drop (8 * i)) (show (0 : Int) < 2 * drL x + 1 by omega)
    rw [okRate_iff]
    unfold rateD
    exact ⟨rfl, by show 65536 - drL x ≤ 65536 - drL x + num 4 (2 * drL x + 1) (l.drop (8 * i)); omega, by show 65536 - drL x + num 4 (2 * drL x + 1) (l.drop (8 * i)) ≤ _; omega⟩
  · intro r hr
    obtain ⟨i, _, rfl⟩ := List.mem_map.1 hr
    have := num_lt (w := 4) (l := l.drop (8 * i + 4)) (show (0 : Int) < lateL x + 2 by unfold lateL; omega)
    rw [okOn_iff]
    unfold onD
    omega
  · intro r hr
    obtain ⟨i, _, rfl⟩ := List.mem_map.1 hr
    have := num_lt (w := 4) (l := l.drop (8 * x.nodes.toNat + 2 + 4 * i)) (show (0 : Int) < x.dmax - x.dmin + 1 by omega)
    rw [okDel_iff]
    unfold delD
    omega
end
end Go.Proofs.Ytljcaigaofalbaa

namespace Go.Proofs.Ytljcaigaofalbaa
open Go.RowKit

theorem pad_append {w : Nat} {a r : List UInt8} (h : a.length = w) : pad w (a ++ r) = a := by
  unfold pad
  apply List.ext_getElem
  · simp [h]
  · intro i h1 h2
    simp [List.getElem?_append_left h2, List.getElem?_eq_getElem h2]
theorem pad_nil (w : Nat) : pad w [] = List.replicate w 0 := by
  unfold pad
  apply List.ext_getElem <;> simp
theorem num_be {w : Nat} {m n : Int} (r : List UInt8) (h0 : 0 ≤ n) (h1 : n < m) (h2 : n < 2 ^ (8 * w)) : num w m (be w n ++ r) = n := by
  have hn : n.toNat < 2 ^ (8 * w) := by
    have : ((n.toNat : Nat) : Int) < ((2 ^ (8 * w) : Nat) : Int) := by rw [Int.toNat_of_nonneg h0]; simpa using h2
    exact_mod_cast this
  unfold num
  rw [pad_append (be_length w n), be, beVal_beBytes w n.toNat hn, Int.toNat_of_nonneg h0, Int.emod_eq_of_lt h0 h1]
theorem drop_be (w : Nat) (n : Int) (r : List UInt8) : (be w n ++ r).drop w = r := by
  have := be_length w n
  rw [List.drop_append_of_le_length (by omega), List.drop_eq_nil_of_le (by omega), List.nil_append]
theorem drop_more {a : List UInt8} {w : Nat} (r : List UInt8) (h : a.length = w) (k : Nat) : (a ++ r).drop (w + k) = r.drop k := by
  rw [List.drop_append, h, List.drop_eq_nil_of_le (by omega), List.nil_append, Nat.add_sub_cancel_left]
theorem headE1_length (x : Pl) (r : (Int × Int) × Int) : (headE1 x r).length = 8 := by simp [headE1, be_length]
theorem flatMap_drop {α : Type} {g : α → List UInt8} {w : Nat} (hg : ∀ a, (g a).length = w) : ∀ (l : List α) (i : Nat) (r : List UInt8), i ≤ l.length → (l.flatMap g ++ r).drop (w * i) = (l.drop i).flatMap g ++ r
  | l, 0, r, _ => by simp
  | [], i + 1, r, h => by simp at h
  | a :: l, i + 1, r, h => by
    rw [List.flatMap_cons, List.append_assoc, show w * (i + 1) = w + w * i by rw [Nat.mul_succ, Nat.add_comm], drop_more _ (hg a), flatMap_drop hg l i r (by simpa using h), List.drop_succ_cons]
theorem flatMap_len {α : Type} {g : α → List UInt8} {w : Nat} (hg : ∀ a, (g a).length = w) : ∀ (l : List α), (l.flatMap g).length = w * l.length
  | [] => rfl
  | a :: l => by rw [List.flatMap_cons, List.length_append, hg, flatMap_len hg l, List.length_cons, Nat.mul_succ, Nat.add_comm]
theorem drop_eq_cons {α : Type} {l : List α} {i : Nat} (h : i < l.length) : l.drop i = l[i] :: l.drop (i + 1) := List.drop_eq_getElem_cons h

section
variable {x : Pl}
theorem oneE_ft_enc (hx : OkP x) {f : Ft} (h : okFt x f = true) (r : List UInt8) : oneE x (ftE f ++ r) = (.inr f, r) := by
  obtain ⟨s0, s1, n0, n1, r0, r1, c0, c1⟩ := okFt_iff.1 h
  have h1 := hx.n1; have h2 := hx.n2
  have e : ftE f ++ r = be 1 3 ++ (be 1 f.s ++ (be 2 f.n ++ (be 1 f.r ++ (be 1 (f.c - 1) ++ (be 1 (if f.cut then 1 else 0) ++ r))))) := by simp [ftE]
  rw [e]
  have d1 : (be 1 3 ++ (be 1 f.s ++ (be 2 f.n ++ (be 1 f.r ++ (be 1 (f.c - 1) ++ (be 1 (if f.cut then 1 else 0) ++ r)))))).drop 1 = be 1 f.s ++ (be 2 f.n ++ (be 1 f.r ++ (be 1 (f.c - 1) ++ (be 1 (if f.cut then 1 else 0) ++ r)))) := drop_be 1 3 _
  have d2 := drop_more (w := 1) (be 1 f.s ++ (be 2 f.n ++ (be 1 f.r ++ (be 1 (f.c - 1) ++ (be 1 (if f.cut then 1 else 0) ++ r))))) (be_length 1 3) 1
  have d4 := drop_more (w := 1) (be 1 f.s ++ (be 2 f.n ++ (be 1 f.r ++ (be 1 (f.c - 1) ++ (be 1 (if f.cut then 1 else 0) ++ r))))) (be_length 1 3) 3
  have d5 := drop_more (w := 1) (be 1 f.s ++ (be 2 f.n ++ (be 1 f.r ++ (be 1 (f.c - 1) ++ (be 1 (if f.cut then 1 else 0) ++ r))))) (be_length 1 3) 4
  have d6 := drop_more (w := 1) (be 1 f.s ++ (be 2 f.n ++ (be 1 f.r ++ (be 1 (f.c - 1) ++ (be 1 (if f.cut then 1 else 0) ++ r))))) (be_length 1 3) 5
  have d7 := drop_more (w := 1) (be 1 f.s ++ (be 2 f.n ++ (be 1 f.r ++ (be 1 (f.c - 1) ++ (be 1 (if f.cut then 1 else 0) ++ r))))) (be_length 1 3) 6
  rw [drop_be 1 f.s] at d2
  rw [show 3 = 1 + 2 from rfl, drop_more _ (be_length 1 f.s) 2, drop_be 2 f.n] at d4
  rw [show 4 = 1 + 3 from rfl, drop_more _ (be_length 1 f.s) 3, show 3 = 2 + 1 from rfl, drop_more _ (be_length 2 f.n) 1, drop_be 1 f.r] at d5
  rw [show 5 = 1 + 4 from rfl, drop_more _ (be_length 1 f.s) 4, show 4 = 2 + 2 from rfl, drop_more _ (be_length 2 f.n) 2, show 2 = 1 + 1 from rfl, drop_more _ (be_length 1 f.r) 1, drop_be 1 (f.c - 1)] at d6
  rw [show 6 = 1 + 5 from rfl, drop_more _ (be_length 1 f.s) 5, show 5 = 2 + 3 from rfl, drop_more _ (be_length 2 f.n) 3, show 3 = 1 + 2 from rfl, drop_more _ (be_length 1 f.r) 2, show 2 = 1 + 1 from rfl, drop_more _ (be_length 1 (f.c - 1)) 1, drop_be 1] at d7
  unfold oneE
  rw [num_be _ (by omega) (by omega) (by decide), if_pos rfl, d1]
  simp only [show 1 + 1 = 2 from rfl, show 1 + 3 = 4 from rfl, show 1 + 4 = 5 from rfl, show 1 + 5 = 6 from rfl, show 1 + 6 = 7 from rfl, Nat.reduceAdd] at d2 d4 d5 d6 d7
  rw [d2, d4, d5, d6, d7, num_be _ s0 s1 (by omega), num_be _ n0 (by omega) (by omega), num_be _ r0 (by omega) (by omega), num_be _ (by omega) (by omega) (by omega)]
  have hc : num 1 2 (be 1 (if f.cut then 1 else 0) ++ r) = if f.cut then 1 else 0 := num_be _ (by split <;> omega) (by split <;> omega) (by split <;> omega)
  rw [hc]
  obtain ⟨fs, fn, fr, fc, cut⟩ := f
  cases cut <;> simp <;> omega
theorem oneE_hap_enc (hx : OkP x) {y : Hp} (h : okHap x y = true) (r : List UInt8) : oneE x (hapE y ++ r) = (.inl y, r) := by
  obtain ⟨k0, k1, n0, n1, t0, t1, p0, p1⟩ := okHap_iff.1 h
  have h1 := hx.n1; have h2 := hx.n2; have h3 := hx.h2
  have e : hapE y ++ r = be 1 y.k ++ (be 1 y.n ++ (be 4 y.t ++ ((if y.k = 2 then be 1 y.pl.length ++ y.pl else []) ++ r))) := by simp [hapE]
  rw [e]
  generalize hz : (if y.k = 2 then be 1 y.pl.length ++ y.pl else []) ++ r = z
  have d1 : (be 1 y.k ++ (be 1 y.n ++ (be 4 y.t ++ z))).drop 1 = be 1 y.n ++ (be 4 y.t ++ z) := drop_be 1 _ _
  have d2 := drop_more (w := 1) (be 1 y.n ++ (be 4 y.t ++ z)) (be_length 1 y.k) 1
  have d6 : ∀ k, (be 1 y.k ++ (be 1 y.n ++ (be 4 y.t ++ z))).drop (6 + k) = z.drop k := fun k => by
    rw [show 6 + k = 1 + (1 + (4 + k)) by omega, drop_more _ (be_length 1 y.k), drop_more _ (be_length 1 y.n), drop_more _ (be_length 4 y.t)]
  rw [drop_be 1 y.n] at d2
  have d60 := d6 0
  have d61 := d6 1
  simp only [Nat.reduceAdd, List.drop_zero] at d2 d60 d61
  unfold oneE
  rw [num_be _ k0 (by omega) (by omega), if_neg (by omega), d1, d2, num_be _ n0 n1 (by omega), num_be _ t0 (by omega) (by omega)]
  by_cases hk : y.k = 2
  · rw [if_pos hk] at hz ⊢
    rw [List.append_assoc] at hz
    rw [d60, d61, ← hz, num_be _ (by omega) (by omega) (by omega), drop_be, Int.toNat_natCast, List.take_append_of_le_length (Nat.le_refl _), List.take_length, show 7 + y.pl.length = 6 + (1 + y.pl.length) by omega, hz, d6, ← hz, drop_more _ (be_length _ _), List.drop_append_of_le_length (Nat.le_refl _), List.drop_length, List.nil_append]
    obtain ⟨yk, yn, yt, yp⟩ := y
    obtain rfl : yk = 2 := hk
    rfl
  · rw [if_neg hk] at hz ⊢
    rw [List.nil_append] at hz
    rw [d60, hz]
    obtain ⟨yk, yn, yt, yp⟩ := y
    rcases p1 with p1 | p1
    · exact absurd p1 hk
    · obtain rfl : yp = [] := List.eq_nil_of_length_eq_zero p1
      rfl
theorem hapE_ne (y : Hp) (r : List UInt8) : hapE y ++ r ≠ [] := by
  intro h
  have := congrArg List.length h
  simp [hapE, be_length] at this
theorem ftE_ne (y : Ft) (r : List UInt8) : ftE y ++ r ≠ [] := by
  intro h
  have := congrArg List.length h
  simp [ftE, be_length] at this
theorem ents_enc (hx : OkP x) : ∀ (hs : List Hp) (fs : List Ft), (∀ y ∈ hs, okHap x y = true) → (∀ y ∈ fs, okFt x y = true) → entsL x (hs.flatMap hapE ++ fs.flatMap ftE) = hs.map .inl ++ fs.map .inr
  | [], [], _, _ => rfl
  | [], f :: fs, h1, h2 => by
    have e : ([] : List Hp).flatMap hapE ++ (f :: fs).flatMap ftE = ftE f ++ fs.flatMap ftE := by simp
    have ih := ents_enc hx [] fs h1 (fun y hy => h2 y (by simp [hy]))
    simp only [List.flatMap_nil, List.nil_append, List.map_nil] at ih
    rw [e, ents_step x (ftE_ne _ _), oneE_ft_enc hx (h2 f (by simp)), ih]
    rfl
  | h :: hs, fs, h1, h2 => by
    have e : (h :: hs).flatMap hapE ++ fs.flatMap ftE = hapE h ++ (hs.flatMap hapE ++ fs.flatMap ftE) := by simp
    rw [e, ents_step x (hapE_ne _ _), oneE_hap_enc hx (h1 h (by simp)), ents_enc hx hs fs (fun y hy => h1 y (by simp [hy])) h2]
    rfl
theorem hapsOf_map (hs : List Hp) (fs : List Ft) : hapsOf (hs.map .inl ++ fs.map .inr) = hs ∧ faultsOf (hs.map .inl ++ fs.map .inr) = fs := by
  unfold hapsOf faultsOf
  constructor
  · rw [List.filterMap_append]
    have a : (hs.map Sum.inl : List (Sum Hp Ft)).filterMap Sum.getLeft? = hs := by induction hs <;> simp_all
    have b : (fs.map Sum.inr : List (Sum Hp Ft)).filterMap Sum.getLeft? = [] := by induction fs <;> simp_all
    rw [a, b, List.append_nil]
  · rw [List.filterMap_append]
    have a : (hs.map Sum.inl : List (Sum Hp Ft)).filterMap Sum.getRight? = [] := by induction hs <;> simp_all
    have b : (fs.map Sum.inr : List (Sum Hp Ft)).filterMap Sum.getRight? = fs := by induction fs <;> simp_all
    rw [a, b, List.nil_append]
/-- A script is read from its bytes as it was. -/
theorem dec_enc (hx : OkP x) {s : Sc} (h : okS x s = true) : decS x (encS x s) = s := by
  obtain ⟨l1, l2, l3, l4, l5, o1, o2, o3, o4, o5⟩ := okS_iff.1 h
  have h1 := hx.n1; have h2 := hx.n2; have hdr := hx.drift; have hrd := hx.round; have hd1 := hx.d1; have hd2 := hx.d2; have hd3 := hx.d3
  obtain ⟨rates, on, delays, haps, faults⟩ := s
  dsimp only at l1 l2 l3 l4 l5 o1 o2 o3 o4 o5
  have zl : (rates.zip on).length = x.nodes.toNat := by rw [List.length_zip]; omega
  have hh : (headE x ⟨rates, on, delays, haps, faults⟩).length = 8 * x.nodes.toNat := by
    show ((rates.zip on).flatMap (headE1 x)).length = _
    rw [flatMap_len (headE1_length x), zl]
  have dH : ∀ k, (encS x ⟨rates, on, delays, haps, faults⟩).drop (8 * x.nodes.toNat + k) = (be 2 delays.length ++ (delays.flatMap delE ++ (haps.flatMap hapE ++ faults.flatMap ftE))).drop k := fun k => drop_more _ hh k
  have dH0 := dH 0
  rw [Nat.add_zero, List.drop_zero] at dH0
  have hm : manyD x (encS x ⟨rates, on, delays, haps, faults⟩) = delays.length := by
    unfold manyD
    rw [dH0, num_be _ (by omega) (by omega) (by omega)]
    simp
  have hr : restD x (encS x ⟨rates, on, delays, haps, faults⟩) = haps.flatMap hapE ++ faults.flatMap ftE := by
    unfold restD
    rw [hm, Nat.add_assoc, dH, drop_more _ (be_length 2 _), flatMap_drop (g := delE) (fun a => be_length 4 a) delays delays.length _ (Nat.le_refl _), List.drop_length]
    rfl
  have he : ∀ i (hi : i < x.nodes.toNat), (encS x ⟨rates, on, delays, haps, faults⟩).drop (8 * i) = be 4 ((rates[i]'(by omega)).1 - (65536 - drL x)) ++ (be 4 (on[i]'(by omega) + 1) ++ (((rates.zip on).drop (i + 1)).flatMap (headE1 x) ++ (be 2 delays.length ++ (delays.flatMap delE ++ (haps.flatMap hapE ++ faults.flatMap ftE))))) := fun i hi => by
    show ((rates.zip on).flatMap (headE1 x) ++ _).drop (8 * i) = _
    rw [flatMap_drop (headE1_length x) _ _ _ (by omega), drop_eq_cons (by omega : i < (rates.zip on).length), List.flatMap_cons, List.getElem_zip]
    simp only [headE1, List.append_assoc]
  unfold decS
  rw [hm, hr, show entsL x (haps.flatMap hapE ++ faults.flatMap ftE) = _ from ents_enc hx haps faults o4 o5, (hapsOf_map haps faults).1, (hapsOf_map haps faults).2, List.take_of_length_le l4, List.take_of_length_le l5]
  congr 1
  · apply List.ext_getElem
    · simp; omega
    · intro i a b
      have hi : i < x.nodes.toNat := by simpa using a
      have ho := okRate_iff.1 (o1 _ (List.getElem_mem b))
      rw [List.getElem_map, List.getElem_range, rateD, he i hi, num_be _ (by omega) (by omega) (by omega)]
      apply Prod.ext
      · show 65536 - drL x + (rates[i].1 - (65536 - drL x)) = _; omega
      · exact ho.1.symm
  · apply List.ext_getElem
    · simp; omega
    · intro i a b
      have hi : i < x.nodes.toNat := by simpa using a
      have ho := okOn_iff.1 (o2 _ (List.getElem_mem b))
      have hl : lateL x = 4 * rdL x := rfl
      rw [List.getElem_map, List.getElem_range, onD, ← List.drop_drop, he i hi, drop_be, num_be _ (by omega) (by omega) (by omega)]
      omega
  · apply List.ext_getElem
    · simp
    · intro i a b
      have ho := okDel_iff.1 (o3 _ (List.getElem_mem b))
      rw [List.getElem_map, List.getElem_range, delD, Nat.add_assoc, dH, drop_more _ (be_length 2 _), flatMap_drop (g := delE) (fun a => be_length 4 a) delays i _ (by omega), drop_eq_cons b, List.flatMap_cons, List.append_assoc, delE, num_be _ ho.1 (by omega) (by omega)]
theorem len_flatMap_le {α : Type} {g : α → List UInt8} {m : Nat} : ∀ (l : List α), (∀ a ∈ l, (g a).length ≤ m) → (l.flatMap g).length ≤ m * l.length
  | [], _ => by simp
  | a :: l, h => by
    rw [List.flatMap_cons, List.length_append, List.length_cons, Nat.mul_succ]
    have := h a (by simp)
    have := len_flatMap_le l (fun b hb => h b (by simp [hb]))
    omega
theorem enc_short (hx : OkP x) {s : Sc} (h : okS x s = true) : (encS x s).length ≤ 20000 := by
  obtain ⟨l1, l2, l3, l4, l5, o1, o2, o3, o4, o5⟩ := okS_iff.1 h
  have h1 := hx.n1; have h2 := hx.n2
  have a := flatMap_len (headE1_length x) (s.rates.zip s.on)
  have b := flatMap_len (g := delE) (fun a => be_length 4 a) s.delays
  have c := len_flatMap_le (g := hapE) (m := 262) s.haps (fun y hy => by
    have := (okHap_iff.1 (o4 y hy)).2.2.2.2.2.2.1
    unfold hapE
    split <;> simp [be_length] <;> omega)
  have d := len_flatMap_le (g := ftE) (m := 7) s.faults (fun y hy => by simp [ftE, be_length])
  rw [List.length_zip] at a
  simp only [encS, headE, List.length_append, be_length, a, b]
  omega
theorem enc_inj (hx : OkP x) {s t : Sc} (h : okS x s = true) (k : okS x t = true) : encS x s = encS x t ↔ s = t :=
  ⟨fun e => by rw [← dec_enc hx h, e, dec_enc hx k], fun e => by rw [e]⟩
/-- Rates and times hang on the first bytes alone. -/
theorem pad_same {w : Nat} {l m : List UInt8} (h : ∀ i, i < w → l.getD i 0 = m.getD i 0) : pad w l = pad w m := by
  unfold pad
  apply List.map_congr_left
  intro i hi
  exact h i (by simpa using hi)
theorem head_same {l m : List UInt8} (h : ∀ i, i < 8 * x.nodes.toNat → l.getD i 0 = m.getD i 0) : (decS x l).rates = (decS x m).rates ∧ (decS x l).on = (decS x m).on := by
  constructor
  · apply List.map_congr_left
    intro i hi
    have hi : i < x.nodes.toNat := by simpa using hi
    unfold rateD num
    rw [pad_same (m := m.drop (8 * i)) (fun j hj => by
      have := h (8 * i + j) (by omega)
      simpa [List.getD_eq_getElem?_getD] using this)]
  · apply List.map_congr_left
    intro i hi
    have hi : i < x.nodes.toNat := by simpa using hi
    unfold onD num
    rw [pad_same (m := m.drop (8 * i + 4)) (fun j hj => by
      have := h (8 * i + 4 + j) (by omega)
      simpa [List.getD_eq_getElem?_getD] using this)]
end
end Go.Proofs.Ytljcaigaofalbaa

namespace Go.Proofs.Ytljcaigaofalbaa
open Go.ChangeShapes Go.WideShapes Go.ChangeAt Go.RowKit Go.Deep Go.Joins

/-- A slice: its address, length, capacity. -/
structure Sl where
  A : Option Addr
  n : Nat
  c : Nat
def Sl.v (s : Sl) : Value := .slice s.A s.n s.c
def nilS : Sl := ⟨none, 0, 0⟩
/-- The slice reads as xs, each of k cells. -/
structure RSrc {α : Type} (cells : α → List Value) (k : Nat) (w : World) (s : Sl) (xs : List α) : Prop where
  len : xs.length = s.n
  cap : s.n ≤ s.c
  max : s.c ≤ 9223372036854775807
  no : s.A = none → s.c = 0
  at_ : 0 < s.n → ∃ g o, s.A = some ⟨g, o, none⟩ ∧ ∀ i x, xs[i]? = some x → w.rangeAt g (o + i * k) (cells x)
section
variable {α : Type} {cells : α → List Value} {k : Nat} {w w' : World} {s : Sl} {xs : List α}
theorem RSrc.nil (w : World) : RSrc cells k w nilS [] := ⟨rfl, Nat.le_refl _, by decide, fun _ => rfl, fun h => absurd h (by decide)⟩
theorem RSrc.kept {S : Nat → Prop} (h : RSrc cells k w s xs) (hk : Kept S w w') (hS : ∀ ad, s.A = some ad → ¬ S ad.block) : RSrc cells k w' s xs :=
  ⟨h.len, h.cap, h.max, h.no, fun hn => by
    obtain ⟨g, o, e, hc⟩ := h.at_ hn
    exact ⟨g, o, e, fun i x hx j v hv => hk.cell (hc i x hx j v hv) (show ¬ S g from hS ⟨g, o, none⟩ e)⟩⟩
theorem RSrc.later (h : RSrc cells k w s xs) (hb : Below w.heap.size w w') : RSrc cells k w' s xs := h.kept (Kept.of_below hb Empty) (fun _ _ h => h)
theorem RSrc.spot (h : RSrc cells k w s xs) {i : Nat} {x : α} (hx : xs[i]? = some x) : ∃ g o, s.A = some ⟨g, o, none⟩ ∧ w.rangeAt g (o + i * k) (cells x) := by
  obtain ⟨g, o, e, hc⟩ := h.at_ (by have := (List.getElem?_eq_some_iff.1 hx).1; have := h.len; omega)
  exact ⟨g, o, e, hc i x hx⟩
theorem RSrc.get [Inhabited α] (h : RSrc cells k w s xs) {i : Nat} (hi : i < s.n) : ∃ g o, s.A = some ⟨g, o, none⟩ ∧ w.rangeAt g (o + i * k) (cells (xs.getD i default)) :=
  h.spot (by rw [List.getD_eq_getElem?_getD, List.getElem?_eq_getElem (by rw [h.len]; exact hi)]; rfl)
end

def rateC (r : Int × Int) : List Value := [.int .i64 r.1, .int .i64 r.2]
def numC (n : Int) : List Value := [.int .i64 n]
def ftC (f : Ft) : List Value := [.int .i64 f.s, .int .i64 f.n, .int .i64 f.r, .int .i64 f.c, .bool f.cut]
/-- A happening, and where its payload lies. -/
structure HpA where
  k : Int
  n : Int
  t : Int
  A : Option Addr
  c : Nat
  pl : List UInt8
instance : Inhabited HpA := ⟨⟨0, 0, 0, none, 0, []⟩⟩
def HpA.hp (h : HpA) : Hp := ⟨h.k, h.n, h.t, h.pl⟩
def hapC (h : HpA) : List Value := [.int .i64 h.k, .int .i64 h.n, .int .i64 h.t, .slice h.A h.pl.length h.c]
/-- Its payload lies there. -/
structure PlAt (w : World) (h : HpA) : Prop where
  src : Src w h.A h.pl.length h.pl
  cap : h.pl.length ≤ h.c
  max : h.c ≤ 9223372036854775807
  no : h.A = none → h.c = 0
theorem PlAt.kept {w w' : World} {h : HpA} {S : Nat → Prop} (p : PlAt w h) (hk : Kept S w w') (hS : ∀ ad, h.A = some ad → ¬ S ad.block) : PlAt w' h := ⟨p.src.kept hk hS, p.cap, p.max, p.no⟩
theorem PlAt.later {w w' : World} {h : HpA} (p : PlAt w h) (hb : Below w.heap.size w w') : PlAt w' h := p.kept (Kept.of_below hb Empty) (fun _ _ h => h)
/-- The slice reads as these happenings. -/
structure HSrc (w : World) (s : Sl) (hs : List HpA) : Prop where
  row : RSrc hapC 4 w s hs
  pl : ∀ a ∈ hs, PlAt w a
theorem HSrc.later {w w' : World} {s : Sl} {hs : List HpA} (h : HSrc w s hs) (hb : Below w.heap.size w w') : HSrc w' s hs := ⟨h.row.later hb, fun a ha => (h.pl a ha).later hb⟩
theorem HSrc.nil (w : World) : HSrc w nilS [] := ⟨RSrc.nil w, fun _ h => by cases h⟩

/-- A script's five slices. -/
structure ScV where
  r : Sl
  o : Sl
  d : Sl
  h : Sl
  f : Sl
def ScV.cells (V : ScV) : Array Value := #[V.r.v, V.o.v, V.d.v, V.h.v, V.f.v]
def ScV.zero : ScV := ⟨nilS, nilS, nilS, nilS, nilS⟩
/-- A script, and where its payloads lie. -/
structure ScA where
  rates : List (Int × Int)
  on : List Int
  delays : List Int
  haps : List HpA
  faults : List Ft
def ScA.sc (s : ScA) : Sc := ⟨s.rates, s.on, s.delays, s.haps.map HpA.hp, s.faults⟩
/-- The five slices read as that script. -/
structure ScAt (w : World) (V : ScV) (s : ScA) : Prop where
  r : RSrc rateC 2 w V.r s.rates
  o : RSrc numC 1 w V.o s.on
  d : RSrc numC 1 w V.d s.delays
  h : HSrc w V.h s.haps
  f : RSrc ftC 5 w V.f s.faults
theorem ScAt.later {w w' : World} {V : ScV} {s : ScA} (h : ScAt w V s) (hb : Below w.heap.size w w') : ScAt w' V s := ⟨h.r.later hb, h.o.later hb, h.d.later hb, h.h.later hb, h.f.later hb⟩
theorem ScAt.zero (w : World) : ScAt w ScV.zero ⟨[], [], [], [], []⟩ := ⟨RSrc.nil w, RSrc.nil w, RSrc.nil w, HSrc.nil w, RSrc.nil w⟩

/-! Opened. -/
theorem plain_add (b o k : Nat) : (⟨b, o, none⟩ : Addr).add k = ⟨b, o + k, none⟩ := by unfold Addr.add; split <;> simp_all
theorem list_of {α : Type} {P : Nat → α → Prop} (n : Nat) (h : ∀ i, i < n → ∃ x, P i x) : ∃ xs : List α, xs.length = n ∧ ∀ i (hi : i < xs.length), P i xs[i] := by
  induction n with
  | zero => exact ⟨[], rfl, fun i hi => absurd hi (by simp)⟩
  | succ n ih =>
    obtain ⟨xs, hl, hx⟩ := ih (fun i hi => h i (by omega))
    obtain ⟨x, hp⟩ := h n (by omega)
    refine ⟨xs ++ [x], by simp [hl], fun i hi => ?_⟩
    by_cases hin : i < xs.length
    · rw [List.getElem_append_left hin]
      exact hx i hin
    · have : i = xs.length := by simp at hi; omega
      subst this
      simp only [List.getElem_concat_length]
      rw [hl]
      exact hp

theorem open_rows {H : Type} {enc : TypeId × Value → H} {P : Program} {W : World} {α : Type} {cells : α → List Value} {k : Nat} {Q : α → Prop} {t e : TypeId} {fuel : Nat} {cs : List Value} {x : DataW H × List MemPlace}
    (ht : P.underlying t = some (.slice e)) (hk : P.cellsOf e = k) (hk0 : 0 < k) (hcl : ∀ a, (cells a).length = k)
    (hel : ∀ n cs y, cs.length = k → DataW.trod enc P W 0 (fun _ => true) true n e cs = some y → ∃ a, cs = cells a ∧ Q a)
    (h : DataW.trod enc P W 0 (fun _ => true) true fuel t cs = some x) : ∃ s xs, cs = [Sl.v s] ∧ RSrc cells k W s xs ∧ ∀ a ∈ xs, Q a := by
  rcases open_slice ht h with ⟨hcs, _⟩ | ⟨a, len, cap, m, n, D, Pl, hcs, _, hl, hm, hmm, hx, hi⟩
  · exact ⟨nilS, [], hcs, RSrc.nil W, fun _ h => by cases h⟩
  · have hmc : m = cap := by rw [hmm, if_pos rfl]
    subst hmc
    have each : ∀ i, i < len → ∃ x : α, (∀ b o, a = ⟨b, o, none⟩ → W.rangeAt b (o + i * k) (cells x)) ∧ Q x := fun i hil => by
      obtain ⟨cs', hc, ht'⟩ := hi i (by omega)
      rw [hk] at hc
      obtain ⟨_, hcl', hat⟩ := World.cells?_some hc
      obtain ⟨y, rfl, hq⟩ := hel n cs' _ hcl' ht'
      refine ⟨y, fun b o e => ?_, hq⟩
      subst e
      intro j v hj
      have hjl : j < k := by have := (List.getElem?_eq_some_iff.1 hj).1; rw [hcl] at this; exact this
      have g := hat j hjl
      simp only [plain_add] at g
      rw [g]
      exact hj
    obtain ⟨xs, hxl, hxs⟩ := list_of len each
    refine ⟨⟨some a, len, m⟩, xs, hcs, ⟨hxl, hl, by simp only [maxLen] at hm; show m ≤ _; omega, fun e => absurd e (by simp), fun h0 => ?_⟩, fun y hy => ?_⟩
    · have h0 : 0 < len := h0
      obtain ⟨cs', hc, _⟩ := hi 0 (by omega)
      rw [hk] at hc
      obtain ⟨_, hcl', hat⟩ := World.cells?_some hc
      obtain ⟨b, off, spot⟩ := a
      have h00 := hat 0 hk0
      rw [List.getElem?_eq_getElem (by omega)] at h00
      have hspot : spot = none := by simpa [Addr.add] using World.cell?_spot h00
      subst hspot
      refine ⟨b, off, rfl, fun i x hx => ?_⟩
      obtain ⟨hil, rfl⟩ := List.getElem?_eq_some_iff.1 hx
      exact (hxs i hil).1 b off rfl
    · obtain ⟨i, hi', rfl⟩ := List.mem_iff_getElem.1 hy
      exact (hxs i hi').2

theorem cells_rate : Try.prog.cellsOf 52 = 2 := by kernel_rfl
theorem cells_hap : Try.prog.cellsOf 47 = 4 := by kernel_rfl
theorem cells_ft : Try.prog.cellsOf 54 = 5 := by kernel_rfl
theorem cells_u8 : Try.prog.cellsOf 5 = 1 := by kernel_rfl
theorem cells_bool : Try.prog.cellsOf 4 = 1 := by kernel_rfl
theorem cells_bytes : Try.prog.cellsOf 30 = 1 := by kernel_rfl
theorem cells_script : Try.prog.cellsOf 29 = 5 := by kernel_rfl

section
variable {H : Type} {enc : TypeId × Value → H} {W : World} {n : Nat} {cs : List Value} {y : DataW H × List MemPlace}
theorem trod_i64 (h : DataW.trod enc Try.prog W 0 (fun _ => true) true n 2 cs = some y) : ∃ a, cs = numC a := by
  obtain ⟨k, e, _, _⟩ := DataW.trod_int Try.underlying2 h
  exact ⟨k, e⟩
theorem trod_int' (h : DataW.trod enc Try.prog W 0 (fun _ => true) true n 3 cs = some y) : ∃ a, cs = numC a := by
  obtain ⟨k, e, _, _⟩ := DataW.trod_int Try.underlying3 h
  exact ⟨k, e⟩
set_option maxRecDepth 100000 in
theorem trod_rate (hl : cs.length = 2) (h : DataW.trod enc Try.prog W 0 (fun _ => true) true n 52 cs = some y) : ∃ a, cs = rateC a := by
  obtain ⟨ys, n', _, hy, _, hyl, hfld⟩ := DataW.trod_struct Try.underlying52 h
  match cs, hl, ys, hyl with
  | [c0, c1], _, [y0, y1], _ =>
    have f0 : DataW.trod enc Try.prog W 0 (fun _ => true) true n' 2 [c0] = some y0 := by simpa [cells_i64] using hfld 0 _ rfl
    have f1 : DataW.trod enc Try.prog W 0 (fun _ => true) true n' 2 [c1] = some y1 := by simpa [cells_i64] using hfld 1 _ rfl
    obtain ⟨k0, e0⟩ := trod_i64 f0
    obtain ⟨k1, e1⟩ := trod_i64 f1
    simp [numC] at e0 e1
    subst e0 e1
    exact ⟨(k0, k1), rfl⟩
set_option maxRecDepth 100000 in
theorem trod_ft (hl : cs.length = 5) (h : DataW.trod enc Try.prog W 0 (fun _ => true) true n 54 cs = some y) : ∃ a, cs = ftC a := by
  obtain ⟨ys, n', _, hy, _, hyl, hfld⟩ := DataW.trod_struct Try.underlying54 h
  match cs, hl, ys, hyl with
  | [c0, c1, c2, c3, c4], _, [y0, y1, y2, y3, y4], _ =>
    have f0 : DataW.trod enc Try.prog W 0 (fun _ => true) true n' 3 [c0] = some y0 := by simpa [cells_int, cells_bool] using hfld 0 _ rfl
    have f1 : DataW.trod enc Try.prog W 0 (fun _ => true) true n' 3 [c1] = some y1 := by simpa [cells_int, cells_bool] using hfld 1 _ rfl
    have f2 : DataW.trod enc Try.prog W 0 (fun _ => true) true n' 3 [c2] = some y2 := by simpa [cells_int, cells_bool] using hfld 2 _ rfl
    have f3 : DataW.trod enc Try.prog W 0 (fun _ => true) true n' 3 [c3] = some y3 := by simpa [cells_int, cells_bool] using hfld 3 _ rfl
    have f4 : DataW.trod enc Try.prog W 0 (fun _ => true) true n' 4 [c4] = some y4 := by simpa [cells_int, cells_bool] using hfld 4 _ rfl
    obtain ⟨k0, e0⟩ := trod_int' f0
    obtain ⟨k1, e1⟩ := trod_int' f1
    obtain ⟨k2, e2⟩ := trod_int' f2
    obtain ⟨k3, e3⟩ := trod_int' f3
    obtain ⟨k4, e4, _⟩ := DataW.trod_bool Try.underlying4 f4
    simp [numC] at e0 e1 e2 e3 e4
    subst e0 e1 e2 e3 e4
    exact ⟨⟨k0, k1, k2, k3, k4⟩, rfl⟩
theorem trod_u8 (_ : cs.length = 1) (h : DataW.trod enc Try.prog W 0 (fun _ => true) true n 5 cs = some y) : ∃ b : UInt8, cs = [.int .u8 (b.toNat : Int)] ∧ True := by
  obtain ⟨k, e, _, w⟩ := DataW.trod_int Try.underlying5 h
  have b := bounds_u8 w
  refine ⟨UInt8.ofNat k.toNat, ?_, trivial⟩
  rw [e]
  have : (UInt8.ofNat k.toNat).toNat = k.toNat := by
    rw [UInt8.toNat_ofNat']
    omega
  rw [this, Int.toNat_of_nonneg b.1]
theorem trod_bytes (h : DataW.trod enc Try.prog W 0 (fun _ => true) true n 30 cs = some y) : ∃ A c pl, cs = [.slice A pl.length c] ∧ ∀ a : HpA, a.A = A → a.c = c → a.pl = pl → PlAt W a := by
  obtain ⟨s, xs, e, r, _⟩ := open_rows (cells := fun b : UInt8 => [.int .u8 (b.toNat : Int)]) (Q := fun _ => True) Try.underlying30 cells_u8 (by decide) (fun _ => rfl) (fun n cs y hl h => trod_u8 hl h) h
  refine ⟨s.A, s.c, xs, by rw [e, Sl.v, r.len], fun a h1 h2 h3 => ?_⟩
  obtain ⟨k, n, t, A, c, pl⟩ := a
  dsimp only at h1 h2 h3
  subst h1 h2 h3
  refine ⟨⟨rfl, fun h0 => ?_⟩, by rw [r.len]; exact r.cap, r.max, r.no⟩
  obtain ⟨g, o, e2, hc⟩ := r.at_ (by rw [← r.len]; exact h0)
  refine ⟨g, o, e2, fun i hi => ?_⟩
  have := hc i _ (List.getElem?_eq_getElem hi) 0 _ rfl
  rw [Nat.mul_one, Nat.add_zero] at this
  exact this
set_option maxRecDepth 100000 in
theorem trod_hap (hl : cs.length = 4) (h : DataW.trod enc Try.prog W 0 (fun _ => true) true n 47 cs = some y) : ∃ a, cs = hapC a ∧ PlAt W a := by
  obtain ⟨ys, n', _, hy, _, hyl, hfld⟩ := DataW.trod_struct Try.underlying47 h
  match cs, hl, ys, hyl with
  | [c0, c1, c2, c3], _, [y0, y1, y2, y3], _ =>
    have f0 : DataW.trod enc Try.prog W 0 (fun _ => true) true n' 3 [c0] = some y0 := by simpa [cells_int, cells_i64, cells_bytes] using hfld 0 _ rfl
    have f1 : DataW.trod enc Try.prog W 0 (fun _ => true) true n' 3 [c1] = some y1 := by simpa [cells_int, cells_i64, cells_bytes] using hfld 1 _ rfl
    have f2 : DataW.trod enc Try.prog W 0 (fun _ => true) true n' 2 [c2] = some y2 := by simpa [cells_int, cells_i64, cells_bytes] using hfld 2 _ rfl
    have f3 : DataW.trod enc Try.prog W 0 (fun _ => true) true n' 30 [c3] = some y3 := by simpa [cells_int, cells_i64, cells_bytes] using hfld 3 _ rfl
    obtain ⟨k0, e0⟩ := trod_int' f0
    obtain ⟨k1, e1⟩ := trod_int' f1
    obtain ⟨k2, e2⟩ := trod_i64 f2
    obtain ⟨A, c, pl, e3, hp⟩ := trod_bytes f3
    simp [numC] at e0 e1 e2 e3
    subst e0 e1 e2 e3
    exact ⟨⟨k0, k1, k2, A, c, pl⟩, rfl, hp _ rfl rfl rfl⟩
end

set_option maxRecDepth 100000 in
theorem open_script {H : Type} {enc : TypeId × Value → H} {W : World} {base : Nat} {v : Value} {d : DataW H} {p : List MemPlace} (hv : Value.okWide Try.prog W .any base 29 v) (h : DataW.Trod enc Try.prog W 0 (fun _ => true) true 29 v d p) :
    ∃ (V : ScV) (s : ScA), v = .agg V.cells ∧ ScAt W V s := by
  obtain ⟨cs, rfl, hsz⟩ := okWide_struct Try.underlying29 hv
  obtain ⟨l⟩ := cs
  obtain ⟨fuel, hf⟩ := h
  obtain ⟨ys, n', _, hy, _, hyl, hfld⟩ := DataW.trod_struct Try.underlying29 hf
  match l, hsz.trans cells_script, ys, hyl with
  | [c0, c1, c2, c3, c4], _, [y0, y1, y2, y3, y4], _ =>
    have z1 : Try.prog.cellsOf 24 = 1 := by kernel_rfl
    have z2 : Try.prog.cellsOf 25 = 1 := by kernel_rfl
    have z3 : Try.prog.cellsOf 26 = 1 := by kernel_rfl
    have z4 : Try.prog.cellsOf 27 = 1 := by kernel_rfl
    have f0 : DataW.trod enc Try.prog W 0 (fun _ => true) true n' 24 [c0] = some y0 := by simpa [z1, z2, z3, z4, Value.cells] using hfld 0 _ rfl
    have f1 : DataW.trod enc Try.prog W 0 (fun _ => true) true n' 25 [c1] = some y1 := by simpa [z1, z2, z3, z4, Value.cells] using hfld 1 _ rfl
    have f2 : DataW.trod enc Try.prog W 0 (fun _ => true) true n' 25 [c2] = some y2 := by simpa [z1, z2, z3, z4, Value.cells] using hfld 2 _ rfl
    have f3 : DataW.trod enc Try.prog W 0 (fun _ => true) true n' 26 [c3] = some y3 := by simpa [z1, z2, z3, z4, Value.cells] using hfld 3 _ rfl
    have f4 : DataW.trod enc Try.prog W 0 (fun _ => true) true n' 27 [c4] = some y4 := by simpa [z1, z2, z3, z4, Value.cells] using hfld 4 _ rfl
    obtain ⟨s0, x0, e0, r0, _⟩ := open_rows (cells := rateC) (Q := fun _ => True) Try.underlying24 cells_rate (by decide) (fun _ => rfl) (fun n cs y hl h => by obtain ⟨a, e⟩ := trod_rate hl h; exact ⟨a, e, trivial⟩) f0
    obtain ⟨s1, x1, e1, r1, _⟩ := open_rows (cells := numC) (Q := fun _ => True) Try.underlying25 cells_i64 (by decide) (fun _ => rfl) (fun n cs y hl h => by obtain ⟨a, e⟩ := trod_i64 h; exact ⟨a, e, trivial⟩) f1
    obtain ⟨s2, x2, e2, r2, _⟩ := open_rows (cells := numC) (Q := fun _ => True) Try.underlying25 cells_i64 (by decide) (fun _ => rfl) (fun n cs y hl h => by obtain ⟨a, e⟩ := trod_i64 h; exact ⟨a, e, trivial⟩) f2
    obtain ⟨s3, x3, e3, r3, q3⟩ := open_rows (cells := hapC) (Q := PlAt W) Try.underlying26 cells_hap (by decide) (fun _ => rfl) (fun n cs y hl h => trod_hap hl h) f3
    obtain ⟨s4, x4, e4, r4, _⟩ := open_rows (cells := ftC) (Q := fun _ => True) Try.underlying27 cells_ft (by decide) (fun _ => rfl) (fun n cs y hl h => by obtain ⟨a, e⟩ := trod_ft hl h; exact ⟨a, e, trivial⟩) f4
    simp at e0 e1 e2 e3 e4
    subst e0 e1 e2 e3 e4
    exact ⟨⟨s0, s1, s2, s3, s4⟩, ⟨x0, x1, x2, x3, x4⟩, rfl, r0, r1, r2, ⟨r3, q3⟩, r4⟩
end Go.Proofs.Ytljcaigaofalbaa

namespace Go.Proofs.Ytljcaigaofalbaa
open Go.ChangeShapes Go.WideShapes Go.ChangeAt Go.RowKit Go.Deep Go.Joins

set_option maxRecDepth 100000 in
theorem open_by {H : Type} {enc : TypeId × Value → H} {W : World} {base : Nat} {v : Value} {d : DataW H} {p : List MemPlace} (hv : Value.okWide Try.prog W .any base 30 v) (h : DataW.Trod enc Try.prog W 0 (fun _ => true) true 30 v d p) :
    ∃ (A : Option Addr) (n c : Nat) (l : List UInt8), v = .slice A n c ∧ Src W A n l ∧ n ≤ c ∧ (A = none → c = 0) ∧ c ≤ 9223372036854775807 := by
  obtain ⟨A, n, c, rfl⟩ := okWide_slice Try.underlying30 hv
  obtain ⟨fuel, hf⟩ := h
  obtain ⟨A', c', pl, e, hp⟩ := trod_bytes hf
  have h3 := hp ⟨0, 0, 0, A', c', pl⟩ rfl rfl rfl
  simp [Value.cells] at e
  obtain ⟨rfl, rfl, rfl⟩ := e
  exact ⟨A, _, c, pl, rfl, h3.src, h3.cap, h3.no, h3.max⟩
end Go.Proofs.Ytljcaigaofalbaa
