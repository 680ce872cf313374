/- What the laws make of where a frame is there: a map's pairs, and the guardian's times. Plain; no condition. -/
import Derived.Test.YtmplidgafdobkaaUMap
namespace Go.Proofs.Ytmplidgafdobkaa
open Go.RowKit

/-- A map's pairs behind all of a list. -/
def foldU (f : Int → Int → Option Int) (L : List Du) : Int → Int → Option Int := L.foldl (fun f d => updU f d.r d.c d.t) f
theorem foldU_nil (f : Int → Int → Option Int) : foldU f [] = f := rfl
theorem foldU_snoc (f : Int → Int → Option Int) (L : List Du) (d : Du) : foldU f (L ++ [d]) = updU (foldU f L) d.r d.c d.t := by simp [foldU]
theorem foldU_append (f : Int → Int → Option Int) (L M : List Du) : foldU f (L ++ M) = foldU (foldU f L) M := by simp [foldU]
theorem foldU_other {L : List Du} {f : Int → Int → Option Int} {r c : Int} (h : ∀ d ∈ L, ¬ (r = d.r ∧ c = d.c)) : foldU f L r c = f r c := by
  induction L generalizing f with
  | nil => rfl
  | cons d L ih =>
    show foldU (updU f d.r d.c d.t) L r c = f r c
    rw [ih (fun x hx => h x (List.mem_cons_of_mem _ hx)), updU, if_neg (h d (List.mem_cons_self ..))]
theorem foldU_le {L : List Du} {f : Int → Int → Option Int} {B : Int} (hf : ∀ r c, (f r c).getD 0 ≤ B) (hL : ∀ d ∈ L, d.t ≤ B) : ∀ r c, (foldU f L r c).getD 0 ≤ B := by
  induction L generalizing f with
  | nil => exact hf
  | cons d L ih =>
    refine ih (f := updU f d.r d.c d.t) (fun r c => ?_) (fun x hx => hL x (List.mem_cons_of_mem _ hx))
    unfold updU
    split
    · exact hL d (List.mem_cons_self ..)
    · exact hf r c
/-- What is there of the first k nodes, in a map. -/
theorem foldU_dueTo (c t : Int) (l : List Fa) (f : Int → Int → Option Int) (n c' : Int) : ∀ k : Nat, foldU f (dueTo c t l k) n c' = if c' = c ∧ 0 ≤ n ∧ n < (k : Int) ∧ (l.getD n.toNat default).lost = false then some (t + (l.getD n.toNat default).d) else f n c' := by
  intro k
  induction k with
  | zero => rw [dueTo_zero, foldU_nil, if_neg (by omega)]
  | succ k ih =>
    cases hl : (l.getD k default).lost
    · rw [dueTo_here hl, foldU_snoc, updU]
      dsimp only
      by_cases e : n = (k : Int) ∧ c' = c
      · obtain ⟨rfl, rfl⟩ := e
        rw [if_pos ⟨rfl, rfl⟩, if_pos ⟨rfl, by omega, by omega, by rw [Int.toNat_natCast]; exact hl⟩, Int.toNat_natCast]
      · rw [if_neg e, ih]
        by_cases q : c' = c ∧ 0 ≤ n ∧ n < (k : Int) ∧ (l.getD n.toNat default).lost = false
        · rw [if_pos q, if_pos ⟨q.1, q.2.1, by omega, q.2.2.2⟩]
        · rw [if_neg q, if_neg (fun h => q ⟨h.1, h.2.1, by omega, h.2.2.2⟩)]
    · rw [dueTo_lost hl, ih]
      by_cases q : c' = c ∧ 0 ≤ n ∧ n < (k : Int) ∧ (l.getD n.toNat default).lost = false
      · rw [if_pos q, if_pos ⟨q.1, q.2.1, by omega, q.2.2.2⟩]
      · rw [if_neg q, if_neg (fun h => q ⟨h.1, h.2.1, by
          rcases Int.lt_or_le n (k : Int) with h' | h'
          · exact h'
          · exfalso
            have : n = (k : Int) := by omega
            rw [this, Int.toNat_natCast, hl] at h
            exact absurd h.2.2.2 (by decide), h.2.2.2⟩)]
/-- What is there, in a map. -/
theorem foldU_dueS (p : Pl) (s : Sd) (n c : Int) : foldU (fun _ _ => none) (dueS p s) n c = if thereS s n c then some (s.t + p.air + (faS s n c).d) else none := by
  unfold dueS
  rw [foldU_append, foldU_dueTo, foldU_dueTo]
  by_cases c0 : c = 0
  · subst c0
    rw [if_neg (fun h => absurd h.1 (by decide))]
    by_cases hn : 0 ≤ n ∧ n < (s.l0.length : Int)
    · have hi : inS s n 0 = true := by
        unfold inS Sd.ch
        simp; omega
      have hf : faS s n 0 = s.l0.getD n.toNat default := by unfold faS; rw [hi, if_pos rfl]; rfl
      unfold thereS
      rw [hi, hf]
      cases hl : (s.l0.getD n.toNat default).lost
      · rw [if_pos ⟨rfl, hn.1, hn.2, rfl⟩]; rfl
      · rw [if_neg (fun h => absurd h.2.2.2 (by decide))]; rfl
    · have hi : inS s n 0 = false := by
        unfold inS Sd.ch
        simp; omega
      unfold thereS
      rw [hi, if_neg (fun h => hn ⟨h.2.1, h.2.2.1⟩)]; rfl
  · by_cases c1 : c = 1
    · subst c1
      have e0 : ((1 : Int) = 0) = False := by simp
      by_cases hn : 0 ≤ n ∧ n < (s.l1.length : Int)
      · have hi : inS s n 1 = true := by
          unfold inS Sd.ch
          simp; omega
        have hf : faS s n 1 = s.l1.getD n.toNat default := by unfold faS; rw [hi, if_pos rfl]; rfl
        unfold thereS
        rw [hi, hf]
        cases hl : (s.l1.getD n.toNat default).lost
        · rw [if_pos ⟨rfl, hn.1, hn.2, rfl⟩]; rfl
        · rw [if_neg (fun h => absurd h.2.2.2 (by decide)), if_neg (fun h => absurd h.1 (by decide))]; rfl
      · have hi : inS s n 1 = false := by
          unfold inS Sd.ch
          simp; omega
        unfold thereS
        rw [hi, if_neg (fun h => hn ⟨h.2.1, h.2.2.1⟩), if_neg (fun h => absurd h.1 (by decide))]; rfl
    · have hi : inS s n c = false := by
        unfold inS
        simp; omega
      unfold thereS
      rw [hi, if_neg (fun h => c1 h.1), if_neg (fun h => c0 h.1)]; rfl
theorem dueTo_mem {c t : Int} {l : List Fa} {k : Nat} {d : Du} (h : d ∈ dueTo c t l k) : ∃ i : Nat, i < k ∧ (l.getD i default).lost = false ∧ d = ⟨(i : Int), c, t + (l.getD i default).d⟩ := by
  unfold dueTo at h
  obtain ⟨i, hi, e⟩ := List.mem_filterMap.1 h
  rw [List.mem_range] at hi
  cases hl : (l.getD i default).lost
  · rw [hl, if_neg (by decide)] at e
    cases e
    exact ⟨i, hi, hl, rfl⟩
  · rw [hl, if_pos rfl] at e
    cases e
/-- No pair twice. -/
def Apart2 (L : List Du) : Prop := L.Pairwise fun a b => ¬ (b.r = a.r ∧ b.c = a.c)
theorem dueTo_apart (c t : Int) (l : List Fa) : ∀ k : Nat, Apart2 (dueTo c t l k)
  | 0 => List.Pairwise.nil
  | k + 1 => by
    cases hl : (l.getD k default).lost
    · rw [dueTo_here hl]
      refine List.pairwise_append.2 ⟨dueTo_apart c t l k, List.pairwise_singleton _ _, fun a ha b hb => ?_⟩
      obtain ⟨i, hi, _, rfl⟩ := dueTo_mem ha
      obtain rfl : b = _ := by simpa using hb
      rintro ⟨e, _⟩
      dsimp only at e
      omega
    · rw [dueTo_lost hl]; exact dueTo_apart c t l k
theorem dueS_apart (p : Pl) (s : Sd) : Apart2 (dueS p s) := by
  refine List.pairwise_append.2 ⟨dueTo_apart _ _ _ _, dueTo_apart _ _ _ _, fun a ha b hb => ?_⟩
  obtain ⟨i, _, _, rfl⟩ := dueTo_mem ha
  obtain ⟨j, _, _, rfl⟩ := dueTo_mem hb
  rintro ⟨_, e⟩
  cases e
theorem dueS_length {p : Pl} {s : Sd} {N : Nat} (h0 : s.l0.length ≤ N) (h1 : s.l1.length ≤ N) : (dueS p s).length ≤ 2 * N := by
  unfold dueS
  rw [List.length_append]
  have := dueTo_length 0 (s.t + p.air) s.l0 s.l0.length
  have := dueTo_length 1 (s.t + p.air) s.l1 s.l1.length
  omega
/-- A pair that is not among the first j is as it was. -/
theorem foldU_take {L : List Du} (h : Apart2 L) (f : Int → Int → Option Int) (j : Nat) (hj : j < L.length) : foldU f (L.take j) (L.getD j default).r (L.getD j default).c = f (L.getD j default).r (L.getD j default).c := by
  refine foldU_other (fun d hd => ?_)
  obtain ⟨i, hi, rfl⟩ := List.mem_iff_getElem.1 hd
  rw [List.length_take] at hi
  have := List.pairwise_iff_getElem.1 h i j (by omega) hj (by omega)
  rw [List.getElem_take, List.getD_eq_getElem?_getD, List.getElem?_eq_getElem hj]
  exact this
theorem take_succ_getD {L : List Du} {j : Nat} (hj : j < L.length) : L.take (j + 1) = L.take j ++ [L.getD j default] := by
  rw [List.take_add_one, List.getD_eq_getElem?_getD, List.getElem?_eq_getElem hj]; rfl

section
variable {g : Lg} {f t : Int} {raw : List UInt8} {fa : List Fa}
theorem sendG_id (hok : okB g f t fa = true) : idB (sendG g f t raw fa) (g.L.length : Int) = true := by
  unfold sendG idB
  rw [if_pos hok]
  show (decide _ && decide ((g.L.length : Int) < ((g.L ++ [keptS g f t raw fa]).length : Int))) = true
  simp
  omega
theorem sendG_sd (hok : okB g f t fa = true) : sdG (sendG g f t raw fa) (g.L.length : Int) = keptS g f t raw fa := by
  unfold sendG sdG
  rw [if_pos hok]
  show (g.L ++ [keptS g f t raw fa]).getD _ default = _
  rw [Int.toNat_natCast, List.getD_eq_getElem?_getD]
  simp
theorem sendG_p : (sendG g f t raw fa).p = g.p := by unfold sendG; split <;> rfl
theorem sendG_len (g : Lg) (f t : Int) (raw : List UInt8) (fa : List Fa) : (sendG g f t raw fa).L.length ≤ g.L.length + 1 := by
  unfold sendG
  split
  · show (g.L ++ [keptS g f t raw fa]).length ≤ _
    simp
  · omega
theorem sendG_due (hok : okB g f t fa = true) : dueG (sendG g f t raw fa) (g.L.length : Int) = dueS g.p (keptS g f t raw fa) := by
  unfold dueG
  rw [sendG_id hok, if_pos rfl, sendG_sd hok, sendG_p]
theorem due_blocked (hok : okB g f t fa = true) (hp : passB g t = false) : dueG (sendG g f t raw fa) (g.L.length : Int) = [] := by
  rw [sendG_due hok]
  unfold keptS
  rw [hp]
  rfl
/-- One place of a frame that passed. -/
structure DueOk (p : Pl) (f t : Int) (d : Du) : Prop where
  ne : d.r ≠ f
  r0 : 0 ≤ d.r
  r1 : d.r < p.nodes
  c : d.c = 0 ∨ d.c = 1
  lo : t + p.dmin + p.air ≤ d.t
  hi : d.t ≤ t + p.dmax + p.air
theorem due_passed (hg : OkG g) (hok : okB g f t fa = true) (hp : passB g t = true) : (∀ d ∈ dueG (sendG g f t raw fa) (g.L.length : Int), DueOk g.p f t d) ∧ (dueG (sendG g f t raw fa) (g.L.length : Int)).length ≤ 32 ∧ Apart2 (dueG (sendG g f t raw fa) (g.L.length : Int)) := by
  have P := planU_of hg.plan
  have n1 := P.n1
  have n2 := P.n2
  have hf := (okB_iff.1 hok).2.2
  rw [sendG_due hok]
  have hk : keptS g f t raw fa = ⟨f, t, raw, spreadL g.p fa f 0, spreadL g.p fa f 1⟩ := if_pos hp
  rw [hk]
  refine ⟨fun d hd => ?_, Nat.le_trans (dueS_length (N := g.p.nodes.toNat) (by rw [spreadL_length]; exact Nat.le_refl _) (by rw [spreadL_length]; exact Nat.le_refl _)) (by omega), dueS_apart _ _⟩
  have key : ∀ (c : Nat) (cc : Int), (cc = 0 ∨ cc = 1) → d ∈ dueTo cc (t + g.p.air) (spreadL g.p fa f c) (spreadL g.p fa f c).length → DueOk g.p f t d := fun c cc hcc hd => by
    obtain ⟨i, hi, hl, rfl⟩ := dueTo_mem hd
    rw [spreadL_length] at hi
    have hin := fateL_in P hf f c i
    rw [spreadL_get _ _ _ _ _ hi] at hl
    have hne : ¬ (i : Int) = f := by
      intro e
      unfold fateL at hl
      dsimp only at hl
      rw [decide_eq_true e, Bool.or_true] at hl
      cases hl
    refine ⟨hne, by dsimp only; omega, by dsimp only; omega, hcc, ?_, ?_⟩
    · dsimp only
      rw [spreadL_get _ _ _ _ _ hi]; omega
    · dsimp only
      rw [spreadL_get _ _ _ _ _ hi]; omega
  unfold dueS at hd
  rcases List.mem_append.1 hd with hd | hd
  · exact key 0 0 (.inl rfl) hd
  · exact key 1 1 (.inr rfl) hd
end
/-- What Send answers, number by number. -/
theorem sendV_parts (g : Lg) (f t : Int) (fa : List Fa) : ∃ (i : Int) (p : Bool) (e : Int), sendV g f t fa = .tuple #[.int .i64 i, .bool p, .int .i64 e] ∧ (okB g f t fa = false → i = 0 ∧ p = false ∧ e = 120) ∧ (okB g f t fa = true → i = (g.L.length : Int) ∧ p = passB g t ∧ e = 0) := by
  cases h : okB g f t fa
  · exact ⟨0, false, 120, by unfold sendV; rw [h, if_neg (by decide)], fun _ => ⟨rfl, rfl, rfl⟩, fun e => by cases e⟩
  · exact ⟨g.L.length, passB g t, 0, by unfold sendV; rw [h, if_pos rfl], (fun e => by cases e), fun _ => ⟨rfl, rfl, rfl⟩⟩
/-- What is so ahead of each sending: when the last one passed (or none), and the map. -/
structure ApI (g : Lg) (last : Int) (f : Int → Int → Option Int) : Prop where
  t : (last = -1 ∧ g.opens = 0) ∨ (0 ≤ last ∧ g.opens = last + g.p.slot / 2)
  le : ∀ r c, (f r c).getD 0 ≤ g.opens
section
variable {g : Lg} {f t : Int} {raw : List UInt8} {fa : List Fa} {last : Int} {m : Int → Int → Option Int}
theorem ap_start (p : Pl) : ApI ⟨p, [], 0, 0⟩ (-1) (fun _ _ => none) := ⟨.inl ⟨rfl, rfl⟩, fun _ _ => Int.le_refl _⟩
theorem ap_free (hok : okB g f t fa = true) : freeG g t = passB g t := by
  have := (okB_iff.1 hok).1.2
  unfold freeG comeB
  rw [decide_eq_true this.1, decide_eq_true this.2]; rfl
theorem ap_pass (h : ApI g last m) (hg : OkG g) (hok : okB g f t fa = true) : passB g t = (decide (last < 0) || decide (g.p.slot / 2 ≤ t - last)) := by
  have h1 := (okB_iff.1 hok).1.2
  have h2 := hg.last.1
  unfold passB
  rcases h.t with ⟨e1, e2⟩ | ⟨e1, e2⟩
  · rw [decide_eq_true (by omega), decide_eq_true (by omega : last < 0)]; rfl
  · rw [decide_eq_false (by omega : ¬ last < 0), Bool.false_or]
    by_cases q : g.opens ≤ t
    · rw [decide_eq_true q, decide_eq_true (by omega)]
    · rw [decide_eq_false q, decide_eq_false (by omega)]
theorem ap_no (h : ApI g last m) (hok : okB g f t fa = true) (hp : passB g t = false) : ApI (sendG g f t raw fa) last m := by
  have e1 : (sendG g f t raw fa).opens = g.opens := by
    unfold sendG; rw [if_pos hok, hp]; rfl
  exact ⟨by rw [e1, sendG_p]; exact h.t, by rw [e1]; exact h.le⟩
theorem ap_bad (h : ApI g last m) (hok : okB g f t fa = false) : ApI (sendG g f t raw fa) last m := by
  unfold sendG; rw [hok, if_neg (by decide)]; exact h
/-- Behind the first j of a frame's places. -/
theorem ap_yes (h : ApI g last m) (hg : OkG g) (hok : okB g f t fa = true) (hp : passB g t = true) : ApI (sendG g f t raw fa) t (foldU m (dueG (sendG g f t raw fa) (g.L.length : Int))) := by
  have P := planU_of hg.plan
  have s1 := P.s1
  have h1 := (okB_iff.1 hok).1.2
  have h2 := hg.last.1
  have h3 : g.opens ≤ t := by simpa [passB] using hp
  have e1 : (sendG g f t raw fa).opens = t + g.p.slot / 2 := by
    unfold sendG; rw [if_pos hok, hp]; show (keptS g f t raw fa).t + _ = _; rw [keptS_t]
  have a1 := P.a1
  have d1 := P.d1
  have d2 := P.d2
  refine ⟨.inr ⟨by omega, by rw [e1, sendG_p]⟩, ?_⟩
  rw [e1]
  refine foldU_le (fun r c => ?_) (fun d hd => ?_)
  · have := h.le r c; omega
  · have := ((due_passed hg hok hp).1 d hd).hi; omega
/-- A place's key is as it was ahead of the sending: so frames do not overlap. -/
theorem ap_over (h : ApI g last m) (hg : OkG g) (hok : okB g f t fa = true) (hp : passB g t = true) {L : List Du} (hL : L = dueG (sendG g f t raw fa) (g.L.length : Int)) {j : Nat} (hj : j < L.length) :
    (foldU m (L.take j) (L.getD j default).r (L.getD j default).c).getD 0 ≤ (L.getD j default).t - g.p.air := by
  subst hL
  have D := due_passed (raw := raw) hg hok hp
  rw [foldU_take D.2.2 m j hj]
  have d := D.1 ((dueG (sendG g f t raw fa) (g.L.length : Int)).getD j default) (by rw [List.getD_eq_getElem?_getD, List.getElem?_eq_getElem hj]; exact List.getElem_mem hj)
  have h3 : g.opens ≤ t := by simpa [passB] using hp
  have := h.le ((dueG (sendG g f t raw fa) (g.L.length : Int)).getD j default).r ((dueG (sendG g f t raw fa) (g.L.length : Int)).getD j default).c
  have d1 := (planU_of hg.plan).d1
  have := d.lo
  omega
end
end Go.Proofs.Ytmplidgafdobkaa
