/- An agenda filled out of a slice: what the laws have in common. No condition. -/
import Derived.Test.YtchfponnajednaaAAlive
namespace Go.Proofs.Ytchfponnajednaa
open Go.RowKit Go.Shelf

/-- What is there when events have been put in, one after the other. -/
def fill : List Ev → Nat × List En := fun es => es.foldl (fun s x => (putN s.1 s.2 x, putL s.1 s.2 x)) (0, [])
def fillN (es : List Ev) : Nat := (fill es).1
def fillL (es : List Ev) : List En := (fill es).2
theorem fill_snoc (es : List Ev) (x : Ev) : fillN (es ++ [x]) = putN (fillN es) (fillL es) x ∧ fillL (es ++ [x]) = putL (fillN es) (fillL es) x := by
  unfold fillN fillL fill
  rw [List.foldl_append]
  exact ⟨rfl, rfl⟩
theorem putL_length (nx : Nat) (L : List En) (x : Ev) : (putL nx L x).length ≤ L.length + 1 := by
  unfold putL
  split
  · have := (insE_perm ⟨x, nx⟩ L).length_eq
    simp at this; omega
  · omega
theorem putN_le (nx : Nat) (L : List En) (x : Ev) : putN nx L x ≤ nx + 1 := by
  unfold putN
  split <;> omega
theorem fill_small : ∀ (k : Nat) (es : List Ev), es.length = k → fillN es ≤ k ∧ (fillL es).length ≤ k
  | 0, es, h => by
    obtain rfl := List.eq_nil_of_length_eq_zero h
    exact ⟨Nat.le_refl _, Nat.le_refl _⟩
  | k + 1, es, h => by
    obtain ⟨fs, x, rfl⟩ : ∃ fs x, es = fs ++ [x] := by
      have hne : es ≠ [] := by intro e; subst e; simp at h
      exact ⟨_, _, (List.dropLast_concat_getLast hne).symm⟩
    have ih := fill_small k fs (by simpa using h)
    have h1 := fill_snoc fs x
    rw [h1.1, h1.2]
    have := putL_length (fillN fs) (fillL fs) x
    have := putN_le (fillN fs) (fillL fs) x
    omega
theorem take_snocV {l : List Ev} {j : Nat} (h : j < l.length) : l.take (j + 1) = l.take j ++ [l.getD j default] := by
  rw [List.take_succ_eq_append_getElem h, List.getD_eq_getElem?_getD, List.getElem?_eq_getElem h]; rfl
theorem fill_take {es : List Ev} {k : Nat} (h : k < es.length) : fillN (es.take (k + 1)) = putN (fillN (es.take k)) (fillL (es.take k)) (es.getD k default) ∧ fillL (es.take (k + 1)) = putL (fillN (es.take k)) (fillL (es.take k)) (es.getD k default) := by
  rw [take_snocV h]
  exact fill_snoc _ _
/-- A bool that a law answers. -/
abbrev Says (w : World) (b : Bool) (e : Ending) (w' : World) : Prop := e = .returned (.bool b) ∧ Below w.heap.size w w'
theorem all_src {w w' : World} {L : List En} {v : Value} (h : w'.ownsRow w.heap.size 36 5 v L.length (flatV (L.map En.e))) : ∃ A c, v = .slice A L.length c ∧ L.length ≤ c ∧ VSrc w' A L.length (L.map En.e) ∧ ∀ ad, A = some ad → w.heap.size ≤ ad.block ∧ ad.block < w'.heap.size := by
  obtain ⟨A, c, e, h1, h2⟩ := VSrc.of_own h
  refine ⟨A, c, e, ?_, h1, fun ad he => h.lt _ (h2 ad he)⟩
  subst e
  rcases h.2 with ⟨e, h0⟩ | ⟨g, cap, cur, e, _, _, hc, _⟩
  · omega
  · injection e with _ _ e3
    omega

/-- What R says hangs on blocks of G alone. -/
def Only (G : Nat → Prop) (R : World → Prop) : Prop := ∀ (A B : World) (S : Nat → Prop), Kept S A B → (∀ k, G k → ¬ S k) → R A → R B
theorem Only.more {G H : Nat → Prop} {R : World → Prop} (h : Only G R) (hG : ∀ k, G k → H k) : Only H R := fun A B S hk hn hr => h A B S hk (fun k hg => hn k (hG k hg)) hr
theorem Only.and {G H : Nat → Prop} {R Q : World → Prop} (h : Only G R) (h2 : Only H Q) : Only (fun k => G k ∨ H k) (fun V => R V ∧ Q V) := fun A B S hk hn hr =>
  ⟨h A B S hk (fun k hg => hn k (.inl hg)) hr.1, h2 A B S hk (fun k hg => hn k (.inr hg)) hr.2⟩
theorem only_true (G : Nat → Prop) : Only G (fun _ => True) := fun _ _ _ _ _ _ => trivial
theorem only_whole {G : Nat → Prop} {b : Nat} {t : TypeId} {cs : Array Value} (h : G b) : Only G (fun V => Whole V b t cs) := fun _ _ _ hk hn hr => hr.kept hk (hn b h)
theorem only_src {G : Nat → Prop} {A : Option Addr} {n : Nat} {es : List Ev} (h : ∀ ad, A = some ad → G ad.block) : Only G (fun V => VSrc V A n es) := fun _ _ _ hk hn hr => hr.kept hk (fun ad e => hn _ (h ad e))

/-- An agenda, and what it does not touch. -/
def AgQ (w0 : World) (a nx : Nat) (L : List En) (Q : World → Prop) (W : World) : Prop :=
  ∃ F, AgF F a nx L W ∧ Bnd F W ∧ Below w0.heap.size w0 W ∧ (∀ k, k < w0.heap.size → F k) ∧ Q W ∧ Only F Q
section
variable {w0 W W' : World} {a nx nx' : Nat} {L L' : List En} {Q R : World → Prop}
theorem AgQ.below (h : AgQ w0 a nx L Q W) : Below w0.heap.size w0 W := by
  obtain ⟨F, h⟩ := h
  exact h.2.2.1
theorem AgQ.fact (h : AgQ w0 a nx L Q W) : Q W := by
  obtain ⟨F, h⟩ := h
  exact h.2.2.2.2.1
theorem AgQ.later (h : AgQ w0 a nx L Q W) (hb : Below W.heap.size W W') : AgQ w0 a nx L Q W' := by
  obtain ⟨F, h1, h2, h3, h4, h5, h6⟩ := h
  exact ⟨F, h1.later hb, h2.more hb.size, k_then hb h3, h4, h6 _ _ Empty (Kept.of_below hb Empty) (fun _ _ h => h) h5, h6⟩
theorem AgQ.add (h : AgQ w0 a nx L Q W) (hb : Below W.heap.size W W') (hR : R W') (hO : Only (fun k => W.heap.size ≤ k ∧ k < W'.heap.size) R) : AgQ w0 a nx L (fun V => Q V ∧ R V) W' := by
  obtain ⟨F, h1, h2, h3, h4, h5, h6⟩ := h
  exact ⟨Grow F W W', h1.new hb, h2.new hb.size, k_then hb h3, fun k hk => .inl (h4 k hk), ⟨h6 _ _ Empty (Kept.of_below hb Empty) (fun _ _ h => h) h5, hR⟩, h6.and hO⟩
theorem AgQ.box (h : AgQ w0 a nx L Q W) (t : TypeId) (cs : Array Value) : AgQ w0 a nx L (fun V => Q V ∧ Whole V W.heap.size t cs) (W.alloc (.cells cs t)) :=
  h.add ((Below.refl _ _).alloc (Nat.le_refl _) _) (Whole.new W t cs) (only_whole ⟨Nat.le_refl _, by simp⟩)
theorem AgQ.turn {F : Nat → Prop} (h1 : Bnd F W) (h2 : Below w0.heap.size w0 W) (h3 : ∀ k, k < w0.heap.size → F k) (h4 : Q W) (h5 : Only F Q) (hag : AgF F a nx' L' W') (hk : KeptF F W W') : AgQ w0 a nx' L' Q W' :=
  ⟨F, hag, h1.more hk.size, ((Kept.of_below h2 Empty).trans hk (fun i hi hn => hn (h3 i hi))).below (fun _ _ h => h), h3, h5 _ _ _ hk (fun _ hk hn => hn hk) h4, h5⟩
theorem put_q {x : Ev} (h : AgQ w0 a nx L Q W) (hnx : nx < 1000000000) :
    Calls Try.prog 16 #[.pointer (some ⟨a, 0, none⟩), evV x] W fun e W' => e = .returned (.int .i64 (putE L x)) ∧ AgQ w0 a (putN nx L x) (putL nx L x) Q W' := by
  obtain ⟨F, h1, h2, h3, h4, h5, h6⟩ := h
  exact (put_f h1 h2 hnx).mono fun e W' k => ⟨k.1, AgQ.turn h2 h3 h4 h5 h6 k.2.1 k.2.2⟩
theorem take_q (h : AgQ w0 a nx L Q W) (hl : L.length ≤ 1000000) :
    Calls Try.prog 17 #[.pointer (some ⟨a, 0, none⟩)] W fun e W' => e = .returned (headOf L) ∧ AgQ w0 a nx L.tail Q W' := by
  obtain ⟨F, h1, h2, h3, h4, h5, h6⟩ := h
  exact (take_f h1 h2 hl).mono fun e W' k => ⟨k.1, AgQ.turn h2 h3 h4 h5 h6 k.2.1 k.2.2⟩
theorem drop_q {kind node : Int} (h : AgQ w0 a nx L Q W) (hl : L.length ≤ 1000000) :
    Calls Try.prog 19 #[.pointer (some ⟨a, 0, none⟩), .int .i64 kind, .int .i64 node] W fun e W' => e = .returned (.int .i64 ((L.length : Int) - ((L.filter (keepB kind node)).length : Int))) ∧ AgQ w0 a nx (L.filter (keepB kind node)) Q W' := by
  obtain ⟨F, h1, h2, h3, h4, h5, h6⟩ := h
  exact (drop_f h1 h2 hl).mono fun e W' k => ⟨k.1, AgQ.turn h2 h3 h4 h5 h6 k.2.1 k.2.2⟩
theorem first_q (h : AgQ w0 a nx L Q W) : Calls Try.prog 11 #[.pointer (some ⟨a, 0, none⟩)] W fun e W' => e = .returned (headOf L) ∧ Below W.heap.size W W' := by
  obtain ⟨F, h⟩ := h
  exact first_f h.1
theorem len_q (h : AgQ w0 a nx L Q W) : Calls Try.prog 14 #[.pointer (some ⟨a, 0, none⟩)] W fun e W' => e = .returned (.int .i64 (L.length : Int)) ∧ Below W.heap.size W W' := by
  obtain ⟨F, h⟩ := h
  exact len_f h.1
/-- All events, in memory that nobody touches thenceforth. -/
def AllQ (w0 : World) (a nx : Nat) (L : List En) (Q : World → Prop) (e : Ending) (W' : World) : Prop :=
  ∃ A c, e = .returned (.slice A L.length c) ∧ L.length ≤ c ∧ AgQ w0 a nx L (fun V => Q V ∧ VSrc V A L.length (L.map En.e)) W'
theorem all_q (h : AgQ w0 a nx L Q W) (hl : L.length ≤ 1000000) : Calls Try.prog 13 #[.pointer (some ⟨a, 0, none⟩)] W fun e W' => AllQ w0 a nx L Q e W' ∧ Below W.heap.size W W' := by
  have h' := h
  obtain ⟨F, h1, _⟩ := h'
  refine (all_f h1 hl).mono ?_
  rintro e W' ⟨v, rfl, hr, hb⟩
  obtain ⟨A, c, rfl, hlc, hsrc, hbl⟩ := all_src hr
  exact ⟨⟨A, c, rfl, hlc, h.add hb hsrc (only_src hbl)⟩, hb⟩
/-- What is taken up to a time, in memory that nobody touches thenceforth. -/
def UntilQ (w0 : World) (a nx : Nat) (L : List En) (t : Int) (Q : World → Prop) (e : Ending) (W' : World) : Prop :=
  ∃ A n c, e = .returned (.slice A n c) ∧ UpTo t L n ∧ AgQ w0 a nx (L.drop n) (fun V => Q V ∧ VSrc V A n (evs L n)) W'
theorem until_q {t : Int} (h : AgQ w0 a nx L Q W) (hl : L.length ≤ 1000000) : Calls Try.prog 20 #[.pointer (some ⟨a, 0, none⟩), .int .i64 t] W (UntilQ w0 a nx L t Q) := by
  obtain ⟨F, h1, h2, h3, h4, h5, h6⟩ := h
  refine (until_f h1 h2 hl).mono ?_
  rintro e W' ⟨A, n, c, rfl, hup, hsrc, hag, hk, hA, _⟩
  refine ⟨A, n, c, rfl, hup, _, hag, ?_, ((Kept.of_below h3 Empty).trans hk (fun i hi hn => hn (h4 i hi))).below (fun _ _ h => h), fun k hk => .inl (h4 k hk), ⟨h6 _ _ _ hk (fun _ hk hn => hn hk) h5, hsrc⟩, ?_⟩
  · rintro k (hf | ⟨ad, e, rfl⟩)
    · exact Nat.lt_of_lt_of_le (h2 k hf) hk.size
    · exact (hA ad e).2
  · exact h6.and (only_src (G := fun k => ∃ ad, A = some ad ∧ k = ad.block) (fun ad e => ⟨ad, e, rfl⟩))
end
theorem AgQ.start (w : World) : AgQ w w.heap.size 0 [] (fun _ => True) (w.alloc (.cells #[.pointer none] 27)) := by
  have hb : Below w.heap.size w (w.alloc (.cells #[.pointer none] 27)) := (Below.refl _ _).alloc (Nat.le_refl _) _
  exact ⟨fun k => k < w.heap.size, AgF.zero (Whole.new w _ _) (by omega), fun k hk => by simp; omega, hb, fun _ h => h, trivial, only_true _⟩

/-- Two agendas, apart, and what they don't touch. -/
def AgQ2 (w0 : World) (a nx : Nat) (L : List En) (b ny : Nat) (M : List En) (Q : World → Prop) (W : World) : Prop :=
  ∃ F, Ag2 F a nx L b ny M W ∧ Bnd F W ∧ Below w0.heap.size w0 W ∧ (∀ k, k < w0.heap.size → F k) ∧ Q W ∧ Only F Q
section
variable {w0 W W' : World} {a nx b ny nx' : Nat} {L M L' : List En} {Q R : World → Prop}
theorem AgQ2.below (h : AgQ2 w0 a nx L b ny M Q W) : Below w0.heap.size w0 W := by
  obtain ⟨F, h⟩ := h
  exact h.2.2.1
theorem AgQ2.fact (h : AgQ2 w0 a nx L b ny M Q W) : Q W := by
  obtain ⟨F, h⟩ := h
  exact h.2.2.2.2.1
theorem AgQ2.swap (h : AgQ2 w0 a nx L b ny M Q W) : AgQ2 w0 b ny M a nx L Q W := by
  obtain ⟨F, h1, h⟩ := h
  exact ⟨F, h1.swap, h⟩
theorem AgQ2.fst (h : AgQ2 w0 a nx L b ny M Q W) : AgQ w0 a nx L Q W := by
  obtain ⟨F, h1, h⟩ := h
  exact ⟨F, h1.fst, h⟩
theorem AgQ2.snd (h : AgQ2 w0 a nx L b ny M Q W) : AgQ w0 b ny M Q W := h.swap.fst
theorem AgQ2.later (h : AgQ2 w0 a nx L b ny M Q W) (hb : Below W.heap.size W W') : AgQ2 w0 a nx L b ny M Q W' := by
  obtain ⟨F, h1, h2, h3, h4, h5, h6⟩ := h
  exact ⟨F, h1.later hb, h2.more hb.size, k_then hb h3, h4, h6 _ _ Empty (Kept.of_below hb Empty) (fun _ _ h => h) h5, h6⟩
theorem AgQ2.add (h : AgQ2 w0 a nx L b ny M Q W) (hb : Below W.heap.size W W') (hR : R W') (hO : Only (fun k => W.heap.size ≤ k ∧ k < W'.heap.size) R) : AgQ2 w0 a nx L b ny M (fun V => Q V ∧ R V) W' := by
  obtain ⟨F, h1, h2, h3, h4, h5, h6⟩ := h
  exact ⟨Grow F W W', h1.new hb, h2.new hb.size, k_then hb h3, fun k hk => .inl (h4 k hk), ⟨h6 _ _ Empty (Kept.of_below hb Empty) (fun _ _ h => h) h5, hR⟩, h6.and hO⟩
theorem AgQ2.box (h : AgQ2 w0 a nx L b ny M Q W) (t : TypeId) (cs : Array Value) : AgQ2 w0 a nx L b ny M (fun V => Q V ∧ Whole V W.heap.size t cs) (W.alloc (.cells cs t)) :=
  h.add ((Below.refl _ _).alloc (Nat.le_refl _) _) (Whole.new W t cs) (only_whole ⟨Nat.le_refl _, by simp⟩)
theorem AgQ2.step {P : Program} {f : FuncId} {args : Array Value} {X : Ending → World → Prop} (h : AgQ2 w0 a nx L b ny M Q W)
    (hc : ∀ G, Bnd G W → AgF G a nx L W → Calls P f args W fun e W' => X e W' ∧ AgF G a nx' L' W' ∧ KeptF G W W') :
    Calls P f args W fun e W' => X e W' ∧ AgQ2 w0 a nx' L' b ny M Q W' := by
  obtain ⟨F, h1, h2, h3, h4, h5, h6⟩ := h
  refine (h1.step h2 hc).mono ?_
  rintro e W' ⟨hx, hag, hk⟩
  exact ⟨hx, F, hag, h2.more hk.size, ((Kept.of_below h3 Empty).trans hk (fun i hi hn => hn (h4 i hi))).below (fun _ _ h => h), h4, h6 _ _ _ hk (fun _ hk hn => hn hk) h5, h6⟩
theorem put_q2 {x : Ev} (h : AgQ2 w0 a nx L b ny M Q W) (hnx : nx < 1000000000) :
    Calls Try.prog 16 #[.pointer (some ⟨a, 0, none⟩), evV x] W fun e W' => e = .returned (.int .i64 (putE L x)) ∧ AgQ2 w0 a (putN nx L x) (putL nx L x) b ny M Q W' := h.step fun _ hB hG => put_f hG hB hnx
theorem all_q2 (h : AgQ2 w0 a nx L b ny M Q W) (hl : L.length ≤ 1000000) : Calls Try.prog 13 #[.pointer (some ⟨a, 0, none⟩)] W fun e W' => ∃ A c, e = .returned (.slice A L.length c) ∧ L.length ≤ c ∧ AgQ2 w0 a nx L b ny M (fun V => Q V ∧ VSrc V A L.length (L.map En.e)) W' := by
  have h' := h.fst
  obtain ⟨F, h1, _⟩ := h'
  refine (all_f h1 hl).mono ?_
  rintro e W' ⟨v, rfl, hr, hb⟩
  obtain ⟨A, c, rfl, hlc, hsrc, hbl⟩ := all_src hr
  exact ⟨A, c, rfl, hlc, h.add hb hsrc (only_src hbl)⟩
theorem copy_q (h : AgQ w0 a nx L Q W) (hl : L.length ≤ 1000000) :
    Calls Try.prog 18 #[.pointer (some ⟨a, 0, none⟩)] W fun e W' => ∃ b, e = .returned (.pointer (some ⟨b, 0, none⟩)) ∧ AgQ2 w0 a nx L b nx L Q W' := by
  obtain ⟨F, h1, h2, h3, h4, h5, h6⟩ := h
  refine (copy_f h1 h2 hl).mono ?_
  rintro e W' ⟨b, rfl, hag, hb, _⟩
  exact ⟨b, rfl, F, hag, h2.more hb.size, k_then hb h3, h4, h6 _ _ Empty (Kept.of_below hb Empty) (fun _ _ h => h) h5, h6⟩
theorem until_q2 {t : Int} (h : AgQ2 w0 a nx L b ny M Q W) (hl : L.length ≤ 1000000) : Calls Try.prog 20 #[.pointer (some ⟨a, 0, none⟩), .int .i64 t] W fun e W' =>
    ∃ A n c, e = .returned (.slice A n c) ∧ UpTo t L n ∧ AgQ2 w0 a nx (L.drop n) b ny M (fun V => Q V ∧ VSrc V A n (evs L n)) W' := by
  obtain ⟨F, ⟨S, T, g1, g2, g3, g4, g5⟩, h2, h3, h4, h5, h6⟩ := h
  have hBB : Bnd (fun k => F k ∨ T k) W := by
    rintro k (hk | hk)
    · exact h2 k hk
    · exact g2.lt k hk
  refine (until_f (F := fun k => F k ∨ T k) (t := t) ⟨S, g1, fun k hk hs => by
    rcases hk with hk | hk
    · exact g4 k hk hs
    · exact g3 k hs hk⟩ hBB hl).mono ?_
  rintro e W' ⟨A, n, c, rfl, hup, hsrc, ⟨S', g6, g7⟩, hk, hA, _⟩
  have hkF : KeptF F W W' := hk.mono fun i hi hf => hi (.inl hf)
  refine ⟨A, n, c, rfl, hup, (fun k => F k ∨ ∃ ad, A = some ad ∧ k = ad.block), ⟨S', T, g6, g2.kept hk (fun k ht hn => hn (.inr ht)), fun k hs ht => g7 k (.inl (.inr ht)) hs, fun k hf => g7 k (by
    rcases hf with hf | hf
    · exact .inl (.inl hf)
    · exact .inr hf), fun k hf ht => ?_⟩, ?_, ((Kept.of_below h3 Empty).trans hkF (fun i hi hn => hn (h4 i hi))).below (fun _ _ h => h), fun k hk => .inl (h4 k hk), ⟨h6 _ _ _ hkF (fun _ hk hn => hn hk) h5, hsrc⟩, ?_⟩
  · rcases hf with hf | ⟨ad, e, rfl⟩
    · exact g5 k hf ht
    · have h8 := (hA ad e).1
      have h9 := g2.lt _ ht
      omega
  · rintro k (hf | ⟨ad, e, rfl⟩)
    · exact Nat.lt_of_lt_of_le (h2 k hf) hk.size
    · exact (hA ad e).2
  · exact h6.and (only_src (G := fun k => ∃ ad, A = some ad ∧ k = ad.block) (fun ad e => ⟨ad, e, rfl⟩))
end
theorem VSrc.tail {w : World} {g o n : Nat} {x : Ev} {es : List Ev} (h : VSrc w (some ⟨g, o, none⟩) (n + 1) (x :: es)) : VSrc w (some ⟨g, o + 5, none⟩) n es := by
  refine ⟨by have := h.1; simp at this; exact this, fun _ => ⟨g, o + 5, rfl, fun i y hy => ?_⟩⟩
  obtain ⟨g', o', e, hc⟩ := h.2 (by omega)
  obtain ⟨rfl, rfl⟩ : g = g' ∧ o = o' := by
    injection e with e
    injection e with e1 e2
    exact ⟨e1, e2⟩
  have := hc (i + 1) y (by simpa using hy)
  rwa [show o + (i + 1) * 5 = o + 5 + i * 5 by omega] at this
theorem five_whole {W : World} {b : Nat} {t : TypeId} {a0 a1 a2 a3 a4 : Value} (h : Whole W b t #[a0, a1, a2, a3, a4]) : W.cell? ⟨b, 0, none⟩ = some a0 ∧ W.cell? ⟨b, 1, none⟩ = some a1 ∧ W.cell? ⟨b, 2, none⟩ = some a2 ∧ W.cell? ⟨b, 3, none⟩ = some a3 ∧ W.cell? ⟨b, 4, none⟩ = some a4 :=
  ⟨h.cell 0, h.cell 1, h.cell 2, h.cell 3, h.cell 4⟩
theorem VSrc.zero (w : World) (A : Option Addr) : VSrc w A 0 [] := ⟨rfl, fun h => absurd h (by omega)⟩
end Go.Proofs.Ytchfponnajednaa
