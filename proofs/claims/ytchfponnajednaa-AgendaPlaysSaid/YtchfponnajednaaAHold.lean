/- An agenda beside blocks that it does not touch: its calls once more, so said. No condition. -/
import Derived.Test.YtchfponnajednaaARef
namespace Go.Proofs.Ytchfponnajednaa
open Go.RowKit Go.Shelf

/-- An agenda none of whose blocks are F's. -/
def AgF (F : Nat → Prop) (a nx : Nat) (L : List En) (W : World) : Prop := ∃ S, AgAt W S a nx L ∧ ∀ k, F k → ¬ S k
/-- F's blocks are there. -/
def Bnd (F : Nat → Prop) (W : World) : Prop := ∀ k, F k → k < W.heap.size
/-- All but F's blocks may have been turned. -/
abbrev KeptF (F : Nat → Prop) (W W' : World) : Prop := Kept (fun k => ¬ F k) W W'
section
variable {F G : Nat → Prop} {a nx : Nat} {L : List En} {W W' : World}
theorem Bnd.more (h : Bnd F W) (hz : W.heap.size ≤ W'.heap.size) : Bnd F W' := fun k hk => Nat.lt_of_lt_of_le (h k hk) hz
theorem AgF.later (h : AgF F a nx L W) (hb : Below W.heap.size W W') : AgF F a nx L W' := by
  obtain ⟨S, h1, h2⟩ := h
  exact ⟨S, h1.later hb, h2⟩
theorem AgF.less (h : AgF F a nx L W) (hG : ∀ k, G k → F k) : AgF G a nx L W := by
  obtain ⟨S, h1, h2⟩ := h
  exact ⟨S, h1, fun k hk => h2 k (hG k hk)⟩
/-- New blocks are none of an agenda's. -/
theorem AgF.new (h : AgF F a nx L W) (hb : Below W.heap.size W W') : AgF (Grow F W W') a nx L W' := by
  obtain ⟨S, h1, h2⟩ := h
  exact ⟨S, h1.later hb, fun k hk hs => by
    rcases hk with hk | hk
    · exact h2 k hk hs
    · have := h1.lt k hs; omega⟩
theorem Bnd.new (h : Bnd F W) (hz : W.heap.size ≤ W'.heap.size) : Bnd (Grow F W W') W' := by
  rintro k (hk | hk)
  · exact Nat.lt_of_lt_of_le (h k hk) hz
  · exact hk.2
theorem AgF.turned {S : Nat → Prop} {nx' : Nat} {L' : List En} (hF : ∀ k, F k → ¬ S k) (hB : Bnd F W) (h : AgAt W' (Grow S W W') a nx' L') (hk : Kept S W W') : AgF F a nx' L' W' ∧ KeptF F W W' :=
  ⟨⟨_, h, fun k hk hs => by
    rcases hs with hs | hs
    · exact hF k hk hs
    · have := hB k hk; omega⟩, hk.mono fun i hi hf => hF i hf hi⟩
theorem KeptF.of_below (hb : Below W.heap.size W W') : KeptF F W W' := Kept.of_below hb _

theorem put_f {x : Ev} (h : AgF F a nx L W) (hB : Bnd F W) (hnx : nx < 1000000000) :
    Calls Try.prog 16 #[.pointer (some ⟨a, 0, none⟩), evV x] W fun e W' => e = .returned (.int .i64 (putE L x)) ∧ AgF F a (putN nx L x) (putL nx L x) W' ∧ KeptF F W W' := by
  obtain ⟨S, h1, h2⟩ := h
  exact (agPut_any W S a nx L x h1 hnx).mono fun e W' k => ⟨k.1, AgF.turned h2 hB k.2.1 k.2.2⟩
theorem take_f (h : AgF F a nx L W) (hB : Bnd F W) (hl : L.length ≤ 1000000) :
    Calls Try.prog 17 #[.pointer (some ⟨a, 0, none⟩)] W fun e W' => e = .returned (headOf L) ∧ AgF F a nx L.tail W' ∧ KeptF F W W' := by
  obtain ⟨S, h1, h2⟩ := h
  exact (agTake_any W S a nx L h1 hl).mono fun e W' k => ⟨k.1, AgF.turned h2 hB k.2.1 k.2.2⟩
theorem drop_f {kind node : Int} (h : AgF F a nx L W) (hB : Bnd F W) (hl : L.length ≤ 1000000) :
    Calls Try.prog 19 #[.pointer (some ⟨a, 0, none⟩), .int .i64 kind, .int .i64 node] W fun e W' => e = .returned (.int .i64 ((L.length : Int) - ((L.filter (keepB kind node)).length : Int))) ∧ AgF F a nx (L.filter (keepB kind node)) W' ∧ KeptF F W W' := by
  obtain ⟨S, h1, h2⟩ := h
  exact (agDrop_any W S a nx L kind node h1 hl).mono fun e W' k => ⟨k.1, AgF.turned h2 hB k.2.1 k.2.2⟩
theorem first_f (h : AgF F a nx L W) : Calls Try.prog 11 #[.pointer (some ⟨a, 0, none⟩)] W fun e W' => e = .returned (headOf L) ∧ Below W.heap.size W W' := by
  obtain ⟨S, h1, _⟩ := h
  exact agFirst_any W S a nx L h1
theorem len_f (h : AgF F a nx L W) : Calls Try.prog 14 #[.pointer (some ⟨a, 0, none⟩)] W fun e W' => e = .returned (.int .i64 (L.length : Int)) ∧ Below W.heap.size W W' := by
  obtain ⟨S, h1, _⟩ := h
  exact agLen_any W S a nx L h1
theorem all_f (h : AgF F a nx L W) (hl : L.length ≤ 1000000) : Calls Try.prog 13 #[.pointer (some ⟨a, 0, none⟩)] W (AllDone W L) := by
  obtain ⟨S, h1, _⟩ := h
  exact agAll_any W S a nx L h1 hl
/-- What is taken up to a time: in memory of its own, which is F's thenceforth. -/
def UntilF (F : Nat → Prop) (a nx : Nat) (L : List En) (t : Int) (W : World) (e : Ending) (W' : World) : Prop :=
  ∃ A n c, e = .returned (.slice A n c) ∧ UpTo t L n ∧ VSrc W' A n (evs L n) ∧ AgF (fun k => F k ∨ ∃ ad, A = some ad ∧ k = ad.block) a nx (L.drop n) W' ∧ KeptF F W W' ∧ (∀ ad, A = some ad → W.heap.size ≤ ad.block ∧ ad.block < W'.heap.size) ∧ W'.ownsRow W.heap.size 36 5 (.slice A n c) n (flatV (evs L n))
theorem until_f {t : Int} (h : AgF F a nx L W) (hB : Bnd F W) (hl : L.length ≤ 1000000) :
    Calls Try.prog 20 #[.pointer (some ⟨a, 0, none⟩), .int .i64 t] W (UntilF F a nx L t W) := by
  obtain ⟨S, h1, h2⟩ := h
  refine (agUntil_any W S a nx L t h1 hl).mono ?_
  rintro e W' ⟨v, n, S2, rfl, hup, hr, hag, hk, hS2, hv⟩
  obtain ⟨A, c, rfl, hsrc, hA⟩ := VSrc.of_own hr
  refine ⟨A, n, c, rfl, hup, hsrc, ⟨S2, hag, fun k hk' hs => ?_⟩, hk.mono fun i hi hf => h2 i hf hi, fun ad e => hr.lt _ (hA ad e), hr⟩
  rcases hk' with hf | ⟨ad, e, rfl⟩
  · rcases hS2 k hs with h3 | h3
    · exact h2 k hf h3
    · have := hB k hf; omega
  · exact hv _ (hA ad e) hs

/-- Two agendas, apart, none of whose blocks are F's. -/
def Ag2 (F : Nat → Prop) (a nx : Nat) (L : List En) (b ny : Nat) (M : List En) (W : World) : Prop :=
  ∃ S T, AgAt W S a nx L ∧ AgAt W T b ny M ∧ (∀ k, S k → ¬ T k) ∧ (∀ k, F k → ¬ S k) ∧ ∀ k, F k → ¬ T k
variable {b ny : Nat} {M : List En}
theorem Ag2.fst (h : Ag2 F a nx L b ny M W) : AgF F a nx L W := by
  obtain ⟨S, T, h1, h2, h3, h4, h5⟩ := h
  exact ⟨S, h1, h4⟩
theorem Ag2.snd (h : Ag2 F a nx L b ny M W) : AgF F b ny M W := by
  obtain ⟨S, T, h1, h2, h3, h4, h5⟩ := h
  exact ⟨T, h2, h5⟩
theorem Ag2.swap (h : Ag2 F a nx L b ny M W) : Ag2 F b ny M a nx L W := by
  obtain ⟨S, T, h1, h2, h3, h4, h5⟩ := h
  exact ⟨T, S, h2, h1, fun k hk hs => h3 k hs hk, h5, h4⟩
theorem Ag2.later (h : Ag2 F a nx L b ny M W) (hb : Below W.heap.size W W') : Ag2 F a nx L b ny M W' := by
  obtain ⟨S, T, h1, h2, h3, h4, h5⟩ := h
  exact ⟨S, T, h1.later hb, h2.later hb, h3, h4, h5⟩
theorem Ag2.less (h : Ag2 F a nx L b ny M W) (hG : ∀ k, G k → F k) : Ag2 G a nx L b ny M W := by
  obtain ⟨S, T, h1, h2, h3, h4, h5⟩ := h
  exact ⟨S, T, h1, h2, h3, fun k hk => h4 k (hG k hk), fun k hk => h5 k (hG k hk)⟩
theorem Ag2.new (h : Ag2 F a nx L b ny M W) (hb : Below W.heap.size W W') : Ag2 (Grow F W W') a nx L b ny M W' := by
  obtain ⟨S, T, h1, h2, h3, h4, h5⟩ := h
  refine ⟨S, T, h1.later hb, h2.later hb, h3, fun k hk hs => ?_, fun k hk hs => ?_⟩
  · rcases hk with hk | hk
    · exact h4 k hk hs
    · have := h1.lt k hs; omega
  · rcases hk with hk | hk
    · exact h5 k hk hs
    · have := h2.lt k hs; omega
/-- The first of two is turned by a call that is said of one. -/
theorem Ag2.step {P : Program} {f : FuncId} {args : Array Value} {R : Ending → World → Prop} {nx' : Nat} {L' : List En} (h : Ag2 F a nx L b ny M W) (hB : Bnd F W)
    (hc : ∀ G, Bnd G W → AgF G a nx L W → Calls P f args W fun e W' => R e W' ∧ AgF G a nx' L' W' ∧ KeptF G W W') :
    Calls P f args W fun e W' => R e W' ∧ Ag2 F a nx' L' b ny M W' ∧ KeptF F W W' := by
  obtain ⟨S, T, h1, h2, h3, h4, h5⟩ := h
  refine (hc (fun k => F k ∨ T k) (fun k hk => ?_) ⟨S, h1, fun k hk hs => ?_⟩).mono ?_
  · rcases hk with hk | hk
    · exact hB k hk
    · exact h2.lt k hk
  · rcases hk with hk | hk
    · exact h4 k hk hs
    · exact h3 k hs hk
  · rintro e W' ⟨hr, ⟨S', h6, h7⟩, hk⟩
    exact ⟨hr, ⟨S', T, h6, h2.kept hk (fun k hk' hn => hn (.inr hk')), fun k hs ht => h7 k (.inr ht) hs, fun k hf => h7 k (.inl hf), h5⟩, hk.mono fun i hi hf => hi (.inl hf)⟩
/-- A copy stands beside what it was copied from. -/
def CopyF (F : Nat → Prop) (a nx : Nat) (L : List En) (W : World) (e : Ending) (W' : World) : Prop :=
  ∃ b, e = .returned (.pointer (some ⟨b, 0, none⟩)) ∧ Ag2 F a nx L b nx L W' ∧ Below W.heap.size W W' ∧ W.heap.size ≤ b
theorem copy_f (h : AgF F a nx L W) (hB : Bnd F W) (hl : L.length ≤ 1000000) :
    Calls Try.prog 18 #[.pointer (some ⟨a, 0, none⟩)] W (CopyF F a nx L W) := by
  obtain ⟨S, h1, h2⟩ := h
  refine (agCopy_any W S a nx L h1 hl).mono ?_
  rintro e W' ⟨b, T, rfl, hag, hb, hT⟩
  exact ⟨b, rfl, ⟨S, T, h1.later hb, hag, fun k hs ht => by have := h1.lt k hs; have := hT k ht; omega, h2, fun k hf ht => by have := hB k hf; have := hT k ht; omega⟩, hb, hT b hag.own⟩
end
/-- A new agenda. -/
theorem AgF.zero {F : Nat → Prop} {W : World} {a : Nat} (h : Whole W a 27 #[.pointer none]) (hF : ¬ F a) : AgF F a 0 [] W := ⟨_, AgAt.zero h, fun k hk e => hF (by obtain rfl : k = a := e; exact hk)⟩
end Go.Proofs.Ytchfponnajednaa
