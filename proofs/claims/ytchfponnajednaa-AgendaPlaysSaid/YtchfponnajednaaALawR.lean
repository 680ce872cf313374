/- Agendas beside rows of events of the law's own, that may be appended to. No condition. -/
import Derived.Test.YtchfponnajednaaALawM
namespace Go.Proofs.Ytchfponnajednaa
open Go.RowKit Go.Shelf

/-- The blocks of a slice. -/
def blk (A : Option Addr) (k : Nat) : Prop := ∃ ad, A = some ad ∧ k = ad.block
/-- A slice of events that was made here. -/
def RowV (W : World) (A : Option Addr) (n c : Nat) (es : List Ev) : Prop := W.ownsRow 0 36 5 (.slice A n c) n (flatV es)
theorem RowV.src {W : World} {A : Option Addr} {n c : Nat} {es : List Ev} (h : RowV W A n c es) : VSrc W A n es := by
  obtain ⟨A', c', e, h1, _⟩ := VSrc.of_own h
  injection e with e1 _ _
  rw [e1]
  exact h1
theorem RowV.own {W : World} {A : Option Addr} {n c k : Nat} {es : List Ev} (h : RowV W A n c es) (hk : (Value.slice A n c).ownBlock = some k) : blk A k := by
  cases A with
  | none => simp [Value.ownBlock] at hk
  | some ad => exact ⟨ad, rfl, by simpa [Value.ownBlock] using hk.symm⟩
theorem RowV.blk_own {A : Option Addr} {n c k : Nat} (h : blk A k) : (Value.slice A n c).ownBlock = some k := by
  obtain ⟨ad, rfl, rfl⟩ := h
  rfl
theorem RowV.lt {W : World} {A : Option Addr} {n c k : Nat} {es : List Ev} (h : RowV W A n c es) (hk : blk A k) : k < W.heap.size := (World.ownsRow.lt h k (RowV.blk_own hk)).2
theorem RowV.cap {W : World} {A : Option Addr} {n c : Nat} {es : List Ev} (h : RowV W A n c es) : n ≤ c := by
  rcases h.2 with ⟨e, h0⟩ | ⟨g, cap, cur, e, _, _, hc, _⟩
  · omega
  · injection e with _ _ e3
    omega
theorem only_row {G : Nat → Prop} {A : Option Addr} {n c : Nat} {es : List Ev} (h : ∀ k, blk A k → G k) : Only G (fun V => RowV V A n c es) := fun _ _ _ hk hn hr => own_kept hr hk (fun g hg => hn g (h g (RowV.own hr hg)))

/-- What is said of agendas: it hangs on none of F's blocks. -/
structure IsSt (St : (Nat → Prop) → World → Prop) : Prop where
  less : ∀ F G W, St F W → (∀ k, G k → F k) → St G W
  turn : ∀ F W W', St F W → Kept F W W' → St (Grow F W W') W'
theorem isSt1 (a nx : Nat) (L : List En) : IsSt (fun F W => AgF F a nx L W) where
  less := fun _ _ _ h hG => h.less hG
  turn := fun F W W' h hk => by
    obtain ⟨S, h1, h2⟩ := h
    exact ⟨S, h1.kept hk (fun k hs hf => h2 k hf hs), fun k hg hs => by
      rcases hg with hg | hg
      · exact h2 k hg hs
      · have := h1.lt k hs; omega⟩
theorem isSt2 (a nx : Nat) (L : List En) (b ny : Nat) (M : List En) : IsSt (fun F W => Ag2 F a nx L b ny M W) where
  less := fun _ _ _ h hG => h.less hG
  turn := fun F W W' h hk => by
    obtain ⟨S, T, h1, h2, h3, h4, h5⟩ := h
    refine ⟨S, T, h1.kept hk (fun k hs hf => h4 k hf hs), h2.kept hk (fun k hs hf => h5 k hf hs), h3, fun k hg hs => ?_, fun k hg hs => ?_⟩
    · rcases hg with hg | hg
      · exact h4 k hg hs
      · have := h1.lt k hs; omega
    · rcases hg with hg | hg
      · exact h5 k hg hs
      · have := h2.lt k hs; omega

def HoldQ (St : (Nat → Prop) → World → Prop) (w0 : World) (Q : World → Prop) (W : World) : Prop :=
  ∃ F, St F W ∧ Bnd F W ∧ Below w0.heap.size w0 W ∧ (∀ k, k < w0.heap.size → F k) ∧ Q W ∧ Only F Q
/-- .. and a row of the law's own. -/
def HoldR (St : (Nat → Prop) → World → Prop) (w0 : World) (Q : World → Prop) (A : Option Addr) (n c : Nat) (es : List Ev) (W : World) : Prop :=
  ∃ F, St (fun k => F k ∨ blk A k) W ∧ Bnd F W ∧ Below w0.heap.size w0 W ∧ (∀ k, k < w0.heap.size → F k) ∧ Q W ∧ Only F Q ∧ RowV W A n c es ∧ ∀ k, blk A k → ¬ F k
/-- What a call gives that answers a new row. -/
def Rowed (St' : List Ev → (Nat → Prop) → World → Prop) (X : Option Addr → Nat → Nat → List Ev → Prop) (G : Nat → Prop) (W : World) (e : Ending) (W' : World) : Prop :=
  ∃ A n c es, e = .returned (.slice A n c) ∧ X A n c es ∧ St' es (fun k => G k ∨ blk A k) W' ∧ KeptF G W W' ∧ RowV W' A n c es ∧ ∀ k, blk A k → W.heap.size ≤ k ∧ k < W'.heap.size
section
variable {St St' : (Nat → Prop) → World → Prop} {w0 W W' : World} {Q R : World → Prop} {A : Option Addr} {n c : Nat} {es : List Ev}
theorem HoldQ.below (h : HoldQ St w0 Q W) : Below w0.heap.size w0 W := by
  obtain ⟨F, h⟩ := h
  exact h.2.2.1
theorem HoldQ.fact (h : HoldQ St w0 Q W) : Q W := by
  obtain ⟨F, h⟩ := h
  exact h.2.2.2.2.1
theorem keptF_of (hb : Below W.heap.size W W') (F : Nat → Prop) : Kept F W W' := Kept.of_below hb F
theorem HoldQ.later (hS : IsSt St) (h : HoldQ St w0 Q W) (hb : Below W.heap.size W W') : HoldQ St w0 Q W' := by
  obtain ⟨F, h1, h2, h3, h4, h5, h6⟩ := h
  exact ⟨F, hS.less _ _ _ (hS.turn _ _ _ h1 (Kept.of_below hb _)) (fun k hk => .inl hk), h2.more hb.size, k_then hb h3, h4, h6 _ _ Empty (Kept.of_below hb Empty) (fun _ _ h => h) h5, h6⟩
theorem HoldQ.add (hS : IsSt St) (h : HoldQ St w0 Q W) (hb : Below W.heap.size W W') (hR : R W') (hO : Only (fun k => W.heap.size ≤ k ∧ k < W'.heap.size) R) : HoldQ St w0 (fun V => Q V ∧ R V) W' := by
  obtain ⟨F, h1, h2, h3, h4, h5, h6⟩ := h
  exact ⟨Grow F W W', hS.turn _ _ _ h1 (Kept.of_below hb _), h2.new hb.size, k_then hb h3, fun k hk => .inl (h4 k hk), ⟨h6 _ _ Empty (Kept.of_below hb Empty) (fun _ _ h => h) h5, hR⟩, h6.and hO⟩
theorem HoldR.below (h : HoldR St w0 Q A n c es W) : Below w0.heap.size w0 W := by
  obtain ⟨F, h⟩ := h
  exact h.2.2.1
theorem HoldR.fact (h : HoldR St w0 Q A n c es W) : Q W := by
  obtain ⟨F, h⟩ := h
  exact h.2.2.2.2.1
theorem HoldR.row (h : HoldR St w0 Q A n c es W) : RowV W A n c es := by
  obtain ⟨F, h⟩ := h
  exact h.2.2.2.2.2.2.1
theorem HoldR.toQ (h : HoldR St w0 Q A n c es W) : HoldQ St w0 (fun V => Q V ∧ RowV V A n c es) W := by
  obtain ⟨F, h1, h2, h3, h4, h5, h6, h7, h8⟩ := h
  refine ⟨_, h1, ?_, h3, fun k hk => .inl (h4 k hk), ⟨h5, h7⟩, h6.and (only_row fun k hk => hk)⟩
  rintro k (hk | hk)
  · exact h2 k hk
  · exact h7.lt hk
theorem HoldR.later (hS : IsSt St) (h : HoldR St w0 Q A n c es W) (hb : Below W.heap.size W W') : HoldR St w0 Q A n c es W' := by
  obtain ⟨F, h1, h2, h3, h4, h5, h6, h7, h8⟩ := h
  exact ⟨F, hS.less _ _ _ (hS.turn _ _ _ h1 (Kept.of_below hb _)) (fun k hk => .inl hk), h2.more hb.size, k_then hb h3, h4, h6 _ _ Empty (Kept.of_below hb Empty) (fun _ _ h => h) h5, h6, own_kept h7 (Kept.of_below hb Empty) (fun _ _ h => h), h8⟩
theorem HoldR.add (hS : IsSt St) (h : HoldR St w0 Q A n c es W) (hb : Below W.heap.size W W') (hR : R W') (hO : Only (fun k => W.heap.size ≤ k ∧ k < W'.heap.size) R) : HoldR St w0 (fun V => Q V ∧ R V) A n c es W' := by
  obtain ⟨F, h1, h2, h3, h4, h5, h6, h7, h8⟩ := h
  refine ⟨Grow F W W', hS.less _ _ _ (hS.turn _ _ _ h1 (Kept.of_below hb _)) (fun k hk => ?_), h2.new hb.size, k_then hb h3, fun k hk => .inl (h4 k hk), ⟨h6 _ _ Empty (Kept.of_below hb Empty) (fun _ _ h => h) h5, hR⟩, h6.and hO, own_kept h7 (Kept.of_below hb Empty) (fun _ _ h => h), fun k hk hg => ?_⟩
  · rcases hk with (hk | hk) | hk
    · exact .inl (.inl hk)
    · exact .inr hk
    · exact .inl (.inr hk)
  · rcases hg with hg | hg
    · exact h8 k hk hg
    · have := h7.lt hk; omega
/-- A row of the law's own, begun. -/
theorem HoldQ.row (hS : IsSt St) (h : HoldQ St w0 Q W) (hb : Below W.heap.size W W') (hr : RowV W' A n c es) (hn : ∀ k, blk A k → W.heap.size ≤ k) : HoldR St w0 Q A n c es W' := by
  obtain ⟨F, h1, h2, h3, h4, h5, h6⟩ := h
  refine ⟨F, hS.less _ _ _ (hS.turn _ _ _ h1 (Kept.of_below hb _)) (fun k hk => ?_), h2.more hb.size, k_then hb h3, h4, h6 _ _ Empty (Kept.of_below hb Empty) (fun _ _ h => h) h5, h6, hr, fun k hk hf => ?_⟩
  · rcases hk with hk | hk
    · exact .inl hk
    · exact .inr ⟨hn k hk, hr.lt hk⟩
  · have := hn k hk
    have := h2 k hf
    omega
/-- .. and grown. -/
theorem HoldR.grown (hS : IsSt St) (h : HoldR St w0 Q A n c es W) {v' : Value} {m : Nat} {fs : List Ev} (h1 : W'.ownsRow 0 36 5 v' m (flatV fs)) (h2 : W.grownBy W' (Value.slice A n c).ownBlock)
    (h3 : v'.ownBlock = (Value.slice A n c).ownBlock ∨ ∃ k, v'.ownBlock = some k ∧ W.heap.size ≤ k) : ∃ A' c', v' = .slice A' m c' ∧ HoldR St w0 Q A' m c' fs W' := by
  obtain ⟨A', c', rfl⟩ := own_slice h1
  refine ⟨A', c', rfl, ?_⟩
  obtain ⟨F, g1, g2, g3, g4, g5, g6, g7, g8⟩ := h
  have k0 : Kept (fun k => blk A k) W W' := (Kept.refl _ W).grown h2 (fun k hk => .inl (RowV.own g7 hk))
  have hA' : ∀ k, blk A' k → blk A k ∨ (W.heap.size ≤ k ∧ k < W'.heap.size) := fun k hk => by
    have e := RowV.blk_own (n := m) (c := c') hk
    have hlt := (World.ownsRow.lt h1 k e).2
    rcases h3 with h3 | ⟨q, h3, hq⟩
    · rw [e] at h3
      exact .inl (RowV.own g7 h3.symm)
    · rw [e] at h3
      injection h3 with h3
      exact .inr ⟨by omega, hlt⟩
  refine ⟨F, hS.less _ _ _ (hS.turn _ _ _ g1 (k0.mono fun k hk => .inr hk)) (fun k hk => ?_), g2.more h2.size, ((Kept.of_below g3 Empty).trans k0 (fun i hi hb => absurd (g4 i hi) (g8 i hb))).below (fun _ _ h => h), g4, g6 _ _ _ k0 (fun k hf hb => g8 k hb hf) g5, g6, h1, fun k hk hf => ?_⟩
  · rcases hk with hk | hk
    · exact .inl (.inl hk)
    · rcases hA' k hk with h | h
      · exact .inl (.inr h)
      · exact .inr h
  · rcases hA' k hk with h | h
    · exact g8 k h hf
    · have := g2 k hf; omega
section
variable {P : Program} {f : FuncId} {args : Array Value} {X : Ending → World → Prop}
theorem HoldQ.op (h : HoldQ St w0 Q W) (hc : ∀ G, Bnd G W → St G W → Calls P f args W fun e W' => X e W' ∧ St' G W' ∧ KeptF G W W') : Calls P f args W fun e W' => X e W' ∧ HoldQ St' w0 Q W' := by
  obtain ⟨F, h1, h2, h3, h4, h5, h6⟩ := h
  refine (hc F h2 h1).mono ?_
  rintro e W' ⟨hx, hs, hk⟩
  exact ⟨hx, F, hs, h2.more hk.size, ((Kept.of_below h3 Empty).trans hk (fun i hi hn => hn (h4 i hi))).below (fun _ _ h => h), h4, h6 _ _ _ hk (fun _ hk hn => hn hk) h5, h6⟩
theorem HoldR.op (h : HoldR St w0 Q A n c es W) (hc : ∀ G, Bnd G W → St G W → Calls P f args W fun e W' => X e W' ∧ St' G W' ∧ KeptF G W W') : Calls P f args W fun e W' => X e W' ∧ HoldR St' w0 Q A n c es W' := by
  obtain ⟨F, h1, h2, h3, h4, h5, h6, h7, h8⟩ := h
  refine (hc _ (fun k hk => ?_) h1).mono ?_
  · rcases hk with hk | hk
    · exact h2 k hk
    · exact h7.lt hk
  · rintro e W' ⟨hx, hs, hk⟩
    exact ⟨hx, F, hs, h2.more hk.size, ((Kept.of_below h3 Empty).trans hk (fun i hi hn => hn (.inl (h4 i hi)))).below (fun _ _ h => h), h4, h6 _ _ _ hk (fun _ hk hn => hn (.inl hk)) h5, h6, own_kept h7 hk (fun g hg hn => hn (.inr (RowV.own h7 hg))), h8⟩
variable {SR : List Ev → (Nat → Prop) → World → Prop} {Y : Option Addr → Nat → Nat → List Ev → Prop}
/-- A call that answers a new row: it is the law's own. -/
theorem HoldQ.rowed (h : HoldQ St w0 Q W) (hc : ∀ G, Bnd G W → St G W → Calls P f args W (Rowed SR Y G W)) : Calls P f args W fun e W' => ∃ B m d fs, e = .returned (.slice B m d) ∧ Y B m d fs ∧ HoldR (SR fs) w0 Q B m d fs W' := by
  obtain ⟨F, h1, h2, h3, h4, h5, h6⟩ := h
  refine (hc F h2 h1).mono ?_
  rintro e W' ⟨B, m, d, fs, rfl, hy, hs, hk, hr, hn⟩
  exact ⟨B, m, d, fs, rfl, hy, F, hs, h2.more hk.size, ((Kept.of_below h3 Empty).trans hk (fun i hi hn => hn (h4 i hi))).below (fun _ _ h => h), h4, h6 _ _ _ hk (fun _ hk hn => hn hk) h5, h6, hr, fun k hk hf => by have := (hn k hk).1; have := h2 k hf; omega⟩
/-- .. beside a row that goes on. -/
theorem HoldR.rowed (h : HoldR St w0 Q A n c es W) (hc : ∀ G, Bnd G W → St G W → Calls P f args W (Rowed SR Y G W)) : Calls P f args W fun e W' => ∃ B m d fs, e = .returned (.slice B m d) ∧ Y B m d fs ∧ HoldR (SR fs) w0 (fun V => Q V ∧ RowV V B m d fs) A n c es W' := by
  obtain ⟨F, h1, h2, h3, h4, h5, h6, h7, h8⟩ := h
  have hB : Bnd (fun k => F k ∨ blk A k) W := by
    rintro k (hk | hk)
    · exact h2 k hk
    · exact h7.lt hk
  have hlt := h7
  refine (hc _ hB h1).mono ?_
  rintro e W' ⟨B, m, d, fs, rfl, hy, hs, hk, hr, hn⟩
  refine ⟨B, m, d, fs, rfl, hy, (fun k => F k ∨ blk B k), ?_, ?_, ((Kept.of_below h3 Empty).trans hk (fun i hi hn => hn (.inl (h4 i hi)))).below (fun _ _ h => h), fun k hk => .inl (h4 k hk), ⟨h6 _ _ _ hk (fun _ hk hn => hn (.inl hk)) h5, hr⟩, h6.and (only_row fun k hk => hk), own_kept h7 hk (fun g hg hn => hn (.inr (RowV.own h7 hg))), ?_⟩
  · have e : (fun k => (F k ∨ blk A k) ∨ blk B k) = (fun k => (F k ∨ blk B k) ∨ blk A k) := by
      funext k
      exact propext ⟨fun h => by rcases h with (h | h) | h; exact .inl (.inl h); exact .inr h; exact .inl (.inr h), fun h => by rcases h with (h | h) | h; exact .inl (.inl h); exact .inr h; exact .inl (.inr h)⟩
    rw [← e]
    exact hs
  · rintro k (hk' | hk')
    · exact Nat.lt_of_lt_of_le (h2 k hk') hk.size
    · exact (hn k hk').2
  · rintro k hk' (hf | hf)
    · exact h8 k hk' hf
    · have := (hn k hf).1
      have := hlt.lt hk'
      omega
end
end
end Go.Proofs.Ytchfponnajednaa
