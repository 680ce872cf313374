/- A play in memory: an agenda, and the document's, beside blocks that stay; their calls, so said. No condition. -/
import Derived.Test.YtchfponnajednaaAPPut
namespace Go.Proofs.Ytchfponnajednaa
open Go.RowKit Go.Shelf

/-- What the program's agenda may not touch: F's blocks, the play, the document's agenda and its list. -/
def Far (F : Nat → Prop) (pp rr : Nat) (A : Option Addr) (k : Nat) : Prop := F k ∨ k = pp ∨ k = rr ∨ blk A k
/-- A play at block pp: St says what is of the program's agendas; the one at block a is the play's, the document's stands at block rr. F's blocks are as they were in w1. -/
structure PlayS (St : (Nat → Prop) → World → Prop) (F : Nat → Prop) (w1 : World) (pp a rr : Nat) (A : Option Addr) (c : Nat) (es : List Ev) (W : World) : Prop where
  ag : St (Far F pp rr A) W
  ref : RefAt W rr A c es
  play : Whole W pp 33 #[.pointer (some ⟨a, 0, none⟩), .pointer (some ⟨rr, 0, none⟩)]
  prr : pp ≠ rr
  pA : ¬ blk A pp
  dF : ∀ k, F k → k ≠ rr ∧ ¬ blk A k ∧ k ≠ pp
  bnd : ∀ k, F k → k < w1.heap.size
  kept : Kept (fun k => ¬ F k) w1 W
section
variable {St St' : (Nat → Prop) → World → Prop} {F : Nat → Prop} {w1 W W' : World} {pp a rr b : Nat} {A B : Option Addr} {c d : Nat} {es fs : List Ev}
theorem PlayS.far (h : PlayS St F w1 pp a rr A c es W) : Bnd (Far F pp rr A) W := fun k hk => by
  rcases hk with hk | rfl | rfl | hk
  · exact Nat.lt_of_lt_of_le (h.bnd k hk) h.kept.size
  · exact h.play.lt
  · exact h.ref.whole.lt
  · exact h.ref.lt k hk
theorem PlayS.mapSt (h : PlayS St F w1 pp a rr A c es W) (hS : ∀ G, St G W → St' G W) : PlayS St' F w1 pp a rr A c es W :=
  ⟨hS _ h.ag, h.ref, h.play, h.prr, h.pA, h.dF, h.bnd, h.kept⟩
/-- The program's agendas were turned. -/
theorem PlayS.turned (h : PlayS St F w1 pp a rr A c es W) (h1 : St' (Far F pp rr A) W') (hk : KeptF (Far F pp rr A) W W') : PlayS St' F w1 pp a rr A c es W' :=
  ⟨h1, h.ref.kept hk (fun hn => hn (.inr (.inr (.inl rfl)))) (fun _ hb hn => hn (.inr (.inr (.inr hb)))), h.play.kept hk (fun hn => hn (.inr (.inl rfl))), h.prr, h.pA, h.dF, h.bnd, h.kept.trans hk (fun _ _ hn hf => hn (.inl hf))⟩
theorem PlayS.later (hS : IsSt St) (h : PlayS St F w1 pp a rr A c es W) (hb : Below W.heap.size W W') : PlayS St F w1 pp a rr A c es W' :=
  h.turned (hS.less _ _ _ (hS.turn _ _ _ h.ag (Kept.of_below hb _)) (fun _ hk => .inl hk)) (Kept.of_below hb _)
theorem PlayS.drew (hS : IsSt St) (h : PlayS St F w1 pp a rr A c es W) : PlayS St F w1 pp a rr A c es W.drew := h.later hS (below_drewN (Below.refl _ _) 1)
/-- A call that turns the program's agenda. -/
theorem PlayS.step {P : Program} {f : FuncId} {args : Array Value} {X : Ending → World → Prop} (h : PlayS St F w1 pp a rr A c es W)
    (hc : ∀ G, Bnd G W → St G W → Calls P f args W fun e W' => X e W' ∧ St' G W' ∧ KeptF G W W') : Calls P f args W fun e W' => X e W' ∧ PlayS St' F w1 pp a rr A c es W' :=
  (hc _ h.far h.ag).mono fun _ _ k => ⟨k.1, h.turned k.2.1 k.2.2⟩
/-- A call that turns the document's. -/
theorem PlayS.refd (hS : IsSt St) (h : PlayS St F w1 pp a rr A c es W) (h1 : RefTo W rr A fs W') : ∃ B d, PlayS St F w1 pp a rr B d fs W' := by
  obtain ⟨B, d, r, hk, hb⟩ := h1
  have hrl := h.ref.whole.lt
  refine ⟨B, d, ?_, r, h.play.kept hk h.prr, h.prr, fun hp => ?_, fun k hf => ?_, h.bnd, h.kept.trans hk (fun i _ e hf => (h.dF i hf).1 e)⟩
  · refine hS.less _ _ _ (hS.turn _ _ _ h.ag (hk.mono fun i e => .inr (.inr (.inl e)))) (fun k hk' => ?_)
    rcases hk' with hf | e | e | hB
    · exact .inl (.inl hf)
    · exact .inl (.inr (.inl e))
    · exact .inl (.inr (.inr (.inl e)))
    · rcases hb k hB with h2 | h2
      · exact .inl (.inr (.inr (.inr h2)))
      · exact .inr ⟨h2, r.lt k hB⟩
  · rcases hb _ hp with h2 | h2
    · exact h.pA h2
    · have := h.play.lt; omega
  · refine ⟨(h.dF k hf).1, fun hB => ?_, (h.dF k hf).2.2⟩
    rcases hb k hB with h2 | h2
    · exact (h.dF k hf).2.1 h2
    · have := h.bnd k hf; have := h.kept.size; omega
/-- A block laid beside, that stays. -/
theorem PlayS.box (hS : IsSt St) (h : PlayS St F w1 pp a rr A c es W) (o : Obj) : PlayS St (fun k => F k ∨ k = W.heap.size) (W.alloc o) pp a rr A c es (W.alloc o) := by
  have hb : Below W.heap.size W (W.alloc o) := (Below.refl _ _).alloc (Nat.le_refl _) _
  have h2 := h.later hS hb
  refine ⟨hS.less _ _ _ (hS.turn _ _ _ h.ag (Kept.of_below hb _)) (fun k hk => ?_), h2.ref, h2.play, h.prr, h.pA, fun k hk => ?_, fun k hk => ?_, Kept.refl _ _⟩
  · rcases hk with (hk | hk) | hk
    · exact .inl (.inl hk)
    · exact .inr ⟨by omega, by simp; omega⟩
    · exact .inl (.inr hk)
  · rcases hk with hk | rfl
    · exact h.dF k hk
    · exact ⟨fun e => by have := h.ref.whole.lt; omega, fun hb => by have := h.ref.lt _ hb; omega, fun e => by have := h.play.lt; omega⟩
  · rcases hk with hk | rfl
    · have := h.bnd k hk; have := h.kept.size; simp; omega
    · simp
/-- .. and forgotten. -/
theorem PlayS.back (hS : IsSt St') (h : PlayS St F w1 pp a rr A c es W) {o : Obj} {a' rr' : Nat} {A' : Option Addr} {c' : Nat} {es' : List Ev} (h2 : PlayS St' (fun k => F k ∨ k = W.heap.size) (W.alloc o) pp a' rr' A' c' es' W') : PlayS St' F w1 pp a' rr' A' c' es' W' := by
  have hb : Below W.heap.size W (W.alloc o) := (Below.refl _ _).alloc (Nat.le_refl _) _
  exact ⟨hS.less _ _ _ h2.ag (fun k hk => by
    rcases hk with hk | hk
    · exact .inl (.inl hk)
    · exact .inr hk), h2.ref, h2.play, h2.prr, h2.pA, fun k hk => h2.dF k (.inl hk), h.bnd, (h.kept.trans (Kept.of_below hb Empty) (fun _ _ h => h.elim)).trans h2.kept (fun i _ hn hf => hn (.inl hf))⟩
theorem PlayS.whole (h : PlayS St F w1 pp a rr A c es W) {g : Nat} {t : TypeId} {cs : Array Value} (hg : F g) (hw : Whole w1 g t cs) : Whole W g t cs := hw.kept h.kept (fun hn => hn hg)
/-- The play's own agenda is another one. -/
theorem PlayS.store0 (hS : IsSt St) (h : PlayS St F w1 pp a rr A c es W) (b : Nat) : PlayS St F w1 pp b rr A c es (W.setCell ⟨pp, 0, none⟩ (.pointer (some ⟨b, 0, none⟩))) := by
  have k : Kept (fun k => k = pp) W (W.setCell ⟨pp, 0, none⟩ (.pointer (some ⟨b, 0, none⟩))) := Kept.setCell (S := fun k => k = pp) (Kept.refl _ W) (p := ⟨pp, 0, none⟩) (.inl rfl) _
  exact ⟨hS.less _ _ _ (hS.turn _ _ _ h.ag (k.mono fun i e => .inr (.inl e))) (fun k hk => .inl hk), h.ref.kept k (fun e => h.prr e.symm) (fun k hb e => h.pA (by obtain rfl : k = pp := e; exact hb)), h.play.set 0 _, h.prr, h.pA, h.dF, h.bnd, h.kept.trans k (fun i _ e hf => (h.dF i hf).2.2 e)⟩
/-- .. and so is the document's. -/
theorem PlayS.newRef (hS : IsSt St) (h : PlayS St F w1 pp a rr A c es W) (hb : Below W.heap.size W W') {r2 : Nat} (hr : RefAt W' r2 B d es) (h1 : W.heap.size ≤ r2) (h2 : ∀ k, blk B k → W.heap.size ≤ k) :
    PlayS St F w1 pp a r2 B d es (W'.setCell ⟨pp, 1, none⟩ (.pointer (some ⟨r2, 0, none⟩))) := by
  have k : Kept (fun k => k = pp) W' (W'.setCell ⟨pp, 1, none⟩ (.pointer (some ⟨r2, 0, none⟩))) := Kept.setCell (S := fun k => k = pp) (Kept.refl _ W') (p := ⟨pp, 1, none⟩) (.inl rfl) _
  have hp := h.play.lt
  have hz := h.kept.size
  have hz2 := hb.size
  have hrl := hr.whole.lt
  have hst := hS.turn _ _ _ h.ag (Kept.of_below hb _)
  have hst2 := hS.turn _ _ _ hst (k.mono fun i e => .inl (.inr (.inl e)))
  refine ⟨hS.less _ _ _ hst2 (fun k hk => ?_), hr.kept k (fun e => by have e : r2 = pp := e; omega) (fun k hb e => by have := h2 k hb; have e : k = pp := e; omega), (k_later hb h.play).set 1 _, by omega, fun hb => by have := h2 _ hb; omega, fun k hf => ?_, h.bnd, (h.kept.trans (Kept.of_below hb Empty) (fun _ _ h => h.elim)).trans k (fun i _ e hf => (h.dF i hf).2.2 e)⟩
  · rcases hk with hf | e | e | hB
    · exact .inl (.inl (.inl hf))
    · exact .inl (.inl (.inr (.inl e)))
    · exact .inl (.inr ⟨by omega, by omega⟩)
    · exact .inl (.inr ⟨h2 k hB, hr.lt k hB⟩)
  · have := h.bnd k hf
    exact ⟨by omega, fun hb => by have := h2 k hb; omega, (h.dF k hf).2.2⟩
end

abbrev St1 (a nx : Nat) (L : List En) : (Nat → Prop) → World → Prop := fun G V => AgF G a nx L V
abbrev St2 (a nx : Nat) (L : List En) (b ny : Nat) (M : List En) : (Nat → Prop) → World → Prop := fun G V => Ag2 G a nx L b ny M V
section
variable {F : Nat → Prop} {w1 W W' : World} {pp a a0 rr b nx ny : Nat} {A : Option Addr} {c : Nat} {es : List Ev} {L M : List En} {x : Ev}
theorem PlayS.sorted (h : PlayS (St1 a nx L) F w1 pp a0 rr A c es W) : L.Pairwise lessP ∧ ∀ y ∈ L, y.u < nx := by
  obtain ⟨S, h1, _⟩ := h.ag
  exact ⟨h1.sorted, h1.turns⟩
theorem put_p (h : PlayS (St1 a nx L) F w1 pp a0 rr A c es W) (hnx : nx < 1000000000) :
    Calls Try.prog 16 #[.pointer (some ⟨a, 0, none⟩), evV x] W fun e W' => e = .returned (.int .i64 (putE L x)) ∧ PlayS (St1 a (putN nx L x) (putL nx L x)) F w1 pp a0 rr A c es W' := h.step fun _ hB hG => put_f hG hB hnx
theorem put_p2 (h : PlayS (St2 a nx L b ny M) F w1 pp a0 rr A c es W) (hnx : nx < 1000000000) :
    Calls Try.prog 16 #[.pointer (some ⟨a, 0, none⟩), evV x] W fun e W' => e = .returned (.int .i64 (putE L x)) ∧ PlayS (St2 a (putN nx L x) (putL nx L x) b ny M) F w1 pp a0 rr A c es W' := h.step fun _ hB hG => hG.step hB fun _ hB hG => put_f hG hB hnx
theorem take_p (h : PlayS (St1 a nx L) F w1 pp a0 rr A c es W) (hl : L.length ≤ 1000000) :
    Calls Try.prog 17 #[.pointer (some ⟨a, 0, none⟩)] W fun e W' => e = .returned (headOf L) ∧ PlayS (St1 a nx L.tail) F w1 pp a0 rr A c es W' := h.step fun _ hB hG => take_f hG hB hl
theorem drop_p {kind node : Int} (h : PlayS (St1 a nx L) F w1 pp a0 rr A c es W) (hl : L.length ≤ 1000000) :
    Calls Try.prog 19 #[.pointer (some ⟨a, 0, none⟩), .int .i64 kind, .int .i64 node] W fun e W' => e = .returned (.int .i64 ((L.length : Int) - ((L.filter (keepB kind node)).length : Int))) ∧ PlayS (St1 a nx (L.filter (keepB kind node))) F w1 pp a0 rr A c es W' := h.step fun _ hB hG => drop_f hG hB hl
theorem first_p (h : PlayS (St1 a nx L) F w1 pp a0 rr A c es W) : Calls Try.prog 11 #[.pointer (some ⟨a, 0, none⟩)] W fun e W' => e = .returned (headOf L) ∧ Below W.heap.size W W' := first_f h.ag
theorem len_p (h : PlayS (St1 a nx L) F w1 pp a0 rr A c es W) : Calls Try.prog 14 #[.pointer (some ⟨a, 0, none⟩)] W fun e W' => e = .returned (.int .i64 (L.length : Int)) ∧ Below W.heap.size W W' := len_f h.ag
/-- What is taken up to a time, in memory of its own. -/
theorem until_p {t : Int} (h : PlayS (St1 a nx L) F w1 pp a0 rr A c es W) (hl : L.length ≤ 1000000) :
    Calls Try.prog 20 #[.pointer (some ⟨a, 0, none⟩), .int .i64 t] W fun e W' => ∃ B n d, e = .returned (.slice B n d) ∧ UpTo t L n ∧ (VSrc W' B n (evs L n) ∧ ¬ blk B rr) ∧ PlayS (St1 a nx (L.drop n)) F w1 pp a0 rr A c es W' := by
  refine (until_f h.ag h.far hl).mono ?_
  rintro e W' ⟨B, n, d, rfl, hup, hsrc, hag, hk, hB, _⟩
  exact ⟨B, n, d, rfl, hup, ⟨hsrc, fun ⟨ad, e1, e2⟩ => by have h1 := (hB ad e1).1; have h2 := h.ref.whole.lt; omega⟩, h.turned (hag.less fun k hk => .inl hk) hk⟩
/-- All up to the last time. -/
theorem empty_p2 (h : PlayS (St2 a nx L b ny M) F w1 pp a0 rr A c es W) (hl : L.length ≤ 1000000) :
    Calls Try.prog 20 #[.pointer (some ⟨a, 0, none⟩), .int .i64 4294967296] W fun e W' => (∃ v, e = .returned v) ∧ PlayS (St2 a nx [] b ny M) F w1 pp a0 rr A c es W' :=
  h.step fun _ hB hG => hG.step hB fun _ hB hG => (until_f hG hB hl).mono fun e W' ⟨B, n, d, he, hup, _, hag, hk, _⟩ => by
    refine ⟨⟨_, he⟩, ?_, hk⟩
    have hn : L.length ≤ n := by
      rcases Nat.lt_or_ge n L.length with h1 | h1
      · have h2 := hup.no h1
        obtain ⟨S, h3, _⟩ := hG
        have h4 := h3.may (L.getD n default) (by rw [List.getD_eq_getElem?_getD, List.getElem?_eq_getElem h1]; exact List.getElem_mem h1)
        unfold okE at h4
        omega
      · exact h1
    have h2 := hag.less (G := _) fun k hk => Or.inl hk
    rw [List.drop_eq_nil_of_le hn] at h2
    exact h2
theorem copy_p (h : PlayS (St1 a nx L) F w1 pp a0 rr A c es W) (hl : L.length ≤ 1000000) :
    Calls Try.prog 18 #[.pointer (some ⟨a, 0, none⟩)] W fun e W' => ∃ b, e = .returned (.pointer (some ⟨b, 0, none⟩)) ∧ PlayS (St2 a nx L b nx L) F w1 pp a0 rr A c es W' := by
  refine (copy_f h.ag h.far hl).mono ?_
  rintro e W' ⟨b, rfl, hag, hb, _⟩
  exact ⟨b, rfl, h.turned hag (Kept.of_below hb _)⟩

/- The document's. -/
theorem refPut_p {mx : Nat} (hs : L.Pairwise lessP ∧ ∀ y ∈ L, y.u < mx) (h : PlayS (St1 a nx M) F w1 pp a0 rr A c (L.map En.e) W) (hl : L.length ≤ 1000) :
    Calls Try.prog 23 #[.pointer (some ⟨rr, 0, none⟩), evV x] W fun e W' => e = .returned (.int .i64 (putE L x)) ∧ ∃ B d, PlayS (St1 a nx M) F w1 pp a0 rr B d ((putL mx L x).map En.e) W' := by
  refine (refPut_any W rr A c _ x h.ref (by rw [List.length_map]; exact hl)).mono ?_
  have hq : decide (L.length < 65536) = true := decide_eq_true (by omega)
  rintro e W' (⟨hok, rfl, n, hp, hr⟩ | ⟨hok, rfl, hr⟩)
  · have e1 : putB L x = true := by unfold putB okB; rw [hq, decide_eq_true hok]; rfl
    refine ⟨by unfold putE; rw [e1]; rfl, ?_⟩
    unfold putL
    rw [e1, if_pos rfl, put_place hs.1 hs.2 hp]
    exact h.refd (isSt1 _ _ _) hr
  · have e1 : putB L x = false := by unfold putB okB; rw [decide_eq_false hok]; rfl
    refine ⟨by unfold putE; rw [e1]; rfl, ?_⟩
    unfold putL
    rw [e1, if_neg (by simp)]
    exact h.refd (isSt1 _ _ _) hr
theorem refTake_p (h : PlayS (St1 a nx M) F w1 pp a0 rr A c (L.map En.e) W) (hl : L.length ≤ 1000000) :
    Calls Try.prog 24 #[.pointer (some ⟨rr, 0, none⟩)] W fun e W' => e = .returned (headOf L) ∧ ∃ B d, PlayS (St1 a nx M) F w1 pp a0 rr B d (L.tail.map En.e) W' := by
  refine (refTake_any W rr A c _ h.ref (by rw [List.length_map]; exact hl)).mono ?_
  rintro e W' ⟨rfl, hr⟩
  refine ⟨by cases L <;> rfl, ?_⟩
  rw [show L.tail.map En.e = (L.map En.e).tail by cases L <;> rfl]
  exact h.refd (isSt1 _ _ _) hr
theorem refFirst_p (h : PlayS (St1 a nx M) F w1 pp a0 rr A c (L.map En.e) W) :
    Calls Try.prog 12 #[.pointer (some ⟨rr, 0, none⟩)] W fun e W' => e = .returned (headOf L) ∧ Below W.heap.size W W' := by
  refine (refFirst_any W rr A c _ h.ref).mono ?_
  rintro e W' ⟨rfl, hb⟩
  exact ⟨by cases L <;> rfl, hb⟩
theorem keep_map (kd nd : Int) (L : List En) : (L.map En.e).filter (keepE kd nd) = (L.filter (keepB kd nd)).map En.e := by
  rw [List.filter_map, show keepE kd nd ∘ En.e = keepB kd nd from funext fun x => (dropB_no (kind := kd) (node := nd) (x := x)).symm]
theorem refDrop_p {kd nd : Int} (h : PlayS (St1 a nx M) F w1 pp a0 rr A c (L.map En.e) W) (hl : L.length ≤ 1000) :
    Calls Try.prog 25 #[.pointer (some ⟨rr, 0, none⟩), .int .i64 kd, .int .i64 nd] W fun e W' => e = .returned (.int .i64 ((L.length : Int) - ((L.filter (keepB kd nd)).length : Int))) ∧ ∃ B d, PlayS (St1 a nx M) F w1 pp a0 rr B d ((L.filter (keepB kd nd)).map En.e) W' := by
  refine (refDrop_any W rr A c _ kd nd h.ref (by rw [List.length_map]; omega)).mono ?_
  rintro e W' ⟨rfl, hr⟩
  rw [keep_map, List.length_map, List.length_map]
  rw [keep_map] at hr
  exact ⟨rfl, h.refd (isSt1 _ _ _) hr⟩
theorem upE_eq {t : Int} {n m : Nat} (h : UpTo t L n) (k : UpE t (L.map En.e) m) : n = m := by
  have hk : UpTo t L m := ⟨by have := k.le; simpa using this, fun j hj => by
    have h1 := k.all j hj
    have h2 := k.le
    rw [List.length_map] at h2
    rwa [map_getD (by omega)] at h1, fun hm => by
    have h1 := k.no (by simpa using hm)
    rwa [map_getD hm] at h1⟩
  exact upTo_eq h hk
theorem refUntil_p {t : Int} {n : Nat} {B : Option Addr} (hup : UpTo t L n) (h : PlayS (St1 a nx M) F w1 pp a0 rr A c (L.map En.e) W) (hB : VSrc W B n (evs L n) ∧ ¬ blk B rr) (hl : L.length ≤ 1000000) :
    Calls Try.prog 26 #[.pointer (some ⟨rr, 0, none⟩), .int .i64 t] W fun e W' => ∃ C d, e = .returned (.slice C n d) ∧ VSrc W' C n (evs L n) ∧ VSrc W' B n (evs L n) ∧ ∃ B2 d2, PlayS (St1 a nx M) F w1 pp a0 rr B2 d2 ((L.drop n).map En.e) W' := by
  refine (refUntil_any W rr A c _ t h.ref (by rw [List.length_map]; exact hl)).mono ?_
  rintro e W' ⟨C, m, d, rfl, hue, hsrc, _, hr⟩
  obtain rfl := upE_eq hup hue
  have hr' := hr
  obtain ⟨_, _, _, hk, _⟩ := hr'
  refine ⟨C, d, rfl, by unfold evs; rw [List.map_take]; exact hsrc, hB.1.kept hk (fun ad e he => hB.2 ⟨ad, e, he.symm⟩), ?_⟩
  rw [List.map_drop]
  exact h.refd (isSt1 _ _ _) hr
theorem refCopy_p {St : (Nat → Prop) → World → Prop} (hS : IsSt St) (h : PlayS St F w1 pp a0 rr A c es W) (hl : es.length ≤ 1000000) :
    Calls Try.prog 27 #[.pointer (some ⟨rr, 0, none⟩)] W fun e W' => ∃ r2 B d, e = .returned (.pointer (some ⟨r2, 0, none⟩)) ∧ Whole W' pp 33 #[.pointer (some ⟨a0, 0, none⟩), .pointer (some ⟨rr, 0, none⟩)] ∧ PlayS St F w1 pp a0 r2 B d es (W'.setCell ⟨pp, 1, none⟩ (.pointer (some ⟨r2, 0, none⟩))) := by
  refine (refCopy_any W rr A c es h.ref hl).mono ?_
  rintro e W' ⟨r2, B, d, rfl, hr, hb, h1, h2⟩
  exact ⟨r2, B, d, rfl, k_later hb h.play, h.newRef hS hb hr h1 h2⟩
end
end Go.Proofs.Ytchfponnajednaa
