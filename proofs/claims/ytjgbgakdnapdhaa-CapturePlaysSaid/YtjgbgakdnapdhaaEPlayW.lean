/- A play in memory: a capture, and the document's; what their calls leave. No condition. -/
import Derived.Test.YtjgbgakdnapdhaaEPRefF
import Derived.Deep.RegionHeld3
namespace Go.Proofs.Ytjgbgakdnapdhaa
open Go.RowKit Go.Shelf

/-- A play at block pp: the program's capture has C, the document's D. -/
structure PlayE (w : World) (pp a rr : Nat) (C : List Oe) (v : Value) (D : List Oe) (W : World) : Prop where
  cap : LawC w a (look C) W
  ref : RefE w.heap.size W rr v D
  play : Whole W pp 37 #[.pointer (some ⟨a, 0, none⟩), .pointer (some ⟨rr, 0, none⟩)]
  ro : w.heap.size ≤ rr
  po : w.heap.size ≤ pp
section
variable {w W W' : World} {pp a rr b r2 : Nat} {C C' D D' : List Oe} {v v2 : Value} {f : Ca} {S : Nat → Prop}
theorem PlayE.keep (h : PlayE w pp a rr C v D W) (hk : Kept S W W') (h1 : ¬ S a) (h2 : ¬ S rr) (h3 : ¬ S pp) (h4 : ∀ g, v.ownBlock = some g → ¬ S g) (h5 : ∀ i, S i → w.heap.size ≤ i) : PlayE w pp a rr C v D W' :=
  ⟨⟨h.cap.cap.kept hk h1, below_on h.cap.below hk h5 h.cap.below.size, h.cap.own⟩, ⟨h.ref.box.kept hk h2, own_kept h.ref.row hk h4⟩, h.play.kept hk h3, h.ro, h.po⟩
theorem PlayE.later (h : PlayE w pp a rr C v D W) (hb : Below W.heap.size W W') : PlayE w pp a rr C v D W' := ⟨h.cap.later hb, h.ref.later hb, k_later hb h.play, h.ro, h.po⟩
/-- Blocks of other types. -/
theorem PlayE.of_type (h : PlayE w pp a rr C v D W) {g : Nat} {t : TypeId} {cs : Array Value} (hg : W.heap[g]? = some (.cells cs t (0, 0))) :
    (t ≠ 31 → g ≠ a) ∧ (t ≠ 35 → g ≠ rr) ∧ (t ≠ 37 → g ≠ pp) ∧ (t ≠ 65 → ∀ i, v.ownBlock = some i → g ≠ i) :=
  ⟨fun ht => typed_apart hg h.cap.cap.whole ht, fun ht => typed_apart hg h.ref.box ht, fun ht => typed_apart hg h.play ht, fun ht i hi => by
    obtain ⟨_, cur, hc⟩ := own_typed h.ref.row hi
    exact typed_apart hg hc ht⟩
theorem PlayE.toCap (h : PlayE w pp a rr C v D W) (k : CapTo W a (look C') W') : PlayE w pp a rr C' v D W' := by
  obtain ⟨_, e2, e3, e4⟩ := h.of_type h.cap.cap.whole
  exact ⟨h.cap.to k, ⟨h.ref.box.kept k.2 (fun e => e2 (by decide) e.symm), own_kept h.ref.row k.2 (fun g hg e => e4 (by decide) g hg e.symm)⟩, h.play.kept k.2 (fun e => e3 (by decide) e.symm), h.ro, h.po⟩
theorem PlayE.toRef (h : PlayE w pp a rr C v D W) (k : RefTo w.heap.size W rr v D' W') : ∃ v', PlayE w pp a rr C v' D' W' := by
  obtain ⟨v', hr, hk⟩ := k
  obtain ⟨_, e2, e3, e4⟩ := h.of_type h.cap.cap.whole
  obtain ⟨_, p2, _, p4⟩ := h.of_type h.play
  refine ⟨v', ⟨h.cap.cap.kept hk ?_, below_on h.cap.below hk ?_ h.cap.below.size, h.cap.own⟩, hr, h.play.kept hk ?_, h.ro, h.po⟩
  · rintro (e | e)
    · exact e2 (by decide) e
    · exact e4 (by decide) _ e.symm rfl
  · rintro i (e | e)
    · have := h.ro; omega
    · exact (own_typed h.ref.row e.symm).1
  · rintro (e | e)
    · exact p2 (by decide) e
    · exact p4 (by decide) _ e.symm rfl
/-- Kept blocks of a sending's box. -/
theorem box_cap {bx : Nat} {cs : Array Value} (h : PlayE w pp a rr C v D W) (hx : Whole W bx 40 cs) (k : CapTo W a f W') : Whole W' bx 40 cs := hx.kept k.2 (fun e => (h.of_type hx).1 (by decide) e)
theorem box_ref {bx : Nat} {cs : Array Value} (h : PlayE w pp a rr C v D W) (hx : Whole W bx 40 cs) (k : RefTo w.heap.size W rr v D' W') : Whole W' bx 40 cs := by
  obtain ⟨_, _, hk⟩ := k
  obtain ⟨_, e2, _, e4⟩ := h.of_type hx
  exact hx.kept hk (by
    rintro (e | e)
    · exact e2 (by decide) e
    · exact e4 (by decide) _ e.symm rfl)
theorem PlayE.store0 (h : PlayE w pp a rr C v D W) (hb : LawC w b (look C) W) : PlayE w pp b rr C v D (W.setCell ⟨pp, 0, none⟩ (.pointer (some ⟨b, 0, none⟩))) ∧ LawC w a (look C) (W.setCell ⟨pp, 0, none⟩ (.pointer (some ⟨b, 0, none⟩))) := by
  have hk : Kept (fun i => i = pp) W (W.setCell ⟨pp, 0, none⟩ (.pointer (some ⟨b, 0, none⟩))) := Kept.setCell (S := fun i => i = pp) (Kept.refl _ W) (p := ⟨pp, 0, none⟩) (.inl rfl) _
  have h5 : ∀ i, (fun i => i = pp) i → w.heap.size ≤ i := fun i e => by have e : i = pp := e; have := h.po; omega
  obtain ⟨e1, e2, _, e4⟩ := h.of_type h.play
  have hbp : ¬ b = pp := fun e => typed_apart h.play hb.cap.whole (by decide) e.symm
  exact ⟨⟨⟨hb.cap.kept hk hbp, below_on hb.below hk h5 hb.below.size, hb.own⟩, ⟨h.ref.box.kept hk (fun e => e2 (by decide) e.symm), own_kept h.ref.row hk (fun g hg e => e4 (by decide) g hg e.symm)⟩, h.play.set 0 _, h.ro, h.po⟩,
    ⟨h.cap.cap.kept hk (fun e => e1 (by decide) e.symm), below_on h.cap.below hk h5 h.cap.below.size, h.cap.own⟩⟩
theorem PlayE.store1 (h : PlayE w pp a rr C v D W) (hr : RefE w.heap.size W r2 v2 D) (h2 : w.heap.size ≤ r2) (hb : LawC w b f W) : PlayE w pp a r2 C v2 D (W.setCell ⟨pp, 1, none⟩ (.pointer (some ⟨r2, 0, none⟩))) ∧ LawC w b f (W.setCell ⟨pp, 1, none⟩ (.pointer (some ⟨r2, 0, none⟩))) := by
  have hk : Kept (fun i => i = pp) W (W.setCell ⟨pp, 1, none⟩ (.pointer (some ⟨r2, 0, none⟩))) := Kept.setCell (S := fun i => i = pp) (Kept.refl _ W) (p := ⟨pp, 1, none⟩) (.inl rfl) _
  have h5 : ∀ i, (fun i => i = pp) i → w.heap.size ≤ i := fun i e => by have e : i = pp := e; have := h.po; omega
  obtain ⟨e1, _, _, _⟩ := h.of_type h.play
  have hrp : ¬ r2 = pp := fun e => typed_apart h.play hr.box (by decide) e.symm
  refine ⟨⟨⟨h.cap.cap.kept hk (fun e => e1 (by decide) e.symm), below_on h.cap.below hk h5 h.cap.below.size, h.cap.own⟩, ⟨hr.box.kept hk hrp, own_kept hr.row hk (fun g hg e => ?_)⟩, h.play.set 1 _, h2, h.po⟩,
    ⟨hb.cap.kept hk (fun e => typed_apart h.play hb.cap.whole (by decide) e.symm), below_on hb.below hk h5 hb.below.size, hb.own⟩⟩
  obtain ⟨_, cur, hc⟩ := own_typed hr.row hg
  exact typed_apart h.play hc (by decide) e.symm
/-- Another capture is cleared. -/
theorem PlayE.cleared (h : PlayE w pp a rr C v D W) (hb : LawC w b f W) (hne : a ≠ b) (k : CapTo W b noCa W') : PlayE w pp a rr C v D W' := by
  refine h.keep k.2 hne (fun e => ?_) (fun e => ?_) (fun g hg e => ?_) (fun i e => by have e : i = b := e; have := hb.own; omega)
  · exact typed_apart h.ref.box hb.cap.whole (by decide) e
  · exact typed_apart h.play hb.cap.whole (by decide) e
  · obtain ⟨_, cur, hc⟩ := own_typed h.ref.row hg
    exact typed_apart hc hb.cap.whole (by decide) e
theorem p_note (h : PlayE w pp a rr C v D W) (hg : GoodD C) (n c x : Int) : Calls Try.prog 19 #[.pointer (some ⟨a, 0, none⟩), .int .i64 n, .int .i64 c, .int .i64 x] W fun e w' => e = .returned (.int .i64 (noteE (look C) n c x)) ∧ CapTo W a (look (noteD C n c x)) w' :=
  (note_any h.cap.cap n c x).mono fun _ _ ⟨e, k⟩ => ⟨e, by rw [← (noteD_good hg n c x).2]; exact k⟩
theorem CapTo.same {g : Ca} (k : CapTo W a f W') (e : EqC f g) (hg : OkC g) : CapTo W a g W' := ⟨k.1.same e hg, k.2⟩
theorem p_forget (h : PlayE w pp a rr C v D W) (hg : GoodD C) (n : Int) : Calls Try.prog 21 #[.pointer (some ⟨a, 0, none⟩), .int .i64 n] W fun e w' => e = .returned (.bool (ofC (look C) n).isSome) ∧ CapTo W a (look (dropD C n)) w' :=
  (forget_any h.cap.cap n).mono fun _ _ ⟨e, k⟩ => ⟨e, k.same (look_dropD C n) (look_ok (dropD_good hg n))⟩
theorem p_clear (h : PlayE w pp a rr C v D W) : Calls Try.prog 22 #[.pointer (some ⟨a, 0, none⟩)] W fun e w' => e = .returned (.int .i64 ((listC (look C)).length : Int)) ∧ CapTo W a (look []) w' :=
  (clear_any h.cap.cap).mono fun _ _ ⟨e, k⟩ => ⟨e, by rw [look_nil]; exact k⟩
end
/-- What a play's call leaves. -/
def Did (w : World) (pp : Nat) (D : List Oe) (e : Ending) (W' : World) : Prop := e = .returned (.bool true) ∧ ∃ a rr v D', PlayE w pp a rr D' v D' W' ∧ GoodD D' ∧ D'.length ≤ D.length + 1
end Go.Proofs.Ytjgbgakdnapdhaa
