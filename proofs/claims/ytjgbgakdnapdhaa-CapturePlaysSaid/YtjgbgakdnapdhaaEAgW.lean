/- Words for laws that note, keep what was noted in a row, and note it again. No condition. -/
import Derived.Test.YtjgbgakdnapdhaaEAgM
import Derived.Maps.OwnIn
namespace Go.Proofs.Ytjgbgakdnapdhaa
open Go.RowKit Go.Shelf

theorem i_oe : (Try.prog.info? 40).map (fun i => (i.zero, i.size, i.bytes)) = some (some (.agg #[.int .i64 0, .int .i64 0, .int .i64 0, .int .i64 0]), 4, 32) := by kernel_rfl
/-- A capture, and the row of what it has noted. -/
structure DnW (w : World) (a : Nat) (D : List Oe) (v : Value) (W : World) : Prop where
  lc : LawC w a (look D) W
  row : W.ownsRow w.heap.size 40 4 v D.length (D.flatMap oeC)
section
variable {w W W' : World} {a : Nat} {D : List Oe} {v : Value}
theorem row_apart {f : Ca} {n : Nat} {xs : List Value} (h : CapAt W a f) (hr : W.ownsRow w.heap.size 40 4 v n xs) : ∀ g, v.ownBlock = some g → g ≠ a := by
  intro g hg e
  obtain ⟨_, cur, hc⟩ := own_typed hr hg
  exact typed_apart hc h.whole (by decide) e
theorem DnW.later (h : DnW w a D v W) (hb : Below W.heap.size W W') : DnW w a D v W' := ⟨h.lc.later hb, own_kept h.row (Kept.of_below hb Empty) (fun _ _ h => h)⟩
theorem DnW.slice (h : DnW w a D v W) : ∃ A c, v = .slice A D.length c ∧ RSrc oeC 4 W ⟨A, D.length, c⟩ D ∧ ∀ ad, A = some ad → ad.block ≠ a := by
  obtain ⟨⟨A, n, c⟩, rfl, hs, hA⟩ := rsrc_of_own (cells := oeC) (k := 4) (fun _ => rfl) rfl h.row
  have hn : D.length = n := hs.len
  subst hn
  exact ⟨A, c, rfl, hs, fun ad e => row_apart h.lc.cap h.row ad.block (by rw [← hA, e]; rfl)⟩
/-- A note that was refused, or not: the row stays. -/
theorem DnW.note {g : Ca} (h : DnW w a D v W) (hk : CapTo W a g W') : W'.ownsRow w.heap.size 40 4 v D.length (D.flatMap oeC) := own_kept h.row hk.2 (fun g hg e => row_apart h.lc.cap h.row g hg e)
theorem dn_start (h : LawC w a noCa W) : DnW w a [] (.slice none 0 0) W := ⟨by rw [look_nil]; exact h, ⟨rfl, .inl ⟨rfl, rfl⟩⟩⟩
theorem dn_add {w8 : World} {v8 : Value} {o : Oe} {ob : Obj} (h : LawC w a (look (D ++ [o])) W) (hr : W.ownsRow w.heap.size 40 4 v D.length (D.flatMap oeC)) (q1 : w8.ownsRow w.heap.size 40 4 v8 (D.length + 1) (D.flatMap oeC ++ oeC o)) (q2 : (W.alloc ob).grownBy w8 v.ownBlock) : DnW w a (D ++ [o]) v8 w8 := by
  have hk : Kept (fun i => some i = v.ownBlock) W w8 := ((Kept.refl _ W).alloc ob).grown q2 (fun i hi => .inl hi.symm)
  refine ⟨⟨h.cap.kept hk (fun e => row_apart h.cap hr a e.symm rfl), below_on h.below hk (fun i hi => (own_typed hr hi.symm).1) h.below.size, h.own⟩, ?_⟩
  rw [List.length_append, List.flatMap_append]
  simpa using q1
end

/-- Two captures, a row of calls and a row of deviations. -/
structure AgW (w : World) (a d : Nat) (f g : Ca) (sD : Sl) (D : List Oe) (sL : Sl) (L : List De) (W : World) : Prop where
  la : LawC w a f W
  ld : LawC w d g W
  ne : a ≠ d
  rD : RSrc oeC 4 W sD D
  rL : RSrc deC 2 W sL L
  fD : ∀ ad, sD.A = some ad → 0 < sD.n → ad.block ≠ a ∧ ad.block ≠ d
  fL : ∀ ad, sL.A = some ad → 0 < sL.n → ad.block ≠ a ∧ ad.block ≠ d
section
variable {w W W' : World} {a d : Nat} {f g e : Ca} {sD sL : Sl} {D : List Oe} {L : List De}
theorem AgW.later (h : AgW w a d f g sD D sL L W) (hb : Below W.heap.size W W') : AgW w a d f g sD D sL L W' := ⟨h.la.later hb, h.ld.later hb, h.ne, h.rD.later hb, h.rL.later hb, h.fD, h.fL⟩
theorem LawC.far (h : LawC w d g W) (k : CapTo W a e W') (hne : d ≠ a) (hbl : Below w.heap.size w W') : LawC w d g W' := ⟨h.cap.kept k.2 hne, hbl, h.own⟩
theorem AgW.toA (h : AgW w a d f g sD D sL L W) (k : CapTo W a e W') : AgW w a d e g sD D sL L W' :=
  ⟨h.la.to k, h.ld.far k (Ne.symm h.ne) (h.la.to k).below, h.ne, h.rD.kept k.2 (fun ad e1 e2 => (h.fD ad e1 e2).1), h.rL.kept k.2 (fun ad e1 e2 => (h.fL ad e1 e2).1), h.fD, h.fL⟩
theorem AgW.toD (h : AgW w a d f g sD D sL L W) (k : CapTo W d e W') : AgW w a d f e sD D sL L W' :=
  ⟨h.la.far k h.ne (h.ld.to k).below, h.ld.to k, h.ne, h.rD.kept k.2 (fun ad e1 e2 => (h.fD ad e1 e2).2), h.rL.kept k.2 (fun ad e1 e2 => (h.fL ad e1 e2).2), h.fD, h.fL⟩
theorem LawC.same (h : LawC w a f W) (hE : EqC f g) (hg : OkC g) : LawC w a g W := ⟨h.cap.same hE hg, h.below, h.own⟩
theorem AgW.sameD (h : AgW w a d f g sD D sL L W) (hE : EqC g e) (he : OkC e) : AgW w a d f e sD D sL L W := ⟨h.la, h.ld.same hE he, h.ne, h.rD, h.rL, h.fD, h.fL⟩
theorem ag_noteA (h : AgW w a d f g sD D sL L W) (n c v : Int) : Calls Try.prog 19 #[.pointer (some ⟨a, 0, none⟩), .int .i64 n, .int .i64 c, .int .i64 v] W fun e w' => e = .returned (.int .i64 (noteE f n c v)) ∧ AgW w a d (noteF f n c v) g sD D sL L w' :=
  (note_any h.la.cap n c v).mono fun _ _ ⟨e, k⟩ => ⟨e, h.toA k⟩
theorem ag_noteD (h : AgW w a d f g sD D sL L W) (n c v : Int) : Calls Try.prog 19 #[.pointer (some ⟨d, 0, none⟩), .int .i64 n, .int .i64 c, .int .i64 v] W fun e w' => e = .returned (.int .i64 (noteE g n c v)) ∧ AgW w a d f (noteF g n c v) sD D sL L w' :=
  (note_any h.ld.cap n c v).mono fun _ _ ⟨e, k⟩ => ⟨e, h.toD k⟩
theorem ag_forget (h : AgW w a d f g sD D sL L W) (n : Int) : Calls Try.prog 21 #[.pointer (some ⟨d, 0, none⟩), .int .i64 n] W fun e w' => e = .returned (.bool (ofC g n).isSome) ∧ AgW w a d f (dropC g n) sD D sL L w' :=
  (forget_any h.ld.cap n).mono fun _ _ ⟨e, k⟩ => ⟨e, h.toD k⟩
theorem ag_clear (h : AgW w a d f g sD D sL L W) : Calls Try.prog 22 #[.pointer (some ⟨a, 0, none⟩)] W fun e w' => e = .returned (.int .i64 ((listC f).length : Int)) ∧ AgW w a d noCa g sD D sL L w' :=
  (clear_any h.la.cap).mono fun _ _ ⟨e, k⟩ => ⟨e, h.toA k⟩
theorem ag_count (h : AgW w a d f g sD D sL L W) : Calls Try.prog 14 #[.pointer (some ⟨a, 0, none⟩)] W fun e w' => e = .returned (.int .i64 ((listC f).length : Int)) ∧ AgW w a d f g sD D sL L w' :=
  (count_any (SrcE.of h.la.cap)).mono fun _ _ ⟨e, k⟩ => ⟨e, h.later k⟩
theorem ag_listA (h : AgW w a d f g sD D sL L W) : Calls Try.prog 12 #[.pointer (some ⟨a, 0, none⟩)] W fun e w' => ∃ A c, e = .returned (.slice A (listC f).length c) ∧ RSrc deC 2 w' ⟨A, (listC f).length, c⟩ (listC f) ∧ AgW w a d f g sD D sL L w' :=
  (law_list h.la).mono fun _ _ ⟨A, c, h1, h2, _, _, h5⟩ => ⟨A, c, h1, h2, h.later h5⟩
theorem ag_listD (h : AgW w a d f g sD D sL L W) : Calls Try.prog 12 #[.pointer (some ⟨d, 0, none⟩)] W fun e w' => ∃ A c, e = .returned (.slice A (listC g).length c) ∧ RSrc deC 2 w' ⟨A, (listC g).length, c⟩ (listC g) ∧ AgW w a d f g sD D sL L w' :=
  (law_list h.ld).mono fun _ _ ⟨A, c, h1, h2, _, _, h5⟩ => ⟨A, c, h1, h2, h.later h5⟩
end
theorem look_ok {D : List Oe} (h : GoodD D) : OkC (look D) := by
  intro n c v hv
  unfold look at hv
  obtain ⟨o, ho, rfl⟩ := Option.map_eq_some_iff.1 hv
  exact byB_iff.1 (h.valid o (List.mem_of_find?_eq_some ho)).2.2
end Go.Proofs.Ytjgbgakdnapdhaa
