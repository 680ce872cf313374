/- BusApart: what is so of memory in each round. No condition. | A law's memory while sendings are made: the plan's box, the bus, a row that grows. No condition. | BusHears and BusBlocked: what the bus keeps of what was sent, and what is heard of it. Plain; no condition. | BusBlocked: what is so of memory while sendings are made. No condition. | BusBlocked, its walk. No condition. -/
import Derived.Test.YtmplidgafdobkaaUApM
import Derived.Test.YtmplidgafdobkaaUAlive
import Derived.Test.YtmplidgafdobkaaUGreat
import Derived.Test.YtmplidgafdobkaaUDues
import Derived.StillTailTactics
import Derived.Deep.RegionHeld3
import Derived.IntWalk
namespace Go.Proofs.Ytmplidgafdobkaa
open Go.RowKit Go.Shelf

/-- The blocks that a bus of a law does not touch: all ahead of New, and the block m. -/
def FoB (Z m : Nat) : Nat → Prop := fun k => k < Z ∨ k = m
/-- Memory in a law: the plan's box, the bus, a map. -/
structure ApW (w : World) (x : Pl) (Z b m : Nat) (g : Lg) (f : Int → Int → Option Int) (n : Nat) (W : World) : Prop where
  z : w.heap.size < Z ∧ Z ≤ m
  bl : Below w.heap.size w W
  plan : Whole W w.heap.size 23 x.cells
  bus : BusF (FoB Z m) b g W
  bnd : Bnd (FoB Z m) W
  map : MapU W m n f
section
variable {w W W' : World} {x : Pl} {Z b m n : Nat} {g g' : Lg} {f : Int → Int → Option Int}
theorem ApW.later (h : ApW w x Z b m g f n W) (hb : Below W.heap.size W W') : ApW w x Z b m g f n W' :=
  ⟨h.z, k_then hb h.bl, k_later hb h.plan, h.bus.later hb, h.bnd.more hb.size, h.map.later hb⟩
theorem ApW.drewN (h : ApW w x Z b m g f n W) (k : Nat) : ApW w x Z b m g f n (W.drewN k) := h.later (below_drewN (Below.refl _ _) k)
theorem ApW.drew (h : ApW w x Z b m g f n W) : ApW w x Z b m g f n W.drew := h.later ((Below.refl _ _).drew)
theorem ApW.send (h : ApW w x Z b m g f n W) (hb : BusF (FoB Z m) b g' W') (hk : KeptF (FoB Z m) W W') : ApW w x Z b m g' f n W' := by
  have z := h.z
  exact ⟨h.z, below_on h.bl hk (fun i hi => by
      rcases Nat.lt_or_ge i Z with q | q
      · exact absurd (.inl q) hi
      · omega) h.bl.size, h.plan.kept hk (fun q => q (.inl z.1)), hb, h.bnd.more hk.size, h.map.kept hk (fun q => q (.inr rfl))⟩
theorem ApW.put {n' : Nat} {f' : Int → Int → Option Int} (h : ApW w x Z b m g f n W) (hm : MapU W' m n' f') (hk : Kept (fun i => i = m) W W') : ApW w x Z b m g f' n' W' := by
  have z := h.z
  exact ⟨h.z, below_on h.bl hk (fun i hi => by have hi : i = m := hi; omega) h.bl.size, h.plan.kept hk (fun q => by have q : w.heap.size = m := q; omega), h.bus.kept hk (fun k hk => .inr hk), h.bnd.more hk.size, hm⟩
/-- New, and a map behind it. -/
theorem ap_made {W3 W4 : World} (h3 : Below w.heap.size w W3 ∧ Whole W3 w.heap.size 23 x.cells) (hb : BusF (fun k => k < W3.heap.size) b g W4) (h4 : Below W3.heap.size W3 W4) : ApW w x W3.heap.size b W4.heap.size g (fun _ _ => none) 0 (W4.alloc (.map #[] 0)) := by
  have hal : Below W4.heap.size W4 (W4.alloc (.map #[] 0)) := (Below.refl _ _).alloc (Nat.le_refl _) _
  have hz := h4.size
  have hz2 : (W4.alloc (.map #[] 0)).heap.size = W4.heap.size + 1 := by simp
  refine ⟨⟨h3.2.lt, hz⟩, k_then hal (k_then h4 h3.1), k_later hal (k_later h4 h3.2), (hb.new hal).less (fun k hk => hk.imp id (fun e => ?_)), fun k hk => ?_, MapU.made _⟩
  · subst e; exact ⟨Nat.le_refl _, by omega⟩
  · rw [hz2]
    rcases hk with q | q
    · omega
    · omega
/-- The cells of the plan's box that laws read. -/
theorem plan_cells {W : World} {B : Nat} {x : Pl} (h : Whole W B 23 x.cells) : W.cell? ⟨B, 2, none⟩ = some (.int .i64 x.slot) ∧ W.cell? ⟨B, 5, none⟩ = some (.int .i64 x.air) ∧ W.cell? ⟨B, 6, none⟩ = some (.int .i64 x.dmin) ∧ W.cell? ⟨B, 7, none⟩ = some (.int .i64 x.dmax) ∧ W.cell? ⟨B, 0, none⟩ = some (.int .i64 x.nodes) :=
  ⟨h.cell 2, h.cell 5, h.cell 6, h.cell 7, h.cell 0⟩
/-- A sending of a law, with what Send is given. -/
theorem ap_send (h : ApW w x Z b m g f n W) (hl : g.L.length ≤ 1000000) {o : OpA} (ho : OpAt W o) (h1 : o.raw.length ≤ 1000000) (h2 : o.fa.length ≤ 1000000) :
    Calls Try.prog 11 #[.pointer (some ⟨b, 0, none⟩), .int .i64 o.f, .int .i64 o.t, o.rw.v, o.fw.v] W fun e w' => e = .returned (sendV g o.f o.t o.fa) ∧ ApW w x Z b m (sendG g o.f o.t o.raw o.fa) f n w' :=
  (send_f h.bus h.bnd o.f o.t o.rw o.fw o.raw o.fa ho.raw ho.fa (by rw [← ho.raw.len]; exact h1) (by rw [← ho.fa.len]; exact h2) hl).mono fun e w' ⟨k1, k2, k3⟩ => ⟨k1, h.send k2 k3⟩
/-- A list of places in new memory, as a slice. -/
def FreshS (w : World) (L : List Du) (e : Ending) (w' : World) : Prop := ∃ (A : Option Addr) (n c : Nat), e = .returned (.slice A n c) ∧ RSrc duC 3 w' ⟨A, n, c⟩ L ∧ (∀ ad, A = some ad → w.heap.size ≤ ad.block) ∧ Below w.heap.size w w'
theorem due_s {F : Nat → Prop} (h : BusF F b g W) (id : Int) : Calls Try.prog 17 #[.pointer (some ⟨b, 0, none⟩), .int .i64 id] W (FreshS W (dueG g id)) :=
  (due_f h id).mono fun e w' ⟨v, h1, h2, h3⟩ => by
    obtain ⟨d, k1, k2, k3⟩ := rsrc_of_own du_len rfl h2
    refine ⟨d.A, d.n, d.c, by rw [h1, k1]; rfl, k2, fun ad e => ?_, h3⟩
    rw [e] at k3
    exact (own_typed h2 k3.symm).1
end
theorem great_small {os : List OpA} (h : greatL os = false) : os.length ≤ 40 ∧ ∀ k, k < os.length → (os.getD k default).raw.length ≤ 100 ∧ (os.getD k default).fa.length ≤ 40 := by
  unfold greatL at h
  rw [Bool.or_eq_false_iff] at h
  refine ⟨by have := of_decide_eq_false h.1; omega, fun k hk => ?_⟩
  have := List.any_eq_false.1 h.2 _ (List.getElem_mem hk)
  rw [List.getD_eq_getElem?_getD, List.getElem?_eq_getElem hk]
  unfold greatO at this
  simp at this ⊢
  omega
end Go.Proofs.Ytmplidgafdobkaa

namespace Go.Proofs.Ytmplidgafdobkaa
open Go.RowKit Go.Shelf

section
variable {F T : Nat → Prop} {b : Nat} {g g' : Lg} {W W' : World}
/-- Some of F's blocks turned, new blocks behind. -/
theorem BusF.grow (h : BusF F b g W) (hk : Kept T W W') (hT : ∀ k, T k → F k) : BusF (Grow F W W') b g W' := by
  obtain ⟨S, l, v, As, h1, h2, h3, h4, h5⟩ := h
  refine ⟨S, l, v, As, h1.kept hk (fun e => h4 (hT _ e)) (fun k hk ht => h3 k (hT k ht) hk) (fun a ha => (h5 a ha).mono hT), h2, fun k hk hs => ?_, fun hk => ?_, fun a ha => (h5 a ha).new (h1.src a ha).1 (fun k hk => hk.imp id (fun q => q.1))⟩
  · rcases hk with hk | hk
    · exact h3 k hk hs
    · have := h1.sS k hs; omega
  · rcases hk with hk | hk
    · exact h4 hk
    · have := h1.bus.lt; omega
end
/-- The plan's box and the bus, F's blocks being none of the bus'. -/
structure LwW (w : World) (x : Pl) (Z b : Nat) (F : Nat → Prop) (g : Lg) (W : World) : Prop where
  z : w.heap.size < Z ∧ Z ≤ W.heap.size
  bl : Below w.heap.size w W
  plan : Whole W w.heap.size 23 x.cells
  bus : BusF F b g W
  bnd : Bnd F W
  low : ∀ k, k < Z → F k
section
variable {w W W' : World} {x : Pl} {Z b : Nat} {F T : Nat → Prop} {g g' : Lg}
theorem LwW.later (h : LwW w x Z b F g W) (hb : Below W.heap.size W W') : LwW w x Z b F g W' :=
  ⟨⟨h.z.1, Nat.le_trans h.z.2 hb.size⟩, k_then hb h.bl, k_later hb h.plan, h.bus.later hb, h.bnd.more hb.size, h.low⟩
theorem LwW.drew (h : LwW w x Z b F g W) : LwW w x Z b F g W.drew := h.later ((Below.refl _ _).drew)
theorem LwW.drewN (h : LwW w x Z b F g W) (k : Nat) : LwW w x Z b F g (W.drewN k) := h.later (below_drewN (Below.refl _ _) k)
theorem LwW.send (h : LwW w x Z b F g W) (hb : BusF F b g' W') (hk : KeptF F W W') : LwW w x Z b F g' W' := by
  have z := h.z
  exact ⟨⟨z.1, Nat.le_trans z.2 hk.size⟩, below_on h.bl hk (fun i hi => by
      rcases Nat.lt_or_ge i Z with q | q
      · exact absurd (h.low i q) hi
      · omega) h.bl.size, h.plan.kept hk (fun q => q (h.low _ z.1)), hb, h.bnd.more hk.size, h.low⟩
theorem LwW.step (h : LwW w x Z b F g W) (hk : Kept T W W') (hT : ∀ k, T k → F k ∧ Z ≤ k) : LwW w x Z b (Grow F W W') g W' := by
  have z := h.z
  exact ⟨⟨z.1, Nat.le_trans z.2 hk.size⟩, below_on h.bl hk (fun i hi => by have := (hT i hi).2; omega) h.bl.size, h.plan.kept hk (fun q => by have := (hT _ q).2; omega), h.bus.grow hk (fun _ q => (hT _ q).1), h.bnd.new hk.size, fun _ q => .inl (h.low _ q)⟩
theorem LwW.grow (h : LwW w x Z b F g W) (hb : Below W.heap.size W W') : LwW w x Z b (Grow F W W') g W' := h.step (Kept.of_below hb Empty) (fun _ q => q.elim)
/-- A law's own row, none of the bus'. -/
def RowF (F : Nat → Prop) (v : Value) : Prop := ∀ k, v.ownBlock = some k → F k
theorem RowF.nil (F : Nat → Prop) : RowF F (.slice none 0 0) := fun k e => by simp [Value.ownBlock] at e
theorem lw_made {W3 W4 : World} (h3 : Below w.heap.size w W3 ∧ Whole W3 w.heap.size 23 x.cells) (hb : BusF (fun k => k < W3.heap.size) b g W4) (h4 : Below W3.heap.size W3 W4) : LwW w x W3.heap.size b (fun k => k < W3.heap.size) g W4 :=
  ⟨⟨h3.2.lt, h4.size⟩, k_then h4 h3.1, k_later h4 h3.2, hb, fun _ hk => Nat.lt_of_lt_of_le hk h4.size, fun _ hk => hk⟩
/-- A value behind a row: a block for the value, then the row (there, or in a new block). -/
theorem lw_append {e : TypeId} {k n m : Nat} {v v' : Value} {xs ys : List Value} {o : Obj} (h : LwW w x Z b F g W) (hown : W.ownsRow Z e k v n xs) (hv : RowF F v)
    (h1 : W'.ownsRow Z e k v' m ys) (h2 : (W.alloc o).grownBy W' v.ownBlock) (h3 : v'.ownBlock = v.ownBlock ∨ v'.ownBlock = some (W.alloc o).heap.size) :
    LwW w x Z b (Grow F W W') g W' ∧ RowF (Grow F W W') v' ∧ Kept (fun i => v.ownBlock = some i) W W' := by
  have hk : Kept (fun i => v.ownBlock = some i) W W' := ((Kept.refl _ W).alloc o).grown h2 (fun j e => .inl e)
  have hs : (W.alloc o).heap.size = W.heap.size + 1 := by simp
  refine ⟨h.step hk (fun j hj => ⟨hv j hj, (own_typed hown hj).1⟩), fun j hj => ?_, hk⟩
  rcases h3 with q | q
  · exact .inl (hv j (q ▸ hj))
  · obtain ⟨_, cur, hc⟩ := own_typed h1 hj
    have hl := (Array.getElem?_eq_some_iff.1 hc).1
    rw [q, hs] at hj
    cases hj
    exact .inr ⟨by omega, hl⟩
theorem lw_send (h : LwW w x Z b F g W) (hl : g.L.length ≤ 1000000) {o : OpA} (ho : OpAt W o) (h1 : o.raw.length ≤ 1000000) (h2 : o.fa.length ≤ 1000000) :
    Calls Try.prog 11 #[.pointer (some ⟨b, 0, none⟩), .int .i64 o.f, .int .i64 o.t, o.rw.v, o.fw.v] W fun e w' => e = .returned (sendV g o.f o.t o.fa) ∧ LwW w x Z b F (sendG g o.f o.t o.raw o.fa) w' ∧ KeptF F W w' :=
  (send_f h.bus h.bnd o.f o.t o.rw o.fw o.raw o.fa ho.raw ho.fa (by rw [← ho.raw.len]; exact h1) (by rw [← ho.fa.len]; exact h2) hl).mono fun e w' ⟨k1, k2, k3⟩ => ⟨k1, h.send k2 k3, k3⟩
end
end Go.Proofs.Ytmplidgafdobkaa

namespace Go.Proofs.Ytmplidgafdobkaa
open Go.RowKit

/-- What is kept of a sending: all, or, if it did not pass, who sent it and when. -/
def KeptOf (p : Pl) (o : OpA) (s : Sd) : Prop := s = ⟨o.f, o.t, o.raw, spreadL p o.fa o.f 0, spreadL p o.fa o.f 1⟩ ∨ s = ⟨o.f, o.t, [], [], []⟩
structure Match (p : Pl) (L : List Sd) (os : List OpA) : Prop where
  len : L.length = os.length
  at_ : ∀ i, i < os.length → KeptOf p (os.getD i default) (L.getD i default)
theorem Match.nil (p : Pl) : Match p [] [] := ⟨rfl, fun _ h => absurd h (Nat.not_lt_zero _)⟩
theorem getD_snoc {α : Type} [Inhabited α] (l : List α) (a : α) (i : Nat) : (l ++ [a]).getD i default = if i < l.length then l.getD i default else if i = l.length then a else default := by
  rw [List.getD_eq_getElem?_getD, List.getD_eq_getElem?_getD]
  split
  · rename_i h; rw [List.getElem?_append_left h]
  · rename_i h
    rw [List.getElem?_append_right (by omega)]
    split
    · rename_i h2; subst h2; simp
    · rename_i h2; rw [List.getElem?_eq_none (by simp; omega)]; rfl
theorem Match.snoc {p : Pl} {L : List Sd} {os : List OpA} (h : Match p L os) {o : OpA} {s : Sd} (hk : KeptOf p o s) : Match p (L ++ [s]) (os ++ [o]) := by
  refine ⟨by simp [h.len], fun i hi => ?_⟩
  rw [getD_snoc, getD_snoc, h.len]
  by_cases q : i < os.length
  · rw [if_pos q, if_pos q]; exact h.at_ i q
  · have : i = os.length := by simp at hi; omega
    rw [if_neg q, if_neg q, if_pos this, if_pos this]; exact hk
theorem keptS_of (g : Lg) (o : OpA) : KeptOf g.p o (keptS g o.f o.t o.raw o.fa) := by
  unfold keptS KeptOf
  split
  · exact .inl rfl
  · exact .inr rfl
theorem sendG_L {g : Lg} {f t : Int} {raw : List UInt8} {fa : List Fa} (hok : okB g f t fa = true) : (sendG g f t raw fa).L = g.L ++ [keptS g f t raw fa] := by
  unfold sendG; rw [if_pos hok]; rfl
theorem Match.f {p : Pl} {L : List Sd} {os : List OpA} (h : Match p L os) {i : Nat} (hi : i < os.length) : (L.getD i default).f = (os.getD i default).f ∧ (L.getD i default).t = (os.getD i default).t := by
  rcases h.at_ i hi with e | e <;> rw [e] <;> exact ⟨rfl, rfl⟩
/-- A law's question: does a node send while a frame is there till then? -/
def askB (n t a : Int) (o : OpA) : Bool := decide (o.f = n) && (decide (o.t < t) && decide (t - a < o.t + a))
theorem any_getD {α : Type} [Inhabited α] {l : List α} {q : α → Bool} : l.any q = true ↔ ∃ i, i < l.length ∧ q (l.getD i default) = true := by
  rw [List.any_eq_true]
  constructor
  · rintro ⟨x, hx, h⟩
    obtain ⟨i, hi, rfl⟩ := List.mem_iff_getElem.1 hx
    exact ⟨i, hi, by rwa [List.getD_eq_getElem?_getD, List.getElem?_eq_getElem hi]⟩
  · rintro ⟨i, hi, h⟩
    rw [List.getD_eq_getElem?_getD, List.getElem?_eq_getElem hi] at h
    exact ⟨_, List.getElem_mem hi, h⟩
theorem sends_ask {g : Lg} {os : List OpA} (h : Match g.p g.L os) (n bg : Int) : sendsG g n bg = os.any (askB n (bg + g.p.air) g.p.air) := by
  rw [Bool.eq_iff_iff]
  unfold sendsG
  rw [any_getD, any_getD]
  constructor
  · rintro ⟨i, hi, q⟩
    have hi' : i < os.length := by have := h.len; omega
    have e := h.f hi'
    refine ⟨i, hi', ?_⟩
    rw [e.1, e.2] at q
    simp only [askB, Bool.and_eq_true, decide_eq_true_eq] at q ⊢
    omega
  · rintro ⟨i, hi, q⟩
    have e := h.f hi
    refine ⟨i, by have := h.len; omega, ?_⟩
    rw [e.1, e.2]
    simp only [askB, Bool.and_eq_true, decide_eq_true_eq] at q ⊢
    omega
theorem any_take {α : Type} [Inhabited α] {l : List α} {q : α → Bool} {j : Nat} (hj : j < l.length) : (l.take (j + 1)).any q = ((l.take j).any q || q (l.getD j default)) := by
  rw [List.take_add_one, List.getElem?_eq_getElem hj, List.any_append, List.getD_eq_getElem?_getD, List.getElem?_eq_getElem hj]
  simp
/-- Is a frame to be cut, as the law asks? -/
def cutB (p : Pl) (o : OpA) (n c : Nat) : Bool := decide (c * p.nodes.toNat + n < o.fa.length) && (o.fa.getD (c * p.nodes.toNat + n) default).cut
theorem hears_case {p : Pl} {o : OpA} {s : Sd} (hk : KeptOf p o s) {n c : Nat} (hn : (n : Int) < p.nodes) (hc : c < 2) (ht : thereS s (n : Int) (c : Int) = true) : s.f = o.f ∧ s.t = o.t ∧ s.raw = o.raw ∧ (faS s (n : Int) (c : Int)).cut = cutB p o n c := by
  rcases hk with e | e
  · subst e
    refine ⟨rfl, rfl, rfl, ?_⟩
    have hi : inS ⟨o.f, o.t, o.raw, spreadL p o.fa o.f 0, spreadL p o.fa o.f 1⟩ (n : Int) (c : Int) = true := by
      unfold thereS at ht
      rw [Bool.and_eq_true] at ht
      exact ht.1
    have hch : Sd.ch ⟨o.f, o.t, o.raw, spreadL p o.fa o.f 0, spreadL p o.fa o.f 1⟩ (c : Int) = spreadL p o.fa o.f c := by
      have : c = 0 ∨ c = 1 := by omega
      rcases this with rfl | rfl <;> rfl
    unfold faS
    rw [hi, if_pos rfl, hch, Int.toNat_natCast, spreadL_get _ _ _ _ _ (by omega)]
    show (o.fa.getD (c * p.nodes.toNat + n) ⟨p.dmin, false, false⟩).cut = _
    unfold cutB
    rw [List.getD_eq_getElem?_getD, List.getD_eq_getElem?_getD]
    by_cases q : c * p.nodes.toNat + n < o.fa.length
    · rw [List.getElem?_eq_getElem q, decide_eq_true q]; rfl
    · rw [List.getElem?_eq_none (by omega), decide_eq_false q]; rfl
  · subst e
    have hch : Sd.ch ⟨o.f, o.t, [], [], []⟩ (c : Int) = [] := by unfold Sd.ch; split <;> rfl
    unfold thereS inS at ht
    rw [hch] at ht
    simp at ht
/-- What is heard, against what was sent. -/
theorem heard_whole (o : OpA) (s : Sd) (hr : s.raw = o.raw) (cut : Bool) : decide (heardS s cut = o.raw) = !(cut && decide (0 < o.raw.length)) ∧ (heardS s cut).length ≤ o.raw.length := by
  unfold heardS
  rw [hr]
  cases cut
  · exact ⟨by simp, Nat.le_refl _⟩
  · refine ⟨?_, by simp⟩
    rw [if_pos rfl, Bool.true_and]
    by_cases q : 0 < o.raw.length
    · rw [decide_eq_true q]
      simp only [Bool.not_true, decide_eq_false_iff_not]
      intro e
      have := congrArg List.length e
      simp at this
      omega
    · have : o.raw = [] := List.eq_nil_of_length_eq_zero (by omega)
      rw [this]; rfl
theorem isG_eq {g : Lg} {i : Nat} (hi : i < g.L.length) (n c : Int) : isG g (i : Int) n c = (thereS (g.L.getD i default) n c && !sendsG g n ((g.L.getD i default).t + (faS (g.L.getD i default) n c).d)) := by
  have h : idB g (i : Int) = true := by unfold idB; simp; omega
  unfold isG sdG
  rw [h, Bool.true_and, Int.toNat_natCast]
theorem dueG_eq {g : Lg} {i : Nat} (hi : i < g.L.length) : dueG g (i : Int) = dueS g.p (g.L.getD i default) := by
  have h : idB g (i : Int) = true := by unfold idB; simp; omega
  unfold dueG sdG
  rw [h, if_pos rfl, Int.toNat_natCast]
/-- What came ahead of a sending is where it was. -/
theorem dueG_old {g : Lg} {f t : Int} {raw : List UInt8} {fa : List Fa} (hok : okB g f t fa = true) {i : Nat} (hi : i < g.L.length) : dueG (sendG g f t raw fa) (i : Int) = dueG g (i : Int) := by
  have hl := sendG_L (raw := raw) hok
  rw [dueG_eq hi, dueG_eq (by rw [hl]; simp; omega), hl, sendG_p, getD_snoc, if_pos hi]
/-- A place of a frame, and its fate. -/
theorem dueS_mem {p : Pl} {s : Sd} {d : Du} (h : d ∈ dueS p s) : thereS s d.r d.c = true ∧ d.t = s.t + p.air + (faS s d.r d.c).d ∧ 0 ≤ d.r ∧ (d.c = 0 ∨ d.c = 1) := by
  have key : ∀ (cc : Int), (cc = 0 ∨ cc = 1) → d ∈ dueTo cc (s.t + p.air) (s.ch cc) (s.ch cc).length → thereS s d.r d.c = true ∧ d.t = s.t + p.air + (faS s d.r d.c).d ∧ 0 ≤ d.r ∧ (d.c = 0 ∨ d.c = 1) := fun cc hcc hd => by
    obtain ⟨i, hi, hl, rfl⟩ := dueTo_mem hd
    dsimp only
    have hin : inS s (i : Int) cc = true := by
      unfold inS
      rcases hcc with rfl | rfl <;> simp <;> omega
    have hf : faS s (i : Int) cc = (s.ch cc).getD i default := by unfold faS; rw [hin, if_pos rfl, Int.toNat_natCast]
    exact ⟨by unfold thereS; rw [hin, hf, hl]; rfl, by rw [hf], by omega, hcc⟩
  unfold dueS at h
  rcases List.mem_append.1 h with h | h
  · exact key 0 (.inl rfl) h
  · exact key 1 (.inr rfl) h
/-- A node that sends while a frame is there does not hear it. -/
theorem deaf_case {g : Lg} {f t : Int} {raw : List UInt8} {fa : List Fa} (hok : okB g f t fa = true) {i : Nat} (hi : i < (sendG g f t raw fa).L.length) {d : Du} (hd : d ∈ dueG (sendG g f t raw fa) (i : Int)) (h1 : d.r = f) (h2 : t < d.t) (h3 : d.t - g.p.air < t + g.p.air) : isG (sendG g f t raw fa) (i : Int) d.r d.c = false := by
  rw [dueG_eq hi, sendG_p] at hd
  obtain ⟨k1, k2, _⟩ := dueS_mem hd
  rw [isG_eq hi, k1, Bool.true_and]
  have hs : sendsG (sendG g f t raw fa) d.r (((sendG g f t raw fa).L.getD i default).t + (faS ((sendG g f t raw fa).L.getD i default) d.r d.c).d) = true := by
    unfold sendsG
    rw [List.any_eq_true]
    refine ⟨keptS g f t raw fa, by rw [sendG_L hok]; simp, ?_⟩
    rw [keptS_f, keptS_t, sendG_p]
    simp only [Bool.and_eq_true, decide_eq_true_eq]
    omega
  rw [hs]; rfl
/-- Nobody hears a sending that did not pass. -/
theorem blocked_case {g : Lg} {f t : Int} {raw : List UInt8} {fa : List Fa} (hok : okB g f t fa = true) (hp : passB g t = false) (n c : Int) : isG (sendG g f t raw fa) (g.L.length : Int) n c = false := by
  have hl := sendG_L (raw := raw) hok
  have hk : keptS g f t raw fa = ⟨f, t, [], [], []⟩ := if_neg (by rw [hp]; decide)
  rw [isG_eq (by rw [hl]; simp), hl, getD_snoc, if_neg (by omega), if_pos rfl, hk]
  have ht : thereS ⟨f, t, [], [], []⟩ n c = false := by
    have hch : Sd.ch ⟨f, t, [], [], []⟩ c = [] := by unfold Sd.ch; split <;> rfl
    unfold thereS inS
    rw [hch]
    simp
    omega
  rw [ht]; rfl
end Go.Proofs.Ytmplidgafdobkaa

namespace Go.Proofs.Ytmplidgafdobkaa
open Go.RowKit Go.Shelf

/-- A slice's block is one of F's, and not the row's. -/
def OffR (F : Nat → Prop) (v : Value) (s : Sl) : Prop := ∀ ad, s.A = some ad → 0 < s.n → F ad.block ∧ v.ownBlock ≠ some ad.block
/-- The bus, and a row of what was told to be there of each sending. -/
structure BkW (w : World) (x : Pl) (Z b : Nat) (F : Nat → Prop) (g : Lg) (v : Value) (ds : List Sl) (W : World) : Prop where
  lw : LwW w x Z b F g W
  row : W.ownsRow Z 49 1 v ds.length (ds.map Sl.v)
  rf : RowF F v
  at_ : ∀ i, i < ds.length → RSrc duC 3 W (ds.getD i nilS) (dueG g (i : Int)) ∧ OffR F v (ds.getD i nilS)
section
variable {w W W' W6 W7 W8 : World} {x : Pl} {Z b : Nat} {F T : Nat → Prop} {g g' : Lg} {v v' : Value} {ds : List Sl}
theorem BkW.later (h : BkW w x Z b F g v ds W) (hb : Below W.heap.size W W') : BkW w x Z b F g v ds W' :=
  ⟨h.lw.later hb, own_kept h.row (Kept.of_below hb Empty) (fun _ _ e => e), h.rf, fun i hi => ⟨(h.at_ i hi).1.later hb, (h.at_ i hi).2⟩⟩
theorem bk_start (h : LwW w x Z b F g W) : BkW w x Z b F g (.slice none 0 0) [] W := ⟨h, World.ownsRow_nil _ _ _ _, RowF.nil F, fun _ hi => absurd hi (Nat.not_lt_zero _)⟩
theorem bk_send (h : BkW w x Z b F g v ds W) (hl : ds.length = g.L.length) {f t : Int} {raw : List UInt8} {fa : List Fa} (hok : okB g f t fa = true) (h6 : LwW w x Z b F (sendG g f t raw fa) W6) (hk : KeptF F W W6) : BkW w x Z b F (sendG g f t raw fa) v ds W6 := by
  refine ⟨h6, own_kept h.row hk (fun k e q => q (h.rf k e)), h.rf, fun i hi => ⟨?_, (h.at_ i hi).2⟩⟩
  rw [dueG_old hok (by omega)]
  exact (h.at_ i hi).1.kept hk (fun ad e h0 q => q ((h.at_ i hi).2 ad e h0).1)
theorem bk_bad (h : BkW w x Z b F g v ds W) (h6 : LwW w x Z b F g W6) (hk : KeptF F W W6) : BkW w x Z b F g v ds W6 :=
  ⟨h6, own_kept h.row hk (fun k e q => q (h.rf k e)), h.rf, fun i hi => ⟨(h.at_ i hi).1.kept hk (fun ad e h0 q => q ((h.at_ i hi).2 ad e h0).1), (h.at_ i hi).2⟩⟩
theorem getD_snoc_n (l : List Sl) (a : Sl) (i : Nat) (hi : i < (l ++ [a]).length) : (i < l.length ∧ (l ++ [a]).getD i nilS = l.getD i nilS) ∨ (i = l.length ∧ (l ++ [a]).getD i nilS = a) := by
  rw [List.getD_eq_getElem?_getD, List.getD_eq_getElem?_getD]
  by_cases q : i < l.length
  · exact .inl ⟨q, by rw [List.getElem?_append_left q]⟩
  · have : i = l.length := by simp at hi; omega
    subst this
    exact .inr ⟨rfl, by simp⟩
theorem bk_add {o : Obj} {d : Sl} (h : BkW w x Z b F g v ds W6) (hd : RSrc duC 3 W7 d (dueG g (ds.length : Int))) (hn : ∀ ad, d.A = some ad → W6.heap.size ≤ ad.block) (h7 : Below W6.heap.size W6 W7)
    (h1 : W8.ownsRow Z 49 1 v' (ds.length + 1) (ds.map Sl.v ++ [d.v])) (h2 : (W7.alloc o).grownBy W8 v.ownBlock) (h3 : v'.ownBlock = v.ownBlock ∨ v'.ownBlock = some (W7.alloc o).heap.size) :
    ∃ F', BkW w x Z b F' g v' (ds ++ [d]) W8 := by
  have r7 := (h.later h7).row
  obtain ⟨k1, k2, k3⟩ := lw_append (h.lw.grow h7) r7 (fun k e => .inl (h.rf k e)) h1 h2 h3
  have hs7 : (W7.alloc o).heap.size = W7.heap.size + 1 := by simp
  have hvl : ∀ k, v.ownBlock = some k → k < W6.heap.size := fun k e => by
    obtain ⟨_, cur, hc⟩ := own_typed h.row e
    exact (Array.getElem?_eq_some_iff.1 hc).1
  have hdl : ∀ ad, d.A = some ad → 0 < d.n → ad.block < W7.heap.size := fun ad e h0 => hd.lt (fun _ => by simp [duC]) e h0
  refine ⟨_, k1, by rw [List.map_append, List.length_append]; exact h1, k2, fun i hi => ?_⟩
  rcases getD_snoc_n ds d i hi with ⟨q, e⟩ | ⟨q, e⟩
  · rw [e]
    obtain ⟨a1, a2⟩ := h.at_ i q
    refine ⟨(a1.later h7).kept k3 (fun ad e h0 => (a2 ad e h0).2), fun ad e h0 => ⟨.inl (.inl (a2 ad e h0).1), fun hv => ?_⟩⟩
    rcases h3 with q3 | q3
    · rw [q3] at hv; exact (a2 ad e h0).2 hv
    · rw [q3, hs7] at hv
      have hv := Option.some.inj hv
      have := a1.lt (fun _ => by simp [duC]) e h0
      have := h7.size
      omega
  · rw [e, q]
    refine ⟨hd.kept k3 (fun ad e h0 hv => ?_), fun ad e h0 => ⟨.inl (.inr ⟨hn ad e, hdl ad e h0⟩), fun hv => ?_⟩⟩
    · have hv : v.ownBlock = some ad.block := hv
      have := hvl _ hv
      have := hn ad e
      omega
    · rcases h3 with q3 | q3
      · rw [q3] at hv
        have := hvl _ hv
        have := hn ad e
        omega
      · rw [q3, hs7] at hv
        have hv := Option.some.inj hv
        have := hdl ad e h0
        omega
/-- A row's cell, and the row's value. -/
theorem bk_cell (h : BkW w x Z b F g v ds W) (i : Nat) (hi : i < ds.length) : ∃ gr cap, v = .slice (some ⟨gr, 0, none⟩) ds.length cap ∧ ds.length ≤ cap ∧ W.cell? ⟨gr, i, none⟩ = some (ds.getD i nilS).v := by
  rcases h.row.2 with ⟨_, h0⟩ | ⟨gr, cap, cur, e, _, _, hc, _⟩
  · omega
  · refine ⟨gr, cap, e, hc, ?_⟩
    have := h.row.cells (g := gr) (by rw [e]; rfl) i (ds.getD i nilS).v (by rw [List.getElem?_map, List.getD_eq_getElem?_getD, List.getElem?_eq_getElem hi]; rfl)
    simpa [plain_add] using this
theorem bk_slice (h : BkW w x Z b F g v ds W) : ∃ A c, v = .slice A ds.length c := by
  rcases h.row.2 with ⟨e, h0⟩ | ⟨gb, cap, cur, e, _⟩
  · exact ⟨none, 0, by rw [e, h0]⟩
  · exact ⟨_, _, e⟩
end
theorem i_dues : (Try.prog.info? 49).map (fun i => (i.zero, i.size, i.bytes)) = some (some (.slice none 0 0), 1, 24) := by kernel_rfl
end Go.Proofs.Ytmplidgafdobkaa

namespace Go.Proofs.Ytmplidgafdobkaa
open Go.RowKit Go.Shelf

set_option maxRecDepth 100000 in
set_option maxHeartbeats 8000000 in
theorem busBlocked_walk (x : Pl) (s : Sl) (os : List OpA) (w : World) (ho : OpsAt w s os) : Calls Try.prog 7 #[.agg x.cells, s.v] w fun e w' => e = .returned (.bool true) ∧ Below w.heap.size w w' := by
  have HS := Lib.hid x.cellsL
  have HA := Lib.hid (fun W => alive_any W)
  have HG := Lib.hid (fun W (hW : Below w.heap.size w W) => great_any s os W (ho.later hW))
  have HC := Lib.hid (fun W => Check_any x W)
  have H0 := Lib.hid (And.intro ((Below.refl w.heap.size w).alloc (Nat.le_refl _) (.cells x.cells 23)) (Whole.new w 23 x.cells))
  have hlen := ho.row.len
  have hm := Nat.le_trans ho.row.cap ho.row.max
  have HP := Lib.hid (And.intro ho hlen)
  obtain ⟨A, N, c⟩ := s
  unfold Sl.v at *
  dsimp only at *
  clear ho hlen
  cases hgr : greatL os
  · rw [hgr] at HG
    by_cases hch : failsL x 11 = 0
    · have hchk : chkL x = 0 := if_pos hch
      rw [hchk] at HC
      have hgs := great_small hgr
      have HX := Lib.hid (And.intro hgr (And.intro hch (And.intro hchk hgs)))
      clear hgr hch hchk hgs
      have HN := Lib.hid (fun W => new_f (F := fun k => k < W.heap.size) x W HX.out.2.1 (fun k hk => hk))
      go_enter Try.func7, Try.ntmps7
      go_upto_region 4 with (first
        | (go_at_call 23; refine (HA.out _).mono ?_; rintro e w1 ⟨rfl, hb1⟩; have HB1 := Lib.hid (And.intro (k_then hb1 H0.out.1) (k_later hb1 H0.out.2)); clear hb1)
        | (go_at_call 8; refine (HG.out _ HB1.out.1).mono ?_; rintro e w2 ⟨rfl, hb2⟩; have HB2 := Lib.hid (And.intro (k_then hb2 HB1.out.1) (k_later hb2 HB1.out.2)); clear hb2)
        | (refine wpList_load_want rfl 23 _ rfl w.heap.size rfl 23 x.cells (0, 0) _ HB2.out.2 Try.underlying23 rfl HS.out.plan ?_)
        | (go_at_call 24; refine (HC.out _).mono ?_; rintro e w3 ⟨rfl, hb3⟩; have HB3 := Lib.hid (And.intro (k_then hb3 HB2.out.1) (k_later hb3 HB2.out.2)); clear hb3))
      go_upto_region 8 with (first
        | (refine wpList_load_row rfl 23 (.tmp 2) rfl w.heap.size rfl 23 x.cells (0, 0) _ HB3.out.2 Try.underlying23 rfl HS.out.plan ?_)
        | (go_at_call 9; refine (HN.out _).mono ?_; rintro e w4 ⟨b, rfl, hb4, hl4⟩; have H4 := Lib.hid (lw_made HB3.out hb4 hl4); clear hb4 hl4))
      clear HB3 HB2 HB1 H0 HA HC HG HS HN
      obtain ⟨Z, hZ'⟩ : ∃ Z, Z = w3.heap.size := ⟨_, rfl⟩
      rw [← hZ'] at H4
      clear hZ'
      go_wp2
      obtain ⟨XC, hXC⟩ : ∃ XC : Value, XC = .agg x.cells := ⟨_, rfl⟩
      rw [← hXC]
      clear hXC
      obtain ⟨i0, hi, hz0, hz1, hz2⟩ := info_parts i_dues
      have HI0 := Lib.hid (And.intro hi (And.intro hz0 (And.intro hz1 hz2)))
      clear hi hz0 hz1 hz2
      go_loopw [8, 43] (fun rv iv wr => ∃ (k : Nat) (g : Lg) (F : Nat → Prop) (ds : List Sl), (k ≤ N ∧ ds.length = g.L.length ∧ g.L.length ≤ k ∧ g.p = x) ∧ iv = .int .i64 (k : Int) ∧ BkW w x Z b F g rv ds wr) (fun _ iv _ => N - (intOf iv).toNat)
      case atStart => exact ⟨0, ⟨x, [], 0, 0⟩, _, [], ⟨Nat.zero_le _, rfl, Nat.zero_le _, rfl⟩, rfl, bk_start H4.out⟩
      case round =>
        obtain ⟨k, g, F, ds, ⟨hk, hn, hgl, hgp⟩, rfl, hW⟩ := hrel
        have HW := Lib.hid hW
        have HI := Lib.hid (And.intro hn (And.intro hgl hgp))
        obtain ⟨rA, rc, hrv⟩ := bk_slice hW
        by_cases hlt : k < N
        · obtain ⟨g0, o0, hA0, hA2⟩ := (HP.out.1.later hW.lw.bl).row.get (i := k) hlt
          dsimp only at hA0
          subst hA0
          obtain ⟨o, hx⟩ : ∃ o, o = os.getD k default := ⟨_, rfl⟩
          rw [← hx] at hA2
          obtain ⟨a0, a1, a2, a3⟩ := opC_cells hA2
          unfold Sl.v at a2 a3
          have e3 : (0 : Int) ≤ (k : Int) := by omega
          have e4 : (k : Int) < (N : Int) := by omega
          have hsm := HX.out.2.2.2.2 k (by rw [HP.out.2]; exact hlt)
          have HSD := Lib.hid (fun W (hW : LwW w x Z b F g W) => (show Calls Try.prog 11 #[.pointer (some ⟨b, 0, none⟩), .int .i64 o.f, .int .i64 o.t, .slice o.rw.A o.rw.n o.rw.c, .slice o.fw.A o.fw.n o.fw.c] W fun e w' => e = .returned (sendV g o.f o.t o.fa) ∧ LwW w x Z b F (sendG g o.f o.t o.raw o.fa) w' ∧ KeptF F W w' from by rw [hx]; exact lw_send hW (by have := HX.out.2.2.2.1; have := HP.out.2; omega) ((HP.out.1.later hW.bl).nth k hlt) (by omega) (by omega)))
          have KO := Lib.hid (fun W (hW : Below w.heap.size w W) => (show (fun W : World => W.cell? ⟨g0, o0 + k * 4, none⟩ = some (.int .i64 o.f) ∧ W.cell? ⟨g0, o0 + k * 4 + 1, none⟩ = some (.int .i64 o.t) ∧ W.cell? ⟨g0, o0 + k * 4 + 2, none⟩ = some (.slice o.rw.A o.rw.n o.rw.c) ∧ W.cell? ⟨g0, o0 + k * 4 + 3, none⟩ = some (.slice o.fw.A o.fw.n o.fw.c)) W from by
            obtain ⟨g1, o1, hA1, hA3⟩ := (HP.out.1.later hW).row.get (i := k) hlt
            dsimp only at hA1
            cases hA1
            rw [← hx] at hA3
            have q := opC_cells hA3
            unfold Sl.v at q
            exact q))
          have K0 := Lib.hid (KO.out wr hW.lw.bl)
          have hgok := hW.lw.bus.ok
          have HOK := Lib.hid hgok
          have HO := Lib.hid hx
          have HRV := Lib.hid hrv
          clear hx hsm hA2 hW hn hgl hgp hgok hrv
          obtain ⟨si, sp, se, hsv, hsc⟩ := sendV_parts g o.f o.t o.fa
          rw [hsv] at HSD
          have HSC := Lib.hid hsc
          clear hsv hsc
          go_upto_region 11 with fail
          go_region_held3 (fun W : World => W.cell? ⟨g0, o0 + k * 4, none⟩ = some (.int .i64 o.f) ∧ W.cell? ⟨g0, o0 + k * 4 + 1, none⟩ = some (.int .i64 o.t) ∧ W.cell? ⟨g0, o0 + k * 4 + 2, none⟩ = some (.slice o.rw.A o.rw.n o.rw.c) ∧ W.cell? ⟨g0, o0 + k * 4 + 3, none⟩ = some (.slice o.fw.A o.fw.n o.fw.c)) (first | with_reducible exact K6.out | with_reducible exact K0.out | exact K0.out) (first
            | (go_at_call 11; refine (HSD.out _ HW.out.lw.drew).mono ?_; rintro e w6 ⟨rfl, h6, h6k⟩; have K6 := Lib.hid (KO.out _ h6.bl); have H6 := Lib.hid (And.intro h6 h6k); clear h6 h6k))
          clear HSD K0
          cases hok : okB g o.f o.t o.fa
          · obtain ⟨rfl, rfl, rfl⟩ := HSC.out.1 hok
            have hsg : sendG g o.f o.t o.raw o.fa = g := by unfold sendG; rw [hok, if_neg (by decide)]
            rw [hsg] at H6
            clear hok hsg
            go_wp2
            go_roundw
            case rel => exact ⟨k + 1, g, F, ds, ⟨by omega, HI.out.1, by have := HI.out.2.1; omega, HI.out.2.2⟩, by go_num, bk_bad (HW.out.later ((Below.refl _ _).drew)) H6.out.1 H6.out.2⟩
            case measure => simp [intOf]; omega
          · obtain ⟨rfl, hsp, rfl⟩ := HSC.out.2 hok
            have HB6 := Lib.hid (bk_send (HW.out.later ((Below.refl _ _).drew)) HI.out.1 hok H6.out.1 H6.out.2)
            have HSP := Lib.hid (And.intro hok hsp)
            have HDU := Lib.hid (fun W (hW : BkW w x Z b F (sendG g o.f o.t o.raw o.fa) u8 ds W) => due_s hW.lw.bus (g.L.length : Int))
            clear hok hsp HSC
            obtain ⟨hi, hz0, hz1, hz2⟩ := HI0.out
            have hdn : ds.length ≤ 1000000 := by have := HI.out; have := HX.out.2.2.2.1; have := HP.out.2; omega
            have HDN := Lib.hid hdn
            clear hdn
            go_upto_region 14 with (first
              | (go_at_call 17; refine (HDU.out _ HB6.out).mono ?_; rintro e w7 ⟨dA, dn, dc, rfl, h7, a7, hb7⟩; have H7 := Lib.hid (And.intro h7 (And.intro a7 hb7)); clear h7 a7 hb7)
              | (at_builtin; refine wpList_append_own_at _ rfl (.tmp 74) (.tmp 78) 69 rfl Z 49 i0 (.slice none 0 0) 1 24 Try.underlying69 hi hz0 hz1 hz2 rfl (by omega) u8 ds.length (ds.map Sl.v) rfl ((HB6.out.later (H7.out.2.2.alloc H7.out.2.2.size _)).row) ⟨w7.heap.size, 0, none⟩ 1 1 [.slice dA dn dc] rfl rfl (cell_one_new _ _ _) (fun u hu => by simp at hu; rw [hu]; rfl) (by have := HDN.out; simp only [maxLen]; omega) (by have := HDN.out; omega) (by have := HB6.out.lw.z.2; have := H7.out.2.2.size; simp; omega) ?_; intro v8 w8 q1 q2 q3 q4; have H8 := Lib.hid (And.intro q1 (And.intro q2 q4)); clear q1 q2 q3 q4))
            have hb8 : ∃ F', BkW w x Z b F' (sendG g o.f o.t o.raw o.fa) v8 (ds ++ [⟨dA, dn, dc⟩]) w8 :=
              bk_add (d := ⟨dA, dn, dc⟩) HB6.out (by have := H7.out.1; rwa [← HI.out.1] at this) H7.out.2.1 H7.out.2.2 H8.out.1 H8.out.2.1 H8.out.2.2
            obtain ⟨F8, hb8⟩ := hb8
            obtain ⟨g', hg'⟩ : ∃ g', g' = sendG g o.f o.t o.raw o.fa := ⟨_, rfl⟩
            obtain ⟨ds', hds'⟩ : ∃ ds', ds' = ds ++ [⟨dA, dn, dc⟩] := ⟨_, rfl⟩
            rw [← hg', ← hds'] at hb8
            have hl8 : ds'.length = g'.L.length := by rw [hds', hg', sendG_L HSP.out.1, List.length_append, List.length_append, HI.out.1]; rfl
            have hl9 : ds'.length ≤ k + 1 := by rw [hds', List.length_append]; have := HI.out; simp; omega
            have hl10 : 0 < ds'.length := by rw [hds']; simp
            obtain ⟨gr, cap, rfl, hcap, _⟩ := bk_cell hb8 0 hl10
            have HB8 := Lib.hid hb8
            have HL := Lib.hid (And.intro hl8 (And.intro hl9 (And.intro hl10 (And.intro hg' hds'))))
            have hdm : ds'.length ≤ 9223372036854775807 := by have := HX.out.2.2.2.1; have := HP.out.2; omega
            clear hb8 hg' hds' hl8 hl9 hl10 H8 H7 HB6 HDU HDN HI0 hi hz0 hz1 hz2 H6 K6 HW HRV hcap
            have HDU := Lib.hid (fun W (hW : Below w8.heap.size w8 W) (q : Nat) => (show Calls Try.prog 17 #[.pointer (some ⟨b, 0, none⟩), .int .i64 (q : Int)] W (FreshS W (dueG g' (q : Int))) from due_s (HB8.out.later hW).lw.bus (q : Int)))
            have HTK := Lib.hid (fun W (hW : Below w8.heap.size w8 W) (q : Nat) (d : Du) => (show Calls Try.prog 19 #[.pointer (some ⟨b, 0, none⟩), .int .i64 (q : Int), .int .i64 d.r, .int .i64 d.c] W fun e w' => ∃ (hf hc ht : Int) (A : Option Addr) (m c : Nat), e = .returned (.tuple #[.agg #[.int .i64 hf, .int .i64 hc, .int .i64 ht, .slice A m c], .bool (isG g' (q : Int) d.r d.c)]) ∧ Below W.heap.size W w' from
              (take_f (HB8.out.later hW).lw.bus (by have := HL.out; have := HX.out.2.2.2.1; have := HP.out.2; omega) (q : Int) d.r d.c).mono fun e w' ⟨A, m, c, h1, _, _, h4⟩ => ⟨_, _, _, A, m, c, h1, h4⟩))
            go_wp2
            go_loopw [82] (fun kv wr => ∃ (q : Nat), q ≤ ds'.length ∧ kv = .int .i64 (q : Int) ∧ Below w8.heap.size w8 wr) (fun kv _ => ds'.length - (intOf kv).toNat)
            case atStart => exact ⟨0, Nat.zero_le _, rfl, Below.refl _ _⟩
            case round =>
              obtain ⟨q, hq, rfl, hb9⟩ := hrel
              have HB9 := Lib.hid hb9
              by_cases hqt : q < ds'.length
              · obtain ⟨gr2, cap2, hv2, _, hc2⟩ := bk_cell (HB8.out.later hb9) q hqt
                cases hv2
                obtain ⟨hr2, _⟩ := HB8.out.at_ q hqt
                obtain ⟨dq, hdq⟩ : ∃ dq, dq = ds'.getD q nilS := ⟨_, rfl⟩
                rw [← hdq] at hc2 hr2
                obtain ⟨qA, qn, qc⟩ := dq
                have HR2 := Lib.hid hr2
                have KC := Lib.hid (fun W (hW : Below w8.heap.size w8 W) => (show (fun W : World => W.cell? ⟨gr, q, none⟩ = some (.slice qA qn qc)) W from by
                  obtain ⟨gr3, cap3, hv3, _, hc3⟩ := bk_cell (HB8.out.later hW) q hqt
                  cases hv3
                  rw [← hdq] at hc3
                  exact hc3))
                have KC0 := Lib.hid (KC.out wr hb9)
                have HDQ := Lib.hid hdq
                have HDS := Lib.hid (fun W (hW : Below w8.heap.size w8 W) (A : Option Addr) (n c : Nat) (h : RSrc duC 3 W ⟨A, n, c⟩ (dueG g' (q : Int))) => (show Calls Try.prog 16 #[.slice A n c, .slice qA qn qc] W fun e w' => e = .returned (.bool true) ∧ Below W.heap.size W w' from by
                  have := dues_any W ⟨A, n, c⟩ ⟨qA, qn, qc⟩ _ _ h (HR2.out.later hW)
                  rwa [decide_eq_true (rfl : dueG g' (q : Int) = dueG g' (q : Int))] at this))
                have f1 : (0 : Int) ≤ (q : Int) := by omega
                have f2 : (q : Int) < (ds'.length : Int) := by omega
                have f3 : ((q : Int)).toNat = q := by omega
                clear hr2 hdq hb9 hc2
                go_upto_region 17 with fail
                go_region_held3 (fun W : World => W.cell? ⟨gr, q, none⟩ = some (.slice qA qn qc)) (first | with_reducible exact KC0.out | with_reducible exact KCA.out | with_reducible exact KCB.out | exact KC0.out) (first
                  | (go_at_call 17; refine (HDU.out wr.drew (HB9.out.drew) q).mono ?_; rintro e wA ⟨eA, en, ec, rfl, hA, _, hbA⟩; have HBA := Lib.hid (k_then (below_undrew hbA) HB9.out); have HRA := Lib.hid hA; have KCA := Lib.hid (KC.out wA HBA.out); clear hA hbA)
                  | (go_at_call 16; refine (HDS.out wA HBA.out _ _ _ HRA.out).mono ?_; rintro e wB ⟨rfl, hbB⟩; have HBB := Lib.hid (k_then hbB HBA.out); have KCB := Lib.hid (KC.out wB HBB.out); clear hbB))
                clear HDS HDU KC0 KCA HBA HRA
                have hcB := KCB.out
                have hlq := (HR2.out.later HBB.out).len
                have hmq := Nat.le_trans HR2.out.cap HR2.out.max
                dsimp only at hlq hmq
                have HLQ := Lib.hid hlq
                clear hlq
                go_wp2
                clear hcB f1 f2 f3
                go_loopw [99] (fun jv wr => ∃ (j : Nat), j ≤ qn ∧ jv = .int .i64 (j : Int) ∧ Below w8.heap.size w8 wr) (fun jv _ => qn - (intOf jv).toNat)
                case atStart => exact ⟨0, Nat.zero_le _, rfl, HBB.out⟩
                case round =>
                  obtain ⟨j, hj, rfl, hbj⟩ := hrel
                  have HBJ := Lib.hid hbj
                  by_cases hjt : j < qn
                  · obtain ⟨g1, o1, hA0, hA2⟩ := (HR2.out.later hbj).get (i := j) hjt
                    dsimp only at hA0
                    subst hA0
                    obtain ⟨d, hd⟩ : ∃ d, d = (dueG g' (q : Int)).getD j default := ⟨_, rfl⟩
                    rw [← hd] at hA2
                    obtain ⟨b0, b1, b2⟩ := duC_cells hA2
                    have hjL : j < (dueG g' (q : Int)).length := by have := HLQ.out; omega
                    have hdm : d ∈ dueG g' (q : Int) := by rw [hd, List.getD_eq_getElem?_getD, List.getElem?_eq_getElem hjL]; exact List.getElem_mem hjL
                    have HDM := Lib.hid hdm
                    have e5 : (0 : Int) ≤ (j : Int) := by omega
                    have e6 : (j : Int) < (qn : Int) := by omega
                    clear hbj hA2 hd hdm
                    go_upto_region 22 with fail
                    obtain ⟨w9, hw9⟩ : ∃ w9, w9 = wr.alloc (.cells #[.int .i64 d.r, .int .i64 d.c, .int .i64 d.t] 65) := ⟨_, rfl⟩
                    rw [← hw9]
                    have hd9 : Whole w9 wr.heap.size 65 #[.int .i64 d.r, .int .i64 d.c, .int .i64 d.t] := by rw [hw9]; exact Whole.new _ _ _
                    have hb9 : Below w8.heap.size w8 w9 := by rw [hw9]; exact HBJ.out.alloc HBJ.out.size _
                    have HB9b := Lib.hid (And.intro hb9 hd9)
                    have q0 := hd9.cell 0
                    have q1 := hd9.cell 1
                    simp at q0 q1
                    obtain ⟨DB, hDB⟩ : ∃ DB, DB = wr.heap.size := ⟨_, rfl⟩
                    rw [← hDB] at HB9b q0 q1 ⊢
                    clear hw9 hb9 hd9 hDB b0 b1 b2 e5 e6
                    go_upto_region 23 with (go_at_call 19; refine (HTK.out w9 HB9b.out.1 q d).mono ?_; rintro e w10 ⟨hf, hc, hT, tA, tm, tc, rfl, hb10⟩; have H10 := Lib.hid (And.intro (k_then hb10 HB9b.out.1) (k_later hb10 HB9b.out.2)); clear hb10)
                    clear q0 q1
                    obtain ⟨isv, hisv⟩ : ∃ isv, isv = isG g' (q : Int) d.r d.c := ⟨_, rfl⟩
                    rw [← hisv]
                    have HIS := Lib.hid hisv
                    obtain ⟨w11, hw11⟩ : ∃ w11, w11 = w10.alloc (.cells #[.int .i64 hf, .int .i64 hc, .int .i64 hT, .slice tA tm tc] 52) := ⟨_, rfl⟩
                    rw [← hw11]
                    have hb11 : Below w10.heap.size w10 w11 := by rw [hw11]; exact (Below.refl _ _).alloc (Nat.le_refl _) _
                    have H11 := Lib.hid (And.intro (k_then hb11 H10.out.1) (k_later hb11 H10.out.2))
                    clear hisv hw11 hb11 H10
                    cases isv
                    · go_quiet (fail)
                      go_wp2
                      go_roundw
                      case rel => exact ⟨j + 1, by omega, by go_num, below_drewN H11.out.1 _⟩
                      case measure => simp [intOf]; omega
                    · have q0 := H11.out.2.cell 0
                      have q2 := H11.out.2.cell 2
                      simp at q0 q2
                      obtain ⟨_, pc5, _, _, _⟩ := plan_cells (HB8.out.later H11.out.1).lw.plan
                      obtain ⟨k0, k1, _, _⟩ := KO.out _ (HB8.out.later H11.out.1).lw.bl
                      by_cases hr : d.r = o.f
                      · have hr1 : (d.r == o.f) = true := by simpa using hr
                        have hr2 : decide (d.r = o.f) = true := decide_eq_true hr
                        have P := planU_of HX.out.2.1
                        have pa1 := P.a1
                        have pa2 := P.a2
                        have ot := (okB_iff.1 HSP.out.1).1.2
                        have gl := HOK.out.last
                        have hgl : g'.p = x := by rw [HL.out.2.2.2.1, sendG_p]; exact HI.out.2.2
                        by_cases ht : o.t < d.t
                        · have ht1 : decide (o.t < d.t) = true := decide_eq_true ht
                          have ht2 : d.t ≤ 5000000000 := by
                            have hg8 := (HB8.out).lw.bus.ok
                            have hm := HDM.out
                            rw [dueG_eq (by have := HL.out.1; omega)] at hm
                            obtain ⟨_, e2, _⟩ := dueS_mem hm
                            have hsm : g'.L.getD q default ∈ g'.L := by rw [List.getD_eq_getElem?_getD, List.getElem?_eq_getElem (by have := HL.out.1; omega)]; exact List.getElem_mem _
                            have := faS_in hg8 hsm d.r d.c
                            have := (hg8.up _ hsm).2
                            have := hg8.last.2
                            rw [hgl] at e2
                            omega
                          have z1 : IntKind.i64.wrap (d.t - x.air) = d.t - x.air := IntWalk.i64_in _ (by omega)
                          have z2 : IntKind.i64.wrap (o.t + x.air) = o.t + x.air := IntWalk.i64_in _ (by omega)
                          have hx1 : decide (d.t - x.air < o.t + x.air) = false := by
                            rcases Int.lt_or_le (d.t - x.air) (o.t + x.air) with h | h
                            · have hi := HIS.out
                              rw [HL.out.2.2.2.1] at hi
                              rw [deaf_case HSP.out.1 (by rw [← HL.out.2.2.2.1]; have := HL.out.1; omega) (by rw [← HL.out.2.2.2.1]; exact HDM.out) hr ht (by rw [HI.out.2.2]; exact h)] at hi
                              cases hi
                            · exact decide_eq_false (by omega)
                          clear P pa1 pa2 ot gl ht2 hr ht hgl
                          go_quiet (fail)
                          go_wp2
                          go_roundw
                          case rel => exact ⟨j + 1, by omega, by go_num, below_drewN H11.out.1 _⟩
                          case measure => simp [intOf]; omega
                        · have ht1 : decide (o.t < d.t) = false := decide_eq_false ht
                          clear P pa1 pa2 ot gl hr ht pc5 hgl
                          go_quiet (fail)
                          go_wp2
                          go_roundw
                          case rel => exact ⟨j + 1, by omega, by go_num, below_drewN H11.out.1 _⟩
                          case measure => simp [intOf]; omega
                      · have hr1 : (d.r == o.f) = false := by simpa using hr
                        have hr2 : decide (d.r = o.f) = false := decide_eq_false hr
                        clear hr pc5 k1 q2
                        go_quiet (fail)
                        go_wp2
                        go_roundw
                        case rel => exact ⟨j + 1, by omega, by go_num, below_drewN H11.out.1 _⟩
                        case measure => simp [intOf]; omega
                  · obtain rfl : j = qn := by omega
                    clear hbj hjt
                    go_wp2
                    go_roundw
                    case rel => exact ⟨q + 1, by omega, by go_num, HBJ.out⟩
                    case measure => simp [intOf]; omega
              · obtain rfl : q = ds'.length := by omega
                clear hb9 hqt
                have P := planU_of HX.out.2.1
                have pn1 := P.n1
                have pn2 := P.n2
                have HPN := Lib.hid (And.intro pn1 pn2)
                have HTN := Lib.hid (fun (hsp : sp = false) W (hW : Below w8.heap.size w8 W) (n c : Int) => (show Calls Try.prog 19 #[.pointer (some ⟨b, 0, none⟩), .int .i64 (g.L.length : Int), .int .i64 n, .int .i64 c] W fun e w' => ∃ (hf hc ht : Int) (A : Option Addr) (m c : Nat), e = .returned (.tuple #[.agg #[.int .i64 hf, .int .i64 hc, .int .i64 ht, .slice A m c], .bool false]) ∧ Below W.heap.size W w' from
                  (take_f (HB8.out.later hW).lw.bus (by have := HL.out; have := HX.out.2.2.2.1; have := HP.out.2; omega) (g.L.length : Int) n c).mono fun e w' ⟨A, m, c', h1, _, _, h4⟩ => ⟨_, _, _, A, m, c', by rw [HL.out.2.2.2.1, blocked_case HSP.out.1 (by rw [← HSP.out.2]; exact hsp) n c] at h1; exact h1, h4⟩))
                clear P pn1 pn2 HTK
                go_wp2
                go_loopw [18] (fun nv wr => ∃ (n : Nat), (n : Int) ≤ 2 * x.nodes ∧ nv = .int .i64 (n : Int) ∧ Below w8.heap.size w8 wr) (fun nv _ => (2 * x.nodes).toNat - (intOf nv).toNat)
                case atStart => exact ⟨0, by have := HPN.out; omega, rfl, HB9.out⟩
                case round =>
                  obtain ⟨n, hn, rfl, hbn⟩ := hrel
                  have HBN := Lib.hid hbn
                  obtain ⟨_, _, _, _, pc0⟩ := plan_cells (HB8.out.later hbn).lw.plan
                  have hpn := HPN.out
                  have z1 : IntKind.i64.wrap (2 * x.nodes) = 2 * x.nodes := IntWalk.i64_in _ (by omega)
                  have HR := Lib.hid (show ∃ F8, BkW w x Z b F8 g' (.slice (some ⟨gr, 0, none⟩) ds'.length cap) ds' wr from ⟨_, HB8.out.later hbn⟩)
                  by_cases hnt : (n : Int) < 2 * x.nodes
                  · cases hsp : sp
                    · have HTQ := Lib.hid (HTN.out hsp)
                      have hnz : ¬ x.nodes = 0 := by omega
                      have zn : IntKind.i64.wrap ((n : Int) + 1) = (n : Int) + 1 := IntWalk.i64_in _ (by omega)
                      have KP := Lib.hid (fun W (hW : Below w8.heap.size w8 W) => (show (fun W : World => W.cell? ⟨w.heap.size, 0, none⟩ = some (.int .i64 x.nodes)) W from (plan_cells (HB8.out.later hW).lw.plan).2.2.2.2))
                      have HD0 := Lib.hid (HBN.out.drew)
                      have HD1 := Lib.hid (show Below w8.heap.size w8 (World.drew _) from (HBN.out.alloc HBN.out.size (.cells #[.int .i64 0, .int .i64 0, .int .i64 0, .slice none 0 0] 52)).drew)
                      have KP0 := Lib.hid (KP.out _ HD0.out)
                      have KP1 := Lib.hid (KP.out _ HD1.out)
                      have HBX := Lib.hid ((Whole.new wr 52 #[.int .i64 0, .int .i64 0, .int .i64 0, .slice none 0 0]).drew)
                      have KSB := Lib.hid (fun (W : World) (h : Below w8.heap.size w8 W) (u0 u1 u2 u3 : Value) => (show Below w8.heap.size w8 ((((W.setCell ⟨wr.heap.size, 0, none⟩ u0).setCell ⟨wr.heap.size, 1, none⟩ u1).setCell ⟨wr.heap.size, 2, none⟩ u2).setCell ⟨wr.heap.size, 3, none⟩ u3) from by
                        have q : Kept (fun i => i = wr.heap.size) W ((((W.setCell ⟨wr.heap.size, 0, none⟩ u0).setCell ⟨wr.heap.size, 1, none⟩ u1).setCell ⟨wr.heap.size, 2, none⟩ u2).setCell ⟨wr.heap.size, 3, none⟩ u3) := Kept.setCell (S := fun i => i = wr.heap.size) (Kept.setCell (S := fun i => i = wr.heap.size) (Kept.setCell (S := fun i => i = wr.heap.size) (Kept.setCell (S := fun i => i = wr.heap.size) (Kept.refl _ W) (p := ⟨wr.heap.size, 0, none⟩) (.inl rfl) _) (p := ⟨wr.heap.size, 1, none⟩) (.inl rfl) _) (p := ⟨wr.heap.size, 2, none⟩) (.inl rfl) _) (p := ⟨wr.heap.size, 3, none⟩) (.inl rfl) _
                        exact below_on h q (fun i e => by have e : i = wr.heap.size := e; have := HBN.out.size; omega) h.size))
                      have KS := Lib.hid (fun (W : World) (h : (fun W : World => W.cell? ⟨w.heap.size, 0, none⟩ = some (.int .i64 x.nodes)) W) (u0 u1 u2 u3 : Value) => (show (fun W : World => W.cell? ⟨w.heap.size, 0, none⟩ = some (.int .i64 x.nodes)) ((((W.setCell ⟨wr.heap.size, 0, none⟩ u0).setCell ⟨wr.heap.size, 1, none⟩ u1).setCell ⟨wr.heap.size, 2, none⟩ u2).setCell ⟨wr.heap.size, 3, none⟩ u3) from by
                        have q : Kept (fun i => i = wr.heap.size) W ((((W.setCell ⟨wr.heap.size, 0, none⟩ u0).setCell ⟨wr.heap.size, 1, none⟩ u1).setCell ⟨wr.heap.size, 2, none⟩ u2).setCell ⟨wr.heap.size, 3, none⟩ u3) := Kept.setCell (S := fun i => i = wr.heap.size) (Kept.setCell (S := fun i => i = wr.heap.size) (Kept.setCell (S := fun i => i = wr.heap.size) (Kept.setCell (S := fun i => i = wr.heap.size) (Kept.refl _ W) (p := ⟨wr.heap.size, 0, none⟩) (.inl rfl) _) (p := ⟨wr.heap.size, 1, none⟩) (.inl rfl) _) (p := ⟨wr.heap.size, 2, none⟩) (.inl rfl) _) (p := ⟨wr.heap.size, 3, none⟩) (.inl rfl) _
                        exact q.cell h (by have := HBN.out.size; have := (HB8.out).lw.z; show ¬ w.heap.size = wr.heap.size; omega)))
                      clear hbn hpn
                      subst hsp
                      go_upto_region 30 with fail
                      clear pc0
                      go_region_held3 (fun W : World => W.cell? ⟨w.heap.size, 0, none⟩ = some (.int .i64 x.nodes)) (first | with_reducible exact KP0.out | with_reducible exact KP1.out | with_reducible exact KP2.out | with_reducible exact KP3.out _ | with_reducible exact KP4.out _ _ _ _ | exact KP0.out) (first
                        | (go_at_call 19; ((with_reducible refine (HTQ.out wr.drew HD0.out _ _).mono ?_); rintro e wA ⟨hf, hc, ht, tA, tm, tc, rfl, hbA⟩; have HBA := Lib.hid (k_then hbA HD0.out); have KP2 := Lib.hid (KP.out _ HBA.out); have KP3 := Lib.hid (fun o => KP.out _ (HBA.out.alloc HBA.out.size o)); clear hbA))
                        | (go_at_call 19; ((with_reducible refine (HTQ.out _ HD1.out _ _).mono ?_); rintro e wA ⟨hf, hc, ht, tA, tm, tc, rfl, hbA⟩; have HBA := Lib.hid (k_then hbA HD1.out); have KP2 := Lib.hid (KP.out _ HBA.out); have hbx := k_later hbA HBX.out; have n0 := hbx.cell 0; have n1 := hbx.cell 1; have n2 := hbx.cell 2; have n3 := hbx.cell 3; have nf := hbx.frozen; simp at n0 n1 n2 n3; have KP4 := Lib.hid (KS.out wA KP2.out); clear hbA hbx)))
                      all_goals
                        clear KS KP KP0 KP1 HTQ
                        go_wp2
                        go_roundw
                        case rel =>
                          refine ⟨n + 1, by omega, by go_num, ?_⟩
                          first
                            | exact HBA.out.alloc HBA.out.size _
                            | exact (HBA.out.alloc HBA.out.size _).drew
                            | exact KSB.out _ HBA.out _ _ _ _
                        case measure => simp [intOf]; omega
                    · obtain ⟨F9, h9⟩ := HR.out
                      have H9 := Lib.hid h9
                      clear hbn hpn h9
                      go_wp2
                      go_roundw
                      case rel => exact ⟨k + 1, g', F9, ds', ⟨by omega, HL.out.1, by have := HL.out; omega, by rw [HL.out.2.2.2.1, sendG_p]; exact HI.out.2.2⟩, by go_num, H9.out⟩
                      case measure => simp [intOf]; omega
                  · obtain ⟨F9, h9⟩ := HR.out
                    have H9 := Lib.hid h9
                    clear hbn hpn h9
                    go_wp2
                    go_roundw
                    case rel => exact ⟨k + 1, g', F9, ds', ⟨by omega, HL.out.1, by have := HL.out; omega, by rw [HL.out.2.2.2.1, sendG_p]; exact HI.out.2.2⟩, by go_num, H9.out⟩
                    case measure => simp [intOf]; omega
        · have HN := Lib.hid (show Calls Try.prog 13 #[.pointer (some ⟨b, 0, none⟩)] wr fun e w' => e = .returned (.int .i64 (ds.length : Int)) ∧ w' = wr from by rw [hn]; exact len_f hW.lw.bus)
          subst hrv
          clear hW hn hgl hgp
          go_wp2_with (go_at_call 13; refine HN.out.mono ?_; rintro e wq ⟨rfl, hq⟩; obtain rfl := hq.symm)
          go_ret
          exact ⟨rfl, HW.out.lw.bl⟩
    · have hchk : chkL x = 70 := if_neg hch
      rw [hchk] at HC
      clear hgr hch hchk
      go_enter Try.func7, Try.ntmps7
      go_wp2_with (first
        | (go_at_call 23; refine (HA.out _).mono ?_; rintro e w1 ⟨rfl, hb1⟩; have HB1 := Lib.hid (And.intro (k_then hb1 H0.out.1) (k_later hb1 H0.out.2)); clear hb1)
        | (go_at_call 8; refine (HG.out _ HB1.out.1).mono ?_; rintro e w2 ⟨rfl, hb2⟩; have HB2 := Lib.hid (And.intro (k_then hb2 HB1.out.1) (k_later hb2 HB1.out.2)); clear hb2)
        | (refine wpList_load_want rfl 23 _ rfl w.heap.size rfl 23 x.cells (0, 0) _ HB2.out.2 Try.underlying23 rfl HS.out.plan ?_)
        | (go_at_call 24; refine (HC.out _).mono ?_; rintro e w3 ⟨rfl, hb3⟩; have HB3 := Lib.hid (k_then hb3 HB2.out.1); clear hb3))
      go_ret
      exact ⟨rfl, HB3.out⟩
  · rw [hgr] at HG
    clear hgr
    go_enter Try.func7, Try.ntmps7
    go_wp2_with (first
      | (go_at_call 23; refine (HA.out _).mono ?_; rintro e w1 ⟨rfl, hb1⟩; have HB1 := Lib.hid (k_then hb1 H0.out.1); clear hb1)
      | (go_at_call 8; refine (HG.out _ HB1.out).mono ?_; rintro e w2 ⟨rfl, hb2⟩; have HB2 := Lib.hid (k_then hb2 HB1.out); clear hb2))
    go_ret
    exact ⟨rfl, HB2.out⟩
end Go.Proofs.Ytmplidgafdobkaa
