/- BusApart: what is so of memory in each round. No condition. | A law's memory while sendings are made: the plan's box, the bus, a row that grows. No condition. | BusHears and BusBlocked: what the bus keeps of what was sent, and what is heard of it. Plain; no condition. | BusHears: what is so of memory while what was sent is looked at, and the numbers that are held against each other. No condition. | BusHears, its walk. No condition. -/
import Derived.Test.YtmplidgafdobkaaUApM
import Derived.Test.YtmplidgafdobkaaUAlive
import Derived.Test.YtmplidgafdobkaaUGreat
import Derived.Test.YtmplidgafdobkaaUSame
import Derived.StillTailTactics
import Derived.Deep.RegionHeld3
import Derived.IntWalk
namespace Go.Proofs.Ytmplidgafdobkaa
open Go.RowKit Go.Shelf

/-- The blocks that a bus of a law does not touch: all ahead of New, and the block m. -/
def FoB (Z m : Nat) : Nat → Prop := fun k => k < Z ∨ k = m
/-- Memory in a law: the plan's box, the bus, a map. -/
structure ApW (w : World) (x : Pl) (Z b m : Nat) (g : Lg) (f : Int → Int → Option Int) (n : Nat) (W : World) : Prop where
  z : w.heap.size < Z ∧ Z ≤ m
  bl : Below w.heap.size w W
  plan : Whole W w.heap.size 23 x.cells
  bus : BusF (FoB Z m) b g W
  bnd : Bnd (FoB Z m) W
  map : MapU W m n f
section
variable {w W W' : World} {x : Pl} {Z b m n : Nat} {g g' : Lg} {f : Int → Int → Option Int}
theorem ApW.later (h : ApW w x Z b m g f n W) (hb : Below W.heap.size W W') : ApW w x Z b m g f n W' :=
  ⟨h.z, k_then hb h.bl, k_later hb h.plan, h.bus.later hb, h.bnd.more hb.size, h.map.later hb⟩
theorem ApW.drewN (h : ApW w x Z b m g f n W) (k : Nat) : ApW w x Z b m g f n (W.drewN k) := h.later (below_drewN (Below.refl _ _) k)
theorem ApW.drew (h : ApW w x Z b m g f n W) : ApW w x Z b m g f n W.drew := h.later ((Below.refl _ _).drew)
theorem ApW.send (h : ApW w x Z b m g f n W) (hb : BusF (FoB Z m) b g' W') (hk : KeptF (FoB Z m) W W') : ApW w x Z b m g' f n W' := by
  have z := h.z
  exact ⟨h.z, below_on h.bl hk (fun i hi => by
      rcases Nat.lt_or_ge i Z with q | q
      · exact absurd (.inl q) hi
      · omega) h.bl.size, h.plan.kept hk (fun q => q (.inl z.1)), hb, h.bnd.more hk.size, h.map.kept hk (fun q => q (.inr rfl))⟩
theorem ApW.put {n' : Nat} {f' : Int → Int → Option Int} (h : ApW w x Z b m g f n W) (hm : MapU W' m n' f') (hk : Kept (fun i => i = m) W W') : ApW w x Z b m g f' n' W' := by
  have z := h.z
  exact ⟨h.z, below_on h.bl hk (fun i hi => by have hi : i = m := hi; omega) h.bl.size, h.plan.kept hk (fun q => by have q : w.heap.size = m := q; omega), h.bus.kept hk (fun k hk => .inr hk), h.bnd.more hk.size, hm⟩
/-- New, and a map behind it. -/
theorem ap_made {W3 W4 : World} (h3 : Below w.heap.size w W3 ∧ Whole W3 w.heap.size 23 x.cells) (hb : BusF (fun k => k < W3.heap.size) b g W4) (h4 : Below W3.heap.size W3 W4) : ApW w x W3.heap.size b W4.heap.size g (fun _ _ => none) 0 (W4.alloc (.map #[] 0)) := by
  have hal : Below W4.heap.size W4 (W4.alloc (.map #[] 0)) := (Below.refl _ _).alloc (Nat.le_refl _) _
  have hz := h4.size
  have hz2 : (W4.alloc (.map #[] 0)).heap.size = W4.heap.size + 1 := by simp
  refine ⟨⟨h3.2.lt, hz⟩, k_then hal (k_then h4 h3.1), k_later hal (k_later h4 h3.2), (hb.new hal).less (fun k hk => hk.imp id (fun e => ?_)), fun k hk => ?_, MapU.made _⟩
  · subst e; exact ⟨Nat.le_refl _, by omega⟩
  · rw [hz2]
    rcases hk with q | q
    · omega
    · omega
/-- The cells of the plan's box that laws read. -/
theorem plan_cells {W : World} {B : Nat} {x : Pl} (h : Whole W B 23 x.cells) : W.cell? ⟨B, 2, none⟩ = some (.int .i64 x.slot) ∧ W.cell? ⟨B, 5, none⟩ = some (.int .i64 x.air) ∧ W.cell? ⟨B, 6, none⟩ = some (.int .i64 x.dmin) ∧ W.cell? ⟨B, 7, none⟩ = some (.int .i64 x.dmax) ∧ W.cell? ⟨B, 0, none⟩ = some (.int .i64 x.nodes) :=
  ⟨h.cell 2, h.cell 5, h.cell 6, h.cell 7, h.cell 0⟩
/-- A sending of a law, with what Send is given. -/
theorem ap_send (h : ApW w x Z b m g f n W) (hl : g.L.length ≤ 1000000) {o : OpA} (ho : OpAt W o) (h1 : o.raw.length ≤ 1000000) (h2 : o.fa.length ≤ 1000000) :
    Calls Try.prog 11 #[.pointer (some ⟨b, 0, none⟩), .int .i64 o.f, .int .i64 o.t, o.rw.v, o.fw.v] W fun e w' => e = .returned (sendV g o.f o.t o.fa) ∧ ApW w x Z b m (sendG g o.f o.t o.raw o.fa) f n w' :=
  (send_f h.bus h.bnd o.f o.t o.rw o.fw o.raw o.fa ho.raw ho.fa (by rw [← ho.raw.len]; exact h1) (by rw [← ho.fa.len]; exact h2) hl).mono fun e w' ⟨k1, k2, k3⟩ => ⟨k1, h.send k2 k3⟩
/-- A list of places in new memory, as a slice. -/
def FreshS (w : World) (L : List Du) (e : Ending) (w' : World) : Prop := ∃ (A : Option Addr) (n c : Nat), e = .returned (.slice A n c) ∧ RSrc duC 3 w' ⟨A, n, c⟩ L ∧ (∀ ad, A = some ad → w.heap.size ≤ ad.block) ∧ Below w.heap.size w w'
theorem due_s {F : Nat → Prop} (h : BusF F b g W) (id : Int) : Calls Try.prog 17 #[.pointer (some ⟨b, 0, none⟩), .int .i64 id] W (FreshS W (dueG g id)) :=
  (due_f h id).mono fun e w' ⟨v, h1, h2, h3⟩ => by
    obtain ⟨d, k1, k2, k3⟩ := rsrc_of_own du_len rfl h2
    refine ⟨d.A, d.n, d.c, by rw [h1, k1]; rfl, k2, fun ad e => ?_, h3⟩
    rw [e] at k3
    exact (own_typed h2 k3.symm).1
end
theorem great_small {os : List OpA} (h : greatL os = false) : os.length ≤ 40 ∧ ∀ k, k < os.length → (os.getD k default).raw.length ≤ 100 ∧ (os.getD k default).fa.length ≤ 40 := by
  unfold greatL at h
  rw [Bool.or_eq_false_iff] at h
  refine ⟨by have := of_decide_eq_false h.1; omega, fun k hk => ?_⟩
  have := List.any_eq_false.1 h.2 _ (List.getElem_mem hk)
  rw [List.getD_eq_getElem?_getD, List.getElem?_eq_getElem hk]
  unfold greatO at this
  simp at this ⊢
  omega
end Go.Proofs.Ytmplidgafdobkaa

namespace Go.Proofs.Ytmplidgafdobkaa
open Go.RowKit Go.Shelf

section
variable {F T : Nat → Prop} {b : Nat} {g g' : Lg} {W W' : World}
/-- Some of F's blocks turned, new blocks behind. -/
theorem BusF.grow (h : BusF F b g W) (hk : Kept T W W') (hT : ∀ k, T k → F k) : BusF (Grow F W W') b g W' := by
  obtain ⟨S, l, v, As, h1, h2, h3, h4, h5⟩ := h
  refine ⟨S, l, v, As, h1.kept hk (fun e => h4 (hT _ e)) (fun k hk ht => h3 k (hT k ht) hk) (fun a ha => (h5 a ha).mono hT), h2, fun k hk hs => ?_, fun hk => ?_, fun a ha => (h5 a ha).new (h1.src a ha).1 (fun k hk => hk.imp id (fun q => q.1))⟩
  · rcases hk with hk | hk
    · exact h3 k hk hs
    · have := h1.sS k hs; omega
  · rcases hk with hk | hk
    · exact h4 hk
    · have := h1.bus.lt; omega
end
/-- The plan's box and the bus, F's blocks being none of the bus'. -/
structure LwW (w : World) (x : Pl) (Z b : Nat) (F : Nat → Prop) (g : Lg) (W : World) : Prop where
  z : w.heap.size < Z ∧ Z ≤ W.heap.size
  bl : Below w.heap.size w W
  plan : Whole W w.heap.size 23 x.cells
  bus : BusF F b g W
  bnd : Bnd F W
  low : ∀ k, k < Z → F k
section
variable {w W W' : World} {x : Pl} {Z b : Nat} {F T : Nat → Prop} {g g' : Lg}
theorem LwW.later (h : LwW w x Z b F g W) (hb : Below W.heap.size W W') : LwW w x Z b F g W' :=
  ⟨⟨h.z.1, Nat.le_trans h.z.2 hb.size⟩, k_then hb h.bl, k_later hb h.plan, h.bus.later hb, h.bnd.more hb.size, h.low⟩
theorem LwW.drew (h : LwW w x Z b F g W) : LwW w x Z b F g W.drew := h.later ((Below.refl _ _).drew)
theorem LwW.drewN (h : LwW w x Z b F g W) (k : Nat) : LwW w x Z b F g (W.drewN k) := h.later (below_drewN (Below.refl _ _) k)
theorem LwW.send (h : LwW w x Z b F g W) (hb : BusF F b g' W') (hk : KeptF F W W') : LwW w x Z b F g' W' := by
  have z := h.z
  exact ⟨⟨z.1, Nat.le_trans z.2 hk.size⟩, below_on h.bl hk (fun i hi => by
      rcases Nat.lt_or_ge i Z with q | q
      · exact absurd (h.low i q) hi
      · omega) h.bl.size, h.plan.kept hk (fun q => q (h.low _ z.1)), hb, h.bnd.more hk.size, h.low⟩
theorem LwW.step (h : LwW w x Z b F g W) (hk : Kept T W W') (hT : ∀ k, T k → F k ∧ Z ≤ k) : LwW w x Z b (Grow F W W') g W' := by
  have z := h.z
  exact ⟨⟨z.1, Nat.le_trans z.2 hk.size⟩, below_on h.bl hk (fun i hi => by have := (hT i hi).2; omega) h.bl.size, h.plan.kept hk (fun q => by have := (hT _ q).2; omega), h.bus.grow hk (fun _ q => (hT _ q).1), h.bnd.new hk.size, fun _ q => .inl (h.low _ q)⟩
theorem LwW.grow (h : LwW w x Z b F g W) (hb : Below W.heap.size W W') : LwW w x Z b (Grow F W W') g W' := h.step (Kept.of_below hb Empty) (fun _ q => q.elim)
/-- A law's own row, none of the bus'. -/
def RowF (F : Nat → Prop) (v : Value) : Prop := ∀ k, v.ownBlock = some k → F k
theorem RowF.nil (F : Nat → Prop) : RowF F (.slice none 0 0) := fun k e => by simp [Value.ownBlock] at e
theorem lw_made {W3 W4 : World} (h3 : Below w.heap.size w W3 ∧ Whole W3 w.heap.size 23 x.cells) (hb : BusF (fun k => k < W3.heap.size) b g W4) (h4 : Below W3.heap.size W3 W4) : LwW w x W3.heap.size b (fun k => k < W3.heap.size) g W4 :=
  ⟨⟨h3.2.lt, h4.size⟩, k_then h4 h3.1, k_later h4 h3.2, hb, fun _ hk => Nat.lt_of_lt_of_le hk h4.size, fun _ hk => hk⟩
/-- A value behind a row: a block for the value, then the row (there, or in a new block). -/
theorem lw_append {e : TypeId} {k n m : Nat} {v v' : Value} {xs ys : List Value} {o : Obj} (h : LwW w x Z b F g W) (hown : W.ownsRow Z e k v n xs) (hv : RowF F v)
    (h1 : W'.ownsRow Z e k v' m ys) (h2 : (W.alloc o).grownBy W' v.ownBlock) (h3 : v'.ownBlock = v.ownBlock ∨ v'.ownBlock = some (W.alloc o).heap.size) :
    LwW w x Z b (Grow F W W') g W' ∧ RowF (Grow F W W') v' ∧ Kept (fun i => v.ownBlock = some i) W W' := by
  have hk : Kept (fun i => v.ownBlock = some i) W W' := ((Kept.refl _ W).alloc o).grown h2 (fun j e => .inl e)
  have hs : (W.alloc o).heap.size = W.heap.size + 1 := by simp
  refine ⟨h.step hk (fun j hj => ⟨hv j hj, (own_typed hown hj).1⟩), fun j hj => ?_, hk⟩
  rcases h3 with q | q
  · exact .inl (hv j (q ▸ hj))
  · obtain ⟨_, cur, hc⟩ := own_typed h1 hj
    have hl := (Array.getElem?_eq_some_iff.1 hc).1
    rw [q, hs] at hj
    cases hj
    exact .inr ⟨by omega, hl⟩
theorem lw_send (h : LwW w x Z b F g W) (hl : g.L.length ≤ 1000000) {o : OpA} (ho : OpAt W o) (h1 : o.raw.length ≤ 1000000) (h2 : o.fa.length ≤ 1000000) :
    Calls Try.prog 11 #[.pointer (some ⟨b, 0, none⟩), .int .i64 o.f, .int .i64 o.t, o.rw.v, o.fw.v] W fun e w' => e = .returned (sendV g o.f o.t o.fa) ∧ LwW w x Z b F (sendG g o.f o.t o.raw o.fa) w' ∧ KeptF F W w' :=
  (send_f h.bus h.bnd o.f o.t o.rw o.fw o.raw o.fa ho.raw ho.fa (by rw [← ho.raw.len]; exact h1) (by rw [← ho.fa.len]; exact h2) hl).mono fun e w' ⟨k1, k2, k3⟩ => ⟨k1, h.send k2 k3, k3⟩
end
end Go.Proofs.Ytmplidgafdobkaa

namespace Go.Proofs.Ytmplidgafdobkaa
open Go.RowKit

/-- What is kept of a sending: all, or, if it did not pass, who sent it and when. -/
def KeptOf (p : Pl) (o : OpA) (s : Sd) : Prop := s = ⟨o.f, o.t, o.raw, spreadL p o.fa o.f 0, spreadL p o.fa o.f 1⟩ ∨ s = ⟨o.f, o.t, [], [], []⟩
structure Match (p : Pl) (L : List Sd) (os : List OpA) : Prop where
  len : L.length = os.length
  at_ : ∀ i, i < os.length → KeptOf p (os.getD i default) (L.getD i default)
theorem Match.nil (p : Pl) : Match p [] [] := ⟨rfl, fun _ h => absurd h (Nat.not_lt_zero _)⟩
theorem getD_snoc {α : Type} [Inhabited α] (l : List α) (a : α) (i : Nat) : (l ++ [a]).getD i default = if i < l.length then l.getD i default else if i = l.length then a else default := by
  rw [List.getD_eq_getElem?_getD, List.getD_eq_getElem?_getD]
  split
  · rename_i h; rw [List.getElem?_append_left h]
  · rename_i h
    rw [List.getElem?_append_right (by omega)]
    split
    · rename_i h2; subst h2; simp
    · rename_i h2; rw [List.getElem?_eq_none (by simp; omega)]; rfl
theorem Match.snoc {p : Pl} {L : List Sd} {os : List OpA} (h : Match p L os) {o : OpA} {s : Sd} (hk : KeptOf p o s) : Match p (L ++ [s]) (os ++ [o]) := by
  refine ⟨by simp [h.len], fun i hi => ?_⟩
  rw [getD_snoc, getD_snoc, h.len]
  by_cases q : i < os.length
  · rw [if_pos q, if_pos q]; exact h.at_ i q
  · have : i = os.length := by simp at hi; omega
    rw [if_neg q, if_neg q, if_pos this, if_pos this]; exact hk
theorem keptS_of (g : Lg) (o : OpA) : KeptOf g.p o (keptS g o.f o.t o.raw o.fa) := by
  unfold keptS KeptOf
  split
  · exact .inl rfl
  · exact .inr rfl
theorem sendG_L {g : Lg} {f t : Int} {raw : List UInt8} {fa : List Fa} (hok : okB g f t fa = true) : (sendG g f t raw fa).L = g.L ++ [keptS g f t raw fa] := by
  unfold sendG; rw [if_pos hok]; rfl
theorem Match.f {p : Pl} {L : List Sd} {os : List OpA} (h : Match p L os) {i : Nat} (hi : i < os.length) : (L.getD i default).f = (os.getD i default).f ∧ (L.getD i default).t = (os.getD i default).t := by
  rcases h.at_ i hi with e | e <;> rw [e] <;> exact ⟨rfl, rfl⟩
/-- A law's question: does a node send while a frame is there till then? -/
def askB (n t a : Int) (o : OpA) : Bool := decide (o.f = n) && (decide (o.t < t) && decide (t - a < o.t + a))
theorem any_getD {α : Type} [Inhabited α] {l : List α} {q : α → Bool} : l.any q = true ↔ ∃ i, i < l.length ∧ q (l.getD i default) = true := by
  rw [List.any_eq_true]
  constructor
  · rintro ⟨x, hx, h⟩
    obtain ⟨i, hi, rfl⟩ := List.mem_iff_getElem.1 hx
    exact ⟨i, hi, by rwa [List.getD_eq_getElem?_getD, List.getElem?_eq_getElem hi]⟩
  · rintro ⟨i, hi, h⟩
    rw [List.getD_eq_getElem?_getD, List.getElem?_eq_getElem hi] at h
    exact ⟨_, List.getElem_mem hi, h⟩
theorem sends_ask {g : Lg} {os : List OpA} (h : Match g.p g.L os) (n bg : Int) : sendsG g n bg = os.any (askB n (bg + g.p.air) g.p.air) := by
  rw [Bool.eq_iff_iff]
  unfold sendsG
  rw [any_getD, any_getD]
  constructor
  · rintro ⟨i, hi, q⟩
    have hi' : i < os.length := by have := h.len; omega
    have e := h.f hi'
    refine ⟨i, hi', ?_⟩
    rw [e.1, e.2] at q
    simp only [askB, Bool.and_eq_true, decide_eq_true_eq] at q ⊢
    omega
  · rintro ⟨i, hi, q⟩
    have e := h.f hi
    refine ⟨i, by have := h.len; omega, ?_⟩
    rw [e.1, e.2]
    simp only [askB, Bool.and_eq_true, decide_eq_true_eq] at q ⊢
    omega
theorem any_take {α : Type} [Inhabited α] {l : List α} {q : α → Bool} {j : Nat} (hj : j < l.length) : (l.take (j + 1)).any q = ((l.take j).any q || q (l.getD j default)) := by
  rw [List.take_add_one, List.getElem?_eq_getElem hj, List.any_append, List.getD_eq_getElem?_getD, List.getElem?_eq_getElem hj]
  simp
/-- Is a frame to be cut, as the law asks? -/
def cutB (p : Pl) (o : OpA) (n c : Nat) : Bool := decide (c * p.nodes.toNat + n < o.fa.length) && (o.fa.getD (c * p.nodes.toNat + n) default).cut
theorem hears_case {p : Pl} {o : OpA} {s : Sd} (hk : KeptOf p o s) {n c : Nat} (hn : (n : Int) < p.nodes) (hc : c < 2) (ht : thereS s (n : Int) (c : Int) = true) : s.f = o.f ∧ s.t = o.t ∧ s.raw = o.raw ∧ (faS s (n : Int) (c : Int)).cut = cutB p o n c := by
  rcases hk with e | e
  · subst e
    refine ⟨rfl, rfl, rfl, ?_⟩
    have hi : inS ⟨o.f, o.t, o.raw, spreadL p o.fa o.f 0, spreadL p o.fa o.f 1⟩ (n : Int) (c : Int) = true := by
      unfold thereS at ht
      rw [Bool.and_eq_true] at ht
      exact ht.1
    have hch : Sd.ch ⟨o.f, o.t, o.raw, spreadL p o.fa o.f 0, spreadL p o.fa o.f 1⟩ (c : Int) = spreadL p o.fa o.f c := by
      have : c = 0 ∨ c = 1 := by omega
      rcases this with rfl | rfl <;> rfl
    unfold faS
    rw [hi, if_pos rfl, hch, Int.toNat_natCast, spreadL_get _ _ _ _ _ (by omega)]
    show (o.fa.getD (c * p.nodes.toNat + n) ⟨p.dmin, false, false⟩).cut = _
    unfold cutB
    rw [List.getD_eq_getElem?_getD, List.getD_eq_getElem?_getD]
    by_cases q : c * p.nodes.toNat + n < o.fa.length
    · rw [List.getElem?_eq_getElem q, decide_eq_true q]; rfl
    · rw [List.getElem?_eq_none (by omega), decide_eq_false q]; rfl
  · subst e
    have hch : Sd.ch ⟨o.f, o.t, [], [], []⟩ (c : Int) = [] := by unfold Sd.ch; split <;> rfl
    unfold thereS inS at ht
    rw [hch] at ht
    simp at ht
/-- What is heard, against what was sent. -/
theorem heard_whole (o : OpA) (s : Sd) (hr : s.raw = o.raw) (cut : Bool) : decide (heardS s cut = o.raw) = !(cut && decide (0 < o.raw.length)) ∧ (heardS s cut).length ≤ o.raw.length := by
  unfold heardS
  rw [hr]
  cases cut
  · exact ⟨by simp, Nat.le_refl _⟩
  · refine ⟨?_, by simp⟩
    rw [if_pos rfl, Bool.true_and]
    by_cases q : 0 < o.raw.length
    · rw [decide_eq_true q]
      simp only [Bool.not_true, decide_eq_false_iff_not]
      intro e
      have := congrArg List.length e
      simp at this
      omega
    · have : o.raw = [] := List.eq_nil_of_length_eq_zero (by omega)
      rw [this]; rfl
theorem isG_eq {g : Lg} {i : Nat} (hi : i < g.L.length) (n c : Int) : isG g (i : Int) n c = (thereS (g.L.getD i default) n c && !sendsG g n ((g.L.getD i default).t + (faS (g.L.getD i default) n c).d)) := by
  have h : idB g (i : Int) = true := by unfold idB; simp; omega
  unfold isG sdG
  rw [h, Bool.true_and, Int.toNat_natCast]
theorem dueG_eq {g : Lg} {i : Nat} (hi : i < g.L.length) : dueG g (i : Int) = dueS g.p (g.L.getD i default) := by
  have h : idB g (i : Int) = true := by unfold idB; simp; omega
  unfold dueG sdG
  rw [h, if_pos rfl, Int.toNat_natCast]
/-- What came ahead of a sending is where it was. -/
theorem dueG_old {g : Lg} {f t : Int} {raw : List UInt8} {fa : List Fa} (hok : okB g f t fa = true) {i : Nat} (hi : i < g.L.length) : dueG (sendG g f t raw fa) (i : Int) = dueG g (i : Int) := by
  have hl := sendG_L (raw := raw) hok
  rw [dueG_eq hi, dueG_eq (by rw [hl]; simp; omega), hl, sendG_p, getD_snoc, if_pos hi]
/-- A place of a frame, and its fate. -/
theorem dueS_mem {p : Pl} {s : Sd} {d : Du} (h : d ∈ dueS p s) : thereS s d.r d.c = true ∧ d.t = s.t + p.air + (faS s d.r d.c).d ∧ 0 ≤ d.r ∧ (d.c = 0 ∨ d.c = 1) := by
  have key : ∀ (cc : Int), (cc = 0 ∨ cc = 1) → d ∈ dueTo cc (s.t + p.air) (s.ch cc) (s.ch cc).length → thereS s d.r d.c = true ∧ d.t = s.t + p.air + (faS s d.r d.c).d ∧ 0 ≤ d.r ∧ (d.c = 0 ∨ d.c = 1) := fun cc hcc hd => by
    obtain ⟨i, hi, hl, rfl⟩ := dueTo_mem hd
    dsimp only
    have hin : inS s (i : Int) cc = true := by
      unfold inS
      rcases hcc with rfl | rfl <;> simp <;> omega
    have hf : faS s (i : Int) cc = (s.ch cc).getD i default := by unfold faS; rw [hin, if_pos rfl, Int.toNat_natCast]
    exact ⟨by unfold thereS; rw [hin, hf, hl]; rfl, by rw [hf], by omega, hcc⟩
  unfold dueS at h
  rcases List.mem_append.1 h with h | h
  · exact key 0 (.inl rfl) h
  · exact key 1 (.inr rfl) h
/-- A node that sends while a frame is there does not hear it. -/
theorem deaf_case {g : Lg} {f t : Int} {raw : List UInt8} {fa : List Fa} (hok : okB g f t fa = true) {i : Nat} (hi : i < (sendG g f t raw fa).L.length) {d : Du} (hd : d ∈ dueG (sendG g f t raw fa) (i : Int)) (h1 : d.r = f) (h2 : t < d.t) (h3 : d.t - g.p.air < t + g.p.air) : isG (sendG g f t raw fa) (i : Int) d.r d.c = false := by
  rw [dueG_eq hi, sendG_p] at hd
  obtain ⟨k1, k2, _⟩ := dueS_mem hd
  rw [isG_eq hi, k1, Bool.true_and]
  have hs : sendsG (sendG g f t raw fa) d.r (((sendG g f t raw fa).L.getD i default).t + (faS ((sendG g f t raw fa).L.getD i default) d.r d.c).d) = true := by
    unfold sendsG
    rw [List.any_eq_true]
    refine ⟨keptS g f t raw fa, by rw [sendG_L hok]; simp, ?_⟩
    rw [keptS_f, keptS_t, sendG_p]
    simp only [Bool.and_eq_true, decide_eq_true_eq]
    omega
  rw [hs]; rfl
/-- Nobody hears a sending that did not pass. -/
theorem blocked_case {g : Lg} {f t : Int} {raw : List UInt8} {fa : List Fa} (hok : okB g f t fa = true) (hp : passB g t = false) (n c : Int) : isG (sendG g f t raw fa) (g.L.length : Int) n c = false := by
  have hl := sendG_L (raw := raw) hok
  have hk : keptS g f t raw fa = ⟨f, t, [], [], []⟩ := if_neg (by rw [hp]; decide)
  rw [isG_eq (by rw [hl]; simp), hl, getD_snoc, if_neg (by omega), if_pos rfl, hk]
  have ht : thereS ⟨f, t, [], [], []⟩ n c = false := by
    have hch : Sd.ch ⟨f, t, [], [], []⟩ c = [] := by unfold Sd.ch; split <;> rfl
    unfold thereS inS
    rw [hch]
    simp
    omega
  rw [ht]; rfl
end Go.Proofs.Ytmplidgafdobkaa

namespace Go.Proofs.Ytmplidgafdobkaa
open Go.RowKit Go.Shelf

/-- The bus, and the row of what was sent. -/
structure HrW (w : World) (x : Pl) (Z b : Nat) (F : Nat → Prop) (g : Lg) (sv : Sl) (ss : List OpA) (W : World) : Prop where
  lw : LwW w x Z b F g W
  row : RSrc opC 4 W sv ss
  op : ∀ o ∈ ss, OpAt W o
  mt : Match x g.L ss
  p : g.p = x
  n : ss.length ≤ 40
/-- What goes along while a sending is looked at: its box, and the map of where it is there. -/
structure RdW (W0 : World) (B m : Nat) (o : OpA) (f : Int → Int → Option Int) (W : World) : Prop where
  bl : Below W0.heap.size W0 W
  box : Whole W B 36 #[.int .i64 o.f, .int .i64 o.t, o.rw.v, o.fw.v]
  map : ∃ n, MapU W m n f
/-- .. and what was heard. -/
structure TkW (W0 : World) (B m : Nat) (o : OpA) (f : Int → Int → Option Int) (C : Nat) (hf hc ht : Int) (r : Sl) (hb : List UInt8) (W : World) : Prop where
  rd : RdW W0 B m o f W
  box : Whole W C 52 #[.int .i64 hf, .int .i64 hc, .int .i64 ht, r.v]
  raw : RSrc u8C 1 W r hb
section
variable {w W W' W0 : World} {x : Pl} {Z b B m C : Nat} {F T : Nat → Prop} {g g' : Lg} {sv r : Sl} {ss : List OpA} {o : OpA} {f : Int → Int → Option Int} {hf hc ht : Int} {hb : List UInt8}
theorem HrW.later (h : HrW w x Z b F g sv ss W) (hb : Below W.heap.size W W') : HrW w x Z b F g sv ss W' :=
  ⟨h.lw.later hb, h.row.later hb, fun o ho => (h.op o ho).later hb, h.mt, h.p, h.n⟩
theorem RdW.later (h : RdW W0 B m o f W) (hb : Below W.heap.size W W') : RdW W0 B m o f W' := by
  obtain ⟨n, hm⟩ := h.map
  exact ⟨k_then hb h.bl, k_later hb h.box, n, hm.later hb⟩
theorem RdW.drewN (h : RdW W0 B m o f W) (k : Nat) : RdW W0 B m o f (W.drewN k) := h.later (below_drewN (Below.refl _ _) k)
theorem TkW.later (h : TkW W0 B m o f C hf hc ht r hb W) (q : Below W.heap.size W W') : TkW W0 B m o f C hf hc ht r hb W' :=
  ⟨h.rd.later q, k_later q h.box, h.raw.later q⟩
theorem HrW.due (h : HrW w x Z b F g sv ss W) {k : Nat} (hk : k < ss.length) : Calls Try.prog 17 #[.pointer (some ⟨b, 0, none⟩), .int .i64 (k : Int)] W (FreshS W (dueS x (g.L.getD k default))) := by
  have := due_s h.lw.bus (k : Int)
  rwa [dueG_eq (by have := h.mt.len; omega), h.p] at this
/-- What Take hands back. -/
def HeardD (g : Lg) (k n c : Nat) (W : World) (e : Ending) (W' : World) : Prop :=
  ∃ (A : Option Addr) (m d : Nat), e = .returned (.tuple #[.agg #[.int .i64 (hdF g k n c), .int .i64 (hdC g k n c), .int .i64 (hdT g k n c), .slice A m d], .bool (isG g k n c)]) ∧ RSrc u8C 1 W' ⟨A, m, d⟩ (hdB g k n c) ∧ Below W.heap.size W W'
theorem HrW.take (h : HrW w x Z b F g sv ss W) (k n c : Nat) : Calls Try.prog 19 #[.pointer (some ⟨b, 0, none⟩), .int .i64 (k : Int), .int .i64 (n : Int), .int .i64 (c : Int)] W (HeardD g k n c W) :=
  (take_f h.lw.bus (by have := h.mt.len; have := h.n; omega) (k : Int) (n : Int) (c : Int)).mono fun e w' ⟨A, m, d, h1, h2, _, h3⟩ => ⟨A, m, d, h1, h2, h3⟩
theorem HrW.len (h : HrW w x Z b F g sv ss W) : Calls Try.prog 13 #[.pointer (some ⟨b, 0, none⟩)] W fun e w' => e = .returned (.int .i64 (ss.length : Int)) ∧ w' = W := by
  rw [← h.mt.len]
  exact len_f h.lw.bus
/-- A cell of the row of what was sent. -/
def RowCells (A : Option Addr) (j : Nat) (o : OpA) (W : World) : Prop := ∃ g p, A = some ⟨g, p, none⟩ ∧ W.cell? ⟨g, p + j * 4, none⟩ = some (.int .i64 o.f) ∧ W.cell? ⟨g, p + j * 4 + 1, none⟩ = some (.int .i64 o.t) ∧ W.cell? ⟨g, p + j * 4 + 2, none⟩ = some o.rw.v ∧ W.cell? ⟨g, p + j * 4 + 3, none⟩ = some o.fw.v
theorem HrW.cells (h : HrW w x Z b F g sv ss W) {j : Nat} (hj : j < sv.n) : RowCells sv.A j (ss.getD j default) W := by
  obtain ⟨g0, o0, e, h2⟩ := h.row.get (i := j) hj
  exact ⟨g0, o0, e, opC_cells h2⟩
theorem HrW.nth (h : HrW w x Z b F g sv ss W) {j : Nat} (hj : j < ss.length) : OpAt W (ss.getD j default) := by
  refine h.op _ ?_
  rw [List.getD_eq_getElem?_getD, List.getElem?_eq_getElem hj]
  exact List.getElem_mem hj
theorem HrW.time (h : HrW w x Z b F g sv ss W) {j : Nat} (hj : j < ss.length) : 0 ≤ (ss.getD j default).t ∧ (ss.getD j default).t ≤ 4294967296 := by
  have hl := h.mt.len
  have e := h.mt.f hj
  rw [← e.2]
  have hm : g.L.getD j default ∈ g.L := by
    rw [List.getD_eq_getElem?_getD, List.getElem?_eq_getElem (by omega)]
    exact List.getElem_mem _
  have := h.lw.bus.ok.up _ hm
  have := h.lw.bus.ok.last
  omega
end
/-- What the law asks of a sending at a node on a channel: is it due, when, and does the node send meanwhile? -/
def atH (x : Pl) (s : Sd) (n c : Nat) : Int := (foldU (fun _ _ => none) (dueS x s) n c).getD 0
def dueH (x : Pl) (s : Sd) (n c : Nat) : Bool := (foldU (fun _ _ => none) (dueS x s) n c).isSome
section
variable {g : Lg} {x : Pl} {ss : List OpA} {k n c : Nat}
theorem at_in (hg : OkG g) (hp : g.p = x) (hk : k < g.L.length) : 0 ≤ atH x (g.L.getD k default) n c ∧ atH x (g.L.getD k default) n c ≤ 5000000000 := by
  have hm : g.L.getD k default ∈ g.L := by
    rw [List.getD_eq_getElem?_getD, List.getElem?_eq_getElem hk]
    exact List.getElem_mem _
  have h1 := hg.up _ hm
  have h2 := hg.last
  have h3 := faS_in hg hm (n : Int) (c : Int)
  have P := planU_of hg.plan
  rw [hp] at P
  have a1 := P.a1
  have a2 := P.a2
  unfold atH
  rw [foldU_dueS]
  split
  · dsimp only [Option.getD]
    omega
  · exact ⟨by decide, by decide⟩
theorem hears_is (hp : g.p = x) (hm : Match x g.L ss) (hk : k < ss.length) :
    isG g k n c = (dueH x (g.L.getD k default) n c && !ss.any (askB n (atH x (g.L.getD k default) n c) x.air)) := by
  have hl := hm.len
  have hgm : Match g.p g.L ss := by rw [hp]; exact hm
  rw [isG_eq (by omega)]
  unfold dueH atH
  rw [foldU_dueS]
  cases ht : thereS (g.L.getD k default) n c
  · rfl
  · rw [if_pos rfl, sends_ask hgm, hp]
    dsimp only [Option.getD, Option.isSome]
    have e : (g.L.getD k default).t + (faS (g.L.getD k default) n c).d + x.air = (g.L.getD k default).t + x.air + (faS (g.L.getD k default) n c).d := by omega
    rw [e]
theorem hears_yes (hp : g.p = x) (hm : Match x g.L ss) (hk : k < ss.length) (hn : (n : Int) < x.nodes) (hc : c < 2) (hi : isG g k n c = true) :
    dueH x (g.L.getD k default) n c = true ∧ ss.any (askB n (atH x (g.L.getD k default) n c) x.air) = false ∧ hdT g k n c = atH x (g.L.getD k default) n c - x.air ∧ hdF g k n c = (ss.getD k default).f ∧ hdC g k n c = c ∧
    decide (hdB g k n c = (ss.getD k default).raw) = !(cutB x (ss.getD k default) n c && decide (0 < (ss.getD k default).raw.length)) ∧ (hdB g k n c).length ≤ (ss.getD k default).raw.length := by
  have hl := hm.len
  have h1 := hears_is (n := n) (c := c) hp hm hk
  rw [hi] at h1
  have h1 := h1.symm
  rw [Bool.and_eq_true, Bool.not_eq_true'] at h1
  have ht : thereS (g.L.getD k default) n c = true := by
    have := h1.1
    unfold dueH at this
    rw [foldU_dueS] at this
    cases q : thereS (g.L.getD k default) n c
    · rw [q] at this; cases this
    · rfl
  obtain ⟨e1, e2, e3, e4⟩ := hears_case (hm.at_ k hk) hn hc ht
  have e5 := heard_whole (ss.getD k default) (g.L.getD k default) e3 (cutB x (ss.getD k default) n c)
  have es : sdG g (k : Int) = g.L.getD k default := by unfold sdG; rw [Int.toNat_natCast]
  refine ⟨h1.1, h1.2, ?_, ?_, ?_, ?_⟩
  · unfold hdT atH
    rw [hi, if_pos rfl, foldU_dueS, ht, if_pos rfl, es]
    dsimp only [Option.getD]
    omega
  · unfold hdF; rw [hi, if_pos rfl, es]; exact e1
  · unfold hdC; rw [hi, if_pos rfl]
  · unfold hdB; rw [hi, if_pos rfl, es, e4]; exact e5
theorem small_len (h : greatL ss = false) : ∀ o ∈ ss, o.raw.length ≤ 1000000 ∧ o.fa.length ≤ 1000000 := by
  intro o ho
  obtain ⟨i, hi, rfl⟩ := List.mem_iff_getElem.1 ho
  have := (great_small h).2 i hi
  rw [List.getD_eq_getElem?_getD, List.getElem?_eq_getElem hi] at this
  dsimp only [Option.getD] at this
  omega
end
/-- While sendings are made: the bus, and the row of what was sent so far. -/
structure SnW (w : World) (x : Pl) (Z b : Nat) (F : Nat → Prop) (g : Lg) (v : Value) (ss : List OpA) (W : World) : Prop where
  lw : LwW w x Z b F g W
  row : W.ownsRow Z 36 4 v ss.length (ss.flatMap opC)
  rf : RowF F v
section
variable {w W W' W6 W8 : World} {x : Pl} {Z b : Nat} {F : Nat → Prop} {g g' : Lg} {v v' : Value} {ss : List OpA}
theorem SnW.later (h : SnW w x Z b F g v ss W) (hb : Below W.heap.size W W') : SnW w x Z b F g v ss W' :=
  ⟨h.lw.later hb, own_kept h.row (Kept.of_below hb Empty) (fun _ _ e => e), h.rf⟩
theorem sn_start (h : LwW w x Z b F g W) : SnW w x Z b F g (.slice none 0 0) [] W := ⟨h, World.ownsRow_nil _ _ _ _, RowF.nil F⟩
theorem sn_send (h : SnW w x Z b F g v ss W) (h6 : LwW w x Z b F g' W6) (hk : KeptF F W W6) : SnW w x Z b F g' v ss W6 :=
  ⟨h6, own_kept h.row hk (fun k e q => q (h.rf k e)), h.rf⟩
theorem sn_add {ob : Obj} {o : OpA} (h : SnW w x Z b F g v ss W6) (h1 : W8.ownsRow Z 36 4 v' (ss.length + 1) (ss.flatMap opC ++ opC o)) (h2 : (W6.alloc ob).grownBy W8 v.ownBlock) (h3 : v'.ownBlock = v.ownBlock ∨ v'.ownBlock = some (W6.alloc ob).heap.size) :
    ∃ F', SnW w x Z b F' g v' (ss ++ [o]) W8 := by
  obtain ⟨k1, k2, _⟩ := lw_append h.lw h.row h.rf h1 h2 h3
  exact ⟨_, k1, by rw [List.length_append, List.flatMap_append, List.flatMap_singleton]; exact h1, k2⟩
theorem op_len (a : OpA) : (opC a).length = 4 := rfl
theorem sn_done (h : SnW w x Z b F g v ss W) (ho : ∀ o ∈ ss, OpAt W o) (hm : Match x g.L ss) (hp : g.p = x) (hn : ss.length ≤ 40) : ∃ sv : Sl, v = sv.v ∧ HrW w x Z b F g sv ss W := by
  obtain ⟨sv, e, hr, _⟩ := rsrc_of_own (cells := opC) op_len rfl h.row
  exact ⟨sv, e, h.lw, hr, ho, hm, hp, hn⟩
theorem sn_slice (h : SnW w x Z b F g v ss W) : ∃ A c, v = .slice A ss.length c := by
  rcases h.row.2 with ⟨e, h0⟩ | ⟨gb, cap, cur, e, _⟩
  · exact ⟨none, 0, by rw [e, h0]⟩
  · exact ⟨_, _, e⟩
end
theorem i_op : (Try.prog.info? 36).map (fun i => (i.zero, i.size, i.bytes)) = some (some (.agg #[.int .i64 0, .int .i64 0, .slice none 0 0, .slice none 0 0]), 4, 64) := by kernel_rfl
/-- While the map is filled: a sending's box, the map of the first j places, the places. -/
structure DuW (W0 : World) (B m : Nat) (o : OpA) (L : List Du) (j : Nat) (d : Sl) (W : World) : Prop where
  bl : Below W0.heap.size W0 W
  box : Whole W B 36 #[.int .i64 o.f, .int .i64 o.t, o.rw.v, o.fw.v]
  map : MapU W m j (foldU (fun _ _ => none) (L.take j))
  raw : RSrc duC 3 W d L
  far : ∀ ad, d.A = some ad → ad.block ≠ m
  hm : W0.heap.size ≤ m ∧ B ≠ m
/-- A sending's box, and a map of one's own behind it. -/
structure RnW (W0 : World) (B m : Nat) (o : OpA) (W : World) : Prop where
  bl : Below W0.heap.size W0 W
  box : Whole W B 36 #[.int .i64 o.f, .int .i64 o.t, o.rw.v, o.fw.v]
  map : MapU W m 0 (fun _ _ => none)
  hm : W0.heap.size ≤ m ∧ B ≠ m
section
variable {W W' W0 : World} {B m : Nat} {o : OpA} {L : List Du} {j : Nat} {s : Sl}
theorem rn_start (hb : Below W0.heap.size W0 W) : RnW W0 W.heap.size (W.heap.size + 1) o ((W.alloc (.cells #[.int .i64 o.f, .int .i64 o.t, o.rw.v, o.fw.v] 36)).alloc (.map #[] 0)) := by
  have hz := hb.size
  have h1 : (W.alloc (.cells #[.int .i64 o.f, .int .i64 o.t, o.rw.v, o.fw.v] 36)).heap.size = W.heap.size + 1 := by simp
  have hm := MapU.made (W.alloc (.cells #[.int .i64 o.f, .int .i64 o.t, o.rw.v, o.fw.v] 36))
  rw [h1] at hm
  exact ⟨(hb.alloc hz _).alloc (by simp; omega) _, (Whole.new _ _ _).alloc _, hm, by omega, by omega⟩
theorem RnW.due (h : RnW W0 B m o W) (hb : Below W.heap.size W W') (hr : RSrc duC 3 W' s L) (hf : ∀ ad, s.A = some ad → W.heap.size ≤ ad.block) : DuW W0 B m o L 0 s W' :=
  ⟨k_then hb h.bl, k_later hb h.box, by rw [List.take_zero, foldU_nil]; exact h.map.later hb, hr, fun ad e => by have := hf ad e; have := h.map.lt; omega, h.hm⟩
theorem DuW.later (h : DuW W0 B m o L j s W) (hb : Below W.heap.size W W') : DuW W0 B m o L j s W' :=
  ⟨k_then hb h.bl, k_later hb h.box, h.map.later hb, h.raw.later hb, h.far, h.hm⟩
theorem DuW.put (h : DuW W0 B m o L j s W) (hj : j < L.length) {d : Du} (hd : d = L.getD j default) (hm : MapU W' m (j + 1) (updU (foldU (fun _ _ => none) (L.take j)) d.r d.c d.t)) (hk : Kept (fun i => i = m) W W') : DuW W0 B m o L (j + 1) s W' := by
  have z := h.hm
  refine ⟨below_on h.bl hk (fun i hi => by have hi : i = m := hi; omega) h.bl.size, h.box.kept hk (fun q => z.2 q), ?_, h.raw.kept hk (fun ad e _ => h.far ad e), h.far, h.hm⟩
  rw [take_succ_getD hj, foldU_snoc, ← hd]
  exact hm
theorem DuW.done (h : DuW W0 B m o L j s W) (hj : L.length ≤ j) : RdW W0 B m o (foldU (fun _ _ => none) L) W := by
  have := h.map
  rw [List.take_of_length_le hj] at this
  exact ⟨h.bl, h.box, _, this⟩
end
/-- The numbers of a place fit. -/
theorem du_in {g : Lg} {x : Pl} (hg : OkG g) (hp : g.p = x) {s : Sd} (hs : s ∈ g.L) : (∀ d ∈ dueS x s, In64 d.r ∧ In64 d.c ∧ In64 d.t) ∧ (dueS x s).length ≤ 64 := by
  have P := planU_of hg.plan
  have n1 := P.n1
  have n2 := P.n2
  have a1 := P.a1
  have a2 := P.a2
  rw [hp] at n1 n2 a1 a2
  have hl : ∀ c, (s.ch c).length ≤ 16 := fun c => by
    rcases hg.long s hs c with e | e
    · rw [e]; decide
    · rw [hp] at e; omega
  refine ⟨fun d hd => ?_, ?_⟩
  · obtain ⟨k1, k2, k3, k4⟩ := dueS_mem hd
    have h1 := hg.up _ hs
    have h2 := hg.last
    have h3 := faS_in hg hs d.r d.c
    have hi : inS s d.r d.c = true := by unfold thereS at k1; rw [Bool.and_eq_true] at k1; exact k1.1
    have hr : d.r < ((s.ch d.c).length : Int) := by
      unfold inS at hi
      simp at hi
      omega
    have := hl d.c
    exact ⟨⟨by omega, by omega⟩, ⟨by omega, by omega⟩, ⟨by omega, by omega⟩⟩
  · exact Nat.le_trans (dueS_length (N := 16) (hl 0) (hl 1)) (by decide)
theorem HrW.mem {w W : World} {x : Pl} {Z b : Nat} {F : Nat → Prop} {g : Lg} {sv : Sl} {ss : List OpA} (h : HrW w x Z b F g sv ss W) {k : Nat} (hk : k < ss.length) : g.L.getD k default ∈ g.L := by
  rw [List.getD_eq_getElem?_getD, List.getElem?_eq_getElem (by have := h.mt.len; omega)]
  exact List.getElem_mem _
end Go.Proofs.Ytmplidgafdobkaa

namespace Go.Proofs.Ytmplidgafdobkaa
open Go.RowKit Go.Shelf

set_option maxRecDepth 100000 in
set_option maxHeartbeats 8000000 in
theorem busHears_walk (x : Pl) (s : Sl) (os : List OpA) (w : World) (ho : OpsAt w s os) : Calls Try.prog 6 #[.agg x.cells, s.v] w fun e w' => e = .returned (.bool true) ∧ Below w.heap.size w w' := by
  have HS := Lib.hid x.cellsL
  have HA := Lib.hid (fun W => alive_any W)
  have HG := Lib.hid (fun W (hW : Below w.heap.size w W) => great_any s os W (ho.later hW))
  have HC := Lib.hid (fun W => Check_any x W)
  have H0 := Lib.hid (And.intro ((Below.refl w.heap.size w).alloc (Nat.le_refl _) (.cells x.cells 23)) (Whole.new w 23 x.cells))
  have hlen := ho.row.len
  have hm := Nat.le_trans ho.row.cap ho.row.max
  have HP := Lib.hid (And.intro ho hlen)
  obtain ⟨A, N, c⟩ := s
  unfold Sl.v at *
  dsimp only at *
  clear ho hlen
  cases hgr : greatL os
  · rw [hgr] at HG
    by_cases hch : failsL x 11 = 0
    · have hchk : chkL x = 0 := if_pos hch
      rw [hchk] at HC
      have hgs := great_small hgr
      have HX := Lib.hid (And.intro hgr (And.intro hch (And.intro hchk hgs)))
      clear hgr hch hchk hgs
      have HN := Lib.hid (fun W => new_f (F := fun k => k < W.heap.size) x W HX.out.2.1 (fun k hk => hk))
      go_enter Try.func6, Try.ntmps6
      go_upto_region 4 with (first
        | (go_at_call 23; refine (HA.out _).mono ?_; rintro e w1 ⟨rfl, hb1⟩; have HB1 := Lib.hid (And.intro (k_then hb1 H0.out.1) (k_later hb1 H0.out.2)); clear hb1)
        | (go_at_call 8; refine (HG.out _ HB1.out.1).mono ?_; rintro e w2 ⟨rfl, hb2⟩; have HB2 := Lib.hid (And.intro (k_then hb2 HB1.out.1) (k_later hb2 HB1.out.2)); clear hb2)
        | (refine wpList_load_want rfl 23 _ rfl w.heap.size rfl 23 x.cells (0, 0) _ HB2.out.2 Try.underlying23 rfl HS.out.plan ?_)
        | (go_at_call 24; refine (HC.out _).mono ?_; rintro e w3 ⟨rfl, hb3⟩; have HB3 := Lib.hid (And.intro (k_then hb3 HB2.out.1) (k_later hb3 HB2.out.2)); clear hb3))
      go_upto_region 8 with (first
        | (refine wpList_load_row rfl 23 (.tmp 2) rfl w.heap.size rfl 23 x.cells (0, 0) _ HB3.out.2 Try.underlying23 rfl HS.out.plan ?_)
        | (go_at_call 9; refine (HN.out _).mono ?_; rintro e w4 ⟨b, rfl, hb4, hl4⟩; have H4 := Lib.hid (lw_made HB3.out hb4 hl4); clear hb4 hl4))
      clear HB3 HB2 HB1 H0 HA HC HG HS HN
      obtain ⟨Z, hZ'⟩ : ∃ Z, Z = w3.heap.size := ⟨_, rfl⟩
      rw [← hZ'] at H4
      clear hZ'
      go_wp2
      obtain ⟨XC, hXC⟩ : ∃ XC : Value, XC = .agg x.cells := ⟨_, rfl⟩
      rw [← hXC]
      clear hXC
      obtain ⟨i0, hi, hz0, hz1, hz2⟩ := info_parts i_op
      have HI0 := Lib.hid (And.intro hi (And.intro hz0 (And.intro hz1 hz2)))
      clear hi hz0 hz1 hz2
      go_loopw [8, 52] (fun rv iv wr => ∃ (k : Nat) (g : Lg) (F : Nat → Prop) (ss : List OpA), (k ≤ N ∧ ss.length ≤ k ∧ g.p = x ∧ Match x g.L ss ∧ ∀ o ∈ ss, o ∈ os) ∧ iv = .int .i64 (k : Int) ∧ SnW w x Z b F g rv ss wr) (fun _ iv _ => N - (intOf iv).toNat)
      case atStart => exact ⟨0, ⟨x, [], 0, 0⟩, _, [], ⟨Nat.zero_le _, Nat.zero_le _, rfl, Match.nil x, fun _ h => by cases h⟩, rfl, sn_start H4.out⟩
      case round =>
        obtain ⟨k, g, F, ss, ⟨hk, hn, hgp, hmt, hso⟩, rfl, hW⟩ := hrel
        have HW := Lib.hid hW
        have HI := Lib.hid (And.intro hn (And.intro hgp (And.intro hmt hso)))
        by_cases hlt : k < N
        · as_aux_lemma =>
          obtain ⟨rA, rc, hrv⟩ := sn_slice hW
          obtain ⟨g0, o0, hA0, hA2⟩ := (HP.out.1.later hW.lw.bl).row.get (i := k) hlt
          dsimp only at hA0
          subst hA0
          obtain ⟨o, hx⟩ : ∃ o, o = os.getD k default := ⟨_, rfl⟩
          rw [← hx] at hA2
          obtain ⟨a0, a1, a2, a3⟩ := opC_cells hA2
          unfold Sl.v at a2 a3
          have e3 : (0 : Int) ≤ (k : Int) := by omega
          have e4 : (k : Int) < (N : Int) := by omega
          have hsm := HX.out.2.2.2.2 k (by rw [HP.out.2]; exact hlt)
          have hom : o ∈ os := by rw [hx, List.getD_eq_getElem?_getD, List.getElem?_eq_getElem (by rw [HP.out.2]; exact hlt)]; exact List.getElem_mem _
          have HSD := Lib.hid (fun W (hW : LwW w x Z b F g W) => (show Calls Try.prog 11 #[.pointer (some ⟨b, 0, none⟩), .int .i64 o.f, .int .i64 o.t, .slice o.rw.A o.rw.n o.rw.c, .slice o.fw.A o.fw.n o.fw.c] W fun e w' => e = .returned (sendV g o.f o.t o.fa) ∧ LwW w x Z b F (sendG g o.f o.t o.raw o.fa) w' ∧ KeptF F W w' from by rw [hx]; exact lw_send hW (by have := HX.out.2.2.2.1; have := HP.out.2; have := HI.out.1; have := HI.out.2.2.1.len; omega) ((HP.out.1.later hW.bl).nth k hlt) (by omega) (by omega)))
          have KO := Lib.hid (fun W (hW : Below w.heap.size w W) => (show (fun W : World => W.cell? ⟨g0, o0 + k * 4, none⟩ = some (.int .i64 o.f) ∧ W.cell? ⟨g0, o0 + k * 4 + 1, none⟩ = some (.int .i64 o.t) ∧ W.cell? ⟨g0, o0 + k * 4 + 2, none⟩ = some (.slice o.rw.A o.rw.n o.rw.c) ∧ W.cell? ⟨g0, o0 + k * 4 + 3, none⟩ = some (.slice o.fw.A o.fw.n o.fw.c)) W from by
            obtain ⟨g1, o1, hA1, hA3⟩ := (HP.out.1.later hW).row.get (i := k) hlt
            dsimp only at hA1
            cases hA1
            rw [← hx] at hA3
            have q := opC_cells hA3
            unfold Sl.v at q
            exact q))
          have K0 := Lib.hid (KO.out wr hW.lw.bl)
          have HO := Lib.hid hom
          have HRV := Lib.hid hrv
          clear hx hsm hA2 hW hn hgp hrv hmt hso hom
          obtain ⟨si, sp, se, hsv, hsc⟩ := sendV_parts g o.f o.t o.fa
          rw [hsv] at HSD
          have HSC := Lib.hid hsc
          clear hsv hsc
          go_upto_region 11 with fail
          go_region_held3 (fun W : World => W.cell? ⟨g0, o0 + k * 4, none⟩ = some (.int .i64 o.f) ∧ W.cell? ⟨g0, o0 + k * 4 + 1, none⟩ = some (.int .i64 o.t) ∧ W.cell? ⟨g0, o0 + k * 4 + 2, none⟩ = some (.slice o.rw.A o.rw.n o.rw.c) ∧ W.cell? ⟨g0, o0 + k * 4 + 3, none⟩ = some (.slice o.fw.A o.fw.n o.fw.c)) (first | with_reducible exact K6.out | with_reducible exact K0.out | exact K0.out) (first
            | (go_at_call 11; refine (HSD.out _ HW.out.lw.drew).mono ?_; rintro e w6 ⟨rfl, h6, h6k⟩; have K6 := Lib.hid (KO.out _ h6.bl); have H6 := Lib.hid (And.intro h6 h6k); clear h6 h6k))
          clear HSD K0
          cases hok : okB g o.f o.t o.fa
          · obtain ⟨rfl, rfl, rfl⟩ := HSC.out.1 hok
            have hsg : sendG g o.f o.t o.raw o.fa = g := by unfold sendG; rw [hok, if_neg (by decide)]
            rw [hsg] at H6
            clear hok hsg
            go_wp2
            go_roundw
            case rel => exact ⟨k + 1, g, F, ss, ⟨by omega, by have := HI.out.1; omega, HI.out.2⟩, by go_num, sn_send (HW.out.later ((Below.refl _ _).drew)) H6.out.1 H6.out.2⟩
            case measure => simp [intOf]; omega
          · obtain ⟨rfl, _, rfl⟩ := HSC.out.2 hok
            have HB6 := Lib.hid (sn_send (HW.out.later ((Below.refl _ _).drew)) H6.out.1 H6.out.2)
            have HSP := Lib.hid hok
            clear hok HSC
            obtain ⟨hi, hz0, hz1, hz2⟩ := HI0.out
            obtain ⟨k0, k1, k2, k3⟩ := K6.out
            have hdn : ss.length ≤ 40 := by have := HI.out.1; have := HX.out.2.2.2.1; have := HP.out.2; omega
            have HDN := Lib.hid hdn
            clear hdn a0 a1 a2 a3
            go_upto_region 14 with (first
              | (at_builtin; refine wpList_append_own_at _ rfl (.tmp 83) (.tmp 88) 24 rfl Z 36 i0 (.agg #[.int .i64 0, .int .i64 0, .slice none 0 0, .slice none 0 0]) 4 64 Try.underlying24 hi hz0 hz1 hz2 rfl (by omega) u8 ss.length (ss.flatMap opC) rfl ((HB6.out.later ((Below.refl _ _).alloc (Nat.le_refl _) _)).row) ⟨w6.heap.size, 0, none⟩ 1 1 [.int .i64 o.f, .int .i64 o.t, .slice o.rw.A o.rw.n o.rw.c, .slice o.fw.A o.fw.n o.fw.c] rfl rfl (fun j u hu => World.news_of_block (Whole.new w6 _ _) j u hu) (fun u hu => by simp at hu; rcases hu with rfl | rfl | rfl | rfl <;> rfl) (by have := HDN.out; simp only [maxLen]; omega) (by have := HDN.out; omega) (by have := HB6.out.lw.z.2; simp; omega) ?_; intro v8 w8 q1 q2 q3 q4; have H8 := Lib.hid (And.intro q1 (And.intro q2 q4)); clear q1 q2 q3 q4))
            obtain ⟨F8, hb8⟩ := sn_add (o := o) HB6.out H8.out.1 H8.out.2.1 H8.out.2.2
            have HB8 := Lib.hid hb8
            clear hb8 k0 k1 k2 k3
            go_wp2
            go_roundw
            case rel => exact ⟨k + 1, sendG g o.f o.t o.raw o.fa, F8, ss ++ [o], ⟨by omega, by have := HI.out.1; simp; omega, by rw [sendG_p]; exact HI.out.2.1, by rw [sendG_L HSP.out]; have := keptS_of g o; rw [HI.out.2.1] at this; exact HI.out.2.2.1.snoc this, fun y hy => (List.mem_append.1 hy).elim (HI.out.2.2.2 y) (fun h => by rw [List.mem_singleton.1 h]; exact HO.out)⟩, by go_num, HB8.out⟩
            case measure => simp [intOf]; omega
        · obtain ⟨sv, hsv, hrw⟩ := sn_done hW (fun o h => (HP.out.1.later hW.lw.bl).op o (hso o h)) hmt hgp (by have := HX.out.2.2.2.1; have := HP.out.2; omega)
          subst hsv
          have hsl := hrw.row.len
          have hsm := Nat.le_trans hrw.row.cap hrw.row.max
          obtain ⟨SA, sn, sc⟩ := sv
          dsimp only at hsl hsm
          unfold Sl.v at HW ⊢
          dsimp only at HW ⊢
          have HR := Lib.hid hrw
          have HSL := Lib.hid hsl
          clear hsl hrw hW hn hgp hmt hso HW HI HI0
          obtain ⟨W0, rfl⟩ : ∃ W0, W0 = wr := ⟨_, rfl⟩
          go_wp2
          go_loopw [93] (fun iv wz => ∃ (k : Nat), k ≤ sn ∧ iv = .int .i64 (k : Int) ∧ Below W0.heap.size W0 wz) (fun iv _ => sn - (intOf iv).toNat)
          case atStart => exact ⟨0, Nat.zero_le _, rfl, Below.refl _ _⟩
          case round =>
            obtain ⟨k, hk, rfl, hb0⟩ := hrel
            have HB0 := Lib.hid hb0
            by_cases hkt : k < sn
            · have hrk := HR.out.later hb0
              obtain ⟨o, ho⟩ : ∃ o, o = ss.getD k default := ⟨_, rfl⟩
              obtain ⟨sk, hsk⟩ : ∃ sk, sk = g.L.getD k default := ⟨_, rfl⟩
              have hkl : k < ss.length := by rw [HSL.out]; exact hkt
              have HK := Lib.hid (And.intro hkl (And.intro ho hsk))
              obtain ⟨g0, o0, hA, c0, c1, c2, c3⟩ := hrk.cells hkt
              dsimp only at hA
              subst hA
              rw [← ho] at c0 c1 c2 c3
              unfold Sl.v at c2 c3
              have HD := Lib.hid (du_in hrk.lw.bus.ok hrk.p (hrk.mem hkl))
              rw [← hsk] at HD
              obtain ⟨L, hL⟩ : ∃ L, L = dueS x sk := ⟨_, rfl⟩
              rw [← hL] at HD
              have HDU := Lib.hid (fun W (hW : Below W0.heap.size W0 W) => (show Calls Try.prog 17 #[.pointer (some ⟨b, 0, none⟩), .int .i64 (k : Int)] W (FreshS W L) from by
                have := (HR.out.later hW).due hkl
                rwa [← hsk, ← hL] at this))
              have HTK := Lib.hid (fun W (hW : Below W0.heap.size W0 W) (n c : Nat) => (show Calls Try.prog 19 #[.pointer (some ⟨b, 0, none⟩), .int .i64 (k : Int), .int .i64 (n : Int), .int .i64 (c : Int)] W (HeardD g k n c W) from (HR.out.later hW).take k n c))
              have HOA := Lib.hid (fun W (hW : Below W0.heap.size W0 W) => (show OpAt W o from by rw [ho]; exact (HR.out.later hW).nth hkl))
              have e3 : (0 : Int) ≤ (k : Int) := by omega
              have e4 : (k : Int) < (sn : Int) := by omega
              have HRN := Lib.hid (rn_start (o := o) hb0)
              have HLL := Lib.hid hL
              clear hb0 hrk ho hsk hkl hL
              have hmm := @run_makeMap Try.prog
              go_upto_region 19 with fail
              clear hmm
              obtain ⟨w2, hw2⟩ : ∃ w2, w2 = (wr.alloc (.cells #[.int .i64 o.f, .int .i64 o.t, .slice o.rw.A o.rw.n o.rw.c, .slice o.fw.A o.fw.n o.fw.c] 36)).alloc (.map #[] 0) := ⟨_, rfl⟩
              unfold Sl.v at HRN
              rw [← hw2] at HRN ⊢
              clear hw2 e3 e4 c0 c1 c2 c3
              obtain ⟨B, hB⟩ : ∃ B, B = wr.heap.size := ⟨_, rfl⟩
              obtain ⟨m, hm⟩ : ∃ m, m = B + 1 := ⟨_, rfl⟩
              rw [← hB, ← hm] at HRN
              rw [← hB]
              try rw [← hm]
              clear hB hm
              go_wp2_with (go_at_call 17; refine (HDU.out _ HRN.out.bl).mono ?_; rintro e w3 ⟨dA, dn, dc, rfl, h3, a3, hb3⟩; have HU := Lib.hid (HRN.out.due hb3 h3 a3); clear h3 a3 hb3)
              clear HRN HDU
              have HDL := Lib.hid (And.intro HU.out.raw.len (Nat.le_trans HU.out.raw.cap HU.out.raw.max))
              dsimp only at HDL
              have hdm := HDL.out.2
              go_loopw [103] (fun jv wz => ∃ (j : Nat), j ≤ dn ∧ jv = .int .i64 (j : Int) ∧ DuW W0 B m o L j ⟨dA, dn, dc⟩ wz) (fun jv _ => dn - (intOf jv).toNat)
              case atStart => exact ⟨0, Nat.zero_le _, rfl, HU.out⟩
              case round =>
                obtain ⟨j, hj, rfl, hU⟩ := hrel
                have HV := Lib.hid hU
                by_cases hjt : j < dn
                · as_aux_lemma =>
                  obtain ⟨g1, o1, hA0, hA2⟩ := hU.raw.get (i := j) hjt
                  dsimp only at hA0
                  subst hA0
                  obtain ⟨d, hd⟩ : ∃ d, d = L.getD j default := ⟨_, rfl⟩
                  rw [← hd] at hA2
                  obtain ⟨b0, b1, b2⟩ := duC_cells hA2
                  have hjL : j < L.length := by have := HDL.out; omega
                  have hin := HD.out.1 d (by rw [hd, List.getD_eq_getElem?_getD, List.getElem?_eq_getElem hjL]; exact List.getElem_mem hjL)
                  have HDD := Lib.hid (And.intro hd (And.intro hjL hin))
                  have e5 : (0 : Int) ≤ (j : Int) := by omega
                  have e6 : (j : Int) < (dn : Int) := by omega
                  clear hU hA2 hd hin
                  go_upto_region 22 with fail
                  obtain ⟨w9, hw9⟩ : ∃ w9, w9 = wr.alloc (.cells #[.int .i64 d.r, .int .i64 d.c, .int .i64 d.t] 65) := ⟨_, rfl⟩
                  rw [← hw9]
                  have hd9 : Whole w9 wr.heap.size 65 #[.int .i64 d.r, .int .i64 d.c, .int .i64 d.t] := by rw [hw9]; exact Whole.new _ _ _
                  have H9 := Lib.hid (show DuW W0 B m o L j ⟨some ⟨g1, o1, none⟩, dn, dc⟩ w9 from by rw [hw9]; exact HV.out.later ((Below.refl _ _).alloc (Nat.le_refl _) _))
                  have q0 := hd9.cell 0
                  have q1 := hd9.cell 1
                  have q2 := hd9.cell 2
                  simp at q0 q1 q2
                  clear hw9 hd9 b0 b1 b2 e5 e6
                  go_wp2_with (refine wpList_put_u rfl (.tmp 107) (.tmp 112) (.tmp 114) rfl H9.out.map (by have := HD.out.2; have := HDD.out.2.1; omega) HDD.out.2.2.1 HDD.out.2.2.2.1 HDD.out.2.2.2.2 rfl rfl rfl ?_; intro w10 hm10 hk10; have H10 := Lib.hid (H9.out.put HDD.out.2.1 HDD.out.1 hm10 hk10); clear hm10 hk10)
                  go_roundw
                  case rel => exact ⟨j + 1, by omega, by go_num, H10.out⟩
                  case measure => simp [intOf]; omega
                · obtain rfl : j = dn := by omega
                  have HRD := Lib.hid (HV.out.done (by have := HDL.out; omega))
                  obtain ⟨f, hf⟩ : ∃ f, f = foldU (fun _ _ => none) L := ⟨_, rfl⟩
                  rw [← hf] at HRD
                  have HPL := Lib.hid (And.intro hf (planU_of HX.out.2.1))
                  clear hU hjt hj HV hf HDL hdm HU
                  go_wp2
                  go_loopw [18] (fun nv wz => ∃ (n : Nat), (n : Int) ≤ x.nodes ∧ nv = .int .i64 (n : Int) ∧ RdW W0 B m o f wz) (fun nv _ => x.nodes.toNat - (intOf nv).toNat)
                  case atStart => exact ⟨0, by have := HPL.out.2.n1; omega, rfl, HRD.out⟩
                  case round =>
                    obtain ⟨n, hn, rfl, hrd⟩ := hrel
                    have HRD := Lib.hid hrd
                    obtain ⟨_, _, _, _, pc0⟩ := plan_cells (HR.out.later hrd.bl).lw.plan
                    have pn1 := HPL.out.2.n1
                    have pn2 := HPL.out.2.n2
                    clear hrd
                    by_cases hnt : (n : Int) < x.nodes
                    · skip
                      go_wp2
                      go_loopw [19] (fun cv wz => ∃ (c : Nat), c ≤ 2 ∧ cv = .int .i64 (c : Int) ∧ RdW W0 B m o f wz) (fun cv _ => 2 - (intOf cv).toNat)
                      case atStart => exact ⟨0, by omega, rfl, HRD.out⟩
                      case round =>
                        obtain ⟨c, hc, rfl, hrd⟩ := hrel
                        have HRD := Lib.hid hrd
                        have zn : IntKind.i64.wrap ((n : Int) + 1) = (n : Int) + 1 := IntWalk.i64_in _ (by omega)
                        have zc : IntKind.i64.wrap ((c : Int) + 1) = (c : Int) + 1 := IntWalk.i64_in _ (by omega)
                        by_cases hct : (c : Int) < 2
                        · have HTQ := Lib.hid (HTK.out wr hrd.bl n c)
                          have hkl : k < ss.length := by rw [HSL.out]; exact hkt
                          have HRX := HR.out
                          have gl := HRX.mt.len
                          have hI := hears_is (n := n) (c := c) HRX.p HRX.mt hkl
                          have hY := hears_yes (n := n) (c := c) HRX.p HRX.mt hkl hnt (by omega)
                          have hA := at_in (n := n) (c := c) HRX.lw.bus.ok HRX.p (k := k) (by omega)
                          unfold dueH atH at hI hY
                          unfold atH at hA
                          rw [← HK.out.2.2, ← HLL.out, ← HPL.out.1] at hI hY hA
                          rw [← HK.out.2.1] at hY
                          unfold HeardD at HTQ
                          obtain ⟨av, hav⟩ : ∃ av, av = (f (n : Int) (c : Int)).getD 0 := ⟨_, rfl⟩
                          obtain ⟨dv, hdv⟩ : ∃ dv, dv = (f (n : Int) (c : Int)).isSome := ⟨_, rfl⟩
                          rw [← hav, ← hdv] at hI hY
                          rw [← hav] at hA
                          generalize hdF g (k : Int) (n : Int) (c : Int) = vf at *
                          generalize hdC g (k : Int) (n : Int) (c : Int) = vc at *
                          generalize hdT g (k : Int) (n : Int) (c : Int) = vt at *
                          generalize hdB g (k : Int) (n : Int) (c : Int) = vb at *
                          generalize isG g (k : Int) (n : Int) (c : Int) = isv at *
                          have HI := Lib.hid (And.intro hI (And.intro hY hA))
                          have HDV := Lib.hid (And.intro hav hdv)
                          have hn64 : In64 (n : Int) := ⟨by omega, by omega⟩
                          have hc64 : In64 (c : Int) := ⟨by omega, by omega⟩
                          have HIN := Lib.hid (And.intro hn64 hc64)
                          clear hrd hI hY hA hav hdv hn64 hc64 gl HRX hkl
                          go_upto_region 31 with (go_at_call 19; refine HTQ.out.mono ?_; rintro e w5 ⟨rA, rm, rd, rfl, r5, hb5⟩; have H5 := Lib.hid (And.intro (HRD.out.later hb5) r5); clear r5 hb5)
                          obtain ⟨C, hC⟩ : ∃ C, C = w5.heap.size := ⟨_, rfl⟩
                          obtain ⟨w6, hw6⟩ : ∃ w6, w6 = w5.alloc (.cells #[.int .i64 vf, .int .i64 vc, .int .i64 vt, .slice rA rm rd] 52) := ⟨_, rfl⟩
                          have h6 : TkW W0 B m o f C vf vc vt ⟨rA, rm, rd⟩ vb w6 := by
                            have hb : Below w5.heap.size w5 w6 := by rw [hw6]; exact (Below.refl _ _).alloc (Nat.le_refl _) _
                            exact ⟨H5.out.1.later hb, by rw [hw6, hC]; exact Whole.new _ _ _, H5.out.2.later hb⟩
                          rw [← hw6, ← hC]
                          have H6 := Lib.hid h6
                          obtain ⟨mn, hmap⟩ := h6.rd.map
                          have hlook := hmap.look_ok HIN.out.1 HIN.out.2
                          rw [← HDV.out.1, ← HDV.out.2] at hlook
                          clear h6 hmap hw6 hC HTQ H5
                          go_wp2
                          clear hlook
                          go_loopw [24, 144] (fun sv jv wz => ∃ (j : Nat), j ≤ sn ∧ sv = .bool ((ss.take j).any (askB n av x.air)) ∧ jv = .int .i64 (j : Int) ∧ TkW W0 B m o f C vf vc vt ⟨rA, rm, rd⟩ vb wz) (fun _ jv _ => sn - (intOf jv).toNat)
                          case atStart => exact ⟨0, Nat.zero_le _, by rw [List.take_zero]; rfl, rfl, H6.out⟩
                          case round =>
                            obtain ⟨j, hj, rfl, rfl, hT⟩ := hrel
                            have HT := Lib.hid hT
                            by_cases hjt : j < sn
                            · as_aux_lemma =>
                              have hrw := HR.out.later hT.rd.bl
                              obtain ⟨g1, o1, hA, c0, c1, c2, c3⟩ := hrw.cells hjt
                              dsimp only at hA
                              cases hA
                              have hjl : j < ss.length := by have := HSL.out; omega
                              have hty := hrw.time hjl
                              have hstep := any_take (q := askB (n : Int) av x.air) hjl
                              obtain ⟨y, hy⟩ : ∃ y, y = ss.getD j default := ⟨_, rfl⟩
                              rw [← hy] at c0 c1 c2 c3 hty hstep
                              unfold Sl.v at c2 c3
                              have e3 : (0 : Int) ≤ (j : Int) := by omega
                              have e4 : (j : Int) < (sn : Int) := by omega
                              have HST := Lib.hid (And.intro hstep (And.intro hty HI.out.2.2))
                              generalize (ss.take j).any (askB (n : Int) av x.air) = sa at *
                              clear hrw hy hjl hty hstep hT pc0
                              go_upto_region 36 with fail
                              obtain ⟨w7, hw7⟩ : ∃ w7, w7 = wr.alloc (.cells #[.int .i64 y.f, .int .i64 y.t, .slice y.rw.A y.rw.n y.rw.c, .slice y.fw.A y.fw.n y.fw.c] 36) := ⟨_, rfl⟩
                              rw [← hw7]
                              have hb7 : Below wr.heap.size wr w7 := by rw [hw7]; exact (Below.refl _ _).alloc (Nat.le_refl _) _
                              have hy7 : Whole w7 wr.heap.size 36 #[.int .i64 y.f, .int .i64 y.t, .slice y.rw.A y.rw.n y.rw.c, .slice y.fw.A y.fw.n y.fw.c] := by rw [hw7]; exact Whole.new _ _ _
                              have H7 := Lib.hid (HT.out.later hb7)
                              have q0 := hy7.cell 0
                              have q1 := hy7.cell 1
                              simp at q0 q1
                              obtain ⟨_, pc5, _, _, _⟩ := plan_cells (HR.out.later H7.out.rd.bl).lw.plan
                              obtain ⟨D, hD⟩ : ∃ D, D = wr.heap.size := ⟨_, rfl⟩
                              rw [← hD] at q0 q1 ⊢
                              clear hw7 hb7 hy7 hD c0 c1 c2 c3 e3 e4
                              have zj : IntKind.i64.wrap ((j : Int) + 1) = (j : Int) + 1 := IntWalk.i64_in _ (by omega)
                              cases sa
                              · by_cases r1 : y.f = (n : Int)
                                · have r1b : (y.f == (n : Int)) = true := by simpa using r1
                                  have r1d : decide (y.f = (n : Int)) = true := decide_eq_true r1
                                  by_cases r2 : y.t < av
                                  · have r2d : decide (y.t < av) = true := decide_eq_true r2
                                    have hst := HST.out
                                    have pa1 := HPL.out.2.a1
                                    have pa2 := HPL.out.2.a2
                                    have z1 : IntKind.i64.wrap (av - x.air) = av - x.air := IntWalk.i64_in _ (by omega)
                                    have z2 : IntKind.i64.wrap (y.t + x.air) = y.t + x.air := IntWalk.i64_in _ (by omega)
                                    clear hst pa1 pa2 pn1 pn2
                                    by_cases r3 : av - x.air < y.t + x.air
                                    · have r3d : decide (av - x.air < y.t + x.air) = true := decide_eq_true r3
                                      have HOV := Lib.hid (show askB (n : Int) av x.air y = true from by unfold askB; rw [r1d, r2d, r3d]; rfl)
                                      clear r1 r2 r3
                                      go_wp2
                                      go_roundw
                                      case rel => exact ⟨j + 1, by omega, by rw [HST.out.1, HOV.out]; first | rfl | simp, by go_num, H7.out⟩
                                      case measure => simp [intOf]; omega
                                    · have r3d : decide (av - x.air < y.t + x.air) = false := decide_eq_false r3
                                      have HOV := Lib.hid (show askB (n : Int) av x.air y = false from by unfold askB; rw [r1d, r2d, r3d]; rfl)
                                      clear r1 r2 r3
                                      go_wp2
                                      go_roundw
                                      case rel => exact ⟨j + 1, by omega, by rw [HST.out.1, HOV.out]; first | rfl | simp, by go_num, H7.out⟩
                                      case measure => simp [intOf]; omega
                                  · have r2d : decide (y.t < av) = false := decide_eq_false r2
                                    have HOV := Lib.hid (show askB (n : Int) av x.air y = false from by unfold askB; rw [r1d, r2d]; rfl)
                                    clear r1 r2 pc5 pn1 pn2
                                    go_wp2
                                    go_roundw
                                    case rel => exact ⟨j + 1, by omega, by rw [HST.out.1, HOV.out]; first | rfl | simp, by go_num, H7.out⟩
                                    case measure => simp [intOf]; omega
                                · have r1b : (y.f == (n : Int)) = false := by simpa using r1
                                  have r1d : decide (y.f = (n : Int)) = false := decide_eq_false r1
                                  have HOV := Lib.hid (show askB (n : Int) av x.air y = false from by unfold askB; rw [r1d]; rfl)
                                  clear r1 pc5 q1 pn1 pn2
                                  go_wp2
                                  go_roundw
                                  case rel => exact ⟨j + 1, by omega, by rw [HST.out.1, HOV.out]; first | rfl | simp, by go_num, H7.out⟩
                                  case measure => simp [intOf]; omega
                              · clear pc5 q0 q1 pn1 pn2
                                go_wp2
                                go_roundw
                                case rel => exact ⟨j + 1, by omega, by rw [HST.out.1]; first | rfl | simp, by go_num, H7.out⟩
                                case measure => simp [intOf]; omega
                            · obtain rfl : j = sn := by omega
                              have hall : ss.take j = ss := List.take_of_length_le (by have := HSL.out; omega)
                              rw [hall]
                              have hI := HI.out.1
                              generalize hSV : ss.any (askB (n : Int) av x.air) = sv at *
                              have HV := Lib.hid hSV
                              clear hI hSV hall
                              go_upto_region 38 with fail
                              have hby := hT.box
                              have hbo := hT.rd.box
                              have c0 := hby.cell 0
                              have c1 := hby.cell 1
                              have c2 := hby.cell 2
                              have d0 := hbo.cell 0
                              simp at c0 c1 c2 d0
                              obtain ⟨_, pc5, _, _, _⟩ := plan_cells (HR.out.later hT.rd.bl).lw.plan
                              have hIo := HI.out
                              obtain ⟨hI, hY, hA1, hA2⟩ := hIo
                              have pa1 := HPL.out.2.a1
                              have pa2 := HPL.out.2.a2
                              have za : IntKind.i64.wrap (av - x.air) = av - x.air := IntWalk.i64_in _ (by omega)
                              clear hT hby hbo pc0 hA1 hA2 pa1 pa2
                              go_cut [205] (fun s205 wx => s205 = .bool false ∧ TkW W0 B m o f C vf vc vt ⟨rA, rm, rd⟩ vb wx)
                              case first =>
                                as_aux_lemma =>
                                cases isv
                                · clear hY c0 c1 c2 d0 pc5 za
                                  cases dv
                                  · clear hI
                                    go_wp2
                                    go_meet
                                    exact ⟨rfl, HT.out⟩
                                  · cases sv
                                    · cases hI
                                    · clear hI
                                      go_wp2
                                      go_meet
                                      exact ⟨rfl, HT.out⟩
                                · obtain ⟨rfl, rfl, rfl, rfl, rfl, _⟩ := hY rfl
                                  clear hI hY
                                  go_wp2
                                  go_meet
                                  exact ⟨rfl, HT.out⟩
                              case rest =>
                                obtain ⟨rfl, hT2⟩ := hcut
                                as_aux_lemma =>
                                clear hI hY c0 c1 c2 d0 pc5 za
                                have H2 := Lib.hid hT2
                                have hoa := HOA.out _ hT2.rd.bl
                                have hc1 := conv_u8 hT2.raw
                                have hc2 := conv_u8 hoa.raw
                                unfold Sl.v at hc1 hc2
                                dsimp only at hc1
                                have hse := str_eq vb o.raw
                                have hby := hT2.box
                                have hbo := hT2.rd.box
                                have c3 := hby.cell 3
                                have d2 := hbo.cell 2
                                simp at c3 d2
                                unfold Sl.v at c3 d2
                                dsimp only at c3
                                have hYo := HI.out.2.1
                                obtain ⟨wv, hwv⟩ : ∃ wv, wv = decide (vb = o.raw) := ⟨_, rfl⟩
                                rw [← hwv] at hse hYo
                                have HY := Lib.hid (And.intro hYo (And.intro hT2.raw.len hoa.raw.len))
                                generalize (⟨vb.toArray⟩ : ByteArray) = sl at *
                                generalize (⟨o.raw.toArray⟩ : ByteArray) = sl' at *
                                clear hT2 hoa hby hbo hYo hwv
                                go_upto_region 41 with fail
                                clear hc1 hc2 hse c3 d2
                                have hoa := HOA.out _ H2.out.rd.bl
                                obtain ⟨_, _, _, _, pc0⟩ := plan_cells (HR.out.later H2.out.rd.bl).lw.plan
                                have hbo := H2.out.rd.box
                                have hby := H2.out.box
                                have c3 := hby.cell 3
                                have d2 := hbo.cell 2
                                have d3 := hbo.cell 3
                                simp at c3 d2 d3
                                unfold Sl.v at c3 d2 d3
                                dsimp only at c3
                                obtain ⟨K, hK⟩ : ∃ K : Nat, K = c * x.nodes.toNat + n := ⟨_, rfl⟩
                                have hKi : (c : Int) * x.nodes + (n : Int) = (K : Int) := by
                                  rw [hK, Int.natCast_add, Int.natCast_mul, Int.toNat_of_nonneg (by omega)]
                                have hc01 : (c : Int) = 0 ∨ (c : Int) = 1 := by omega
                                have hKb : (c : Int) * x.nodes ≤ 16 ∧ 0 ≤ (c : Int) * x.nodes := by rcases hc01 with e | e <;> rw [e] <;> omega
                                have z1 : IntKind.i64.wrap ((c : Int) * x.nodes) = (c : Int) * x.nodes := IntWalk.i64_in _ (by omega)
                                have z2 : IntKind.i64.wrap ((c : Int) * x.nodes + (n : Int)) = (K : Int) := by rw [hKi]; exact IntWalk.i64_in _ (by omega)
                                have hcut0 : cutB x o n c = (decide (K < o.fa.length) && (o.fa.getD K default).cut) := by unfold cutB; rw [hK]
                                have hfl := hoa.fa.len
                                have hrl := hoa.raw.len
                                rw [hfl] at hcut0
                                have HCU := Lib.hid hcut0
                                have HO2 := Lib.hid hoa
                                have HRL := Lib.hid hrl
                                have hfm := Nat.le_trans hoa.fa.cap hoa.fa.max
                                have hrm := Nat.le_trans hoa.raw.cap hoa.raw.max
                                clear hcut0 hoa hbo hby hKi hc01 hKb hK hfl hrl
                                go_upto_region 42 with fail
                                clear z1 z2 pc0
                                go_cut [29] (fun s29 wx => s29 = .bool (cutB x o n c && decide (0 < o.raw.length)) ∧ wx = wc)
                                case first =>
                                  as_aux_lemma =>
                                  have e0 : (0 : Int) ≤ (K : Int) := by omega
                                  by_cases hKl : K < o.fw.n
                                  · obtain ⟨g2, o2, hA, hA2⟩ := HO2.out.fa.get (i := K) hKl
                                    obtain ⟨_, _, f2⟩ := faC_cells hA2
                                    rw [hA] at d3
                                    have e1 : (K : Int) < (o.fw.n : Int) := by omega
                                    obtain ⟨cu, hcu⟩ : ∃ cu, cu = (o.fa.getD K default).cut := ⟨_, rfl⟩
                                    rw [← hcu] at f2
                                    have HCV := Lib.hid (show cutB x o n c = cu from by rw [HCU.out, decide_eq_true hKl, Bool.true_and, hcu])
                                    clear hA2 hA hKl hcu
                                    cases cu
                                    · go_wp2
                                      go_meet
                                      exact ⟨by rw [HCV.out]; rfl, rfl⟩
                                    · by_cases h0 : 0 < o.rw.n
                                      · have h0i : (0 : Int) < (o.rw.n : Int) := by omega
                                        have H00 := Lib.hid h0
                                        clear h0
                                        go_wp2
                                        go_meet
                                        exact ⟨by rw [HCV.out, HRL.out, decide_eq_true H00.out]; rfl, rfl⟩
                                      · have h0i : ¬ (0 : Int) < (o.rw.n : Int) := by omega
                                        have H00 := Lib.hid h0
                                        clear h0
                                        go_wp2
                                        go_meet
                                        exact ⟨by rw [HCV.out, HRL.out, decide_eq_false H00.out]; rfl, rfl⟩
                                  · have e1 : ¬ (K : Int) < (o.fw.n : Int) := by omega
                                    have HCV := Lib.hid (show cutB x o n c = false from by rw [HCU.out, decide_eq_false hKl, Bool.false_and])
                                    clear hKl
                                    go_wp2
                                    go_meet
                                    exact ⟨by rw [HCV.out]; rfl, rfl⟩
                                case rest =>
                                  obtain ⟨rfl, rfl⟩ := hcut
                                  as_aux_lemma =>
                                  have hy := HY.out
                                  obtain ⟨hy1, hy2, hy3⟩ := hy
                                  dsimp only at hy2
                                  cases isv
                                  · clear hy1 hy2 hy3 c3 d2 d3
                                    go_wp2
                                    go_roundw
                                    case rel => exact ⟨c + 1, by omega, by go_num, H2.out.rd⟩
                                    case measure => simp [intOf]; omega
                                  · obtain ⟨_, _, _, _, _, y1, y2⟩ := hy1 rfl
                                    have e1 : ¬ (o.rw.n : Int) < (rm : Int) := by omega
                                    generalize (cutB x o n c && decide (0 < o.raw.length)) = cu at *
                                    subst y1
                                    clear y2 hy1 hy2 hy3 d3
                                    cases cu
                                    all_goals
                                      go_wp2
                                      go_roundw
                                      case rel => exact ⟨c + 1, by omega, by go_num, H2.out.rd⟩
                                      case measure => simp [intOf]; omega
                        · clear hrd
                          go_wp2
                          go_roundw
                          case rel => exact ⟨n + 1, by omega, by go_num, HRD.out⟩
                          case measure => simp [intOf]; omega
                    · go_wp2
                      go_roundw
                      case rel => exact ⟨k + 1, by omega, by go_num, HRD.out.bl⟩
                      case measure => simp [intOf]; omega
            · obtain rfl : k = sn := by omega
              have HLN := Lib.hid (HR.out.later hb0).len
              rw [HSL.out] at HLN
              clear hb0 hkt
              go_wp2_with (go_at_call 13; refine HLN.out.mono ?_; rintro e wq ⟨rfl, hq⟩; obtain rfl := hq.symm)
              go_ret
              exact ⟨rfl, k_then HB0.out HR.out.lw.bl⟩
    · have hchk : chkL x = 70 := if_neg hch
      rw [hchk] at HC
      clear hgr hch hchk
      go_enter Try.func6, Try.ntmps6
      go_wp2_with (first
        | (go_at_call 23; refine (HA.out _).mono ?_; rintro e w1 ⟨rfl, hb1⟩; have HB1 := Lib.hid (And.intro (k_then hb1 H0.out.1) (k_later hb1 H0.out.2)); clear hb1)
        | (go_at_call 8; refine (HG.out _ HB1.out.1).mono ?_; rintro e w2 ⟨rfl, hb2⟩; have HB2 := Lib.hid (And.intro (k_then hb2 HB1.out.1) (k_later hb2 HB1.out.2)); clear hb2)
        | (refine wpList_load_want rfl 23 _ rfl w.heap.size rfl 23 x.cells (0, 0) _ HB2.out.2 Try.underlying23 rfl HS.out.plan ?_)
        | (go_at_call 24; refine (HC.out _).mono ?_; rintro e w3 ⟨rfl, hb3⟩; have HB3 := Lib.hid (k_then hb3 HB2.out.1); clear hb3))
      go_ret
      exact ⟨rfl, HB3.out⟩
  · rw [hgr] at HG
    clear hgr
    go_enter Try.func6, Try.ntmps6
    go_wp2_with (first
      | (go_at_call 23; refine (HA.out _).mono ?_; rintro e w1 ⟨rfl, hb1⟩; have HB1 := Lib.hid (k_then hb1 H0.out.1); clear hb1)
      | (go_at_call 8; refine (HG.out _ HB1.out).mono ?_; rintro e w2 ⟨rfl, hb2⟩; have HB2 := Lib.hid (k_then hb2 HB1.out); clear hb2))
    go_ret
    exact ⟨rfl, HB2.out⟩
end Go.Proofs.Ytmplidgafdobkaa
