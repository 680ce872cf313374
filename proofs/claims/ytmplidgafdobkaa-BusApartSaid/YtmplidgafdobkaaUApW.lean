/- BusApart: what is so of memory in each round. No condition. -/
import Derived.Test.YtmplidgafdobkaaUApM
import Derived.Test.YtmplidgafdobkaaUAlive
import Derived.Test.YtmplidgafdobkaaUGreat
namespace Go.Proofs.Ytmplidgafdobkaa
open Go.RowKit Go.Shelf

/-- The blocks that a bus of a law does not touch: all ahead of New, and the block m. -/
def FoB (Z m : Nat) : Nat → Prop := fun k => k < Z ∨ k = m
/-- Memory in a law: the plan's box, the bus, a map. -/
structure ApW (w : World) (x : Pl) (Z b m : Nat) (g : Lg) (f : Int → Int → Option Int) (n : Nat) (W : World) : Prop where
  z : w.heap.size < Z ∧ Z ≤ m
  bl : Below w.heap.size w W
  plan : Whole W w.heap.size 23 x.cells
  bus : BusF (FoB Z m) b g W
  bnd : Bnd (FoB Z m) W
  map : MapU W m n f
section
variable {w W W' : World} {x : Pl} {Z b m n : Nat} {g g' : Lg} {f : Int → Int → Option Int}
theorem ApW.later (h : ApW w x Z b m g f n W) (hb : Below W.heap.size W W') : ApW w x Z b m g f n W' :=
  ⟨h.z, k_then hb h.bl, k_later hb h.plan, h.bus.later hb, h.bnd.more hb.size, h.map.later hb⟩
theorem ApW.drewN (h : ApW w x Z b m g f n W) (k : Nat) : ApW w x Z b m g f n (W.drewN k) := h.later (below_drewN (Below.refl _ _) k)
theorem ApW.drew (h : ApW w x Z b m g f n W) : ApW w x Z b m g f n W.drew := h.later ((Below.refl _ _).drew)
theorem ApW.send (h : ApW w x Z b m g f n W) (hb : BusF (FoB Z m) b g' W') (hk : KeptF (FoB Z m) W W') : ApW w x Z b m g' f n W' := by
  have z := h.z
  exact ⟨h.z, below_on h.bl hk (fun i hi => by
      rcases Nat.lt_or_ge i Z with q | q
      · exact absurd (.inl q) hi
      · omega) h.bl.size, h.plan.kept hk (fun q => q (.inl z.1)), hb, h.bnd.more hk.size, h.map.kept hk (fun q => q (.inr rfl))⟩
theorem ApW.put {n' : Nat} {f' : Int → Int → Option Int} (h : ApW w x Z b m g f n W) (hm : MapU W' m n' f') (hk : Kept (fun i => i = m) W W') : ApW w x Z b m g f' n' W' := by
  have z := h.z
  exact ⟨h.z, below_on h.bl hk (fun i hi => by have hi : i = m := hi; omega) h.bl.size, h.plan.kept hk (fun q => by have q : w.heap.size = m := q; omega), h.bus.kept hk (fun k hk => .inr hk), h.bnd.more hk.size, hm⟩
/-- New, and a map behind it. -/
theorem ap_made {W3 W4 : World} (h3 : Below w.heap.size w W3 ∧ Whole W3 w.heap.size 23 x.cells) (hb : BusF (fun k => k < W3.heap.size) b g W4) (h4 : Below W3.heap.size W3 W4) : ApW w x W3.heap.size b W4.heap.size g (fun _ _ => none) 0 (W4.alloc (.map #[] 0)) := by
  have hal : Below W4.heap.size W4 (W4.alloc (.map #[] 0)) := (Below.refl _ _).alloc (Nat.le_refl _) _
  have hz := h4.size
  have hz2 : (W4.alloc (.map #[] 0)).heap.size = W4.heap.size + 1 := by simp
  refine ⟨⟨h3.2.lt, hz⟩, k_then hal (k_then h4 h3.1), k_later hal (k_later h4 h3.2), (hb.new hal).less (fun k hk => hk.imp id (fun e => ?_)), fun k hk => ?_, MapU.made _⟩
  · subst e; exact ⟨Nat.le_refl _, by omega⟩
  · rw [hz2]
    rcases hk with q | q
    · omega
    · omega
/-- The cells of the plan's box that laws read. -/
theorem plan_cells {W : World} {B : Nat} {x : Pl} (h : Whole W B 23 x.cells) : W.cell? ⟨B, 2, none⟩ = some (.int .i64 x.slot) ∧ W.cell? ⟨B, 5, none⟩ = some (.int .i64 x.air) ∧ W.cell? ⟨B, 6, none⟩ = some (.int .i64 x.dmin) ∧ W.cell? ⟨B, 7, none⟩ = some (.int .i64 x.dmax) ∧ W.cell? ⟨B, 0, none⟩ = some (.int .i64 x.nodes) :=
  ⟨h.cell 2, h.cell 5, h.cell 6, h.cell 7, h.cell 0⟩
/-- A sending of a law, with what Send is given. -/
theorem ap_send (h : ApW w x Z b m g f n W) (hl : g.L.length ≤ 1000000) {o : OpA} (ho : OpAt W o) (h1 : o.raw.length ≤ 1000000) (h2 : o.fa.length ≤ 1000000) :
    Calls Try.prog 11 #[.pointer (some ⟨b, 0, none⟩), .int .i64 o.f, .int .i64 o.t, o.rw.v, o.fw.v] W fun e w' => e = .returned (sendV g o.f o.t o.fa) ∧ ApW w x Z b m (sendG g o.f o.t o.raw o.fa) f n w' :=
  (send_f h.bus h.bnd o.f o.t o.rw o.fw o.raw o.fa ho.raw ho.fa (by rw [← ho.raw.len]; exact h1) (by rw [← ho.fa.len]; exact h2) hl).mono fun e w' ⟨k1, k2, k3⟩ => ⟨k1, h.send k2 k3⟩
/-- A list of places in new memory, as a slice. -/
def FreshS (w : World) (L : List Du) (e : Ending) (w' : World) : Prop := ∃ (A : Option Addr) (n c : Nat), e = .returned (.slice A n c) ∧ RSrc duC 3 w' ⟨A, n, c⟩ L ∧ (∀ ad, A = some ad → w.heap.size ≤ ad.block) ∧ Below w.heap.size w w'
theorem due_s {F : Nat → Prop} (h : BusF F b g W) (id : Int) : Calls Try.prog 17 #[.pointer (some ⟨b, 0, none⟩), .int .i64 id] W (FreshS W (dueG g id)) :=
  (due_f h id).mono fun e w' ⟨v, h1, h2, h3⟩ => by
    obtain ⟨d, k1, k2, k3⟩ := rsrc_of_own du_len rfl h2
    refine ⟨d.A, d.n, d.c, by rw [h1, k1]; rfl, k2, fun ad e => ?_, h3⟩
    rw [e] at k3
    exact (own_typed h2 k3.symm).1
end
theorem great_small {os : List OpA} (h : greatL os = false) : os.length ≤ 40 ∧ ∀ k, k < os.length → (os.getD k default).raw.length ≤ 100 ∧ (os.getD k default).fa.length ≤ 40 := by
  unfold greatL at h
  rw [Bool.or_eq_false_iff] at h
  refine ⟨by have := of_decide_eq_false h.1; omega, fun k hk => ?_⟩
  have := List.any_eq_false.1 h.2 _ (List.getElem_mem hk)
  rw [List.getD_eq_getElem?_getD, List.getElem?_eq_getElem hk]
  unfold greatO at this
  simp at this ⊢
  omega
end Go.Proofs.Ytmplidgafdobkaa
