/- fault and happening of a reader, by contracts. No condition. -/
import Derived.Test.YtljcaigaofalbaaQP
namespace Go.Proofs.Ytljcaigaofalbaa
open Go.RowKit Go.Shelf

/-- A reader, beside blocks that lie whole, none of them its own; from w0 on, with S0 its blocks there. -/
structure RdW (w0 : World) (S0 : Nat → Prop) (W : World) (S : Nat → Prop) (r : Nat) (l : List UInt8) (hl : List (Nat × TypeId × Array Value)) : Prop where
  rd : RdAt W S r l
  held : ∀ y ∈ hl, Whole W y.1 y.2.1 y.2.2 ∧ ¬ S y.1
  nodup : (hl.map (·.1)).Nodup
  kept : Kept S0 w0 W
  grow : ∀ k, S k → Grow S0 w0 W k
section
variable {w0 W W' : World} {S0 S : Nat → Prop} {r : Nat} {l l' : List UInt8} {hl : List (Nat × TypeId × Array Value)}
theorem RdW.start (h : RdAt w0 S0 r l) : RdW w0 S0 w0 S0 r l [] := ⟨h, fun _ h => (by cases h), List.nodup_nil, Kept.refl _ _, fun _ h => .inl h⟩
theorem RdW.called {v : Value} {e : Ending} (h : RdW w0 S0 W S r l hl) (hr : Red W S r v l' e W') : e = .returned v ∧ RdW w0 S0 W' (Grow S W W') r l' hl := by
  obtain ⟨rfl, h1, h2⟩ := hr
  have hz := h.kept.size
  have hz2 := h2.size
  refine ⟨rfl, h1, fun y hy => ?_, h.nodup, h.kept.trans h2 (fun i hi hs => ?_), fun k hk => ?_⟩
  · obtain ⟨a, b⟩ := h.held y hy
    exact ⟨a.kept h2 b, fun hg => by
      rcases hg with hg | hg
      · exact b hg
      · have := a.lt; omega⟩
  · rcases h.grow i hs with hg | hg
    · exact hg
    · omega
  · rcases hk with hk | hk
    · rcases h.grow k hk with hg | hg
      · exact .inl hg
      · exact .inr ⟨hg.1, by omega⟩
    · exact .inr ⟨by omega, hk.2⟩
theorem RdW.alloc (h : RdW w0 S0 W S r l hl) (t : TypeId) (cs : Array Value) : RdW w0 S0 (W.alloc (.cells cs t)) S r l ((W.heap.size, t, cs) :: hl) := by
  have hb : Below W.heap.size W (W.alloc (.cells cs t)) := (Below.refl _ _).alloc (Nat.le_refl _) _
  refine ⟨h.rd.later hb, fun y hy => ?_, ?_, h.kept.alloc _, fun k hk => ?_⟩
  · rcases List.mem_cons.1 hy with rfl | hy
    · exact ⟨Whole.new W t cs, fun hs => by have hs : S W.heap.size := hs; have := h.rd.lt _ hs; omega⟩
    · obtain ⟨a, b⟩ := h.held y hy
      exact ⟨a.alloc _, b⟩
  · rw [List.map_cons, List.nodup_cons]
    refine ⟨fun hm => ?_, h.nodup⟩
    obtain ⟨y, hy, e⟩ := List.mem_map.1 hm
    have := (h.held y hy).1.lt
    have e : y.1 = W.heap.size := e
    omega
  · rcases h.grow k hk with hg | hg
    · exact .inl hg
    · exact .inr ⟨hg.1, by simp; omega⟩
theorem RdW.set {B : Nat} {t : TypeId} {cs : Array Value} (h : RdW w0 S0 W S r l ((B, t, cs) :: hl)) (hB : w0.heap.size ≤ B) (i : Nat) (v : Value) : RdW w0 S0 (W.setCell ⟨B, i, none⟩ v) S r l ((B, t, cs.setIfInBounds i v) :: hl) := by
  obtain ⟨a, b⟩ := h.held _ (List.mem_cons_self ..)
  have k : Kept (fun k => k = B) W (W.setCell ⟨B, i, none⟩ v) := Kept.setCell (S := fun k => k = B) (Kept.refl _ W) (p := ⟨B, i, none⟩) (.inl rfl) _
  have hnd := h.nodup
  rw [List.map_cons, List.nodup_cons] at hnd
  refine ⟨h.rd.kept k (fun j hj e => b (by have e : j = B := e; exact e ▸ hj)), fun y hy => ?_, by rw [List.map_cons, List.nodup_cons]; exact hnd, h.kept.setCell (.inr hB) _, fun j hj => ?_⟩
  · rcases List.mem_cons.1 hy with rfl | hy
    · exact ⟨a.set i v, b⟩
    · obtain ⟨c, d⟩ := h.held y (List.mem_cons_of_mem _ hy)
      exact ⟨c.kept k (fun e => hnd.1 (List.mem_map.2 ⟨y, hy, e⟩)), d⟩
  · rcases h.grow j hj with hg | hg
    · exact .inl hg
    · exact .inr ⟨hg.1, by simp [World.setCell]; omega⟩
theorem RdW.rot {y z : Nat × TypeId × Array Value} (h : RdW w0 S0 W S r l (y :: z :: hl)) : RdW w0 S0 W S r l (z :: y :: hl) := by
  refine ⟨h.rd, fun q hq => h.held q (by simp only [List.mem_cons] at hq ⊢; rcases hq with a | a | a <;> simp [a]), ?_, h.kept, h.grow⟩
  have := h.nodup
  simp only [List.map_cons, List.nodup_cons, List.mem_cons, not_or] at this ⊢
  exact ⟨⟨fun e => this.1.1 e.symm, this.2.1⟩, this.1.2, this.2.2⟩
theorem RdW.fin (h : RdW w0 S0 W S r l hl) (hlt : ∀ k, S0 k → k < w0.heap.size) : RdAt W (Grow S0 w0 W) r l ∧ Kept S0 w0 W := by
  obtain ⟨i, T, a, b, c, d⟩ := h.rd.rd
  exact ⟨⟨⟨i, T, a, b, c, fun k hk => h.grow k (d k hk)⟩, h.grow r h.rd.own, Grow.lt hlt h.kept.size⟩, h.kept⟩
theorem RdW.whole {y : Nat × TypeId × Array Value} (h : RdW w0 S0 W S r l hl) (hy : y ∈ hl) : Whole W y.1 y.2.1 y.2.2 := (h.held y hy).1

/-- The closure called. -/
theorem fold_w (h : RdW w0 S0 W S r l hl) {b : Nat} {t : TypeId} (hb : (b, t, #[.pointer (some ⟨r, 0, none⟩)]) ∈ hl) (wd : Nat) (lo hi : Int) (l' : List UInt8) (q : Int) (hl' : l.drop wd = l') (hq : lo + num wd (hi - lo + 1) l = q)
    (hwd : isW (wd : Int) = true) (h4 : wd ≤ 4) (hll : l.length ≤ 1000000000) (hlo : -1000000 ≤ lo) (hle : lo ≤ hi) (hhi : hi ≤ 3000000000) :
    Calls Try.prog 87 #[.agg #[.int .i64 (wd : Int), .int .i64 lo, .int .i64 hi], .pointer (some ⟨b, 0, none⟩)] W fun e W' => e = .returned (.int .i64 q) ∧ ∃ S', RdW w0 S0 W' S' r l' hl := by
  subst hl' hq
  exact (fold_any W S r b l wd lo hi h.rd ((h.whole hb).cell 0) (h.held _ hb).2 hwd h4 hll hlo hle hhi).mono fun _ _ k => ⟨(h.called k).1, _, (h.called k).2⟩
end

set_option maxHeartbeats 1000000 in
theorem folding_any (r : Nat) (w : World) : Calls Try.prog 54 #[.pointer (some ⟨r, 0, none⟩)] w fun e w' => e = .returned (.func (.func 87) #[] #[.pointer (some ⟨w.heap.size, 0, none⟩)]) ∧ w' = w.alloc (.cells #[.pointer (some ⟨r, 0, none⟩)] 85) := by
  have hmf : ∀ (fn : Fn) (first cap : Array Value) (w : World), (Instr.makeFunc fn first cap).run Try.prog w = .ok (.func fn first cap) w := fun _ _ _ _ => rfl
  go_enter Try.func54, Try.ntmps54
  go_wp2
  go_ret
  exact ⟨rfl, rfl⟩

theorem k87 : ∀ args W, (callFunc 87 args).run Try.prog W = .ok (.enter 87 args) W := enters_of Try.func87 (by kernel_rfl) rfl
/-- The fault whose numbers stand next. -/
def ftD (x : Pl) (l : List UInt8) : Ft := ⟨num 1 x.nodes l, num 2 65536 (l.drop 1), num 1 (x.nodes + 1) (l.drop 3), 1 + num 1 3 (l.drop 4), decide (num 1 2 (l.drop 5) = 1)⟩


set_option maxRecDepth 100000 in
set_option maxHeartbeats 4000000 in
theorem fault_walk (x : Pl) (hx : OkP x) (w : World) (S : Nat → Prop) (r g : Nat) (l0 l1 l2 l3 l4 l5 : List UInt8) (q0 q1 q2 q3 q4 : Int) (h : RdAt w S r l0) (hg : SpAt w g x) (hgS : ¬ S g) (hll : l0.length ≤ 1000000000)
    (a0 : Hid (l0.drop 1 = l1)) (a1 : Hid (l1.drop 2 = l2)) (a2 : Hid (l2.drop 1 = l3)) (a3 : Hid (l3.drop 1 = l4)) (a4 : Hid (l4.drop 1 = l5))
    (p0 : Hid (0 + num 1 (x.nodes - 1 - 0 + 1) l0 = q0)) (p1 : Hid (0 + num 2 (65535 - 0 + 1) l1 = q1)) (p2 : Hid (0 + num 1 (x.nodes - 0 + 1) l2 = q2)) (p3 : Hid (1 + num 1 (3 - 1 + 1) l3 = q3)) (p4 : Hid (0 + num 1 (1 - 0 + 1) l4 = q4)) :
    Calls Try.prog 91 #[.pointer (some ⟨r, 0, none⟩), .pointer (some ⟨g, 0, none⟩)] w (Red w S r (.agg #[.int .i64 q0, .int .i64 q1, .int .i64 q2, .int .i64 q3, .bool (q4 == 1)]) l5) := by
  have hmf : ∀ (fn : Fn) (first cap : Array Value) (w : World), (Instr.makeFunc fn first cap).run Try.prog w = .ok (.func fn first cap) w := fun _ _ _ _ => rfl
  have n1 := hx.n1
  have n2 := hx.n2
  have z0 := Lib.hid hll
  have z1 := Lib.hid (show l1.length ≤ 1000000000 by rw [← a0.out, List.length_drop]; omega)
  have z2 := Lib.hid (show l2.length ≤ 1000000000 by rw [← a1.out, List.length_drop]; have := z1.out; omega)
  have z3 := Lib.hid (show l3.length ≤ 1000000000 by rw [← a2.out, List.length_drop]; have := z2.out; omega)
  have z4 := Lib.hid (show l4.length ≤ 1000000000 by rw [← a3.out, List.length_drop]; have := z3.out; omega)
  have hlt := h.lt
  have h0 : RdW w S w S r l0 [(g, 80, spansC x)] := ⟨h, fun y hy => by rw [List.mem_singleton] at hy; subst hy; exact ⟨hg, hgS⟩, by simp, Kept.refl _ _, fun _ h => .inl h⟩
  have h1 := h0.alloc 54 #[.int .i64 0, .int .i64 0, .int .i64 0, .int .i64 0, .bool false]
  have h2 := (h1.alloc 85 #[.pointer (some ⟨r, 0, none⟩)]).rot
  simp only [World.size_alloc] at h2
  have HB := Lib.hid h2
  have HLT := Lib.hid hlt
  have kk := k87
  clear h hg hgS h0 h1 h2 hll hlt
  go_enter Try.func91, Try.ntmps91
  go_upto_region 2 with (go_at_call 54; refine (folding_any _ _).mono ?_; rintro e w1 ⟨rfl, hw1⟩; have HW1 := Lib.hid hw1; clear hw1)
  have hR0 : RdW w S w1 S r l0 [(w.heap.size, 54, #[.int .i64 0, .int .i64 0, .int .i64 0, .int .i64 0, .bool false]), (w.heap.size + 1, 85, #[.pointer (some ⟨r, 0, none⟩)]), (g, 80, spansC x)] := by rw [HW1.out]; exact HB.out
  clear HW1 HB
  obtain ⟨s1, s2, s3⟩ := sp_node (hR0.whole (y := (g, 80, spansC x)) (by simp))
  have HR0 := Lib.hid hR0
  clear hR0
  go_upto_region 3 with (go_at_call 87; refine (fold_w HR0.out (b := w.heap.size + 1) (t := 85) (by simp) 1 (0) (x.nodes - 1) l1 q0 a0.out p0.out rfl (by decide) z0.out (by omega) (by omega) (by omega)).mono ?_; rintro e w2 ⟨rfl, S1, hR⟩; have cB := (hR.whole (List.mem_cons_self ..)).cell 0; have fB := (hR.whole (List.mem_cons_self ..)).frozen 0; simp at cB; have HQ := Lib.hid hR; clear hR s1 s2 s3)
  obtain ⟨V1, hV⟩ : ∃ V : World, V = w2.setCell ⟨w.heap.size, 0, none⟩ (.int .i64 q0) := ⟨_, rfl⟩
  rw [← hV]
  have hR1 : RdW w S V1 S1 r l1 [(w.heap.size, 54, #[.int .i64 q0, .int .i64 0, .int .i64 0, .int .i64 0, .bool false]), (w.heap.size + 1, 85, #[.pointer (some ⟨r, 0, none⟩)]), (g, 80, spansC x)] := by
    rw [hV]
    exact HQ.out.set (Nat.le_refl _) 0 (.int .i64 q0)
  clear hV cB fB HQ HR0
  obtain ⟨s1, s2, s3⟩ := sp_nth (hR1.whole (y := (g, 80, spansC x)) (by simp))
  have HR1 := Lib.hid hR1
  clear hR1
  go_upto_region 4 with (go_at_call 87; refine (fold_w HR1.out (b := w.heap.size + 1) (t := 85) (by simp) 2 (0) (65535) l2 q1 a1.out p1.out rfl (by decide) z1.out (by omega) (by omega) (by omega)).mono ?_; rintro e w3 ⟨rfl, S2, hR⟩; have cB := (hR.whole (List.mem_cons_self ..)).cell 1; have fB := (hR.whole (List.mem_cons_self ..)).frozen 1; simp at cB; have HQ := Lib.hid hR; clear hR s1 s2 s3)
  obtain ⟨V2, hV⟩ : ∃ V : World, V = w3.setCell ⟨w.heap.size, 1, none⟩ (.int .i64 q1) := ⟨_, rfl⟩
  rw [← hV]
  have hR2 : RdW w S V2 S2 r l2 [(w.heap.size, 54, #[.int .i64 q0, .int .i64 q1, .int .i64 0, .int .i64 0, .bool false]), (w.heap.size + 1, 85, #[.pointer (some ⟨r, 0, none⟩)]), (g, 80, spansC x)] := by
    rw [hV]
    exact HQ.out.set (Nat.le_refl _) 1 (.int .i64 q1)
  clear hV cB fB HQ HR1
  obtain ⟨s1, s2, s3⟩ := sp_receiver (hR2.whole (y := (g, 80, spansC x)) (by simp))
  have HR2 := Lib.hid hR2
  clear hR2
  go_upto_region 5 with (go_at_call 87; refine (fold_w HR2.out (b := w.heap.size + 1) (t := 85) (by simp) 1 (0) (x.nodes) l3 q2 a2.out p2.out rfl (by decide) z2.out (by omega) (by omega) (by omega)).mono ?_; rintro e w4 ⟨rfl, S3, hR⟩; have cB := (hR.whole (List.mem_cons_self ..)).cell 2; have fB := (hR.whole (List.mem_cons_self ..)).frozen 2; simp at cB; have HQ := Lib.hid hR; clear hR s1 s2 s3)
  obtain ⟨V3, hV⟩ : ∃ V : World, V = w4.setCell ⟨w.heap.size, 2, none⟩ (.int .i64 q2) := ⟨_, rfl⟩
  rw [← hV]
  have hR3 : RdW w S V3 S3 r l3 [(w.heap.size, 54, #[.int .i64 q0, .int .i64 q1, .int .i64 q2, .int .i64 0, .bool false]), (w.heap.size + 1, 85, #[.pointer (some ⟨r, 0, none⟩)]), (g, 80, spansC x)] := by
    rw [hV]
    exact HQ.out.set (Nat.le_refl _) 2 (.int .i64 q2)
  clear hV cB fB HQ HR2
  obtain ⟨s1, s2, s3⟩ := sp_channels (hR3.whole (y := (g, 80, spansC x)) (by simp))
  have HR3 := Lib.hid hR3
  clear hR3
  go_upto_region 6 with (go_at_call 87; refine (fold_w HR3.out (b := w.heap.size + 1) (t := 85) (by simp) 1 (1) (3) l4 q3 a3.out p3.out rfl (by decide) z3.out (by omega) (by omega) (by omega)).mono ?_; rintro e w5 ⟨rfl, S4, hR⟩; have cB := (hR.whole (List.mem_cons_self ..)).cell 3; have fB := (hR.whole (List.mem_cons_self ..)).frozen 3; simp at cB; have HQ := Lib.hid hR; clear hR s1 s2 s3)
  obtain ⟨V4, hV⟩ : ∃ V : World, V = w5.setCell ⟨w.heap.size, 3, none⟩ (.int .i64 q3) := ⟨_, rfl⟩
  rw [← hV]
  have hR4 : RdW w S V4 S4 r l4 [(w.heap.size, 54, #[.int .i64 q0, .int .i64 q1, .int .i64 q2, .int .i64 q3, .bool false]), (w.heap.size + 1, 85, #[.pointer (some ⟨r, 0, none⟩)]), (g, 80, spansC x)] := by
    rw [hV]
    exact HQ.out.set (Nat.le_refl _) 3 (.int .i64 q3)
  clear hV cB fB HQ HR3
  obtain ⟨s1, s2, s3⟩ := sp_cut (hR4.whole (y := (g, 80, spansC x)) (by simp))
  have HR4 := Lib.hid hR4
  clear hR4
  go_upto_region 7 with (go_at_call 87; refine (fold_w HR4.out (b := w.heap.size + 1) (t := 85) (by simp) 1 (0) (1) l5 q4 a4.out p4.out rfl (by decide) z4.out (by omega) (by omega) (by omega)).mono ?_; rintro e w6 ⟨rfl, S5, hR⟩; have cB := (hR.whole (List.mem_cons_self ..)).cell 4; have fB := (hR.whole (List.mem_cons_self ..)).frozen 4; simp at cB; have HQ := Lib.hid hR; clear hR s1 s2 s3)
  obtain ⟨V5, hV⟩ : ∃ V : World, V = w6.setCell ⟨w.heap.size, 4, none⟩ (.bool (q4 == 1)) := ⟨_, rfl⟩
  rw [← hV]
  have hR5 : RdW w S V5 S5 r l5 [(w.heap.size, 54, #[.int .i64 q0, .int .i64 q1, .int .i64 q2, .int .i64 q3, .bool (q4 == 1)]), (w.heap.size + 1, 85, #[.pointer (some ⟨r, 0, none⟩)]), (g, 80, spansC x)] := by
    rw [hV]
    exact HQ.out.set (Nat.le_refl _) 4 (.bool (q4 == 1))
  clear hV cB fB HQ HR4
  have b := hR5.whole (List.mem_cons_self ..)
  have b0 := b.cell 0
  have b1 := b.cell 1
  have b2 := b.cell 2
  have b3 := b.cell 3
  have b4 := b.cell 4
  have f0 := b.frozen 0
  have f1 := b.frozen 1
  have f2 := b.frozen 2
  have f3 := b.frozen 3
  have f4 := b.frozen 4
  simp at b0 b1 b2 b3 b4
  have HF := Lib.hid hR5
  clear hR5 b
  go_wp2
  obtain ⟨V6, hV⟩ : ∃ V : World, V = (((((V5.setCell ⟨w.heap.size, 0, none⟩ (.int .i64 q0)).setCell ⟨w.heap.size, 1, none⟩ (.int .i64 q1)).setCell ⟨w.heap.size, 2, none⟩ (.int .i64 q2)).setCell ⟨w.heap.size, 3, none⟩ (.int .i64 q3)).setCell ⟨w.heap.size, 4, none⟩ (.bool (q4 == 1))) := ⟨_, rfl⟩
  rw [← hV]
  have hR6 : RdW w S V6 S5 r l5 [(w.heap.size, 54, #[.int .i64 q0, .int .i64 q1, .int .i64 q2, .int .i64 q3, .bool (q4 == 1)]), (w.heap.size + 1, 85, #[.pointer (some ⟨r, 0, none⟩)]), (g, 80, spansC x)] := by
    rw [hV]
    exact ((((HF.out.set (Nat.le_refl _) 0 (.int .i64 q0)).set (Nat.le_refl _) 1 (.int .i64 q1)).set (Nat.le_refl _) 2 (.int .i64 q2)).set (Nat.le_refl _) 3 (.int .i64 q3)).set (Nat.le_refl _) 4 (.bool (q4 == 1))
  refine bodyPost_ret (v := .agg #[.int .i64 q0, .int .i64 q1, .int .i64 q2, .int .i64 q3, .bool (q4 == 1)]) (results_cell_row rfl _ _ w.heap.size 54 #[.int .i64 q0, .int .i64 q1, .int .i64 q2, .int .i64 q3, .bool (q4 == 1)] (0, 0) _ rfl (hR6.whole (List.mem_cons_self ..)) Try.underlying54 rfl (by kernel_rfl)) rfl ⟨rfl, hR6.fin HLT.out⟩
theorem fault_any (x : Pl) (hx : OkP x) (w : World) (S : Nat → Prop) (r g : Nat) (l : List UInt8) (h : RdAt w S r l) (hg : SpAt w g x) (hgS : ¬ S g) (hll : l.length ≤ 1000000000) :
    Calls Try.prog 91 #[.pointer (some ⟨r, 0, none⟩), .pointer (some ⟨g, 0, none⟩)] w (Red w S r (ftV (ftD x l)) (l.drop 6)) := by
  have hq : ((num 1 2 (l.drop 5) == 1) : Bool) = decide (num 1 2 (l.drop 5) = 1) := by rw [Bool.eq_iff_iff]; simp
  have := fault_walk x hx w S r g l (l.drop 1) (l.drop 3) (l.drop 4) (l.drop 5) (l.drop 6) (num 1 x.nodes l) (num 2 65536 (l.drop 1)) (num 1 (x.nodes + 1) (l.drop 3)) (1 + num 1 3 (l.drop 4)) (num 1 2 (l.drop 5)) h hg hgS hll
    (Lib.hid rfl) (Lib.hid (by rw [List.drop_drop])) (Lib.hid (by rw [List.drop_drop])) (Lib.hid (by rw [List.drop_drop])) (Lib.hid (by rw [List.drop_drop]))
    (Lib.hid (by rw [show x.nodes - 1 - 0 + 1 = x.nodes by omega, Int.zero_add])) (Lib.hid (by rw [show (65535 : Int) - 0 + 1 = 65536 by omega, Int.zero_add])) (Lib.hid (by rw [show x.nodes - 0 + 1 = x.nodes + 1 by omega, Int.zero_add])) (Lib.hid (by rw [show (3 : Int) - 1 + 1 = 3 by omega])) (Lib.hid (by rw [show (1 : Int) - 0 + 1 = 2 by omega, Int.zero_add]))
  rw [hq] at this
  exact this
end Go.Proofs.Ytljcaigaofalbaa
