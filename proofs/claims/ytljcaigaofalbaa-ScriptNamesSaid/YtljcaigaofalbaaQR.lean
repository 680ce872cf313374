/- happening of a reader, by a contract. No condition. -/
import Derived.Test.YtljcaigaofalbaaQQ
namespace Go.Proofs.Ytljcaigaofalbaa
open Go.RowKit Go.Shelf

theorem RdW.paid {w0 W W' : World} {S0 S : Nat → Prop} {r : Nat} {l l' : List UInt8} {hl : List (Nat × TypeId × Array Value)} (h : RdW w0 S0 W S r l hl) (hr : RdAt W' S r l') (hk : Kept S W W') : RdW w0 S0 W' S r l' hl := by
  have hz := h.kept.size
  have hz2 := hk.size
  refine ⟨hr, fun y hy => ⟨(h.held y hy).1.kept hk (h.held y hy).2, (h.held y hy).2⟩, h.nodup, h.kept.trans hk (fun i hi hs => ?_), fun k hk' => ?_⟩
  · rcases h.grow i hs with hg | hg
    · exact hg
    · omega
  · rcases h.grow k hk' with hg | hg
    · exact .inl hg
    · exact .inr ⟨hg.1, by omega⟩
theorem payload_at (w : World) (S : Nat → Prop) (r : Nat) (l pl l' : List UInt8) (k : Nat) (h1 : l.take k = pl) (h2 : l.drop k = l') (h : RdAt w S r l) (hl : l.length ≤ 1000000000) (hk : k ≤ 1000) :
    Calls Try.prog 113 #[.pointer (some ⟨r, 0, none⟩), .int .i64 (k : Int)] w (Paid w S r pl l') := by
  subst h1 h2
  exact payload_any w S r l k h hl hk
theorem own_cap {w : World} {b : Nat} {e : TypeId} {n c : Nat} {A : Option Addr} {xs : List Value} (h : w.ownsRow b e 1 (.slice A n c) n xs) : c ≤ 9223372036854775807 := by
  rcases h.2 with ⟨e, _⟩ | ⟨g, cap, cur, e, _, _, _, hcm, _⟩
  · cases e; exact Nat.zero_le _
  · cases e; simpa only [maxLen] using hcm
/-- The happening of that kind whose numbers stand next, and what is left. -/
def hpD (x : Pl) (k : Int) (l : List UInt8) : Hp := ⟨k, num 1 x.nodes l, num 4 (x.horizon + 1) (l.drop 1), if k = 2 then (l.drop 6).take (num 1 256 (l.drop 5)).toNat else []⟩
def hpR (k : Int) (l : List UInt8) : List UInt8 := if k = 2 then l.drop (6 + (num 1 256 (l.drop 5)).toNat) else l.drop 5
/-- Block k is a row of bytes that may be written. -/
def UB (w : World) (k : Nat) : Prop := ∃ cur, w.heap[k]? = some (.cells cur 5 (0, 0))
theorem UB.kept {w w' : World} {k : Nat} {S : Nat → Prop} (h : UB w k) (hk : Kept S w w') (hS : ¬ S k) : UB w' k := by
  obtain ⟨cur, h⟩ := h
  exact ⟨cur, (hk.block k (Array.getElem?_eq_some_iff.1 h).1 hS).trans h⟩
theorem own_UB {w : World} {b : Nat} {n c : Nat} {ad : Addr} {xs : List Value} (h : w.ownsRow b 5 1 (.slice (some ad) n c) n xs) : UB w ad.block := by
  rcases h.2 with ⟨e, _⟩ | ⟨g, cap, cur, e, _, hg, _⟩
  · cases e
  · cases e; exact ⟨cur, hg⟩
/-- A happening in memory, and the reader beside it. -/
def Hapd (w : World) (S : Nat → Prop) (r : Nat) (hp : Hp) (l : List UInt8) (e : Ending) (w' : World) : Prop :=
  ∃ (y : HpA) (S' : Nat → Prop), e = .returned (hapV y) ∧ y.hp = hp ∧ PlAt w' y ∧ RdAt w' S' r l ∧ Kept S w w' ∧ (∀ k, S' k → Grow S w w' k) ∧ ∀ ad, y.A = some ad → ¬ S' ad.block ∧ w.heap.size ≤ ad.block ∧ ad.block < w'.heap.size ∧ UB w' ad.block


set_option maxRecDepth 100000 in
set_option maxHeartbeats 4000000 in
theorem hap_plain (x : Pl) (hx : OkP x) (w : World) (S : Nat → Prop) (r g : Nat) (k : Int) (l0 l1 l2 : List UInt8) (q0 q1 : Int) (h : RdAt w S r l0) (hg : SpAt w g x) (hgS : ¬ S g) (hll : l0.length ≤ 1000000000) (hk : ¬ k = 2)
    (a0 : Hid (l0.drop 1 = l1)) (a1 : Hid (l1.drop 4 = l2)) (p0 : Hid (0 + num 1 (x.nodes - 1 - 0 + 1) l0 = q0)) (p1 : Hid (0 + num 4 (x.horizon - 0 + 1) l1 = q1)) :
    Calls Try.prog 92 #[.pointer (some ⟨r, 0, none⟩), .int .i64 k, .pointer (some ⟨g, 0, none⟩)] w (Hapd w S r ⟨k, q0, q1, []⟩ l2) := by
  have hk2 : (k == 2) = false := by simp [hk]
  have hmf : ∀ (fn : Fn) (first cap : Array Value) (w : World), (Instr.makeFunc fn first cap).run Try.prog w = .ok (.func fn first cap) w := fun _ _ _ _ => rfl
  have n1 := hx.n1
  have n2 := hx.n2
  have n3 := hx.h2
  have n4 := hx.hor
  have z0 := Lib.hid hll
  have z1 := Lib.hid (show l1.length ≤ 1000000000 by rw [← a0.out, List.length_drop]; omega)
  have z2 := Lib.hid (show l2.length ≤ 1000000000 by rw [← a1.out, List.length_drop]; have := z1.out; omega)
  have hlt := h.lt
  have h0 : RdW w S w S r l0 [(g, 80, spansC x)] := ⟨h, fun y hy => by rw [List.mem_singleton] at hy; subst hy; exact ⟨hg, hgS⟩, by simp, Kept.refl _ _, fun _ h => .inl h⟩
  have h1 := h0.alloc 47 #[.int .i64 k, .int .i64 0, .int .i64 0, .slice none 0 0]
  have h2 := (h1.alloc 85 #[.pointer (some ⟨r, 0, none⟩)]).rot
  simp only [World.size_alloc] at h2
  have HB := Lib.hid h2
  have HLT := Lib.hid hlt
  have kk := k87
  clear h hg hgS h0 h1 h2 hll hlt
  go_enter Try.func92, Try.ntmps92
  go_upto_region 2 with (go_at_call 54; refine (folding_any _ _).mono ?_; rintro e w1 ⟨rfl, hw1⟩; have HW1 := Lib.hid hw1; clear hw1)
  rw [HW1.out]
  go_upto_region 3 with fail
  obtain ⟨w1', hV⟩ : ∃ V : World, V = (w.alloc (.cells #[.int .i64 k, .int .i64 0, .int .i64 0, .slice none 0 0] 47)).alloc (.cells #[.pointer (some ⟨r, 0, none⟩)] 85) := ⟨_, rfl⟩
  rw [← hV]
  have hR0 : RdW w S w1' S r l0 [(w.heap.size, 47, #[.int .i64 k, .int .i64 0, .int .i64 0, .slice none 0 0]), (w.heap.size + 1, 85, #[.pointer (some ⟨r, 0, none⟩)]), (g, 80, spansC x)] := by rw [hV]; exact HB.out
  clear hV HB HW1
  obtain ⟨s1, s2, s3⟩ := sp_node (hR0.whole (y := (g, 80, spansC x)) (by simp))
  have HR0 := Lib.hid hR0
  clear hR0
  go_upto_region 4 with (go_at_call 87; refine (fold_w HR0.out (b := w.heap.size + 1) (t := 85) (by simp) 1 (0) (x.nodes - 1) l1 q0 a0.out p0.out rfl (by decide) z0.out (by omega) (by omega) (by omega)).mono ?_; rintro e w2 ⟨rfl, S1, hR⟩; have cB := (hR.whole (List.mem_cons_self ..)).cell 1; have fB := (hR.whole (List.mem_cons_self ..)).frozen 1; simp at cB; have HQ := Lib.hid hR; clear hR s1 s2 s3)
  obtain ⟨V1, hV⟩ : ∃ V : World, V = w2.setCell ⟨w.heap.size, 1, none⟩ (.int .i64 q0) := ⟨_, rfl⟩
  rw [← hV]
  have hR1 : RdW w S V1 S1 r l1 [(w.heap.size, 47, #[.int .i64 k, .int .i64 q0, .int .i64 0, .slice none 0 0]), (w.heap.size + 1, 85, #[.pointer (some ⟨r, 0, none⟩)]), (g, 80, spansC x)] := by
    rw [hV]
    exact HQ.out.set (Nat.le_refl _) 1 (.int .i64 q0)
  clear hV cB fB HQ HR0
  obtain ⟨s1, s2, s3⟩ := sp_time (hR1.whole (y := (g, 80, spansC x)) (by simp))
  have HR1 := Lib.hid hR1
  clear hR1
  go_upto_region 5 with (go_at_call 87; refine (fold_w HR1.out (b := w.heap.size + 1) (t := 85) (by simp) 4 (0) (x.horizon) l2 q1 a1.out p1.out rfl (by decide) z1.out (by omega) (by omega) (by omega)).mono ?_; rintro e w3 ⟨rfl, S2, hR⟩; have cB := (hR.whole (List.mem_cons_self ..)).cell 2; have fB := (hR.whole (List.mem_cons_self ..)).frozen 2; simp at cB; have HQ := Lib.hid hR; clear hR s1 s2 s3)
  obtain ⟨V2, hV⟩ : ∃ V : World, V = w3.setCell ⟨w.heap.size, 2, none⟩ (.int .i64 q1) := ⟨_, rfl⟩
  rw [← hV]
  have hR2 : RdW w S V2 S2 r l2 [(w.heap.size, 47, #[.int .i64 k, .int .i64 q0, .int .i64 q1, .slice none 0 0]), (w.heap.size + 1, 85, #[.pointer (some ⟨r, 0, none⟩)]), (g, 80, spansC x)] := by
    rw [hV]
    exact HQ.out.set (Nat.le_refl _) 2 (.int .i64 q1)
  clear hV cB fB HQ HR1
  have b := hR2.whole (List.mem_cons_self ..)
  have b0 := b.cell 0
  have b1 := b.cell 1
  have b2 := b.cell 2
  have b3 := b.cell 3
  have f0 := b.frozen 0
  have f1 := b.frozen 1
  have f2 := b.frozen 2
  have f3 := b.frozen 3
  simp at b0 b1 b2 b3
  have HF := Lib.hid hR2
  clear hR2 b
  go_wp2
  obtain ⟨V6, hV⟩ : ∃ V : World, V = ((((V2.setCell ⟨w.heap.size, 0, none⟩ (.int .i64 k)).setCell ⟨w.heap.size, 1, none⟩ (.int .i64 q0)).setCell ⟨w.heap.size, 2, none⟩ (.int .i64 q1)).setCell ⟨w.heap.size, 3, none⟩ (.slice none 0 0)) := ⟨_, rfl⟩
  rw [← hV]
  have hR6 : RdW w S V6 S2 r l2 [(w.heap.size, 47, #[.int .i64 k, .int .i64 q0, .int .i64 q1, .slice none 0 0]), (w.heap.size + 1, 85, #[.pointer (some ⟨r, 0, none⟩)]), (g, 80, spansC x)] := by
    rw [hV]
    exact (((HF.out.set (Nat.le_refl _) 0 (.int .i64 k)).set (Nat.le_refl _) 1 (.int .i64 q0)).set (Nat.le_refl _) 2 (.int .i64 q1)).set (Nat.le_refl _) 3 (.slice none 0 0)
  refine bodyPost_ret (v := .agg #[.int .i64 k, .int .i64 q0, .int .i64 q1, .slice none 0 0]) (results_cell_row rfl _ _ w.heap.size 47 #[.int .i64 k, .int .i64 q0, .int .i64 q1, .slice none 0 0] (0, 0) _ rfl (hR6.whole (List.mem_cons_self ..)) Try.underlying47 rfl (by kernel_rfl)) rfl ?_
  exact ⟨⟨k, q0, q1, none, 0, []⟩, S2, rfl, rfl, ⟨Src.nil _ _, Nat.le_refl _, Nat.zero_le _, fun _ => rfl⟩, hR6.rd, hR6.kept, hR6.grow, fun ad e => by cases e⟩


set_option maxRecDepth 100000 in
set_option maxHeartbeats 4000000 in
theorem hap_paid (x : Pl) (hx : OkP x) (w : World) (S : Nat → Prop) (r g : Nat) (l0 l1 l2 l3 pl l4 : List UInt8) (q0 q1 : Int) (m : Nat) (h : RdAt w S r l0) (hg : SpAt w g x) (hgS : ¬ S g) (hll : l0.length ≤ 1000000000) (hm : m ≤ 1000)
    (a0 : Hid (l0.drop 1 = l1)) (a1 : Hid (l1.drop 4 = l2)) (a2 : Hid (l2.drop 1 = l3)) (c0 : Hid (l3.take m = pl)) (c1 : Hid (l3.drop m = l4)) (p0 : Hid (0 + num 1 (x.nodes - 1 - 0 + 1) l0 = q0)) (p1 : Hid (0 + num 4 (x.horizon - 0 + 1) l1 = q1)) (p2 : Hid (0 + num 1 (255 - 0 + 1) l2 = (m : Int))) :
    Calls Try.prog 92 #[.pointer (some ⟨r, 0, none⟩), .int .i64 2, .pointer (some ⟨g, 0, none⟩)] w (Hapd w S r ⟨2, q0, q1, pl⟩ l4) := by
  obtain ⟨k, hk⟩ : ∃ k : Int, k = 2 := ⟨_, rfl⟩
  have hk2 : (k == 2) = true := by simp [hk]
  rw [← hk]
  clear hk
  have hmf : ∀ (fn : Fn) (first cap : Array Value) (w : World), (Instr.makeFunc fn first cap).run Try.prog w = .ok (.func fn first cap) w := fun _ _ _ _ => rfl
  have n1 := hx.n1
  have n2 := hx.n2
  have n3 := hx.h2
  have n4 := hx.hor
  have z0 := Lib.hid hll
  have z1 := Lib.hid (show l1.length ≤ 1000000000 by rw [← a0.out, List.length_drop]; omega)
  have z2 := Lib.hid (show l2.length ≤ 1000000000 by rw [← a1.out, List.length_drop]; have := z1.out; omega)
  have hlt := h.lt
  have h0 : RdW w S w S r l0 [(g, 80, spansC x)] := ⟨h, fun y hy => by rw [List.mem_singleton] at hy; subst hy; exact ⟨hg, hgS⟩, by simp, Kept.refl _ _, fun _ h => .inl h⟩
  have h1 := h0.alloc 47 #[.int .i64 k, .int .i64 0, .int .i64 0, .slice none 0 0]
  have h2 := (h1.alloc 85 #[.pointer (some ⟨r, 0, none⟩)]).rot
  simp only [World.size_alloc] at h2
  have HB := Lib.hid h2
  have HLT := Lib.hid hlt
  have kk := k87
  clear h hg hgS h0 h1 h2 hll hlt
  go_enter Try.func92, Try.ntmps92
  go_upto_region 2 with (go_at_call 54; refine (folding_any _ _).mono ?_; rintro e w1 ⟨rfl, hw1⟩; have HW1 := Lib.hid hw1; clear hw1)
  rw [HW1.out]
  go_upto_region 3 with fail
  obtain ⟨w1', hV⟩ : ∃ V : World, V = (w.alloc (.cells #[.int .i64 k, .int .i64 0, .int .i64 0, .slice none 0 0] 47)).alloc (.cells #[.pointer (some ⟨r, 0, none⟩)] 85) := ⟨_, rfl⟩
  rw [← hV]
  have hR0 : RdW w S w1' S r l0 [(w.heap.size, 47, #[.int .i64 k, .int .i64 0, .int .i64 0, .slice none 0 0]), (w.heap.size + 1, 85, #[.pointer (some ⟨r, 0, none⟩)]), (g, 80, spansC x)] := by rw [hV]; exact HB.out
  clear hV HB HW1
  have z3 := Lib.hid (show l3.length ≤ 1000000000 by rw [← a2.out, List.length_drop]; have := z2.out; omega)
  obtain ⟨s1, s2, s3⟩ := sp_node (hR0.whole (y := (g, 80, spansC x)) (by simp))
  have HR0 := Lib.hid hR0
  clear hR0
  go_upto_region 4 with (go_at_call 87; refine (fold_w HR0.out (b := w.heap.size + 1) (t := 85) (by simp) 1 (0) (x.nodes - 1) l1 q0 a0.out p0.out rfl (by decide) z0.out (by omega) (by omega) (by omega)).mono ?_; rintro e w2 ⟨rfl, S1, hR⟩; have cB := (hR.whole (List.mem_cons_self ..)).cell 1; have fB := (hR.whole (List.mem_cons_self ..)).frozen 1; simp at cB; have HQ := Lib.hid hR; clear hR s1 s2 s3)
  obtain ⟨V1, hV⟩ : ∃ V : World, V = w2.setCell ⟨w.heap.size, 1, none⟩ (.int .i64 q0) := ⟨_, rfl⟩
  rw [← hV]
  have hR1 : RdW w S V1 S1 r l1 [(w.heap.size, 47, #[.int .i64 k, .int .i64 q0, .int .i64 0, .slice none 0 0]), (w.heap.size + 1, 85, #[.pointer (some ⟨r, 0, none⟩)]), (g, 80, spansC x)] := by
    rw [hV]
    exact HQ.out.set (Nat.le_refl _) 1 (.int .i64 q0)
  clear hV cB fB HQ HR0
  obtain ⟨s1, s2, s3⟩ := sp_time (hR1.whole (y := (g, 80, spansC x)) (by simp))
  have HR1 := Lib.hid hR1
  clear hR1
  go_upto_region 5 with (go_at_call 87; refine (fold_w HR1.out (b := w.heap.size + 1) (t := 85) (by simp) 4 (0) (x.horizon) l2 q1 a1.out p1.out rfl (by decide) z1.out (by omega) (by omega) (by omega)).mono ?_; rintro e w3 ⟨rfl, S2, hR⟩; have cB := (hR.whole (List.mem_cons_self ..)).cell 2; have fB := (hR.whole (List.mem_cons_self ..)).frozen 2; simp at cB; have HQ := Lib.hid hR; clear hR s1 s2 s3)
  obtain ⟨V2, hV⟩ : ∃ V : World, V = w3.setCell ⟨w.heap.size, 2, none⟩ (.int .i64 q1) := ⟨_, rfl⟩
  rw [← hV]
  have hR2 : RdW w S V2 S2 r l2 [(w.heap.size, 47, #[.int .i64 k, .int .i64 q0, .int .i64 q1, .slice none 0 0]), (w.heap.size + 1, 85, #[.pointer (some ⟨r, 0, none⟩)]), (g, 80, spansC x)] := by
    rw [hV]
    exact HQ.out.set (Nat.le_refl _) 2 (.int .i64 q1)
  clear hV cB fB HQ HR1
  obtain ⟨s1, s2, s3⟩ := sp_payload (hR2.whole (y := (g, 80, spansC x)) (by simp))
  have HR2 := Lib.hid hR2
  have hkB := (hR2.whole (List.mem_cons_self ..)).cell 0
  simp at hkB
  clear hR2
  go_upto_region 7 with (first
    | (go_at_call 87; refine (fold_w HR2.out (b := w.heap.size + 1) (t := 85) (by simp) 1 0 255 l3 (m : Int) a2.out p2.out rfl (by decide) z2.out (by omega) (by omega) (by omega)).mono ?_; rintro e w5 ⟨rfl, S3, hR⟩; have HR3 := Lib.hid hR; clear hR s1 s2 s3)
    | (go_at_call 113; refine (payload_at w5 S3 r l3 pl l4 m c0.out c1.out HR3.out.rd z3.out hm).mono ?_; rintro e w6 ⟨v, rfl, hown, hrd, hk6⟩; obtain ⟨A, c, rfl, hc, hs, hA, hz⟩ := Src.of_own hown; have hR := HR3.out.paid hrd hk6; have cB := (hR.whole (List.mem_cons_self ..)).cell 3; have fB := (hR.whole (List.mem_cons_self ..)).frozen 3; simp at cB; have HQ := Lib.hid hR; have HP := Lib.hid (And.intro hown (And.intro hc (And.intro hs (And.intro hA (And.intro hz hrd))))); clear hR hown hc hs hA hz hrd))
  obtain ⟨V5, hV⟩ : ∃ V : World, V = w6.setCell ⟨w.heap.size, 3, none⟩ (.slice A pl.length c) := ⟨_, rfl⟩
  rw [← hV]
  have hR5 : RdW w S V5 S3 r l4 [(w.heap.size, 47, #[.int .i64 k, .int .i64 q0, .int .i64 q1, .slice A pl.length c]), (w.heap.size + 1, 85, #[.pointer (some ⟨r, 0, none⟩)]), (g, 80, spansC x)] := by
    rw [hV]
    exact HQ.out.set (Nat.le_refl _) 3 _
  have b := hR5.whole (List.mem_cons_self ..)
  have b0 := b.cell 0
  have b1 := b.cell 1
  have b2 := b.cell 2
  have b3 := b.cell 3
  have f0 := b.frozen 0
  have f1 := b.frozen 1
  have f2 := b.frozen 2
  have f3 := b.frozen 3
  simp at b0 b1 b2 b3
  have HF := Lib.hid hR5
  have HV := Lib.hid hV
  clear hR5 b cB fB hkB hV
  go_wp2
  obtain ⟨V6, hV⟩ : ∃ V : World, V = ((((V5.setCell ⟨w.heap.size, 0, none⟩ (.int .i64 k)).setCell ⟨w.heap.size, 1, none⟩ (.int .i64 q0)).setCell ⟨w.heap.size, 2, none⟩ (.int .i64 q1)).setCell ⟨w.heap.size, 3, none⟩ (.slice A pl.length c)) := ⟨_, rfl⟩
  rw [← hV]
  have hR6 : RdW w S V6 S3 r l4 [(w.heap.size, 47, #[.int .i64 k, .int .i64 q0, .int .i64 q1, .slice A pl.length c]), (w.heap.size + 1, 85, #[.pointer (some ⟨r, 0, none⟩)]), (g, 80, spansC x)] := by
    rw [hV]
    exact (((HF.out.set (Nat.le_refl _) 0 (.int .i64 k)).set (Nat.le_refl _) 1 (.int .i64 q0)).set (Nat.le_refl _) 2 (.int .i64 q1)).set (Nat.le_refl _) 3 (.slice A pl.length c)
  have hsl : ∀ ad, A = some ad → w6.heap.size > ad.block ∧ w5.heap.size ≤ ad.block := fun ad e => by
    have h1 := HP.out.2.2.2.1 ad e
    exact ⟨(HP.out.1.lt _ h1.1).2, h1.2⟩
  have hwB : w.heap.size < w5.heap.size := (HR3.out.whole (List.mem_cons_self ..)).lt
  have hk7 : Kept (fun k => k = w.heap.size) w6 V6 := by
    rw [hV, HV.out]
    exact ((((Kept.setCell (S := fun k => k = w.heap.size) (Kept.refl _ w6) (p := ⟨w.heap.size, 3, none⟩) (.inl rfl) _).setCell (p := ⟨w.heap.size, 0, none⟩) (.inl rfl) _).setCell (p := ⟨w.heap.size, 1, none⟩) (.inl rfl) _).setCell (p := ⟨w.heap.size, 2, none⟩) (.inl rfl) _).setCell (p := ⟨w.heap.size, 3, none⟩) (.inl rfl) _
  refine bodyPost_ret (v := .agg #[.int .i64 k, .int .i64 q0, .int .i64 q1, .slice A pl.length c]) (results_cell_row rfl _ _ w.heap.size 47 #[.int .i64 k, .int .i64 q0, .int .i64 q1, .slice A pl.length c] (0, 0) _ rfl (hR6.whole (List.mem_cons_self ..)) Try.underlying47 rfl (by kernel_rfl)) rfl ?_
  refine ⟨⟨k, q0, q1, A, c, pl⟩, S3, rfl, rfl, ⟨HP.out.2.2.1.kept hk7 (fun ad e h => by have := hsl ad e; have h : ad.block = w.heap.size := h; omega), HP.out.2.1, ?_, fun e => (HP.out.2.2.2.2.1 e).2⟩, hR6.rd, hR6.kept, hR6.grow, fun ad e => ?_⟩
  · exact own_cap HP.out.1
  · have := hsl ad e
    refine ⟨fun hS => by have := HR3.out.rd.lt _ hS; omega, by omega, by have := hk7.size; omega, ?_⟩
    subst e
    exact (own_UB HP.out.1).kept hk7 (fun h => by have h : ad.block = w.heap.size := h; omega)


theorem happening_any (x : Pl) (hx : OkP x) (w : World) (S : Nat → Prop) (r g : Nat) (k : Int) (l : List UInt8) (h : RdAt w S r l) (hg : SpAt w g x) (hgS : ¬ S g) (hll : l.length ≤ 1000000000) :
    Calls Try.prog 92 #[.pointer (some ⟨r, 0, none⟩), .int .i64 k, .pointer (some ⟨g, 0, none⟩)] w (Hapd w S r (hpD x k l) (hpR k l)) := by
  unfold hpD hpR
  by_cases hk : k = 2
  · subst hk
    rw [if_pos rfl, if_pos rfl]
    have hn := num_lt (w := 1) (l := l.drop 5) (show (0 : Int) < 256 by omega)
    have := hap_paid x hx w S r g l (l.drop 1) (l.drop 5) (l.drop 6) ((l.drop 6).take (num 1 256 (l.drop 5)).toNat) (l.drop (6 + (num 1 256 (l.drop 5)).toNat)) (num 1 x.nodes l) (num 4 (x.horizon + 1) (l.drop 1)) (num 1 256 (l.drop 5)).toNat h hg hgS hll (by omega)
      (Lib.hid rfl) (Lib.hid (by rw [List.drop_drop])) (Lib.hid (by rw [List.drop_drop])) (Lib.hid rfl) (Lib.hid (by rw [List.drop_drop]))
      (Lib.hid (by rw [show x.nodes - 1 - 0 + 1 = x.nodes by omega, Int.zero_add])) (Lib.hid (by rw [show x.horizon - 0 + 1 = x.horizon + 1 by omega, Int.zero_add])) (Lib.hid (by rw [show (255 : Int) - 0 + 1 = 256 by omega, Int.zero_add, Int.toNat_of_nonneg hn.1]))
    exact this
  · rw [if_neg hk, if_neg hk]
    exact hap_plain x hx w S r g k l (l.drop 1) (l.drop 5) (num 1 x.nodes l) (num 4 (x.horizon + 1) (l.drop 1)) h hg hgS hll hk (Lib.hid rfl) (Lib.hid (by rw [List.drop_drop]))
      (Lib.hid (by rw [show x.nodes - 1 - 0 + 1 = x.nodes by omega, Int.zero_add])) (Lib.hid (by rw [show x.horizon - 0 + 1 = x.horizon + 1 by omega, Int.zero_add]))
end Go.Proofs.Ytljcaigaofalbaa
