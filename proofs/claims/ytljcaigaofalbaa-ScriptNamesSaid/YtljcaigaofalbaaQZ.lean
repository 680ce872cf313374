/- What Encode goes by: an Out beside blocks that lie whole; its closure, by a contract; the bytes so far. No condition. | Encode of a script that may be, by a contract. No condition. -/
import Derived.StillTailTactics
import Derived.Test.YtljcaigaofalbaaQT
import Derived.Test.YtljcaigaofalbaaQE
import Derived.Test.YtljcaigaofalbaaQK
import Derived.Test.YtljcaigaofalbaaQW
namespace Go.Proofs.Ytljcaigaofalbaa
open Go.RowKit Go.Shelf

/-- An Out with the bytes l, all of it newer than w0, beside blocks that lie whole. -/
structure ES (w0 W : World) (S : Nat → Prop) (a : Nat) (l : List UInt8) (hl : List (Nat × TypeId × Array Value)) : Prop where
  out : OutAt W S a (some l)
  held : ∀ y ∈ hl, Whole W y.1 y.2.1 y.2.2 ∧ ¬ S y.1
  low : ∀ i, S i → w0.heap.size ≤ i
  kept : Below w0.heap.size w0 W
section
variable {w0 W W' : World} {S : Nat → Prop} {a : Nat} {l l' : List UInt8} {hl hm : List (Nat × TypeId × Array Value)}
theorem ES.whole {y : Nat × TypeId × Array Value} (h : ES w0 W S a l hl) (hy : y ∈ hl) : Whole W y.1 y.2.1 y.2.2 := (h.held y hy).1
theorem ES.fewer (h : ES w0 W S a l hl) (hs : ∀ y, y ∈ hm → y ∈ hl) : ES w0 W S a l hm := ⟨h.out, fun y hy => h.held y (hs y hy), h.low, h.kept⟩
theorem ES.later (h : ES w0 W S a l hl) (hb : Below W.heap.size W W') : ES w0 W' S a l hl :=
  ⟨h.out.keep (Kept.of_below hb Empty) (fun _ _ h => h), fun y hy => ⟨k_later hb (h.held y hy).1, (h.held y hy).2⟩, h.low, k_then hb h.kept⟩
theorem ES.drew (h : ES w0 W S a l hl) : ES w0 W.drew S a l hl := ⟨h.out.keep ((Kept.refl Empty W).drew) (fun _ _ h => h), fun y hy => h.held y hy, h.low, h.kept.drew⟩
theorem ES.alloc (h : ES w0 W S a l hl) (t : TypeId) (cs : Array Value) : ES w0 (W.alloc (.cells cs t)) S a l ((W.heap.size, t, cs) :: hl) := by
  have h2 := h.later ((Below.refl _ W).alloc (Nat.le_refl _) (.cells cs t))
  refine ⟨h2.out, fun y hy => ?_, h2.low, h2.kept⟩
  rcases List.mem_cons.1 hy with rfl | hy
  · exact ⟨Whole.new W t cs, fun hs => by have hs : S W.heap.size := hs; have := h.out.lt _ hs; omega⟩
  · exact h2.held y hy
theorem ES.turned {e : Ending} (h : ES w0 W S a l hl) (ht : Turned W S a (some l') e W') : ES w0 W' (Grow S W W') a l' hl := by
  obtain ⟨_, h1, h2⟩ := ht
  have hz := h.kept.size
  refine ⟨h1, fun y hy => ?_, Grow.on h.low hz, h2.on h.kept h.low hz⟩
  obtain ⟨p, q⟩ := h.held y hy
  exact ⟨p.kept h2 q, fun hg => by
    rcases hg with hg | hg
    · exact q hg
    · have := p.lt; omega⟩
theorem ES.src (h : ES w0 W S a l hl) {A : Option Addr} {n : Nat} {b : List UInt8} (hs : Src w0 A n b) : Src W A n b ∧ (0 < n → ∀ ad, A = some ad → ¬ S ad.block) := by
  refine ⟨hs.below h.kept, fun h0 ad hA hS => ?_⟩
  obtain ⟨g, o, e, hc⟩ := hs.2 h0
  rw [hA] at e
  cases e
  have h3 := hc 0 (by have := hs.1; omega)
  have := World.block_lt_of_cell? w0 _ h3
  have h4 := h.low _ hS
  simp only at this h4
  omega
end

set_option maxRecDepth 100000 in
set_option maxHeartbeats 1000000 in
/-- The closure: a number put, less the least it may be. -/
theorem put_es {w0 W : World} {S : Nat → Prop} {a : Nat} {l : List UInt8} {hl : List (Nat × TypeId × Array Value)} (h : ES w0 W S a l hl) (wd : Nat) (lo hi n : Int) (l' : List UInt8) (hl' : l ++ be wd (n - lo) = l')
    (hwd : isW (wd : Int) = true) (h4 : wd ≤ 4) (q : Int) (hq : (2 : Int) ^ (8 * wd) = q) (h0 : 0 ≤ n - lo) (h1' : n - lo < q) (hll : l.length ≤ 1000000) :
    Calls Try.prog 45 #[.agg #[.int .i64 (wd : Int), .int .i64 lo, .int .i64 hi], .int .i64 n, .pointer (some ⟨a, 0, none⟩)] W fun e W' => e = .returned (.tuple #[]) ∧ ∃ S', ES w0 W' S' a l' hl := by
  have h1 : n - lo < 2 ^ (8 * wd) := by rw [hq]; exact h1'
  clear hq h1'
  obtain ⟨x, hx⟩ : ∃ x : Nat, (x : Int) = n - lo := ⟨(n - lo).toNat, Int.toNat_of_nonneg h0⟩
  have hx1 : x < 2 ^ (8 * wd) := by
    have : ((x : Nat) : Int) < ((2 ^ (8 * wd) : Nat) : Int) := by rw [hx]; simpa using h1
    omega
  have hx2 : x < 4294967296 := Nat.lt_of_lt_of_le hx1 (by
    have : 2 ^ (8 * wd) ≤ 2 ^ (8 * 4) := Nat.pow_le_pow_right (by decide) (by omega)
    simpa using this)
  have hE := h.alloc 72 #[.int .i64 (wd : Int), .int .i64 lo, .int .i64 hi]
  have hp := put_any _ S a (wd : Int) x (some l) hE.out (by omega) (by show l.length ≤ _; omega)
  have e1 : putSt (some l) (wd : Int) x = some l' := by
    have hf : fitsW (wd : Int) x = true := by simp [fitsW, hwd, hx1]
    rw [← hl']
    simp [putSt, hf, be, ← hx]
  rw [e1] at hp
  have HP := Lib.hid hp
  have HE := Lib.hid hE
  have c1 : wrap64 (n - lo) = (x : Int) := by rw [← hx]; unfold wrap64; omega
  have c2 : IntKind.u64.wrap (x : Int) = (x : Int) := by rw [IntKind.wrap_u64]; omega
  clear hp hE h e1 hx1 hx2 hl' h0 h1 hx
  go_enter Try.func45, Try.ntmps45
  go_wp2_with (go_at_call 46; refine HP.out.mono ?_; intro e w2 ht; have HT := Lib.hid (HE.out.turned ht); obtain ⟨rfl, _, _⟩ := ht)
  go_end0
  exact ⟨rfl, _, HT.out.fewer (fun y hy => List.mem_cons_of_mem _ hy)⟩
theorem k45 : ∀ args W, (callFunc 45 args).run Try.prog W = .ok (.enter 45 args) W := enters_of Try.func45 (by kernel_rfl) rfl

/-! The bytes so far. -/
theorem take_flat {α : Type} [Inhabited α] (g : α → List UInt8) {xs : List α} {k : Nat} (h : k < xs.length) : (xs.take (k + 1)).flatMap g = (xs.take k).flatMap g ++ g (xs.getD k default) := by
  rw [List.take_add_one, List.getElem?_eq_getElem h, List.flatMap_append, List.getD_eq_getElem?_getD, List.getElem?_eq_getElem h]
  simp
def encA (x : Pl) (s : Sc) (k : Nat) : List UInt8 := ((s.rates.zip s.on).take k).flatMap (headE1 x)
def encB (x : Pl) (s : Sc) (k : Nat) : List UInt8 := headE x s ++ (be 2 s.delays.length ++ (s.delays.take k).flatMap delE)
def encC (x : Pl) (s : Sc) (k : Nat) : List UInt8 := headE x s ++ (be 2 s.delays.length ++ (s.delays.flatMap delE ++ (s.haps.take k).flatMap hapE))
def encF (x : Pl) (s : Sc) (k : Nat) : List UInt8 := headE x s ++ (be 2 s.delays.length ++ (s.delays.flatMap delE ++ (s.haps.flatMap hapE ++ (s.faults.take k).flatMap ftE)))
section
variable (x : Pl) (s : Sc)
theorem encA_step {k : Nat} (h1 : k < s.rates.length) (h2 : k < s.on.length) : encA x s (k + 1) = (encA x s k ++ be 4 ((s.rates.getD k default).1 - (65536 - drL x))) ++ be 4 (s.on.getD k default - -1) := by
  unfold encA
  rw [take_flat _ (by rw [List.length_zip]; omega), List.append_assoc]
  congr 1
  have e : (s.rates.zip s.on).getD k default = (s.rates.getD k default, s.on.getD k default) := by
    rw [List.getD_eq_getElem?_getD, List.getD_eq_getElem?_getD, List.getD_eq_getElem?_getD, List.getElem?_eq_getElem h1, List.getElem?_eq_getElem h2, List.getElem?_eq_getElem (by rw [List.length_zip]; omega), List.getElem_zip]
    rfl
  rw [e]
  unfold headE1
  rw [show s.on.getD k default - -1 = s.on.getD k default + 1 by omega]
theorem encA_all (h1 : s.rates.length = s.on.length) : encA x s s.rates.length = headE x s := by
  unfold encA headE
  rw [List.take_of_length_le (by rw [List.length_zip]; omega)]
theorem encB_zero : encB x s 0 = headE x s ++ be 2 ((s.delays.length : Int) - 0) := by simp [encB]
theorem encB_step {k : Nat} (h : k < s.delays.length) : encB x s (k + 1) = encB x s k ++ be 4 (s.delays.getD k default - 0) := by
  unfold encB
  rw [take_flat _ h, Int.sub_zero]
  simp [delE]
theorem encC_zero : encC x s 0 = encB x s s.delays.length := by simp [encC, encB]
theorem encC_step {k : Nat} (h : k < s.haps.length) : encC x s (k + 1) = ((encC x s k ++ be 1 ((s.haps.getD k default).k - 0)) ++ be 1 ((s.haps.getD k default).n - 0)) ++ be 4 ((s.haps.getD k default).t - 0) ++ (if (s.haps.getD k default).k = 2 then be 1 (((s.haps.getD k default).pl.length : Int) - 0) ++ (s.haps.getD k default).pl else []) := by
  unfold encC
  rw [take_flat _ h, Int.sub_zero, Int.sub_zero, Int.sub_zero, Int.sub_zero]
  generalize s.haps.getD k default = y
  simp only [hapE, List.append_assoc]
theorem encF_zero : encF x s 0 = encC x s s.haps.length := by simp [encC, encF]
theorem encF_step {k : Nat} (h : k < s.faults.length) : encF x s (k + 1) = (((((encF x s k ++ be 1 (3 - 0)) ++ be 1 ((s.faults.getD k default).s - 0)) ++ be 2 ((s.faults.getD k default).n - 0)) ++ be 1 ((s.faults.getD k default).r - 0)) ++ be 1 ((s.faults.getD k default).c - 1)) ++ be 1 ((if (s.faults.getD k default).cut then 1 else 0) - 0) := by
  unfold encF
  rw [take_flat _ h, Int.sub_zero, Int.sub_zero, Int.sub_zero, Int.sub_zero, Int.sub_zero]
  generalize s.faults.getD k default = y
  simp only [ftE, List.append_assoc]
theorem encF_all : encF x s s.faults.length = encS x s := by simp [encF, encS]
end
section
variable {x : Pl} {s : Sc}
theorem take_len_le {α : Type} (xs : List α) (k : Nat) {m : Nat} (h : xs.length ≤ m) : (xs.take k).length ≤ m := by rw [List.length_take]; omega
theorem hapE_len {y : Hp} (h : y.pl.length ≤ 255) : (hapE y).length ≤ 262 := by
  simp only [hapE, List.length_append, be_length]
  split
  · simp only [List.length_append, be_length]; omega
  · simp
theorem ftE_len (y : Ft) : (ftE y).length ≤ 7 := by simp [ftE, be_length]
theorem encA_len (hN : s.rates.length ≤ 16) (k : Nat) : (encA x s k).length ≤ 128 := by
  have := len_flatMap_le (g := headE1 x) (m := 8) ((s.rates.zip s.on).take k) (fun a _ => by rw [headE1_length]; omega)
  have h2 := take_len_le (s.rates.zip s.on) k (m := 16) (by rw [List.length_zip]; omega)
  unfold encA
  omega
theorem headE_len (hN : s.rates.length ≤ 16) : (headE x s).length ≤ 128 := by
  have := len_flatMap_le (g := headE1 x) (m := 8) (s.rates.zip s.on) (fun a _ => by rw [headE1_length]; omega)
  have h2 : (s.rates.zip s.on).length ≤ 16 := by rw [List.length_zip]; omega
  unfold headE
  omega
theorem delL_len (k : Nat) (hd : s.delays.length ≤ 256) : ((s.delays.take k).flatMap delE).length ≤ 1024 := by
  have := len_flatMap_le (g := delE) (m := 4) (s.delays.take k) (fun a _ => by simp [delE, be_length])
  have h2 := take_len_le s.delays k hd
  omega
theorem hapL_len (k : Nat) (hh : s.haps.length ≤ 64) (hp : ∀ y ∈ s.haps, y.pl.length ≤ 255) : ((s.haps.take k).flatMap hapE).length ≤ 16768 := by
  have := len_flatMap_le (g := hapE) (m := 262) (s.haps.take k) (fun a ha => hapE_len (hp a (List.mem_of_mem_take ha)))
  have h2 := take_len_le s.haps k hh
  omega
theorem ftL_len (k : Nat) (hf : s.faults.length ≤ 64) : ((s.faults.take k).flatMap ftE).length ≤ 448 := by
  have := len_flatMap_le (g := ftE) (m := 7) (s.faults.take k) (fun a _ => ftE_len a)
  have h2 := take_len_le s.faults k hf
  omega
theorem encB_len (hN : s.rates.length ≤ 16) (hd : s.delays.length ≤ 256) (k : Nat) : (encB x s k).length ≤ 2000 := by
  have h1 := headE_len (x := x) hN
  have h2 := delL_len k hd
  simp only [encB, List.length_append, be_length]
  omega
theorem encC_len (hN : s.rates.length ≤ 16) (hd : s.delays.length ≤ 256) (hh : s.haps.length ≤ 64) (hp : ∀ y ∈ s.haps, y.pl.length ≤ 255) (k : Nat) : (encC x s k).length ≤ 18000 := by
  have h1 := headE_len (x := x) hN
  have h2 := delL_len s.delays.length hd
  have h3 := hapL_len k hh hp
  rw [List.take_length] at h2
  simp only [encC, List.length_append, be_length]
  omega
theorem encF_len (hN : s.rates.length ≤ 16) (hd : s.delays.length ≤ 256) (hh : s.haps.length ≤ 64) (hp : ∀ y ∈ s.haps, y.pl.length ≤ 255) (hf : s.faults.length ≤ 64) (k : Nat) : (encF x s k).length ≤ 19000 := by
  have h1 := headE_len (x := x) hN
  have h2 := delL_len s.delays.length hd
  have h3 := hapL_len s.haps.length hh hp
  have h4 := ftL_len k hf
  rw [List.take_length] at h2 h3
  simp only [encF, List.length_append, be_length]
  omega
end
end Go.Proofs.Ytljcaigaofalbaa

namespace Go.Proofs.Ytljcaigaofalbaa
open Go.RowKit Go.Shelf
attribute [local go_sem] Oper.semAt_some

theorem oneIf_any (b : Bool) (w : World) : Calls Try.prog 49 #[.bool b] w fun e w' => e = .returned (.int .i64 (if b then 1 else 0)) ∧ w' = w := by
  cases b
  · go_enter Try.func49, Try.ntmps49
    go_wp2
    go_ret
    exact ⟨rfl, rfl⟩
  · go_enter Try.func49, Try.ntmps49
    go_wp2
    go_ret
    exact ⟨rfl, rfl⟩
theorem k49 : ∀ args W, (callFunc 49 args).run Try.prog W = .ok (.enter 49 args) W := enters_of Try.func49 (by kernel_rfl) rfl

set_option maxRecDepth 100000 in
set_option maxHeartbeats 8000000 in
theorem encode_yes (x : Pl) (V : ScV) (s : ScA) (w : World) (h : ScAt w V s) (hm : mayS x s.sc = true) :
    Calls Try.prog 13 #[.agg x.cells, .agg V.cells] w fun e w' => ∃ v, e = .returned (.tuple #[v, .int .i64 0]) ∧ w'.ownsRow w.heap.size 5 1 v (encS x s.sc).length (bv (encS x s.sc)) ∧ Below w.heap.size w w' := by
  have hm2 : failsL x 11 = 0 ∧ okS x s.sc = true := by
    unfold mayS at hm
    rw [Bool.and_eq_true, decide_eq_true_eq] at hm
    exact hm
  have hP := okp_of hm2.1
  obtain ⟨y0, y1, y2, y3, y4, y5, y6, y7, y8, y9⟩ := okS_iff.1 hm2.2
  have HOK := Lib.hid (And.intro y5 (And.intro y6 (And.intro y7 (And.intro y8 y9))))
  have n1 := hP.n1
  have n2 := hP.n2
  have HDr := Lib.hid hP.drift
  have HRd := Lib.hid (show 16 ≤ lateL x ∧ lateL x ≤ 67108864 by have := hP.round; unfold lateL; omega)
  have HDd := Lib.hid (show 0 ≤ x.dmax - x.dmin ∧ x.dmax - x.dmin ≤ 1048576 from by have := hP.d1; have := hP.d2; have := hP.d3; omega)
  have HHz := Lib.hid (show 160 ≤ x.horizon ∧ x.horizon ≤ 2147483648 from ⟨hP.hor, hP.h2⟩)
  have hN16 : s.rates.length ≤ 16 := by have : (s.rates.length : Int) = x.nodes := y0; omega
  have hpl : ∀ y ∈ s.sc.haps, y.pl.length ≤ 255 := fun y hy => (okHap_iff.1 (y8 y hy)).2.2.2.2.2.2.1
  have HA_ := Lib.hid (fun k => encA_len (x := x) (s := s.sc) hN16 k)
  have HB_ := Lib.hid (fun k => encB_len (x := x) (s := s.sc) hN16 y2 k)
  have HC_ := Lib.hid (fun k => encC_len (x := x) (s := s.sc) hN16 y2 y3 hpl k)
  have HF_ := Lib.hid (fun k => encF_len (x := x) (s := s.sc) hN16 y2 y3 hpl y4 k)
  have l0 : s.rates.length = V.r.n := h.r.len
  have l1 : s.on.length = V.o.n := h.o.len
  have l2 : s.delays.length = V.d.n := h.d.len
  have l3 : s.haps.length = V.h.n := h.h.row.len
  have l4 : s.faults.length = V.f.n := h.f.len
  have y0 : (s.rates.length : Int) = x.nodes := y0
  have y1 : (s.on.length : Int) = x.nodes := y1
  have y2 : s.delays.length ≤ 256 := y2
  have y3 : s.haps.length ≤ 64 := by simpa [ScA.sc] using y3
  have y4 : s.faults.length ≤ 64 := y4
  obtain ⟨w0, hw0⟩ : ∃ w0, w0 = (w.alloc (.cells x.cells 23)).alloc (.cells V.cells 29) := ⟨_, rfl⟩
  have hb0 : Below w.heap.size w w0 := by rw [hw0]; exact ((Below.refl _ _).alloc (Nat.le_refl _) _).alloc (by simp) _
  have hP0 : Whole w0 w.heap.size 23 x.cells := by rw [hw0]; exact (Whole.new w _ _).alloc _
  have hR0 : Whole w0 (w.heap.size + 1) 29 V.cells := by
    rw [hw0]
    have := Whole.new (w.alloc (.cells x.cells 23)) 29 V.cells
    simpa using this
  have hs0 := h.later hb0
  have HC := Lib.hid (fun W (hW : ScAt W V s) => CheckS_any x V s W hW)
  rw [hm] at HC
  unfold errS at HC
  rw [if_pos rfl] at HC
  have HSP := Lib.hid (fun W => spansOf_any x W hm2.1)
  have HS := Lib.hid x.cellsL
  have H0 := Lib.hid (And.intro hb0 (And.intro hP0 (And.intro hR0 hs0)))
  have HW0 := Lib.hid hw0
  have HV := Lib.hid (show (Try.prog.info? 29).map (·.size) = some V.cells.size by show _ = some 5; kernel_rfl)
  have HSc := Lib.hid h
  have K45 := Lib.hid k45
  obtain ⟨ans, hans⟩ : ∃ ans, ans = encS x s.sc := ⟨_, rfl⟩
  rw [← hans]
  have HAN := Lib.hid hans
  have HBIG := Lib.hid (show (V.d.n : Int) ≤ 9223372036854775807 ∧ (V.h.n : Int) ≤ 9223372036854775807 ∧ (V.f.n : Int) ≤ 9223372036854775807 by omega)
  clear hw0 hb0 hP0 hR0 hs0 hm hm2 hP y5 y6 y7 y8 y9 hpl hans
  go_enter Try.func13, Try.ntmps13
  go_upto_region 3 with (first
    | (refine wpList_load_row rfl 23 _ rfl w.heap.size rfl 23 x.cells (0, 0) _ (by rw [← HW0.out]; exact H0.out.2.1) Try.underlying23 rfl HS.out.plan ?_)
    | (refine wpList_load_row rfl 29 _ rfl (w.heap.size + 1) rfl 29 _ (0, 0) _ (by rw [← HW0.out]; exact H0.out.2.2.1) Try.underlying29 rfl HV.out ?_)
    | (rw [← HW0.out]; go_at_call 18; refine (HC.out _ H0.out.2.2.2).mono ?_; rintro e w1 ⟨rfl, hb1⟩; have HB1 := Lib.hid hb1; clear hb1))
  have hmf : ∀ (fn : Fn) (first cap : Array Value) (w : World), (Instr.makeFunc fn first cap).run Try.prog w = .ok (.func fn first cap) w := fun _ _ _ _ => rfl
  obtain ⟨W2, hW2⟩ : ∃ W2, W2 = w1.alloc (.cells #[.pointer none, .int .i64 0, .bool false] 70) := ⟨_, rfl⟩
  have hb2 : Below w1.heap.size w1 W2 := by rw [hW2]; exact (Below.refl _ _).alloc (Nat.le_refl _) _
  have hO2 : OutAt W2 (fun k => k = w1.heap.size) w1.heap.size (some []) := by rw [hW2]; exact OutAt.new w1
  have HW2 := Lib.hid hW2
  have H2 := Lib.hid (And.intro hb2 hO2)
  have HP2 := Lib.hid (k_later hb2 (k_later HB1.out H0.out.2.1))
  clear hW2 hb2 hO2
  go_upto_region 4 with fail
  rw [← HW2.out]
  go_upto_region 6 with (first
    | (refine wpList_load_row rfl 23 _ rfl w.heap.size rfl 23 x.cells (0, 0) _ HP2.out Try.underlying23 rfl HS.out.plan ?_)
    | (go_at_call 47; refine (HSP.out _).mono ?_; rintro e w4 ⟨g, rfl, hg0, hg, hb4⟩; have HG := Lib.hid (And.intro hg0 (And.intro hg hb4)); clear hg0 hg hb4))
  obtain ⟨HL, hHL⟩ : ∃ HL, HL = [(g, 80, spansC x), (w.heap.size, 23, x.cells), (w.heap.size + 1, 29, V.cells)] := ⟨_, rfl⟩
  have mg : (g, 80, spansC x) ∈ HL := by rw [hHL]; simp
  have ms : (w.heap.size + 1, 29, V.cells) ∈ HL := by rw [hHL]; simp
  have hE : ES w w4 (fun k => k = w1.heap.size) w1.heap.size [] HL := by
    obtain ⟨hg0, hg, hb4⟩ := HG.out
    obtain ⟨hb2, hO2⟩ := H2.out
    have z1 := HB1.out.size
    have zb := H0.out.1.size
    have z2 := hb2.size
    have lp := H0.out.2.1.lt
    have ls := H0.out.2.2.1.lt
    have hO2lt : w1.heap.size < W2.heap.size := hO2.lt _ rfl
    refine ⟨hO2.keep (Kept.of_below hb4 Empty) (fun _ _ h => h), fun y hy => ?_, fun i hi => ?_, k_then hb4 (k_then hb2 (k_then HB1.out H0.out.1))⟩
    · rw [hHL] at hy
      simp only [List.mem_cons, List.not_mem_nil, or_false] at hy
      rcases hy with rfl | rfl | rfl
      · exact ⟨hg, fun e => by have e : g = w1.heap.size := e; omega⟩
      · exact ⟨k_later hb4 HP2.out, fun e => by have e : w.heap.size = w1.heap.size := e; omega⟩
      · exact ⟨k_later hb4 (k_later hb2 (k_later HB1.out H0.out.2.2.1)), fun e => by have e : w.heap.size + 1 = w1.heap.size := e; omega⟩
    · have hi : i = w1.heap.size := hi
      omega
  clear hHL HG H2 HP2 HW2 HB1 H0 HW0 HC HSP
  generalize w1.heap.size = a at *
  have c0 := sp_nodes (hE.whole mg)
  have E0 := Lib.hid hE
  clear hE
  go_wp2
  clear c0
  go_loopw [27] (fun iv wr => ∃ (k : Nat) (S : Nat → Prop), (k : Int) ≤ x.nodes ∧ iv = .int .i64 (k : Int) ∧ ES w wr S a (encA x s.sc k) HL) (fun iv _ => x.nodes.toNat - (intOf iv).toNat)
  case atStart => exact ⟨0, _, by omega, rfl, E0.out⟩
  case round =>
    obtain ⟨k, S1, hk, rfl, hE⟩ := hrel
    have E1 := Lib.hid hE
    clear hE E0
    by_cases hlt : (k : Int) < x.nodes
    · obtain ⟨g0, o0, hA0, hR0⟩ := HSc.out.r.get (i := k) (show k < V.r.n by omega)
      obtain ⟨g1, o1, hA1, hR1⟩ := HSc.out.o.get (i := k) (show k < V.o.n by omega)
      have ok0 : okRate x (s.rates.getD k default) = true := HOK.out.1 _ (getD_mem (xs := s.rates) (j := k) (by omega))
      have ok1 : okOn x (s.on.getD k default) = true := HOK.out.2.1 _ (getD_mem (xs := s.on) (j := k) (by omega))
      have HST := Lib.hid (encA_step x s.sc (k := k) (show k < s.rates.length by omega) (show k < s.on.length by omega))
      obtain ⟨y, hy⟩ : ∃ y, y = s.rates.getD k default := ⟨_, rfl⟩
      obtain ⟨z, hz⟩ : ∃ z, z = s.on.getD k default := ⟨_, rfl⟩
      rw [← hy] at hR0 ok0
      rw [← hz] at hR1 ok1
      obtain ⟨num, den⟩ := y
      rw [okRate_iff] at ok0
      rw [okOn_iff] at ok1
      dsimp only at ok0
      have HY := Lib.hid (And.intro hy hz)
      have R0 := Lib.hid (rateC_cells hR0).1
      have R1 := Lib.hid (numC_cell hR1)
      have f1 : (0 : Int) ≤ (k : Int) := by omega
      have f2 : (k : Int) < (V.r.n : Int) := by omega
      have f3 : (k : Int) < (V.o.n : Int) := by omega
      have dr := HDr.out
      have rd := HRd.out
      clear hy hz hR0 hR1
      go_upto_region 9 with fail
      have E1d := Lib.hid E1.out.drew
      obtain ⟨s1, s2, s3⟩ := sp_rate (E1d.out.whole mg)
      have b0 := (sc_cells (E1d.out.whole ms)).1
      unfold Sl.v at b0
      rw [hA0] at b0
      have r0 := k_cell E1d.out.kept R0.out
      simp only at r0
      have HP := Lib.hid (put_es E1d.out 4 (65536 - drL x) (65536 + drL x) (num) _ rfl rfl (by decide) 4294967296 (by decide) (by omega) (by omega) ((by have := HA_.out k; omega)))
      go_still_tail 11, (by kernel_rfl)
      go_upto_region 10 with (go_at_call 45; refine HP.out.mono ?_; rintro e W2 ⟨rfl, S2, hE⟩; have E2 := Lib.hid hE; clear hE)
      clear HP s1 s2 s3 b0 r0 E1 E1d
      have E2d := Lib.hid E2.out.drew
      obtain ⟨s1, s2, s3⟩ := sp_on (E2d.out.whole mg)
      have b0 := (sc_cells (E2d.out.whole ms)).2.1
      unfold Sl.v at b0
      rw [hA1] at b0
      have r0 := k_cell E2d.out.kept R1.out
      have HP := Lib.hid (put_es E2d.out 4 (-1) (lateL x) (z) _ rfl rfl (by decide) 4294967296 (by decide) (by omega) (by omega) ((by have := HA_.out k; rw [List.length_append, be_length]; omega)))
      go_still_tail 10, (by kernel_rfl)
      go_upto_region 11 with (go_at_call 45; refine HP.out.mono ?_; rintro e W3 ⟨rfl, S3, hE⟩; have E3 := Lib.hid hE; clear hE)
      clear HP s1 s2 s3 b0 r0 E2 E2d
      go_wp2
      go_roundw
      case rel =>
        refine ⟨k + 1, S3, by omega, by go_num, ?_⟩
        have e := HST.out
        rw [show s.sc.rates.getD k default = (num, den) from HY.out.1.symm, show s.sc.on.getD k default = z from HY.out.2.symm] at e
        rw [e]
        exact E3.out
      case measure => simp [intOf]; omega
    · have hN : k = s.rates.length := by omega
      have hA := encA_all x s.sc (show s.rates.length = s.on.length by omega)
      have hE := E1.out
      rw [hN, show encA x s.sc s.rates.length = headE x s.sc from hA] at hE
      have E4 := Lib.hid hE
      clear hE hA hN E1
      have HLN : (headE x s.sc).length ≤ 128 := by have := encA_len (x := x) (s := s.sc) hN16 s.rates.length; rw [show encA x s.sc s.rates.length = headE x s.sc from encA_all x s.sc (show s.rates.length = s.on.length by omega)] at this; exact this
      have f4 : (0 : Int) ≤ (V.d.n : Int) := by omega
      go_upto_region 12 with fail
      have E4d := Lib.hid E4.out.drew
      obtain ⟨s1, s2, s3⟩ := sp_delays (E4d.out.whole mg)
      have b0 := (sc_cells (E4d.out.whole ms)).2.2.1
      unfold Sl.v at b0
      have HP := Lib.hid (put_es E4d.out 2 (0) (256) ((V.d.n : Int)) _ rfl rfl (by decide) 65536 (by decide) (by omega) (by omega) ((by omega)))
      go_still_tail 8, (by kernel_rfl)
      go_upto_region 13 with (go_at_call 45; refine HP.out.mono ?_; rintro e W5 ⟨rfl, S5, hE⟩; have E5 := Lib.hid hE; clear hE)
      clear HP s1 s2 s3 b0 E4 E4d
      have hE := E5.out
      rw [show headE x s.sc ++ be 2 ((V.d.n : Int) - 0) = encB x s.sc 0 from by rw [encB_zero]; rw [show (s.sc.delays.length : Int) = (V.d.n : Int) from by rw [show s.sc.delays.length = V.d.n from l2]]] at hE
      have E6 := Lib.hid hE
      have b0 := (sc_cells (hE.whole ms)).2.2.1
      unfold Sl.v at b0
      clear hE E5 HLN
      go_wp2
      clear b0
      go_loopw [66] (fun iv wr => ∃ (k : Nat) (S : Nat → Prop), k ≤ V.d.n ∧ iv = .int .i64 (k : Int) ∧ ES w wr S a (encB x s.sc k) HL) (fun iv _ => V.d.n - (intOf iv).toNat)
      case atStart => exact ⟨0, _, by omega, rfl, E6.out⟩
      case round =>
        clear E6 hlt
        obtain ⟨k, S1, hk, rfl, hE⟩ := hrel
        have E1 := Lib.hid hE
        clear hE
        by_cases hlt : k < V.d.n
        · obtain ⟨g0, o0, hA0, hR0⟩ := HSc.out.d.get (i := k) hlt
          have ok0 : okDel x (s.delays.getD k default) = true := HOK.out.2.2.1 _ (getD_mem (xs := s.delays) (j := k) (by omega))
          have HST := Lib.hid (encB_step x s.sc (k := k) (show k < s.delays.length by omega))
          obtain ⟨z, hz⟩ : ∃ z, z = s.delays.getD k default := ⟨_, rfl⟩
          rw [← hz] at hR0 ok0
          rw [okDel_iff] at ok0
          have HY := Lib.hid hz
          have R0 := Lib.hid (numC_cell hR0)
          have f1 : (0 : Int) ≤ (k : Int) := by omega
          have f2 : (k : Int) < (V.d.n : Int) := by omega
          have dd := HDd.out
          have r0 := k_cell E1.out.kept R0.out
          rw [hA0]
          clear hz hR0
          go_upto_region 16 with fail
          clear r0
          obtain ⟨s1, s2, s3⟩ := sp_delay (E1.out.whole mg)
          have HP := Lib.hid (put_es E1.out 4 (0) (x.dmax - x.dmin) (z) _ rfl rfl (by decide) 4294967296 (by decide) (by omega) (by omega) ((by have := HB_.out k; omega)))
          go_upto_region 17 with (go_at_call 45; refine HP.out.mono ?_; rintro e W2 ⟨rfl, S2, hE⟩; have E2 := Lib.hid hE; clear hE)
          clear HP s1 s2 s3  E1
          go_wp2
          go_roundw
          case rel =>
            refine ⟨k + 1, S2, by omega, by go_num, ?_⟩
            have e := HST.out
            rw [show s.sc.delays.getD k default = z from HY.out.symm] at e
            rw [e]
            exact E2.out
          case measure => simp [intOf]; omega
        · have hN : k = s.delays.length := by omega
          have hE := E1.out
          rw [hN, show encB x s.sc s.delays.length = encC x s.sc 0 from (encC_zero x s.sc).symm] at hE
          have E4 := Lib.hid hE
          have b0 := (sc_cells (hE.whole ms)).2.2.2.1
          unfold Sl.v at b0
          clear hE hN E1
          go_wp2
          clear b0
          go_loopw [81] (fun iv wr => ∃ (k : Nat) (S : Nat → Prop), k ≤ V.h.n ∧ iv = .int .i64 (k : Int) ∧ ES w wr S a (encC x s.sc k) HL) (fun iv _ => V.h.n - (intOf iv).toNat)
          case atStart => exact ⟨0, _, by omega, rfl, E4.out⟩
          case round =>
            clear E4 hlt
            obtain ⟨k, S1, hk, rfl, hE⟩ := hrel
            have E1 := Lib.hid hE
            clear hE
            by_cases hlt : k < V.h.n
            · obtain ⟨g0, o0, hA0, hR0⟩ := HSc.out.h.row.get (i := k) hlt
              have okh : okHap x (s.haps.getD k default).hp = true := HOK.out.2.2.2.1 _ (List.mem_map.2 ⟨_, getD_mem (xs := s.haps) (j := k) (by omega), rfl⟩)
              have hpl := HSc.out.h.pl _ (getD_mem (xs := s.haps) (j := k) (by omega))
              have hget : s.sc.haps.getD k default = (s.haps.getD k default).hp := by
                show (s.haps.map HpA.hp).getD k default = _
                rw [List.getD_eq_getElem?_getD, List.getD_eq_getElem?_getD, List.getElem?_map]
                cases s.haps[k]? <;> rfl
              have hst := encC_step x s.sc (k := k) (show k < (s.haps.map HpA.hp).length by rw [List.length_map]; omega)
              rw [hget] at hst
              obtain ⟨y, hy⟩ : ∃ y, y = s.haps.getD k default := ⟨_, rfl⟩
              rw [← hy] at hR0 okh hpl hst
              obtain ⟨yk, yn, yt, yA, yc, yl⟩ := y
              unfold HpA.hp at okh hst
              dsimp only at okh hst
              rw [okHap_iff] at okh
              dsimp only at okh
              have HST := Lib.hid hst
              have HPL := Lib.hid hpl
              obtain ⟨r0', r1', r2', r3'⟩ := hapC_cells hR0
              have r0 := k_cell E1.out.kept r0'
              have r1 := k_cell E1.out.kept r1'
              have r2 := k_cell E1.out.kept r2'
              have r3 := k_cell E1.out.kept r3'
              dsimp only at r0 r1 r2 r3
              have f1 : (0 : Int) ≤ (k : Int) := by omega
              have f2 : (k : Int) < (V.h.n : Int) := by omega
              have hz := HHz.out
              have hEa := E1.out.alloc 47 #[.int .i64 yk, .int .i64 yn, .int .i64 yt, .slice yA yl.length yc]
              obtain ⟨Wa, hWa⟩ : ∃ Wa, Wa = wr.alloc (.cells #[.int .i64 yk, .int .i64 yn, .int .i64 yt, .slice yA yl.length yc] 47) := ⟨_, rfl⟩
              have HWa := Lib.hid hWa
              rw [← hWa] at hEa
              obtain ⟨HM, hHM⟩ : ∃ HM, HM = (wr.heap.size, 47, #[.int .i64 yk, .int .i64 yn, .int .i64 yt, .slice yA yl.length yc]) :: HL := ⟨_, rfl⟩
              rw [← hHM] at hEa
              have mb : (wr.heap.size, 47, #[.int .i64 yk, .int .i64 yn, .int .i64 yt, .slice yA yl.length yc]) ∈ HM := by rw [hHM]; exact List.mem_cons_self ..
              have hsub : ∀ y, y ∈ HL → y ∈ HM := fun y hy => by rw [hHM]; exact List.mem_cons_of_mem _ hy
              have HSUB := Lib.hid hsub
              have mg0 := mg
              have ms0 := ms
              have mg := hsub _ mg
              have E2 := Lib.hid hEa
              rw [hA0]
              clear hst hpl hR0 hy hget r0' r1' r2' r3' hWa hHM hEa hsub E1
              go_upto_region 21 with fail
              rw [← HWa.out]
              clear HWa r0 r1 r2 r3
              generalize wr.heap.size = bx at *
              have E2d := Lib.hid E2.out.drew
              obtain ⟨s1, s2, s3⟩ := sp_kind (E2d.out.whole mg)
              have b0 := (E2d.out.whole mb).cell 0
              simp at b0
              have HP := Lib.hid (put_es E2d.out 1 (0) (3) (yk) _ rfl rfl (by decide) 256 (by decide) (by omega) (by omega) ((by have := HC_.out k; omega)))
              go_still_tail 7, (by kernel_rfl)
              go_upto_region 22 with (go_at_call 45; refine HP.out.mono ?_; rintro e W3 ⟨rfl, S3, hE⟩; have E3 := Lib.hid hE; clear hE)
              clear HP s1 s2 s3 b0 E2 E2d
              have E3d := Lib.hid E3.out.drew
              obtain ⟨s1, s2, s3⟩ := sp_node (E3d.out.whole mg)
              have b0 := (E3d.out.whole mb).cell 1
              simp at b0
              have HP := Lib.hid (put_es E3d.out 1 (0) (x.nodes - 1) (yn) _ rfl rfl (by decide) 256 (by decide) (by omega) (by omega) ((by have := HC_.out k; simp only [List.length_append, be_length]; omega)))
              go_still_tail 7, (by kernel_rfl)
              go_upto_region 23 with (go_at_call 45; refine HP.out.mono ?_; rintro e W4 ⟨rfl, S4, hE⟩; have E4 := Lib.hid hE; clear hE)
              clear HP s1 s2 s3 b0 E3 E3d
              have E4d := Lib.hid E4.out.drew
              obtain ⟨s1, s2, s3⟩ := sp_time (E4d.out.whole mg)
              have b0 := (E4d.out.whole mb).cell 2
              simp at b0
              have HP := Lib.hid (put_es E4d.out 4 (0) (x.horizon) (yt) _ rfl rfl (by decide) 4294967296 (by decide) (by omega) (by omega) ((by have := HC_.out k; simp only [List.length_append, be_length]; omega)))
              go_still_tail 7, (by kernel_rfl)
              go_upto_region 24 with (go_at_call 45; refine HP.out.mono ?_; rintro e W5 ⟨rfl, S5, hE⟩; have E5 := Lib.hid hE; clear hE)
              clear HP s1 s2 s3 b0 E4 E4d
              have b0 := (E5.out.whole mb).cell 0
              simp at b0
              by_cases h2 : yk = 2
              · subst h2
                go_upto_region 25 with fail
                clear b0
                have E5d := Lib.hid E5.out.drew
                obtain ⟨s1, s2, s3⟩ := sp_payload (E5d.out.whole mg)
                have b0 := (E5d.out.whole mb).cell 3
                simp at b0
                have HP := Lib.hid (put_es E5d.out 1 (0) (255) ((yl.length : Int)) _ rfl rfl (by decide) 256 (by decide) (by omega) (by omega) ((by have := HC_.out k; simp only [List.length_append, be_length]; omega)))
                go_still_tail 8, (by kernel_rfl)
                go_upto_region 26 with (go_at_call 45; refine HP.out.mono ?_; rintro e W6 ⟨rfl, S6, hE⟩; have E6 := Lib.hid hE; clear hE)
                clear HP s1 s2 s3 b0 E5 E5d
                have b0 := (E6.out.whole mb).cell 3
                simp at b0
                go_upto_region 27 with (go_at_call 48; refine (tail_good _ S6 a _ yA yl.length yc yl E6.out.out (E6.out.src HPL.out.src).1 (E6.out.src HPL.out.src).2 (by have := HC_.out k; simp only [List.length_append, be_length]; omega)).mono ?_; intro e W7 ht; have E7 := Lib.hid (E6.out.turned ht); obtain ⟨rfl, _, _⟩ := ht)
                clear b0 E6
                go_wp2
                go_roundw
                case rel =>
                  refine ⟨k + 1, Grow S6 W6 W7, by omega, by go_num, ?_⟩
                  have e := HST.out
                  rw [if_pos trivial, ← List.append_assoc] at e
                  rw [e]
                  exact E7.out.fewer HSUB.out
                case measure => simp [intOf]; omega
              · go_wp2
                go_roundw
                case rel =>
                  refine ⟨k + 1, S5, by omega, by go_num, ?_⟩
                  have e := HST.out
                  rw [if_neg h2, List.append_nil] at e
                  rw [e]
                  exact E5.out.fewer HSUB.out
                case measure => simp [intOf]; omega
            · have hN : k = s.sc.haps.length := by
                show k = (s.haps.map HpA.hp).length
                rw [List.length_map]
                omega
              have hE := E1.out
              rw [hN, show encC x s.sc s.sc.haps.length = encF x s.sc 0 from (encF_zero x s.sc).symm] at hE
              have E4 := Lib.hid hE
              have b0 := (sc_cells (hE.whole ms)).2.2.2.2
              unfold Sl.v at b0
              clear hE hN E1
              go_wp2
              clear b0
              go_loopw [128] (fun iv wr => ∃ (k : Nat) (S : Nat → Prop), k ≤ V.f.n ∧ iv = .int .i64 (k : Int) ∧ ES w wr S a (encF x s.sc k) HL) (fun iv _ => V.f.n - (intOf iv).toNat)
              case atStart => exact ⟨0, _, by omega, rfl, E4.out⟩
              case round =>
                clear E4 hlt
                obtain ⟨k, S1, hk, rfl, hE⟩ := hrel
                have E1 := Lib.hid hE
                clear hE
                by_cases hlt : k < V.f.n
                · obtain ⟨g0, o0, hA0, hR0⟩ := HSc.out.f.get (i := k) hlt
                  have okf : okFt x (s.faults.getD k default) = true := HOK.out.2.2.2.2 _ (getD_mem (xs := s.faults) (j := k) (by omega))
                  have hst := encF_step x s.sc (k := k) (show k < s.faults.length by omega)
                  obtain ⟨y, hy⟩ : ∃ y, y = s.faults.getD k default := ⟨_, rfl⟩
                  rw [show s.sc.faults.getD k default = y from hy.symm] at hst
                  rw [← hy] at hR0 okf
                  obtain ⟨ys, yn, yr, yc, yb⟩ := y
                  dsimp only at hst
                  rw [okFt_iff] at okf
                  dsimp only at okf
                  have hone := fun W => oneIf_any yb W
                  obtain ⟨q, hq⟩ : ∃ q : Int, q = if yb then 1 else 0 := ⟨_, rfl⟩
                  rw [← hq] at hst
                  have hone : ∀ W, Calls Try.prog 49 #[.bool yb] W fun e w' => e = .returned (.int .i64 q) ∧ w' = W := fun W => by rw [hq]; exact oneIf_any yb W
                  have q01 : 0 ≤ q ∧ q ≤ 1 := by rw [hq]; cases yb <;> decide
                  have HONE := Lib.hid hone
                  have HST := Lib.hid hst
                  obtain ⟨r0', r1', r2', r3', r4'⟩ := ftC_cells hR0
                  have r0 := k_cell E1.out.kept r0'
                  have r1 := k_cell E1.out.kept r1'
                  have r2 := k_cell E1.out.kept r2'
                  have r3 := k_cell E1.out.kept r3'
                  have r4 := k_cell E1.out.kept r4'
                  dsimp only at r0 r1 r2 r3 r4
                  have f1 : (0 : Int) ≤ (k : Int) := by omega
                  have f2 : (k : Int) < (V.f.n : Int) := by omega
                  have hEa := E1.out.alloc 54 #[.int .i64 ys, .int .i64 yn, .int .i64 yr, .int .i64 yc, .bool yb]
                  obtain ⟨Wa, hWa⟩ : ∃ Wa, Wa = wr.alloc (.cells #[.int .i64 ys, .int .i64 yn, .int .i64 yr, .int .i64 yc, .bool yb] 54) := ⟨_, rfl⟩
                  have HWa := Lib.hid hWa
                  rw [← hWa] at hEa
                  obtain ⟨HM, hHM⟩ : ∃ HM, HM = (wr.heap.size, 54, #[.int .i64 ys, .int .i64 yn, .int .i64 yr, .int .i64 yc, .bool yb]) :: HL := ⟨_, rfl⟩
                  rw [← hHM] at hEa
                  have mb : (wr.heap.size, 54, #[.int .i64 ys, .int .i64 yn, .int .i64 yr, .int .i64 yc, .bool yb]) ∈ HM := by rw [hHM]; exact List.mem_cons_self ..
                  have hsub : ∀ y, y ∈ HL → y ∈ HM := fun y hy => by rw [hHM]; exact List.mem_cons_of_mem _ hy
                  have HSUB := Lib.hid hsub
                  have mg0 := mg
                  have ms0 := ms
                  have mg := hsub _ mg
                  have E2 := Lib.hid hEa
                  rw [hA0]
                  clear hst hone hq hR0 hy r0' r1' r2' r3' r4' hWa hHM hEa hsub E1
                  go_upto_region 31 with fail
                  rw [← HWa.out]
                  clear HWa r0 r1 r2 r3 r4
                  generalize wr.heap.size = bx at *
                  obtain ⟨s1, s2, s3⟩ := sp_kind (E2.out.whole mg)
                  have HP := Lib.hid (put_es E2.out 1 (0) (3) (3) _ rfl rfl (by decide) 256 (by decide) (by omega) (by omega) ((by have := HF_.out k; omega)))
                  go_upto_region 32 with (go_at_call 45; refine HP.out.mono ?_; rintro e W3 ⟨rfl, S3, hE⟩; have E3 := Lib.hid hE; clear hE)
                  clear HP s1 s2 s3  E2
                  have E3d := Lib.hid E3.out.drew
                  obtain ⟨s1, s2, s3⟩ := sp_node (E3d.out.whole mg)
                  have b0 := (E3d.out.whole mb).cell 0
                  simp at b0
                  have HP := Lib.hid (put_es E3d.out 1 (0) (x.nodes - 1) (ys) _ rfl rfl (by decide) 256 (by decide) (by omega) (by omega) ((by have := HF_.out k; simp only [List.length_append, be_length]; omega)))
                  go_still_tail 7, (by kernel_rfl)
                  go_upto_region 33 with (go_at_call 45; refine HP.out.mono ?_; rintro e W4 ⟨rfl, S4, hE⟩; have E4 := Lib.hid hE; clear hE)
                  clear HP s1 s2 s3 b0 E3 E3d
                  have E4d := Lib.hid E4.out.drew
                  obtain ⟨s1, s2, s3⟩ := sp_nth (E4d.out.whole mg)
                  have b0 := (E4d.out.whole mb).cell 1
                  simp at b0
                  have HP := Lib.hid (put_es E4d.out 2 (0) (65535) (yn) _ rfl rfl (by decide) 65536 (by decide) (by omega) (by omega) ((by have := HF_.out k; simp only [List.length_append, be_length]; omega)))
                  go_still_tail 7, (by kernel_rfl)
                  go_upto_region 34 with (go_at_call 45; refine HP.out.mono ?_; rintro e W5 ⟨rfl, S5, hE⟩; have E5 := Lib.hid hE; clear hE)
                  clear HP s1 s2 s3 b0 E4 E4d
                  have E5d := Lib.hid E5.out.drew
                  obtain ⟨s1, s2, s3⟩ := sp_receiver (E5d.out.whole mg)
                  have b0 := (E5d.out.whole mb).cell 2
                  simp at b0
                  have HP := Lib.hid (put_es E5d.out 1 (0) (x.nodes) (yr) _ rfl rfl (by decide) 256 (by decide) (by omega) (by omega) ((by have := HF_.out k; simp only [List.length_append, be_length]; omega)))
                  go_still_tail 7, (by kernel_rfl)
                  go_upto_region 35 with (go_at_call 45; refine HP.out.mono ?_; rintro e W6 ⟨rfl, S6, hE⟩; have E6 := Lib.hid hE; clear hE)
                  clear HP s1 s2 s3 b0 E5 E5d
                  have E6d := Lib.hid E6.out.drew
                  obtain ⟨s1, s2, s3⟩ := sp_channels (E6d.out.whole mg)
                  have b0 := (E6d.out.whole mb).cell 3
                  simp at b0
                  have HP := Lib.hid (put_es E6d.out 1 (1) (3) (yc) _ rfl rfl (by decide) 256 (by decide) (by omega) (by omega) ((by have := HF_.out k; simp only [List.length_append, be_length]; omega)))
                  go_still_tail 7, (by kernel_rfl)
                  go_upto_region 36 with (go_at_call 45; refine HP.out.mono ?_; rintro e W7 ⟨rfl, S7, hE⟩; have E7 := Lib.hid hE; clear hE)
                  clear HP s1 s2 s3 b0 E6 E6d
                  have E7d := Lib.hid E7.out.drew
                  obtain ⟨s1, s2, s3⟩ := sp_cut (E7d.out.whole mg)
                  have b0 := (E7d.out.whole mb).cell 4
                  simp at b0
                  have HP := Lib.hid (put_es E7d.out 1 (0) (1) (q) _ rfl rfl (by decide) 256 (by decide) (by omega) (by omega) ((by have := HF_.out k; simp only [List.length_append, be_length]; omega)))
                  go_still_tail 8, (by kernel_rfl)
                  still_call (HONE.out _)
                  refine wpStill_nil ?_
                  change wpList _ _ _ _ _ W7.drew
                  go_upto_region 37 with (go_at_call 45; refine HP.out.mono ?_; rintro e W8 ⟨rfl, S8, hE⟩; have E8 := Lib.hid hE; clear hE)
                  clear HP s1 s2 s3 b0 E7 E7d
                  go_wp2
                  go_roundw
                  case rel =>
                    refine ⟨k + 1, S8, by omega, by go_num, ?_⟩
                    rw [HST.out]
                    exact E8.out.fewer HSUB.out
                  case measure => simp [intOf]; omega
                · have hN : k = s.sc.faults.length := by
                    show k = s.faults.length
                    omega
                  have hE := E1.out
                  rw [hN, encF_all x s.sc, ← HAN.out] at hE
                  have E4 := Lib.hid hE
                  have hans : ans.length ≤ 19000 := by
                    have := HF_.out s.sc.faults.length
                    rw [encF_all x s.sc, ← HAN.out] at this
                    exact this
                  clear hE hN E1
                  go_wp2_with (go_at_call 50; refine (all_some _ _ a ans E4.out.out (by omega)).mono ?_; rintro e w9 ⟨v, rfl, hown, hb9⟩; have HO := Lib.hid (And.intro hown hb9); clear hown hb9)
                  go_ret2
                  exact ⟨v, rfl, ownsRow_base HO.out.1 E4.out.kept.size, k_then HO.out.2 E4.out.kept⟩
end Go.Proofs.Ytljcaigaofalbaa
