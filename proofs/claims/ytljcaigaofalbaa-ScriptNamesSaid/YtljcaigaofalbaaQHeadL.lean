/- ScriptHead, of two slices that read as bytes. No condition. -/
import Derived.Test.YtljcaigaofalbaaQY
import Derived.Test.YtljcaigaofalbaaQV
import Derived.Test.YtljcaigaofalbaaQM
namespace Go.Proofs.Ytljcaigaofalbaa
open Go.RowKit Go.Shelf

theorem bv_zero_snoc (b : List UInt8) (k : Nat) : bv (b ++ zer k) ++ [Value.int .u8 0] = bv (b ++ zer (k + 1)) := by
  rw [zer, zer, List.replicate_succ', ← List.append_assoc, bv_append (b ++ List.replicate k 0) [0]]
  rfl
/-- Decode's answer, read; what is newer than the call. -/
theorem Decode_new (x : Pl) (hf : failsL x 11 = 0) (A : Option Addr) (n c : Nat) (b : List UInt8) (w : World) (hs : Src w A n b) (hz : A = none → c = 0) (hn : n ≤ 65536) :
    Calls Try.prog 15 #[.agg x.cells, .slice A n c] w fun e w' => ∃ (V : ScV) (s : ScA), e = .returned (.tuple #[.agg V.cells, .int .i64 0]) ∧ ScAt w' V s ∧ s.sc = decS x b ∧ Below w.heap.size w w' ∧ (∀ ad, V.r.A = some ad → w.heap.size ≤ ad.block) ∧ (∀ ad, V.o.A = some ad → w.heap.size ≤ ad.block) := by
  refine (Decode_any x A n c b w hs hz).mono fun e w' h => ?_
  rw [if_pos ⟨hf, hn⟩] at h
  obtain ⟨V, s, G, B, rfl, hsb, _, hsc, hb⟩ := h
  obtain ⟨S, e1, e2, _⟩ := hsb.sc
  have hV := congrArg (fun a : Array Value => a.toList) e1
  simp only [Vs.cells, ScV.cells, List.cons.injEq, and_true] at hV
  have key : ∀ {k n : Nat} {e : TypeId} {s : Sl} {v : Value} {xs : List Value}, w'.ownsRow w.heap.size e k v n xs → v = s.v → ∀ ad, s.A = some ad → w.heap.size ≤ ad.block := by
    intro k n e s v xs ho hv ad hA
    have hg : v.ownBlock = some ad.block := by rw [hv, Sl.v, hA]; rfl
    exact (own_typed ho hg).1
  exact ⟨S, s, by rw [e1], e2, hsc, hb, key hsb.r0 hV.1, key hsb.r1 hV.2.1⟩
theorem src_take {w : World} {A : Option Addr} {n : Nat} {l : List UInt8} (h : Src w A n l) (m : Nat) (hm : m ≤ n) : Src w A m (l.take m) := by
  refine ⟨by rw [List.length_take, h.1]; omega, fun h0 => ?_⟩
  obtain ⟨b, o, e, hc⟩ := h.2 (by omega)
  refine ⟨b, o, e, fun i hi => ?_⟩
  rw [List.length_take] at hi
  rw [List.getElem_take]
  exact hc i (by omega)

section
variable {w : World} {g B : Nat} {t : TypeId} {cs : Array Value}
theorem far5 (h : Whole w g t cs) (hB : g ≠ B) (v0 v1 v2 v3 v4 : Value) : Whole (((((w.setCell ⟨B, 0, none⟩ v0).setCell ⟨B, 1, none⟩ v1).setCell ⟨B, 2, none⟩ v2).setCell ⟨B, 3, none⟩ v3).setCell ⟨B, 4, none⟩ v4) g t cs := ((((h.far hB _).far hB _).far hB _).far hB _).far hB _
theorem set5 {a0 a1 a2 a3 a4 : Value} (h : Whole w B t #[a0, a1, a2, a3, a4]) (v0 v1 v2 v3 v4 : Value) : Whole (((((w.setCell ⟨B, 0, none⟩ v0).setCell ⟨B, 1, none⟩ v1).setCell ⟨B, 2, none⟩ v2).setCell ⟨B, 3, none⟩ v3).setCell ⟨B, 4, none⟩ v4) B t #[v0, v1, v2, v3, v4] := ((((h.set 0 _).set 1 _).set 2 _).set 3 _).set 4 _
theorem kept5 {S : Nat → Prop} {a : World} (h : Kept S a w) (hB : S B ∨ a.heap.size ≤ B) (v0 v1 v2 v3 v4 : Value) : Kept S a (((((w.setCell ⟨B, 0, none⟩ v0).setCell ⟨B, 1, none⟩ v1).setCell ⟨B, 2, none⟩ v2).setCell ⟨B, 3, none⟩ v3).setCell ⟨B, 4, none⟩ v4) := ((((h.setCell (p := ⟨B, 0, none⟩) hB _).setCell (p := ⟨B, 1, none⟩) hB _).setCell (p := ⟨B, 2, none⟩) hB _).setCell (p := ⟨B, 3, none⟩) hB _).setCell (p := ⟨B, 4, none⟩) hB _
end
/-- What lies behind both Decodes: the first script as it was. -/
def HeadF (w : World) (x : Pl) (b9 : Nat) (V : ScV) (s : ScA) (W : World) : Prop :=
  Below w.heap.size w W ∧ Whole W w.heap.size 23 x.cells ∧ Whole W b9 29 V.cells ∧ RSrc rateC 2 W V.r s.rates ∧ RSrc numC 1 W V.o s.on
/-- .. and the second one. -/
def HeadR (w : World) (x : Pl) (b9 : Nat) (V : ScV) (s : ScA) (l : List UInt8) (s12 s13 : Value) (W : World) : Prop :=
  ∃ (B : Nat) (V' : ScV) (s' : ScA), s12 = .pointer (some ⟨B, 0, none⟩) ∧ s13 = .int .i64 0 ∧ Whole W B 29 V'.cells ∧ (RSrc rateC 2 W V'.r s'.rates ∧ RSrc numC 1 W V'.o s'.on) ∧ s'.sc = decS x l ∧ HeadF w x b9 V s W
section
variable {w w7 : World} {x : Pl} {b9 : Nat} {V : ScV} {s s' : ScA} {l : List UInt8} {B0 B1 B2 B3 B4 : Option Addr} {a0 a1 a2 a3 a4 d0 d1 d2 d3 d4 : Nat}
theorem headR_new (hq : ScAt w7 ⟨⟨B0, a0, d0⟩, ⟨B1, a1, d1⟩, ⟨B2, a2, d2⟩, ⟨B3, a3, d3⟩, ⟨B4, a4, d4⟩⟩ s') (hd : s'.sc = decS x l) (hk : HeadF w x b9 V s (w7.alloc (.cells #[.slice B0 a0 d0, .slice B1 a1 d1, .slice B2 a2 d2, .slice B3 a3 d3, .slice B4 a4 d4] 29))) :
    HeadR w x b9 V s l (.pointer (some ⟨w7.heap.size, 0, none⟩)) (.int .i64 0) (w7.alloc (.cells #[.slice B0 a0 d0, .slice B1 a1 d1, .slice B2 a2 d2, .slice B3 a3 d3, .slice B4 a4 d4] 29)) :=
  ⟨w7.heap.size, ⟨⟨B0, a0, d0⟩, ⟨B1, a1, d1⟩, ⟨B2, a2, d2⟩, ⟨B3, a3, d3⟩, ⟨B4, a4, d4⟩⟩, s', rfl, rfl, Whole.new w7 _ _, ⟨hq.r.later ((Below.refl _ _).alloc (Nat.le_refl _) _), hq.o.later ((Below.refl _ _).alloc (Nat.le_refl _) _)⟩, hd, hk⟩
theorem headR_set {B M : Nat} {y0 y1 y2 y3 y4 : Value} (hz : Whole w7 B 29 #[y0, y1, y2, y3, y4]) (hq : ScAt w7 ⟨⟨B0, a0, d0⟩, ⟨B1, a1, d1⟩, ⟨B2, a2, d2⟩, ⟨B3, a3, d3⟩, ⟨B4, a4, d4⟩⟩ s') (hd : s'.sc = decS x l) (h0 : ∀ ad, B0 = some ad → M ≤ ad.block) (h1 : ∀ ad, B1 = some ad → M ≤ ad.block) (hM : B < M)
    (hk : HeadF w x b9 V s (((((w7.setCell ⟨B, 0, none⟩ (.slice B0 a0 d0)).setCell ⟨B, 1, none⟩ (.slice B1 a1 d1)).setCell ⟨B, 2, none⟩ (.slice B2 a2 d2)).setCell ⟨B, 3, none⟩ (.slice B3 a3 d3)).setCell ⟨B, 4, none⟩ (.slice B4 a4 d4))) :
    HeadR w x b9 V s l (.pointer (some ⟨B, 0, none⟩)) (.int .i64 0) (((((w7.setCell ⟨B, 0, none⟩ (.slice B0 a0 d0)).setCell ⟨B, 1, none⟩ (.slice B1 a1 d1)).setCell ⟨B, 2, none⟩ (.slice B2 a2 d2)).setCell ⟨B, 3, none⟩ (.slice B3 a3 d3)).setCell ⟨B, 4, none⟩ (.slice B4 a4 d4)) := by
  have k := kept5 (Kept.refl (fun i => i = B) w7) (B := B) (.inl rfl) (.slice B0 a0 d0) (.slice B1 a1 d1) (.slice B2 a2 d2) (.slice B3 a3 d3) (.slice B4 a4 d4)
  exact ⟨B, ⟨⟨B0, a0, d0⟩, ⟨B1, a1, d1⟩, ⟨B2, a2, d2⟩, ⟨B3, a3, d3⟩, ⟨B4, a4, d4⟩⟩, s', rfl, rfl, set5 hz _ _ _ _ _, ⟨hq.r.kept k (fun ad e hi => by have h3 := h0 ad e; have hi : ad.block = B := hi; omega), hq.o.kept k (fun ad e hi => by have h3 := h1 ad e; have hi : ad.block = B := hi; omega)⟩, hd, hk⟩
end
theorem alloc_lt (w : World) (o : Obj) : w.heap.size < (w.alloc o).heap.size := by simp
def lenV : Value → Nat
  | .slice _ n _ => n
  | _ => 0
/-- append of what reads as bytes: at a step of a region that draws its order. -/
theorem step_append_src {P : Program} {ops : Array Oper} {o : Oper} {a : Act} {w : World} {K : Act → World → Prop} {Q : Exit → Act → World → Prop} {E : Prop} (hgd : o.guard = none) (s x : Operand) (t : TypeId)
    (ho : o.op = .call { callee := .builtin .append, args := #[s, x], argTypes := #[t, t] })
    (base : Nat) (e : TypeId) (i : TypeInfo) (ht : P.underlying t = some (.slice e)) (hi : P.info? e = some i) (hz : i.zero = some (.int .u8 0)) (hsize : i.size = 1) (hby : i.bytes = 1)
    (v : Value) (n : Nat) (xs : List Value) (hs : a.eval s = v) (hown : w.ownsRow base e 1 v n xs)
    (A : Option Addr) (m c : Nat) (l : List UInt8) (hx : a.eval x = .slice A m c) (hr : Src w A m l) (hlen : n + m ≤ 1099511627776) (hbase : base ≤ w.heap.size)
    (h : ∀ v' w', w'.ownsRow base e 1 v' (n + m) (xs ++ bv l) → w.grownBy w' v.ownBlock → (v'.ownBlock = v.ownBlock ∨ v'.ownBlock = some w.heap.size) → K (a.put o.dst v') w') :
    if Region.wanted o (yielded ops a.tmps) = true then Oper.wp P o a w K Q else E := by
  have hw : Region.wanted o (yielded ops a.tmps) = true := by simp [Region.wanted, hgd]
  rw [if_pos hw]
  obtain ⟨v', w', hrun, h2, h3, h4⟩ := run_append_src (P := P) w base t o.type e i ht hi hz hsize hby v n xs hown A m c l hr hlen hbase
  unfold Oper.wp execOp
  simp only [ho, resolve, invoke, builtin, Sem.run_bind, Sem.run_pure, Result.andThen_ok, List.map_toArray, List.map_cons, List.map_nil, hs, hx, hrun]
  exact h v' w' h2 h3 h4

set_option maxRecDepth 100000 in
set_option maxHeartbeats 8000000 in
theorem headLaw_any (x : Pl) (A1 A2 : Option Addr) (n1 n2 c1 c2 : Nat) (b c : List UInt8) (w : World) (h1 : Src w A1 n1 b) (h2 : Src w A2 n2 c) (z1 : A1 = none → c1 = 0) (z2 : A2 = none → c2 = 0) (k1 : n1 ≤ c1) :
    Calls Try.prog 8 #[.agg x.cells, .slice A1 n1 c1, .slice A2 n2 c2] w fun e w' => e = .returned (.bool true) ∧ Below w.heap.size w w' := by
  have hb0 : Below w.heap.size w (w.alloc (.cells x.cells 23)) := (Below.refl _ _).alloc (Nat.le_refl _) _
  have hP0 := Whole.new w 23 x.cells
  have H0 := Lib.hid (And.intro hb0 hP0)
  have HS := Lib.hid x.cellsL
  have HA := Lib.hid (fun W => aliveS_any W)
  have HS1 := Lib.hid (And.intro h1 z1)
  have HS2 := Lib.hid (And.intro h2 z2)
  have l1 : b.length = n1 := h1.1
  have l2 : c.length = n2 := h2.1
  have HL := Lib.hid (And.intro l1 l2)
  clear hb0 hP0 h1 h2 z1 z2 l1 l2
  by_cases hn1 : 3000 < n1
  · have d1 : decide ((3000 : Int) < (n1 : Int)) = true := by simp only [decide_eq_true_eq]; omega
    go_enter Try.func8, Try.ntmps8
    go_wp2_with (go_at_call 43; refine (HA.out _).mono ?_; rintro e w1 ⟨rfl, hb1⟩; have HB1 := Lib.hid (k_then hb1 H0.out.1); clear hb1)
    go_ret
    exact ⟨rfl, HB1.out⟩
  have d1 : decide ((3000 : Int) < (n1 : Int)) = false := by simp only [decide_eq_false_iff_not]; omega
  by_cases hn2 : 3000 < n2
  · have d2 : decide ((3000 : Int) < (n2 : Int)) = true := by simp only [decide_eq_true_eq]; omega
    go_enter Try.func8, Try.ntmps8
    go_wp2_with (go_at_call 43; refine (HA.out _).mono ?_; rintro e w1 ⟨rfl, hb1⟩; have HB1 := Lib.hid (k_then hb1 H0.out.1); clear hb1)
    go_ret
    exact ⟨rfl, HB1.out⟩
  have d2 : decide ((3000 : Int) < (n2 : Int)) = false := by simp only [decide_eq_false_iff_not]; omega
  by_cases hf : failsL x 11 = 0
  case neg =>
    have HC := Lib.hid (chk_no hf)
    go_enter Try.func8, Try.ntmps8
    go_wp2_with (first
      | (go_at_call 43; refine (HA.out _).mono ?_; rintro e w1 ⟨rfl, hb1⟩; have HB1 := Lib.hid (And.intro (k_then hb1 H0.out.1) (k_later hb1 H0.out.2)); clear hb1)
      | (refine wpList_load_want (by kernel_rfl) 23 (.tmp 3) rfl w.heap.size rfl 23 x.cells (0, 0) _ HB1.out.2 Try.underlying23 rfl HS.out.plan ?_)
      | (go_at_call 44; refine (HC.out _).mono ?_; rintro e w2 ⟨rfl, hb2⟩; have HB2 := Lib.hid (k_then hb2 HB1.out.1); clear hb2))
    go_ret
    exact ⟨rfl, HB2.out⟩
  have HC := Lib.hid (chk_yes hf)
  have hx := okp_of hf
  have N1 := hx.n1
  have N2 := hx.n2
  have HX := Lib.hid hx
  have HF := Lib.hid hf
  obtain ⟨N, hN⟩ : ∃ N : Nat, (N : Int) = x.nodes := ⟨x.nodes.toNat, Int.toNat_of_nonneg (by omega)⟩
  obtain ⟨m, hm⟩ : ∃ m, m = min n1 (8 * N) := ⟨_, rfl⟩
  have hm1 : m ≤ n1 := by omega
  have hm2 : m ≤ 8 * N := by omega
  have hm3 : m < n1 → m = 8 * N := by omega
  have HM := Lib.hid hm
  clear hm
  go_enter Try.func8, Try.ntmps8
  go_upto_region 4 with (first
    | (go_at_call 43; refine (HA.out _).mono ?_; rintro e w1 ⟨rfl, hb1⟩; have HB1 := Lib.hid (And.intro (k_then hb1 H0.out.1) (k_later hb1 H0.out.2)); clear hb1)
    | (refine wpList_load_want (by kernel_rfl) 23 (.tmp 3) rfl w.heap.size rfl 23 x.cells (0, 0) _ HB1.out.2 Try.underlying23 rfl HS.out.plan ?_)
    | (go_at_call 44; refine (HC.out _).mono ?_; rintro e w2 ⟨rfl, hb2⟩; have HB2 := Lib.hid (And.intro (k_then hb2 HB1.out.1) (k_later hb2 HB1.out.2)); clear hb2))
  have p0 := (HB2.out.2).cell 0
  simp [Pl.cells] at p0
  rw [← hN] at p0
  go_cut [8] (fun s8 wx => s8 = .int .i64 (m : Int) ∧ wx = w2)
  case first =>
    go_wp2_with fail
    all_goals (go_meet; exact ⟨congrArg (Value.int .i64) (by have := HM.out; omega), rfl⟩)
  case rest =>
    obtain ⟨rfl, rfl⟩ := hcut
    obtain ⟨i0, hi, hz0, hz1, hz2⟩ := info_parts u8_info
    have f1 : (0 : Int) ≤ (m : Int) := by omega
    have f2 : (m : Int) ≤ (c1 : Int) := by omega
    clear p0
    go_upto_region 6 with (at_builtin; refine wpList_append_src _ rfl (.tmp 40) (.tmp 43) _ rfl wc.heap.size 5 i0 Try.underlying30 hi hz0 hz1 hz2 (.slice (some ⟨wc.heap.size, 0, none⟩) 0 0) 0 [] rfl (World.ownsRow_made wc #[] 0 (Nat.le_refl _) (by simp [maxLen]) rfl) A1 m c1 (b.take m) rfl ((src_take HS1.out.1 m hm1).below (HB2.out.1.alloc HB2.out.1.size _)) (by omega) (by simp) ?_; intro v w3 g1 g2 g3; have HV := Lib.hid (And.intro g1 (And.intro g2 g3)); clear g1 g2 g3)
    have hb3 : Below wc.heap.size wc w3 := by
      refine ((Below.refl _ _).alloc (Nat.le_refl _) (.cells #[] 5)).grown HV.out.2.1 (by simp) (fun k hk => ?_)
      simp [Value.ownBlock] at hk
      omega
    have hown : w3.ownsRow w.heap.size 5 1 v m (bv (b.take m ++ zer (m - m))) := by
      have := ownsRow_base HV.out.1 HB2.out.1.size
      simpa [zer] using this
    obtain ⟨pv, cv, rfl⟩ := own_len hown
    have H3 := Lib.hid (And.intro (k_then hb3 HB2.out.1) (And.intro (k_later hb3 HB2.out.2) hown))
    clear hb3 hown HV
    go_loopw [9] (fun hv wr => ∃ (k : Nat) (p : Option Addr) (q : Nat), (m ≤ k ∧ k ≤ 8 * N) ∧ hv = .slice p k q ∧ Below w.heap.size w wr ∧ Whole wr w.heap.size 23 x.cells ∧ wr.ownsRow w.heap.size 5 1 (.slice p k q) k (bv (b.take m ++ zer (k - m)))) (fun hv _ => 8 * N - lenV hv)
    case atStart => exact ⟨m, pv, cv, ⟨by omega, by omega⟩, rfl, H3.out⟩
    case round =>
      obtain ⟨k, p, q, ⟨hk1, hk2⟩, rfl, hb, hp, hown⟩ := hrel
      have H4 := Lib.hid (And.intro hb (And.intro hp hown))
      have p0 := hp.cell 0
      simp [Pl.cells] at p0
      rw [← hN] at p0
      clear hb hp hown H3
      by_cases hlt : k < 8 * N
      · have e1 : (k : Int) < 8 * (N : Int) := by omega
        have hnew : ∀ W : World, Below wr.heap.size wr W → wr.grownBy W none → True := fun _ _ _ => trivial
        clear hnew
        go_wp2_with (at_builtin; refine wpList_append_own _ rfl (.tmp 51) (.tmp 52) 30 rfl w.heap.size 5 i0 (.int .u8 0) 1 1 Try.underlying30 hi hz0 hz1 hz2 rfl (by decide) (.slice p k q) k (bv (b.take m ++ zer (k - m))) rfl (H4.out.2.2.alloc _) ⟨wr.heap.size, 0, none⟩ 1 1 [.int .u8 0] rfl rfl (fun j u hu => World.news_of_block (Whole.new wr _ _) j u hu) (by intro u hu; simp at hu; subst hu; rfl) (by simp only [maxLen]; omega) (by omega) (by have := H4.out.1.size; simp; omega) ?_; intro v w5 g1 g2 g3; have HV := Lib.hid (And.intro g1 g2); clear g1 g2 g3)
        have hown : w5.ownsRow w.heap.size 5 1 v (k + 1) (bv (b.take m ++ zer (k + 1 - m))) := by
          have := HV.out.1
          rw [bv_zero_snoc, show k - m + 1 = k + 1 - m by omega] at this
          exact this
        obtain ⟨pv, cv, rfl⟩ := own_len hown
        go_roundw
        case rel =>
          refine ⟨k + 1, pv, cv, ⟨by omega, by omega⟩, rfl, ?_, ?_, hown⟩
          · exact (H4.out.1.alloc H4.out.1.size _).grown HV.out.2 (by have := H4.out.1.size; simp; omega) (fun j hj => (own_typed H4.out.2.2 hj).1)
          · exact (H4.out.2.1.alloc _).grown HV.out.2 ((H4.out.2.1).not_row (by decide) H4.out.2.2)
        case measure => simp [lenV]; omega
      · obtain rfl : k = 8 * N := by omega
        obtain ⟨hd, hhd⟩ : ∃ hd, hd = b.take m ++ zer (8 * N - m) := ⟨_, rfl⟩
        have HHD := Lib.hid hhd
        obtain ⟨hb4, hp4, ho4⟩ := H4.out
        rw [← hhd] at ho4
        have hdl : hd.length = 8 * N := by have := ho4.1; rw [bv_length] at this; omega
        have H5 := Lib.hid (And.intro hb4 (And.intro hp4 ho4))
        have HD := Lib.hid (fun W (hb : Below wr.heap.size wr W) => Decode_new x HF.out A1 n1 c1 b W (HS1.out.1.below (k_then hb H5.out.1)) HS1.out.2 (by omega))
        clear hb4 hp4 ho4 hhd H4 HM
        go_upto_region 9 with (first
          | (refine wpList_load_row rfl 23 (.tmp 3) rfl w.heap.size rfl 23 x.cells (0, 0) _ H5.out.2.1 Try.underlying23 rfl HS.out.plan ?_)
          | (go_at_call 15; refine (HD.out _ (Below.refl _ _)).mono ?_; rintro e wd ⟨V, s, rfl, hsc, hdec, hb, hn1, hn2⟩; have H6 := Lib.hid (And.intro hb (And.intro hsc (And.intro hdec (And.intro hn1 hn2)))); have HVi := Lib.hid V.info; have HVo := Lib.hid V.one; clear hb hsc hdec hn1 hn2)
          | (refine wpList_store_last (w := wd) rfl 29 (.tmp 10) (.tmp 58) rfl _ V.cells rfl rfl 29 _ rfl HVi.out rfl HVo.out ?_))
        obtain ⟨W8, hW8⟩ : ∃ W8, W8 = wd.alloc (.cells V.cells 29) := ⟨_, rfl⟩
        have hb8 : Below wr.heap.size wr W8 := by rw [hW8]; exact H6.out.1.alloc H6.out.1.size _
        have hV8 : Whole W8 wd.heap.size 29 V.cells := by rw [hW8]; exact Whole.new wd _ _
        have hz8 : W8.heap.size = wd.heap.size + 1 := by rw [hW8]; simp
        have hsc8 : ScAt W8 V s := H6.out.2.1.later (by rw [hW8]; exact (Below.refl _ _).alloc (Nat.le_refl _) _)
        have ho8 : W8.ownsRow w.heap.size 5 1 (.slice p (8 * N) q) (8 * N) (bv hd) := ownsRow_kept H5.out.2.2 (Kept.of_below hb8 Empty) (fun _ _ h => h)
        have hp8 := k_later hb8 H5.out.2.1
        have hlow : ∀ i, some i = (Value.slice p (8 * N) q).ownBlock → i < wr.heap.size ∧ w.heap.size ≤ i := fun i hi => by
          obtain ⟨g1, cur, g2⟩ := own_typed H5.out.2.2 hi.symm
          exact ⟨(Array.getElem?_eq_some_iff.1 g2).1, g1⟩
        have HKP := Lib.hid (fun W (hk : Kept (fun i => some i = (Value.slice p (8 * N) q).ownBlock) W8 W) => (show HeadF w x wd.heap.size V s W from by
          refine ⟨?_, hp8.kept hk (fun hi => ?_), hV8.kept hk (fun hi => ?_), hsc8.r.kept hk (fun ad e hi => ?_), hsc8.o.kept hk (fun ad e hi => ?_)⟩
          · have hbw := k_then hb8 H5.out.1
            exact ((Kept.of_below hbw Empty).trans (hk.mono (T := fun i => w.heap.size ≤ i) fun i hi => (hlow i hi).2) (T := fun i => w.heap.size ≤ i) (fun i hi hn => by have hn : w.heap.size ≤ i := hn; omega)).below (fun _ _ h => h)
          · exact hp8.not_row (by decide) ho8 hi
          · have := (hlow _ hi).1
            have := H6.out.1.size
            omega
          · have := (hlow _ hi).1
            have := H6.out.2.2.2.1 _ e
            omega
          · have := (hlow _ hi).1
            have := H6.out.2.2.2.2 _ e
            omega))
        have HNE := Lib.hid (show w.heap.size ≠ W8.heap.size from Nat.ne_of_lt hp8.lt)
        have HNP := Lib.hid (hp8.not_row (by decide) ho8)
        have HNR := Lib.hid (show some W8.heap.size ≠ (Value.slice p (8 * N) q).ownBlock from fun e => by have := (hlow _ e).1; have := H6.out.1.size; omega)
        have H8 := Lib.hid (And.intro ho8 (And.intro hp8 hb8))
        have HD2 := Lib.hid (fun W A n q (h : Src W A n (hd ++ c)) (hz : A = none → q = 0) (hn : n ≤ 65536) => Decode_new x HF.out A n q (hd ++ c) W h hz hn)
        rw [← hW8]
        clear hW8 hb8 hV8 hsc8 ho8 hp8 hlow HD H5 hz8
        go_cut [12, 13] (fun s12 s13 wx => HeadR w x wd.heap.size V s (hd ++ c) s12 s13 wx)
        case first =>
          have K15 := Lib.hid (show ∀ args W, (callFunc 15 args).run Try.prog W = .ok (.enter 15 args) W from enters_of Try.func15 (by kernel_rfl) rfl)
          have HSR := Lib.hid (HS2.out.1.below ((HKP.out W8 (Kept.refl _ _)).1))
          have HKR := Lib.hid (show ∀ k, (Value.slice p (8 * N) q).ownBlock = some k → (some k = (Value.slice p (8 * N) q).ownBlock) ∨ W8.heap.size ≤ k from fun k hk => .inl hk.symm)
          have HEE := Lib.hid (show ∀ i, i < W8.heap.size → Empty i → some i = (Value.slice p (8 * N) q).ownBlock from fun _ _ h => False.elim h)
          have FO0 := Lib.hid (show W8.drew.ownsRow w.heap.size 5 1 (.slice p (8 * N) q) (8 * N) (bv hd) from H8.out.1)
          have FO1 := Lib.hid (show (W8.alloc (.cells #[.slice none 0 0, .slice none 0 0, .slice none 0 0, .slice none 0 0, .slice none 0 0] 29)).drew.ownsRow w.heap.size 5 1 (.slice p (8 * N) q) (8 * N) (bv hd) from H8.out.1.alloc _)
          have FS0 := Lib.hid (show Src W8.drew A2 n2 c from HSR.out)
          have FS1 := Lib.hid (show Src (W8.alloc (.cells #[.slice none 0 0, .slice none 0 0, .slice none 0 0, .slice none 0 0, .slice none 0 0] 29)).drew A2 n2 c from HSR.out.below ((Below.refl _ _).alloc (Nat.le_refl _) _).drew)
          have FP0 := Lib.hid (show Whole W8.drew w.heap.size 23 x.cells from H8.out.2.1)
          have FP1 := Lib.hid (show Whole (W8.alloc (.cells #[.slice none 0 0, .slice none 0 0, .slice none 0 0, .slice none 0 0, .slice none 0 0] 29)).drew w.heap.size 23 x.cells from H8.out.2.1.alloc _)
          have FZ1 := Lib.hid (show Whole (W8.alloc (.cells #[.slice none 0 0, .slice none 0 0, .slice none 0 0, .slice none 0 0, .slice none 0 0] 29)).drew W8.heap.size 29 #[.slice none 0 0, .slice none 0 0, .slice none 0 0, .slice none 0 0, .slice none 0 0] from Whole.new W8 _ _)
          have HSZ := Lib.hid ((HKP.out W8 (Kept.refl _ _)).1.size)
          go_region_held3 (fun W => W.cell? ⟨w.heap.size, 0, none⟩ = some (.int .i64 x.nodes) ∧ W.cell? ⟨w.heap.size, 1, none⟩ = some (.int .i64 x.kk) ∧ W.cell? ⟨w.heap.size, 2, none⟩ = some (.int .i64 x.slot) ∧ W.cell? ⟨w.heap.size, 3, none⟩ = some (.int .i64 x.sendOff) ∧ W.cell? ⟨w.heap.size, 4, none⟩ = some (.int .i64 x.window) ∧ W.cell? ⟨w.heap.size, 5, none⟩ = some (.int .i64 x.air) ∧ W.cell? ⟨w.heap.size, 6, none⟩ = some (.int .i64 x.dmin) ∧ W.cell? ⟨w.heap.size, 7, none⟩ = some (.int .i64 x.dmax) ∧ W.cell? ⟨w.heap.size, 8, none⟩ = some (.int .i64 x.rho) ∧ W.cell? ⟨w.heap.size, 9, none⟩ = some (.int .i64 x.pi) ∧ W.cell? ⟨w.heap.size, 10, none⟩ = some (.int .i64 x.cap) ∧ W.cell? ⟨w.heap.size, 11, none⟩ = some (.int .i64 x.delta) ∧ W.cell? ⟨w.heap.size, 12, none⟩ = some (.int .i64 x.queue) ∧ W.cell? ⟨w.heap.size, 13, none⟩ = some (.int .i64 x.burst) ∧ W.cell? ⟨w.heap.size, 14, none⟩ = some (.int .i64 x.payload) ∧ W.cell? ⟨w.heap.size, 15, none⟩ = some (.int .i64 x.horizon)) (first | with_reducible exact pl16 FP0.out | with_reducible exact pl16 FP1.out | with_reducible exact pl16 P7 | with_reducible exact pl16 (Whole.alloc P7 _) | with_reducible exact pl16 (far5 P7 HNE.out _ _ _ _ _) | with_reducible exact pl16 (far5 P7 (Nat.ne_of_lt P6.lt) _ _ _ _ _) | with_reducible exact pl16 P6 | with_reducible exact pl16 (Whole.alloc P6 _)) (first
            | (refine step_call (by rfl) 15 [.tmp 61, .tmp 64] #[23, 30] (by rfl) K15.out [.agg x.cells, .slice p6 (8 * N + n2) q6] (by rfl) ?_; refine (HD2.out _ p6 _ q6 (by first | with_reducible exact HG.out.2.2.1 | with_reducible exact HG.out.2.2.1.below ((Below.refl _ _).alloc (Nat.le_refl _) _)) (fun h => (HG.out.2.2.2 h).2) (by omega)).mono ?_; rintro e w7 ⟨⟨⟨B0, a0, d0⟩, ⟨B1, a1, d1'⟩, ⟨B2, a2, d2'⟩, ⟨B3, a3, d3⟩, ⟨B4, a4, d4⟩⟩, s', rfl, hsc', hdec', hb', hr', ho'⟩; have HQ := Lib.hid (And.intro hsc' (And.intro hdec' (And.intro hb' (And.intro hr' ho')))); (first | have Z7 : Whole w7 W8.heap.size 29 #[.slice none 0 0, .slice none 0 0, .slice none 0 0, .slice none 0 0, .slice none 0 0] := k_later hb' Z6 | have Z7 : Whole w7 w6.heap.size 29 #[.slice none 0 0, .slice none 0 0, .slice none 0 0, .slice none 0 0, .slice none 0 0] := k_later hb' (Whole.new w6 _ _) | skip); (first | (have y0 := Z7.cell 0; have y1 := Z7.cell 1; have y2 := Z7.cell 2; have y3 := Z7.cell 3; have y4 := Z7.cell 4; have q0 := Z7.frozen 0; have q1 := Z7.frozen 1; have q2 := Z7.frozen 2; have q3 := Z7.frozen 3; have q4 := Z7.frozen 4; simp at y0 y1 y2 y3 y4) | skip); (first | have K7 : Kept (fun i => some i = (Value.slice p (8 * N) q).ownBlock) W8 w7 := Kept.trans K6 (Kept.of_below hb' Empty) HEE.out | have K7 : Kept (fun i => some i = (Value.slice p (8 * N) q).ownBlock) W8 w7 := Kept.trans (Kept.alloc K6 _) (Kept.of_below hb' Empty) HEE.out); (first | have P7 : Whole w7 w.heap.size 23 x.cells := k_later hb' P6 | have P7 : Whole w7 w.heap.size 23 x.cells := k_later hb' (Whole.alloc P6 _)); clear hsc' hdec' hb' hr' ho'; unfold ScV.cells Sl.v; dsimp only; refine ⟨_, rfl, ?_⟩)
            | (refine step_append_src (by rfl) (.tmp 62) (.tmp 63) 30 (by rfl) w.heap.size 5 i0 Try.underlying30 hi hz0 hz1 hz2 (.slice p (8 * N) q) (8 * N) (bv hd) (by rfl) (by first | with_reducible exact FO0.out | with_reducible exact FO1.out) A2 n2 c2 c (by rfl) (by first | with_reducible exact FS0.out | with_reducible exact FS1.out) (by omega) (by first | exact HSZ.out | (simp; have := HSZ.out; omega)) ?_; intro v' w6 g1 g2 g3; rw [← bv_append] at g1; obtain ⟨p6, q6, rfl, _, hs6, _, hz6⟩ := Src.of_own g1; have HG := Lib.hid (And.intro g2 (And.intro g3 (And.intro hs6 hz6))); (first | have Z6 : Whole w6 W8.heap.size 29 #[.slice none 0 0, .slice none 0 0, .slice none 0 0, .slice none 0 0, .slice none 0 0] := Whole.grown FZ1.out g2 HNR.out | skip); (first | have K6 : Kept (fun i => some i = (Value.slice p (8 * N) q).ownBlock) W8 w6 := Kept.grown (Kept.drew (Kept.refl _ W8)) g2 HKR.out | have K6 : Kept (fun i => some i = (Value.slice p (8 * N) q).ownBlock) W8 w6 := Kept.grown (Kept.drew (Kept.alloc (Kept.refl _ W8) _)) g2 HKR.out); (first | have P6 : Whole w6 w.heap.size 23 x.cells := Whole.grown FP0.out g2 HNP.out | have P6 : Whole w6 w.heap.size 23 x.cells := Whole.grown FP1.out g2 HNP.out); clear g1 g2 g3 hs6 hz6))
          all_goals (go_wp2_with fail; go_meet)
          all_goals first
            | with_reducible exact headR_new HQ.out.1 HQ.out.2.1 (HKP.out _ (Kept.alloc K7 _))
            | with_reducible exact headR_set Z7 HQ.out.1 HQ.out.2.1 HQ.out.2.2.2.1 HQ.out.2.2.2.2 (alloc_lt _ _) (HKP.out _ (kept5 K7 (.inr K6.size) _ _ _ _ _))
            | with_reducible exact headR_set Z7 HQ.out.1 HQ.out.2.1 HQ.out.2.2.2.1 HQ.out.2.2.2.2 Z6.lt (HKP.out _ (kept5 K7 (.inr (Nat.le_refl _)) _ _ _ _ _))
        case rest =>
          obtain ⟨B, V', s', rfl, rfl, hB, ⟨hr', ho'⟩, hdec', hbw, hpw, hsw, hr, ho⟩ := hcut
          have hlen0 : (decS x b).rates.length = N := by simp [decS]; omega
          have hlen1 : (decS x b).on.length = N := by simp [decS]; omega
          have hsame := head_same (x := x) (l := b) (m := hd ++ c) (fun i hi => by
            have hi : i < 8 * N := by omega
            have lb : b.length = n1 := HL.out.1
            rw [HHD.out, List.getD_eq_getElem?_getD, List.getD_eq_getElem?_getD, List.getElem?_append_left (by rw [List.length_append, List.length_take, zer_length]; omega)]
            by_cases him : i < m
            · rw [List.getElem?_append_left (by rw [List.length_take]; omega), List.getElem?_take_of_lt him]
            · rw [List.getElem?_append_right (by rw [List.length_take]; omega), List.getElem?_eq_none (show b.length ≤ i by omega), zer, List.getElem?_replicate, if_pos (by rw [List.length_take]; omega)]
              rfl)
          have e1 : s.rates = (decS x b).rates := congrArg Sc.rates H6.out.2.2.1
          have e2 : s.on = (decS x b).on := congrArg Sc.on H6.out.2.2.1
          have e3 : s'.rates = (decS x b).rates := (congrArg Sc.rates hdec').trans hsame.1.symm
          have e4 : s'.on = (decS x b).on := (congrArg Sc.on hdec').trans hsame.2.symm
          rw [e1] at hr
          rw [e2] at ho
          rw [e3] at hr'
          rw [e4] at ho'
          generalize (decS x b).rates = rs at *
          generalize (decS x b).on = os at *
          have n0 : V.r.n = N := by rw [← hr.len]; exact hlen0
          have n1' : V.o.n = N := by rw [← ho.len]; exact hlen1
          have n2' : V'.r.n = N := by rw [← hr'.len]; exact hlen0
          have n3' : V'.o.n = N := by rw [← ho'.len]; exact hlen1
          obtain ⟨b0, b1, _⟩ := sc_cells hsw
          obtain ⟨d0, d1', _⟩ := sc_cells hB
          have p0 := hpw.cell 0
          simp [Pl.cells] at p0
          rw [← hN] at p0
          unfold Sl.v at b0 b1 d0 d1'
          rw [n0] at b0
          rw [n1'] at b1
          rw [n2'] at d0
          rw [n3'] at d1'
          have H9 := Lib.hid (And.intro hbw (And.intro hB (And.intro hsw (And.intro hr (And.intro ho (And.intro hr' ho'))))))
          have HNN := Lib.hid (And.intro (And.intro n0 n1') (And.intro n2' n3'))
          have HLL := Lib.hid (And.intro hlen0 hlen1)
          clear hB hr ho hr' ho' hdec' hbw hpw hsw e1 e2 e3 e4 n0 n1' n2' n3' hsame H6 HD2 HKP H8 HNR HNP HNE hlen0 hlen1
          go_wp2
          clear b0 b1 d0 d1' p0
          go_loopw [93] (fun iv wr => ∃ k : Nat, k ≤ N ∧ iv = .int .i64 (k : Int) ∧ Below wc.heap.size wc wr) (fun iv _ => N - (intOf iv).toNat)
          case atStart => exact ⟨0, Nat.zero_le _, rfl, Below.refl _ _⟩
          case round =>
            obtain ⟨k, hk, rfl, hb⟩ := hrel
            have HB := Lib.hid hb
            clear hb
            by_cases hlt : k < N
            · obtain ⟨hbw, hB, hsw, hr, ho, hr', ho'⟩ := H9.out
              obtain ⟨⟨n0, n1'⟩, n2', n3'⟩ := HNN.out
              obtain ⟨g0, o0, hA0, hR0⟩ := (hr.later HB.out).get (i := k) (by omega)
              obtain ⟨g1, o1, hA1, hR1⟩ := (ho.later HB.out).get (i := k) (by omega)
              obtain ⟨g2, o2, hA2, hR2⟩ := (hr'.later HB.out).get (i := k) (by omega)
              obtain ⟨g3, o3, hA3, hR3⟩ := (ho'.later HB.out).get (i := k) (by omega)
              obtain ⟨b0, b1, _⟩ := sc_cells (k_later HB.out hsw)
              obtain ⟨d0, d1', _⟩ := sc_cells (k_later HB.out hB)
              unfold Sl.v at b0 b1 d0 d1'
              rw [n0, hA0] at b0
              rw [n1', hA1] at b1
              rw [n2', hA2] at d0
              rw [n3', hA3] at d1'
              obtain ⟨y, hy⟩ : ∃ y, y = rs.getD k default := ⟨_, rfl⟩
              obtain ⟨z, hz⟩ : ∃ z, z = os.getD k default := ⟨_, rfl⟩
              rw [← hy] at hR0 hR2
              rw [← hz] at hR1 hR3
              obtain ⟨yn, yd⟩ := y
              obtain ⟨r0, r1⟩ := rateC_cells hR0
              obtain ⟨r2, r3⟩ := rateC_cells hR2
              have r4 := numC_cell hR1
              have r5 := numC_cell hR3
              dsimp only at r0 r1 r2 r3
              have qN := fun W => rate_neq (yn, yd) (yn, yd) W
              rw [decide_eq_true rfl] at qN
              dsimp only [Bool.not_true] at qN
              have f1 : (0 : Int) ≤ (k : Int) := by omega
              have f2 : (k : Int) < (N : Int) := by omega
              clear hbw hB hsw hr ho hr' ho' n0 n1' n2' n3' hA0 hA1 hA2 hA3 hR0 hR1 hR2 hR3 hy hz
              go_wp2
              go_quiet (fail)
              go_wp2
              go_roundw
              case rel => exact ⟨k + 1, by omega, by go_num, below_drewN HB.out _⟩
              case measure => simp [intOf]; omega
            · go_wp2
              go_ret
              exact ⟨rfl, k_then HB.out H9.out.1⟩
end Go.Proofs.Ytljcaigaofalbaa
