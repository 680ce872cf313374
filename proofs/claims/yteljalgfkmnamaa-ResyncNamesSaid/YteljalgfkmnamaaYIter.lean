/- Rounds, told one by one: the iterator, by its contract. No condition. -/
import Derived.Test.YteljalgfkmnamaaYRows
import Derived.Test.YteljalgfkmnamaaShareR
import Derived.Maps.OwnIn
namespace Go.Proofs.Yteljalgfkmnamaa
open Go.RowKit Go.Shelf
attribute [local go_sem] Oper.semAt_some

section
variable {F : Fence} {nF : Nat} {P : Program} {ops : Array Oper} {rest : List Oper} {o : Oper} {a : Act} {w : World} {Q : Exit → Act → World → Prop}
theorem wpListIn_load_row (hgd : o.guard = none) (ty : TypeId) (x : Operand) (ho : o.op = .load ty x) (g : Nat) (hx : a.eval x = .pointer (some ⟨g, 0, none⟩)) (t : TypeId) (cs : Array Value) (fr : Nat × Nat) (d : TypeDesc)
    (hg : w.heap[g]? = some (.cells cs t fr)) (hu : P.underlying ty = some d) (hd : (match d with | .struct _ | .array _ _ => true | _ => false) = true) (hi : (P.info? ty).map (·.size) = some cs.size)
    (h : wpListIn F nF P ops Q rest (a.put o.dst (.agg cs)) w) : wpListIn F nF P ops Q (o :: rest) a w := by
  refine wpListIn_plain hgd fun K hK => ?_
  unfold Oper.wpIn
  refine ⟨by simp [Oper.about, ho], ?_⟩
  rw [Oper.semAt_plain F _ _ (by rw [ho]; intro c hc'; cases hc')]
  simp only [execOp, ho, hx, Instr.loadAt, Instr.sureAddr, Sem.run_bind, Sem.run_pure, Result.andThen_ok, run_loadVar_row w g t ty cs fr d hg hu hd hi]
  exact hK _ _ h
end

set_option maxHeartbeats 1000000 in
theorem turns_in (n : Nat) (x : Pl) (S : Sl) (w : World) :
    CallsIn Fence.wide n Try.prog 25 #[.agg x.cells, S.v] w fun e w' => e = .returned (.func (.func 32) #[] #[.pointer (some ⟨w.heap.size + 1, 0, none⟩), .pointer (some ⟨w.heap.size, 0, none⟩)]) ∧
      w' = (w.alloc (.cells x.cells 23)).alloc (.cells #[S.v] 27) := by
  have hmf : ∀ (fn : Fn) (first cap : Array Value) (w : World), (Instr.makeFunc fn first cap).run Try.prog w = .ok (.func fn first cap) w := fun _ _ _ _ => rfl
  obtain ⟨A, N, c⟩ := S
  unfold Sl.v
  dsimp only
  generalize x.cells = cs
  refine callsIn_of_wp Try.func25 rfl trivial ?_ rfl
  simp only [Try.ntmps25, List.size_toArray, List.length_cons, List.length_nil, Nat.reduceAdd, Nat.reduceSub, Array.replicate_succ, Array.replicate_zero, List.push_toArray, List.append_toArray, List.nil_append, List.cons_append]
  gi_wp2
  go_ret
  exact ⟨rfl, rfl⟩

/-- What a round is handed: what was done behind it, and its error. -/
def EncY (x : Pl) (L : List (List Int)) (j : Nat) (args : Array Value) (_ : Nat → Prop) (_ : World) : Prop := args = #[(runY x L j).y.v, .int .i64 (runY x L j).e]
/-- The iterator's own blocks. -/
def turnF (bR bP : Nat) : Nat → Prop := fun i => i = bR ∨ i = bP
/-- Between two rounds. -/
structure TrnW (J : Nat → (Nat → Prop) → World → Prop) (bR bP d : Nat) (S : Sl) (x : Pl) (y : Sy) (j : Nat) (V : World) : Prop where
  own : ∃ G, J j G V ∧ ∀ i, G i → i < V.heap.size ∧ ¬ (turnF bR bP i ∨ i = d)
  rows : Whole V bR 27 #[S.v]
  plan : Whole V bP 23 x.cells
  box : Whole V d 25 #[.int .i64 y.r, .int .i64 y.s, .int .i64 y.t, .bool y.b]
  apart : d ≠ bR ∧ d ≠ bP

section
variable {J : Nat → (Nat → Prop) → World → Prop} {bR bP d i : Nat} {S : Sl} {x : Pl} {y : Sy} {wr W2 W4 : World} {G G' : Nat → Prop}
/-- Behind a round's end the iterator's blocks are there. -/
theorem TrnW.after (hw : TrnW J bR bP d S x y i wr) (hG : ∀ i, G i → i < wr.heap.size ∧ ¬ (turnF bR bP i ∨ i = d)) (hb : Below wr.heap.size wr W2) (hk : Kept G W2 W4) :
    Whole W4 bR 27 #[S.v] ∧ Whole W4 bP 23 x.cells ∧ Whole W4 d 25 #[.int .i64 y.r, .int .i64 y.s, .int .i64 y.t, .bool y.b] :=
  ⟨(k_later hb hw.rows).kept hk (fun h => (hG _ h).2 (.inl (.inl rfl))), (k_later hb hw.plan).kept hk (fun h => (hG _ h).2 (.inl (.inr rfl))), (k_later hb hw.box).kept hk (fun h => (hG _ h).2 (.inr rfl))⟩
/-- The next round's start. -/
theorem TrnW.next (hJ : ∀ k G A B, J k G A → (∀ i, G i → i < A.heap.size) → Kept (fun i => ¬ G i) A B → J k G B) (hap : d ≠ bR ∧ d ≠ bP) {p0 p1 p2 p3 : Value}
    (h1 : Whole W4 bR 27 #[S.v]) (h2 : Whole W4 bP 23 x.cells) (h3 : Whole W4 d 25 #[p0, p1, p2, p3]) (hj : J i G' W4) (hg : ∀ i, G' i → i < W4.heap.size ∧ ¬ (turnF bR bP i ∨ i = d)) (r s t : Int) (b : Bool) (hy : y = ⟨r, s, t, b⟩) :
    TrnW J bR bP d S x y i ((((W4.setCell ⟨d, 0, none⟩ (.int .i64 r)).setCell ⟨d, 1, none⟩ (.int .i64 s)).setCell ⟨d, 2, none⟩ (.int .i64 t)).setCell ⟨d, 3, none⟩ (.bool b)) := by
  subst hy
  have hz : ((((W4.setCell ⟨d, 0, none⟩ (.int .i64 r)).setCell ⟨d, 1, none⟩ (.int .i64 s)).setCell ⟨d, 2, none⟩ (.int .i64 t)).setCell ⟨d, 3, none⟩ (.bool b)).heap.size = W4.heap.size := by simp [World.setCell]
  have hnd : ¬ G' d := fun h => (hg d h).2 (.inr rfl)
  refine ⟨⟨G', hJ i G' W4 _ hj (fun k hk => (hg k hk).1) (((((Kept.refl (fun k => ¬ G' k) W4).setCell (p := ⟨d, 0, none⟩) (.inl hnd) _).setCell (p := ⟨d, 1, none⟩) (.inl hnd) _).setCell (p := ⟨d, 2, none⟩) (.inl hnd) _).setCell (p := ⟨d, 3, none⟩) (.inl hnd) _), fun k hk => ?_⟩, ?_, ?_, y_store h3 _ _ _ _, hap⟩
  · rw [hz]; exact hg k hk
  · exact (((h1.far (p := ⟨d, 0, none⟩) hap.1.symm _).far (p := ⟨d, 1, none⟩) hap.1.symm _).far (p := ⟨d, 2, none⟩) hap.1.symm _).far (p := ⟨d, 3, none⟩) hap.1.symm _
  · exact (((h2.far (p := ⟨d, 0, none⟩) hap.2.symm _).far (p := ⟨d, 1, none⟩) hap.2.symm _).far (p := ⟨d, 2, none⟩) hap.2.symm _).far (p := ⟨d, 3, none⟩) hap.2.symm _
end

theorem wpIn_scope_y {n : Nat} {P : Program} {c : Code} {Q : Exit → Act → World → Prop} {a : Act} {w : World} (h : c.wpIn Fence.wide n P (Exit.noGoto Q) a w) : (Code.scope c).wpIn Fence.wide n P Q a w :=
  wpIn_wide.2 (wp_scope_straight (wpIn_wide.1 h))

/-- A round is handed on. -/
theorem turn_yield {J Jx : Nat → (Nat → Prop) → World → Prop} {bR bP d i m lp M : Nat} {S : Sl} {x : Pl} {y : Sy} {L : List (List Int)} {wr w1 : World} {G : Nat → Prop} {args : Array Value}
    (hY : ∀ k G F args A, k < M → J k G A → (∀ i, G i → i < A.heap.size ∧ ¬ F i) → (∀ i, F i → i < A.heap.size) → EncY x L (k + 1) args F A →
      YieldAt Fence.wide (m - 1) Try.prog lp args A fun e B => ∃ G', Kept G A B ∧ (∀ i, G' i → i < B.heap.size ∧ ¬ F i) ∧ ((e = .returned (.bool true) ∧ J (k + 1) G' B) ∨ (e = .returned (.bool false) ∧ Jx (k + 1) G' B)))
    (hJ : ∀ k G A B, J k G A → (∀ i, G i → i < A.heap.size) → Kept (fun i => ¬ G i) A B → J k G B)
    (hw : TrnW J bR bP d S x y i wr) (hj : J i G wr) (hG : ∀ i, G i → i < wr.heap.size ∧ ¬ (turnF bR bP i ∨ i = d)) (hb : Below wr.heap.size wr w1) (hi : i < M) (cs : Array Value) (hE : ∀ F V, EncY x L (i + 1) args F V) :
    wr.heap.size ≤ w1.heap.size ∧ Below wr.heap.size wr (w1.alloc (.cells cs 25)) ∧ Whole (w1.alloc (.cells cs 25)) w1.heap.size 25 cs ∧
    YieldAt Fence.wide (m - 1) Try.prog lp args (w1.alloc (.cells cs 25)) fun e B => ∃ G', Kept G (w1.alloc (.cells cs 25)) B ∧ (∀ j, G' j → j < B.heap.size ∧ ¬ (turnF bR bP j ∨ j = d ∨ j = w1.heap.size)) ∧ ((e = .returned (.bool true) ∧ J (i + 1) G' B) ∨ (e = .returned (.bool false) ∧ Jx (i + 1) G' B)) := by
  have hs := hb.size
  have hba : Below wr.heap.size wr (w1.alloc (.cells cs 25)) := hb.alloc hs _
  have hz : (w1.alloc (.cells cs 25)).heap.size = w1.heap.size + 1 := by simp
  refine ⟨hs, hba, Whole.new _ _ _, hY i G (fun j => turnF bR bP j ∨ j = d ∨ j = w1.heap.size) args _ hi (hJ i G wr _ hj (fun j h => (hG j h).1) (Kept.of_below hba _)) (fun j h => ?_) (fun j h => ?_) (hE _ _)⟩
  · have := hG j h
    refine ⟨by omega, ?_⟩
    rintro (e | e | e)
    · exact this.2 (.inl e)
    · exact this.2 (.inr e)
    · omega
  · rcases h with (rfl | rfl) | rfl | rfl
    · have := hw.rows.lt; omega
    · have := hw.plan.lt; omega
    · have := hw.box.lt; omega
    · omega

set_option maxRecDepth 100000 in
set_option maxHeartbeats 4000000 in
theorem turns_go (w0 : World) (m : Nat) (hm : 1 ≤ m) (bR bP : Nat) (S : Sl) (ss : List Sl) (L : List (List Int)) (x : Pl) (hs : Rws w0 S ss L) (hsh : Short ss 1000) (w : World) (hbR : Whole w bR 27 #[S.v]) (hbP : Whole w bP 23 x.cells) :
    ShareR (fun A => Below w0.heap.size w0 A) m Try.prog 32 #[.pointer (some ⟨bR, 0, none⟩), .pointer (some ⟨bP, 0, none⟩)] L.length (EncY x L) (turnF bR bP) w := fun lp J Jx W G0 hW hG0 hO hJ hY hJ0 => by
  have hl := hs.many
  have hmx := Nat.le_trans hs.src.cap hs.src.max
  have wbR := k_later hW hbR
  have wbP := k_later hW hbP
  have HS := Lib.hid hs
  have HSH := Lib.hid hsh
  have HL := Lib.hid hl
  have HO := Lib.hid hO
  have HJ := Lib.hid hJ
  have HY := Lib.hid hY
  have HC := Lib.hid x.cellsL
  have hb1 : Below W.heap.size W (W.alloc (.cells #[.int .i64 0, .int .i64 0, .int .i64 0, .bool false] 25)) := (Below.refl _ _).alloc (Nat.le_refl _) _
  have hd1 : Whole (W.alloc (.cells #[.int .i64 0, .int .i64 0, .int .i64 0, .bool false] 25)) W.heap.size 25 #[.int .i64 0, .int .i64 0, .int .i64 0, .bool false] := Whole.new _ _ _
  have h0 : TrnW J bR bP W.heap.size S x (runY x L 0).y 0 (W.alloc (.cells #[.int .i64 0, .int .i64 0, .int .i64 0, .bool false] 25)) := ⟨⟨G0, hJ 0 G0 W _ hJ0 (fun i hi => (hG0 i hi).1) (Kept.of_below hb1 _), fun i hi => ⟨by have := (hG0 i hi).1; have := hb1.size; omega, by
    rintro (h | h)
    · exact (hG0 i hi).2 h
    · have := (hG0 i hi).1; omega⟩⟩, k_later hb1 wbR, k_later hb1 wbP, hd1, by have := wbR.lt; omega, by have := wbP.lt; omega⟩
  have H0 := Lib.hid h0
  have c0 := (k_later hb1 wbR).cell 0
  simp only [List.getElem?_toArray, List.getElem?_cons_zero] at c0
  obtain ⟨A, n, c⟩ := S
  unfold Sl.v at *
  dsimp only at *
  clear hs hsh hW hG0 hO hJ hY hJ0 hbR hbP hl hb1 hd1 h0 wbR wbP
  refine callsIn_of_wp Try.func32 rfl trivial ?_ rfl
  simp only [Try.ntmps32, List.size_toArray, List.length_cons, List.length_nil, Nat.reduceAdd, Nat.reduceSub, Array.replicate_succ, Array.replicate_zero, List.push_toArray, List.append_toArray, List.nil_append, List.cons_append]
  gi_wp2
  clear c0
  gi_loopw [12] (fun iv wr => ∃ i : Nat, i ≤ n ∧ iv = .int .i64 (i : Int) ∧ TrnW J bR bP W.heap.size ⟨A, n, c⟩ x (runY x L i).y i wr) (fun iv _ => n - (intOf iv).toNat)
  case atStart => exact ⟨0, Nat.zero_le _, rfl, H0.out⟩
  case round =>
    obtain ⟨i, hi, rfl, hwr⟩ := hrel
    clear H0
    generalize W.heap.size = d at *
    have HW := Lib.hid hwr
    have e0 : (0 : Int) ≤ (i : Int) := by omega
    by_cases hin : i < n
    · have e1 : (i : Int) < (n : Int) := by omega
      obtain ⟨G, hJG, hGb⟩ := hwr.own
      have hold := HO.out i G wr hJG
      have hrws := HS.out.later hold
      have hiss : i < ss.length := by rw [hrws.src.len]; exact hin
      obtain ⟨g, o, hA0, hA2⟩ := hrws.src.get (i := i) hin
      dsimp only at hA0
      subst hA0
      have a0 := slC_cells hA2
      rw [Nat.mul_one] at a0
      have hrow := hrws.row i hiss
      have hshort := HSH.out i hiss
      obtain ⟨⟨B, k, q⟩, hsl⟩ : ∃ sl, sl = ss.getD i default := ⟨_, rfl⟩
      rw [← hsl] at a0 hrow hshort
      have ht := Turn_any x (runY x L i).y wr ⟨B, k, q⟩ (L.getD i []) hrow hshort
      have hstep : turnL x (runY x L i).y (L.getD i []) = runY x L (i + 1) := rfl
      rw [hstep] at ht
      obtain ⟨c1, c2, c3, c4, c5⟩ := y_four hwr.box
      have hp := hwr.plan
      have hE : ∀ F V, EncY x L (i + 1) #[(runY x L (i + 1)).y.v, .int .i64 (runY x L (i + 1)).e] F V := fun _ _ => rfl
      obtain ⟨⟨⟨r, s, t, b⟩, by_, e⟩, hnx⟩ : ∃ N, N = runY x L (i + 1) := ⟨_, rfl⟩
      rw [← hnx] at ht hE
      obtain ⟨⟨r0, s0, t0, b0⟩, hy0⟩ : ∃ y, y = (runY x L i).y := ⟨_, rfl⟩
      rw [← hy0] at ht c1 c2 c3 c4
      unfold Tn.v Sy.v Sl.v at *
      dsimp only at *
      have HT := Lib.hid ht
      have HP := Lib.hid hp
      have HE := Lib.hid hE
      have HNX := Lib.hid hnx
      have HG := Lib.hid (And.intro hJG hGb)
      clear hA2 hrow hshort hsl ht hstep hp hE hnx hy0 hJG hGb hold hrws hwr
      gi_wp2_with (first
        | (refine wpListIn_load_row rfl 23 (.tmp 2) rfl bP rfl 23 x.cells (0, 0) _ HP.out Try.underlying23 rfl HC.out.plan ?_)
        | (refine ⟨trivial, ?_⟩; gi_at_call 9; refine (callsIn_wide.2 HT.out).mono ?_; rintro e' w1 ⟨rfl, hb⟩; have hW2 := turn_yield HY.out HJ.out HW.out HG.out.1 HG.out.2 hb (by rw [HL.out]; exact hin) #[.int .i64 r, .int .i64 s, .int .i64 t, .bool b] HE.out; obtain ⟨hsz, hb2, hnw, hy⟩ := hW2; have HT1 := Lib.hid hsz; obtain ⟨fn, tmps, assign, body, hy1, hR⟩ := hy; have HR2 := Lib.hid hR; have HB := Lib.hid (And.intro hb2 hnw); clear hb hsz hb2 hnw hR c1 c2 c3 c4 c5))
      refine HR2.out.mono ?_
      rintro e' W4 ⟨G', hkept, hb, hc⟩
      have haf := HW.out.after HG.out.2 HB.out.1 hkept
      have hnw := HB.out.2.kept hkept (fun h => by have := (HG.out.2 _ h).1; have := HT1.out; omega)
      rcases hc with ⟨rfl, hJ4⟩ | ⟨rfl, hJx⟩
      · have HN := Lib.hid (TrnW.next (x := x) (S := ⟨some ⟨g, o, none⟩, n, c⟩) (y := (runY x L (i + 1)).y) HJ.out HW.out.apart haf.1 haf.2.1 haf.2.2 hJ4 (fun k hk => ⟨(hb k hk).1, fun h => (hb k hk).2 (by rcases h with h | h; exact .inl h; exact .inr (.inl h))⟩) r s t b (by rw [← HNX.out]))
        obtain ⟨a1, a2, a3, a4, a5⟩ := y_four hnw
        obtain ⟨b1, b2, b3, b4, b5⟩ := y_four haf.2.2
        clear hkept hb hJ4 hy1 HR2 haf hnw
        gi_wp2
        go_roundw
        case rel => exact ⟨i + 1, by omega, by go_num, HN.out⟩
        case measure => simp [intOf]; omega
      · have HEX := Lib.hid (And.intro hb hJx)
        clear hkept hb hJx hy1 HR2 haf hnw
        gi_wp2
        refine bodyPost_ret (results_none rfl _ _ _) rfl ?_
        exact ⟨⟨_, rfl⟩, G', fun j hj => (HEX.out.1 j hj).1, .inr ⟨i + 1, by omega, by rw [HL.out]; omega, HEX.out.2⟩⟩
    · obtain rfl : i = n := by omega
      obtain ⟨G, hJG, hGb⟩ := HW.out.own
      rw [← HL.out] at hJG
      have HEX := Lib.hid (And.intro hJG hGb)
      clear hJG hGb hwr
      gi_wp2
      go_end0
      exact ⟨⟨_, rfl⟩, G, fun j hj => (HEX.out.2 j hj).1, .inl HEX.out.1⟩
end Go.Proofs.Yteljalgfkmnamaa
