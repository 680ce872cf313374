/- Fold, by its contract. No condition. -/
import Derived.Test.YteljalgfkmnamaaYIter
namespace Go.Proofs.Yteljalgfkmnamaa
open Go.RowKit Go.Shelf
attribute [local go_sem] Oper.semAt_some

def Sy.cells (y : Sy) : Array Value := #[.int .i64 y.r, .int .i64 y.s, .int .i64 y.t, .bool y.b]
/-- Between two rounds, or behind them: what was done, and the error. -/
structure FoldC (w : World) (y : Sy) (e : Int) (G : Nat → Prop) (A : World) : Prop where
  done : Whole A (w.heap.size + 2) 25 y.cells
  err : Whole A (w.heap.size + 3) 28 #[.int .i64 e]
  res : Whole A (w.heap.size + 1) 25 #[.int .i64 0, .int .i64 0, .int .i64 0, .bool false]
  all : ∀ i, i < w.heap.size + 4 → G i
  below : Below w.heap.size w A
theorem FoldC.kept {w A B : World} {y : Sy} {e : Int} {G : Nat → Prop} (h : FoldC w y e G A) (hk : Kept (fun i => ¬ G i) A B) : FoldC w y e G B :=
  ⟨h.done.kept hk (fun n => n (h.all _ (by omega))), h.err.kept hk (fun n => n (h.all _ (by omega))), h.res.kept hk (fun n => n (h.all _ (by omega))), h.all,
    below_on h.below hk (fun i hi => Nat.le_of_not_lt (fun hlt => hi (h.all i (by omega)))) h.below.size⟩

/-- What a round lays down. -/
theorem FoldC.put {w V : World} {y : Sy} {e0 : Int} {G : Nat → Prop} (h : FoldC w y e0 G V) (r s t : Int) (b : Bool) (e : Int) :
    Kept G V (((((V.setCell ⟨w.heap.size + 1 + 1, 0, none⟩ (.int .i64 r)).setCell ⟨w.heap.size + 1 + 1, 1, none⟩ (.int .i64 s)).setCell ⟨w.heap.size + 1 + 1, 2, none⟩ (.int .i64 t)).setCell ⟨w.heap.size + 1 + 1, 3, none⟩ (.bool b)).setCell ⟨w.heap.size + 1 + 1 + 1, 0, none⟩ (.int .i64 e)) ∧
    FoldC w ⟨r, s, t, b⟩ e G (((((V.setCell ⟨w.heap.size + 1 + 1, 0, none⟩ (.int .i64 r)).setCell ⟨w.heap.size + 1 + 1, 1, none⟩ (.int .i64 s)).setCell ⟨w.heap.size + 1 + 1, 2, none⟩ (.int .i64 t)).setCell ⟨w.heap.size + 1 + 1, 3, none⟩ (.bool b)).setCell ⟨w.heap.size + 1 + 1 + 1, 0, none⟩ (.int .i64 e)) ∧
    (((((V.setCell ⟨w.heap.size + 1 + 1, 0, none⟩ (.int .i64 r)).setCell ⟨w.heap.size + 1 + 1, 1, none⟩ (.int .i64 s)).setCell ⟨w.heap.size + 1 + 1, 2, none⟩ (.int .i64 t)).setCell ⟨w.heap.size + 1 + 1, 3, none⟩ (.bool b)).setCell ⟨w.heap.size + 1 + 1 + 1, 0, none⟩ (.int .i64 e)).heap.size = V.heap.size := by
  have g2 := h.all (w.heap.size + 1 + 1) (by omega)
  have g3 := h.all (w.heap.size + 1 + 1 + 1) (by omega)
  have h2 : Whole V (w.heap.size + 1 + 1) 25 #[.int .i64 y.r, .int .i64 y.s, .int .i64 y.t, .bool y.b] := h.done
  have h3 : Whole V (w.heap.size + 1 + 1 + 1) 28 #[.int .i64 e0] := h.err
  have n1 : w.heap.size + 1 ≠ w.heap.size + 1 + 1 := by omega
  have n2 : w.heap.size + 1 ≠ w.heap.size + 1 + 1 + 1 := by omega
  have n3 : w.heap.size + 1 + 1 ≠ w.heap.size + 1 + 1 + 1 := by omega
  refine ⟨(((((Kept.refl G V).setCell (p := ⟨_, 0, none⟩) (.inl g2) _).setCell (p := ⟨_, 1, none⟩) (.inl g2) _).setCell (p := ⟨_, 2, none⟩) (.inl g2) _).setCell (p := ⟨_, 3, none⟩) (.inl g2) _).setCell (p := ⟨_, 0, none⟩) (.inl g3) _, ⟨(y_store h2 _ _ _ _).far (p := ⟨_, 0, none⟩) n3 _, ?_, ?_, h.all, (y_below h.below (by omega) _ _ _ _).setCell (by simp; omega) _⟩, by simp [World.setCell]⟩
  · exact ((((h3.far (p := ⟨_, 0, none⟩) n3.symm _).far (p := ⟨_, 1, none⟩) n3.symm _).far (p := ⟨_, 2, none⟩) n3.symm _).far (p := ⟨_, 3, none⟩) n3.symm _).set 0 _
  · exact ((((h.res.far (p := ⟨_, 0, none⟩) n1 _).far (p := ⟨_, 1, none⟩) n1 _).far (p := ⟨_, 2, none⟩) n1 _).far (p := ⟨_, 3, none⟩) n1 _).far (p := ⟨_, 0, none⟩) n2 _

theorem results_sy2 {P : Program} {fn : Func} {p q : Tmp} {ty : TypeId} (h : fn.results = #[.cell p ty, .tmp q]) (tmps : Array Value) (w : World) (g : Nat) (t : TypeId) (cs : Array Value) (fr : Nat × Nat) (d : TypeDesc)
    (hp : tmps.getD p undef = .pointer (some ⟨g, 0, none⟩)) {v : Value} (hv : tmps.getD q undef = v) (hg : w.heap[g]? = some (.cells cs t fr))
    (hu : P.underlying ty = some d) (hd : (match d with | .struct _ | .array _ _ => true | _ => false) = true) (hi : (P.info? ty).map (·.size) = some cs.size) :
    (results fn tmps).run P w = .ok (.tuple #[.agg cs, v]) w := by
  subst hv
  have hp' : tmps[p]?.getD undef = .pointer (some ⟨g, 0, none⟩) := by simpa using hp
  simp [results, h, hp', asAddr, run_loadVar_row w g t ty cs fr d hg hu hd hi]
/-- The end. -/
theorem FoldC.fin {w V : World} {y : Sy} {e : Int} {G : Nat → Prop} (h : FoldC w y e G V) {D : Nat} (hD : w.heap.size + 4 ≤ D) (hDD : V.heap[D]? = some (.deferred (some []))) (v0 v1 v2 v3 : Value) :
    (((((V.setCell ⟨w.heap.size + 1, 0, none⟩ v0).setCell ⟨w.heap.size + 1, 1, none⟩ v1).setCell ⟨w.heap.size + 1, 2, none⟩ v2).setCell ⟨w.heap.size + 1, 3, none⟩ v3).drew).heap[D]? = some (.deferred (some [])) ∧
    Whole ((((((V.setCell ⟨w.heap.size + 1, 0, none⟩ v0).setCell ⟨w.heap.size + 1, 1, none⟩ v1).setCell ⟨w.heap.size + 1, 2, none⟩ v2).setCell ⟨w.heap.size + 1, 3, none⟩ v3).drew).putObj D (.deferred none)) (w.heap.size + 1) 25 #[v0, v1, v2, v3] ∧
    Below w.heap.size w ((((((V.setCell ⟨w.heap.size + 1, 0, none⟩ v0).setCell ⟨w.heap.size + 1, 1, none⟩ v1).setCell ⟨w.heap.size + 1, 2, none⟩ v2).setCell ⟨w.heap.size + 1, 3, none⟩ v3).drew).putObj D (.deferred none)) := by
  have n1 : D ≠ w.heap.size + 1 := by omega
  have hb : Below w.heap.size w ((((V.setCell ⟨w.heap.size + 1, 0, none⟩ v0).setCell ⟨w.heap.size + 1, 1, none⟩ v1).setCell ⟨w.heap.size + 1, 2, none⟩ v2).setCell ⟨w.heap.size + 1, 3, none⟩ v3).drew := (y_below h.below (by omega) _ _ _ _).drew
  refine ⟨?_, (World.putObj_heap_other n1.symm).trans (y_store h.res v0 v1 v2 v3), below_on hb (kept_putObj (T := fun i => i = D) rfl (.deferred none)) (fun i e => by have e : i = D := e; omega) hb.size⟩
  have k : ∀ (A : World) (i : Nat) (v : Value), (A.setCell ⟨w.heap.size + 1, i, none⟩ v).heap[D]? = A.heap[D]? := fun A i v => Below.heap_setCell A ⟨w.heap.size + 1, i, none⟩ v D n1
  exact (k _ 3 v3).trans ((k _ 2 v2).trans ((k _ 1 v1).trans ((k _ 0 v0).trans hDD)))

set_option maxRecDepth 100000 in
set_option maxHeartbeats 4000000 in
theorem Fold_any (x : Pl) (w : World) (S : Sl) (ss : List Sl) (L : List (List Int)) (hs : Rws w S ss L) (hsh : Short ss 1000) :
    Calls Try.prog 11 #[.agg x.cells, S.v] w fun e w' => e = .returned (.tuple #[(foldY x L L.length).1.v, .int .i64 (foldY x L L.length).2]) ∧ Below w.heap.size w w' := by
  have hmx := Nat.le_trans hs.src.cap hs.src.max
  obtain ⟨w1, hw1⟩ : ∃ w1, w1 = (((w.alloc (.cells x.cells 23)).alloc (.cells #[.int .i64 0, .int .i64 0, .int .i64 0, .bool false] 25)).alloc (.cells #[.int .i64 0, .int .i64 0, .int .i64 0, .bool false] 25)).alloc (.cells #[.int .i64 0] 28) := ⟨_, rfl⟩
  have hb1 : Below w.heap.size w w1 := by rw [hw1]; exact ((((Below.refl _ _).alloc (Nat.le_refl _) _).alloc (by simp) _).alloc (by simp; omega) _).alloc (by simp; omega) _
  have hW0 : Whole w1 w.heap.size 23 x.cells := by rw [hw1]; exact (((Whole.new w _ _).alloc _).alloc _).alloc _
  have hW1 : Whole w1 (w.heap.size + 1) 25 #[.int .i64 0, .int .i64 0, .int .i64 0, .bool false] := by
    have h := Whole.new (w.alloc (.cells x.cells 23)) 25 #[.int .i64 0, .int .i64 0, .int .i64 0, .bool false]
    simp only [World.size_alloc] at h
    rw [hw1]; exact (h.alloc _).alloc _
  have hW2 : Whole w1 (w.heap.size + 2) 25 #[.int .i64 0, .int .i64 0, .int .i64 0, .bool false] := by
    have h := Whole.new ((w.alloc (.cells x.cells 23)).alloc (.cells #[.int .i64 0, .int .i64 0, .int .i64 0, .bool false] 25)) 25 #[.int .i64 0, .int .i64 0, .int .i64 0, .bool false]
    simp only [World.size_alloc] at h
    rw [hw1]; exact h.alloc _
  have hW3 : Whole w1 (w.heap.size + 3) 28 #[.int .i64 0] := by
    have h := Whole.new (((w.alloc (.cells x.cells 23)).alloc (.cells #[.int .i64 0, .int .i64 0, .int .i64 0, .bool false] 25)).alloc (.cells #[.int .i64 0, .int .i64 0, .int .i64 0, .bool false] 25)) 28 #[.int .i64 0]
    simp only [World.size_alloc] at h
    rw [hw1]; exact h
  have hz1 : w1.heap.size = w.heap.size + 4 := by rw [hw1]; simp
  obtain ⟨w2, hw2⟩ : ∃ w2, w2 = w1.alloc (.cells x.cells 23) := ⟨_, rfl⟩
  have hb2 : Below w1.heap.size w1 w2 := by rw [hw2]; exact (Below.refl _ _).alloc (Nat.le_refl _) _
  have hP2 : Whole w2 w1.heap.size 23 x.cells := by rw [hw2]; exact Whole.new _ _ _
  have hz2 : w2.heap.size = w1.heap.size + 1 := by rw [hw2]; simp
  obtain ⟨w3, hw3⟩ : ∃ w3, w3 = w2.alloc (.cells #[S.v] 27) := ⟨_, rfl⟩
  have hb3 : Below w2.heap.size w2 w3 := by rw [hw3]; exact (Below.refl _ _).alloc (Nat.le_refl _) _
  have hR3 : Whole w3 w2.heap.size 27 #[S.v] := by rw [hw3]; exact Whole.new _ _ _
  have hz3 : w3.heap.size = w2.heap.size + 1 := by rw [hw3]; simp
  have hb13 : Below w1.heap.size w1 w3 := k_then hb3 hb2
  have hb03 : Below w.heap.size w w3 := k_then hb13 hb1
  have ht := turns_go w 4 (by omega) (w.heap.size + 5) (w.heap.size + 4) S ss L x hs hsh w3 (by rw [show w.heap.size + 5 = w2.heap.size by omega]; exact hR3) (by rw [show w.heap.size + 4 = w1.heap.size by omega]; exact k_later hb3 hP2)
  have h0 : FoldC w (foldY x L 0).1 (foldY x L 0).2 (fun i => i < w.heap.size + 4) w3 := ⟨k_later hb13 hW2, k_later hb13 hW3, k_later hb13 hW1, fun _ h => h, hb03⟩
  have HT := Lib.hid ht
  have H0 := Lib.hid h0
  have HS := Lib.hid x.cellsL
  have HW1 := Lib.hid hw1
  have HW2 := Lib.hid hw2
  have HW3 := Lib.hid hw3
  have HP := Lib.hid hW0
  have HZ := Lib.hid (And.intro hz1 (And.intro hz2 hz3))
  have hz : w3.heap.size = w.heap.size + 6 := by omega
  obtain ⟨A, n, c⟩ := S
  unfold Sl.v at *
  dsimp only at *
  clear hs hsh hw1 hb1 hW0 hW1 hW2 hW3 hz1 hw2 hb2 hP2 hz2 hw3 hb3 hR3 hz3 hb13 hb03 ht h0
  refine (callsIn_wide (n := 5)).1 ?_
  refine callsIn_of_wp_marks Try.func11 rfl trivial ?_ rfl
  simp only [Try.ntmps11, List.size_toArray, List.length_cons, List.length_nil, Nat.reduceAdd, Nat.reduceSub, Array.replicate_succ, Array.replicate_zero, List.push_toArray, List.append_toArray, List.nil_append, List.cons_append]
  have HTI := Lib.hid (fun W => turns_in (x := x) 4 ⟨A, n, c⟩ W)
  gi_wp2
  refine wpIn_scope_y ?_
  gi_wp2
  refine wpIn_label ?_
  gi_wp2_with (first
    | (refine wpListIn_load_row rfl 23 (.tmp 2) rfl w.heap.size rfl 23 x.cells (0, 0) _ (HW1.out ▸ HP.out) Try.underlying23 rfl HS.out.plan ?_)
    | (refine ⟨trivial, ?_⟩; gi_at_call 25; refine (HTI.out _).mono ?_; rintro e w' ⟨rfl, hw'⟩; unfold Sl.v at hw'; rw [← HW1.out, ← HW2.out, ← HW3.out] at hw'; have HW4 := Lib.hid hw'; clear hw'))
  rw [HW4.out]
  refine wpIn_shareR (O := fun A => Below w.heap.size w A) (F0 := turnF (w.heap.size + 5) (w.heap.size + 4)) (G0 := fun i => i < w.heap.size + 4) (by rintro i (e | e) <;> omega) (by
    intro i hi
    refine ⟨by omega, ?_⟩
    rintro (e | e) <;> omega) (by omega) (gf := 32) (lb := #[.pointer (some ⟨w.heap.size + 5, 0, none⟩), .pointer (some ⟨w.heap.size + 4, 0, none⟩)]) rfl
    (enters_of Try.func32 (by kernel_rfl) rfl) (Enc := EncY x L) (M := L.length) (fun k args F A h => by unfold EncY at h; subst h; rfl) HT.out
    (fun k G A => FoldC w (foldY x L k).1 (foldY x L k).2 G A ∧ (foldY x L k).2 = 0) (fun c k G A => c = .exit 0 ∧ FoldC w (foldY x L k).1 (foldY x L k).2 G A ∧ (foldY x L k).2 ≠ 0)
    (fun j F a2 V => ∃ g, w3.heap.size + 2 ≤ g ∧ Whole V g 25 (runY x L j).y.cells ∧ a2 = { tmps := #[.agg x.cells, .slice A n c, .pointer (some ⟨w.heap.size, 0, none⟩), undef, .pointer (some ⟨w.heap.size + 1, 0, none⟩), .int .i64 0, .pointer (some ⟨w.heap.size + 1 + 1, 0, none⟩), .pointer (some ⟨w.heap.size + 1 + 1 + 1, 0, none⟩), .pointer (some ⟨g, 0, none⟩), .int .i64 (runY x L j).e, .agg x.cells, .slice A n c, .func (.func 32) #[] #[.pointer (some ⟨w.heap.size + 1 + 1 + 1 + 1 + 1, 0, none⟩), .pointer (some ⟨w.heap.size + 1 + 1 + 1 + 1, 0, none⟩)], (runY x L j).y.v, .int .i64 (runY x L j).e, undef, undef, undef, undef, undef, undef, undef, undef], defers := [] })
    ?hO ?hI ?hX ?hAx ?h0 ?assign ?body ?done ?stop
  case hO => exact fun k G A h => h.1.below
  case hI => exact fun j G A B h _ hk => ⟨h.1.kept hk, h.2⟩
  case hX => exact fun c j G A B h _ hk => ⟨h.1, h.2.1.kept hk, h.2.2⟩
  case hAx =>
    rintro j F a2 A B hk ⟨g, h1, h2, h3⟩
    exact ⟨g, h1, h2.kept hk (fun h => by have h : g = w3.heap.size + 1 := h; omega), h3⟩
  case h0 => exact ⟨H0.out, rfl⟩
  case assign =>
    intro lp j args F V K hVz henc _ _ _ hK
    unfold EncY at henc
    subst henc
    have HK := Lib.hid hK
    have HV := Lib.hid hVz
    clear hK hVz
    obtain ⟨⟨⟨r, s, t, b⟩, by_, e⟩, hnx⟩ : ∃ N, N = runY x L j := ⟨_, rfl⟩
    rw [← hnx] at HK ⊢
    clear hnx
    unfold Sy.v Sy.cells at *
    dsimp only at *
    gi_wp2
    exact HK.out _ _ ((Below.refl _ V).alloc (Nat.le_refl _) _) ⟨V.heap.size, HV.out, Whole.new _ _ _, rfl⟩
  case body =>
    rintro lp j F G V a2 hj hVz ⟨hC, hz0⟩ hG hF hnc ⟨g, hg, hW, rfl⟩
    have hst := fold_step hz0
    have hte : (runY x L (j + 1)).e = 0 ∨ (runY x L (j + 1)).e = 150 ∨ (runY x L (j + 1)).e = 151 := turn_e x (runY x L j).y (L.getD j [])
    obtain ⟨⟨⟨r, s, t, b⟩, by_, e⟩, hnx⟩ : ∃ N, N = runY x L (j + 1) := ⟨_, rfl⟩
    rw [← hnx] at hst hte hW ⊢
    obtain ⟨⟨⟨r0, s0, t0, b0⟩, e0⟩, hn0⟩ : ∃ N, N = foldY x L j := ⟨_, rfl⟩
    rw [← hn0] at hC
    have h2 : Whole V (w.heap.size + 1 + 1) 25 _ := hC.done
    have h3 : Whole V (w.heap.size + 1 + 1 + 1) 28 _ := hC.err
    unfold Sy.v Sy.cells at *
    dsimp only at *
    obtain ⟨a0, a1, a2, a3, -⟩ := y_four hW
    obtain ⟨b0, b1, b2, b3, b4⟩ := y_four h2
    have c0 := h3.cell 0
    have c1 := h3.frozen
    simp only [List.getElem?_toArray, List.getElem?_cons_zero] at c0
    have HC := Lib.hid (And.intro hC (And.intro hst (And.intro h2 (And.intro h3 hG))))
    clear hC hst h2 h3 hG hnx hn0 hW hF hnc hz0 HT H0
    rcases hte with rfl | rfl | rfl
    · gi_wp2
      obtain ⟨k1, k2, k3⟩ := HC.out.1.put r s t b 0
      refine ⟨G, k1, fun i hi => ⟨by rw [k3]; exact (HC.out.2.2.2.2 i hi).1, (HC.out.2.2.2.2 i hi).2⟩, ?_⟩
      rw [HC.out.2.1]
      exact ⟨k2, rfl⟩
    · gi_wp2
      obtain ⟨k1, k2, k3⟩ := HC.out.1.put r s t b 150
      refine ⟨G, k1, fun i hi => ⟨by rw [k3]; exact (HC.out.2.2.2.2 i hi).1, (HC.out.2.2.2.2 i hi).2⟩, ?_⟩
      rw [HC.out.2.1]
      exact ⟨rfl, k2, by show (_ : Int) ≠ 0; dsimp only; omega⟩
    · gi_wp2
      obtain ⟨k1, k2, k3⟩ := HC.out.1.put r s t b 151
      refine ⟨G, k1, fun i hi => ⟨by rw [k3]; exact (HC.out.2.2.2.2 i hi).1, (HC.out.2.2.2.2 i hi).2⟩, ?_⟩
      rw [HC.out.2.1]
      exact ⟨rfl, k2, by show (_ : Int) ≠ 0; dsimp only; omega⟩
  case done =>
    rintro D V G hD ⟨hC, hz0⟩ hG hDD
    have HC := Lib.hid hC
    obtain ⟨⟨⟨r, s, t, b⟩, e⟩, hn0⟩ : ∃ N, N = foldY x L L.length := ⟨_, rfl⟩
    rw [← hn0] at hC
    have hf := hC.fin (by omega) hDD (.int .i64 r) (.int .i64 s) (.int .i64 t) (.bool b)
    have HF := Lib.hid hf
    have HN0 := Lib.hid hn0
    have h1 : Whole V (w.heap.size + 1) 25 _ := hC.res
    have h2 : Whole V (w.heap.size + 1 + 1) 25 _ := hC.done
    have h3 : Whole V (w.heap.size + 1 + 1 + 1) 28 _ := hC.err
    unfold Sy.cells at *
    dsimp only at *
    obtain ⟨a0, a1, a2, a3, a4⟩ := y_four h1
    obtain ⟨b0, b1, b2, b3, b4⟩ := y_four h2
    have c0 := h3.cell 0
    simp only [List.getElem?_toArray, List.getElem?_cons_zero] at c0
    clear h1 h2 h3 hf hC hn0 HT H0 hG hDD
    gi_wp2
    gi_region
    gi_wp2
    refine ⟨by simp, .inl ⟨_, _, rfl, run_takeDeferred HF.out.1, ?_⟩⟩
    refine ⟨_, results_sy2 rfl _ _ _ 25 _ (0, 0) _ rfl rfl HF.out.2.1 Try.underlying25 rfl sy_info, ?_, HF.out.2.2⟩
    rw [← HN0.out]
    rfl
  case stop =>
    rintro D cc k V G hD hk1 hk2 ⟨rfl, hC, hz0⟩ hG hDD
    have hstop := fold_stop hz0 L.length hk2
    have HC := Lib.hid hC
    obtain ⟨⟨⟨r, s, t, b⟩, e⟩, hn0⟩ : ∃ N, N = foldY x L k := ⟨_, rfl⟩
    rw [← hn0] at hC
    have hf := hC.fin (by omega) hDD (.int .i64 r) (.int .i64 s) (.int .i64 t) (.bool b)
    have HF := Lib.hid hf
    have HN0 := Lib.hid hn0
    have h1 : Whole V (w.heap.size + 1) 25 _ := hC.res
    have h2 : Whole V (w.heap.size + 1 + 1) 25 _ := hC.done
    have h3 : Whole V (w.heap.size + 1 + 1 + 1) 28 _ := hC.err
    unfold Sy.cells at *
    dsimp only at *
    obtain ⟨a0, a1, a2, a3, a4⟩ := y_four h1
    obtain ⟨b0, b1, b2, b3, b4⟩ := y_four h2
    have c0 := h3.cell 0
    simp only [List.getElem?_toArray, List.getElem?_cons_zero] at c0
    clear h1 h2 h3 hf hC hn0 HT H0 hG hDD
    gi_wp2
    gi_region
    gi_wp2
    refine ⟨by simp, .inl ⟨_, _, rfl, run_takeDeferred HF.out.1, ?_⟩⟩
    refine ⟨_, results_sy2 rfl _ _ _ 25 _ (0, 0) _ rfl rfl HF.out.2.1 Try.underlying25 rfl sy_info, ?_, HF.out.2.2⟩
    rw [hstop, ← HN0.out]
    rfl
end Go.Proofs.Yteljalgfkmnamaa
