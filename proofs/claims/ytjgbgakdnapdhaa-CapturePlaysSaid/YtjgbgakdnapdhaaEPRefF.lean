/- The document's Forget, Clear and Copy, by contracts. No condition. -/
import Derived.Test.YtjgbgakdnapdhaaEPRefN
namespace Go.Proofs.Ytjgbgakdnapdhaa
open Go.RowKit Go.Shelf

theorem dropD_snoc (D : List Oe) (o : Oe) (n : Int) : dropD (D ++ [o]) n = if o.n = n then dropD D n else dropD D n ++ [o] := by
  unfold dropD
  rw [List.filter_append]
  by_cases h : o.n = n
  · rw [if_pos h]
    simp [h]
  · rw [if_neg h]
    simp [h]

set_option maxRecDepth 100000 in
set_option maxHeartbeats 4000000 in
theorem refForget_any {b : Nat} {w : World} {rr : Nat} {v : Value} {D : List Oe} (h : RefE b w rr v D) (hg : GoodD D) (hl : D.length ≤ 1000) (hb : b ≤ w.heap.size) (n : Int) : Calls Try.prog 25 #[.pointer (some ⟨rr, 0, none⟩), .int .i64 n] w fun e w' => e = .returned (.bool (ofC (look D) n).isSome) ∧ RefTo b w rr v (dropD D n) w' := by
  have HO := Lib.hid (refOf_any h hg hl n)
  unfold ofV at HO
  generalize (ofC (look D) n).isSome = di at *
  generalize (ofC (look D) n).getD 0 = dv at *
  obtain ⟨A, cp, hv, hs⟩ := h.slice
  have hrow := h.row
  have hfin := fun w1 v1 D1 hw hr => ref_new (w1 := w1) (v1 := v1) (D1 := D1) h hb hw hr
  have hbx := h.box
  rw [hv] at hbx hfin
  rw [hv]
  obtain ⟨M, hM⟩ : ∃ M, M = D.length := ⟨_, rfl⟩
  rw [← hM] at hbx hl hfin
  rw [← hM]
  have HM := Lib.hid hM
  have HS := Lib.hid hs
  have HBX := Lib.hid hbx
  have HFIN := Lib.hid hfin
  obtain ⟨i1, ji, jz0, jz1, jz2⟩ := info_parts i_on
  clear h hg hv hs hrow hfin hbx hM
  go_enter Try.func25, Try.ntmps25
  go_upto_region 4 with (go_at_call 11; refine HO.out.mono ?_; rintro e w5 ⟨rfl, hw5⟩; obtain rfl := hw5.symm)
  go_loopw [7, 8] (fun rv iv wr => ∃ (k : Nat), k ≤ M ∧ iv = .int .i64 (k : Int) ∧ Below w.heap.size w wr ∧ wr.ownsRow w.heap.size 65 3 rv (dropD (D.take k) n).length ((dropD (D.take k) n).flatMap onC)) (fun _ iv _ => M - (intOf iv).toNat)
  case atStart => exact ⟨0, Nat.zero_le _, rfl, Below.refl _ _, ⟨rfl, .inl ⟨rfl, rfl⟩⟩⟩
  case round =>
    obtain ⟨k, hk, rfl, hbw, hrow⟩ := hrel
    have HB := Lib.hid (And.intro hbw hrow)
    have hbx2 := k_later hbw HBX.out
    have c0 := hbx2.cell 0
    simp at c0
    by_cases hlt : k < M
    · obtain ⟨g, o, hA0, hA2⟩ := (HS.out.later hbw).get (i := k) (by show k < D.length; have := HM.out; omega)
      dsimp only at hA0
      subst hA0
      have htk := take_more (D := D) (k := k) (by have := HM.out; omega)
      obtain ⟨⟨ok, on, oc, ov⟩, hx⟩ : ∃ o, o = D.getD k default := ⟨_, rfl⟩
      rw [← hx] at hA2 htk
      have hds := dropD_snoc (D.take k) ⟨ok, on, oc, ov⟩ n
      rw [← htk] at hds
      have hlen := dropD_len (D.take k) n
      rw [List.length_take] at hlen
      obtain ⟨q0, q1, q2⟩ := onC_cells hA2
      dsimp only at q0 q1 q2 hds
      have e1 : (0 : Int) ≤ (k : Int) := by omega
      have e2 : (k : Int) < (M : Int) := by omega
      clear hx hA2 htk hrow hbx2
      have HBW := Lib.hid hbw
      clear hbw
      by_cases hon : on = n
      · rw [if_pos hon] at hds
        have h1 : (on == n) = true := beq_iff_eq.2 hon
        have h2 : (on != n) = false := by simp [bne, h1]
        have HDS := Lib.hid hds
        clear hon hds
        go_wp2
        go_roundw
        case rel => exact ⟨k + 1, by omega, by go_num, HB.out.1, by rw [HDS.out]; exact HB.out.2⟩
        case measure => simp [intOf]; omega
      · rw [if_neg hon] at hds
        have h1 : (on == n) = false := beq_eq_false_iff_ne.2 hon
        have h2 : (on != n) = true := by simp [bne, h1]
        have HDS := Lib.hid hds
        clear hon hds
        generalize dropD (D.take k) n = L at *
        go_wp2_with (at_builtin; refine wpList_append_own_at _ rfl (.tmp 34) (.tmp 42) 33 rfl w.heap.size 65 i1 (.agg #[.int .i64 0, .int .i64 0, .int .i64 0]) 3 24 Try.underlying33 ji jz0 jz1 jz2 rfl (by decide) u7 L.length (L.flatMap onC) rfl (HB.out.2.alloc _) ⟨wr.heap.size, 0, none⟩ 1 1 (onC ⟨ok, on, oc, ov⟩) rfl rfl (fun j u hu => World.news_of_block (Whole.new wr _ _) j u hu) (fun u hu => onC_one ⟨ok, on, oc, ov⟩ u hu) (by simp only [maxLen]; omega) (by omega) (by have := HB.out.1.size; simp; omega) ?_; intro v8 w8 y1 y2 y3 y4; have H8 := Lib.hid (app_row HB.out.1 HB.out.2 y1 y2); clear y1 y2 y3 y4)
        go_roundw
        case rel => exact ⟨k + 1, by omega, by go_num, H8.out.1, by rw [HDS.out]; exact H8.out.2⟩
        case measure => simp [intOf]; omega
    · have htk : D.take k = D := List.take_of_length_le (by have := HM.out; omega)
      rw [htk] at hrow
      obtain ⟨⟨A7, n7, d7⟩, rfl, _, _⟩ := rsrc_of_own (cells := onC) (k := 3) (fun _ => rfl) rfl hrow
      have HF := Lib.hid (HFIN.out wr _ (dropD D n) hbw hrow)
      unfold Sl.v at *
      have hf0 := hbx2.frozen 0
      clear hrow hbw hbx2 htk
      go_wp2
      go_ret
      exact ⟨rfl, HF.out⟩

set_option maxRecDepth 100000 in
set_option maxHeartbeats 4000000 in
theorem refClear_any {b : Nat} {w : World} {rr : Nat} {v : Value} {D : List Oe} (h : RefE b w rr v D) (hg : GoodD D) (hl : D.length ≤ 1000) (hb : b ≤ w.heap.size) : Calls Try.prog 26 #[.pointer (some ⟨rr, 0, none⟩)] w fun e w' => e = .returned (.int .i64 ((listC (look D)).length : Int)) ∧ RefTo b w rr v [] w' := by
  have HL := Lib.hid ((refList_any h hg hl).mono fun _ _ k => newrow_src (cells := deC) (k := 2) (fun _ => rfl) k)
  have HBX := Lib.hid h.box
  have HFIN := Lib.hid (fun w1 hw => ref_new (w1 := w1) (v1 := .slice none 0 0) (D1 := []) h hb hw ⟨rfl, .inl ⟨rfl, rfl⟩⟩)
  generalize (listC (look D)) = L at *
  clear h hg
  go_enter Try.func26, Try.ntmps26
  go_wp2_with (go_at_call 15; refine HL.out.mono ?_; rintro e w5 ⟨A, c, rfl, _, _, hb5⟩; have HF := Lib.hid (HFIN.out w5 hb5); have hbx := k_later hb5 HBX.out; have c0 := hbx.cell 0; have f0 := hbx.frozen 0; simp at c0; clear hb5 hbx)
  go_ret
  exact ⟨rfl, HF.out⟩

theorem run_append_on {P : Program} (w : World) (base b2 : Nat) (t ty e : TypeId) (i : TypeInfo) (z : Value) (ht : P.underlying t = some (.slice e)) (hi : P.info? e = some i) (hz : i.zero = some z) (hsize : i.size = 3) (hby : i.bytes = 24) (hzs : z.cells.size = 3)
    (v : Value) (n : Nat) (xs : List Value) (hown : w.ownsRow base e 3 v n xs) (vs : Value) (m : Nat) (ys : List Value) (hsrc : w.ownsRow b2 e 3 vs m ys) (hone : ∀ u ∈ ys, u.oneCell' = true) (hlen : n + m ≤ 1000000) (hbase : base ≤ w.heap.size) :
    ∃ v' w', (Builtin.append_ #[t, t] ty #[v, vs]).run P w = .ok v' w' ∧ w'.ownsRow base e 3 v' (n + m) (xs ++ ys) ∧ w.grownBy w' v.ownBlock ∧ (v'.ownBlock = v.ownBlock ∨ v'.ownBlock = some w.heap.size) := by
  rcases hsrc.2 with ⟨rfl, h0⟩ | ⟨g, cap, cur, rfl, _, _, hmc, _⟩
  · subst h0
    have hys : ys = [] := List.eq_nil_of_length_eq_zero (by have := hsrc.1; omega)
    subst hys
    refine ⟨v, w, ?_, by simpa using hown, World.grownBy.refl w _, .inl rfl⟩
    rcases hown.2 with ⟨rfl, rfl⟩ | ⟨g, cap, cur, rfl, _, _, hnc, _⟩
    · simp [Builtin.append_, run_underlying ht, sizeOf, typeInfo, hi, Builtin.lenOf, Builtin.firstCells]
    · simp [Builtin.append_, run_underlying ht, sizeOf, typeInfo, hi, Builtin.lenOf, Builtin.firstCells, hnc, storeCells]
  · obtain ⟨v', w', hrun, h3, h4, _, h6⟩ := run_append_own_at (P := P) w base t ty e i z 3 24 ht hi hz hsize hby hzs (by decide) v n xs hown ⟨g, 0, none⟩ m cap ys (by have := hsrc.1; omega) (fun j u hu => hsrc.cells (g := g) rfl j u hu) hone (by simp only [maxLen]; omega) (by omega) hbase
    exact ⟨v', w', hrun, h3, h4, h6⟩
theorem step_append_on {P : Program} {ops : Array Oper} {o : Oper} {a : Act} {w : World} {K : Act → World → Prop} {Q : Exit → Act → World → Prop} {E : Prop} (hgd : o.guard = none) (s x : Operand) (t : TypeId)
    (ho : o.op = .call { callee := .builtin .append, args := #[s, x], argTypes := #[t, t] })
    (base b2 : Nat) (e : TypeId) (i : TypeInfo) (z : Value) (ht : P.underlying t = some (.slice e)) (hi : P.info? e = some i) (hz : i.zero = some z) (hsize : i.size = 3) (hby : i.bytes = 24) (hzs : z.cells.size = 3)
    (v : Value) (n : Nat) (xs : List Value) (hs : a.eval s = v) (hown : w.ownsRow base e 3 v n xs) (vs : Value) (m : Nat) (ys : List Value) (hx : a.eval x = vs) (hsrc : w.ownsRow b2 e 3 vs m ys) (hone : ∀ u ∈ ys, u.oneCell' = true) (hlen : n + m ≤ 1000000) (hbase : base ≤ w.heap.size)
    (h : ∀ v' w', w'.ownsRow base e 3 v' (n + m) (xs ++ ys) → w.grownBy w' v.ownBlock → (v'.ownBlock = v.ownBlock ∨ v'.ownBlock = some w.heap.size) → K (a.put o.dst v') w') :
    if Region.wanted o (yielded ops a.tmps) = true then Oper.wp P o a w K Q else E := by
  have hw : Region.wanted o (yielded ops a.tmps) = true := by simp [Region.wanted, hgd]
  rw [if_pos hw]
  obtain ⟨v', w', hrun, h2, h3, h4⟩ := run_append_on (P := P) w base b2 t o.type e i z ht hi hz hsize hby hzs v n xs hown vs m ys hsrc hone hlen hbase
  unfold Oper.wp execOp
  simp only [ho, resolve, invoke, builtin, Sem.run_bind, Sem.run_pure, Result.andThen_ok, List.map_toArray, List.map_cons, List.map_nil, hs, hx, hrun]
  exact h v' w' h2 h3 h4

theorem onC_ones (D : List Oe) : ∀ u ∈ D.flatMap onC, u.oneCell' = true := flat_one onC_one D
set_option maxRecDepth 100000 in
set_option maxHeartbeats 4000000 in
theorem refCopy_any {b : Nat} {w : World} {rr : Nat} {v : Value} {D : List Oe} (h : RefE b w rr v D) (hl : D.length ≤ 1000) (hb : b ≤ w.heap.size) : Calls Try.prog 27 #[.pointer (some ⟨rr, 0, none⟩)] w fun e w' => e = .returned (.pointer (some ⟨w.heap.size, 0, none⟩)) ∧ (∃ v', RefE b w' w.heap.size v' D) ∧ Below w.heap.size w w' := by
  have hbn : Below w.heap.size w (w.alloc (.cells #[.slice none 0 0] 35)) := (Below.refl _ _).alloc (Nat.le_refl _) _
  have hW := Whole.new w 35 #[.slice none 0 0]
  have h0 := h.later hbn
  have hr := h0.box.cell 0
  have hc := hW.cell 0
  have hcf := hW.frozen 0
  simp at hr hc
  have hrl := h.box.lt
  have hn1 : ¬ w.heap.size = rr := by omega
  have hn2 : ¬ rr = w.heap.size := by omega
  have HB := Lib.hid hbn
  have HW := Lib.hid hW
  have HROW := Lib.hid h0.row
  obtain ⟨i1, ji, jz0, jz1, jz2⟩ := info_parts i_on
  clear h h0 hbn hW hrl
  go_enter Try.func27, Try.ntmps27
  go_upto_region 2 with fail
  go_region_law ((refine step_append_on (by rfl) (.tmp 10) (.tmp 14) 33 (by rfl) b b 65 i1 _ Try.underlying33 ji jz0 jz1 jz2 (by rfl) (.slice none 0 0) 0 [] (by rfl) (by exact ⟨rfl, .inl ⟨rfl, rfl⟩⟩) v D.length (D.flatMap onC) (by rfl) (by exact HROW.out) (onC_ones D) (by omega) (by simp; omega) ?_; intro v' w5 h1 h2 h3; rw [List.nil_append, Nat.zero_add] at h1; obtain ⟨⟨A7, n7, d7⟩, rfl, _, _⟩ := rsrc_of_own (cells := onC) (k := 3) (fun _ => rfl) rfl h1; unfold Sl.v at *; have hk := (Kept.refl Empty _).grown h2 (fun k hk => by cases hk); have HR := Lib.hid (And.intro h1 (hk.below (fun _ _ h => h))); have hW5 : Whole w5 w.heap.size 35 #[.slice none 0 0] := k_later HR.out.2 (by exact HW.out); have HW5 := Lib.hid hW5; have hc5 := hW5.cell 0; have hf5 := hW5.frozen 0; simp at hc5; clear h1 h2 h3 hW5 hk))
  all_goals go_wp2
  all_goals go_ret
  all_goals
    have k5 : Kept (fun i => i = w.heap.size) w5 (w5.setCell ⟨w.heap.size, 0, none⟩ (.slice A7 n7 d7)) := Kept.setCell (S := fun i => i = w.heap.size) (Kept.refl _ w5) (p := ⟨w.heap.size, 0, none⟩) (.inl rfl) _
    refine ⟨rfl, ⟨.slice A7 n7 d7, HW5.out.set 0 _, own_kept HR.out.1 k5 (fun g hg e => HW5.out.not_row (by decide) HR.out.1 (by rw [hg, e]))⟩, ?_⟩
    exact below_on (k_then HR.out.2 (below_drewN HB.out 1)) k5 (fun i e => by have e : i = w.heap.size := e; omega) (by have := (k_then HR.out.2 (below_drewN HB.out 1)).size; omega)
end Go.Proofs.Ytjgbgakdnapdhaa
