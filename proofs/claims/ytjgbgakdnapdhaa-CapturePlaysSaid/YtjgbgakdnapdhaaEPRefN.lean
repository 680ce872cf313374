/- The document's Note, Forget, Clear and Copy, by contracts. No condition. -/
import Derived.Test.YtjgbgakdnapdhaaEPRefL
import Derived.Deep.RegionLaw
import Derived.Deep.DrawnRows
namespace Go.Proofs.Ytjgbgakdnapdhaa
open Go.RowKit Go.Shelf

/-- The document's capture in block rr holds other things; of what was there its block and its row alone have changed. -/
def RefTo (b : Nat) (w : World) (rr : Nat) (v : Value) (D' : List Oe) (w' : World) : Prop := ∃ v', RefE b w' rr v' D' ∧ Kept (fun i => i = rr ∨ some i = v.ownBlock) w w'
theorem refto_same {b : Nat} {w : World} {rr : Nat} {v : Value} {D : List Oe} (h : RefE b w rr v D) : RefTo b w rr v D w := ⟨v, h, Kept.refl _ _⟩
theorem ref_put {b : Nat} {w w8 : World} {rr : Nat} {v v8 : Value} {D : List Oe} {o : Oe} {ob : Obj} (h : RefE b w rr v D) (q1 : w8.ownsRow b 65 3 v8 (D.length + 1) (D.flatMap onC ++ onC o)) (q2 : (w.alloc ob).grownBy w8 v.ownBlock) :
    Whole w8 rr 35 #[v] ∧ RefTo b w rr v (D ++ [o]) (w8.setCell ⟨rr, 0, none⟩ v8) := by
  have hk : Kept (fun i => some i = v.ownBlock) w w8 := ((Kept.refl _ w).alloc ob).grown q2 (fun i hi => .inl hi.symm)
  have hbx : Whole w8 rr 35 #[v] := h.box.kept hk (h.box.not_row (by decide) h.row)
  have k5 : Kept (fun i => i = rr) w8 (w8.setCell ⟨rr, 0, none⟩ v8) := Kept.setCell (S := fun i => i = rr) (Kept.refl _ w8) (p := ⟨rr, 0, none⟩) (.inl rfl) _
  refine ⟨hbx, v8, ⟨hbx.set 0 v8, ?_⟩, (hk.mono (fun _ e => .inr e)).trans k5 (fun _ _ e => .inl e)⟩
  rw [List.length_append, List.flatMap_append]
  have := own_kept q1 k5 (fun g hg e => hbx.not_row (by decide) q1 (by rw [hg, e]))
  simpa using this
theorem ref_new {b : Nat} {w w1 : World} {rr : Nat} {v v1 : Value} {D D1 : List Oe} (h : RefE b w rr v D) (hb : b ≤ w.heap.size) (hw : Below w.heap.size w w1) (hr : w1.ownsRow w.heap.size 65 3 v1 D1.length (D1.flatMap onC)) : RefTo b w rr v D1 (w1.setCell ⟨rr, 0, none⟩ v1) := by
  have hbx := k_later hw h.box
  have k5 : Kept (fun i => i = rr) w1 (w1.setCell ⟨rr, 0, none⟩ v1) := Kept.setCell (S := fun i => i = rr) (Kept.refl _ w1) (p := ⟨rr, 0, none⟩) (.inl rfl) _
  exact ⟨v1, ⟨hbx.set 0 v1, own_low (own_kept hr k5 (fun g hg e => hbx.not_row (by decide) hr (by rw [hg, e]))) hb⟩, (Kept.of_below hw _).trans k5 (fun _ _ e => .inl e)⟩
theorem note_bad {D : List Oe} {n c x : Int} (h : okB (look D) n c x = false) : noteE (look D) n c x = 130 ∧ noteD D n c x = D := by
  refine ⟨(note_no h).1, ?_⟩
  unfold noteD
  rw [h]
  rfl
theorem ok_parts {f : Ca} {n c x : Int} (h : nodeB n = false ∨ chanB c = false ∨ byB x = false) : okB f n c x = false := by
  unfold okB
  rcases h with h | h | h <;> rw [h] <;> simp
theorem nodeB_no {n : Int} (h : n < 0 ∨ 15 < n) : nodeB n = false := by
  unfold nodeB
  rw [Bool.and_eq_false_iff, decide_eq_false_iff_not, decide_eq_false_iff_not]
  omega
theorem chanB_no {n : Int} (h : n < 0 ∨ 1 < n) : chanB n = false := by
  unfold chanB
  rw [Bool.and_eq_false_iff, decide_eq_false_iff_not, decide_eq_false_iff_not]
  omega
theorem byB_no {n : Int} (h : n < -4294967296 ∨ 4294967296 < n) : byB n = false := by
  unfold byB
  rw [Bool.and_eq_false_iff, decide_eq_false_iff_not, decide_eq_false_iff_not]
  omega

set_option maxRecDepth 100000 in
set_option maxHeartbeats 4000000 in
theorem refNote_any {b : Nat} {w : World} {rr : Nat} {v : Value} {D : List Oe} (h : RefE b w rr v D) (hl : D.length ≤ 1000) (hb : b ≤ w.heap.size) (n c x : Int) : Calls Try.prog 24 #[.pointer (some ⟨rr, 0, none⟩), .int .i64 n, .int .i64 c, .int .i64 x] w fun e w' => e = .returned (.int .i64 (noteE (look D) n c x)) ∧ RefTo b w rr v (noteD D n c x) w' := by
  have H := Lib.hid h
  by_cases hok : n < 0 ∨ 15 < n ∨ c < 0 ∨ 1 < c ∨ x < -4294967296 ∨ 4294967296 < x
  · have hbad : okB (look D) n c x = false := by
      rcases hok with h | h | h | h | h | h
      · exact ok_parts (.inl (nodeB_no (.inl h)))
      · exact ok_parts (.inl (nodeB_no (.inr h)))
      · exact ok_parts (.inr (.inl (chanB_no (.inl h))))
      · exact ok_parts (.inr (.inl (chanB_no (.inr h))))
      · exact ok_parts (.inr (.inr (byB_no (.inl h))))
      · exact ok_parts (.inr (.inr (byB_no (.inr h))))
    obtain ⟨e1, e2⟩ := note_bad hbad
    rw [e1, e2]
    have HWAY := Lib.hid (show n < 0 ∨ (¬ n < 0 ∧ 15 < n) ∨ (¬ n < 0 ∧ ¬ 15 < n ∧ c < 0) ∨ (¬ n < 0 ∧ ¬ 15 < n ∧ ¬ c < 0 ∧ 1 < c) ∨ (¬ n < 0 ∧ ¬ 15 < n ∧ ¬ c < 0 ∧ ¬ 1 < c ∧ x < -4294967296) ∨ (¬ n < 0 ∧ ¬ 15 < n ∧ ¬ c < 0 ∧ ¬ 1 < c ∧ ¬ x < -4294967296 ∧ 4294967296 < x) from by omega)
    clear h hbad e1 e2 hok hb
    rcases HWAY.out with f1 | ⟨f1, f2⟩ | ⟨f1, f2, f3⟩ | ⟨f1, f2, f3, f4⟩ | ⟨f1, f2, f3, f4, f5⟩ | ⟨f1, f2, f3, f4, f5, f6⟩
    all_goals
      clear HWAY
      go_enter Try.func24, Try.ntmps24
      go_wp2
      go_ret
      exact ⟨rfl, refto_same H.out⟩
  · have f1 : ¬ n < 0 := by omega
    have f2 : ¬ 15 < n := by omega
    have f3 : ¬ c < 0 := by omega
    have f4 : ¬ 1 < c := by omega
    have f5 : ¬ x < -4294967296 := by omega
    have f6 : ¬ 4294967296 < x := by omega
    have hnB : nodeB n = true := by unfold nodeB; simp; omega
    have hcB : chanB c = true := by unfold chanB; simp; omega
    have hxB : byB x = true := byB_iff.2 (by omega)
    have HVB := Lib.hid (And.intro hnB (And.intro hcB hxB))
    obtain ⟨A, cp, hv, hs⟩ := h.slice
    have hbx := h.box
    have hbf := h.box.frozen 0
    have hrow := h.row
    rw [hv] at hbx hrow
    have c0 := hbx.cell 0
    simp at c0
    have HS := Lib.hid hs
    have HBX := Lib.hid hbx
    have HROW := Lib.hid hrow
    obtain ⟨M, hM⟩ : ∃ M, M = D.length := ⟨_, rfl⟩
    have HV := Lib.hid hv
    rw [← hM] at c0 hl HROW
    have HM := Lib.hid hM
    have HPUT := Lib.hid (fun w8 v8 (o : Oe) ob => ref_put (w8 := w8) (v8 := v8) (o := o) (ob := ob) h)
    rw [hv, ← hM] at HPUT
    rw [hv] at H
    rw [← hM] at H
    rw [hv, ← hM]
    obtain ⟨i1, ji, jz0, jz1, jz2⟩ := info_parts i_on
    clear h hok hs hbx hrow hv hM hnB hcB hxB
    go_enter Try.func24, Try.ntmps24
    go_wp2
    go_loopw [9] (fun iv wr => ∃ (k : Nat), k ≤ M ∧ iv = .int .i64 (k : Int) ∧ wr = w ∧ ∀ o ∈ D.take k, ¬ (o.n = n ∧ o.c = c)) (fun iv _ => M - (intOf iv).toNat)
    case atStart => exact ⟨0, Nat.zero_le _, rfl, rfl, fun o h => by simp at h⟩
    case round =>
      obtain ⟨k, hk, rfl, rfl, hno⟩ := hrel
      have HNO := Lib.hid hno
      by_cases hlt : k < M
      · obtain ⟨g, o, hA0, hA2⟩ := HS.out.get (i := k) (by show k < D.length; have := HM.out; omega)
        dsimp only at hA0
        have htk := take_more (D := D) (k := k) (by have := HM.out; omega)
        have hmem : D.getD k default ∈ D := by rw [List.getD_eq_getElem?_getD, List.getElem?_eq_getElem (by have := HM.out; omega)]; exact List.getElem_mem _
        obtain ⟨⟨ok, on, oc, ov⟩, hx⟩ : ∃ o, o = D.getD k default := ⟨_, rfl⟩
        rw [← hx] at hA2 htk hmem
        obtain ⟨q0, q1, q2⟩ := onC_cells hA2
        subst hA0
        have e1 : (0 : Int) ≤ (k : Int) := by omega
        have e2 : (k : Int) < (M : Int) := by omega
        have HX := Lib.hid (And.intro htk hmem)
        clear hx hA2 htk hmem hno HPUT
        by_cases hon : on = n
        · have h1 : (on == n) = true := beq_iff_eq.2 hon
          by_cases hoc : oc = c
          · have h2 : (oc == c) = true := beq_iff_eq.2 hoc
            have HBAD := Lib.hid (note_bad (D := D) (n := n) (c := c) (x := x) (by
              rw [Bool.eq_false_iff]
              intro hok
              have h4 := (okB_iff.1 hok).2.2.2
              have := look_none.1 h4 _ HX.out.2
              rw [toNat_of HVB.out.1, toNat_of' HVB.out.2.1] at this
              exact this ⟨hon, hoc⟩))
            clear hon hoc
            go_wp2
            go_ret
            exact ⟨by rw [HBAD.out.1]; rfl, by rw [HBAD.out.2]; exact refto_same H.out⟩
          · have h2 : (oc == c) = false := beq_eq_false_iff_ne.2 hoc
            have HOC := Lib.hid hoc
            clear hon hoc
            go_wp2
            go_roundw
            case rel =>
              refine ⟨k + 1, by omega, by go_num, by trivial, fun o ho => ?_⟩
              rw [HX.out.1] at ho
              rcases List.mem_append.1 ho with ho | ho
              · exact HNO.out o ho
              · rw [List.mem_singleton.1 ho]
                exact fun e => HOC.out e.2
            case measure => simp [intOf]; omega
        · have h1 : (on == n) = false := beq_eq_false_iff_ne.2 hon
          have HON := Lib.hid hon
          clear hon
          go_wp2
          go_roundw
          case rel =>
            refine ⟨k + 1, by omega, by go_num, by trivial, fun o ho => ?_⟩
            rw [HX.out.1] at ho
            rcases List.mem_append.1 ho with ho | ho
            · exact HNO.out o ho
            · rw [List.mem_singleton.1 ho]
              exact fun e => HON.out e.1
          case measure => simp [intOf]; omega
      · have HOK := Lib.hid (show okB (look D) n c x = true from okB_iff.2 ⟨HVB.out.1, HVB.out.2.1, HVB.out.2.2, look_none.2 (by
          rw [toNat_of HVB.out.1, toNat_of' HVB.out.2.1]
          have := HNO.out
          rwa [List.take_of_length_le (by have := HM.out; omega)] at this)⟩)
        have hrow := HROW.out
        clear hno
        go_wp2_with (at_builtin; (refine wpList_append_own_at _ rfl (.tmp 67) (.tmp 72) 33 rfl b 65 i1 (.agg #[.int .i64 0, .int .i64 0, .int .i64 0]) 3 24 Try.underlying33 ji jz0 jz1 jz2 rfl (by decide) (.slice A M cp) M (D.flatMap onC) rfl (hrow.alloc _) ⟨wr.heap.size, 0, none⟩ 1 1 (onC ⟨0, n, c, x⟩) rfl rfl (fun j u hu => World.news_of_block (Whole.new wr _ _) j u hu) (fun u hu => onC_one ⟨0, n, c, x⟩ u hu) (by simp only [maxLen]; omega) (by omega) (by simp; omega) ?_; intro v8 w8 y1 y2 y3 y4; obtain ⟨g8, d8, rfl⟩ := ownsRow_succ y1; have HP8 := Lib.hid (HPUT.out w8 _ ⟨0, n, c, x⟩ _ y1 y2); have r0 := HP8.out.1.cell 0; have rf := HP8.out.1.frozen 0; simp at r0; clear y1 y2 y3 y4))
        go_ret
        refine ⟨by rw [(note_ok HOK.out).1]; rfl, ?_⟩
        unfold noteD
        rw [HOK.out, if_pos rfl]
        exact HP8.out.2
end Go.Proofs.Ytjgbgakdnapdhaa
