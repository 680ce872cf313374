/- The document's List, Values and Clear, by contracts. No condition. -/
import Derived.Test.YtjgbgakdnapdhaaEPRef
namespace Go.Proofs.Ytjgbgakdnapdhaa
open Go.RowKit Go.Shelf

theorem app_row {α : Type} {cells : α → List Value} {k : Nat} {t : TypeId} {wS W w8 : World} {v v8 : Value} {xs : List α} {x : α} {ob : Obj} (h : Below wS.heap.size wS W) (hr : W.ownsRow wS.heap.size t k v xs.length (xs.flatMap cells)) (q1 : w8.ownsRow wS.heap.size t k v8 (xs.length + 1) (xs.flatMap cells ++ cells x)) (q2 : (W.alloc ob).grownBy w8 v.ownBlock) :
    Below wS.heap.size wS w8 ∧ w8.ownsRow wS.heap.size t k v8 (xs ++ [x]).length ((xs ++ [x]).flatMap cells) := by
  have hk : Kept (fun i => some i = v.ownBlock) W w8 := ((Kept.refl _ W).alloc ob).grown q2 (fun i hi => .inl hi.symm)
  refine ⟨below_on h hk (fun i hi => (own_typed hr hi.symm).1) h.size, ?_⟩
  rw [List.length_append, List.flatMap_append]
  simpa using q1

set_option maxRecDepth 100000 in
set_option maxHeartbeats 4000000 in
theorem refList_any {b : Nat} {w : World} {rr : Nat} {v : Value} {D : List Oe} (h : RefE b w rr v D) (hg : GoodD D) (hl : D.length ≤ 1000) : Calls Try.prog 15 #[.pointer (some ⟨rr, 0, none⟩)] w (NewRow deC 2 51 (listC (look D)) w) := by
  have HO := Lib.hid (fun W (hb : Below w.heap.size w W) n => refOf_any (h.later hb) hg hl n)
  obtain ⟨F, hF⟩ : ∃ F, F = look D := ⟨_, rfl⟩
  rw [← hF] at HO ⊢
  obtain ⟨i1, ji, jz0, jz1, jz2⟩ := info_parts i_dev
  have HI1 := Lib.hid (And.intro ji (And.intro jz0 (And.intro jz1 jz2)))
  clear ji jz0 jz1 jz2 h hg hF
  go_enter Try.func15, Try.ntmps15
  go_wp2
  go_loopw [3, 4] (fun rv iv wr => ∃ (k : Nat), k ≤ 16 ∧ iv = .int .i64 (k : Int) ∧ Below w.heap.size w wr ∧ wr.ownsRow w.heap.size 51 2 rv (listTo F k).length ((listTo F k).flatMap deC)) (fun _ iv _ => 16 - (intOf iv).toNat)
  case atStart => exact ⟨0, Nat.zero_le _, rfl, Below.refl _ _, ⟨rfl, .inl ⟨rfl, rfl⟩⟩⟩
  case round =>
    obtain ⟨k, hk, rfl, hb, hrow⟩ := hrel
    have HB := Lib.hid (And.intro hb hrow)
    by_cases hlt : k < 16
    · have HOk := Lib.hid (HO.out _ hb (k : Int))
      have hof : ofC F (k : Int) = devF F k := by unfold ofC; rw [nodeB_iff.2 ⟨k, hlt, rfl⟩, if_pos rfl, Int.toNat_natCast]
      rw [hof] at HOk
      have hll := listTo_len F k
      clear hb hrow hof HO
      have hsc := listTo_succ F k
      cases hd : devF F k with
      | none =>
        rw [hd] at HOk hsc
        unfold ofV at HOk
        simp only [List.append_nil] at hsc
        have HSC := Lib.hid hsc
        clear hsc hd
        go_wp2_with (go_at_call 11; refine HOk.out.mono ?_; rintro e w5 ⟨rfl, hw5⟩; obtain rfl := hw5.symm)
        go_roundw
        case rel => exact ⟨k + 1, by omega, by go_num, HB.out.1, by rw [HSC.out]; exact HB.out.2⟩
        case measure => simp [intOf]; omega
      | some x =>
        rw [hd] at HOk hsc
        unfold ofV at HOk
        have HSC := Lib.hid hsc
        clear hsc hd
        obtain ⟨ji, jz0, jz1, jz2⟩ := HI1.out
        generalize listTo F k = L at *
        go_wp2_with (first
          | (go_at_call 11; refine HOk.out.mono ?_; rintro e w5 ⟨rfl, hw5⟩; obtain rfl := hw5.symm)
          | (at_builtin; refine wpList_append_own_at _ rfl (.tmp 18) (.tmp 22) 43 rfl w.heap.size 51 i1 (.agg #[.int .i64 0, .int .i64 0]) 2 16 Try.underlying43 ji jz0 jz1 jz2 rfl (by decide) u3 L.length (L.flatMap deC) rfl (HB.out.2.alloc _) ⟨wr.heap.size, 0, none⟩ 1 1 (deC ⟨k, x⟩) rfl rfl (fun j u hu => World.news_of_block (Whole.new wr _ _) j u hu) (fun u hu => deC_one ⟨k, x⟩ u hu) (by simp only [maxLen]; omega) (by omega) (by have := HB.out.1.size; simp; omega) ?_; intro v8 w8 y1 y2 y3 y4; have H8 := Lib.hid (app_row HB.out.1 HB.out.2 y1 y2); clear y1 y2 y3 y4))
        go_roundw
        case rel => exact ⟨k + 1, by omega, by go_num, H8.out.1, by rw [HSC.out]; exact H8.out.2⟩
        case measure => simp [intOf]; omega
    · obtain rfl : k = 16 := by omega
      clear hb hrow HO
      go_wp2
      go_ret
      exact ⟨_, rfl, HB.out.2, HB.out.1⟩

set_option maxRecDepth 100000 in
set_option maxHeartbeats 4000000 in
theorem refValues_any {b : Nat} {w : World} {rr : Nat} {v : Value} {D : List Oe} (h : RefE b w rr v D) (hg : GoodD D) (hl : D.length ≤ 1000) (own : Int) : Calls Try.prog 18 #[.pointer (some ⟨rr, 0, none⟩), .int .i64 own] w (NewRow inC 1 2 (valC (look D) own) w) := by
  have HO := Lib.hid (fun W (hb : Below w.heap.size w W) n => refOf_any (h.later hb) hg hl n)
  obtain ⟨F, hF⟩ : ∃ F, F = look D := ⟨_, rfl⟩
  rw [← hF] at HO ⊢
  obtain ⟨i1, ji, jz0, jz1, jz2⟩ := info_parts i_i64
  have HI1 := Lib.hid (And.intro ji (And.intro jz0 (And.intro jz1 jz2)))
  clear ji jz0 jz1 jz2 h hg hF
  go_enter Try.func18, Try.ntmps18
  go_wp2
  go_loopw [5, 6] (fun rv iv wr => ∃ (k : Nat), k ≤ 16 ∧ iv = .int .i64 (k : Int) ∧ Below w.heap.size w wr ∧ wr.ownsRow w.heap.size 2 1 rv (vlTo F own k).length ((vlTo F own k).flatMap inC)) (fun _ iv _ => 16 - (intOf iv).toNat)
  case atStart => exact ⟨0, Nat.zero_le _, rfl, Below.refl _ _, ⟨rfl, .inl ⟨rfl, rfl⟩⟩⟩
  case round =>
    obtain ⟨k, hk, rfl, hb, hrow⟩ := hrel
    have HB := Lib.hid (And.intro hb hrow)
    by_cases hlt : k < 16
    · have HOk := Lib.hid (HO.out _ hb (k : Int))
      have hof : ofC F (k : Int) = devF F k := by unfold ofC; rw [nodeB_iff.2 ⟨k, hlt, rfl⟩, if_pos rfl, Int.toNat_natCast]
      rw [hof] at HOk
      have hll := vlTo_len F own k
      have hsc := vlTo_succ F own k hlt
      obtain ⟨ji, jz0, jz1, jz2⟩ := HI1.out
      clear hb hrow hof HO
      by_cases hon : (k : Int) = own
      · rw [if_pos hon] at hsc
        subst hon
        have HSC := Lib.hid hsc
        clear hsc
        unfold ofV at HOk
        generalize vlTo F (k : Int) k = L at *
        generalize (devF F k).getD 0 = dv at *
        generalize (devF F k).isSome = di at *
        have h2 : ((k : Int) == (k : Int)) = true := by simp
        go_wp2_with (first
          | (go_at_call 11; refine HOk.out.mono ?_; rintro e w5 ⟨rfl, hw5⟩; obtain rfl := hw5.symm)
          | (at_builtin; refine wpList_append_own_at _ rfl (.tmp 22) (.tmp 23) 45 rfl w.heap.size 2 i1 (.int .i64 0) 1 8 Try.underlying45 ji jz0 jz1 jz2 rfl (by decide) u5 L.length (L.flatMap inC) rfl (HB.out.2.alloc _) ⟨wr.heap.size, 0, none⟩ 1 1 (inC 0) rfl rfl (fun j u hu => World.news_of_block (Whole.new wr _ _) j u hu) (fun u hu => inC_one ⟨0, 0⟩ u hu) (by simp only [maxLen]; omega) (by omega) (by have := HB.out.1.size; simp; omega) ?_; intro v8 w8 y1 y2 y3 y4; have H8 := Lib.hid (app_row HB.out.1 HB.out.2 y1 y2); clear y1 y2 y3 y4))
        go_roundw
        case rel => exact ⟨k + 1, by omega, by go_num, H8.out.1, by rw [HSC.out]; exact H8.out.2⟩
        case measure => simp [intOf]; omega
      · rw [if_neg hon] at hsc
        have h2 : ((k : Int) == own) = false := beq_eq_false_iff_ne.2 hon
        clear hon
        cases hd : devF F k with
        | none =>
          rw [hd] at HOk hsc
          unfold ofV at HOk
          have HSC := Lib.hid hsc
          clear hsc hd
          go_wp2_with (go_at_call 11; refine HOk.out.mono ?_; rintro e w5 ⟨rfl, hw5⟩; obtain rfl := hw5.symm)
          go_roundw
          case rel => exact ⟨k + 1, by omega, by go_num, HB.out.1, by rw [HSC.out]; exact HB.out.2⟩
          case measure => simp [intOf]; omega
        | some x =>
          rw [hd] at HOk hsc
          unfold ofV at HOk
          have HSC := Lib.hid hsc
          clear hsc hd
          generalize vlTo F own k = L at *
          go_wp2_with (first
            | (go_at_call 11; refine HOk.out.mono ?_; rintro e w5 ⟨rfl, hw5⟩; obtain rfl := hw5.symm)
            | (at_builtin; refine wpList_append_own_at _ rfl (.tmp 26) (.tmp 28) 45 rfl w.heap.size 2 i1 (.int .i64 0) 1 8 Try.underlying45 ji jz0 jz1 jz2 rfl (by decide) u5 L.length (L.flatMap inC) rfl (HB.out.2.alloc _) ⟨wr.heap.size, 0, none⟩ 1 1 (inC x) rfl rfl (fun j u hu => World.news_of_block (Whole.new wr _ _) j u hu) (fun u hu => inC_one ⟨0, x⟩ u hu) (by simp only [maxLen]; omega) (by omega) (by have := HB.out.1.size; simp; omega) ?_; intro v8 w8 y1 y2 y3 y4; have H8 := Lib.hid (app_row HB.out.1 HB.out.2 y1 y2); clear y1 y2 y3 y4))
          go_roundw
          case rel => exact ⟨k + 1, by omega, by go_num, H8.out.1, by rw [HSC.out]; exact H8.out.2⟩
          case measure => simp [intOf]; omega
    · obtain rfl : k = 16 := by omega
      clear hb hrow HO
      go_wp2
      go_ret
      exact ⟨_, rfl, HB.out.2, HB.out.1⟩
end Go.Proofs.Ytjgbgakdnapdhaa
