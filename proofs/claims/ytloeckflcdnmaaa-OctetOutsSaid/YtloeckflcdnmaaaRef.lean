/- The document's own Twin, Width, Number, and its In: each by a contract. -/
import Derived.Test.YtloeckflcdnmaaaGet
namespace Go.Proofs.Ytloeckflcdnmaaa
open Go.RowKit

theorem twin_any (A : Option Addr) (m c : Nat) (l : List UInt8) (w : World) (h : Src w A m l) (hm : m ≤ 549755813888) :
    Calls Try.prog 10 #[.slice A m c] w fun e w' => ∃ v, e = .returned v ∧ w'.ownsRow w.heap.size 5 1 v m (bv l) ∧ Below w.heap.size w w' := by
  obtain ⟨i0, hi, hz0, hz1, hz2⟩ := info_parts u8_info
  go_enter Try.func10, Try.ntmps10
  go_wp2_with (at_builtin; refine wpList_append_src _ rfl (.tmp 4) (.tmp 5) _ rfl w.heap.size 5 i0 Try.underlying28 hi hz0 hz1 hz2 (.slice none 0 0) 0 [] rfl (World.ownsRow_nil _ _ _ _) A m c l rfl h (by omega) (Nat.le_refl _) ?_; intro v w1 h1 h2 h3)
  go_ret
  refine ⟨v, rfl, by simpa using h1, (Below.refl _ _).grown h2 (Nat.le_refl _) (fun k hk => ?_)⟩
  simp [Value.ownBlock] at hk

set_option maxHeartbeats 400000 in
theorem width_any (n : Int) (w : World) : Calls Try.prog 37 #[.int .i64 n] w fun e w' => e = .returned (.bool (isW n)) ∧ w = w' := by
  by_cases h1 : n = 1
  · subst h1
    go_enter Try.func37, Try.ntmps37
    go_wp2
    go_ret
    exact ⟨rfl, rfl⟩
  by_cases h2 : n = 2
  · subst h2
    go_enter Try.func37, Try.ntmps37
    go_wp2
    go_ret
    exact ⟨rfl, rfl⟩
  by_cases h4 : n = 4
  · subst h4
    go_enter Try.func37, Try.ntmps37
    go_wp2
    go_ret
    exact ⟨rfl, rfl⟩
  have b1 : (n == 1) = false := by simp [h1]
  have b2 : (n == 2) = false := by simp [h2]
  have b4 : (n == 4) = false := by simp [h4]
  have HV := Lib.hid (show isW n = (n == 8) by simp [isW, h1, h2, h4])
  clear h1 h2 h4
  go_enter Try.func37, Try.ntmps37
  go_wp2
  go_ret
  exact ⟨by rw [HV.out]; rfl, rfl⟩

theorem number_any (A : Option Addr) (m c : Nat) (l : List UInt8) (w : World) (h : Src w A m l) (hm : m ≤ 8) :
    Calls Try.prog 38 #[.slice A m c] w fun e w' => e = .returned (.int .u64 (beVal l : Int)) ∧ w = w' := by
  obtain ⟨rfl, hs⟩ := h
  go_enter Try.func38, Try.ntmps38
  go_wp2
  go_loop [3, 4] (fun t k => ∃ j : Nat, j ≤ l.length ∧ k = .int .i64 (j : Int) ∧ t = .int .u64 (beVal (l.take j) : Int)) (fun _ k => l.length - (intOf k).toNat)
  case atStart => exact ⟨0, Nat.zero_le _, rfl, rfl⟩
  case round =>
    obtain ⟨j, hj, rfl, rfl⟩ := hrel
    by_cases hlt : j < l.length
    · obtain ⟨b, o, rfl, hc⟩ := hs (by omega)
      have hcj := hc j hlt
      have hv := beVal_lt (l.take j)
      have hb := l[j].toNat_lt
      have HS := Lib.hid (show beVal (l.take (j + 1)) = 256 * beVal (l.take j) + l[j].toNat by rw [List.take_succ_eq_append_getElem hlt, beVal_snoc])
      have hv' : beVal (l.take j) < 72057594037927936 := by
        refine Nat.lt_of_lt_of_le hv ?_
        rw [show (72057594037927936 : Nat) = 2 ^ 56 from rfl]
        exact Nat.pow_le_pow_right (by decide) (by rw [List.length_take]; omega)
      clear hv
      generalize beVal (l.take j) = t at *
      go_wp2
      refine ⟨⟨j + 1, by omega, by go_num, ?_⟩, by simp [intOf]; omega⟩
      rw [HS.out]
      simp only [Value.int.injEq, true_and]
      omega
    · go_wp2
      go_ret
      have e : l.take j = l := List.take_of_length_le (by omega)
      rw [e]
      exact ⟨rfl, rfl⟩

/-- The document's In at block r: spoilt (none), or with the bytes l left (some l), which lie in blocks of S other than r. -/
structure RefAt (w : World) (S : Nat → Prop) (r : Nat) (st : Option (List UInt8)) : Prop where
  lt : ∀ k, S k → k < w.heap.size
  own : S r
  shape : (st = none ∧ Whole w r 46 #[.slice none 0 0, .bool true]) ∨
    ∃ (l : List UInt8) (A : Option Addr) (c : Nat), st = some l ∧ Whole w r 46 #[.slice A l.length c, .bool false] ∧ Src w A l.length l ∧ l.length ≤ c ∧ (A = none → c = 0) ∧ ∀ ad, A = some ad → S ad.block ∧ ad.block ≠ r

section
variable {w w' : World} {S T : Nat → Prop} {r : Nat} {st : Option (List UInt8)}
theorem RefAt.keep (h : RefAt w S r st) (hk : Kept T w w') (hT : ∀ k, S k → ¬ T k) : RefAt w' S r st := by
  refine ⟨fun k hs => Nat.lt_of_lt_of_le (h.lt k hs) hk.size, h.own, ?_⟩
  rcases h.shape with ⟨e, c⟩ | ⟨l, A, c, e, hw, hs, hc, hn, hA⟩
  · exact .inl ⟨e, c.kept hk (hT _ h.own)⟩
  · exact .inr ⟨l, A, c, e, hw.kept hk (hT _ h.own), hs.kept hk (fun ad e => hT _ (hA ad e).1), hc, hn, hA⟩

/-- The two cells, whatever it is. -/
theorem RefAt.cells (h : RefAt w S r st) : ∃ A c, Whole w r 46 #[.slice A (st.getD []).length c, .bool st.isNone] := by
  rcases h.shape with ⟨rfl, c⟩ | ⟨l, A, c, rfl, hw, _⟩
  · exact ⟨none, 0, c⟩
  · exact ⟨A, c, hw⟩

/-- What the document's Take answers: bytes in new memory. -/
def RTaken (w : World) (S : Nat → Prop) (i : Nat) (r : Option (List UInt8) × List UInt8) (e : Ending) (w' : World) : Prop :=
  ∃ v, e = .returned v ∧ w'.ownsRow w.heap.size 5 1 v r.2.length (bv r.2) ∧ RefAt w' S i r.1 ∧ Kept (fun k => k = i) w w'

theorem refTake_spoil (h : RefAt w S r st) {u : Value} {b : Bool} (hw : Whole w r 46 #[u, .bool b]) :
    RTaken w S r (none, []) (.returned (.slice none 0 0)) ((w.setCell ⟨r, 0, none⟩ (.slice none 0 0)).setCell ⟨r, 1, none⟩ (.bool true)) :=
  ⟨_, rfl, World.ownsRow_nil _ _ _ _, ⟨fun k hs => by have := h.lt k hs; simpa [World.setCell] using this, h.own, .inl ⟨rfl, by simpa using (hw.set 0 (.slice none 0 0)).set 1 (.bool true)⟩⟩, ((Kept.refl (fun k => k = r) w).setCell (p := ⟨r, 0, none⟩) (.inl rfl) _).setCell (p := ⟨r, 1, none⟩) (.inl rfl) _⟩

theorem refTake_bad (n : Int) (h : RefAt w S r none) : Calls Try.prog 22 #[.pointer (some ⟨r, 0, none⟩), .int .i64 n] w (RTaken w S r (none, [])) := by
  rcases h.shape with ⟨_, hw⟩ | ⟨l, A, c, e, _⟩
  · have c0 := hw.cell 0
    have c1 := hw.cell 1
    have f0 := hw.frozen 0
    have f1 := hw.frozen 1
    simp at c0 c1
    go_enter Try.func22, Try.ntmps22
    go_wp2
    go_ret
    exact refTake_spoil h hw
  · cases e

theorem refTake_not (n : Int) (l : List UInt8) (h : RefAt w S r (some l)) (hn : n < 0 ∨ (l.length : Int) < n) : Calls Try.prog 22 #[.pointer (some ⟨r, 0, none⟩), .int .i64 n] w (RTaken w S r (none, [])) := by
  rcases h.shape with ⟨e, _⟩ | ⟨l', A, c, e, hw, _⟩
  · cases e
  cases e
  have c0 := hw.cell 0
  have c1 := hw.cell 1
  have f0 := hw.frozen 0
  have f1 := hw.frozen 1
  simp at c0 c1
  rcases hn with hn | hn
  · go_enter Try.func22, Try.ntmps22
    go_wp2
    go_ret
    exact refTake_spoil h hw
  · have hn' : ¬ n < 0 := by omega
    go_enter Try.func22, Try.ntmps22
    go_wp2
    go_ret
    exact refTake_spoil h hw

theorem refTake_done {w2 : World} {n c : Nat} {l : List UInt8} {A : Option Addr} {v : Value} (h : RefAt w S r (some l)) (hn : n ≤ l.length) (hw : Whole w r 46 #[.slice A l.length c, .bool false]) (hs : Src w A l.length l) (hc : l.length ≤ c) (hz : A = none → c = 0) (hA : ∀ ad, A = some ad → S ad.block ∧ ad.block ≠ r)
    (hb : Below w.heap.size w w2) (hown : w2.ownsRow w.heap.size 5 1 v n (bv (l.take n))) :
    RTaken w S r (some (l.drop n), l.take n) (.returned v) (w2.setCell ⟨r, 0, none⟩ (.slice (if c = n then A else A.map (·.add n)) (l.length - n) (c - n))) := by
  have e : (l.take n).length = n := by rw [List.length_take]; omega
  have hk2 : Kept (fun k => k = r) w w2 := Kept.of_below hb _
  have hk : Kept (fun k => k = r) w (w2.setCell ⟨r, 0, none⟩ (.slice (if c = n then A else A.map (·.add n)) (l.length - n) (c - n))) := hk2.setCell (p := ⟨r, 0, none⟩) (.inl rfl) _
  have hr := hw.lt
  have hw2 := hw.below hb hr
  have hA2 : ∀ ad, (if c = n then A else A.map (·.add n)) = some ad → S ad.block ∧ ad.block ≠ r := fun ad e => by
    by_cases hcn : c = n
    · rw [if_pos hcn] at e
      exact hA ad e
    · rw [if_neg hcn] at e
      obtain ⟨b, hb, rfl⟩ := Option.map_eq_some_iff.1 e
      rw [block_add]
      exact hA b hb
  refine ⟨v, rfl, ?_, ⟨fun k hs => Nat.lt_of_lt_of_le (h.lt k hs) hk.size, h.own, .inr ⟨l.drop n, _, c - n, rfl, ?_, ?_, by rw [List.length_drop]; omega, fun e => ?_, hA2⟩⟩, hk⟩
  · rw [e]
    refine ownsRow_kept hown ((Kept.refl (fun k => k = r) w2).setCell (p := ⟨r, 0, none⟩) (.inl rfl) _) (fun g hg hgr => ?_)
    have := (hown.lt g hg).1
    omega
  · rw [List.length_drop]
    simpa using hw2.set 0 (.slice (if c = n then A else A.map (·.add n)) (l.length - n) (c - n))
  · rw [List.length_drop]
    exact (hs.drop hn hc).kept hk (fun ad e => (hA2 ad e).2)
  · by_cases hcn : c = n
    · omega
    · rw [if_neg hcn] at e
      have := hz (Option.map_eq_none_iff.1 e)
      omega

theorem refTake_yes (n : Nat) (l : List UInt8) (h : RefAt w S r (some l)) (hn : n ≤ l.length) (hl : l.length ≤ 549755813888) : Calls Try.prog 22 #[.pointer (some ⟨r, 0, none⟩), .int .i64 (n : Int)] w (RTaken w S r (some (l.drop n), l.take n)) := by
  rcases h.shape with ⟨e, _⟩ | ⟨l', A, c, e, hw, hs, hc, hz, hA⟩
  · cases e
  cases e
  have c0 := hw.cell 0
  have c1 := hw.cell 1
  simp at c0 c1
  have HT := Lib.hid (twin_any A n c _ w (hs.take hn) (by omega))
  by_cases hcn : c = n
  · subst hcn
    go_enter Try.func22, Try.ntmps22
    go_wp2_with fail
    refine HT.out.mono ?_
    rintro e w2 ⟨v, rfl, hown, hb⟩
    have hw2 := hw.below hb hw.lt
    have d0 := hw2.cell 0
    have g0 := hw2.frozen 0
    simp at d0
    go_wp2
    go_ret
    have hd := refTake_done (n := c) h hn hw hs hc hz hA hb hown
    rw [if_pos rfl, Nat.sub_self, show l.length - c = 0 from by omega] at hd
    exact hd
  · go_enter Try.func22, Try.ntmps22
    go_wp2_with fail
    refine HT.out.mono ?_
    rintro e w2 ⟨v, rfl, hown, hb⟩
    have hw2 := hw.below hb hw.lt
    have d0 := hw2.cell 0
    have g0 := hw2.frozen 0
    simp at d0
    go_wp2
    go_ret
    have hd := refTake_done (n := n) h hn hw hs hc hz hA hb hown
    rw [if_neg hcn] at hd
    exact hd

theorem refTake_any (n : Int) (h : RefAt w S r st) (hl : (st.getD []).length ≤ 549755813888) : Calls Try.prog 22 #[.pointer (some ⟨r, 0, none⟩), .int .i64 n] w (RTaken w S r (takeSt st n)) := by
  cases st with
  | none => exact refTake_bad n h
  | some l =>
    by_cases hn : 0 ≤ n ∧ n ≤ l.length
    · obtain ⟨m, rfl⟩ := Int.eq_ofNat_of_zero_le hn.1
      have e : takeSt (some l) (m : Int) = (some (l.drop m), l.take m) := by simp only [takeSt]; rw [if_pos hn]; rfl
      rw [e]
      exact refTake_yes m l h (by omega) hl
    · have e : takeSt (some l) n = (none, []) := by simp only [takeSt]; rw [if_neg hn]
      rw [e]
      exact refTake_not n l h (by omega)

def RGot (w : World) (S : Nat → Prop) (i : Nat) (r : Option (List UInt8) × Nat) (e : Ending) (w' : World) : Prop :=
  e = .returned (.int .u64 (r.2 : Int)) ∧ RefAt w' S i r.1 ∧ Kept (fun k => k = i) w w'

theorem takeSt_w {st : Option (List UInt8)} {n : Int} (hn : isW n = true) : (takeSt st n).2.length ≤ 8 := by
  cases st with
  | none => simp [takeSt]
  | some l =>
    simp only [takeSt]
    split
    · simp [isW] at hn; simp; omega
    · simp

theorem takeSt_neg (st : Option (List UInt8)) : takeSt st (-1) = (none, []) := by
  cases st with
  | none => rfl
  | some l => simp [takeSt]

theorem refGet_any (n : Int) (h : RefAt w S r st) (hl : (st.getD []).length ≤ 549755813888) : Calls Try.prog 20 #[.pointer (some ⟨r, 0, none⟩), .int .i64 n] w (RGot w S r (getSt st n)) := by
  cases hn : isW n with
  | true =>
    have HT := Lib.hid (refTake_any n h hl)
    have hlen := takeSt_w (st := st) hn
    simp only [getSt, hn, if_true]
    generalize takeSt st n = q at *
    obtain ⟨st', l⟩ := q
    go_enter Try.func20, Try.ntmps20
    go_wp2_with fail
    refine (width_any _ _).mono ?_
    rintro e w1 ⟨rfl, rfl⟩
    rw [hn]
    go_wp2_with fail
    refine HT.out.mono ?_
    rintro e w2 ⟨v, rfl, hown, hr, hk⟩
    obtain ⟨B, c2, rfl, _, hs2, _, _⟩ := Src.of_own hown
    go_wp2_with fail
    refine (number_any B _ c2 l _ hs2 hlen).mono ?_
    rintro e w3 ⟨rfl, rfl⟩
    go_wp2
    go_ret
    exact ⟨rfl, hr, hk⟩
  | false =>
    have HT := Lib.hid (refTake_any (-1) h hl)
    rw [takeSt_neg] at HT
    simp only [getSt, hn, Bool.false_eq_true, if_false]
    go_enter Try.func20, Try.ntmps20
    go_wp2_with fail
    refine (width_any _ _).mono ?_
    rintro e w1 ⟨rfl, rfl⟩
    rw [hn]
    go_wp2_with fail
    refine HT.out.mono ?_
    rintro e w2 ⟨v, rfl, hown, hr, hk⟩
    obtain ⟨B, c2, rfl, _, hs2, _, _⟩ := Src.of_own hown
    go_wp2_with fail
    refine (number_any B _ c2 [] _ hs2 (by simp)).mono ?_
    rintro e w3 ⟨rfl, rfl⟩
    go_wp2
    go_ret
    exact ⟨rfl, hr, hk⟩
end

end Go.Proofs.Ytloeckflcdnmaaa
