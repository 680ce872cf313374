/- An In of octet: its cells, and its small calls, each by a contract. -/
import Derived.Test.YtnpjldolppikfaaOct
namespace Go.Proofs.Ytnpjldolppikfaa
open Go.RowKit

section
variable {w w' : World} {A : Option Addr} {n c k : Nat} {l : List UInt8}
theorem Src.take (h : Src w A n l) (hk : k ≤ n) : Src w A k (l.take k) := by
  obtain ⟨rfl, h2⟩ := h
  refine ⟨by rw [List.length_take]; omega, fun h0 => ?_⟩
  obtain ⟨b, o, hA, hc⟩ := h2 (by omega)
  refine ⟨b, o, hA, fun i hi => ?_⟩
  rw [List.getElem_take]
  exact hc i (by rw [List.length_take] at hi; omega)
theorem Src.drop (h : Src w A n l) (hk : k ≤ n) (hc : n ≤ c) : Src w (if c = k then A else A.map (·.add k)) (n - k) (l.drop k) := by
  obtain ⟨rfl, h2⟩ := h
  refine ⟨by rw [List.length_drop], fun h0 => ?_⟩
  obtain ⟨b, o, hA, hcell⟩ := h2 (by omega)
  subst hA
  rw [if_neg (by omega)]
  have hadd : (⟨b, o, none⟩ : Addr).add k = ⟨b, o + k, none⟩ := by unfold Addr.add; split <;> simp_all
  refine ⟨b, o + k, by rw [Option.map_some, hadd], fun i hi => ?_⟩
  rw [List.getElem_drop, Nat.add_assoc]
  exact hcell (k + i) (by rw [List.length_drop] at hi; omega)
end

theorem block_add (a : Addr) (k : Nat) : (a.add k).block = a.block := by unfold Addr.add; split <;> rfl

/-- An In at block i: spoilt (none), or with the bytes l left (some l), which lie in blocks of S other than i. -/
structure InAt (w : World) (S : Nat → Prop) (i : Nat) (st : Option (List UInt8)) : Prop where
  lt : ∀ k, S k → k < w.heap.size
  own : S i
  shape : (st = none ∧ Whole w i 101 #[.slice none 0 0, .bool false]) ∨
    ∃ (l : List UInt8) (A : Option Addr) (c : Nat), st = some l ∧ Whole w i 101 #[.slice A l.length c, .bool true] ∧ Src w A l.length l ∧ l.length ≤ c ∧ (A = none → c = 0) ∧ ∀ ad, A = some ad → S ad.block ∧ ad.block ≠ i

section
variable {w w' : World} {S T : Nat → Prop} {i : Nat} {st : Option (List UInt8)}
theorem InAt.keep (h : InAt w S i st) (hk : Kept T w w') (hT : ∀ k, S k → ¬ T k) : InAt w' S i st := by
  refine ⟨fun k hs => Nat.lt_of_lt_of_le (h.lt k hs) hk.size, h.own, ?_⟩
  rcases h.shape with ⟨e, c⟩ | ⟨l, A, c, e, hw, hs, hc, hn, hA⟩
  · exact .inl ⟨e, c.kept hk (hT _ h.own)⟩
  · exact .inr ⟨l, A, c, e, hw.kept hk (hT _ h.own), hs.kept hk (fun ad e => hT _ (hA ad e).1), hc, hn, hA⟩
theorem InAt.drewN (h : InAt w S i st) (n : Nat) : InAt (w.drewN n) S i st := h.keep ((Kept.refl Empty w).drewN n) (fun _ _ h => h)

theorem inSpoilt_any (h : InAt w S i st) : Calls Try.prog 67 #[.pointer (some ⟨i, 0, none⟩)] w fun e w' => e = .returned (.bool st.isNone) ∧ w = w' := by
  rcases h.shape with ⟨rfl, c⟩ | ⟨l, A, c, rfl, hw, _⟩
  · have hc := c.cell 1
    simp at hc
    go_enter Try.func67, Try.ntmps67
    go_wp2
    go_ret
    exact ⟨rfl, rfl⟩
  · have hc := hw.cell 1
    simp at hc
    go_enter Try.func67, Try.ntmps67
    go_wp2
    go_ret
    exact ⟨rfl, rfl⟩

def isDone (st : Option (List UInt8)) : Bool := match st with | none => false | some l => l.isEmpty

theorem inDone_any (h : InAt w S i st) : Calls Try.prog 40 #[.pointer (some ⟨i, 0, none⟩)] w fun e w' => e = .returned (.bool (isDone st)) ∧ w = w' := by
  have hs := inSpoilt_any h
  rcases h.shape with ⟨rfl, c⟩ | ⟨l, A, c, rfl, hw, _⟩
  · have HS := Lib.hid hs
    clear hs
    go_enter Try.func40, Try.ntmps40
    go_wp2_with (go_at_call 67; refine HS.out.mono ?_; rintro e w' ⟨rfl, rfl⟩)
    go_ret
    exact ⟨rfl, rfl⟩
  · have HS := Lib.hid hs
    clear hs
    have hc := hw.cell 0
    simp at hc
    have HD := Lib.hid (show ((l.length : Int) == 0) = isDone (some l) by cases l with | nil => rfl | cons x l => simp [isDone]; omega)
    go_enter Try.func40, Try.ntmps40
    go_wp2_with (go_at_call 67; refine HS.out.mono ?_; rintro e w' ⟨rfl, rfl⟩)
    go_ret
    refine ⟨?_, rfl⟩
    rw [← HD.out]
    rfl

theorem inSpoil_any (h : InAt w S i st) : Calls Try.prog 65 #[.pointer (some ⟨i, 0, none⟩)] w fun e w' => e = .returned (.tuple #[]) ∧ InAt w' S i none ∧ Kept (fun k => k = i) w w' := by
  obtain ⟨u, b, hw⟩ : ∃ u b, Whole w i 101 #[u, .bool b] := by
    rcases h.shape with ⟨rfl, c⟩ | ⟨l, A, c, rfl, hw, _⟩
    · exact ⟨_, _, c⟩
    · exact ⟨_, _, hw⟩
  have c0 := hw.cell 0
  have c1 := hw.cell 1
  have f0 := hw.frozen 0
  have f1 := hw.frozen 1
  simp at c0 c1
  go_enter Try.func65, Try.ntmps65
  go_wp2
  go_end0
  refine ⟨rfl, ⟨fun k hs => by have := h.lt k hs; simpa [World.setCell] using this, h.own, .inl ⟨rfl, by simpa using (hw.set 0 (.slice none 0 0)).set 1 (.bool false)⟩⟩, ((Kept.refl (fun k => k = i) w).setCell (p := ⟨i, 0, none⟩) (.inl rfl) _).setCell (p := ⟨i, 1, none⟩) (.inl rfl) _⟩

/-- What Take, and next, make of an In: the In behind it, and the bytes. -/
def takeSt (st : Option (List UInt8)) (n : Int) : Option (List UInt8) × List UInt8 :=
  match st with
  | none => (none, [])
  | some l => if 0 ≤ n ∧ n ≤ l.length then (some (l.drop n.toNat), l.take n.toNat) else (none, [])

/-- What next answers: a slice into the In's bytes. -/
def Nexted (w : World) (S : Nat → Prop) (i : Nat) (r : Option (List UInt8) × List UInt8) (e : Ending) (w' : World) : Prop :=
  ∃ A c, e = .returned (.slice A r.2.length c) ∧ Src w' A r.2.length r.2 ∧ (A = none → c = 0) ∧ (∀ ad, A = some ad → S ad.block ∧ ad.block ≠ i) ∧ InAt w' S i r.1 ∧ Kept (fun k => k = i) w w'

theorem next_bad (n : Int) (h : InAt w S i none) : Calls Try.prog 66 #[.pointer (some ⟨i, 0, none⟩), .int .i64 n] w (Nexted w S i (none, [])) := by
  have HS := Lib.hid (inSpoilt_any h)
  go_enter Try.func66, Try.ntmps66
  go_wp2_with (go_at_call 67; refine HS.out.mono ?_; rintro e w' ⟨rfl, rfl⟩)
  go_ret
  exact ⟨none, 0, rfl, Src.nil _ _, fun _ => rfl, (fun _ h => by cases h), h, Kept.refl _ _⟩

theorem next_not (n : Int) (l : List UInt8) (h : InAt w S i (some l)) (hn : n < 0 ∨ (l.length : Int) < n) : Calls Try.prog 66 #[.pointer (some ⟨i, 0, none⟩), .int .i64 n] w (Nexted w S i (none, [])) := by
  have HS := Lib.hid (inSpoilt_any h)
  have HP := Lib.hid (inSpoil_any h)
  rcases h.shape with ⟨e, _⟩ | ⟨l', A, c, e, hw, _⟩
  · cases e
  cases e
  have c0 := hw.cell 0
  simp at c0
  rcases hn with hn | hn
  · go_enter Try.func66, Try.ntmps66
    go_wp2_with (first | (go_at_call 67; refine HS.out.mono ?_; rintro e w' ⟨rfl, rfl⟩) | (go_at_call 65; refine HP.out.mono ?_; rintro e w1 ⟨rfl, h1, k1⟩))
    go_ret
    exact ⟨none, 0, rfl, Src.nil _ _, fun _ => rfl, (fun _ h => by cases h), h1, k1⟩
  · have hn' : ¬ n < 0 := by omega
    go_enter Try.func66, Try.ntmps66
    go_wp2_with (first | (go_at_call 67; refine HS.out.mono ?_; rintro e w' ⟨rfl, rfl⟩) | (go_at_call 65; refine HP.out.mono ?_; rintro e w1 ⟨rfl, h1, k1⟩))
    go_ret
    exact ⟨none, 0, rfl, Src.nil _ _, fun _ => rfl, (fun _ h => by cases h), h1, k1⟩

theorem next_done {n c : Nat} {l : List UInt8} {A : Option Addr} (h : InAt w S i (some l)) (hn : n ≤ l.length) (hw : Whole w i 101 #[.slice A l.length c, .bool true]) (hs : Src w A l.length l) (hc : l.length ≤ c) (hz : A = none → c = 0) (hA : ∀ ad, A = some ad → S ad.block ∧ ad.block ≠ i) :
    Nexted w S i (some (l.drop n), l.take n) (.returned (.slice A n c)) (w.setCell ⟨i, 0, none⟩ (.slice (if c = n then A else A.map (·.add n)) (l.length - n) (c - n))) := by
  have e : (l.take n).length = n := by rw [List.length_take]; omega
  have hk : Kept (fun k => k = i) w (w.setCell ⟨i, 0, none⟩ (.slice (if c = n then A else A.map (·.add n)) (l.length - n) (c - n))) := (Kept.refl (fun k => k = i) w).setCell (p := ⟨i, 0, none⟩) (.inl rfl) _
  have hA2 : ∀ ad, (if c = n then A else A.map (·.add n)) = some ad → S ad.block ∧ ad.block ≠ i := fun ad e => by
    by_cases hcn : c = n
    · rw [if_pos hcn] at e
      exact hA ad e
    · rw [if_neg hcn] at e
      obtain ⟨b, hb, rfl⟩ := Option.map_eq_some_iff.1 e
      rw [block_add]
      exact hA b hb
  refine ⟨A, c, by rw [e], ?_, hz, hA, ⟨fun k hs => Nat.lt_of_lt_of_le (h.lt k hs) hk.size, h.own, .inr ⟨l.drop n, _, c - n, rfl, ?_, ?_, by rw [List.length_drop]; omega, fun e => ?_, hA2⟩⟩, hk⟩
  · rw [e]
    exact (hs.take hn).kept hk (fun ad e => (hA ad e).2)
  · rw [List.length_drop]
    simpa using hw.set 0 (.slice (if c = n then A else A.map (·.add n)) (l.length - n) (c - n))
  · rw [List.length_drop]
    exact (hs.drop hn hc).kept hk (fun ad e => (hA2 ad e).2)
  · by_cases hcn : c = n
    · omega
    · rw [if_neg hcn] at e
      have := hz (Option.map_eq_none_iff.1 e)
      omega

theorem next_yes (n : Nat) (l : List UInt8) (h : InAt w S i (some l)) (hn : n ≤ l.length) (hl : l.length ≤ 549755813888) : Calls Try.prog 66 #[.pointer (some ⟨i, 0, none⟩), .int .i64 (n : Int)] w (Nexted w S i (some (l.drop n), l.take n)) := by
  have HS := Lib.hid (inSpoilt_any h)
  rcases h.shape with ⟨e, _⟩ | ⟨l', A, c, e, hw, hs, hc, hz, hA⟩
  · cases e
  cases e
  have c0 := hw.cell 0
  have f0 := hw.frozen 0
  simp at c0
  by_cases hcn : c = n
  · subst hcn
    go_enter Try.func66, Try.ntmps66
    go_wp2_with (first | (go_at_call 67; refine HS.out.mono ?_; rintro e w' ⟨rfl, rfl⟩))
    go_ret
    have hd := next_done (n := c) h hn hw hs hc hz hA
    rw [if_pos rfl, Nat.sub_self, show l.length - c = 0 from by omega] at hd
    exact hd
  · go_enter Try.func66, Try.ntmps66
    go_wp2_with (first | (go_at_call 67; refine HS.out.mono ?_; rintro e w' ⟨rfl, rfl⟩))
    go_ret
    have hd := next_done (n := n) h hn hw hs hc hz hA
    rw [if_neg hcn] at hd
    exact hd

theorem next_any (n : Int) (h : InAt w S i st) (hl : (st.getD []).length ≤ 549755813888) : Calls Try.prog 66 #[.pointer (some ⟨i, 0, none⟩), .int .i64 n] w (Nexted w S i (takeSt st n)) := by
  cases st with
  | none => exact next_bad n h
  | some l =>
    by_cases hn : 0 ≤ n ∧ n ≤ l.length
    · obtain ⟨m, rfl⟩ := Int.eq_ofNat_of_zero_le hn.1
      have e : takeSt (some l) (m : Int) = (some (l.drop m), l.take m) := by simp only [takeSt]; rw [if_pos hn]; rfl
      rw [e]
      exact next_yes m l h (by omega) hl
    · have e : takeSt (some l) n = (none, []) := by simp only [takeSt]; rw [if_neg hn]
      rw [e]
      exact next_not n l h (by omega)

/-- What Take answers: bytes in new memory. -/
def Taken (w : World) (S : Nat → Prop) (i : Nat) (r : Option (List UInt8) × List UInt8) (e : Ending) (w' : World) : Prop :=
  ∃ v, e = .returned v ∧ w'.ownsRow w.heap.size 5 1 v r.2.length (bv r.2) ∧ InAt w' S i r.1 ∧ Kept (fun k => k = i) w w'

theorem takeSt_len (st : Option (List UInt8)) (n : Int) : (takeSt st n).2.length ≤ (st.getD []).length := by
  cases st with
  | none => simp [takeSt]
  | some l =>
    simp only [takeSt]
    split
    · simp only [Option.getD_some, List.length_take]; omega
    · simp

theorem from_any (A : Option Addr) (n c : Nat) (l : List UInt8) (hs : Src w A n l) (hz : A = none → c = 0) (hn : n ≤ 549755813888) :
    Calls Try.prog 36 #[.slice A n c] w fun e w' => ∃ i S, e = .returned (.pointer (some ⟨i, 0, none⟩)) ∧ InAt w' S i (some l) ∧ (∀ k, S k → w.heap.size ≤ k) ∧ Below w.heap.size w w' := by
  go_enter Try.func36, Try.ntmps36
  go_wp2_with fail
  refine (clone_any A n c l _ hs hz hn).mono ?_
  rintro e w1 ⟨v, rfl, hown, hb⟩
  obtain rfl : l.length = n := hs.1
  obtain ⟨B, c2, rfl, hc2, hs2, hB, hn2⟩ := Src.of_own hown
  go_wp2
  go_ret
  refine ⟨w1.heap.size, fun k => w.heap.size ≤ k ∧ k < (w1.alloc (.cells #[.slice B l.length c2, .bool true] 101)).heap.size, rfl, ⟨fun k h => h.2, ⟨hb.size, by simp⟩, .inr ⟨l, B, c2, rfl, Whole.new _ _ _, hs2.kept ((Kept.refl Empty _).alloc _) (fun _ _ h => h), hc2, fun e => (hn2 e).2, fun ad e => ?_⟩⟩, fun k h => h.1, hb.alloc hb.size _⟩
  have h1 := hB ad e
  have h2 := (hown.lt _ h1.1)
  exact ⟨⟨h1.2, by simp; omega⟩, by omega⟩
end

end Go.Proofs.Ytnpjldolppikfaa
