/- The bytes of a number, the highest first: plain facts. | An In of octet: its cells, and its small calls, each by a contract. | Get of an In, by a contract. | A number's bytes, read as a number, are that number. | The document's own Twin, Width, Number, and its In: each by a contract. -/
import Derived.Laws.BitsAllLaws
import Derived.Test.YtljcaigaofalbaaQB
namespace Go.Proofs.Ytljcaigaofalbaa

theorem beBytes_zero (x : Nat) : beBytes 0 x = [] := rfl
theorem beBytes_succ (k x : Nat) : beBytes (k + 1) x = UInt8.ofNat (x / 2 ^ (8 * k)) :: beBytes k x := by
  unfold beBytes
  rw [List.range_succ_eq_map, List.map_cons, List.map_map]
  congr 1
  apply List.map_congr_left
  intro i hi
  have : i < k := List.mem_range.1 hi
  show UInt8.ofNat (x / 2 ^ (8 * (k + 1 - 1 - (i + 1)))) = _
  rw [show k + 1 - 1 - (i + 1) = k - 1 - i from by omega]

theorem ofNat_mod (q : Nat) : UInt8.ofNat (q % 256) = UInt8.ofNat q := by
  apply UInt8.toNat_inj.1
  simp

theorem beBytes_mod (k x : Nat) : ∀ m, k ≤ m → beBytes k (x % 2 ^ (8 * m)) = beBytes k x := by
  induction k with
  | zero => intro m _; rfl
  | succ k ih =>
    intro m hm
    rw [beBytes_succ, beBytes_succ, ih m (by omega)]
    congr 1
    rw [← ofNat_mod (x / 2 ^ (8 * k)), ← ofNat_mod (x % 2 ^ (8 * m) / 2 ^ (8 * k))]
    congr 1
    have e : 2 ^ (8 * m) = 2 ^ (8 * k) * 2 ^ (8 * (m - k)) := by rw [← Nat.pow_add]; congr 1; omega
    rw [e, Nat.mod_mul_right_div_self]
    rw [show (256 : Nat) = 2 ^ 8 from rfl]
    exact Nat.mod_mod_of_dvd _ (Nat.pow_dvd_pow 2 (by omega))

theorem beBytes_append (m n x : Nat) : beBytes (m + n) x = beBytes m (x / 2 ^ (8 * n)) ++ beBytes n x := by
  induction m with
  | zero => simp [beBytes_zero]
  | succ m ih =>
    rw [show m + 1 + n = (m + n) + 1 from by omega, beBytes_succ, beBytes_succ, ih, List.cons_append]
    congr 2
    rw [Nat.div_div_eq_div_mul, ← Nat.pow_add]
    congr 2
    omega

theorem div_lt_256 {k x : Nat} (h : x < 2 ^ (8 * (k + 1))) : x / 2 ^ (8 * k) < 256 := by
  rw [Nat.div_lt_iff_lt_mul (Nat.two_pow_pos _)]
  rw [show 256 * 2 ^ (8 * k) = 2 ^ (8 * (k + 1)) from by rw [show (256 : Nat) = 2 ^ 8 from rfl, ← Nat.pow_add]; congr 1; omega]
  exact h

theorem beBytes_order (k : Nat) : ∀ x y, x < 2 ^ (8 * k) → y < 2 ^ (8 * k) → Op.bytesLess (beBytes k x) (beBytes k y) = decide (x < y) ∧ ((beBytes k x == beBytes k y) = decide (x = y)) := by
  induction k with
  | zero =>
    intro x y hx hy
    simp at hx hy
    subst hx hy
    simp [beBytes_zero, Op.bytesLess]
  | succ k ih =>
    intro x y hx hy
    have hp : 0 < 2 ^ (8 * k) := Nat.two_pow_pos _
    obtain ⟨i1, i2⟩ := ih (x % 2 ^ (8 * k)) (y % 2 ^ (8 * k)) (Nat.mod_lt _ hp) (Nat.mod_lt _ hp)
    rw [beBytes_mod k x k (Nat.le_refl _), beBytes_mod k y k (Nat.le_refl _)] at i1 i2
    have qx := div_lt_256 hx
    have qy := div_lt_256 hy
    have dx := Nat.div_add_mod x (2 ^ (8 * k))
    have dy := Nat.div_add_mod y (2 ^ (8 * k))
    have rx := Nat.mod_lt x hp
    have ry := Nat.mod_lt y hp
    rw [beBytes_succ, beBytes_succ]
    generalize x / 2 ^ (8 * k) = q at *
    generalize y / 2 ^ (8 * k) = q' at *
    generalize x % 2 ^ (8 * k) = r at *
    generalize y % 2 ^ (8 * k) = r' at *
    generalize 2 ^ (8 * k) = M at *
    have hlt : (UInt8.ofNat q < UInt8.ofNat q') = (q < q') := by
      rw [UInt8.lt_iff_toNat_lt, UInt8.toNat_ofNat', UInt8.toNat_ofNat', Nat.mod_eq_of_lt qx, Nat.mod_eq_of_lt qy]
    have heq : (UInt8.ofNat q == UInt8.ofNat q') = decide (q = q') := by
      rw [Bool.eq_iff_iff, beq_iff_eq, decide_eq_true_eq, ← UInt8.toNat_inj, UInt8.toNat_ofNat', UInt8.toNat_ofNat', Nat.mod_eq_of_lt qx, Nat.mod_eq_of_lt qy]
    constructor
    · simp only [Op.bytesLess, i1, hlt, heq]
      rw [Bool.eq_iff_iff]
      simp only [Bool.or_eq_true, Bool.and_eq_true, decide_eq_true_eq]
      rcases Nat.lt_trichotomy q q' with h | h | h
      · have : M * q + M ≤ M * q' := by rw [← Nat.mul_succ]; exact Nat.mul_le_mul_left M h
        constructor
        · intro _; omega
        · intro _; exact .inl h
      · subst h
        constructor
        · rintro (h | ⟨_, h⟩) <;> omega
        · intro h; exact .inr ⟨rfl, by omega⟩
      · have : M * q' + M ≤ M * q := by rw [← Nat.mul_succ]; exact Nat.mul_le_mul_left M h
        constructor
        · rintro (h | ⟨h, _⟩) <;> omega
        · intro h; omega
    · rw [Bool.eq_iff_iff, beq_iff_eq, List.cons_eq_cons, decide_eq_true_eq, ← beq_iff_eq (a := UInt8.ofNat q), heq, decide_eq_true_eq, ← beq_iff_eq (a := beBytes k x), i2, decide_eq_true_eq]
      constructor
      · rintro ⟨rfl, rfl⟩; omega
      · intro h
        rcases Nat.lt_trichotomy q q' with h' | h' | h'
        · have : M * q + M ≤ M * q' := by rw [← Nat.mul_succ]; exact Nat.mul_le_mul_left M h'
          omega
        · subst h'
          exact ⟨rfl, by omega⟩
        · have : M * q' + M ≤ M * q := by rw [← Nat.mul_succ]; exact Nat.mul_le_mul_left M h'
          omega

end Go.Proofs.Ytljcaigaofalbaa

namespace Go.Proofs.Ytljcaigaofalbaa
open Go.RowKit

section
variable {w w' : World} {A : Option Addr} {n c k : Nat} {l : List UInt8}
theorem Src.take (h : Src w A n l) (hk : k ≤ n) : Src w A k (l.take k) := by
  obtain ⟨rfl, h2⟩ := h
  refine ⟨by rw [List.length_take]; omega, fun h0 => ?_⟩
  obtain ⟨b, o, hA, hc⟩ := h2 (by omega)
  refine ⟨b, o, hA, fun i hi => ?_⟩
  rw [List.getElem_take]
  exact hc i (by rw [List.length_take] at hi; omega)
theorem Src.drop (h : Src w A n l) (hk : k ≤ n) (hc : n ≤ c) : Src w (if c = k then A else A.map (·.add k)) (n - k) (l.drop k) := by
  obtain ⟨rfl, h2⟩ := h
  refine ⟨by rw [List.length_drop], fun h0 => ?_⟩
  obtain ⟨b, o, hA, hcell⟩ := h2 (by omega)
  subst hA
  rw [if_neg (by omega)]
  have hadd : (⟨b, o, none⟩ : Addr).add k = ⟨b, o + k, none⟩ := by unfold Addr.add; split <;> simp_all
  refine ⟨b, o + k, by rw [Option.map_some, hadd], fun i hi => ?_⟩
  rw [List.getElem_drop, Nat.add_assoc]
  exact hcell (k + i) (by rw [List.length_drop] at hi; omega)
end

theorem block_add (a : Addr) (k : Nat) : (a.add k).block = a.block := by unfold Addr.add; split <;> rfl

/-- An In at block i: spoilt (none), or with the bytes l left (some l), which lie in blocks of S other than i. -/
structure InAt (w : World) (S : Nat → Prop) (i : Nat) (st : Option (List UInt8)) : Prop where
  lt : ∀ k, S k → k < w.heap.size
  own : S i
  shape : (st = none ∧ Whole w i 136 #[.slice none 0 0, .bool false]) ∨
    ∃ (l : List UInt8) (A : Option Addr) (c : Nat), st = some l ∧ Whole w i 136 #[.slice A l.length c, .bool true] ∧ Src w A l.length l ∧ l.length ≤ c ∧ (A = none → c = 0) ∧ ∀ ad, A = some ad → S ad.block ∧ ad.block ≠ i

section
variable {w w' : World} {S T : Nat → Prop} {i : Nat} {st : Option (List UInt8)}
theorem InAt.keep (h : InAt w S i st) (hk : Kept T w w') (hT : ∀ k, S k → ¬ T k) : InAt w' S i st := by
  refine ⟨fun k hs => Nat.lt_of_lt_of_le (h.lt k hs) hk.size, h.own, ?_⟩
  rcases h.shape with ⟨e, c⟩ | ⟨l, A, c, e, hw, hs, hc, hn, hA⟩
  · exact .inl ⟨e, c.kept hk (hT _ h.own)⟩
  · exact .inr ⟨l, A, c, e, hw.kept hk (hT _ h.own), hs.kept hk (fun ad e => hT _ (hA ad e).1), hc, hn, hA⟩
theorem InAt.drewN (h : InAt w S i st) (n : Nat) : InAt (w.drewN n) S i st := h.keep ((Kept.refl Empty w).drewN n) (fun _ _ h => h)

theorem inSpoilt_any (h : InAt w S i st) : Calls Try.prog 112 #[.pointer (some ⟨i, 0, none⟩)] w fun e w' => e = .returned (.bool st.isNone) ∧ w = w' := by
  rcases h.shape with ⟨rfl, c⟩ | ⟨l, A, c, rfl, hw, _⟩
  · have hc := c.cell 1
    simp at hc
    go_enter Try.func112, Try.ntmps112
    go_wp2
    go_ret
    exact ⟨rfl, rfl⟩
  · have hc := hw.cell 1
    simp at hc
    go_enter Try.func112, Try.ntmps112
    go_wp2
    go_ret
    exact ⟨rfl, rfl⟩

theorem inLeft_any (h : InAt w S i st) : Calls Try.prog 90 #[.pointer (some ⟨i, 0, none⟩)] w fun e w' => e = .returned (.int .i64 ((st.getD []).length : Int)) ∧ w = w' := by
  have hs := inSpoilt_any h
  rcases h.shape with ⟨rfl, c⟩ | ⟨l, A, c, rfl, hw, _⟩
  · have HS := Lib.hid hs
    clear hs
    go_enter Try.func90, Try.ntmps90
    go_wp2_with (go_at_call 112; refine HS.out.mono ?_; rintro e w' ⟨rfl, rfl⟩)
    go_ret
    exact ⟨rfl, rfl⟩
  · have HS := Lib.hid hs
    clear hs
    have hc := hw.cell 0
    simp at hc
    go_enter Try.func90, Try.ntmps90
    go_wp2_with (go_at_call 112; refine HS.out.mono ?_; rintro e w' ⟨rfl, rfl⟩)
    go_ret
    exact ⟨rfl, rfl⟩

def isDone (st : Option (List UInt8)) : Bool := match st with | none => false | some l => l.isEmpty

theorem inSpoil_any (h : InAt w S i st) : Calls Try.prog 137 #[.pointer (some ⟨i, 0, none⟩)] w fun e w' => e = .returned (.tuple #[]) ∧ InAt w' S i none ∧ Kept (fun k => k = i) w w' := by
  obtain ⟨u, b, hw⟩ : ∃ u b, Whole w i 136 #[u, .bool b] := by
    rcases h.shape with ⟨rfl, c⟩ | ⟨l, A, c, rfl, hw, _⟩
    · exact ⟨_, _, c⟩
    · exact ⟨_, _, hw⟩
  have c0 := hw.cell 0
  have c1 := hw.cell 1
  have f0 := hw.frozen 0
  have f1 := hw.frozen 1
  simp at c0 c1
  go_enter Try.func137, Try.ntmps137
  go_wp2
  go_end0
  refine ⟨rfl, ⟨fun k hs => by have := h.lt k hs; simpa [World.setCell] using this, h.own, .inl ⟨rfl, by simpa using (hw.set 0 (.slice none 0 0)).set 1 (.bool false)⟩⟩, ((Kept.refl (fun k => k = i) w).setCell (p := ⟨i, 0, none⟩) (.inl rfl) _).setCell (p := ⟨i, 1, none⟩) (.inl rfl) _⟩

/-- What Take, and next, make of an In: the In behind it, and the bytes. -/
def takeSt (st : Option (List UInt8)) (n : Int) : Option (List UInt8) × List UInt8 :=
  match st with
  | none => (none, [])
  | some l => if 0 ≤ n ∧ n ≤ l.length then (some (l.drop n.toNat), l.take n.toNat) else (none, [])

/-- What next answers: a slice into the In's bytes. -/
def Nexted (w : World) (S : Nat → Prop) (i : Nat) (r : Option (List UInt8) × List UInt8) (e : Ending) (w' : World) : Prop :=
  ∃ A c, e = .returned (.slice A r.2.length c) ∧ Src w' A r.2.length r.2 ∧ (A = none → c = 0) ∧ (∀ ad, A = some ad → S ad.block ∧ ad.block ≠ i) ∧ InAt w' S i r.1 ∧ Kept (fun k => k = i) w w'

theorem next_bad (n : Int) (h : InAt w S i none) : Calls Try.prog 136 #[.pointer (some ⟨i, 0, none⟩), .int .i64 n] w (Nexted w S i (none, [])) := by
  have HS := Lib.hid (inSpoilt_any h)
  go_enter Try.func136, Try.ntmps136
  go_wp2_with (go_at_call 112; refine HS.out.mono ?_; rintro e w' ⟨rfl, rfl⟩)
  go_ret
  exact ⟨none, 0, rfl, Src.nil _ _, fun _ => rfl, (fun _ h => by cases h), h, Kept.refl _ _⟩

theorem next_not (n : Int) (l : List UInt8) (h : InAt w S i (some l)) (hn : n < 0 ∨ (l.length : Int) < n) : Calls Try.prog 136 #[.pointer (some ⟨i, 0, none⟩), .int .i64 n] w (Nexted w S i (none, [])) := by
  have HS := Lib.hid (inSpoilt_any h)
  have HP := Lib.hid (inSpoil_any h)
  rcases h.shape with ⟨e, _⟩ | ⟨l', A, c, e, hw, _⟩
  · cases e
  cases e
  have c0 := hw.cell 0
  simp at c0
  rcases hn with hn | hn
  · go_enter Try.func136, Try.ntmps136
    go_wp2_with (first | (go_at_call 112; refine HS.out.mono ?_; rintro e w' ⟨rfl, rfl⟩) | (go_at_call 137; refine HP.out.mono ?_; rintro e w1 ⟨rfl, h1, k1⟩))
    go_ret
    exact ⟨none, 0, rfl, Src.nil _ _, fun _ => rfl, (fun _ h => by cases h), h1, k1⟩
  · have hn' : ¬ n < 0 := by omega
    go_enter Try.func136, Try.ntmps136
    go_wp2_with (first | (go_at_call 112; refine HS.out.mono ?_; rintro e w' ⟨rfl, rfl⟩) | (go_at_call 137; refine HP.out.mono ?_; rintro e w1 ⟨rfl, h1, k1⟩))
    go_ret
    exact ⟨none, 0, rfl, Src.nil _ _, fun _ => rfl, (fun _ h => by cases h), h1, k1⟩

theorem next_done {n c : Nat} {l : List UInt8} {A : Option Addr} (h : InAt w S i (some l)) (hn : n ≤ l.length) (hw : Whole w i 136 #[.slice A l.length c, .bool true]) (hs : Src w A l.length l) (hc : l.length ≤ c) (hz : A = none → c = 0) (hA : ∀ ad, A = some ad → S ad.block ∧ ad.block ≠ i) :
    Nexted w S i (some (l.drop n), l.take n) (.returned (.slice A n c)) (w.setCell ⟨i, 0, none⟩ (.slice (if c = n then A else A.map (·.add n)) (l.length - n) (c - n))) := by
  have e : (l.take n).length = n := by rw [List.length_take]; omega
  have hk : Kept (fun k => k = i) w (w.setCell ⟨i, 0, none⟩ (.slice (if c = n then A else A.map (·.add n)) (l.length - n) (c - n))) := (Kept.refl (fun k => k = i) w).setCell (p := ⟨i, 0, none⟩) (.inl rfl) _
  have hA2 : ∀ ad, (if c = n then A else A.map (·.add n)) = some ad → S ad.block ∧ ad.block ≠ i := fun ad e => by
    by_cases hcn : c = n
    · rw [if_pos hcn] at e
      exact hA ad e
    · rw [if_neg hcn] at e
      obtain ⟨b, hb, rfl⟩ := Option.map_eq_some_iff.1 e
      rw [block_add]
      exact hA b hb
  refine ⟨A, c, by rw [e], ?_, hz, hA, ⟨fun k hs => Nat.lt_of_lt_of_le (h.lt k hs) hk.size, h.own, .inr ⟨l.drop n, _, c - n, rfl, ?_, ?_, by rw [List.length_drop]; omega, fun e => ?_, hA2⟩⟩, hk⟩
  · rw [e]
    exact (hs.take hn).kept hk (fun ad e => (hA ad e).2)
  · rw [List.length_drop]
    simpa using hw.set 0 (.slice (if c = n then A else A.map (·.add n)) (l.length - n) (c - n))
  · rw [List.length_drop]
    exact (hs.drop hn hc).kept hk (fun ad e => (hA2 ad e).2)
  · by_cases hcn : c = n
    · omega
    · rw [if_neg hcn] at e
      have := hz (Option.map_eq_none_iff.1 e)
      omega

theorem next_yes (n : Nat) (l : List UInt8) (h : InAt w S i (some l)) (hn : n ≤ l.length) (hl : l.length ≤ 549755813888) : Calls Try.prog 136 #[.pointer (some ⟨i, 0, none⟩), .int .i64 (n : Int)] w (Nexted w S i (some (l.drop n), l.take n)) := by
  have HS := Lib.hid (inSpoilt_any h)
  rcases h.shape with ⟨e, _⟩ | ⟨l', A, c, e, hw, hs, hc, hz, hA⟩
  · cases e
  cases e
  have c0 := hw.cell 0
  have f0 := hw.frozen 0
  simp at c0
  by_cases hcn : c = n
  · subst hcn
    go_enter Try.func136, Try.ntmps136
    go_wp2_with (first | (go_at_call 112; refine HS.out.mono ?_; rintro e w' ⟨rfl, rfl⟩))
    go_ret
    have hd := next_done (n := c) h hn hw hs hc hz hA
    rw [if_pos rfl, Nat.sub_self, show l.length - c = 0 from by omega] at hd
    exact hd
  · go_enter Try.func136, Try.ntmps136
    go_wp2_with (first | (go_at_call 112; refine HS.out.mono ?_; rintro e w' ⟨rfl, rfl⟩))
    go_ret
    have hd := next_done (n := n) h hn hw hs hc hz hA
    rw [if_neg hcn] at hd
    exact hd

theorem next_any (n : Int) (h : InAt w S i st) (hl : (st.getD []).length ≤ 549755813888) : Calls Try.prog 136 #[.pointer (some ⟨i, 0, none⟩), .int .i64 n] w (Nexted w S i (takeSt st n)) := by
  cases st with
  | none => exact next_bad n h
  | some l =>
    by_cases hn : 0 ≤ n ∧ n ≤ l.length
    · obtain ⟨m, rfl⟩ := Int.eq_ofNat_of_zero_le hn.1
      have e : takeSt (some l) (m : Int) = (some (l.drop m), l.take m) := by simp only [takeSt]; rw [if_pos hn]; rfl
      rw [e]
      exact next_yes m l h (by omega) hl
    · have e : takeSt (some l) n = (none, []) := by simp only [takeSt]; rw [if_neg hn]
      rw [e]
      exact next_not n l h (by omega)

/-- What Take answers: bytes in new memory. -/
def Taken (w : World) (S : Nat → Prop) (i : Nat) (r : Option (List UInt8) × List UInt8) (e : Ending) (w' : World) : Prop :=
  ∃ v, e = .returned v ∧ w'.ownsRow w.heap.size 5 1 v r.2.length (bv r.2) ∧ InAt w' S i r.1 ∧ Kept (fun k => k = i) w w'

theorem takeSt_len (st : Option (List UInt8)) (n : Int) : (takeSt st n).2.length ≤ (st.getD []).length := by
  cases st with
  | none => simp [takeSt]
  | some l =>
    simp only [takeSt]
    split
    · simp only [Option.getD_some, List.length_take]; omega
    · simp

theorem inTake_any (n : Int) (h : InAt w S i st) (hl : (st.getD []).length ≤ 549755813888) : Calls Try.prog 110 #[.pointer (some ⟨i, 0, none⟩), .int .i64 n] w (Taken w S i (takeSt st n)) := by
  have HN := Lib.hid (next_any n h hl)
  have hr := takeSt_len st n
  generalize takeSt st n = r at *
  go_enter Try.func110, Try.ntmps110
  go_wp2_with fail
  refine HN.out.mono ?_
  rintro e w1 ⟨A, c, rfl, hs, hz, hA, hin, hk⟩
  go_wp2_with fail
  refine (clone_any A _ c _ _ hs hz (by omega)).mono ?_
  rintro e w2 ⟨v, rfl, hown, hb⟩
  go_wp2
  go_ret
  exact ⟨v, rfl, ownsRow_base hown hk.size, hin.keep (Kept.of_below hb Empty) (fun _ _ h => h), hk.trans (Kept.of_below hb Empty) (fun _ _ h => h.elim)⟩

theorem from_any (A : Option Addr) (n c : Nat) (l : List UInt8) (hs : Src w A n l) (hz : A = none → c = 0) (hn : n ≤ 549755813888) :
    Calls Try.prog 53 #[.slice A n c] w fun e w' => ∃ i S, e = .returned (.pointer (some ⟨i, 0, none⟩)) ∧ InAt w' S i (some l) ∧ (∀ k, S k → w.heap.size ≤ k) ∧ Below w.heap.size w w' := by
  go_enter Try.func53, Try.ntmps53
  go_wp2_with fail
  refine (clone_any A n c l _ hs hz hn).mono ?_
  rintro e w1 ⟨v, rfl, hown, hb⟩
  obtain rfl : l.length = n := hs.1
  obtain ⟨B, c2, rfl, hc2, hs2, hB, hn2⟩ := Src.of_own hown
  go_wp2
  go_ret
  refine ⟨w1.heap.size, fun k => w.heap.size ≤ k ∧ k < (w1.alloc (.cells #[.slice B l.length c2, .bool true] 136)).heap.size, rfl, ⟨fun k h => h.2, ⟨hb.size, by simp⟩, .inr ⟨l, B, c2, rfl, Whole.new _ _ _, hs2.kept ((Kept.refl Empty _).alloc _) (fun _ _ h => h), hc2, fun e => (hn2 e).2, fun ad e => ?_⟩⟩, fun k h => h.1, hb.alloc hb.size _⟩
  have h1 := hB ad e
  have h2 := (hown.lt _ h1.1)
  exact ⟨⟨h1.2, by simp; omega⟩, by omega⟩
end

end Go.Proofs.Ytljcaigaofalbaa

namespace Go.Proofs.Ytljcaigaofalbaa
open Go.RowKit

/-- Bytes, the highest first, as a number. -/
def beVal (l : List UInt8) : Nat := l.foldl (fun a b => 256 * a + b.toNat) 0
theorem beVal_snoc (l : List UInt8) (b : UInt8) : beVal (l ++ [b]) = 256 * beVal l + b.toNat := by simp [beVal]
theorem beVal_lt (l : List UInt8) : beVal l < 2 ^ (8 * l.length) := by
  rw [← List.reverse_reverse l]
  generalize l.reverse = m
  induction m with
  | nil => simp [beVal]
  | cons b m ih =>
    rw [List.reverse_cons, beVal_snoc, List.length_append, List.length_singleton, Nat.mul_add, Nat.pow_add]
    have := b.toNat_lt
    omega

theorem or_step (v : Nat) (x : UInt8) (hv : v < 72057594037927936) : bits .or .u64 (IntKind.u64.wrap ((v : Int) * 256)) (x.toNat : Int) = ((256 * v + x.toNat : Nat) : Int) := by
  have hx := x.toNat_lt
  have e1 : IntKind.u64.wrap ((v : Int) * 256) = ((v * 256 : Nat) : Int) := by rw [IntKind.wrap_u64]; omega
  rw [e1, u64_or_nat _ _ (by omega) (by omega)]
  have h := Nat.shiftLeft_add_eq_or_of_lt (i := 8) (b := x.toNat) hx v
  rw [Nat.shiftLeft_eq, show (2 : Nat) ^ 8 = 256 from rfl] at h
  rw [← h, Nat.mul_comm]

/-- What Get makes of an In: the In behind it, and the number. -/
def getSt (st : Option (List UInt8)) (n : Int) : Option (List UInt8) × Nat := if isW n then ((takeSt st n).1, beVal (takeSt st n).2) else (none, 0)

def Got (w : World) (S : Nat → Prop) (i : Nat) (r : Option (List UInt8) × Nat) (e : Ending) (w' : World) : Prop :=
  e = .returned (.int .u64 (r.2 : Int)) ∧ InAt w' S i r.1 ∧ Kept (fun k => k = i) w w'

set_option maxHeartbeats 1000000 in
theorem get_yes (w : World) (S : Nat → Prop) (i : Nat) (st : Option (List UInt8)) (n : Int) (h : InAt w S i st) (hl : (st.getD []).length ≤ 549755813888) (hn : isW n = true) :
    Calls Try.prog 111 #[.pointer (some ⟨i, 0, none⟩), .int .i64 n] w (Got w S i ((takeSt st n).1, beVal (takeSt st n).2)) := by
  have HN := Lib.hid (next_any n h hl)
  have hlen : (takeSt st n).2.length ≤ 8 := by
    cases st with
    | none => simp [takeSt]
    | some l =>
      simp only [takeSt]
      split
      · simp [isW] at hn; simp; omega
      · simp
  generalize takeSt st n = r at *
  obtain ⟨st', l⟩ := r
  simp only at hlen
  go_enter Try.func111, Try.ntmps111
  go_wp2_with (first | (go_at_call 106; refine (isWidth_any _ _).mono ?_; rintro e w' ⟨rfl, rfl⟩) | (go_at_call 136; refine HN.out.mono ?_; rintro e w1 ⟨A, c, rfl, hs, hz, hA, hin, hk⟩))

  go_loop [5, 7, 17] (fun t _ k => ∃ j : Nat, j ≤ l.length ∧ k = .int .i64 (j : Int) ∧ t = .int .u64 (beVal (l.take j) : Int)) (fun _ _ k => l.length - (intOf k).toNat)
  case atStart => exact ⟨0, Nat.zero_le _, rfl, rfl⟩
  case round =>
    obtain ⟨j, hj, rfl, rfl⟩ := hrel
    by_cases hlt : j < l.length
    · obtain ⟨b, o, rfl, hc⟩ := hs.2 (by omega)
      have hcj := hc j hlt
      have hv := beVal_lt (l.take j)
      have hb := l[j].toNat_lt
      have hstep : beVal (l.take (j + 1)) = 256 * beVal (l.take j) + l[j].toNat := by rw [List.take_succ_eq_append_getElem hlt, beVal_snoc]
      have hv' : beVal (l.take j) < 72057594037927936 := by
        refine Nat.lt_of_lt_of_le hv ?_
        rw [show (72057594037927936 : Nat) = 2 ^ 56 from rfl]
        exact Nat.pow_le_pow_right (by decide) (by rw [List.length_take]; omega)
      have HO := Lib.hid (or_step (beVal (l.take j)) l[j] hv')
      have HS := Lib.hid hstep
      clear hstep hv hv'
      go_wp2
      refine ⟨⟨j + 1, by omega, by go_num, ?_⟩, by simp [intOf]; omega⟩
      rw [HS.out, HO.out]
    · go_wp2
      go_ret
      have e : l.take j = l := List.take_of_length_le (by omega)
      rw [e]
      exact ⟨rfl, hin, hk⟩

theorem get_no (w : World) (S : Nat → Prop) (i : Nat) (st : Option (List UInt8)) (n : Int) (h : InAt w S i st) (hn : isW n = false) :
    Calls Try.prog 111 #[.pointer (some ⟨i, 0, none⟩), .int .i64 n] w (Got w S i (none, 0)) := by
  have HP := Lib.hid (inSpoil_any h)
  go_enter Try.func111, Try.ntmps111
  go_wp2_with (first
    | (go_at_call 106; refine (isWidth_any _ _).mono ?_; rintro e w' ⟨rfl, rfl⟩)
    | (go_at_call 137; refine HP.out.mono ?_; rintro e w1 ⟨rfl, h1, k1⟩)
    | (go_at_call 136; refine (next_bad n h1).mono ?_; rintro e w2 ⟨A, c, rfl, hs, hz, hA, hin, hk⟩))
  go_loop [5, 7, 17] (fun t _ k => t = .int .u64 0 ∧ k = .int .i64 0) (fun _ _ k => 1 - (intOf k).toNat)
  case atStart => exact ⟨rfl, rfl⟩
  case round =>
    obtain ⟨rfl, rfl⟩ := hrel
    go_wp2
    go_ret
    exact ⟨rfl, hin, k1.trans hk (fun _ _ h => h)⟩

theorem get_any (w : World) (S : Nat → Prop) (i : Nat) (st : Option (List UInt8)) (n : Int) (h : InAt w S i st) (hl : (st.getD []).length ≤ 549755813888) :
    Calls Try.prog 111 #[.pointer (some ⟨i, 0, none⟩), .int .i64 n] w (Got w S i (getSt st n)) := by
  cases hn : isW n with
  | true => simp only [getSt, hn, if_true]; exact get_yes w S i st n h hl hn
  | false => simp only [getSt, hn]; exact get_no w S i st n h hn

theorem takeSt_take (l : List UInt8) (k : Nat) (h : k ≤ l.length) : takeSt (some l) (k : Int) = (some (l.drop k), l.take k) := by
  simp only [takeSt]
  rw [if_pos ⟨by omega, by omega⟩]
  rfl
theorem takeSt_short (l : List UInt8) (k : Int) (h : (l.length : Int) < k) : takeSt (some l) k = (none, []) := by
  simp only [takeSt]
  rw [if_neg (by omega)]
theorem getSt_take (l : List UInt8) (k : Nat) (hk : isW k = true) (h : k ≤ l.length) : getSt (some l) (k : Int) = (some (l.drop k), beVal (l.take k)) := by
  unfold getSt
  rw [if_pos hk, takeSt_take l k h]
theorem getSt_short (l : List UInt8) (k : Int) (h : (l.length : Int) < k) : getSt (some l) k = (none, 0) := by
  unfold getSt
  rw [takeSt_short l k h]
  split <;> rfl
theorem getSt_none (k : Int) : getSt none k = (none, 0) := by
  unfold getSt
  split <;> rfl

end Go.Proofs.Ytljcaigaofalbaa

namespace Go.Proofs.Ytljcaigaofalbaa
open Go.RowKit

theorem beVal_append_one (l : List UInt8) (x : UInt8) : beVal (x :: l) = x.toNat * 256 ^ l.length + beVal l := by
  rw [← List.reverse_reverse l]
  generalize l.reverse = m
  induction m with
  | nil => simp [beVal]
  | cons b m ih =>
    rw [List.reverse_cons, ← List.cons_append, beVal_snoc, beVal_snoc, ih, List.length_append, List.length_singleton, Nat.pow_succ]
    rw [Nat.mul_add]
    have : 256 * (x.toNat * 256 ^ m.reverse.length) = x.toNat * (256 ^ m.reverse.length * 256) := by rw [Nat.mul_comm 256, Nat.mul_assoc]
    omega

theorem beVal_beBytes (k : Nat) : ∀ x, x < 2 ^ (8 * k) → beVal (beBytes k x) = x := by
  induction k with
  | zero => intro x hx; simp at hx; subst hx; rfl
  | succ k ih =>
    intro x hx
    have hp : 0 < 2 ^ (8 * k) := Nat.two_pow_pos _
    have hi := ih (x % 2 ^ (8 * k)) (Nat.mod_lt _ hp)
    rw [beBytes_mod k x k (Nat.le_refl _)] at hi
    rw [beBytes_succ, beVal_append_one, hi, beBytes_length, UInt8.toNat_ofNat', Nat.mod_eq_of_lt (div_lt_256 hx)]
    rw [show (256 : Nat) ^ k = 2 ^ (8 * k) from by rw [Nat.pow_mul]]
    rw [Nat.mul_comm]
    exact Nat.div_add_mod x _

end Go.Proofs.Ytljcaigaofalbaa

namespace Go.Proofs.Ytljcaigaofalbaa
open Go.RowKit

theorem twin_any (A : Option Addr) (m c : Nat) (l : List UInt8) (w : World) (h : Src w A m l) (hm : m ≤ 549755813888) :
    Calls Try.prog 12 #[.slice A m c] w fun e w' => ∃ v, e = .returned v ∧ w'.ownsRow w.heap.size 5 1 v m (bv l) ∧ Below w.heap.size w w' := by
  obtain ⟨i0, hi, hz0, hz1, hz2⟩ := info_parts u8_info
  go_enter Try.func12, Try.ntmps12
  go_wp2_with (at_builtin; refine wpList_append_src _ rfl (.tmp 4) (.tmp 5) _ rfl w.heap.size 5 i0 Try.underlying30 hi hz0 hz1 hz2 (.slice none 0 0) 0 [] rfl (World.ownsRow_nil _ _ _ _) A m c l rfl h (by omega) (Nat.le_refl _) ?_; intro v w1 h1 h2 h3)
  go_ret
  refine ⟨v, rfl, by simpa using h1, (Below.refl _ _).grown h2 (Nat.le_refl _) (fun k hk => ?_)⟩
  simp [Value.ownBlock] at hk

set_option maxHeartbeats 400000 in
theorem width_any (n : Int) (w : World) : Calls Try.prog 108 #[.int .i64 n] w fun e w' => e = .returned (.bool (isW n)) ∧ w = w' := by
  by_cases h1 : n = 1
  · subst h1
    go_enter Try.func108, Try.ntmps108
    go_wp2
    go_ret
    exact ⟨rfl, rfl⟩
  by_cases h2 : n = 2
  · subst h2
    go_enter Try.func108, Try.ntmps108
    go_wp2
    go_ret
    exact ⟨rfl, rfl⟩
  by_cases h4 : n = 4
  · subst h4
    go_enter Try.func108, Try.ntmps108
    go_wp2
    go_ret
    exact ⟨rfl, rfl⟩
  have b1 : (n == 1) = false := by simp [h1]
  have b2 : (n == 2) = false := by simp [h2]
  have b4 : (n == 4) = false := by simp [h4]
  have HV := Lib.hid (show isW n = (n == 8) by simp [isW, h1, h2, h4])
  clear h1 h2 h4
  go_enter Try.func108, Try.ntmps108
  go_wp2
  go_ret
  exact ⟨by rw [HV.out]; rfl, rfl⟩

section
variable {w w' : World} {S T : Nat → Prop} {r : Nat} {st : Option (List UInt8)}
theorem takeSt_w {st : Option (List UInt8)} {n : Int} (hn : isW n = true) : (takeSt st n).2.length ≤ 8 := by
  cases st with
  | none => simp [takeSt]
  | some l =>
    simp only [takeSt]
    split
    · simp [isW] at hn; simp; omega
    · simp

theorem takeSt_neg (st : Option (List UInt8)) : takeSt st (-1) = (none, []) := by
  cases st with
  | none => rfl
  | some l => simp [takeSt]

end

end Go.Proofs.Ytljcaigaofalbaa
