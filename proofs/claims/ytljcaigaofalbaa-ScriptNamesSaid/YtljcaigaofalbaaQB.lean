/- The small functions of octet: isWidth, fits, Spoilt, Clone, each by a contract. | The calls All, Len and Tail of an Out, each by a contract. | bytesOf and its iterator; Put of an Out, by a contract. -/
import Derived.Test.YtljcaigaofalbaaProg
import Derived.BigQuiet
import Derived.Deep.QuietTactic
import Derived.RangeFuncNested
import Derived.RangeFuncBound
import Derived.RangeFuncCalls
import Derived.RangeFuncLeaves
import Derived.RangeFuncBox
import Derived.Shelf.Abstract
import Derived.Shelf.RegionOpen
import Derived.OwnWalkIn
import Derived.TacticsInMore
import Derived.LoopNIn
import Derived.LoopIn
import Derived.Test.YtljcaigaofalbaaQA
namespace Go.Proofs.Ytljcaigaofalbaa
open Go.RowKit

theorem shr_zero (x k : Nat) : (((x : Int) / 2 ^ k) == 0) = decide (x < 2 ^ k) := by
  have e : ((x : Int) / 2 ^ k) = ((x / 2 ^ k : Nat) : Int) := by simp
  have hp : 0 < 2 ^ k := Nat.two_pow_pos k
  rw [e, Bool.eq_iff_iff]
  simp only [beq_iff_eq, decide_eq_true_eq]
  rw [show (0 : Int) = ((0 : Nat) : Int) from rfl, Int.ofNat_inj, Nat.div_eq_zero_iff]
  omega

def isW (n : Int) : Bool := n == 1 || n == 2 || n == 4 || n == 8
def fitsW (n : Int) (x : Nat) : Bool := isW n && decide (x < 2 ^ (8 * n.toNat))

set_option maxHeartbeats 400000 in
theorem isWidth_any (n : Int) (w : World) : Calls Try.prog 106 #[.int .i64 n] w fun e w' => e = .returned (.bool (isW n)) ∧ w = w' := by
  by_cases h1 : n = 1
  · subst h1
    go_enter Try.func106, Try.ntmps106
    go_wp2
    go_ret
    exact ⟨rfl, rfl⟩
  by_cases h2 : n = 2
  · subst h2
    go_enter Try.func106, Try.ntmps106
    go_wp2
    go_ret
    exact ⟨rfl, rfl⟩
  by_cases h4 : n = 4
  · subst h4
    go_enter Try.func106, Try.ntmps106
    go_wp2
    go_ret
    exact ⟨rfl, rfl⟩
  by_cases h8 : n = 8
  · subst h8
    go_enter Try.func106, Try.ntmps106
    go_wp2
    go_ret
    exact ⟨rfl, rfl⟩
  have hv : isW n = false := by simp [isW, h1, h2, h4, h8]
  have b1 : (n == 1) = false := by simp [h1]
  have b2 : (n == 2) = false := by simp [h2]
  have b4 : (n == 4) = false := by simp [h4]
  have b8 : (n == 8) = false := by simp [h8]
  have HV := Lib.hid hv
  clear hv h1 h2 h4 h8
  go_enter Try.func106, Try.ntmps106
  go_wp2
  go_ret
  exact ⟨by rw [HV.out]; rfl, rfl⟩

/-- What an Out's three cells are. -/
structure OutCells (w : World) (a : Nat) (sp : Option Addr) (n : Int) (bad : Bool) : Prop where
  whole : Whole w a 70 #[.pointer sp, .int .i64 n, .bool bad]

set_option maxHeartbeats 400000 in
theorem spoilt_any (a : Nat) (sp : Option Addr) (n : Int) (bad : Bool) (w : World) (h : OutCells w a sp n bad) : Calls Try.prog 81 #[.pointer (some ⟨a, 0, none⟩)] w fun e w' => e = .returned (.bool bad) ∧ w = w' := by
  have hc := h.whole.cell 2
  simp at hc
  go_enter Try.func81, Try.ntmps81
  go_wp2

  go_ret
  exact ⟨rfl, rfl⟩

set_option maxHeartbeats 400000 in
theorem fits_no (n : Int) (x : Nat) (w : World) (h : isW n = false) : Calls Try.prog 82 #[.int .i64 n, .int .u64 x] w fun e w' => e = .returned (.bool (fitsW n x)) ∧ w = w' := by
  have hv : fitsW n x = false := by simp [fitsW, h]
  have HV := Lib.hid hv
  clear hv
  go_enter Try.func82, Try.ntmps82
  go_wp2_with (go_at_call 106; refine (isWidth_any _ _).mono ?_; rintro e w' ⟨rfl, rfl⟩)

  go_ret
  exact ⟨by rw [HV.out]; rfl, rfl⟩

set_option maxHeartbeats 400000 in
theorem fits_yes (n : Int) (x : Nat) (w : World) (h : isW n = true) : Calls Try.prog 82 #[.int .i64 n, .int .u64 x] w fun e w' => e = .returned (.bool (fitsW n x)) ∧ w = w' := by
  have hn : 1 ≤ n ∧ n ≤ 8 := by
    simp [isW] at h
    omega
  obtain ⟨hn1, hn2⟩ := hn
  go_enter Try.func82, Try.ntmps82
  go_wp2_with (go_at_call 106; refine (isWidth_any _ _).mono ?_; rintro e w' ⟨rfl, rfl⟩)

  go_ret
  refine ⟨?_, rfl⟩
  show Ending.returned (.bool ((x : Int) / 2 ^ (8 * n).toNat == 0)) = _
  rw [shr_zero, show (8 * n).toNat = 8 * n.toNat from by omega]
  simp [fitsW, h]

theorem fits_any (n : Int) (x : Nat) (w : World) (_ : x < 18446744073709551616) : Calls Try.prog 82 #[.int .i64 n, .int .u64 x] w fun e w' => e = .returned (.bool (fitsW n x)) ∧ w = w' := by
  cases h : isW n
  · exact fits_no n x w h
  · exact fits_yes n x w h

theorem u8_info : (Try.prog.info? 5).map (fun i => (i.zero, i.size, i.bytes)) = some (some (.int .u8 0), 1, 1) := by kernel_rfl

set_option maxHeartbeats 400000 in
theorem clone_any (A : Option Addr) (m c : Nat) (l : List UInt8) (w : World) (h : Src w A m l) (hA : A = none → c = 0) (hm : m ≤ 549755813888) :
    Calls Try.prog 76 #[.slice A m c] w fun e w' => ∃ v, e = .returned v ∧ w'.ownsRow w.heap.size 5 1 v m (bv l) ∧ Below w.heap.size w w' := by
  obtain ⟨i0, hi, hz0, hz1, hz2⟩ := info_parts u8_info
  cases A with
  | none =>
    obtain rfl := hA rfl
    have hm0 : m = 0 := by
      rcases Nat.eq_zero_or_pos m with h0 | h0
      · exact h0
      · obtain ⟨b, o, hb, _⟩ := h.2 h0
        cases hb
    subst hm0
    have hl : l = [] := List.eq_nil_of_length_eq_zero h.1
    subst hl
    have hq := fun (W : World) => Lib.run_eql_slice_nil (P := Try.prog) W 30 5 none 0 0 0 0 Try.underlying30
    go_enter Try.func76, Try.ntmps76
    go_wp2
    go_ret
    exact ⟨_, rfl, World.ownsRow_nil _ _ _ _, Below.refl _ _⟩
  | some ad =>
    have hq := fun (W : World) => Lib.run_eql_slice_nil (P := Try.prog) W 30 5 (some ad) m c 0 0 Try.underlying30
    go_enter Try.func76, Try.ntmps76
    have hb : Below w.heap.size w (w.alloc (.cells #[] 5)) := (Below.refl _ _).alloc (Nat.le_refl _) _
    go_wp2_with (at_builtin; refine wpList_append_src _ rfl (.tmp 5) (.tmp 6) _ rfl w.heap.size 5 i0 Try.underlying30 hi hz0 hz1 hz2 (.slice (some ⟨w.heap.size, 0, none⟩) 0 0) 0 [] rfl (World.ownsRow_made w #[] 0 (Nat.le_refl _) (by simp [maxLen]) rfl) (some ad) m c l rfl (h.below hb) (by omega) (by simp) ?_; intro v w1 h1 h2 h3)
    go_ret
    refine ⟨v, rfl, by simpa using h1, hb.grown h2 (by simp) (fun k hk => ?_)⟩
    simp [Value.ownBlock] at hk
    omega

/-- An Out at block a, of the blocks S: spoilt (none), or with the bytes l (some l). -/
structure OutAt (w : World) (S : Nat → Prop) (a : Nat) (st : Option (List UInt8)) : Prop where
  lt : ∀ k, S k → k < w.heap.size
  own : S a
  shape : (st = none ∧ OutCells w a none 0 true) ∨ (st = some [] ∧ OutCells w a none 0 false) ∨
    ∃ (l : List UInt8) (sb : Nat) (v : Value), st = some l ∧ OutCells w a (some ⟨sb, 0, none⟩) (l.length : Int) false ∧ S sb ∧ Whole w sb 132 #[v] ∧ w.ownsRow 0 5 1 v l.length (bv l) ∧ ∀ g, v.ownBlock = some g → S g

theorem ownsRow_base {w : World} {b b' : Nat} {e : TypeId} {size : Nat} {v : Value} {n : Nat} {xs : List Value} (h : w.ownsRow b e size v n xs) (hb : b' ≤ b) : w.ownsRow b' e size v n xs := by
  obtain ⟨h1, h2⟩ := h
  refine ⟨h1, ?_⟩
  rcases h2 with h2 | ⟨g, cap, cur, hv, hg, r⟩
  · exact .inl h2
  · exact .inr ⟨g, cap, cur, hv, by omega, r⟩

theorem ownsRow_kept {w w' : World} {S : Nat → Prop} {b : Nat} {e : TypeId} {size : Nat} {v : Value} {n : Nat} {xs : List Value} (h : w.ownsRow b e size v n xs) (hk : Kept S w w') (hS : ∀ g, v.ownBlock = some g → ¬ S g) : w'.ownsRow b e size v n xs := by
  obtain ⟨h1, h2⟩ := h
  refine ⟨h1, ?_⟩
  rcases h2 with h2 | ⟨g, cap, cur, rfl, hg, hh, r⟩
  · exact .inl h2
  · exact .inr ⟨g, cap, cur, rfl, hg, (hk.block g (Array.getElem?_eq_some_iff.1 hh).1 (hS g rfl)).trans hh, r⟩

theorem OutAt.keep {w w' : World} {S T : Nat → Prop} {a : Nat} {st : Option (List UInt8)} (h : OutAt w S a st) (hk : Kept T w w') (hT : ∀ k, S k → ¬ T k) : OutAt w' S a st := by
  refine ⟨fun k hs => Nat.lt_of_lt_of_le (h.lt k hs) hk.size, h.own, ?_⟩
  rcases h.shape with ⟨e, c⟩ | ⟨e, c⟩ | ⟨l, sb, v, e, c, hs, hw, hr, hg⟩
  · exact .inl ⟨e, ⟨c.whole.kept hk (hT _ h.own)⟩⟩
  · exact .inr (.inl ⟨e, ⟨c.whole.kept hk (hT _ h.own)⟩⟩)
  · exact .inr (.inr ⟨l, sb, v, e, ⟨c.whole.kept hk (hT _ h.own)⟩, hs, hw.kept hk (hT _ hs), ownsRow_kept hr hk (fun g hv => hT g (hg g hv)), hg⟩)

theorem OutAt.more {w : World} {S T : Nat → Prop} {a : Nat} {st : Option (List UInt8)} (h : OutAt w S a st) (hT : ∀ k, S k → T k) (hlt : ∀ k, T k → k < w.heap.size) : OutAt w T a st := by
  refine ⟨hlt, hT _ h.own, ?_⟩
  rcases h.shape with e | e | ⟨l, sb, v, e, c, hs, hw, hr, hg⟩
  · exact .inl e
  · exact .inr (.inl e)
  · exact .inr (.inr ⟨l, sb, v, e, c, hT _ hs, hw, hr, fun g hv => hT g (hg g hv)⟩)

theorem OutAt.drewN {w : World} {S : Nat → Prop} {a : Nat} {st : Option (List UInt8)} (h : OutAt w S a st) (n : Nat) : OutAt (w.drewN n) S a st :=
  h.keep ((Kept.refl Empty w).drewN n) (fun _ _ h => h)

/-- What an Out has, as a slice that leads into its own blocks. -/
def Written (w : World) (S : Nat → Prop) (st : Option (List UInt8)) (e : Ending) (w' : World) : Prop :=
  ∃ A c k, e = .returned (.slice A (st.getD []).length c) ∧ Src w A (st.getD []).length (st.getD []) ∧ (A = none → c = 0) ∧ (∀ ad, A = some ad → S ad.block) ∧ w' = w.drewN k

set_option maxHeartbeats 400000 in
theorem written_any (w : World) (S : Nat → Prop) (a : Nat) (st : Option (List UInt8)) (h : OutAt w S a st) (hlen : (st.getD []).length ≤ 549755813888) :
    Calls Try.prog 85 #[.pointer (some ⟨a, 0, none⟩)] w (Written w S st) := by
  rcases h.shape with ⟨rfl, c⟩ | ⟨rfl, c⟩ | ⟨l, sb, v, rfl, c, hs, hw, hr, hg⟩
  · have hc0 := c.whole.cell 0
    simp at hc0
    go_enter Try.func85, Try.ntmps85
    go_wp2_with (go_at_call 81; refine (spoilt_any _ _ _ _ _ c).mono ?_; rintro e w' ⟨rfl, rfl⟩)
    go_ret
    exact ⟨none, 0, 0, rfl, Src.nil _ _, fun _ => rfl, (fun _ h => by cases h), rfl⟩
  · have hc0 := c.whole.cell 0
    simp at hc0
    go_enter Try.func85, Try.ntmps85
    go_wp2_with (go_at_call 81; refine (spoilt_any _ _ _ _ _ c).mono ?_; rintro e w' ⟨rfl, rfl⟩)
    go_ret
    exact ⟨none, 0, 0, rfl, Src.nil _ _, fun _ => rfl, (fun _ h => by cases h), rfl⟩
  · simp only [Option.getD_some] at hlen
    obtain ⟨A, cap, rfl, hcap, hsrc, hA, hn⟩ := Src.of_own hr
    have hc0 := c.whole.cell 0
    have hc1 := c.whole.cell 1
    have hk0 := hw.cell 0
    simp at hc0 hc1 hk0
    go_enter Try.func85, Try.ntmps85
    go_wp2_with (go_at_call 81; refine (spoilt_any _ _ _ _ _ c).mono ?_; rintro e w' ⟨rfl, rfl⟩)
    go_quiet (fail)
    go_wp2
    go_ret
    refine ⟨A, cap, _, rfl, hsrc, fun h => (hn h).2, fun ad h => ?_, rfl⟩
    subst h
    exact hg ad.block rfl

/-- An Out with a shelf that bears l; n: what its size says. -/
structure Shelf (w : World) (S : Nat → Prop) (a sb : Nat) (n : Int) (l : List UInt8) (v : Value) : Prop where
  lt : ∀ k, S k → k < w.heap.size
  own : S a
  cells : OutCells w a (some ⟨sb, 0, none⟩) n false
  mine : S sb
  whole : Whole w sb 132 #[v]
  row : w.ownsRow 0 5 1 v l.length (bv l)
  rows : ∀ g, v.ownBlock = some g → S g

section
variable {w w' : World} {S T : Nat → Prop} {a sb : Nat} {n : Int} {l : List UInt8} {v : Value}
theorem Shelf.out (h : Shelf w S a sb (l.length : Int) l v) : OutAt w S a (some l) :=
  ⟨h.lt, h.own, .inr (.inr ⟨l, sb, v, rfl, h.cells, h.mine, h.whole, h.row, h.rows⟩)⟩

theorem Grow.lt (h : ∀ k, S k → k < w.heap.size) (hz : w.heap.size ≤ w'.heap.size) : ∀ k, Grow S w w' k → k < w'.heap.size := by
  rintro k (hk | hk)
  · exact Nat.lt_of_lt_of_le (h k hk) hz
  · exact hk.2

theorem Shelf.keep (h : Shelf w S a sb n l v) (hk : Kept T w w') (hT : ∀ k, S k → ¬ T k) : Shelf w' S a sb n l v :=
  ⟨fun k hs => Nat.lt_of_lt_of_le (h.lt k hs) hk.size, h.own, ⟨h.cells.whole.kept hk (hT _ h.own)⟩, h.mine, h.whole.kept hk (hT _ h.mine), ownsRow_kept h.row hk (fun g e => hT g (h.rows g e)), h.rows⟩

theorem Shelf.more (h : Shelf w S a sb n l v) (hT : ∀ k, S k → T k) (hlt : ∀ k, T k → k < w.heap.size) : Shelf w T a sb n l v :=
  ⟨hlt, hT _ h.own, h.cells, hT _ h.mine, h.whole, h.row, fun g e => hT g (h.rows g e)⟩

theorem Shelf.apart (h : Shelf w S a sb n l v) : a ≠ sb := h.cells.whole.apart h.whole (by decide)

/-- The shelf bears a longer row, and its cell is turned to it. -/
theorem Shelf.appended (h : Shelf w S a sb n l v) {w2 : World} {v' : Value} {l' : List UInt8} (hg : w.grownBy w2 v.ownBlock) (hr : w2.ownsRow 0 5 1 v' l'.length (bv l'))
    (hv : v'.ownBlock = v.ownBlock ∨ v'.ownBlock = some w.heap.size) :
    Shelf (w2.setCell ⟨sb, 0, none⟩ v') (Grow S w (w2.setCell ⟨sb, 0, none⟩ v')) a sb n l' v' ∧ Kept S w (w2.setCell ⟨sb, 0, none⟩ v') := by
  have hk2 : Kept S w w2 := (Kept.refl S w).grown hg (fun k e => .inl (h.rows k e))
  have hk : Kept S w (w2.setCell ⟨sb, 0, none⟩ v') := hk2.setCell (.inl h.mine) _
  have hcw : Whole w2 a 70 _ := h.cells.whole.grown hg (h.cells.whole.not_row (by decide) h.row)
  have hsw : Whole w2 sb 132 _ := h.whole.grown hg (h.whole.not_row (by decide) h.row)
  refine ⟨⟨Grow.lt h.lt hk.size, .inl h.own, ⟨hcw.far h.apart _⟩, .inl h.mine, by simpa using hsw.set 0 v', ?_, fun g e => ?_⟩, hk⟩
  · refine ownsRow_kept hr ((Kept.refl (fun k => k = sb) w2).setCell (p := ⟨sb, 0, none⟩) (.inl rfl) v') (fun g e hgs => ?_)
    subst hgs
    exact hsw.not_row (by decide) hr e.symm
  · have hlt : g < w2.heap.size := (hr.lt g e).2
    rcases hv with hv | hv
    · exact .inl (h.rows g (hv.symm.trans e))
    · rw [hv] at e
      cases e
      exact .inr ⟨Nat.le_refl _, by simpa [World.setCell] using hlt⟩

theorem Shelf.sized (h : Shelf w S a sb n l v) : Shelf (w.setCell ⟨a, 1, none⟩ (.int .i64 (l.length : Int))) S a sb (l.length : Int) l v ∧ Kept S w (w.setCell ⟨a, 1, none⟩ (.int .i64 (l.length : Int))) := by
  have hk : Kept S w (w.setCell ⟨a, 1, none⟩ (.int .i64 (l.length : Int))) := (Kept.refl S w).setCell (.inl h.own) _
  refine ⟨⟨fun k hs => Nat.lt_of_lt_of_le (h.lt k hs) hk.size, h.own, ⟨by simpa using h.cells.whole.set 1 (.int .i64 (l.length : Int))⟩, h.mine, h.whole.far (Ne.symm h.apart) _, ?_, h.rows⟩, hk⟩
  refine ownsRow_kept h.row ((Kept.refl (fun k => k = a) w).setCell (p := ⟨a, 1, none⟩) (.inl rfl) _) (fun g e hga => ?_)
  subst hga
  exact h.cells.whole.not_row (by decide) h.row e.symm
end

def Shelved (w : World) (S : Nat → Prop) (a : Nat) (l : List UInt8) (e : Ending) (w' : World) : Prop :=
  ∃ sb v, e = .returned (.pointer (some ⟨sb, 0, none⟩)) ∧ Shelf w' (Grow S w w') a sb (l.length : Int) l v ∧ Kept S w w'

theorem shelved_new {w w2 : World} {S : Nat → Prop} {a : Nat} {B : Option Addr} {c2 : Nat} (h : OutAt w S a (some [])) (c : OutCells w a none 0 false) (hb : Below w.heap.size w w2)
    (hown : w2.ownsRow w.heap.size 5 1 (.slice B 0 c2) 0 (bv [])) :
    Shelved w S a [] (.returned (.pointer (some ⟨w2.heap.size, 0, none⟩))) ((w2.alloc (.cells #[.slice B 0 c2] 132)).setCell ⟨a, 0, none⟩ (.pointer (some ⟨w2.heap.size, 0, none⟩))) := by
  have hk : Kept S w ((w2.alloc (.cells #[.slice B 0 c2] 132)).setCell ⟨a, 0, none⟩ (.pointer (some ⟨w2.heap.size, 0, none⟩))) := ((Kept.of_below hb S).alloc _).setCell (.inl h.own) _
  have hz := hb.size
  have halt := c.whole.lt
  have hsz : w2.heap.size < ((w2.alloc (.cells #[.slice B 0 c2] 132)).setCell ⟨a, 0, none⟩ (.pointer (some ⟨w2.heap.size, 0, none⟩))).heap.size := by simp [World.setCell]
  refine ⟨_, _, rfl, ⟨Grow.lt h.lt hk.size, .inl h.own, ⟨by simpa using (((c.whole.below hb halt).alloc (.cells #[.slice B 0 c2] 132)).set 0 (.pointer (some ⟨w2.heap.size, 0, none⟩)))⟩, .inr ⟨hz, hsz⟩, (Whole.new w2 _ _).far (by simp; omega) _, ?_, fun g e => .inr ⟨(hown.lt g e).1, Nat.lt_trans (hown.lt g e).2 hsz⟩⟩, hk⟩
  refine ownsRow_kept (ownsRow_base (hown.alloc _) (Nat.zero_le _)) ((Kept.refl (fun k => k = a) _).setCell (p := ⟨a, 0, none⟩) (.inl rfl) _) (fun g e hga => ?_)
  have := (hown.lt g e).1
  omega

set_option maxHeartbeats 1000000 in
theorem ownShelf_any (w : World) (S : Nat → Prop) (a : Nat) (l : List UInt8) (h : OutAt w S a (some l)) (hlen : l.length ≤ 549755813888) :
    Calls Try.prog 83 #[.pointer (some ⟨a, 0, none⟩)] w (Shelved w S a l) := by
  rcases h.shape with ⟨e, c⟩ | ⟨e, c⟩ | ⟨l, sb, v, e, c, hs, hw, hr, hg⟩
  · cases e
  · cases e
    have hc0 := c.whole.cell 0
    have hf0 := c.whole.frozen 0
    simp at hc0
    go_enter Try.func83, Try.ntmps83
    go_wp2_with fail
    go_quiet (fail)
    go_wp2_with fail
    refine (written_any _ S a (some []) (h.drewN _) (by simp)).mono ?_
    rintro e w1 ⟨A, c1, k, rfl, hsrc, hA, _, rfl⟩
    go_wp2_with fail
    refine (clone_any A 0 c1 [] _ (by exact hsrc) hA (by simp)).mono ?_
    rintro e w2 ⟨v, rfl, hown, hb⟩
    obtain ⟨B, c2, rfl, _, _, _, _⟩ := Src.of_own hown
    have hcw : OutCells w2 a none 0 false := ⟨c.whole.below (w := w) (B := w.heap.size) ⟨hb.os, hb.tape, hb.output, hb.size, hb.block⟩ c.whole.lt⟩
    have hc2 := (hcw.whole.alloc (.cells #[.slice B 0 c2] 132)).cell 0
    have hf2 := (hcw.whole.alloc (.cells #[.slice B 0 c2] 132)).frozen 0
    simp at hc2
    go_wp2
    go_ret
    exact shelved_new h c ⟨hb.os, hb.tape, hb.output, hb.size, hb.block⟩ hown
  · cases e
    obtain ⟨A, cap, rfl, hcap, hsrc, hA, hn⟩ := Src.of_own hr
    have hc0 := c.whole.cell 0
    have hc1 := c.whole.cell 1
    have hk0 := hw.cell 0
    simp at hc0 hc1 hk0
    go_enter Try.func83, Try.ntmps83
    go_wp2_with fail
    go_quiet (fail)
    go_wp2
    go_ret
    exact ⟨sb, _, rfl, ⟨Grow.lt h.lt (Nat.le_refl _), .inl h.own, ⟨c.whole⟩, .inl hs, hw, hr, fun g e => .inl (hg g e)⟩, (Kept.refl _ _).drewN _⟩

end Go.Proofs.Ytljcaigaofalbaa

namespace Go.Proofs.Ytljcaigaofalbaa
open Go.RowKit

/-- A slice in new memory that reads as l. -/
def Fresh (w : World) (l : List UInt8) (e : Ending) (w' : World) : Prop :=
  ∃ v, e = .returned v ∧ w'.ownsRow w.heap.size 5 1 v l.length (bv l) ∧ Below w.heap.size w w'

def Turned (w : World) (S : Nat → Prop) (a : Nat) (st : Option (List UInt8)) (e : Ending) (w' : World) : Prop :=
  e = .returned (.pointer (some ⟨a, 0, none⟩)) ∧ OutAt w' (Grow S w w') a st ∧ Kept S w w'

set_option maxHeartbeats 400000 in
theorem all_any (w : World) (S : Nat → Prop) (a : Nat) (st : Option (List UInt8)) (h : OutAt w S a st) (hlen : (st.getD []).length ≤ 549755813888) :
    Calls Try.prog 50 #[.pointer (some ⟨a, 0, none⟩)] w (Fresh w (st.getD [])) := by
  generalize hl : st.getD [] = l
  have HL := Lib.hid hl
  rw [hl] at hlen
  clear hl
  go_enter Try.func50, Try.ntmps50
  go_wp2_with fail
  refine (written_any w S a st h (by rw [HL.out]; exact hlen)).mono ?_
  rintro e w1 ⟨A, c, k, rfl, hsrc, hA, _, rfl⟩
  rw [HL.out] at hsrc ⊢
  go_wp2_with fail
  refine (clone_any A l.length c l _ (by exact hsrc) hA hlen).mono ?_
  rintro e w2 ⟨v, rfl, hown, hb⟩
  go_wp2
  go_ret
  exact ⟨v, rfl, hown, ⟨hb.os, hb.tape, hb.output, hb.size, hb.block⟩⟩

theorem OutAt.bad {w : World} {S : Nat → Prop} {a : Nat} (h : OutAt w S a none) : OutCells w a none 0 true := by
  rcases h.shape with ⟨_, c⟩ | ⟨e, _⟩ | ⟨l, _, _, e, _⟩
  · exact c
  · cases e
  · cases e
theorem OutAt.good {w : World} {S : Nat → Prop} {a : Nat} {l : List UInt8} (h : OutAt w S a (some l)) : ∃ sp, OutCells w a sp (l.length : Int) false := by
  rcases h.shape with ⟨e, _⟩ | ⟨e, c⟩ | ⟨l', _, _, e, c, _⟩
  · cases e
  · cases e; exact ⟨_, c⟩
  · cases e; exact ⟨_, c⟩
theorem OutAt.spoilt {w : World} {S : Nat → Prop} {a : Nat} {st : Option (List UInt8)} (h : OutAt w S a st) : Calls Try.prog 81 #[.pointer (some ⟨a, 0, none⟩)] w fun e w' => e = .returned (.bool st.isNone) ∧ w = w' := by
  cases st with
  | none => exact spoilt_any _ _ _ _ _ h.bad
  | some l => obtain ⟨sp, c⟩ := h.good; exact spoilt_any _ _ _ _ _ c

theorem Kept.fromGrow {S : Nat → Prop} {a b c : World} (h : Kept S a b) (k : Kept (Grow S a b) b c) : Kept S a c :=
  h.trans k (fun i hi hg => by rcases hg with hg | hg; exact hg; omega)
theorem Grow.twice {S : Nat → Prop} {a b c : World} (ha : a.heap.size ≤ b.heap.size) (hb : b.heap.size ≤ c.heap.size) : ∀ k, Grow (Grow S a b) b c k → Grow S a c k := by
  rintro k ((h | h) | h)
  · exact .inl h
  · exact .inr ⟨h.1, by omega⟩
  · exact .inr ⟨by omega, h.2⟩

/-- An Out turned in two steps. -/
theorem Shelf.grow {w w1 w2 : World} {S : Nat → Prop} {a sb : Nat} {n : Int} {l : List UInt8} {v : Value} (hlt : ∀ k, S k → k < w.heap.size) (k1 : Kept S w w1) (k2 : Kept (Grow S w w1) w1 w2) (h : Shelf w2 (Grow (Grow S w w1) w1 w2) a sb n l v) : Shelf w2 (Grow S w w2) a sb n l v ∧ Kept S w w2 :=
  ⟨h.more (Grow.twice k1.size k2.size) (Grow.lt hlt (k1.fromGrow k2).size), k1.fromGrow k2⟩

theorem tail_bad (w : World) (S : Nat → Prop) (a : Nat) (v : Value) (h : OutAt w S a none) :
    Calls Try.prog 48 #[.pointer (some ⟨a, 0, none⟩), v] w (Turned w S a none) := by
  go_enter Try.func48, Try.ntmps48
  go_wp2_with (go_at_call 81; refine (spoilt_any _ _ _ _ _ h.bad).mono ?_; rintro e w' ⟨rfl, rfl⟩)
  go_ret
  exact ⟨rfl, h.more (fun _ h => .inl h) (Grow.lt h.lt (Nat.le_refl _)), Kept.refl _ _⟩

section
variable {w w1 w2 : World} {S T : Nat → Prop} {a sb m : Nat} {n : Int} {l b : List UInt8} {v v2 : Value}
/-- What the walk wants behind the append. -/
theorem tail_step (h : Shelf w1 T a sb n l v) (hb : b.length = m) (h1 : w2.ownsRow 0 5 1 v2 (l.length + m) (bv l ++ bv b)) (h2 : w1.grownBy w2 v.ownBlock) (h3 : v2.ownBlock = v.ownBlock ∨ v2.ownBlock = some w1.heap.size) :
    ∃ A2 c2, v2 = .slice A2 (l.length + m) c2 ∧ w2.cell? ⟨sb, 0, none⟩ = some v ∧ w2.frozen? ⟨sb, 0, none⟩ = false ∧
      (w2.setCell ⟨sb, 0, none⟩ v2).cell? ⟨sb, 0, none⟩ = some v2 ∧ (w2.setCell ⟨sb, 0, none⟩ v2).cell? ⟨a, 1, none⟩ = some (.int .i64 n) ∧ (w2.setCell ⟨sb, 0, none⟩ v2).frozen? ⟨a, 1, none⟩ = false ∧ w2.cell? ⟨a, 1, none⟩ = some (.int .i64 n) := by
  subst hb
  rw [← bv_append, ← List.length_append] at h1
  obtain ⟨A2, c2, e, _⟩ := Src.of_own h1
  have hg := (h.appended h2 h1 h3).1
  have hsw := h.whole.grown h2 (h.whole.not_row (by decide) h.row)
  have hcw := h.cells.whole.grown h2 (h.cells.whole.not_row (by decide) h.row)
  refine ⟨A2, c2, by rw [e, List.length_append], by simpa using hsw.cell 0, hsw.frozen 0, by simpa using hg.whole.cell 0, by simpa using hg.cells.whole.cell 1, hg.cells.whole.frozen 1, by simpa using hcw.cell 1⟩

theorem tail_done (hlt : ∀ k, S k → k < w.heap.size) (hk : Kept S w w1) (h : Shelf w1 (Grow S w w1) a sb n l v) (hb : b.length = m) (h1 : w2.ownsRow 0 5 1 v2 (l.length + m) (bv l ++ bv b)) (h2 : w1.grownBy w2 v.ownBlock) (h3 : v2.ownBlock = v.ownBlock ∨ v2.ownBlock = some w1.heap.size) :
    Turned w S a (some (l ++ b)) (.returned (.pointer (some ⟨a, 0, none⟩))) ((w2.setCell ⟨sb, 0, none⟩ v2).setCell ⟨a, 1, none⟩ (.int .i64 ((l.length : Int) + (m : Int)))) := by
  subst hb
  rw [← bv_append, ← List.length_append] at h1
  obtain ⟨hs, hk2⟩ := h.appended h2 h1 h3
  obtain ⟨hs3, hk3⟩ := hs.sized
  obtain ⟨hs4, hk4⟩ := Shelf.grow hlt hk hk2 hs
  obtain ⟨hs5, hk5⟩ := hs4.sized
  have e : ((l.length : Int) + (b.length : Int)) = (((l ++ b).length : Nat) : Int) := by simp
  rw [e]
  refine ⟨rfl, (hs5.more (T := Grow S w _) (fun k hg => ?_) (Grow.lt hlt ?_)).out, hk4.fromGrow hk5⟩
  · rcases hg with hg | hg
    · exact .inl hg
    · exact .inr ⟨hg.1, Nat.lt_of_lt_of_le hg.2 hk5.size⟩
  · exact Nat.le_trans hk4.size hk5.size
end

set_option maxHeartbeats 1000000 in
theorem tail_good (w : World) (S : Nat → Prop) (a : Nat) (l : List UInt8) (A : Option Addr) (m c : Nat) (b : List UInt8) (h : OutAt w S a (some l)) (hb : Src w A m b) (hS : 0 < m → ∀ ad, A = some ad → ¬ S ad.block) (hlen : l.length + m ≤ 549755813888) :
    Calls Try.prog 48 #[.pointer (some ⟨a, 0, none⟩), .slice A m c] w (Turned w S a (some (l ++ b))) := by
  obtain ⟨i0, hi, hz0, hz1, hz2⟩ := info_parts u8_info
  obtain ⟨sp, hsp⟩ := h.good
  go_enter Try.func48, Try.ntmps48
  go_wp2_with (go_at_call 81; refine (spoilt_any _ _ _ _ _ hsp).mono ?_; rintro e w' ⟨rfl, rfl⟩)
  refine (ownShelf_any w S a l h (by omega)).mono ?_
  rintro e w1 ⟨sb, v, rfl, hsh, hk1⟩
  have hb1 : Src w1 A m b := by
    rcases Nat.eq_zero_or_pos m with h0 | h0
    · exact ⟨hb.1, fun h => absurd h (by omega)⟩
    · exact hb.kept hk1 (hS h0)
  obtain ⟨A0, c0, rfl, _⟩ := Src.of_own hsh.row
  have hc := hsh.whole.cell 0
  simp at hc
  go_wp2_with (at_builtin; refine wpList_append_src _ rfl _ _ _ rfl 0 5 i0 Try.underlying30 hi hz0 hz1 hz2 (.slice A0 l.length c0) l.length (bv l) rfl hsh.row A m c b rfl hb1 (by omega) (Nat.zero_le _) ?_; intro v2 w2 h1 h2 h3; obtain ⟨A2, c2, e2, g1, g2, g3, g4, g5, g6⟩ := tail_step hsh hb.1 h1 h2 h3; subst e2)
  go_ret
  exact tail_done h.lt hk1 hsh hb.1 h1 h2 h3

end Go.Proofs.Ytljcaigaofalbaa

namespace Go.Proofs.Ytljcaigaofalbaa
open Go.RowKit Go.Shelf
attribute [local go_sem] Oper.semAt_some

theorem wpIn_scope_wide {n : Nat} {P : Program} {c : Code} {Q : Exit → Act → World → Prop} {a : Act} {w : World} (h : c.wpIn Fence.wide n P (Exit.noGoto Q) a w) : (Code.scope c).wpIn Fence.wide n P Q a w :=
  wpIn_wide.2 (wp_scope_straight (wpIn_wide.1 h))

/-- The two boxes that the iterator reads hold what they held. -/
def KpB (Bw Bn : Nat) (W W' : World) : Prop := W'.cell? ⟨Bw, 0, none⟩ = W.cell? ⟨Bw, 0, none⟩ ∧ W'.cell? ⟨Bn, 0, none⟩ = W.cell? ⟨Bn, 0, none⟩

/-- The bytes of a number, the highest first. -/
def beBytes (width x : Nat) : List UInt8 := (List.range width).map fun i => UInt8.ofNat (x / 2 ^ (8 * (width - 1 - i)))
theorem beBytes_length (width x : Nat) : (beBytes width x).length = width := by simp [beBytes]
theorem beBytes_take (width x k : Nat) (h : k < width) : (beBytes width x).take (k + 1) = (beBytes width x).take k ++ [UInt8.ofNat (x / 2 ^ (8 * (width - 1 - k)))] := by
  rw [List.take_succ_eq_append_getElem (by rw [beBytes_length]; exact h)]
  simp [beBytes]
theorem u8_of_shift (x k : Nat) : (((UInt8.ofNat (x / 2 ^ k)).toNat : Nat) : Int) = (x : Int) / 2 ^ k % 256 := by
  simp

set_option maxRecDepth 100000 in
set_option maxHeartbeats 1000000 in
theorem bytesOf1_in (n : Nat) (hn : 1 ≤ n) (l Bw Bn width x : Nat) (J Jx : List UInt8 → World → Prop)
    (hY : ∀ pre b W, J pre W → pre.length < width → YieldAt Fence.wide (n - 1) Try.prog l #[.int .u8 (b.toNat : Int)] W fun e W' =>
      (e = .returned (.bool true) ∧ J (pre ++ [b]) W' ∧ KpB Bw Bn W W') ∨ (e = .returned (.bool false) ∧ Jx (pre ++ [b]) W'))
    (W : World) (hw : W.cell? ⟨Bw, 0, none⟩ = some (.int .i64 (width : Int))) (hx : W.cell? ⟨Bn, 0, none⟩ = some (.int .u64 (x : Int))) (h0 : J [] W) (h8 : width ≤ 8) :
    CallsIn Fence.wide n Try.prog 107 #[.func (.yield l) #[] #[], .pointer (some ⟨Bw, 0, none⟩), .pointer (some ⟨Bn, 0, none⟩)] W fun e W' => (∃ v, e = .returned v) ∧
      ((∃ ys, ys = beBytes width x ∧ J ys W') ∨ (∃ pre, pre <+: beBytes width x ∧ Jx pre W')) := by
  refine callsIn_of_wp Try.func107 rfl trivial ?_ rfl
  simp only [Try.ntmps107, List.size_toArray, List.length_cons, List.length_nil, Nat.reduceAdd, Nat.reduceSub, Array.replicate_succ, Array.replicate_zero, List.push_toArray, List.append_toArray, List.nil_append, List.cons_append]
  gi_wp2
  refine wpIn_scope_wide ?_
  refine wpIn_seq_k (fun K hK => wpIn_label ?_)
  refine hK _ _ ?_
  clear hK
  gi_wp2
  gi_loopw [4, 6] (fun _ i wr => ∃ k : Nat, k ≤ width ∧ i = .int .i64 (k : Int) ∧ J ((beBytes width x).take k) wr ∧ wr.cell? ⟨Bw, 0, none⟩ = some (.int .i64 (width : Int)) ∧ wr.cell? ⟨Bn, 0, none⟩ = some (.int .u64 (x : Int))) (fun _ i _ => width - (intOf i).toNat)
  case atStart => exact ⟨0, Nat.zero_le _, rfl, h0, hw, hx⟩
  case round =>
    obtain ⟨k, hk, rfl, hJ, hw1, hx1⟩ := hrel
    by_cases hlt : k < width
    · have hlen : ((beBytes width x).take k).length < width := by rw [List.length_take, beBytes_length]; omega
      obtain ⟨fn, tmps, assign, body, hy, hR⟩ := hY _ (UInt8.ofNat (x / 2 ^ (8 * (width - 1 - k)))) wr hJ hlen
      clear hlen
      rw [u8_of_shift] at hy
      gi_wp2
      refine hR.mono ?_
      rintro e W3 (⟨rfl, hJ3, hk3⟩ | ⟨rfl, hJx3⟩)
      · have hw3 := hk3.1.trans hw1
        have hx3 := hk3.2.trans hx1
        rw [← beBytes_take width x k hlt] at hJ3
        gi_wp2
        go_roundw
        case rel => exact ⟨k + 1, by omega, by go_num, hJ3, hw3, hx3⟩
        case measure => simp [intOf]; omega
      · rw [← beBytes_take width x k hlt] at hJx3
        gi_wp2
        rw [Exit.noGoto_normal]
        go_end0
        exact ⟨⟨_, rfl⟩, .inr ⟨_, List.take_prefix _ _, hJx3⟩⟩
    · have hJ' : J (beBytes width x) wr := by
        rw [List.take_of_length_le (by rw [beBytes_length]; omega)] at hJ
        exact hJ
      gi_wp2
      rw [Exit.noGoto_normal]
      go_end0
      exact ⟨⟨_, rfl⟩, .inl ⟨_, rfl, hJ'⟩⟩

set_option maxHeartbeats 1000000 in
theorem bytesOf_in (n : Nat) (width x : Nat) (w : World) :
    CallsIn Fence.wide n Try.prog 84 #[.int .i64 (width : Int), .int .u64 (x : Int)] w fun e w' => e = .returned (.func (.func 107) #[] #[.pointer (some ⟨w.heap.size, 0, none⟩), .pointer (some ⟨w.heap.size + 1, 0, none⟩)]) ∧
      w' = (w.alloc (.cells #[.int .i64 (width : Int)] 3)).alloc (.cells #[.int .u64 (x : Int)] 75) := by
  refine callsIn_of_wp Try.func84 rfl trivial ?_ rfl
  simp only [Try.ntmps84, List.size_toArray, List.length_cons, List.length_nil, Nat.reduceAdd, Nat.reduceSub, Array.replicate_succ, Array.replicate_zero, List.push_toArray, List.append_toArray, List.nil_append, List.cons_append]
  gi_wp2
  go_ret
  exact ⟨rfl, rfl⟩

theorem bytesOf_stops (n : Nat) (hn : 1 ≤ n) (Bw Bn width x : Nat) (w : World) (hBw : Bw < w.heap.size) (hBn : Bn < w.heap.size)
    (hw : w.cell? ⟨Bw, 0, none⟩ = some (.int .i64 (width : Int))) (hx : w.cell? ⟨Bn, 0, none⟩ = some (.int .u64 (x : Int))) (h8 : width ≤ 8) :
    SeqStopsK Fence.wide n Try.prog 107 #[.pointer (some ⟨Bw, 0, none⟩), .pointer (some ⟨Bn, 0, none⟩)] (fun b : UInt8 => #[Value.int .u8 (b.toNat : Int)]) (KpB Bw Bn) (fun ys => ys = beBytes width x) (fun pre => pre <+: beBytes width x) width w := fun l J Jx W hW _ _ hY h0 =>
  bytesOf1_in n hn l Bw Bn width x J Jx hY W ((hW.cell (p := ⟨Bw, 0, none⟩) hBw).trans hw) ((hW.cell (p := ⟨Bn, 0, none⟩) hBn).trans hx) h0 h8

/-! A round's operation is carried out as everywhere, unless it defers. -/
section
variable {F : Fence} {n : Nat} {P : Program} {ops : Array Oper} {Q : Exit → Act → World → Prop} {md : Region.Mode}
theorem wpIn_inRound {o : Oper} {a : Act} {w : World} {K : Act → World → Prop} (l : Nat) (hro : F.round = none) (hd : ∀ c, o.op ≠ .defer c) (h : o.wpIn F n P a w K Q) : o.wpIn (F.inRound l) n P a w K Q := by
  unfold Oper.wpIn at *
  refine ⟨h.1, ?_⟩
  rw [Fence.inRound_round, Oper.semAt_some _ _ _ hd]
  have h2 := h.2
  rw [hro, Oper.semAt_none] at h2
  exact h2
theorem wpOpIn_inRound {i : Nat} {a : Act} {w : World} {K : Act → World → Prop} (l : Nat) (hro : F.round = none) (hd : ∀ (i : Nat) (o : Oper) c, ops[i]? = some o → o.op ≠ .defer c) (h : wpOpIn F n P ops Q i K a w) : wpOpIn (F.inRound l) n P ops Q i K a w := by
  unfold wpOpIn at *
  split
  · rename_i ho; simpa [ho] using h
  · rename_i o ho
    simp only [ho] at h
    split
    · rename_i hw; simp only [hw, if_true] at h; exact wpIn_inRound l hro (hd i o · ho) h
    · rename_i hw; simp only [hw] at h; exact h
theorem wpAnyIn_inRound (l : Nat) (hro : F.round = none) (hd : ∀ (i : Nat) (o : Oper) c, ops[i]? = some o → o.op ≠ .defer c) : ∀ (fuel : Nat) (listed : Array Bool) (a : Act) (w : World), wpAnyIn F n P md ops Q fuel listed a w → wpAnyIn (F.inRound l) n P md ops Q fuel listed a w
  | 0, _, _, _, h => h
  | fuel + 1, _, _, _, h => ⟨h.1, fun i hi => wpOpIn_inRound l hro hd (wpOpIn_mono (fun a w => wpAnyIn_inRound l hro hd fuel _ a w) (h.2 i hi))⟩

theorem stepIn_append_src {w : World} {o : Oper} {a : Act} {K : Act → World → Prop} {E : Prop} (hro : F.round = none) (hgd : o.guard = none) (s x : Operand) (t : TypeId)
    (ho : o.op = .call { callee := .builtin .append, args := #[s, x], argTypes := #[t, t] })
    (base : Nat) (e : TypeId) (i : TypeInfo) (ht : P.underlying t = some (.slice e)) (hi : P.info? e = some i) (hz : i.zero = some (.int .u8 0)) (hsize : i.size = 1) (hby : i.bytes = 1)
    (v : Value) (k : Nat) (xs : List Value) (hs : a.eval s = v) (hown : w.ownsRow base e 1 v k xs)
    (A : Option Addr) (m c : Nat) (b : List UInt8) (hx : a.eval x = .slice A m c) (hr : Src w A m b) (hlen : k + m ≤ 1099511627776) (hbase : base ≤ w.heap.size)
    (h : ∀ v' w', w'.ownsRow base e 1 v' (k + m) (xs ++ bv b) → w.grownBy w' v.ownBlock → (v'.ownBlock = v.ownBlock ∨ v'.ownBlock = some w.heap.size) → K (a.put o.dst v') w') :
    if Region.wanted o (yielded ops a.tmps) = true then Oper.wpIn F n P o a w K Q else E := by
  have hw : Region.wanted o (yielded ops a.tmps) = true := by simp [Region.wanted, hgd]
  rw [if_pos hw]
  obtain ⟨v', w', hrun, h2, h3, h4⟩ := run_append_src (P := P) w base t o.type e i ht hi hz hsize hby v k xs hown A m c b hr hlen hbase
  unfold Oper.wpIn
  refine ⟨fun f hf => ?_, ?_⟩
  · simp [Oper.about, ho, Target.leads, resolve] at hf
  · rw [hro, Oper.semAt_none]
    unfold execOp
    simp only [ho, resolve, invoke, builtin, Sem.run_bind, Sem.run_pure, Result.andThen_ok, List.map_toArray, List.map_cons, List.map_nil, hs, hx, hrun]
    exact h v' w' h2 h3 h4
end

end Go.Proofs.Ytljcaigaofalbaa
