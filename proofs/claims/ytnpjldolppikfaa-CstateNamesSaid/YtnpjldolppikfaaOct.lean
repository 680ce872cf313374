/- The small functions of octet: isWidth, fits, Spoilt, Clone, each by a contract. -/
import Derived.Test.YtnpjldolppikfaaMem
import Derived.Test.YtnpjldolppikfaaProg
import Derived.BigQuiet
import Derived.Deep.QuietTactic
namespace Go.Proofs.Ytnpjldolppikfaa
open Go.RowKit

theorem shr_zero (x k : Nat) : (((x : Int) / 2 ^ k) == 0) = decide (x < 2 ^ k) := by
  have e : ((x : Int) / 2 ^ k) = ((x / 2 ^ k : Nat) : Int) := by simp
  have hp : 0 < 2 ^ k := Nat.two_pow_pos k
  rw [e, Bool.eq_iff_iff]
  simp only [beq_iff_eq, decide_eq_true_eq]
  rw [show (0 : Int) = ((0 : Nat) : Int) from rfl, Int.ofNat_inj, Nat.div_eq_zero_iff]
  omega

def isW (n : Int) : Bool := n == 1 || n == 2 || n == 4 || n == 8
def fitsW (n : Int) (x : Nat) : Bool := isW n && decide (x < 2 ^ (8 * n.toNat))

set_option maxHeartbeats 400000 in
theorem isWidth_any (n : Int) (w : World) : Calls Try.prog 64 #[.int .i64 n] w fun e w' => e = .returned (.bool (isW n)) ∧ w = w' := by
  by_cases h1 : n = 1
  · subst h1
    go_enter Try.func64, Try.ntmps64
    go_wp2
    go_ret
    exact ⟨rfl, rfl⟩
  by_cases h2 : n = 2
  · subst h2
    go_enter Try.func64, Try.ntmps64
    go_wp2
    go_ret
    exact ⟨rfl, rfl⟩
  by_cases h4 : n = 4
  · subst h4
    go_enter Try.func64, Try.ntmps64
    go_wp2
    go_ret
    exact ⟨rfl, rfl⟩
  by_cases h8 : n = 8
  · subst h8
    go_enter Try.func64, Try.ntmps64
    go_wp2
    go_ret
    exact ⟨rfl, rfl⟩
  have hv : isW n = false := by simp [isW, h1, h2, h4, h8]
  have b1 : (n == 1) = false := by simp [h1]
  have b2 : (n == 2) = false := by simp [h2]
  have b4 : (n == 4) = false := by simp [h4]
  have b8 : (n == 8) = false := by simp [h8]
  have HV := Lib.hid hv
  clear hv h1 h2 h4 h8
  go_enter Try.func64, Try.ntmps64
  go_wp2
  go_ret
  exact ⟨by rw [HV.out]; rfl, rfl⟩

/-- What an Out's three cells are. -/
structure OutCells (w : World) (a : Nat) (sp : Option Addr) (n : Int) (bad : Bool) : Prop where
  whole : Whole w a 66 #[.pointer sp, .int .i64 n, .bool bad]

set_option maxHeartbeats 400000 in
theorem spoilt_any (a : Nat) (sp : Option Addr) (n : Int) (bad : Bool) (w : World) (h : OutCells w a sp n bad) : Calls Try.prog 57 #[.pointer (some ⟨a, 0, none⟩)] w fun e w' => e = .returned (.bool bad) ∧ w = w' := by
  have hc := h.whole.cell 2
  simp at hc
  go_enter Try.func57, Try.ntmps57
  go_wp2

  go_ret
  exact ⟨rfl, rfl⟩

set_option maxHeartbeats 400000 in
theorem fits_no (n : Int) (x : Nat) (w : World) (h : isW n = false) : Calls Try.prog 58 #[.int .i64 n, .int .u64 x] w fun e w' => e = .returned (.bool (fitsW n x)) ∧ w = w' := by
  have hv : fitsW n x = false := by simp [fitsW, h]
  have HV := Lib.hid hv
  clear hv
  go_enter Try.func58, Try.ntmps58
  go_wp2_with (go_at_call 64; refine (isWidth_any _ _).mono ?_; rintro e w' ⟨rfl, rfl⟩)

  go_ret
  exact ⟨by rw [HV.out]; rfl, rfl⟩

set_option maxHeartbeats 400000 in
theorem fits_yes (n : Int) (x : Nat) (w : World) (h : isW n = true) : Calls Try.prog 58 #[.int .i64 n, .int .u64 x] w fun e w' => e = .returned (.bool (fitsW n x)) ∧ w = w' := by
  have hn : 1 ≤ n ∧ n ≤ 8 := by
    simp [isW] at h
    omega
  obtain ⟨hn1, hn2⟩ := hn
  go_enter Try.func58, Try.ntmps58
  go_wp2_with (go_at_call 64; refine (isWidth_any _ _).mono ?_; rintro e w' ⟨rfl, rfl⟩)

  go_ret
  refine ⟨?_, rfl⟩
  show Ending.returned (.bool ((x : Int) / 2 ^ (8 * n).toNat == 0)) = _
  rw [shr_zero, show (8 * n).toNat = 8 * n.toNat from by omega]
  simp [fitsW, h]

theorem fits_any (n : Int) (x : Nat) (w : World) (_ : x < 18446744073709551616) : Calls Try.prog 58 #[.int .i64 n, .int .u64 x] w fun e w' => e = .returned (.bool (fitsW n x)) ∧ w = w' := by
  cases h : isW n
  · exact fits_no n x w h
  · exact fits_yes n x w h

theorem u8_info : (Try.prog.info? 5).map (fun i => (i.zero, i.size, i.bytes)) = some (some (.int .u8 0), 1, 1) := by kernel_rfl

set_option maxHeartbeats 400000 in
theorem clone_any (A : Option Addr) (m c : Nat) (l : List UInt8) (w : World) (h : Src w A m l) (hA : A = none → c = 0) (hm : m ≤ 549755813888) :
    Calls Try.prog 61 #[.slice A m c] w fun e w' => ∃ v, e = .returned v ∧ w'.ownsRow w.heap.size 5 1 v m (bv l) ∧ Below w.heap.size w w' := by
  obtain ⟨i0, hi, hz0, hz1, hz2⟩ := info_parts u8_info
  cases A with
  | none =>
    obtain rfl := hA rfl
    have hm0 : m = 0 := by
      rcases Nat.eq_zero_or_pos m with h0 | h0
      · exact h0
      · obtain ⟨b, o, hb, _⟩ := h.2 h0
        cases hb
    subst hm0
    have hl : l = [] := List.eq_nil_of_length_eq_zero h.1
    subst hl
    have hq := fun (W : World) => Lib.run_eql_slice_nil (P := Try.prog) W 26 5 none 0 0 0 0 Try.underlying26
    go_enter Try.func61, Try.ntmps61
    go_wp2
    go_ret
    exact ⟨_, rfl, World.ownsRow_nil _ _ _ _, Below.refl _ _⟩
  | some ad =>
    have hq := fun (W : World) => Lib.run_eql_slice_nil (P := Try.prog) W 26 5 (some ad) m c 0 0 Try.underlying26
    go_enter Try.func61, Try.ntmps61
    have hb : Below w.heap.size w (w.alloc (.cells #[] 5)) := (Below.refl _ _).alloc (Nat.le_refl _) _
    go_wp2_with (at_builtin; refine wpList_append_src _ rfl (.tmp 5) (.tmp 6) _ rfl w.heap.size 5 i0 Try.underlying26 hi hz0 hz1 hz2 (.slice (some ⟨w.heap.size, 0, none⟩) 0 0) 0 [] rfl (World.ownsRow_made w #[] 0 (Nat.le_refl _) (by simp [maxLen]) rfl) (some ad) m c l rfl (h.below hb) (by omega) (by simp) ?_; intro v w1 h1 h2 h3)
    go_ret
    refine ⟨v, rfl, by simpa using h1, hb.grown h2 (by simp) (fun k hk => ?_)⟩
    simp [Value.ownBlock] at hk
    omega

/-- An Out at block a, of the blocks S: spoilt (none), or with the bytes l (some l). -/
structure OutAt (w : World) (S : Nat → Prop) (a : Nat) (st : Option (List UInt8)) : Prop where
  lt : ∀ k, S k → k < w.heap.size
  own : S a
  shape : (st = none ∧ OutCells w a none 0 true) ∨ (st = some [] ∧ OutCells w a none 0 false) ∨
    ∃ (l : List UInt8) (sb : Nat) (v : Value), st = some l ∧ OutCells w a (some ⟨sb, 0, none⟩) (l.length : Int) false ∧ S sb ∧ Whole w sb 97 #[v] ∧ w.ownsRow 0 5 1 v l.length (bv l) ∧ ∀ g, v.ownBlock = some g → S g

theorem ownsRow_base {w : World} {b b' : Nat} {e : TypeId} {size : Nat} {v : Value} {n : Nat} {xs : List Value} (h : w.ownsRow b e size v n xs) (hb : b' ≤ b) : w.ownsRow b' e size v n xs := by
  obtain ⟨h1, h2⟩ := h
  refine ⟨h1, ?_⟩
  rcases h2 with h2 | ⟨g, cap, cur, hv, hg, r⟩
  · exact .inl h2
  · exact .inr ⟨g, cap, cur, hv, by omega, r⟩

theorem ownsRow_kept {w w' : World} {S : Nat → Prop} {b : Nat} {e : TypeId} {size : Nat} {v : Value} {n : Nat} {xs : List Value} (h : w.ownsRow b e size v n xs) (hk : Kept S w w') (hS : ∀ g, v.ownBlock = some g → ¬ S g) : w'.ownsRow b e size v n xs := by
  obtain ⟨h1, h2⟩ := h
  refine ⟨h1, ?_⟩
  rcases h2 with h2 | ⟨g, cap, cur, rfl, hg, hh, r⟩
  · exact .inl h2
  · exact .inr ⟨g, cap, cur, rfl, hg, (hk.block g (Array.getElem?_eq_some_iff.1 hh).1 (hS g rfl)).trans hh, r⟩

theorem OutAt.keep {w w' : World} {S T : Nat → Prop} {a : Nat} {st : Option (List UInt8)} (h : OutAt w S a st) (hk : Kept T w w') (hT : ∀ k, S k → ¬ T k) : OutAt w' S a st := by
  refine ⟨fun k hs => Nat.lt_of_lt_of_le (h.lt k hs) hk.size, h.own, ?_⟩
  rcases h.shape with ⟨e, c⟩ | ⟨e, c⟩ | ⟨l, sb, v, e, c, hs, hw, hr, hg⟩
  · exact .inl ⟨e, ⟨c.whole.kept hk (hT _ h.own)⟩⟩
  · exact .inr (.inl ⟨e, ⟨c.whole.kept hk (hT _ h.own)⟩⟩)
  · exact .inr (.inr ⟨l, sb, v, e, ⟨c.whole.kept hk (hT _ h.own)⟩, hs, hw.kept hk (hT _ hs), ownsRow_kept hr hk (fun g hv => hT g (hg g hv)), hg⟩)

theorem OutAt.more {w : World} {S T : Nat → Prop} {a : Nat} {st : Option (List UInt8)} (h : OutAt w S a st) (hT : ∀ k, S k → T k) (hlt : ∀ k, T k → k < w.heap.size) : OutAt w T a st := by
  refine ⟨hlt, hT _ h.own, ?_⟩
  rcases h.shape with e | e | ⟨l, sb, v, e, c, hs, hw, hr, hg⟩
  · exact .inl e
  · exact .inr (.inl e)
  · exact .inr (.inr ⟨l, sb, v, e, c, hT _ hs, hw, hr, fun g hv => hT g (hg g hv)⟩)

theorem OutAt.drewN {w : World} {S : Nat → Prop} {a : Nat} {st : Option (List UInt8)} (h : OutAt w S a st) (n : Nat) : OutAt (w.drewN n) S a st :=
  h.keep ((Kept.refl Empty w).drewN n) (fun _ _ h => h)

/-- What an Out has, as a slice that leads into its own blocks. -/
def Written (w : World) (S : Nat → Prop) (st : Option (List UInt8)) (e : Ending) (w' : World) : Prop :=
  ∃ A c k, e = .returned (.slice A (st.getD []).length c) ∧ Src w A (st.getD []).length (st.getD []) ∧ (A = none → c = 0) ∧ (∀ ad, A = some ad → S ad.block) ∧ w' = w.drewN k

set_option maxHeartbeats 400000 in
theorem written_any (w : World) (S : Nat → Prop) (a : Nat) (st : Option (List UInt8)) (h : OutAt w S a st) (hlen : (st.getD []).length ≤ 549755813888) :
    Calls Try.prog 62 #[.pointer (some ⟨a, 0, none⟩)] w (Written w S st) := by
  rcases h.shape with ⟨rfl, c⟩ | ⟨rfl, c⟩ | ⟨l, sb, v, rfl, c, hs, hw, hr, hg⟩
  · have hc0 := c.whole.cell 0
    simp at hc0
    go_enter Try.func62, Try.ntmps62
    go_wp2_with (go_at_call 57; refine (spoilt_any _ _ _ _ _ c).mono ?_; rintro e w' ⟨rfl, rfl⟩)
    go_ret
    exact ⟨none, 0, 0, rfl, Src.nil _ _, fun _ => rfl, (fun _ h => by cases h), rfl⟩
  · have hc0 := c.whole.cell 0
    simp at hc0
    go_enter Try.func62, Try.ntmps62
    go_wp2_with (go_at_call 57; refine (spoilt_any _ _ _ _ _ c).mono ?_; rintro e w' ⟨rfl, rfl⟩)
    go_ret
    exact ⟨none, 0, 0, rfl, Src.nil _ _, fun _ => rfl, (fun _ h => by cases h), rfl⟩
  · simp only [Option.getD_some] at hlen
    obtain ⟨A, cap, rfl, hcap, hsrc, hA, hn⟩ := Src.of_own hr
    have hc0 := c.whole.cell 0
    have hc1 := c.whole.cell 1
    have hk0 := hw.cell 0
    simp at hc0 hc1 hk0
    go_enter Try.func62, Try.ntmps62
    go_wp2_with (go_at_call 57; refine (spoilt_any _ _ _ _ _ c).mono ?_; rintro e w' ⟨rfl, rfl⟩)
    go_quiet (fail)
    go_wp2
    go_ret
    refine ⟨A, cap, _, rfl, hsrc, fun h => (hn h).2, fun ad h => ?_, rfl⟩
    subst h
    exact hg ad.block rfl

/-- An Out with a shelf that bears l; n: what its size says. -/
structure Shelf (w : World) (S : Nat → Prop) (a sb : Nat) (n : Int) (l : List UInt8) (v : Value) : Prop where
  lt : ∀ k, S k → k < w.heap.size
  own : S a
  cells : OutCells w a (some ⟨sb, 0, none⟩) n false
  mine : S sb
  whole : Whole w sb 97 #[v]
  row : w.ownsRow 0 5 1 v l.length (bv l)
  rows : ∀ g, v.ownBlock = some g → S g

section
variable {w w' : World} {S T : Nat → Prop} {a sb : Nat} {n : Int} {l : List UInt8} {v : Value}
theorem Shelf.out (h : Shelf w S a sb (l.length : Int) l v) : OutAt w S a (some l) :=
  ⟨h.lt, h.own, .inr (.inr ⟨l, sb, v, rfl, h.cells, h.mine, h.whole, h.row, h.rows⟩)⟩

theorem Grow.lt (h : ∀ k, S k → k < w.heap.size) (hz : w.heap.size ≤ w'.heap.size) : ∀ k, Grow S w w' k → k < w'.heap.size := by
  rintro k (hk | hk)
  · exact Nat.lt_of_lt_of_le (h k hk) hz
  · exact hk.2

theorem Shelf.keep (h : Shelf w S a sb n l v) (hk : Kept T w w') (hT : ∀ k, S k → ¬ T k) : Shelf w' S a sb n l v :=
  ⟨fun k hs => Nat.lt_of_lt_of_le (h.lt k hs) hk.size, h.own, ⟨h.cells.whole.kept hk (hT _ h.own)⟩, h.mine, h.whole.kept hk (hT _ h.mine), ownsRow_kept h.row hk (fun g e => hT g (h.rows g e)), h.rows⟩

theorem Shelf.more (h : Shelf w S a sb n l v) (hT : ∀ k, S k → T k) (hlt : ∀ k, T k → k < w.heap.size) : Shelf w T a sb n l v :=
  ⟨hlt, hT _ h.own, h.cells, hT _ h.mine, h.whole, h.row, fun g e => hT g (h.rows g e)⟩

theorem Shelf.apart (h : Shelf w S a sb n l v) : a ≠ sb := h.cells.whole.apart h.whole (by decide)

/-- The shelf bears a longer row, and its cell is turned to it. -/
theorem Shelf.appended (h : Shelf w S a sb n l v) {w2 : World} {v' : Value} {l' : List UInt8} (hg : w.grownBy w2 v.ownBlock) (hr : w2.ownsRow 0 5 1 v' l'.length (bv l'))
    (hv : v'.ownBlock = v.ownBlock ∨ v'.ownBlock = some w.heap.size) :
    Shelf (w2.setCell ⟨sb, 0, none⟩ v') (Grow S w (w2.setCell ⟨sb, 0, none⟩ v')) a sb n l' v' ∧ Kept S w (w2.setCell ⟨sb, 0, none⟩ v') := by
  have hk2 : Kept S w w2 := (Kept.refl S w).grown hg (fun k e => .inl (h.rows k e))
  have hk : Kept S w (w2.setCell ⟨sb, 0, none⟩ v') := hk2.setCell (.inl h.mine) _
  have hcw : Whole w2 a 66 _ := h.cells.whole.grown hg (h.cells.whole.not_row (by decide) h.row)
  have hsw : Whole w2 sb 97 _ := h.whole.grown hg (h.whole.not_row (by decide) h.row)
  refine ⟨⟨Grow.lt h.lt hk.size, .inl h.own, ⟨hcw.far h.apart _⟩, .inl h.mine, by simpa using hsw.set 0 v', ?_, fun g e => ?_⟩, hk⟩
  · refine ownsRow_kept hr ((Kept.refl (fun k => k = sb) w2).setCell (p := ⟨sb, 0, none⟩) (.inl rfl) v') (fun g e hgs => ?_)
    subst hgs
    exact hsw.not_row (by decide) hr e.symm
  · have hlt : g < w2.heap.size := (hr.lt g e).2
    rcases hv with hv | hv
    · exact .inl (h.rows g (hv.symm.trans e))
    · rw [hv] at e
      cases e
      exact .inr ⟨Nat.le_refl _, by simpa [World.setCell] using hlt⟩

theorem Shelf.sized (h : Shelf w S a sb n l v) : Shelf (w.setCell ⟨a, 1, none⟩ (.int .i64 (l.length : Int))) S a sb (l.length : Int) l v ∧ Kept S w (w.setCell ⟨a, 1, none⟩ (.int .i64 (l.length : Int))) := by
  have hk : Kept S w (w.setCell ⟨a, 1, none⟩ (.int .i64 (l.length : Int))) := (Kept.refl S w).setCell (.inl h.own) _
  refine ⟨⟨fun k hs => Nat.lt_of_lt_of_le (h.lt k hs) hk.size, h.own, ⟨by simpa using h.cells.whole.set 1 (.int .i64 (l.length : Int))⟩, h.mine, h.whole.far (Ne.symm h.apart) _, ?_, h.rows⟩, hk⟩
  refine ownsRow_kept h.row ((Kept.refl (fun k => k = a) w).setCell (p := ⟨a, 1, none⟩) (.inl rfl) _) (fun g e hga => ?_)
  subst hga
  exact h.cells.whole.not_row (by decide) h.row e.symm
end

def Shelved (w : World) (S : Nat → Prop) (a : Nat) (l : List UInt8) (e : Ending) (w' : World) : Prop :=
  ∃ sb v, e = .returned (.pointer (some ⟨sb, 0, none⟩)) ∧ Shelf w' (Grow S w w') a sb (l.length : Int) l v ∧ Kept S w w'

theorem shelved_new {w w2 : World} {S : Nat → Prop} {a : Nat} {B : Option Addr} {c2 : Nat} (h : OutAt w S a (some [])) (c : OutCells w a none 0 false) (hb : Below w.heap.size w w2)
    (hown : w2.ownsRow w.heap.size 5 1 (.slice B 0 c2) 0 (bv [])) :
    Shelved w S a [] (.returned (.pointer (some ⟨w2.heap.size, 0, none⟩))) ((w2.alloc (.cells #[.slice B 0 c2] 97)).setCell ⟨a, 0, none⟩ (.pointer (some ⟨w2.heap.size, 0, none⟩))) := by
  have hk : Kept S w ((w2.alloc (.cells #[.slice B 0 c2] 97)).setCell ⟨a, 0, none⟩ (.pointer (some ⟨w2.heap.size, 0, none⟩))) := ((Kept.of_below hb S).alloc _).setCell (.inl h.own) _
  have hz := hb.size
  have halt := c.whole.lt
  have hsz : w2.heap.size < ((w2.alloc (.cells #[.slice B 0 c2] 97)).setCell ⟨a, 0, none⟩ (.pointer (some ⟨w2.heap.size, 0, none⟩))).heap.size := by simp [World.setCell]
  refine ⟨_, _, rfl, ⟨Grow.lt h.lt hk.size, .inl h.own, ⟨by simpa using (((c.whole.below hb halt).alloc (.cells #[.slice B 0 c2] 97)).set 0 (.pointer (some ⟨w2.heap.size, 0, none⟩)))⟩, .inr ⟨hz, hsz⟩, (Whole.new w2 _ _).far (by simp; omega) _, ?_, fun g e => .inr ⟨(hown.lt g e).1, Nat.lt_trans (hown.lt g e).2 hsz⟩⟩, hk⟩
  refine ownsRow_kept (ownsRow_base (hown.alloc _) (Nat.zero_le _)) ((Kept.refl (fun k => k = a) _).setCell (p := ⟨a, 0, none⟩) (.inl rfl) _) (fun g e hga => ?_)
  have := (hown.lt g e).1
  omega

set_option maxHeartbeats 1000000 in
theorem ownShelf_any (w : World) (S : Nat → Prop) (a : Nat) (l : List UInt8) (h : OutAt w S a (some l)) (hlen : l.length ≤ 549755813888) :
    Calls Try.prog 59 #[.pointer (some ⟨a, 0, none⟩)] w (Shelved w S a l) := by
  rcases h.shape with ⟨e, c⟩ | ⟨e, c⟩ | ⟨l, sb, v, e, c, hs, hw, hr, hg⟩
  · cases e
  · cases e
    have hc0 := c.whole.cell 0
    have hf0 := c.whole.frozen 0
    simp at hc0
    go_enter Try.func59, Try.ntmps59
    go_wp2_with fail
    go_quiet (fail)
    go_wp2_with fail
    refine (written_any _ S a (some []) (h.drewN _) (by simp)).mono ?_
    rintro e w1 ⟨A, c1, k, rfl, hsrc, hA, _, rfl⟩
    go_wp2_with fail
    refine (clone_any A 0 c1 [] _ (by exact hsrc) hA (by simp)).mono ?_
    rintro e w2 ⟨v, rfl, hown, hb⟩
    obtain ⟨B, c2, rfl, _, _, _, _⟩ := Src.of_own hown
    have hcw : OutCells w2 a none 0 false := ⟨c.whole.below (w := w) (B := w.heap.size) ⟨hb.os, hb.tape, hb.output, hb.size, hb.block⟩ c.whole.lt⟩
    have hc2 := (hcw.whole.alloc (.cells #[.slice B 0 c2] 97)).cell 0
    have hf2 := (hcw.whole.alloc (.cells #[.slice B 0 c2] 97)).frozen 0
    simp at hc2
    go_wp2
    go_ret
    exact shelved_new h c ⟨hb.os, hb.tape, hb.output, hb.size, hb.block⟩ hown
  · cases e
    obtain ⟨A, cap, rfl, hcap, hsrc, hA, hn⟩ := Src.of_own hr
    have hc0 := c.whole.cell 0
    have hc1 := c.whole.cell 1
    have hk0 := hw.cell 0
    simp at hc0 hc1 hk0
    go_enter Try.func59, Try.ntmps59
    go_wp2_with fail
    go_quiet (fail)
    go_wp2
    go_ret
    exact ⟨sb, _, rfl, ⟨Grow.lt h.lt (Nat.le_refl _), .inl h.own, ⟨c.whole⟩, .inl hs, hw, hr, fun g e => .inl (hg g e)⟩, (Kept.refl _ _).drewN _⟩

end Go.Proofs.Ytnpjldolppikfaa
