/- The document's own Out: its cells, and its calls, each by a contract. -/
import Derived.Test.YtloeckflcdnmaaaRPut
import Derived.Test.YtloeckflcdnmaaaWrite
namespace Go.Proofs.Ytloeckflcdnmaaa
open Go.RowKit

/-- The document's Out at block r, of the blocks R: spoilt (none), or with the bytes l (some l). -/
structure ROut (w : World) (R : Nat → Prop) (r : Nat) (st : Option (List UInt8)) : Prop where
  lt : ∀ k, R k → k < w.heap.size
  own : R r
  shape : (st = none ∧ Whole w r 30 #[.slice none 0 0, .bool true]) ∨
    ∃ (l : List UInt8) (v : Value), st = some l ∧ Whole w r 30 #[v, .bool false] ∧ w.ownsRow 0 5 1 v l.length (bv l) ∧ ∀ g, v.ownBlock = some g → R g

section
variable {w w' w2 : World} {R T : Nat → Prop} {r : Nat} {st : Option (List UInt8)}
theorem ROut.keep (h : ROut w R r st) (hk : Kept T w w') (hT : ∀ k, R k → ¬ T k) : ROut w' R r st := by
  refine ⟨fun k hs => Nat.lt_of_lt_of_le (h.lt k hs) hk.size, h.own, ?_⟩
  rcases h.shape with ⟨e, c⟩ | ⟨l, v, e, hw, hr, hg⟩
  · exact .inl ⟨e, c.kept hk (hT _ h.own)⟩
  · exact .inr ⟨l, v, e, hw.kept hk (hT _ h.own), ownsRow_kept hr hk (fun g hv => hT g (hg g hv)), hg⟩
theorem ROut.more (h : ROut w R r st) (hT : ∀ k, R k → T k) (hlt : ∀ k, T k → k < w.heap.size) : ROut w T r st := by
  refine ⟨hlt, hT _ h.own, ?_⟩
  rcases h.shape with ⟨e, c⟩ | ⟨l, v, e, hw, hr, hg⟩
  · exact .inl ⟨e, c⟩
  · exact .inr ⟨l, v, e, hw, hr, fun g hv => hT g (hg g hv)⟩

/-- The two cells, whatever it is; its bytes as a slice. -/
theorem ROut.cells (h : ROut w R r st) : ∃ A c, Whole w r 30 #[.slice A (st.getD []).length c, .bool st.isNone] ∧ Src w A (st.getD []).length (st.getD []) ∧ ∀ ad, A = some ad → R ad.block := by
  rcases h.shape with ⟨rfl, c⟩ | ⟨l, v, rfl, hw, hr, hg⟩
  · exact ⟨none, 0, c, Src.nil _ _, fun _ h => by cases h⟩
  · obtain ⟨A, c, rfl, _, hs, hA, _⟩ := Src.of_own hr
    exact ⟨A, c, hw, hs, fun ad e => hg _ (hA ad e).1⟩

theorem ROut.new (w : World) : ROut (w.alloc (.cells #[.slice none 0 0, .bool false] 30)) (fun k => k = w.heap.size) w.heap.size (some []) :=
  ⟨fun k e => by subst e; simp, rfl, .inr ⟨[], _, rfl, Whole.new w _ _, World.ownsRow_nil _ _ _ _, fun g e => by simp [Value.ownBlock] at e⟩⟩

/-- What a call of it leaves. -/
def RTurned (w : World) (R : Nat → Prop) (r : Nat) (st : Option (List UInt8)) (e : Ending) (w' : World) : Prop :=
  e = .returned (.tuple #[]) ∧ ROut w' (Grow R w w') r st ∧ Kept R w w'

theorem rout_stays (h : ROut w R r st) : RTurned w R r st (.returned (.tuple #[])) w :=
  ⟨rfl, h.more (fun _ h => .inl h) (Grow.lt h.lt (Nat.le_refl _)), Kept.refl _ _⟩

theorem rout_spoil {u : Value} {b : Bool} (hb : Below w.heap.size w w2) (h : ROut w R r st) (hw : Whole w2 r 30 #[u, .bool b]) :
    RTurned w R r none (.returned (.tuple #[])) ((w2.setCell ⟨r, 0, none⟩ (.slice none 0 0)).setCell ⟨r, 1, none⟩ (.bool true)) := by
  have hk : Kept R w ((w2.setCell ⟨r, 0, none⟩ (.slice none 0 0)).setCell ⟨r, 1, none⟩ (.bool true)) := ((Kept.of_below hb R).setCell (p := ⟨r, 0, none⟩) (.inl h.own) _).setCell (p := ⟨r, 1, none⟩) (.inl h.own) _
  exact ⟨rfl, ⟨Grow.lt h.lt hk.size, .inl h.own, .inl ⟨rfl, by simpa using (hw.set 0 (.slice none 0 0)).set 1 (.bool true)⟩⟩, hk⟩

/-- It bears a longer row, and its cell is turned to it; w1: new memory was laid before. -/
theorem rout_appended {w1 : World} {l b : List UInt8} {v v' : Value} {m : Nat} (h : ROut w R r (some l)) (hb : Below w.heap.size w w1) (hm : b.length = m) (hw : Whole w r 30 #[v, .bool false]) (hr : w.ownsRow 0 5 1 v l.length (bv l)) (hv : ∀ g, v.ownBlock = some g → R g)
    (h1 : w2.ownsRow 0 5 1 v' (l.length + m) (bv l ++ bv b)) (h2 : w1.grownBy w2 v.ownBlock) (h3 : v'.ownBlock = v.ownBlock ∨ v'.ownBlock = some w1.heap.size) :
    RTurned w R r (some (l ++ b)) (.returned (.tuple #[])) (w2.setCell ⟨r, 0, none⟩ v') := by
  subst hm
  rw [← bv_append, ← List.length_append] at h1
  have hk2 : Kept R w w2 := (Kept.of_below hb R).grown h2 (fun k e => .inl (hv k e))
  have hk : Kept R w (w2.setCell ⟨r, 0, none⟩ v') := hk2.setCell (p := ⟨r, 0, none⟩) (.inl h.own) _
  have hw2 : Whole w2 r 30 _ := (hw.below hb hw.lt).grown h2 (hw.not_row (by decide) hr)
  refine ⟨rfl, ⟨Grow.lt h.lt hk.size, .inl h.own, .inr ⟨l ++ b, v', rfl, by simpa using hw2.set 0 v', ?_, fun g e => ?_⟩⟩, hk⟩
  · refine ownsRow_kept h1 ((Kept.refl (fun k => k = r) w2).setCell (p := ⟨r, 0, none⟩) (.inl rfl) v') (fun g e hgs => ?_)
    subst hgs
    exact hw2.not_row (by decide) h1 e.symm
  · have hlt : g < w2.heap.size := (h1.lt g e).2
    rcases h3 with h3 | h3
    · exact .inl (hv g (h3.symm.trans e))
    · rw [h3] at e
      cases e
      exact .inr ⟨hb.size, by simpa [World.setCell] using hlt⟩

theorem rowSl {base n size : Nat} {e : TypeId} {v : Value} {vs : List Value} (h : w.ownsRow base e size v n vs) : ∃ A c, v = .slice A n c := by
  rcases h.2 with ⟨rfl, rfl⟩ | ⟨g, cap, cur, rfl, _⟩
  · exact ⟨_, _, rfl⟩
  · exact ⟨_, _, rfl⟩

set_option maxHeartbeats 1000000 in
theorem rtail_any (A : Option Addr) (c : Nat) (b : List UInt8) (h : ROut w R r st) (hb : Src w A b.length b) (hlen : (st.getD []).length + b.length ≤ 549755813888) :
    Calls Try.prog 13 #[.pointer (some ⟨r, 0, none⟩), .slice A b.length c] w (RTurned w R r (st.map (· ++ b))) := by
  obtain ⟨i0, hi, hz0, hz1, hz2⟩ := info_parts u8_info
  have HH := Lib.hid h
  rcases h.shape with ⟨rfl, hw⟩ | ⟨l, v, rfl, hw, hr, hv⟩
  · have c1 := hw.cell 1
    simp at c1
    go_enter Try.func13, Try.ntmps13
    go_wp2
    go_end0
    exact rout_stays HH.out
  · simp only [Option.getD_some] at hlen
    obtain ⟨A0, c0, rfl, _⟩ := Src.of_own hr
    have d0 := hw.cell 0
    have d1 := hw.cell 1
    simp at d0 d1
    go_enter Try.func13, Try.ntmps13
    go_wp2_with (at_builtin; refine wpList_append_src _ rfl _ _ _ rfl 0 5 i0 Try.underlying28 hi hz0 hz1 hz2 (.slice A0 l.length c0) l.length (bv l) rfl hr A b.length c b rfl hb (by omega) (Nat.zero_le _) ?_; intro v2 w2 h1 h2 h3; obtain ⟨A2, c2, rfl⟩ := rowSl h1; have hw2 := hw.grown h2 (hw.not_row (by decide) hr); have g0 := hw2.cell 0; have g1 := hw2.frozen 0; simp at g0)
    go_end0
    exact rout_appended HH.out (Below.refl _ _) rfl hw hr hv h1 h2 h3

set_option maxHeartbeats 1000000 in
theorem rput_any (n : Int) (x : Nat) (h : ROut w R r st) (hx : x < 18446744073709551616) (hlen : (st.getD []).length ≤ 274877906944) :
    Calls Try.prog 11 #[.pointer (some ⟨r, 0, none⟩), .int .i64 n, .int .u64 (x : Int)] w (RTurned w R r (putSt st n x)) := by
  obtain ⟨i0, hi, hz0, hz1, hz2⟩ := info_parts u8_info
  have HH := Lib.hid h
  cases hf : fitsW n x with
  | false =>
    have e : putSt st n x = none := by simp [putSt, hf]
    rw [e]
    have HP := Lib.hid (rput_no n x hx hf w)
    obtain ⟨u, b, hw⟩ : ∃ u b, Whole w r 30 #[u, .bool b] := by
      rcases h.shape with ⟨rfl, c⟩ | ⟨l, v, rfl, hw, _⟩
      · exact ⟨_, _, c⟩
      · exact ⟨_, _, hw⟩
    have d0 := hw.cell 0
    have d1 := hw.cell 1
    have f0 := hw.frozen 0
    have f1 := hw.frozen 1
    simp at d0 d1
    cases b <;>
    · go_enter Try.func11, Try.ntmps11
      go_wp2_with (go_at_call 28; refine HP.out.mono ?_; rintro e w1 ⟨rfl, rfl⟩)
      go_end0
      exact rout_spoil (Below.refl _ _) HH.out hw
  | true =>
    have hfw := hf
    simp only [fitsW, Bool.and_eq_true, decide_eq_true_eq] at hfw
    obtain ⟨hW, hlt⟩ := hfw
    have hb : 0 ≤ n ∧ n ≤ 8 := by simp [isW] at hW; omega
    obtain ⟨k, rfl⟩ := Int.eq_ofNat_of_zero_le hb.1
    simp only [Int.toNat_natCast] at hlt
    have HP := Lib.hid (rput_yes k x hx hW hlt w)
    have e : putSt st (k : Int) x = st.map (· ++ beBytes k x) := by simp [putSt, hf]
    have hbl := beBytes_length k x
    rw [e]
    clear e hf hW hlt
    rcases h.shape with ⟨rfl, hw⟩ | ⟨l, v, rfl, hw, hr, hv⟩
    · go_enter Try.func11, Try.ntmps11
      go_wp2_with fail
      refine HP.out.mono ?_
      rintro e w1 ⟨v1, rfl, own1, b1⟩
      have hw1 := hw.below b1 hw.lt
      have d0 := hw1.cell 0
      have d1 := hw1.cell 1
      have f0 := hw1.frozen 0
      have f1 := hw1.frozen 1
      simp at d0 d1
      go_wp2
      go_end0
      exact rout_spoil b1 HH.out hw1
    · simp only [Option.getD_some] at hlen
      obtain ⟨A0, c0, rfl, _⟩ := Src.of_own hr
      go_enter Try.func11, Try.ntmps11
      go_wp2_with fail
      refine HP.out.mono ?_
      rintro e w1 ⟨v1, rfl, own1, b1⟩
      obtain ⟨B, cb, rfl, _, s1, _, _⟩ := Src.of_own own1
      have hw1 := hw.below b1 hw.lt
      have hr1 := ownsRow_kept hr (Kept.of_below b1 Empty) (fun _ _ h => h)
      have d0 := hw1.cell 0
      have d1 := hw1.cell 1
      simp at d0 d1
      go_wp2_with (at_builtin; refine wpList_append_src _ rfl _ _ _ rfl 0 5 i0 Try.underlying28 hi hz0 hz1 hz2 (.slice A0 l.length c0) l.length (bv l) rfl hr1 B k cb (beBytes k x) rfl s1 (by omega) (Nat.zero_le _) ?_; intro v2 w2 h1 h2 h3; obtain ⟨A2, c2, rfl⟩ := rowSl h1; have hw2 := hw1.grown h2 (hw1.not_row (by decide) hr1); have g0 := hw2.cell 0; have g1 := hw2.frozen 0; simp at g0)
      go_end0
      exact rout_appended HH.out b1 hbl hw hr hv h1 h2 h3
end

end Go.Proofs.Ytloeckflcdnmaaa
