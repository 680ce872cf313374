/- GroupBack, its walk. -/
import Derived.Test.YtnefjkbnolbpbaaGBack
import Derived.Test.YtnefjkbnolbpbaaGAsks
namespace Go.Proofs.Ytnefjkbnolbpbaa
open Go.RowKit

/-- What the walk is told of the callees. -/
structure BackAt (g x : Nat) (k : Int) (s : ByteArray) (l : List Int) (t : ByteArray) (wv ov c1 : Nat) (had : Bool) : Prop where
  list : ∀ W, Calls Try.prog 11 #[.int .u16 (g : Int)] W (FreshI W l)
  of_ : ∀ W A c, ISrc W A l → Calls Try.prog 32 #[.slice A l.length c] W fun e w' => e = .returned (.tuple #[.int .u16 (g : Int), .int .i64 0]) ∧ W = w'
  text : ∀ W, Calls Try.prog 36 #[.int .u16 (g : Int)] W fun e w' => e = .returned (.string t) ∧ Below W.heap.size W w'
  parse : ∀ W, Calls Try.prog 34 #[.string t] W fun e w' => e = .returned (.tuple #[.int .u16 (g : Int), .int .i64 0]) ∧ Below W.heap.size W w'
  has : ∀ W, Calls Try.prog 14 #[.int .u16 (g : Int), .int .i64 k] W fun e w' => e = .returned (.bool had) ∧ W = w'
  with_ : ∀ W, Calls Try.prog 16 #[.int .u16 (g : Int), .int .i64 k] W fun e w' => e = .returned (.int .u16 (wv : Int)) ∧ W = w'
  without : ∀ W, Calls Try.prog 18 #[.int .u16 (g : Int), .int .i64 k] W fun e w' => e = .returned (.int .u16 (ov : Int)) ∧ W = w'
  hasW : ∀ W, Calls Try.prog 14 #[.int .u16 (wv : Int), .int .i64 k] W fun e w' => e = .returned (.bool true) ∧ W = w'
  hasO : ∀ W, Calls Try.prog 14 #[.int .u16 (ov : Int), .int .i64 k] W fun e w' => e = .returned (.bool false) ∧ W = w'
  sameW : ((wv : Int) == (g : Int)) = had
  sameO : ((ov : Int) == (g : Int)) = !had
  countW : ∀ W, Calls Try.prog 20 #[.int .u16 (wv : Int)] W fun e w' => e = .returned (.int .i64 ((c1 : Int) + 1)) ∧ Below W.heap.size W w'
  countO : ∀ W, Calls Try.prog 20 #[.int .u16 (ov : Int)] W fun e w' => e = .returned (.int .i64 (c1 : Int)) ∧ Below W.heap.size W w'
  small : c1 ≤ 16

theorem back_at (g x : Nat) (s : ByteArray) (hg : g < 65536) : BackAt g x ((x : Int) % 16) s (listI g) ⟨(textG g).toArray⟩ (withG g ((x : Int) % 16)) (withoutG g ((x : Int) % 16)) (countG (withoutG g ((x : Int) % 16))) (hasG g ((x : Int) % 16)) := by
  have hn : nodeB ((x : Int) % 16) = true := node_mk (by omega)
  refine ⟨fun W => list_any g W hg, fun W A c h => ?_, fun W => text_any g W hg, fun W => ?_, fun W => has_any g _ W hg, fun W => with_any g _ W hg, fun W => without_any g _ W hg, fun W => ?_, fun W => ?_, with_same hg hn, without_same hg hn, fun W => ?_, fun W => count_b _ W (withoutG_lt _ hg), countG_le _⟩
  · refine (of_any A c (listI g) W h (by have := listI_le g; omega)).mono ?_
    rintro e w' ⟨rfl, rfl⟩
    rw [ofV_list hg, ofE_list]
    exact ⟨rfl, rfl⟩
  · refine (parse_any ⟨(textG g).toArray⟩ W).mono ?_
    rintro e w' ⟨rfl, hb⟩
    have hp : parseG (textG g) = some g := parse_text hg
    refine ⟨?_, hb⟩
    show Ending.returned (.tuple #[.int .u16 ((parV (textG g) : Nat) : Int), .int .i64 (parE (textG g))]) = _
    rw [parV, parE, hp]
    rfl
  · refine (has_any _ _ W (withG_lt _ hg)).mono ?_
    rintro e w' ⟨rfl, rfl⟩
    rw [has_with, hn]
    simp
  · refine (has_any _ _ W (withoutG_lt _ hg)).mono ?_
    rintro e w' ⟨rfl, rfl⟩
    rw [has_without, hn]
    simp
  · refine (count_b _ W (withG_lt _ hg)).mono ?_
    rintro e w' ⟨rfl, hb⟩
    rw [count_one hg hn]
    exact ⟨by simp, hb⟩

/-- What Parse of any text says, and what the text of what is read is. -/
theorem parse_cases (s : ByteArray) : (∀ W, Calls Try.prog 34 #[.string s] W fun e w' => e = .returned (.tuple #[.int .u16 0, .int .i64 2]) ∧ Below W.heap.size W w') ∨
    ∃ c : Nat, (∀ W, Calls Try.prog 34 #[.string s] W fun e w' => e = .returned (.tuple #[.int .u16 (c : Int), .int .i64 0]) ∧ Below W.heap.size W w') ∧
      ∃ t : ByteArray, (t.toList == s.toList) = true ∧ ∀ W, Calls Try.prog 36 #[.int .u16 (c : Int)] W fun e w' => e = .returned (.string t) ∧ Below W.heap.size W w' := by
  cases hp : parseG s.data.toList with
  | none =>
    refine .inl fun W => (parse_any s W).mono ?_
    rintro e w' ⟨rfl, hb⟩
    refine ⟨?_, hb⟩
    rw [parV, parE, hp]
    rfl
  | some c =>
    obtain ⟨hc, ht⟩ := parse_back hp
    refine .inr ⟨c, fun W => (parse_any s W).mono ?_, ⟨(textG c).toArray⟩, ?_, fun W => text_any c W hc⟩
    · rintro e w' ⟨rfl, hb⟩
      refine ⟨?_, hb⟩
      rw [parV, parE, hp]
      rfl
    · rw [ByteArray.toList_mk, ByteArray.toList_eq, ht]
      simp

set_option maxRecDepth 100000 in
set_option maxHeartbeats 4000000 in
theorem back_core {g x : Nat} {s : ByteArray} {l : List Int} {t : ByteArray} {wv ov c1 : Nat} {had : Bool} (hx : x < 256) (hs : s.size ≤ 9223372036854775807) (hp : BackAt g x ((x : Int) % 16) s l t wv ov c1 had) (w : World) :
    Calls Try.prog 7 #[.int .u16 (g : Int), .int .u8 (x : Int), .string s] w fun e w' => e = .returned (.bool true) ∧ Below w.heap.size w w' := by
  have HP := Lib.hid hp
  have sW := hp.sameW
  have sO := hp.sameO
  have hc16 := hp.small
  clear hp
  by_cases hlen : 100 < s.size
  · go_enter Try.func7, Try.ntmps7
    go_wp2_with fail
    refine (alive_any _).mono ?_
    rintro e w0 ⟨rfl, b0⟩
    go_wp2_with fail
    refine (HP.out.list _).mono ?_
    rintro e w1 hf
    obtain ⟨A, c, rfl, hsrc, _, b1⟩ := hf.opened
    clear hf
    have hb1 := b0.trans (b1.mono b0.size)
    clear b0 b1
    go_wp2_with fail
    refine (HP.out.of_ _ _ _ hsrc).mono ?_
    rintro e w' ⟨rfl, rfl⟩
    go_wp2_with fail
    refine (HP.out.text _).mono ?_
    rintro e w2 ⟨rfl, b2⟩
    have hb2 := hb1.trans (b2.mono hb1.size)
    clear hb1 b2 hsrc
    go_wp2_with fail
    refine (HP.out.parse _).mono ?_
    rintro e w3 ⟨rfl, b3⟩
    have hb3 := hb2.trans (b3.mono hb2.size)
    clear hb2 b3
    go_wp2_with fail
    go_ret
    exact ⟨rfl, hb3⟩
  · have hlen' : decide ((100 : Int) < (s.size : Int)) = false := decide_eq_false (by omega)
    have HPC := Lib.hid (parse_cases s)
    cases had
    all_goals
      simp only [Bool.not_false, Bool.not_true] at sO
      go_enter Try.func7, Try.ntmps7
      go_wp2_with fail
      refine (alive_any _).mono ?_
      rintro e w0 ⟨rfl, b0⟩
      go_wp2_with fail
      refine (HP.out.list _).mono ?_
      rintro e w1 hf
      obtain ⟨A, c, rfl, hsrc, _, b1⟩ := hf.opened
      clear hf
      have hb1 := b0.trans (b1.mono b0.size)
      clear b0 b1
      go_wp2_with fail
      refine (HP.out.of_ _ _ _ hsrc).mono ?_
      rintro e w' ⟨rfl, rfl⟩
      go_wp2_with fail
      refine (HP.out.text _).mono ?_
      rintro e w2 ⟨rfl, b2⟩
      have hb2 := hb1.trans (b2.mono hb1.size)
      clear hb1 b2 hsrc
      go_wp2_with fail
      refine (HP.out.parse _).mono ?_
      rintro e w3 ⟨rfl, b3⟩
      have hb3 := hb2.trans (b3.mono hb2.size)
      clear hb2 b3
      go_wp2_with fail
      refine (HP.out.has _).mono ?_
      rintro e w' ⟨rfl, rfl⟩
      go_wp2_with fail
      refine (HP.out.with_ _).mono ?_
      rintro e w' ⟨rfl, rfl⟩
      go_wp2_with fail
      refine (HP.out.without _).mono ?_
      rintro e w' ⟨rfl, rfl⟩
      go_wp2_with fail
      refine (HP.out.hasW _).mono ?_
      rintro e w' ⟨rfl, rfl⟩
      go_wp2_with fail
      refine (HP.out.hasO _).mono ?_
      rintro e w' ⟨rfl, rfl⟩
      go_wp2_with fail
      refine (HP.out.countW _).mono ?_
      rintro e w4 ⟨rfl, b4⟩
      have hb4 := hb3.trans (b4.mono hb3.size)
      clear hb3 b4
      go_wp2_with fail
      refine (HP.out.countO _).mono ?_
      rintro e w5 ⟨rfl, b5⟩
      have hb5 := hb4.trans (b5.mono hb4.size)
      clear hb4 b5
      go_wp2_with fail
      rcases HPC.out with hpn | ⟨cc, hpc, tt, htt, htx⟩
      · have HPN := Lib.hid hpn
        clear hpn
        refine (HPN.out _).mono ?_
        rintro e w6 ⟨rfl, b6⟩
        have hb6 := hb5.trans (b6.mono hb5.size)
        go_wp2_with fail
        go_ret
        exact ⟨rfl, hb6⟩
      · have HPN := Lib.hid hpc
        have HTX := Lib.hid htx
        clear hpc htx
        refine (HPN.out _).mono ?_
        rintro e w6 ⟨rfl, b6⟩
        have hb6 := hb5.trans (b6.mono hb5.size)
        go_wp2_with fail
        refine (HTX.out _).mono ?_
        rintro e w7 ⟨rfl, b7⟩
        have hb7 := hb6.trans (b7.mono hb6.size)
        go_wp2_with fail
        go_ret
        exact ⟨rfl, hb7⟩

theorem back_walk (g x : Nat) (s : ByteArray) (w : World) (hg : g < 65536) (hx : x < 256) (hs : s.size ≤ 9223372036854775807) :
    Calls Try.prog 7 #[.int .u16 (g : Int), .int .u8 (x : Int), .string s] w fun e w' => e = .returned (.bool true) ∧ Below w.heap.size w w' :=
  back_core hx hs (back_at g x s hg) w

end Go.Proofs.Ytnefjkbnolbpbaa
