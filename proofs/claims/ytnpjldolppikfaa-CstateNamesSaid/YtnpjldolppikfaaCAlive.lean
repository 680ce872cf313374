/- The chapter's first examples: alive. -/
import Derived.Test.YtnpjldolppikfaaCEncode
import Derived.Test.YtnpjldolppikfaaCSuc
import Derived.Test.YtnpjldolppikfaaLater
namespace Go.Proofs.Ytnpjldolppikfaa
open Go.RowKit

theorem at_any (r s : Int) (w : World) : Calls Try.prog 28 #[.int .i64 r, .int .i64 s] w fun e w' => e = .returned (.agg #[.int .i64 r, .int .i64 s, .int .i64 0, .int .u16 0]) ∧ Below w.heap.size w w' := by
  go_enter Try.func28, Try.ntmps28
  go_wp2
  refine bodyPost_ret (v := .agg #[.int .i64 r, .int .i64 s, .int .i64 0, .int .u16 0]) (by simp [results, Try.results28, go_sem]) rfl ⟨rfl, ?_⟩
  exact (Below.refl _ _).alloc (Nat.le_refl _) _

theorem FreshE.opened {w w' : World} {l : List UInt8} {k : Int} {e : Ending} (h : FreshE w l k e w') : ∃ (A : Option Addr) (c : Nat), e = .returned (.tuple #[.slice A l.length c, .int .i64 k]) ∧ Src w' A l.length l ∧ l.length ≤ c ∧ (A = none → c = 0) ∧ w'.ownsRow w.heap.size 5 1 (.slice A l.length c) l.length (bv l) ∧ Below w.heap.size w w' := by
  obtain ⟨v, rfl, hown, hb⟩ := h
  obtain ⟨A, c, rfl, hc, hs, _, hn⟩ := Src.of_own hown
  exact ⟨A, c, rfl, hs, hc, fun e => (hn e).2, hown, hb⟩

theorem Later.src {w : World} {A : Option Addr} {n : Nat} {l : List UInt8} (y : Later w) (h : Src w A n l) : Src y.at_ A n l := h.below y.below
theorem Later.conv {w : World} {A : Option Addr} {n : Nat} {l : List UInt8} (y : Later w) (h : Src w A n l) (c : Nat) : (convert 26 9 (.slice A n c)).run Try.prog y.at_ = .ok (.string ⟨l.toArray⟩) y.at_ :=
  (y.src h).convert (P := Try.prog) c 26 5 9 Try.underlying26 Try.underlying5 Try.underlying9

theorem enc_ex : encV 258 3 1 257 = [0, 0, 1, 2, 3, 1, 1, 1] := by decide +kernel
theorem enc_lit (w : World) : Calls Try.prog 12 #[.agg #[.int .i64 258, .int .i64 3, .int .i64 1, .int .u16 257]] w (FreshE w [0, 0, 1, 2, 3, 1, 1, 1] 0) := by
  have h := encode_any 258 3 1 257 w (by decide)
  rw [enc_ex, show chkC 258 3 1 = 0 from by decide +kernel] at h
  exact h
theorem suc_lit (w : World) : Calls Try.prog 18 #[.agg #[.int .i64 5, .int .i64 3, .int .i64 0, .int .u16 0], .int .i64 4] w fun e w' => e = .returned (.tuple #[.agg #[.int .i64 6, .int .i64 0, .int .i64 0, .int .u16 0], .int .i64 0]) ∧ Below w.heap.size w w' := by
  refine (suc_any 5 3 0 0 4 w).mono fun e w' h => ⟨?_, h.2⟩
  rw [h.1, sucT_new (by decide +kernel) (by decide)]
  rfl

set_option maxRecDepth 100000 in
set_option maxHeartbeats 2000000 in
theorem alive4_any (w : World) : Calls Try.prog 29 #[] w fun e w' => e = .returned (.bool true) ∧ Below w.heap.size w w' := by
  go_enter Try.func29, Try.ntmps29
  go_wp2_with fail
  refine (enc_lit _).mono ?_
  rintro e w1 hf
  obtain ⟨A, c, rfl, hs, _, _, _, b1⟩ := hf.opened
  clear hf
  go_wp2_with fail
  refine (at_any _ _ _).mono ?_
  rintro e w2 ⟨rfl, b2⟩
  have hs2 := hs.below b2
  have hb2 := b1.trans (b2.mono b1.size)
  go_wp2_with fail
  refine (suc_lit _).mono ?_
  rintro e w3 ⟨rfl, b3⟩
  have hs3 := hs2.below b3
  have hb3 := hb2.trans (b3.mono hb2.size)
  have hs4 := hs3.kept ((Kept.refl Empty w3).alloc (.cells #[.int .i64 6, .int .i64 0, .int .i64 0, .int .u16 0] 25)) (fun _ _ h => h)
  have hb4 := hb3.alloc hb3.size (.cells #[.int .i64 6, .int .i64 0, .int .i64 0, .int .u16 0] 25)
  have W4 := Whole.new w3 25 #[.int .i64 6, .int .i64 0, .int .i64 0, .int .u16 0]
  clear hs b1 b2 hs2 hb2 b3 hs3 hb3
  have hal := fun W => at_any 6 0 W
  go_wp2_with fail
  obtain ⟨c0, c1, c2, c3, _⟩ := W4.four
  generalize w3.alloc (.cells #[.int .i64 6, .int .i64 0, .int .i64 0, .int .u16 0] 25) = w5 at *
  have l0 := fun y : Later w5 => y.cell c0
  have l1 := fun y : Later w5 => y.cell c1
  have l2 := fun y : Later w5 => y.cell c2
  have l3 := fun y : Later w5 => y.cell c3
  have lc : ∀ y : Later w5, (convert 26 9 (.slice A 8 c)).run Try.prog y.at_ = .ok (.string ⟨#[0, 0, 1, 2, 3, 1, 1, 1]⟩) y.at_ := fun y => y.conv hs4 c
  have HA := Lib.hid hal
  clear c0 c1 c2 c3 W4 hs4 hal
  refine wp_region_later (by kernel_rfl) (by kernel_rfl) ?_
  repeat (go_big_quiet_step ((go_at_call 28; exact later_of _ HA.out)))
  refine wpQuiet_nil ?_
  intro _ hw'
  obtain ⟨y, hw''⟩ := hw'
  subst hw''
  go_wp2
  go_ret
  exact ⟨rfl, hb4.trans (y.below.mono hb4.size)⟩

end Go.Proofs.Ytnpjldolppikfaa
