/- slices.DeleteFunc at entries: by its contract. No condition. -/
import Derived.Test.YtchfponnajednaaADel
namespace Go.Proofs.Ytchfponnajednaa
open Go.RowKit Go.Shelf

def keepB (kind node : Int) (x : En) : Bool := !dropB kind node x
/-- What DeleteFunc answers and leaves. -/
def Deleted (w : World) (g cap : Nat) (l : List En) (e : Ending) (w' : World) : Prop :=
  e = .returned (.slice (some ⟨g, 0, none⟩) l.length cap) ∧ RowAt w' g cap l ∧ Kept (fun k => k = g) w w'

set_option maxRecDepth 100000 in
set_option maxHeartbeats 1000000 in
theorem deleteFn_any (w : World) (g cap n : Nat) (l : List En) (bk bn : Nat) (kind node : Int) (h : RowAt w g cap l) (hn : l.length = n) (hl : n ≤ 1000000) (ck : w.cell? ⟨bk, 0, none⟩ = some (.int .i64 kind)) (cn : w.cell? ⟨bn, 0, none⟩ = some (.int .i64 node)) (hbk : bk ≠ g) (hbn : bn ≠ g) :
    Calls Try.prog 35 #[.slice (some ⟨g, 0, none⟩) n cap, .func (.func 36) #[] #[.pointer (some ⟨bk, 0, none⟩), .pointer (some ⟨bn, 0, none⟩)]] w (Deleted w g cap (l.filter (keepB kind node))) := by
  have eg : ∀ args w, (callFunc 36 args).run Try.prog w = .ok (.enter 36 args) w := enters_of Try.func36 (by kernel_rfl) rfl
  have HIX := Lib.hid (indexFn_any w g cap n l bk bn kind node h hn hl ck cn)
  have hnc : n ≤ cap := by rw [← hn]; exact h.fits
  have H := Lib.hid (And.intro h (And.intro ck (And.intro cn hn)))
  clear h ck cn hn
  go_enter Try.func35, Try.ntmps35
  go_wp2_with fail
  refine HIX.out.mono ?_
  rintro e w1 ⟨hb1, (⟨rfl, hall⟩ | ⟨i0, hi0, rfl, hd0, hbefore⟩)⟩
  · have fin : Deleted w g cap (l.filter (keepB kind node)) (.returned (.slice (some ⟨g, 0, none⟩) n cap)) w1 := by
      have e : l.filter (keepB kind node) = l := by
        rw [List.filter_eq_self]
        intro x hx
        unfold keepB
        rw [hall x hx]; rfl
      rw [e]
      exact ⟨by rw [H.out.2.2.2], H.out.1.later hb1, Kept.of_below hb1 _⟩
    have HF := Lib.hid fin
    clear fin hall hb1 HIX
    go_wp2
    go_ret
    exact HF.out
  · have hne : ((i0 : Int) == -1) = false := beq_eq_false_iff_ne.2 (by omega)
    have hst : DelAt (keepB kind node) l l i0 (i0 + 1) := DelAt.start (fun k hk => by unfold keepB; rw [hbefore k hk]; rfl) hi0 (by unfold keepB; rw [hd0]; rfl)
    have hi0n : i0 < n := by rw [← H.out.2.2.2]; exact hi0
    have HST := Lib.hid (And.intro hst (And.intro hb1 (H.out.1.later hb1)))
    clear hst hd0 hbefore hb1 HIX hi0
    go_wp2
    go_loopw [5, 6] (fun iv jv wr => ∃ (i j : Nat) (lk : List En), iv = .int .i64 (i : Int) ∧ jv = .int .i64 (j : Int) ∧ i < j ∧ j ≤ n ∧ RowAt wr g cap lk ∧ Kept (fun k => k = g) w wr ∧ DelAt (keepB kind node) l lk i j) (fun _ jv _ => n - (intOf jv).toNat)
    case atStart => exact ⟨i0, i0 + 1, l, rfl, by go_num, by omega, by omega, HST.out.2.2, Kept.of_below HST.out.2.1 _, HST.out.1⟩
    case round =>
      obtain ⟨i, j, lk, rfl, rfl, hij, hjn, hrow, hk, hdel⟩ := hrel
      clear hne
      have hll : lk.length = n := by rw [hdel.len]; exact H.out.2.2.2
      by_cases hlt : j < n
      · obtain ⟨x, hx⟩ : ∃ x, x = l.getD j default := ⟨_, rfl⟩
        have hjx : lk[j]? = some x := by
          rw [hx, ← hdel.rest j (Nat.le_refl _)]
          exact getD_some (by omega)
        obtain ⟨a0, a1, a2, a3, a4, a5⟩ := six_of (hrow.cells j x hjx)
        have hck := hk.cell H.out.2.1 (fun e => hbk e)
        have hcn := hk.cell H.out.2.2.1 (fun e => hbn e)
        have hb2 : Below wr.heap.size wr (wr.alloc (.cells #[.int .i64 x.e.t, .int .i64 x.e.k, .int .i64 x.e.n, .int .i64 x.e.m, .int .i64 x.e.v, .int .u64 (x.u : Int)] 70)) := (Below.refl _ _).alloc (Nat.le_refl _) _
        have hX2 : Whole (wr.alloc (.cells #[.int .i64 x.e.t, .int .i64 x.e.k, .int .i64 x.e.n, .int .i64 x.e.m, .int .i64 x.e.v, .int .u64 (x.u : Int)] 70)) wr.heap.size 70 #[.int .i64 x.e.t, .int .i64 x.e.k, .int .i64 x.e.n, .int .i64 x.e.m, .int .i64 x.e.v, .int .u64 (x.u : Int)] := Whole.new wr _ _
        have hd := dropFn_any x bk bn kind node _ (k_cell hb2 hck) (k_cell hb2 hcn)
        have hij1 : (0 : Int) ≤ (i : Int) := by omega
        have hij2 : (i : Int) < (n : Int) := by omega
        have hij3 : (0 : Int) ≤ (j : Int) := by omega
        have hij4 : (j : Int) < (n : Int) := by omega
        have HX := Lib.hid (And.intro hx (And.intro hb2 hX2))
        have HR := Lib.hid (And.intro hrow (And.intro hk hdel))
        have HLL := Lib.hid hll
        clear hx hjx hck hcn hb2 hX2 hrow hk hdel HST hll
        cases hq : dropB kind node x
        · rw [hq] at hd
          have HD := Lib.hid hd
          have HQ := Lib.hid hq
          clear hd hq
          go_wp2_with fail
          refine HD.out.mono ?_
          rintro e w3 ⟨rfl, hb3⟩
          have hX3 := k_later hb3 HX.out.2.2
          have hb13 := k_then hb3 HX.out.2.1
          obtain ⟨cs, hcs⟩ : ∃ cs, cs = x.cells.toArray := ⟨_, rfl⟩
          have hX4 : Whole w3 wr.heap.size 70 cs := by rw [hcs]; exact hX3
          have hsz : cs.size = 6 := by rw [hcs]; rfl
          have hR3 := HR.out.1.later hb13
          have HTH := Lib.hid (show w3.there g (i * 6) cs.size by rw [hsz]; exact hR3.there i (by omega))
          have HIE := Lib.hid (show (Try.prog.info? 70).map (·.size) = some cs.size by rw [hsz]; exact en_info)
          have HON := Lib.hid (show cs.all (·.oneCell') = true by rw [hcs]; exact all_oneCell_toArray x.cells_one)
          have HR3 := Lib.hid (And.intro hR3 (And.intro hb13 hcs))
          have HX4 := Lib.hid hX4
          clear a0 a1 a2 a3 a4 a5 hX3 hX4 hb13 hR3 hb3 HD hcs hsz
          go_wp2_with (first
            | (refine wpList_load_row rfl 70 (.tmp 7) rfl wr.heap.size rfl 70 cs (0, 0) _ HX4.out Try.underlying70 rfl HIE.out ?_)
            | (refine wpList_store_mid rfl 70 (.tmp 33) (.tmp 32) rfl g (i * 6) cs rfl rfl HTH.out HIE.out HON.out ?_))
          go_roundw
          case rel =>
            have hstore := HR3.out.1.store i x (by have := HLL.out; omega)
            have hlist : cs.toList = x.cells := by rw [HR3.out.2.2]
            rw [← hlist] at hstore
            refine ⟨i + 1, j + 1, lk.set i x, by go_num, by go_num, by omega, by omega, hstore, Kept.setCells (S := fun k => k = g) (HR.out.2.1.trans (Kept.of_below HR3.out.2.1 (fun k => k = g)) (fun _ _ h => h)) g _ (.inl rfl) _, ?_⟩
            have hkk : keepB kind node (l.getD j default) = true := by rw [← HX.out.1]; unfold keepB; rw [HQ.out]; rfl
            have := HR.out.2.2.keep (by rw [H.out.2.2.2]; exact hlt) hkk
            rwa [← HX.out.1] at this
          case measure => simp [intOf]; omega
        · rw [hq] at hd
          have HD := Lib.hid hd
          have HQ := Lib.hid hq
          clear hd hq
          go_wp2_with fail
          refine HD.out.mono ?_
          rintro e w3 ⟨rfl, hb3⟩
          have HB13 := Lib.hid (k_then hb3 HX.out.2.1)
          clear a0 a1 a2 a3 a4 a5 hb3 HD
          go_wp2
          go_roundw
          case rel =>
            have hkk : keepB kind node (l.getD j default) = false := by rw [← HX.out.1]; unfold keepB; rw [HQ.out]; rfl
            exact ⟨i, j + 1, lk, rfl, by go_num, by omega, by omega, HR.out.1.later HB13.out, HR.out.2.1.trans (Kept.of_below HB13.out (fun k => k = g)) (fun _ _ h => h), HR.out.2.2.skip (by rw [H.out.2.2.2]; exact hlt) hkk⟩
          case measure => simp [intOf]; omega
      · obtain rfl : j = n := by omega
        have hne2 : ¬ cap = i := by omega
        have hne3 : ¬ i = cap := by omega
        have hcl := fun ty => run_clear_row hrow i (j - i) (cap - i) (by omega) (by omega) ty
        have e1 : (0 : Int) ≤ (i : Int) := by omega
        have e2 : (i : Int) ≤ (j : Int) := by omega
        have e3 : (j : Int) ≤ (cap : Int) := by omega
        have e4 : (i : Int) ≤ (cap : Int) := by omega
        have hdone := hdel.done
        have etk : l.take j = l := List.take_of_length_le (by rw [H.out.2.2.2]; omega)
        rw [etk] at hdone
        have hfin : Deleted w g cap (l.filter (keepB kind node)) (.returned (.slice (some ⟨g, 0, none⟩) i cap)) (wr.setCells g (i * 6) (Builtin.zeroCells #[.int .i64 0, .int .i64 0, .int .i64 0, .int .i64 0, .int .i64 0, .int .u64 0] (j - i)).toList) := by
          rw [← hdone]
          exact ⟨by rw [List.length_take, hll, Nat.min_eq_left (by omega)], hrow.wipe i (by omega) _, Kept.setCells (S := fun k => k = g) hk g _ (.inl rfl) _⟩
        have HF := Lib.hid hfin
        clear hfin hdone hdel hrow hk HST hll etk
        go_wp2
        go_ret
        exact HF.out
end Go.Proofs.Ytchfponnajednaa
