/- slices.Clone at entries, and Copy of an agenda: by contracts. No condition. -/
import Derived.Test.YtchfponnajednaaATake
import Derived.Lib.SliceRun
namespace Go.Proofs.Ytchfponnajednaa
open Go.RowKit Go.Shelf

theorem own_news {w : World} {g cap n : Nat} {l : List En} (h : w.ownsRow 0 70 6 (.slice (some ⟨g, 0, none⟩) n cap) n (flatE l)) : ∀ j u, (flatE l)[j]? = some u → w.cell? ((⟨g, 0, none⟩ : Addr).add j) = some u := h.cells rfl
theorem own_blk {w : World} {base : Nat} {e : TypeId} {size n : Nat} {v : Value} {xs : List Value} (h : w.ownsRow base e size v n xs) : ∀ g, v.ownBlock = some g → g < w.heap.size := fun g hg => (h.lt g hg).2

/-- A clone of a row: in memory of its own. -/
def Cloned (w : World) (l : List En) (e : Ending) (w' : World) : Prop :=
  ∃ v', e = .returned v' ∧ w'.ownsRow 0 70 6 v' l.length (flatE l) ∧ Below w.heap.size w w' ∧ ∀ g, v'.ownBlock = some g → w.heap.size ≤ g

set_option maxRecDepth 100000 in
set_option maxHeartbeats 2000000 in
theorem clone_any (w : World) (v : Value) (l : List En) (h : w.ownsRow 0 70 6 v l.length (flatE l)) (hl : l.length ≤ 1000000) :
    Calls Try.prog 34 #[v] w (Cloned w l) := by
  obtain ⟨i0, hi, hz0, hz1, hz2⟩ := info_parts en_infos
  have qT : ∀ (w : World) (a : Option Addr) (n c n' c' : Nat), (binOp .eql 60 (.slice a n c) (.slice none n' c')).run Try.prog w = .ok (.bool a.isNone) w := fun w a n c n' c' => Lib.run_eql_slice_nil w _ _ a n c n' c' Try.underlying60
  rcases h.2 with ⟨rfl, h0⟩ | ⟨g, cap, cur, rfl, _, hg, _⟩
  · have fin : Cloned w l (.returned (.slice none 0 0)) w := ⟨_, rfl, h, Below.refl _ _, fun g hg => by simp [Value.ownBlock] at hg⟩
    have HF := Lib.hid fin
    clear fin h h0 hl
    go_enter Try.func34, Try.ntmps34
    go_wp2
    go_ret
    exact HF.out
  · have hb0 : Below w.heap.size w (w.alloc (.cells #[] 70)) := (Below.refl _ _).alloc (Nat.le_refl _) _
    have hown0 : (w.alloc (.cells #[] 70)).ownsRow 0 70 6 (.slice (some ⟨w.heap.size, 0, none⟩) 0 0) 0 [] := World.ownsRow_made w #[] 0 (Nat.zero_le _) (by simp [maxLen]) rfl
    have hnews : ∀ j u, (flatE l)[j]? = some u → (w.alloc (.cells #[] 70)).cell? ((⟨g, 0, none⟩ : Addr).add j) = some u := fun j u hu => by
      have h1 := own_news h j u hu
      rw [World.cell?_alloc_lt _ _ _ (World.block_lt_of_cell? w _ h1)]
      exact h1
    have hfl := flatE_length l
    have fin : ∀ v' w', w'.ownsRow 0 70 6 v' (0 + l.length) ([] ++ flatE l) → (w.alloc (.cells #[] 70)).grownBy w' (Value.slice (some ⟨w.heap.size, 0, none⟩) 0 0).ownBlock → (v'.ownBlock = (Value.slice (some ⟨w.heap.size, 0, none⟩) 0 0).ownBlock ∨ v'.ownBlock = some (w.alloc (.cells #[] 70)).heap.size) → Cloned w l (.returned v') w' := by
      intro v' w' h1 h2 h3
      refine ⟨v', rfl, by simpa using h1, ?_, ?_⟩
      · exact ((Kept.of_below hb0 Empty).grown h2 (fun k hk => .inr (by
          obtain rfl : w.heap.size = k := by simpa [Value.ownBlock] using hk
          exact Nat.le_refl _))).below (fun _ _ h => h)
      · intro g hg
        rcases h3 with e | e
        · rw [e] at hg
          obtain rfl : w.heap.size = g := by simpa [Value.ownBlock] using hg
          exact Nat.le_refl _
        · rw [e] at hg
          obtain rfl : w.heap.size + 1 = g := by simpa using hg
          omega
    have HF := Lib.hid fin
    clear fin h hb0 hg
    go_enter Try.func34, Try.ntmps34
    go_wp2_with (at_builtin; refine wpList_append_own_at _ rfl (.tmp 5) (.tmp 6) 60 rfl 0 70 i0 _ 6 48 Try.underlying60 hi hz0 hz1 hz2 rfl (by decide) (.slice (some ⟨w.heap.size, 0, none⟩) 0 0) 0 [] rfl hown0 ⟨g, 0, none⟩ l.length cap (flatE l) rfl hfl hnews flatE_one (by simp only [maxLen]; omega) (by omega) (Nat.zero_le _) ?_; intro v' w' h1 h2 _ h3; have HC := Lib.hid (HF.out v' w' h1 h2 h3); clear h1 h2 h3)
    go_ret
    exact HC.out

/-- A copy of an agenda: all of its blocks are new. -/
def Copied (w : World) (nx : Nat) (L : List En) (e : Ending) (w' : World) : Prop :=
  ∃ b T, e = .returned (.pointer (some ⟨b, 0, none⟩)) ∧ AgAt w' T b nx L ∧ Below w.heap.size w w' ∧ ∀ k, T k → w.heap.size ≤ k

theorem own_slice {w : World} {base : Nat} {e : TypeId} {size n : Nat} {v : Value} {xs : List Value} (h : w.ownsRow base e size v n xs) : ∃ A c, v = .slice A n c := by
  rcases h.2 with ⟨rfl, h0⟩ | ⟨g, cap, _, rfl, _⟩
  · exact ⟨none, 0, by rw [h0]⟩
  · exact ⟨_, cap, rfl⟩
theorem copy_done {w w1 w2 : World} {S : Nat → Prop} {a nx : Nat} {L l : List En} {v' : Value} (h : AgAt w S a nx L) (hb1 : Below w.heap.size w w1) (hb2 : Below w1.heap.size w1 w2) (hr : w2.ownsRow 0 70 6 v' l.length (flatE l)) (hg : ∀ g, v'.ownBlock = some g → w1.heap.size ≤ g) (hh : Heap l) (hpm : l.Perm L) :
    Copied w nx L (.returned (.pointer (some ⟨w2.heap.size + 1, 0, none⟩))) ((w2.alloc (.cells #[v', .int .u64 (nx : Int)] 63)).alloc (.cells #[.pointer (some ⟨w2.heap.size, 0, none⟩)] 27)) := by
  have hb := k_then hb2 hb1
  have hz := hb.size
  have hz1 := hb1.size
  have hW1 : Whole ((w2.alloc (.cells #[v', .int .u64 (nx : Int)] 63)).alloc (.cells #[.pointer (some ⟨w2.heap.size, 0, none⟩)] 27)) w2.heap.size 63 #[v', .int .u64 (nx : Int)] := (Whole.new w2 _ _).alloc _
  have hW2 : Whole ((w2.alloc (.cells #[v', .int .u64 (nx : Int)] 63)).alloc (.cells #[.pointer (some ⟨w2.heap.size, 0, none⟩)] 27)) (w2.heap.size + 1) 27 #[.pointer (some ⟨w2.heap.size, 0, none⟩)] := by
    have := Whole.new (w2.alloc (.cells #[v', .int .u64 (nx : Int)] 63)) 27 #[.pointer (some ⟨w2.heap.size, 0, none⟩)]
    simpa using this
  have hr2 := (hr.alloc (.cells #[v', .int .u64 (nx : Int)] 63)).alloc (.cells #[.pointer (some ⟨w2.heap.size, 0, none⟩)] 27)
  refine ⟨w2.heap.size + 1, fun k => w.heap.size ≤ k ∧ k < w2.heap.size + 2, rfl, ⟨fun k hk => by simp; omega, ⟨by omega, by omega⟩, .inr ⟨w2.heap.size, v', l, hW2, ⟨by omega, by omega⟩, fun g hg' => ?_, ⟨hW1, hr2⟩, hh, hpm⟩, h.sorted, h.turns, h.may⟩, (hb.alloc hb.size _).alloc (by simp; omega) _, fun k hk => hk.1⟩
  have := hg g hg'
  have := own_blk hr g hg'
  exact ⟨by omega, by omega⟩

set_option maxRecDepth 100000 in
set_option maxHeartbeats 2000000 in
theorem agCopy_any (w : World) (S : Nat → Prop) (a nx : Nat) (L : List En) (h : AgAt w S a nx L) (hl : L.length ≤ 1000000) :
    Calls Try.prog 18 #[.pointer (some ⟨a, 0, none⟩)] w (Copied w nx L) := by
  have HK := Lib.hid (kept_any w S a nx L h)
  have HH := Lib.hid h
  clear h
  go_enter Try.func18, Try.ntmps18
  go_wp2_with fail
  refine HK.out.mono ?_
  rintro e w1 ⟨p, v, l, rfl, hp, hh, hpm, hb, _⟩
  have hc0 := hp.cell0
  have hc1 := hp.cell1
  obtain ⟨A, c, rfl⟩ := pile_slice hp
  have hll := hpm.length_eq
  have hcl := fun W (k : PileAt W p (.slice A l.length c) nx l) => clone_any W _ l k.row (by omega)
  have HP := Lib.hid hp
  have HB := Lib.hid hb
  have HCL := Lib.hid hcl
  have HPM := Lib.hid (And.intro hh hpm)
  clear hp hb hh hpm hcl hll HK
  go_wp2
  go_region_with (go_at_call 34; refine (HCL.out _ (HP.out.later (below_drewN (Below.refl _ w1) 1))).mono ?_; rintro e w2 ⟨v2, rfl, hr2, hb2, hg2⟩; have hfin := copy_done HH.out HB.out (k_then hb2 (below_drewN (Below.refl _ w1) 1)) hr2 hg2 HPM.out.1 HPM.out.2; have HFIN := Lib.hid hfin; have hc2 : w2.cell? ⟨p, 1, none⟩ = some (.int .u64 (nx : Int)) := k_cell hb2 (show w1.drew.cell? ⟨p, 1, none⟩ = _ from hc1); obtain ⟨A2, c2, rfl⟩ := own_slice hr2; clear hr2 hb2 hg2 hfin)
  all_goals go_wp2
  all_goals go_ret
  all_goals exact HFIN.out
end Go.Proofs.Ytchfponnajednaa
