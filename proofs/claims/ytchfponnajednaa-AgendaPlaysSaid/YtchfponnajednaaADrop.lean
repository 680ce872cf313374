/- Drop of an agenda: by its contract. No condition. -/
import Derived.Test.YtchfponnajednaaADelF
namespace Go.Proofs.Ytchfponnajednaa
open Go.RowKit Go.Shelf

set_option maxRecDepth 100000 in
set_option maxHeartbeats 1000000 in
theorem deleteNo_any (w : World) (A : Option Addr) (c : Nat) (f : Value) : Calls Try.prog 35 #[.slice A 0 c, f] w fun e w' => e = .returned (.slice A 0 c) ∧ w' = w := by
  go_enter Try.func35, Try.ntmps35
  go_wp2_with (go_at_call 42; refine (indexNo_any _ _ _ _).mono ?_; rintro e w' ⟨rfl, rfl⟩)
  go_ret
  exact ⟨rfl, rfl⟩

/-- DeleteFunc, of a pile's list. -/
def DeletedV (w : World) (v : Value) (l : List En) (e : Ending) (w' : World) : Prop :=
  ∃ v', e = .returned v' ∧ v'.ownBlock = v.ownBlock ∧ w'.ownsRow 0 70 6 v' l.length (flatE l) ∧ Kept (fun k => some k = v.ownBlock) w w' ∧ ∃ A c, v' = .slice A l.length c
theorem deletePile_any (w : World) (p : Nat) (v : Value) (nx : Nat) (l : List En) (bk bn : Nat) (kind node : Int) (h : PileAt w p v nx l) (hl : l.length ≤ 1000000) (ck : w.cell? ⟨bk, 0, none⟩ = some (.int .i64 kind)) (cn : w.cell? ⟨bn, 0, none⟩ = some (.int .i64 node)) (hbk : v.ownBlock ≠ some bk) (hbn : v.ownBlock ≠ some bn) :
    Calls Try.prog 35 #[v, .func (.func 36) #[] #[.pointer (some ⟨bk, 0, none⟩), .pointer (some ⟨bn, 0, none⟩)]] w (DeletedV w v (l.filter (keepB kind node))) := by
  rcases Nat.eq_zero_or_pos l.length with h0 | h0
  · obtain rfl : l = [] := List.eq_nil_of_length_eq_zero h0
    obtain ⟨A, c, rfl⟩ := pile_slice h
    refine (deleteNo_any w A c _).mono ?_
    rintro e w' ⟨rfl, rfl⟩
    exact ⟨_, rfl, rfl, h.row, Kept.refl _ _, A, c, rfl⟩
  · obtain ⟨g, cap, rfl, hrow, _⟩ := pile_row h h0
    refine (deleteFn_any w g cap l.length l bk bn kind node hrow rfl hl ck cn (fun e => hbk (by rw [e]; rfl)) (fun e => hbn (by rw [e]; rfl))).mono ?_
    rintro e w' ⟨rfl, hr, hk⟩
    exact ⟨_, rfl, rfl, hr.own, hk.mono (fun i hi => by obtain rfl : i = g := hi; rfl), some ⟨g, 0, none⟩, cap, rfl⟩

theorem drop_done {w w2 w4 : World} {S : Nat → Prop} {a nx p : Nat} {L L' l' l : List En} {v v' : Value} (h : AgAt w S a nx L) (hb : Below w.heap.size w w2)
    (hA : Whole w2 a 27 #[.pointer (some ⟨p, 0, none⟩)] ∨ (L = [] ∧ nx = 0 ∧ Whole w2 a 27 #[.pointer none] ∧ w.heap.size ≤ p ∧ v = .slice none 0 0))
    (hp : Grow S w w2 p) (hv : ∀ g, v.ownBlock = some g → Grow S w w2 g) (hp2 : PileAt w2 p v nx l) (hp4 : PileAt w4 p v' nx l') (hk : Kept (fun k => k = p ∨ some k = v.ownBlock) w2 w4)
    (hv' : v'.ownBlock = v.ownBlock) (hh : Heap l') (hpm : l'.Perm L') (hs : L'.Sublist L) :
    AgAt w4 (Grow S w w4) a nx L' ∧ Kept S w w4 := by
  have hsz := hk.size
  have hsz2 := hb.size
  have up : ∀ g, Grow S w w2 g → Grow S w w4 g := fun g hg => by
    rcases hg with hg | hg
    · exact .inl hg
    · exact .inr ⟨hg.1, by omega⟩
  have kS : Kept S w w4 := (Kept.of_below hb S).trans hk (fun i hi e => by
    have hg : Grow S w w2 i := by
      rcases e with rfl | e
      · exact hp
      · exact hv i e.symm
    rcases hg with hg | hg
    · exact hg
    · omega)
  refine ⟨⟨Grow.lt h.lt kS.size, .inl h.own, ?_, h.sorted.sublist hs, fun x hx => h.turns x (hs.subset hx), fun x hx => h.may x (hs.subset hx)⟩, kS⟩
  rcases hA with hA | ⟨hL, hnx, hA, hpn, hvn⟩
  · have hap : a ≠ p := hA.apart hp2.whole (by decide)
    have har : some a ≠ v.ownBlock := hA.not_row (by decide) hp2.row
    exact .inr ⟨p, v', l', hA.kept hk (fun e => by rcases e with e | e; exact hap e; exact har e), up p hp, fun g hg => up g (hv g (by rw [← hv']; exact hg)), hp4, hh, hpm⟩
  · have hap : a ≠ p := hA.apart hp2.whole (by decide)
    have har : some a ≠ v.ownBlock := hA.not_row (by decide) hp2.row
    subst hL
    exact .inl ⟨hA.kept hk (fun e => by rcases e with e | e; exact hap e; exact har e), List.sublist_nil.1 hs, hnx⟩

set_option maxRecDepth 100000 in
set_option maxHeartbeats 1000000 in
theorem agDrop_any (w : World) (S : Nat → Prop) (a nx : Nat) (L : List En) (kind node : Int) (h : AgAt w S a nx L) (hl : L.length ≤ 1000000) :
    Calls Try.prog 19 #[.pointer (some ⟨a, 0, none⟩), .int .i64 kind, .int .i64 node] w fun e w' => e = .returned (.int .i64 ((L.length : Int) - ((L.filter (keepB kind node)).length : Int))) ∧ AgAt w' (Grow S w w') a nx (L.filter (keepB kind node)) ∧ Kept S w w' := by
  obtain ⟨w0, hw0⟩ : ∃ w0, w0 = (w.alloc (.cells #[.int .i64 kind] 3)).alloc (.cells #[.int .i64 node] 3) := ⟨_, rfl⟩
  have hb0 : Below w.heap.size w w0 := by rw [hw0]; exact ((Below.refl _ _).alloc (Nat.le_refl _) _).alloc (by simp) _
  have hK0 : Whole w0 w.heap.size 3 #[.int .i64 kind] := by rw [hw0]; exact (Whole.new w _ _).alloc _
  have hN0 : Whole w0 (w.heap.size + 1) 3 #[.int .i64 node] := by
    rw [hw0]
    have := Whole.new (w.alloc (.cells #[.int .i64 kind] 3)) 3 #[.int .i64 node]
    simpa using this
  have HK := Lib.hid (kept_any w0 S a nx L (h.later hb0))
  have H := Lib.hid h
  have HB0 := Lib.hid (And.intro hb0 (And.intro hK0 hN0))
  rw [hw0] at HK
  have HW0 := Lib.hid hw0
  clear h hb0 hK0 hN0 hw0
  go_enter Try.func19, Try.ntmps19
  go_wp2_with fail
  refine HK.out.mono ?_
  rintro e w1 ⟨p, v, l, rfl, hp, hh, hpm, hb, hgp, hgv, _, hA⟩
  rw [← HW0.out] at hb hgp hgv hA
  have hlen := hpm.length_eq
  have hbb := k_then hb HB0.out.1
  have hK1 := k_later hb HB0.out.2.1
  have hN1 := k_later hb HB0.out.2.2
  obtain ⟨A, c, rfl⟩ := pile_slice hp
  have hc0 := hp.cell0
  have hfr := hp.whole.frozen 0
  have hdel := deletePile_any w1 p _ nx l w.heap.size (w.heap.size + 1) kind node hp (by omega) (hK1.cell 0) (hN1.cell 0) (fun e => hK1.not_row (by decide) hp.row e.symm) (fun e => hN1.not_row (by decide) hp.row e.symm)
  have HP := Lib.hid (And.intro hp (And.intro hpm (And.intro hbb (And.intro hgp (And.intro hgv (And.intro hA hb))))))
  have HD := Lib.hid hdel
  have HLN := Lib.hid hlen
  clear hp hh hpm hbb hgp hgv hA hb hdel hlen hK1 hN1 HK
  generalize hN : l.length = N at *
  have HN := Lib.hid hN
  clear hN
  go_wp2_with (go_at_call 29; refine (len_any _ _ _ _).mono ?_; rintro e w' ⟨rfl, rfl⟩)
  refine HD.out.mono ?_
  rintro e w2 ⟨v2, rfl, ho2, hr2, hk2, A2, c2, rfl⟩
  obtain ⟨l2, hl2⟩ : ∃ l2, l2 = l.filter (keepB kind node) := ⟨_, rfl⟩
  rw [← hl2] at hr2 ho2
  have hpr : ¬ (some p = (Value.slice A N c).ownBlock) := HP.out.1.ne
  have hW2 : Whole w2 p 63 #[.slice A N c, .int .u64 (nx : Int)] := HP.out.1.whole.kept hk2 hpr
  have hc2 := hW2.cell 0
  have hf2 := hW2.frozen 0
  simp at hc2
  have k3 : Kept (fun k => k = p) w2 (w2.setCell ⟨p, 0, none⟩ (.slice A2 l2.length c2)) := Kept.setCell (S := fun k => k = p) (Kept.refl _ w2) (p := ⟨p, 0, none⟩) (.inl rfl) _
  have hp3 : PileAt (w2.setCell ⟨p, 0, none⟩ (.slice A2 l2.length c2)) p (.slice A2 l2.length c2) nx l2 :=
    ⟨hW2.set 0 _, own_kept hr2 k3 (fun g hg e => by obtain rfl : g = p := e; exact hpr (by rw [← ho2, hg]))⟩
  have hle : l2.length ≤ l.length := by rw [hl2]; exact List.length_filter_le _ _
  have hin := heapInit_any _ p _ nx l2 hp3 (by have := HN.out; have := HLN.out; omega)
  have HIN := Lib.hid hin
  have HK2 := Lib.hid (And.intro hk2 (And.intro k3 (And.intro ho2 hl2)))
  rw [← hl2]
  clear hr2 hk2 ho2 hpr hW2 k3 hp3 hin hl2 HD hle hc0 hfr
  go_wp2_with fail
  refine HIN.out.mono ?_
  rintro e w4 ⟨rfl, l4, hp4, hpm4, hh4, hk4⟩
  have hc4 := hp4.cell0
  have hkk : Kept (fun k => k = p ∨ some k = (Value.slice A N c).ownBlock) w1 w4 := by
    refine ((HK2.out.1.mono (T := fun k => k = p ∨ some k = (Value.slice A N c).ownBlock) (fun i hi => .inr hi)).trans HK2.out.2.1 (fun i _ hi => .inl hi)).trans hk4 (fun i _ hi => ?_)
    rcases hi with hi | hi
    · exact .inl hi
    · exact .inr (by rw [hi]; exact HK2.out.2.2.1)
  have hz0 := HB0.out.1.size
  have up : ∀ g, Grow S w0 w1 g → Grow S w w1 g := fun g hg => by
    rcases hg with hg | hg
    · exact .inl hg
    · exact .inr ⟨by omega, hg.2⟩
  have hA' : Whole w1 a 27 #[.pointer (some ⟨p, 0, none⟩)] ∨ (L = [] ∧ nx = 0 ∧ Whole w1 a 27 #[.pointer none] ∧ w.heap.size ≤ p ∧ Value.slice A N c = .slice none 0 0) := by
    rcases HP.out.2.2.2.2.2.1 with h1 | ⟨h1, h2, h3, h4, h5⟩
    · exact .inl h1
    · exact .inr ⟨h1, h2, h3, by omega, h5⟩
  have hfin := drop_done H.out HP.out.2.2.1 hA' (up p HP.out.2.2.2.1) (fun g hg => up g (HP.out.2.2.2.2.1 g hg)) HP.out.1 hp4 hkk HK2.out.2.2.1 hh4 (hpm4.trans (by rw [HK2.out.2.2.2]; exact HP.out.2.1.filter _)) (List.filter_sublist (p := keepB kind node) (l := L))
  have hl4 : (l2.length : Int) = ((L.filter (keepB kind node)).length : Int) := by
    rw [HK2.out.2.2.2]
    have := (HP.out.2.1.filter (keepB kind node)).length_eq
    omega
  have HF := Lib.hid hfin
  have HL4 := Lib.hid hl4
  have hln : (l2.length : Int) ≤ 1000000 := by
    have := (List.filter_sublist (p := keepB kind node) (l := L)).length_le
    omega
  have hNn : (N : Int) ≤ 1000000 := by have := HLN.out; omega
  clear hp4 hpm4 hh4 hk4 hkk hfin hl4 hA' up HIN
  generalize l2.length = n2 at *
  go_wp2_with (go_at_call 29; refine (len_any _ _ _ _).mono ?_; rintro e w' ⟨rfl, rfl⟩)
  go_ret
  exact ⟨by rw [← HL4.out, ← HLN.out]; rfl, HF.out⟩
end Go.Proofs.Ytchfponnajednaa
