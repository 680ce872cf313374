/- The iterator byTurns: by its contract. No condition. -/
import Derived.Test.YtchfponnajednaaATurn
namespace Go.Proofs.Ytchfponnajednaa
open Go.RowKit Go.Shelf
attribute [local go_sem] Oper.semAt_some

theorem PileAt.same {A B : World} {p nx : Nat} {v : Value} {l : List En} (h : PileAt A p v nx l) (hb : ∀ i, (i = p ∨ some i = v.ownBlock) → B.heap[i]? = A.heap[i]?) : PileAt B p v nx l := by
  refine ⟨(hb p (.inl rfl)).trans h.whole, h.row.1, ?_⟩
  rcases h.row.2 with h0 | ⟨g, cap, cur, rfl, h1, h2, h3⟩
  · exact .inl h0
  · exact .inr ⟨g, cap, cur, rfl, h1, (hb g (.inr rfl)).trans h2, h3⟩

/-- The blocks of a pile. -/
def pileT (p : Nat) (v : Value) : Nat → Prop := fun i => i = p ∨ some i = v.ownBlock
/-- .. and the box of its interface. -/
def pileK (Bh p : Nat) (v : Value) : Nat → Prop := fun i => i = Bh ∨ pileT p v i
/-- A pile from which k have been taken. -/
def pileE (p : Nat) (v : Value) (nx : Nat) (L : List En) (k : Nat) (B : World) : Prop := ∃ v' l', PileAt B p v' nx l' ∧ Heap l' ∧ l'.Perm (L.drop k) ∧ v'.ownBlock = v.ownBlock
theorem pileE_same {Bh p nx : Nat} {v : Value} {L : List En} (k : Nat) (A B : World) (hb : ∀ i, pileK Bh p v i → B.heap[i]? = A.heap[i]?) (h : pileE p v nx L k A) : pileE p v nx L k B := by
  obtain ⟨v', l', h1, h2, h3, h4⟩ := h
  exact ⟨v', l', h1.same (fun i hi => hb i (.inr (by unfold pileT; rw [← h4]; exact hi))), h2, h3, h4⟩
/-- What a round is handed. -/
def encA (L : List En) (k : Nat) : Array Value := #[.agg (L.getD (k - 1) default).e.cells.toArray]

set_option maxHeartbeats 1000000 in
theorem byTurns_in (n : Nat) (x : Value) (t : TypeId) (w : World) :
    CallsIn Fence.wide n Try.prog 38 #[.iface t x] w fun e w' => e = .returned (.func (.func 43) #[] #[.pointer (some ⟨w.heap.size, 0, none⟩)]) ∧
      w' = w.alloc (.cells #[.iface t x] 87) := by
  have hmf : ∀ (fn : Fn) (first cap : Array Value) (w : World), (Instr.makeFunc fn first cap).run Try.prog w = .ok (.func fn first cap) w := fun _ _ _ _ => rfl
  refine callsIn_of_wp Try.func38 rfl trivial ?_ rfl
  simp only [Try.ntmps38, List.size_toArray, List.length_cons, List.length_nil, Nat.reduceAdd, Nat.reduceSub, Array.replicate_succ, Array.replicate_zero, List.push_toArray, List.append_toArray, List.nil_append, List.cons_append]
  gi_wp2
  go_ret
  exact ⟨rfl, rfl⟩

/-- How many a pile has. -/
def leftA (p : Nat) (w : World) : Nat := match w.cell? ⟨p, 0, none⟩ with
  | some (.slice _ n _) => n
  | _ => 0
theorem leftA_pile {w : World} {p nx n c : Nat} {A : Option Addr} {l : List En} (h : PileAt w p (.slice A n c) nx l) : leftA p w = n := by
  unfold leftA
  rw [h.cell0]

set_option maxRecDepth 100000 in
set_option maxHeartbeats 4000000 in
theorem turns_any (m : Nat) (hm : 1 ≤ m) (Bh p nx : Nat) (v : Value) (l L : List En) (w : World) (hbox : w.cell? ⟨Bh, 0, none⟩ = some (.iface 25 (.pointer (some ⟨p, 0, none⟩)))) (hT : ¬ pileT p v Bh)
    (hp : PileAt w p v nx l) (hh : Heap l) (hpm : l.Perm L) (hs : L.Pairwise lessP) (hl : L.length ≤ 1000000) :
    TurnsOf m Try.prog 43 #[.pointer (some ⟨Bh, 0, none⟩)] (encA L) L.length (pileT p v) (pileK Bh p v) (pileE p v nx L) w := fun lp J Jx W hW hJ hY h0 => by
  have hbox1 : W.cell? ⟨Bh, 0, none⟩ = some (.iface 25 (.pointer (some ⟨p, 0, none⟩))) := k_cell hW hbox
  have hp1 := hp.later hW
  have HE1 := Lib.hid (show pileE p v nx L 0 W from ⟨v, l, hp1, hh, hpm, rfl⟩)
  have HY := Lib.hid hY
  have HJ := Lib.hid hJ
  have HS := Lib.hid hs
  have HT := Lib.hid hT
  clear hY hJ hp1 hh hpm hp hW hbox hs hT
  have n1 := nil_len ⟨p, 0, none⟩
  have n2 := nil_first ⟨p, 0, none⟩
  refine callsIn_of_wp Try.func43 rfl trivial ?_ rfl
  simp only [Try.ntmps43, List.size_toArray, List.length_cons, List.length_nil, Nat.reduceAdd, Nat.reduceSub, Array.replicate_succ, Array.replicate_zero, List.push_toArray, List.append_toArray, List.nil_append, List.cons_append]
  gi_wp2
  gi_loopw [4] (fun _ wr => ∃ k : Nat, k ≤ L.length ∧ J k wr ∧ pileE p v nx L k wr ∧ wr.cell? ⟨Bh, 0, none⟩ = some (.iface 25 (.pointer (some ⟨p, 0, none⟩)))) (fun _ wr => leftA p wr)
  case atStart => exact ⟨0, Nat.zero_le _, h0, HE1.out, hbox1⟩
  case round =>
    obtain ⟨k, hk, hJk, ⟨v1, l1, hp1, hh1, hpm1, ho1⟩, hbx⟩ := hrel
    clear hbox1 h0 HE1
    have hlen := hpm1.length_eq
    rw [List.length_drop] at hlen
    by_cases hlt : k < L.length
    · obtain ⟨x, hx⟩ : ∃ x, x = L.getD k default := ⟨_, rfl⟩
      have hdr : L.drop k = x :: L.drop (k + 1) := by
        rw [List.drop_eq_getElem_cons hlt, hx, List.getD_eq_getElem?_getD, List.getElem?_eq_getElem hlt]; rfl
      rw [hdr] at hpm1
      have hsd : (x :: L.drop (k + 1)).Pairwise lessP := by rw [← hdr]; exact HS.out.sublist (List.drop_sublist _ _)
      have hhd := heap_head hh1 hpm1 hsd
      obtain ⟨g, cap, rfl, hrow, _⟩ := pile_row hp1 (by omega)
      obtain ⟨N, hN⟩ : ∃ N, l1.length = N := ⟨_, rfl⟩
      have hrow' : ∃ l2, l1 = x :: l2 := by
        cases l1 with
        | nil => simp at hlen; omega
        | cons y l2 => exact ⟨l2, by simpa using hhd⟩
      obtain ⟨l2, hl2⟩ := hrow'
      have hfirst := first_any wr g cap N x l2 (by rw [← hl2]; exact hrow) (by omega)
      have hleft := leftA_pile hp1
      rw [hN] at hp1 hleft hlen
      have hc0 := hp1.cell0
      have m1 := method_len hc0
      have m2 := method_first hc0
      have hn0 : 0 < N := by omega
      have HLN := Lib.hid hlen
      have HF := Lib.hid hfirst
      have HP := Lib.hid (And.intro hp1 (And.intro hh1 (And.intro hpm1 (And.intro hhd (And.intro hN ho1)))))
      have HX := Lib.hid hx
      have HJK := Lib.hid hJk
      have HLE := Lib.hid hleft
      clear hfirst hp1 hh1 hpm1 hhd hrow hl2 hx hdr hsd hJk hN ho1 hleft hlen
      gi_wp2_with (first
        | (refine ⟨trivial, ?_⟩; gi_at_call 29; refine (callsIn_wide.2 (len_any _ _ _ _)).mono ?_; rintro e w' ⟨rfl, rfl⟩)
        | (refine ⟨trivial, ?_⟩; gi_at_call 30; refine (callsIn_wide.2 HF.out).mono ?_; rintro e w2 ⟨rfl, hb2⟩; have hJ2 := HJ.out _ _ _ (Kept.of_below hb2 _) HJK.out; obtain ⟨fn, tmps, assign, body, hy, hR⟩ := HY.out k _ hlt hJ2; rw [encA, Nat.add_sub_cancel, ← HX.out] at hy; have HB2 := Lib.hid hb2; clear hJ2 hb2))
      refine hR.mono ?_
      rintro e W3 (⟨rfl, hJ3, hk3⟩ | ⟨rfl, hJx3, hk3⟩)
      · have hE2 := HP.out.1.later HB2.out
        have hp3 := hE2.same (fun i hi => hk3 i (.inr (by unfold pileT; rw [← HP.out.2.2.2.2.2]; rw [HP.out.2.2.2.2.1]; exact hi)))
        have hbx2 := k_cell HB2.out hbx
        have hbx3 : W3.cell? ⟨Bh, 0, none⟩ = some (.iface 25 (.pointer (some ⟨p, 0, none⟩))) := (World.cell?_of_block (a := ⟨Bh, 0, none⟩) (hk3 Bh (.inl rfl))).trans hbx2
        have hpp : PileAt W3 p (.slice (some ⟨g, 0, none⟩) l1.length cap) nx l1 := by rw [HP.out.2.2.2.2.1]; exact hp3
        have hpop := heapPop_any W3 p _ nx l1 hpp HP.out.2.1 (by rw [HP.out.2.2.2.2.1]; exact hn0) (by rw [HP.out.2.2.2.2.1, HLN.out]; omega)
        rw [HP.out.2.2.2.1] at hpop
        have hl3 := leftA_pile hp3
        have HPOP := Lib.hid hpop
        have HJ3 := Lib.hid hJ3
        have HL3 := Lib.hid hl3
        have HBX := Lib.hid hbx3
        clear hR hy hE2 hp3 hbx2 hpp hpop hJ3 hk3 hbx hl3 hc0 m1 m2
        gi_wp2_with (refine ⟨trivial, ?_⟩; gi_at_call 33; refine (callsIn_wide.2 HPOP.out).mono ?_; rintro e w4 ⟨rfl, v4, l4, hp4, hpm4, hh4, hk4, ho4⟩)
        have hT4 : Kept (pileT p v) W3 w4 := hk4.mono (fun i hi => by
          rcases hi with hi | hi
          · exact .inl hi
          · exact .inr (by rw [hi]; exact HP.out.2.2.2.2.2))
        go_roundw
        case rel => exact ⟨k + 1, by omega, HJ.out _ _ _ hT4 HJ3.out, ⟨v4, l4, hp4, hh4, (hpm4.trans HP.out.2.2.1).cons_inv, ho4.trans HP.out.2.2.2.2.2⟩, hT4.cell HBX.out HT.out⟩
        case measure =>
          obtain ⟨A4, c4, rfl⟩ := pile_slice hp4
          have h1 := hpm4.length_eq
          rw [List.length_cons, HP.out.2.2.2.2.1] at h1
          rw [leftA_pile hp4, HLE.out]
          omega
      · have hE2 := HP.out.1.later HB2.out
        have hp3 := hE2.same (fun i hi => hk3 i (.inr (by unfold pileT; rw [← HP.out.2.2.2.2.2]; rw [HP.out.2.2.2.2.1]; exact hi)))
        have hfin : pileE p v nx L k W3 := by
          refine ⟨_, l1, hp3, HP.out.2.1, ?_, by have := HP.out.2.2.2.2.2; rw [HP.out.2.2.2.2.1] at this; exact this⟩
          rw [List.drop_eq_getElem_cons hlt]
          have e : L[k] = x := by rw [HX.out, List.getD_eq_getElem?_getD, List.getElem?_eq_getElem hlt]; rfl
          rw [e]
          exact HP.out.2.2.1
        have HFIN := Lib.hid hfin
        have HJX := Lib.hid hJx3
        clear hR hy hE2 hp3 hfin hJx3 hk3 hbx hc0 m1 m2
        gi_wp2
        go_end0
        exact ⟨⟨_, rfl⟩, .inr ⟨k + 1, by omega, by omega, HJX.out, HFIN.out⟩⟩
    · obtain rfl : k = L.length := by omega
      have h0l : l1.length = 0 := by omega
      obtain ⟨A, c, rfl⟩ := pile_slice hp1
      rw [h0l] at hp1 ho1
      have hc0 := hp1.cell0
      have m1 := method_len hc0
      have HFIN := Lib.hid (show J L.length wr ∧ pileE p v nx L L.length wr from ⟨hJk, _, l1, hp1, hh1, hpm1, ho1⟩)
      clear hJk hp1 hh1 hpm1 ho1 hlen h0l hk
      gi_wp2_with (first
        | (refine ⟨trivial, ?_⟩; gi_at_call 29; refine (callsIn_wide.2 (len_any _ _ _ _)).mono ?_; rintro e w' ⟨rfl, rfl⟩))
      all_goals (first | (refine ⟨fun _ _ => trivial, ?_⟩; gi_wp2; go_end0; exact ⟨⟨_, rfl⟩, .inl HFIN.out⟩) | (refine ⟨fun _ _ => trivial, ?_⟩; gi_wp2; refine ⟨fun _ _ => trivial, ?_⟩; gi_wp2; go_end0; exact ⟨⟨_, rfl⟩, .inl HFIN.out⟩))
end Go.Proofs.Ytchfponnajednaa
