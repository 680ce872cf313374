/- The document's agenda: Drop. No condition. -/
import Derived.Test.YtchfponnajednaaAPCopy
import Derived.WalkLawsBesides
namespace Go.Proofs.Ytchfponnajednaa
open Go.RowKit Go.Shelf

def keepE (kd nd : Int) (x : Ev) : Bool := decide (x.k ≠ kd) || decide (x.n ≠ nd)
theorem keep_moreE {kd nd : Int} {es P : List Ev} {j : Nat} {x : Ev} (hj : j < es.length) (hx : x = es.getD j default) (hP : P = (es.take j).filter (keepE kd nd)) :
    (keepE kd nd x = true → P ++ [x] = (es.take (j + 1)).filter (keepE kd nd)) ∧ (keepE kd nd x = false → P = (es.take (j + 1)).filter (keepE kd nd)) := by
  have ht : es.take (j + 1) = es.take j ++ [x] := by
    rw [List.take_add_one, List.getElem?_eq_getElem hj, hx]
    simp [List.getD, List.getElem?_eq_getElem hj]
  rw [ht, List.filter_append, ← hP]
  constructor
  · intro h
    rw [List.filter_cons_of_pos h, List.filter_nil]
  · intro h
    rw [List.filter_cons_of_neg (by rw [h]; simp), List.filter_nil, List.append_nil]
/-- A new row beside. -/
def RowN (w wr : World) (Z : Option Addr) (p dz : Nat) (P : List Ev) : Prop := RowV wr Z p dz P ∧ Below w.heap.size w wr ∧ ∀ k, blk Z k → w.heap.size ≤ k
theorem drop_step {w wr w5 : World} {Z Z2 : Option Addr} {p dz p2 dz2 : Nat} {P P2 : List Ev} {o : Obj} (h : RowN w wr Z p dz P) (h1 : w5.ownsRow 0 36 5 (.slice Z2 p2 dz2) p2 (flatV P2))
    (h2 : (wr.alloc o).grownBy w5 (Value.slice Z p dz).ownBlock) (h3 : (Value.slice Z2 p2 dz2).ownBlock = (Value.slice Z p dz).ownBlock ∨ (Value.slice Z2 p2 dz2).ownBlock = some (wr.alloc o).heap.size) : RowN w w5 Z2 p2 dz2 P2 := by
  obtain ⟨g1, g2, g3⟩ := h
  have hsz := g2.size
  have hb : Below w.heap.size w (wr.alloc o) := g2.alloc hsz o
  have k0 : Kept (fun k => w.heap.size ≤ k) w w5 := (Kept.of_below hb _).grown h2 (fun k hk => .inl (g3 k (RowV.own g1 hk)))
  refine ⟨h1, k0.below (fun k hk h => by omega), fun k hk => ?_⟩
  have e := RowV.blk_own (n := p2) (c := dz2) hk
  rcases h3 with h3 | h3
  · rw [e] at h3; exact g3 k (RowV.own g1 h3.symm)
  · rw [e] at h3; injection h3 with h3; simp at h3; omega
set_option maxRecDepth 100000 in
set_option maxHeartbeats 4000000 in
theorem refDrop_any (w : World) (rr : Nat) (A : Option Addr) (c : Nat) (es : List Ev) (kd nd : Int) (h : RefAt w rr A c es) (hl : es.length ≤ 100000) :
    Calls Try.prog 25 #[.pointer (some ⟨rr, 0, none⟩), .int .i64 kd, .int .i64 nd] w fun e w' => e = .returned (.int .i64 ((es.length : Int) - ((es.filter (keepE kd nd)).length : Int))) ∧ RefTo w rr A (es.filter (keepE kd nd)) w' := by
  obtain ⟨N, hN⟩ : ∃ N, N = es.length := ⟨_, rfl⟩
  rw [← hN] at hl ⊢
  have HN := Lib.hid hN
  have H := Lib.hid h
  obtain ⟨i0, hi, hy0, hy1, hy2⟩ := info_parts ev_infos
  clear h hN
  go_enter Try.func25, Try.ntmps25
  go_wp2_with fail
  go_loopw [7, 8] (fun v iv wr => ∃ (j : Nat) (P : List Ev) (Z : Option Addr) (p dz : Nat), P.length = p ∧ j ≤ N ∧ iv = .int .i64 (j : Int) ∧ P = (es.take j).filter (keepE kd nd) ∧ v = .slice Z p dz ∧ RowN w wr Z p dz P) (fun _ iv _ => N - (intOf iv).toNat)
  case atStart => exact ⟨0, [], none, 0, 0, rfl, Nat.zero_le _, rfl, rfl, rfl, RowV.nil _, Below.refl _ _, fun k hk => by obtain ⟨ad, e, _⟩ := hk; cases e⟩
  case round =>
    obtain ⟨j, P, Z, p, dz, hp, hj, rfl, hP, rfl, hro⟩ := hrel
    have HRO := Lib.hid hro
    have H2 := Lib.hid (H.out.later hro.2.1)
    have hr := H2.out.whole.cell 0
    have hrf := H2.out.whole.frozen 0
    simp at hr
    rw [← HN.out] at hr
    have HPP := Lib.hid hp
    have hpl : p ≤ 100000 := by
      have h1 : P.length ≤ (es.take j).length := by rw [hP]; exact List.length_filter_le _ _
      rw [List.length_take] at h1
      omega
    clear hro hp
    by_cases hlt : j < N
    · obtain ⟨g, o, rfl, hc⟩ := H2.out.src.at_ (i := j) (by rw [← HN.out]; exact hlt)
      obtain ⟨x, hx⟩ : ∃ x, x = es.getD j default := ⟨_, rfl⟩
      rw [← hx] at hc
      have hmore := keep_moreE (kd := kd) (nd := nd) (by rw [← HN.out]; exact hlt) hx hP
      obtain ⟨a0, a1, a2, a3, a4⟩ := five_of hc
      clear hc hx
      by_cases hkk : x.k = kd
      · by_cases hnn : x.n = nd
        · have HKE := Lib.hid (hmore.2 (by unfold keepE; simp [hkk, hnn]))
          clear hmore hP
          subst hkk hnn
          go_wp2
          go_roundw
          case rel => exact ⟨j + 1, P, Z, p, dz, HPP.out, by omega, by go_num, HKE.out, rfl, HRO.out⟩
          case measure => simp [intOf]; omega
        · have hnn2 : ¬ nd = x.n := fun h => hnn h.symm
          subst hkk
          have hke := hmore.1 (by unfold keepE; simp [hnn])
          have HS1 := Lib.hid (one_new wr x)
          have HXA := Lib.hid ((show wr.ownsRow 0 36 5 (.slice Z p dz) p (flatV P) from HRO.out.1).alloc (.cells #[.int .i64 x.t, .int .i64 x.k, .int .i64 x.n, .int .i64 x.m, .int .i64 x.v] 36))
          have HKE := Lib.hid hke
          clear hmore hP hke
          go_wp2_with (at_builtin; go_loud (refine wpList_append_evs _ rfl (.tmp 41) (.tmp 49) 29 rfl 36 i0 _ Try.underlying29 hi hy0 hy1 hy2 rfl (.slice Z p dz) p (flatV P) rfl HXA.out (some ⟨wr.heap.size, 0, none⟩) 1 1 [x] rfl HS1.out (by omega) ?_; intro v5 w5 h1 h2 h3; rw [← flatV_append] at h1; obtain ⟨Z2, dz2, rfl⟩ := own_slice h1; have HG := Lib.hid (drop_step HRO.out h1 h2 h3); clear h1 h2 h3 HXA HS1))
          go_roundw
          case rel => exact ⟨j + 1, P ++ [x], Z2, p + 1, dz2, by rw [List.length_append, HPP.out]; rfl, by omega, by go_num, HKE.out, rfl, HG.out⟩
          case measure => simp [intOf]; omega
      · have hkk2 : ¬ kd = x.k := fun h => hkk h.symm
        have hke := hmore.1 (by unfold keepE; simp [hkk])
        have HS1 := Lib.hid (one_new wr x)
        have HXA := Lib.hid ((show wr.ownsRow 0 36 5 (.slice Z p dz) p (flatV P) from HRO.out.1).alloc (.cells #[.int .i64 x.t, .int .i64 x.k, .int .i64 x.n, .int .i64 x.m, .int .i64 x.v] 36))
        have HKE := Lib.hid hke
        clear hmore hP hke
        go_wp2_with (at_builtin; go_loud (refine wpList_append_evs _ rfl (.tmp 41) (.tmp 49) 29 rfl 36 i0 _ Try.underlying29 hi hy0 hy1 hy2 rfl (.slice Z p dz) p (flatV P) rfl HXA.out (some ⟨wr.heap.size, 0, none⟩) 1 1 [x] rfl HS1.out (by omega) ?_; intro v5 w5 h1 h2 h3; rw [← flatV_append] at h1; obtain ⟨Z2, dz2, rfl⟩ := own_slice h1; have HG := Lib.hid (drop_step HRO.out h1 h2 h3); clear h1 h2 h3 HXA HS1))
        go_roundw
        case rel => exact ⟨j + 1, P ++ [x], Z2, p + 1, dz2, by rw [List.length_append, HPP.out]; rfl, by omega, by go_num, HKE.out, rfl, HG.out⟩
        case measure => simp [intOf]; omega
    · obtain rfl : j = N := by omega
      obtain rfl : P = es.filter (keepE kd nd) := by rw [hP, List.take_of_length_le (by rw [← HN.out]; exact Nat.le_refl _)]
      clear hP
      go_wp2
      go_ret
      obtain rfl := HPP.out
      have hrl := H.out.whole.lt
      obtain ⟨r1, k1⟩ := H2.out.store (A' := Z) (c' := dz) (es' := es.filter (keepE kd nd)) HRO.out.1.src HRO.out.1.cap HRO.out.1.nilCap (fun k hk => ⟨fun e => by have := HRO.out.2.2 k hk; omega, HRO.out.1.lt hk⟩)
      exact ⟨rfl, Z, dz, r1, (Kept.of_below HRO.out.2.1 _).trans k1 (fun _ _ h => h), fun k hk => .inr (HRO.out.2.2 k hk)⟩
end Go.Proofs.Ytchfponnajednaa
