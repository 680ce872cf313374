/- container/heap.Push, Pop and Init over a pile: by contracts. No condition. -/
import Derived.Test.YtchfponnajednaaADown
namespace Go.Proofs.Ytchfponnajednaa
open Go.RowKit Go.Shelf

theorem pile_slice {w : World} {p nx : Nat} {v : Value} {l : List En} (h : PileAt w p v nx l) : ∃ A c, v = .slice A l.length c := by
  rcases h.row.2 with ⟨rfl, h0⟩ | ⟨g, cap, _, rfl, _⟩
  · exact ⟨none, 0, by rw [h0]⟩
  · exact ⟨_, cap, rfl⟩
theorem heap_push_start {l : List En} {x : En} (h : Heap l) : UpAt l.length (l ++ [x]) := by
  have e : ∀ c, c < l.length → (l ++ [x]).getD c default = l.getD c default := by
    intro c hc
    simp [List.getD_eq_getElem?_getD, List.getElem?_append_left hc]
  refine ⟨fun c h0 hc hne => ?_, fun _ c _ hc hp => ?_⟩
  · rw [List.length_append] at hc
    simp at hc
    rw [e c (by omega), e _ (by omega)]
    exact h c h0 (by omega) (Nat.zero_le _)
  · rw [List.length_append] at hc
    simp at hc
    omega
theorem heap_pop_start {l : List En} (h : Heap l) (hl : 0 < l.length) : HeapFrom 1 (l.length - 1) (swapL l 0 (l.length - 1)) := by
  intro c h0 hc ha
  rw [swapL_get l 0 _ c hl (by omega), swapL_get l 0 _ _ hl (by omega), if_neg (by omega), if_neg (by omega), if_neg (by omega), if_neg (by omega)]
  exact h c h0 (by omega) (Nat.zero_le _)
/-- What is left when the last one is cut off. -/
theorem heap_pop_done {l l' : List En} (hl : 0 < l.length) (hp : l'.Perm (swapL l 0 (l.length - 1))) (hh : HeapFrom 0 (l.length - 1) l') (hs : ∀ k, l.length - 1 ≤ k → l'.getD k default = (swapL l 0 (l.length - 1)).getD k default) :
    ∃ l3, l' = l3 ++ [l.getD 0 default] ∧ (l.getD 0 default :: l3).Perm l ∧ Heap l3 ∧ l3.length = l.length - 1 := by
  have hlen : l'.length = l.length := by rw [hp.length_eq, swapL_length]
  have hlast : l'.getD (l.length - 1) default = l.getD 0 default := by
    rw [hs _ (Nat.le_refl _), swapL_get l 0 _ _ hl (by omega), if_pos rfl]
  have e : l' = l'.take (l.length - 1) ++ [l.getD 0 default] := by
    rw [← hlast]
    conv => lhs; rw [← List.take_append_drop (l.length - 1) l']
    congr 1
    rw [List.drop_eq_getElem_cons (by omega), List.drop_eq_nil_of_le (by omega)]
    simp [List.getD_eq_getElem?_getD, List.getElem?_eq_getElem (show l.length - 1 < l'.length by omega)]
  have h3 : (l'.take (l.length - 1)).length = l.length - 1 := by rw [List.length_take]; omega
  refine ⟨l'.take (l.length - 1), e, ?_, ?_, h3⟩
  · have h1 : (l'.take (l.length - 1) ++ [l.getD 0 default]).Perm l := by
      rw [← e]
      exact hp.trans (swapL_perm l 0 _ hl (by omega))
    exact (List.perm_append_comm (l₁ := [l.getD 0 default]) (l₂ := l'.take (l.length - 1))).trans h1
  · intro c h0 hc ha
    rw [h3] at hc
    have et : ∀ k, k < l.length - 1 → (l'.take (l.length - 1)).getD k default = l'.getD k default := by
      intro k hk
      simp [List.getD_eq_getElem?_getD, hk]
    rw [et c hc, et _ (by omega)]
    exact hh c h0 hc ha

set_option maxRecDepth 100000 in
set_option maxHeartbeats 2000000 in
theorem heapPush_any (w : World) (p : Nat) (v : Value) (nx : Nat) (l : List En) (x : Ev) (h : PileAt w p v nx l) (hh : Heap l) (hl : l.length < 1000000) (hnx : nx < 1000000000) :
    Calls Try.prog 32 #[.iface 25 (.pointer (some ⟨p, 0, none⟩)), .iface 36 (.agg x.cells.toArray)] w fun e w' => e = .returned (.tuple #[]) ∧
      ∃ v' l', PileAt w' p v' (nx + 1) l' ∧ l'.Perm (⟨x, nx⟩ :: l) ∧ Heap l' ∧ Kept (fun k => k = p ∨ some k = v.ownBlock) w w' ∧ (v'.ownBlock = v.ownBlock ∨ ∃ k, v'.ownBlock = some k ∧ w.heap.size ≤ k) := by
  have n1 := nil_len ⟨p, 0, none⟩
  have n2 := nil_push ⟨p, 0, none⟩
  have m2 := method_push ⟨p, 0, none⟩
  have HPU := Lib.hid (push_any w p v nx l x h (by omega) hnx)
  clear h
  generalize x.cells.toArray = cs at *
  go_enter Try.func32, Try.ntmps32
  go_wp2_with fail
  refine HPU.out.mono ?_
  rintro e w1 ⟨rfl, v1, hp1, hk1, ho1⟩
  have hlen : (l ++ [(⟨x, nx⟩ : En)]).length = l.length + 1 := by simp
  obtain ⟨g, cap, rfl, _, _⟩ := pile_row hp1 (by omega)
  rw [hlen] at hp1
  have hc1 := hp1.cell0
  have m1 := method_len hc1
  have HU := Lib.hid (up_any w1 p (nx + 1) g cap (l.length + 1) (l ++ [⟨x, nx⟩]) l.length hp1 hlen (by omega) (by omega) (heap_push_start hh))
  have HK := Lib.hid hk1
  have HO := Lib.hid ho1
  clear hp1 hk1 ho1 HPU hh hlen
  go_wp2_with (go_at_call 29; refine (len_any _ _ _ _).mono ?_; rintro e w' ⟨rfl, rfl⟩)
  refine HU.out.mono ?_
  rintro e w2 ⟨rfl, l2, hp2, hpm2, hh2, hk2⟩
  have HP2 := Lib.hid (And.intro hp2 (And.intro hpm2 (And.intro hh2 hk2)))
  clear hp2 hpm2 hh2 hk2
  go_wp2
  go_end0
  refine ⟨rfl, _, l2, HP2.out.1, HP2.out.2.1.trans (List.perm_append_comm (l₁ := l) (l₂ := [⟨x, nx⟩])), HP2.out.2.2.1, HK.out.trans HP2.out.2.2.2 (fun i hi hg => ?_), ?_⟩
  · obtain rfl : i = g := hg
    rcases HO.out with ho | ⟨k, ho, hk⟩
    · exact .inr (by rw [← ho]; rfl)
    · have : i = k := by
        have : (some i : Option Nat) = some k := ho
        injection this
      omega
  · exact HO.out

set_option maxRecDepth 100000 in
set_option maxHeartbeats 2000000 in
theorem heapPop_any (w : World) (p : Nat) (v : Value) (nx : Nat) (l : List En) (h : PileAt w p v nx l) (hh : Heap l) (h0 : 0 < l.length) (hl : l.length ≤ 1000000) :
    Calls Try.prog 33 #[.iface 25 (.pointer (some ⟨p, 0, none⟩))] w fun e w' => e = .returned (.iface 36 (.agg (l.getD 0 default).e.cells.toArray)) ∧
      ∃ v' l', PileAt w' p v' nx l' ∧ ((l.getD 0 default) :: l').Perm l ∧ Heap l' ∧ Kept (fun k => k = p ∨ some k = v.ownBlock) w w' ∧ v'.ownBlock = v.ownBlock := by
  obtain ⟨g, cap, rfl, hrow, hgp⟩ := pile_row h h0
  have n1 := nil_len ⟨p, 0, none⟩
  have n2 := nil_swap ⟨p, 0, none⟩
  have n3 := nil_pop ⟨p, 0, none⟩
  have m3 := method_pop ⟨p, 0, none⟩
  have hc := h.cell0
  have m1 := method_len hc
  have m2 := method_swap hc
  obtain ⟨n, hn⟩ : ∃ n, l.length = n := ⟨_, rfl⟩
  have hsw := pileSwap_any h rfl 0 (l.length - 1) h0 (by omega)
  have hst := heap_pop_start hh h0
  have hd := fun W (k : PileAt W p (.slice (some ⟨g, 0, none⟩) l.length cap) nx (swapL l 0 (l.length - 1))) => down_any W p nx g cap l.length _ 0 (l.length - 1) k (swapL_length _ _ _) hl (by omega) (by omega) hst
  have hdone := fun l' => heap_pop_done (l := l) (l' := l') h0
  rw [hn] at hc m1 m2 hsw hd hdone
  have hn1 : ((n - 1 : Nat) : Int) = (n : Int) - 1 := by omega
  have hn0 : 1 ≤ n := by omega
  rw [hn1] at hsw
  have hd' : ∀ W, PileAt W p (.slice (some ⟨g, 0, none⟩) n cap) nx (swapL l 0 (n - 1)) → Calls Try.prog 41 #[.iface 25 (.pointer (some ⟨p, 0, none⟩)), .int .i64 0, .int .i64 ((n : Int) - 1)] W (Downed W p nx g cap n 0 (n - 1) (swapL l 0 (n - 1))) := by
    intro W k
    rw [← hn1]
    exact hd W k
  have hz : (((0 : Nat)) : Int) = 0 := rfl
  rw [hz] at hsw
  have HS := Lib.hid hsw
  have HD := Lib.hid hd'
  have HDN := Lib.hid hdone
  have HN := Lib.hid hn
  rw [hn] at hl h0 ⊢
  clear hsw hd hd' hdone hst hn1 hz hrow h hh hn
  go_enter Try.func33, Try.ntmps33
  go_wp2_with (go_at_call 29; refine (len_any _ _ _ _).mono ?_; rintro e w' ⟨rfl, rfl⟩)
  refine HS.out.mono ?_
  rintro e w1 ⟨rfl, hp1, hk1⟩
  have HD1 := Lib.hid (HD.out _ hp1)
  have HK1 := Lib.hid hk1
  clear hp1 hk1 HD HS
  go_wp2_with fail
  refine HD1.out.mono ?_
  rintro e w2 ⟨⟨b, rfl⟩, l2, hp2, hpm2, hh2, hs2, hk2⟩
  obtain ⟨l3, rfl, hpm3, hh3, hl3⟩ := HDN.out l2 hpm2 hh2 hs2
  have HPO := Lib.hid (pop_any w2 p _ nx l3 _ hp2 (by omega))
  have HK2 := Lib.hid hk2
  have H3 := Lib.hid (And.intro hpm3 hh3)
  clear hp2 hpm2 hh2 hs2 hk2 hpm3 hh3 hl3 HDN HD1
  obtain ⟨cs, hcs⟩ : ∃ cs, cs = (l.getD 0 default).e.cells.toArray := ⟨_, rfl⟩
  rw [← hcs] at HPO
  have HCS := Lib.hid hcs
  clear hcs
  go_wp2_with fail
  refine HPO.out.mono ?_
  rintro e w3 ⟨rfl, v3, hp3, hk3, ho3⟩
  have HP3 := Lib.hid hp3
  have HK3 := Lib.hid hk3
  have HO3 := Lib.hid ho3
  clear hp3 hk3 ho3 HPO
  go_wp2
  go_ret
  refine ⟨by rw [← HCS.out]; rfl, v3, l3, HP3.out, H3.out.1, H3.out.2, ?_, HO3.out⟩
  have k1 : Kept (fun k => k = p ∨ some k = (Value.slice (some ⟨g, 0, none⟩) n cap).ownBlock) w w1 := HK1.out.mono (fun i h => .inr (by obtain rfl : i = g := h; rfl))
  exact (k1.trans HK2.out (fun i _ h => .inr (by obtain rfl : i = g := h; rfl))).trans HK3.out (fun i _ h => .inl h)

set_option maxRecDepth 100000 in
set_option maxHeartbeats 2000000 in
theorem heapInit_any (w : World) (p : Nat) (v : Value) (nx : Nat) (l : List En) (h : PileAt w p v nx l) (hl : l.length ≤ 1000000) :
    Calls Try.prog 37 #[.iface 25 (.pointer (some ⟨p, 0, none⟩))] w fun e w' => e = .returned (.tuple #[]) ∧
      ∃ l', PileAt w' p v nx l' ∧ l'.Perm l ∧ Heap l' ∧ Kept (fun k => k = p ∨ some k = v.ownBlock) w w' := by
  obtain ⟨A, c, rfl⟩ := pile_slice h
  have n1 := nil_len ⟨p, 0, none⟩
  have hc := h.cell0
  have m1 := method_len hc
  obtain ⟨n, hn⟩ : ∃ n, l.length = n := ⟨_, rfl⟩
  have HN := Lib.hid hn
  have HP := Lib.hid h
  rw [hn] at hl hc m1 HP ⊢
  clear h hn
  go_enter Try.func37, Try.ntmps37
  go_wp2_with (go_at_call 29; refine (len_any _ _ _ _).mono ?_; rintro e w' ⟨rfl, rfl⟩)
  go_loopw [3] (fun iv wr => ∃ (q : Nat) (lk : List En), iv = .int .i64 ((q : Int) - 1) ∧ 2 * q ≤ n ∧ lk.length = n ∧ PileAt wr p (.slice A n c) nx lk ∧ lk.Perm l ∧ HeapFrom q n lk ∧ Kept (fun k => k = p ∨ some k = (Value.slice A n c).ownBlock) w wr) (fun iv _ => (intOf iv + 1).toNat)
  case atStart => exact ⟨n / 2, l, by congr 1, by omega, HN.out, HP.out, List.Perm.refl _, fun c h0 hc ha => by omega, Kept.refl _ _⟩
  case round =>
    obtain ⟨q, lk, rfl, hq, hnk, hp, hperm, hh, hk⟩ := hrel
    clear hc m1 n1
    by_cases h0 : 0 < q
    · obtain ⟨q1, rfl⟩ : ∃ q1, q = q1 + 1 := ⟨q - 1, by omega⟩
      obtain ⟨g, cap, e, _, _⟩ := pile_row hp (by omega)
      rw [hnk] at e
      obtain ⟨rfl, rfl⟩ : A = some ⟨g, 0, none⟩ ∧ c = cap := by
        injection e with e1 _ e3
        exact ⟨e1, e3⟩
      have hd := down_any wr p nx g c n lk q1 n hp hnk hl (Nat.le_refl _) (by omega) hh
      have eq1 : (((q1 + 1 : Nat)) : Int) - 1 = (q1 : Int) := by omega
      have H := Lib.hid (And.intro hnk (And.intro hperm hk))
      have HD := Lib.hid hd
      rw [eq1]
      clear hp hnk hperm hh hk hd e eq1 HP HN
      go_wp2_with fail
      refine HD.out.mono ?_
      rintro e w2 ⟨⟨b, rfl⟩, l2, hp2, hpm2, hh2, _, hk2⟩
      have H2 := Lib.hid (And.intro hp2 (And.intro hpm2 (And.intro hh2 hk2)))
      clear hp2 hpm2 hh2 hk2
      go_wp2
      go_roundw
      case rel => exact ⟨q1, l2, rfl, by omega, by rw [H2.out.2.1.length_eq]; exact H.out.1, H2.out.1, H2.out.2.1.trans H.out.2.1, H2.out.2.2.1, H.out.2.2.trans H2.out.2.2.2 (fun i _ hg => .inr (by obtain rfl : i = g := hg; rfl))⟩
      case measure => simp [intOf]
    · obtain rfl : q = 0 := by omega
      have H := Lib.hid (And.intro hp (And.intro hperm (And.intro hh hk)))
      have HL := Lib.hid hnk
      clear hp hnk hperm hh hk HP HN
      go_wp2
      go_end0
      refine ⟨rfl, lk, H.out.1, H.out.2.1, ?_, H.out.2.2.2⟩
      unfold Heap
      rw [HL.out]
      exact H.out.2.2.1
end Go.Proofs.Ytchfponnajednaa
