/- The document's agenda: Put. No condition. -/
import Derived.Test.YtchfponnajednaaAPDrop
import Derived.WalkLawsBesides
import Derived.Deep.DrawnRows
namespace Go.Proofs.Ytchfponnajednaa
open Go.RowKit Go.Shelf
attribute [local go_sem ↓] Go.wp_at_zero Go.wp_at_succ

/-- Where an event goes: all from there on are behind it, the one before is not. -/
structure PutPlace (es : List Ev) (x : Ev) (n : Nat) : Prop where
  le : n ≤ es.length
  behind : ∀ j, n ≤ j → j < es.length → afterB (es.getD j default) x = true
  before : 0 < n → afterB (es.getD (n - 1) default) x = false
theorem aheadP_trans {x y z : Ev} (h : aheadP x y) (k : aheadP y z ∨ sameP y z) : aheadP x z := by unfold aheadP sameP at *; omega
theorem put_place {x : Ev} {nx : Nat} : ∀ {L : List En} {n : Nat}, L.Pairwise lessP → (∀ y ∈ L, y.u < nx) → PutPlace (L.map En.e) x n → (insE ⟨x, nx⟩ L).map En.e = (L.map En.e).take n ++ x :: (L.map En.e).drop n
  | [], n, _, _, h => by
    have := h.le
    simp at this
    subst this
    rfl
  | y :: l, 0, hs, ht, h => by
    have h1 := h.behind 0 (Nat.le_refl _) (by simp)
    simp [afterB] at h1
    have h2 : lessP ⟨x, nx⟩ y := .inl h1
    unfold insE
    rw [if_pos h2]
    rfl
  | y :: l, n + 1, hs, ht, h => by
    rw [List.pairwise_cons] at hs
    have hle := h.le
    simp at hle
    have hno : ¬ aheadP x y.e := fun ha => by
      have h1 := h.before (by omega)
      rw [Nat.add_sub_cancel] at h1
      simp only [afterB, decide_eq_false_iff_not] at h1
      apply h1
      cases n with
      | zero => simpa using ha
      | succ m =>
        have hm : m < l.length := by omega
        have e : (List.map En.e (y :: l)).getD (m + 1) default = (l[m]).e := by simp [List.getD, hm]
        rw [e]
        have h3 := hs.1 _ (List.getElem_mem hm)
        exact aheadP_trans ha (by rcases h3 with h3 | h3; exact .inl h3; exact .inr h3.1)
    have h2 : ¬ lessP ⟨x, nx⟩ y := fun hl => by
      rcases hl with hl | hl
      · exact hno hl
      · have := ht y (List.mem_cons_self ..)
        have := hl.2
        simp at this
        omega
    unfold insE
    rw [if_neg h2]
    have ih := put_place (L := l) (n := n) hs.2 (fun z hz => ht z (List.mem_cons_of_mem _ hz)) ⟨by simpa using hle, fun j h1 h3 => by
      have := h.behind (j + 1) (by omega) (by simpa using h3)
      simpa using this, fun h0 => by
      have := h.before (by omega)
      rw [Nat.add_sub_cancel] at this
      obtain ⟨m, rfl⟩ : ∃ m, n = m + 1 := ⟨n - 1, by omega⟩
      simpa using this⟩
    rw [List.map_cons, ih]
    rfl
theorem rown_start (w : World) : RowN w w none 0 0 [] := ⟨RowV.nil w, Below.refl _ _, fun k hk => by obtain ⟨ad, e, _⟩ := hk; cases e⟩
theorem rown_grow {w wr w5 : World} {Z Z2 : Option Addr} {p dz p2 dz2 : Nat} {P P2 : List Ev} (h : RowN w wr Z p dz P) (h1 : w5.ownsRow 0 36 5 (.slice Z2 p2 dz2) p2 (flatV P2))
    (h2 : wr.grownBy w5 (Value.slice Z p dz).ownBlock) (h3 : (Value.slice Z2 p2 dz2).ownBlock = (Value.slice Z p dz).ownBlock ∨ (Value.slice Z2 p2 dz2).ownBlock = some wr.heap.size) : RowN w w5 Z2 p2 dz2 P2 := by
  obtain ⟨g1, g2, g3⟩ := h
  have hsz := g2.size
  have k0 : Kept (fun k => w.heap.size ≤ k) w w5 := (Kept.of_below g2 _).grown h2 (fun k hk => .inl (g3 k (RowV.own g1 hk)))
  refine ⟨h1, k0.below (fun k hk h => by omega), fun k hk => ?_⟩
  have e := RowV.blk_own (n := p2) (c := dz2) hk
  rcases h3 with h3 | h3
  · rw [e] at h3; exact g3 k (RowV.own g1 h3.symm)
  · rw [e] at h3; injection h3 with h3; omega
theorem src_drop0 {w : World} {A : Option Addr} {N : Nat} {es : List Ev} (hN : N = es.length) (h : VSrc w A es.length es) : VSrc w A N (es.drop 0) := by
  subst hN
  exact h
theorem src_dropN {w : World} {A : Option Addr} {N : Nat} {es : List Ev} (hN : N = es.length) (_ : VSrc w A es.length es) : VSrc w A 0 (es.drop N) := by
  subst hN
  rw [List.drop_length]
  exact VSrc.zero _ _
theorem src_dropM {w : World} {g o N n : Nat} {es : List Ev} (hN : N = es.length) (hn : n ≤ N) (h : VSrc w (some ⟨g, o, none⟩) es.length es) : VSrc w (some ⟨g, o + n * 5, none⟩) (N - n) (es.drop n) := by
  subst hN
  exact h.drop hn
/-- What the document's Put leaves, at its end. -/
theorem put_fin {w V w8 : World} {rr : Nat} {A Z : Option Addr} {c d n : Nat} {es P : List Ev} (h : RefAt w rr A c es) (hb : Below w.heap.size w V) (hr : RowN V w8 Z n d P) (hn : n = P.length) :
    RefTo w rr A P (w8.setCell ⟨rr, 0, none⟩ (.slice Z n d)) := by
  subst hn
  have hb8 := k_then hr.2.1 hb
  obtain ⟨r1, k1⟩ := (h.later hb8).store (A' := Z) (c' := d) (es' := P) hr.1.src hr.1.cap hr.1.nilCap (fun k hk => ⟨fun e => by have h1 := hr.2.2 k hk; have h2 := h.whole.lt; have h3 := hb.size; omega, hr.1.lt hk⟩)
  exact ⟨Z, d, r1, (Kept.of_below hb8 _).trans k1 (fun _ _ h => h), fun k hk => .inr (by have := hr.2.2 k hk; have := hb.size; omega)⟩
/-- What the document's Put does. -/
def PutDone (w : World) (rr : Nat) (A : Option Addr) (es : List Ev) (x : Ev) (e : Ending) (w' : World) : Prop :=
  (okE x ∧ e = .returned (.int .i64 0) ∧ ∃ n, PutPlace es x n ∧ RefTo w rr A (es.take n ++ x :: es.drop n) w') ∨ (¬ okE x ∧ e = .returned (.int .i64 100) ∧ RefTo w rr A es w')
set_option maxRecDepth 1000000 in
set_option maxHeartbeats 4000000 in
theorem refPut_any (w : World) (rr : Nat) (A : Option Addr) (c : Nat) (es : List Ev) (x : Ev) (h : RefAt w rr A c es) (hl : es.length ≤ 1000) :
    Calls Try.prog 23 #[.pointer (some ⟨rr, 0, none⟩), evV x] w (PutDone w rr A es x) := by
  have hb : Below w.heap.size w (w.alloc (.cells #[.int .i64 x.t, .int .i64 x.k, .int .i64 x.n, .int .i64 x.m, .int .i64 x.v] 36)) := (Below.refl _ _).alloc (Nat.le_refl _) _
  have hx := Whole.new w 36 #[.int .i64 x.t, .int .i64 x.k, .int .i64 x.n, .int .i64 x.m, .int .i64 x.v]
  have H0 := Lib.hid (h.later hb)
  have HX := Lib.hid hx
  have HB := Lib.hid hb
  have HN := Lib.hid (h.to hb)
  have HH := Lib.hid h
  have hr := H0.out.whole.cell 0
  have hrf := H0.out.whole.frozen 0
  simp at hr
  obtain ⟨N, hNe⟩ : ∃ N, N = es.length := ⟨_, rfl⟩
  rw [← hNe] at hr hl
  have HNE := Lib.hid hNe
  obtain ⟨c0, c1, c2, c3, c4⟩ := five_whole hx
  have e9 : ¬ (65536 : Int) ≤ (N : Int) := by omega
  obtain ⟨i0, hi, hy0, hy1, hy2⟩ := info_parts ev_infos
  have HIN := Lib.hid (And.intro hi (And.intro hy0 (And.intro hy1 hy2)))
  clear h hb hx hNe hi hy0 hy1 hy2
  unfold evV
  go_enter Try.func23, Try.ntmps23
  by_cases q1 : x.t < 0
  · have hno : ¬ okE x := fun h => by unfold okE at h; omega
    go_wp2
    go_ret
    exact .inr ⟨hno, rfl, HN.out⟩
  by_cases q2 : 4294967296 < x.t
  · have hno : ¬ okE x := fun h => by unfold okE at h; omega
    go_wp2
    go_ret
    exact .inr ⟨hno, rfl, HN.out⟩
  by_cases q3 : x.k < 0
  · have hno : ¬ okE x := fun h => by unfold okE at h; omega
    go_wp2
    go_ret
    exact .inr ⟨hno, rfl, HN.out⟩
  by_cases q4 : x.n < 0
  · have hno : ¬ okE x := fun h => by unfold okE at h; omega
    go_wp2
    go_ret
    exact .inr ⟨hno, rfl, HN.out⟩
  by_cases q5 : x.m < 0
  · have hno : ¬ okE x := fun h => by unfold okE at h; omega
    go_wp2
    go_ret
    exact .inr ⟨hno, rfl, HN.out⟩
  have HOK := Lib.hid (show okE x from ⟨by omega, by omega, by omega, by omega, by omega⟩)
  obtain ⟨W0, hW0⟩ : ∃ W0, W0 = w.alloc (.cells #[.int .i64 x.t, .int .i64 x.k, .int .i64 x.n, .int .i64 x.m, .int .i64 x.v] 36) := ⟨_, rfl⟩
  go_wp2_with fail
  rw [← hW0] at HX H0 HB HN ⊢
  clear c0 c1 c2 c3 c4 hr hrf hW0
  generalize w.heap.size = xb at HX ⊢
  go_loopw [5] (fun iv wr => ∃ n : Nat, n ≤ N ∧ iv = .int .i64 (n : Int) ∧ Below W0.heap.size W0 wr ∧ ∀ j, n ≤ j → j < N → afterB (es.getD j default) x = true) (fun iv _ => (intOf iv).toNat)
  case atStart => exact ⟨N, Nat.le_refl _, rfl, Below.refl _ _, fun j h1 h2 => absurd h2 (by omega)⟩
  case round =>
    obtain ⟨n, hn, rfl, hb, hall⟩ := hrel
    have HALL := Lib.hid hall
    have HW := Lib.hid hb
    clear hall hb
    cases n with
    | zero =>
      have HPP := Lib.hid (show PutPlace es x 0 from ⟨Nat.zero_le _, fun j h1 h2 => HALL.out j h1 (by rw [HNE.out]; exact h2), fun h => absurd h (Nat.lt_irrefl _)⟩)
      clear HALL q1 q2 q3 q4 q5 e9
      go_upto_region 4 with fail
      go_region
      obtain ⟨V, hV⟩ : ∃ V, V = wr.drew := ⟨_, rfl⟩
      have hbV : Below wr.heap.size wr V := by rw [hV]; exact below_drewN (Below.refl _ _) 1
      rw [← hV]
      have HBV := Lib.hid (k_then (k_then hbV HW.out) HB.out)
      have HXV := Lib.hid (k_later (k_then hbV HW.out) HX.out)
      have HRV := Lib.hid (H0.out.later (k_then hbV HW.out))
      clear hV hbV
      have hcap := HRV.out.cap
      rw [← HNE.out] at hcap
      have hr := HRV.out.whole.cell 0
      have hrf := HRV.out.whole.frozen 0
      simp at hr
      rw [← HNE.out] at hr
      have hxr := HH.out.whole.lt
      cases A with
      | none =>
        have hc0 := HRV.out.nil rfl
        subst hc0
        obtain rfl : N = 0 := by omega
        have HS1 := Lib.hid (show VSrc V none 0 (es.take 0) from VSrc.zero _ _)
        go_wp2_with (first
          | (at_builtin; refine wpList_append_evs _ rfl (.tmp 59) (.tmp 65) 29 rfl 36 i0 _ Try.underlying29 HIN.out.1 HIN.out.2.1 HIN.out.2.2.1 HIN.out.2.2.2 rfl (.slice none 0 0) 0 (flatV []) rfl (RowV.nil _) none 0 0 (es.take 0) rfl HS1.out (by omega) ?_; intro v5 w5 h1 h2 h3; rw [← flatV_append, List.nil_append, Nat.zero_add] at h1; obtain ⟨B, d, rfl⟩ := own_slice h1; have HR1 := Lib.hid (rown_grow (rown_start V) h1 h2 h3); obtain ⟨c0, c1, c2, c3, c4⟩ := five_whole (k_later HR1.out.2.1 HXV.out); have HX5 := Lib.hid ((show w5.ownsRow 0 36 5 (.slice B (0) d) (0) (flatV (es.take 0)) from HR1.out.1).alloc (.cells #[.int .i64 x.t, .int .i64 x.k, .int .i64 x.n, .int .i64 x.m, .int .i64 x.v] 36)); have HS2 := Lib.hid (one_new w5 x); clear h1 h2 h3)
          | (at_builtin; refine wpList_append_evs _ rfl (.tmp 67) (.tmp 69) 29 rfl 36 i0 _ Try.underlying29 HIN.out.1 HIN.out.2.1 HIN.out.2.2.1 HIN.out.2.2.2 rfl (.slice B (0) d) (0) (flatV (es.take 0)) rfl HX5.out (some ⟨w5.heap.size, 0, none⟩) 1 1 [x] rfl HS2.out (by omega) ?_; intro v6 w6 h1 h2 h3; rw [← flatV_append] at h1; obtain ⟨B2, d2, rfl⟩ := own_slice h1; have HR2 := Lib.hid (drop_step HR1.out h1 h2 h3); have hr6 := (HRV.out.later HR2.out.2.1).whole.cell 0; have HS3 := Lib.hid (src_drop0 HNE.out (HRV.out.later HR2.out.2.1).src); simp at hr6; rw [← HNE.out] at hr6; clear h1 h2 h3 HX5 HS2 HS1 c0 c1 c2 c3 c4)
          | (at_builtin; refine wpList_append_evs _ rfl (.tmp 72) (.tmp 78) 29 rfl 36 i0 _ Try.underlying29 HIN.out.1 HIN.out.2.1 HIN.out.2.2.1 HIN.out.2.2.2 rfl (.slice B2 (0 + 1) d2) (0 + 1) (flatV (es.take (0) ++ [x])) rfl HR2.out.1 none 0 0 (es.drop (0)) rfl HS3.out (by omega) ?_; intro v7 w7 h1 h2 h3; rw [← flatV_append] at h1; obtain ⟨B3, d3, rfl⟩ := own_slice h1; have HR3 := Lib.hid (rown_grow HR2.out h1 h2 h3); have hrf7 := (HRV.out.later HR3.out.2.1).whole.frozen 0; have hr7 := (HRV.out.later HR3.out.2.1).whole.cell 0; simp at hr7; clear h1 h2 h3 HS3))
        go_ret
        have hr3 : RowN V w7 B3 (1) d3 (es.take 0 ++ x :: es.drop 0) := by
          have h := HR3.out
          rw [List.append_assoc, List.singleton_append] at h
          rw [show 1 = 0 + 1 + 0 by omega]
          exact h
        exact .inl ⟨HOK.out, rfl, 0, HPP.out, put_fin HH.out HBV.out hr3 (by rw [List.length_append, List.length_cons, List.length_take, List.length_drop, ← HNE.out]; omega)⟩
      | some ad =>
        have hnil : (0 : Int) ≤ (N : Int) := by omega
        have e2 : (0 : Int) ≤ (c : Int) := by omega
        have e3 : (N : Int) ≤ (c : Int) := by omega
        have HS1 := Lib.hid (show VSrc V (some ad) 0 (es.take 0) from VSrc.zero _ _)
        by_cases hc0 : c = 0
        · subst hc0
          obtain rfl : N = 0 := by omega
          go_wp2_with (first
            | (at_builtin; refine wpList_append_evs _ rfl (.tmp 59) (.tmp 65) 29 rfl 36 i0 _ Try.underlying29 HIN.out.1 HIN.out.2.1 HIN.out.2.2.1 HIN.out.2.2.2 rfl (.slice none 0 0) 0 (flatV []) rfl (RowV.nil _) (some ad) 0 0 (es.take 0) rfl HS1.out (by omega) ?_; intro v5 w5 h1 h2 h3; rw [← flatV_append, List.nil_append, Nat.zero_add] at h1; obtain ⟨B, d, rfl⟩ := own_slice h1; have HR1 := Lib.hid (rown_grow (rown_start V) h1 h2 h3); obtain ⟨c0, c1, c2, c3, c4⟩ := five_whole (k_later HR1.out.2.1 HXV.out); have HX5 := Lib.hid ((show w5.ownsRow 0 36 5 (.slice B (0) d) (0) (flatV (es.take 0)) from HR1.out.1).alloc (.cells #[.int .i64 x.t, .int .i64 x.k, .int .i64 x.n, .int .i64 x.m, .int .i64 x.v] 36)); have HS2 := Lib.hid (one_new w5 x); clear h1 h2 h3)
            | (at_builtin; refine wpList_append_evs _ rfl (.tmp 67) (.tmp 69) 29 rfl 36 i0 _ Try.underlying29 HIN.out.1 HIN.out.2.1 HIN.out.2.2.1 HIN.out.2.2.2 rfl (.slice B (0) d) (0) (flatV (es.take 0)) rfl HX5.out (some ⟨w5.heap.size, 0, none⟩) 1 1 [x] rfl HS2.out (by omega) ?_; intro v6 w6 h1 h2 h3; rw [← flatV_append] at h1; obtain ⟨B2, d2, rfl⟩ := own_slice h1; have HR2 := Lib.hid (drop_step HR1.out h1 h2 h3); have hr6 := (HRV.out.later HR2.out.2.1).whole.cell 0; have HS3 := Lib.hid (src_drop0 HNE.out (HRV.out.later HR2.out.2.1).src); simp at hr6; rw [← HNE.out] at hr6; clear h1 h2 h3 HX5 HS2 HS1 c0 c1 c2 c3 c4)
            | (at_builtin; refine wpList_append_evs _ rfl (.tmp 72) (.tmp 78) 29 rfl 36 i0 _ Try.underlying29 HIN.out.1 HIN.out.2.1 HIN.out.2.2.1 HIN.out.2.2.2 rfl (.slice B2 (0 + 1) d2) (0 + 1) (flatV (es.take (0) ++ [x])) rfl HR2.out.1 (some ad) 0 0 (es.drop (0)) rfl HS3.out (by omega) ?_; intro v7 w7 h1 h2 h3; rw [← flatV_append] at h1; obtain ⟨B3, d3, rfl⟩ := own_slice h1; have HR3 := Lib.hid (rown_grow HR2.out h1 h2 h3); have hrf7 := (HRV.out.later HR3.out.2.1).whole.frozen 0; have hr7 := (HRV.out.later HR3.out.2.1).whole.cell 0; simp at hr7; clear h1 h2 h3 HS3))
          go_ret
          have hr3 : RowN V w7 B3 (1) d3 (es.take 0 ++ x :: es.drop 0) := by
            have h := HR3.out
            rw [List.append_assoc, List.singleton_append] at h
            rw [show 1 = 0 + 1 + 0 by omega]
            exact h
          exact .inl ⟨HOK.out, rfl, 0, HPP.out, put_fin HH.out HBV.out hr3 (by rw [List.length_append, List.length_cons, List.length_take, List.length_drop, ← HNE.out]; omega)⟩
        · have hc1 : ¬ 0 = c := fun h => hc0 h.symm
          go_wp2_with (first
            | (at_builtin; refine wpList_append_evs _ rfl (.tmp 59) (.tmp 65) 29 rfl 36 i0 _ Try.underlying29 HIN.out.1 HIN.out.2.1 HIN.out.2.2.1 HIN.out.2.2.2 rfl (.slice none 0 0) 0 (flatV []) rfl (RowV.nil _) (some ad) 0 c (es.take 0) rfl HS1.out (by omega) ?_; intro v5 w5 h1 h2 h3; rw [← flatV_append, List.nil_append, Nat.zero_add] at h1; obtain ⟨B, d, rfl⟩ := own_slice h1; have HR1 := Lib.hid (rown_grow (rown_start V) h1 h2 h3); obtain ⟨c0, c1, c2, c3, c4⟩ := five_whole (k_later HR1.out.2.1 HXV.out); have HX5 := Lib.hid ((show w5.ownsRow 0 36 5 (.slice B (0) d) (0) (flatV (es.take 0)) from HR1.out.1).alloc (.cells #[.int .i64 x.t, .int .i64 x.k, .int .i64 x.n, .int .i64 x.m, .int .i64 x.v] 36)); have HS2 := Lib.hid (one_new w5 x); clear h1 h2 h3)
            | (at_builtin; refine wpList_append_evs _ rfl (.tmp 67) (.tmp 69) 29 rfl 36 i0 _ Try.underlying29 HIN.out.1 HIN.out.2.1 HIN.out.2.2.1 HIN.out.2.2.2 rfl (.slice B (0) d) (0) (flatV (es.take 0)) rfl HX5.out (some ⟨w5.heap.size, 0, none⟩) 1 1 [x] rfl HS2.out (by omega) ?_; intro v6 w6 h1 h2 h3; rw [← flatV_append] at h1; obtain ⟨B2, d2, rfl⟩ := own_slice h1; have HR2 := Lib.hid (drop_step HR1.out h1 h2 h3); have hr6 := (HRV.out.later HR2.out.2.1).whole.cell 0; have HS3 := Lib.hid (src_drop0 HNE.out (HRV.out.later HR2.out.2.1).src); simp at hr6; rw [← HNE.out] at hr6; clear h1 h2 h3 HX5 HS2 HS1 c0 c1 c2 c3 c4)
            | (at_builtin; refine wpList_append_evs _ rfl (.tmp 72) (.tmp 78) 29 rfl 36 i0 _ Try.underlying29 HIN.out.1 HIN.out.2.1 HIN.out.2.2.1 HIN.out.2.2.2 rfl (.slice B2 (0 + 1) d2) (0 + 1) (flatV (es.take (0) ++ [x])) rfl HR2.out.1 (some ad) N c (es.drop (0)) rfl HS3.out (by omega) ?_; intro v7 w7 h1 h2 h3; rw [← flatV_append] at h1; obtain ⟨B3, d3, rfl⟩ := own_slice h1; have HR3 := Lib.hid (rown_grow HR2.out h1 h2 h3); have hrf7 := (HRV.out.later HR3.out.2.1).whole.frozen 0; have hr7 := (HRV.out.later HR3.out.2.1).whole.cell 0; simp at hr7; clear h1 h2 h3 HS3))
          go_ret
          have hr3 : RowN V w7 B3 (1 + N) d3 (es.take 0 ++ x :: es.drop 0) := by
            have h := HR3.out
            rw [List.append_assoc, List.singleton_append] at h
            rw [show 1 + N = 0 + 1 + N by omega]
            exact h
          exact .inl ⟨HOK.out, rfl, 0, HPP.out, put_fin HH.out HBV.out hr3 (by rw [List.length_append, List.length_cons, List.length_take, List.length_drop, ← HNE.out]; omega)⟩
    | succ m =>
      have HXW := Lib.hid (k_later HW.out HX.out)
      have HR := Lib.hid (H0.out.later HW.out)
      obtain ⟨g, o, rfl, hc⟩ := HR.out.src.at_ (i := m) (by rw [← HNE.out]; omega)
      obtain ⟨y, hy⟩ : ∃ y, y = es.getD m default := ⟨_, rfl⟩
      rw [← hy] at hc
      have HY := Lib.hid hy
      obtain ⟨a0, a1, a2, a3, a4⟩ := five_of hc
      have hr := HR.out.whole.cell 0
      simp at hr
      rw [← HNE.out] at hr
      have a0 := fun z : Later wr => z.cell a0
      have a1 := fun z : Later wr => z.cell a1
      have a2 := fun z : Later wr => z.cell a2
      have a3 := fun z : Later wr => z.cell a3
      have a4 := fun z : Later wr => z.cell a4
      have hr := fun z : Later wr => z.cell hr
      have hf := fun z : Later wr => five_later HXW.out z
      have c0 := fun z => (hf z).1
      have c1 := fun z => (hf z).2.1
      have c2 := fun z => (hf z).2.2.1
      have c3 := fun z => (hf z).2.2.2.1
      have c4 := fun z => (hf z).2.2.2.2
      have e1 : (0 : Int) < (m : Int) + 1 := by omega
      have e2 : (m : Int) < (N : Int) := by omega
      have e3 : decide ((0 : Int) < (m : Int) + 1) = true := decide_eq_true e1
      clear hc hy hf
      clear q1 q2 q3 q4 q5 e9
      cases hab : afterB y x with
      | true =>
        have HAF := Lib.hid (show ∀ W, Calls Try.prog 22 #[evV y, evV x] W fun r w' => r = .returned (.bool true) ∧ Below W.heap.size W w' from fun W => by have := after_any y x W; rw [hab] at this; exact this)
        have HAB := Lib.hid hab
        clear hab
        go_upto_region 4 with fail
        refine wp_region_later (by kernel_rfl) (by kernel_rfl) ?_
        repeat (go_big_quiet_step (first | (go_at_call 22; exact later_of _ HAF.out)))
        refine wpQuiet_nil ?_
        intro _ hw'
        obtain ⟨z, hw''⟩ := hw'
        subst hw''
        go_wp2
        go_roundw
        case rel => exact ⟨m, by omega, by go_num, k_then z.below HW.out, fun j h1 h2 => by
          rcases Nat.eq_or_lt_of_le h1 with h3 | h3
          · subst h3; rw [← HY.out]; exact HAB.out
          · exact HALL.out j h3 h2⟩
        case measure => simp [intOf]
      | false =>
        have HAF := Lib.hid (show ∀ W, Calls Try.prog 22 #[evV y, evV x] W fun r w' => r = .returned (.bool false) ∧ Below W.heap.size W w' from fun W => by have := after_any y x W; rw [hab] at this; exact this)
        obtain ⟨n, hnn⟩ : ∃ n, n = m + 1 := ⟨_, rfl⟩
        have HPP := Lib.hid (show PutPlace es x n from ⟨by rw [hnn, ← HNE.out]; exact hn, fun j h1 h2 => HALL.out j (by omega) (by rw [HNE.out]; exact h2), fun _ => by rw [show n - 1 = m by omega, ← HY.out]; exact hab⟩)
        have HN1 := Lib.hid hnn
        clear hab hnn
        go_upto_region 4 with fail
        refine wp_region_later (by kernel_rfl) (by kernel_rfl) ?_
        repeat (go_big_quiet_step (first | (go_at_call 22; exact later_of _ HAF.out)))
        refine wpQuiet_nil ?_
        intro _ hw'
        obtain ⟨z, hw''⟩ := hw'
        subst hw''
        have hnn := HN1.out
        subst hnn
        obtain ⟨V, hV⟩ : ∃ V, V = z.at_ := ⟨_, rfl⟩
        have hbV : Below wr.heap.size wr V := by rw [hV]; exact z.below
        rw [← hV]
        have HBV := Lib.hid (k_then (k_then hbV HW.out) HB.out)
        have HXV := Lib.hid (k_later (k_then hbV HW.out) HX.out)
        have HRV := Lib.hid (H0.out.later (k_then hbV HW.out))
        clear hV hbV
        have hcap := HRV.out.cap
        rw [← HNE.out] at hcap
        have hr := HRV.out.whole.cell 0
        have hrf := HRV.out.whole.frozen 0
        simp at hr
        rw [← HNE.out] at hr
        have hxr := HH.out.whole.lt
        have f0 : (0 : Int) ≤ (m : Int) + 1 := by omega
        have f1 : (m : Int) + 1 ≤ (N : Int) := by omega
        have f2 : (m : Int) + 1 ≤ (c : Int) := by omega
        have f3 : (N : Int) ≤ (c : Int) := by omega
        have HS1 := Lib.hid (show VSrc V (some ⟨g, o, none⟩) (m + 1) (es.take (m + 1)) from VSrc.take HRV.out.src (by rw [← HNE.out]; exact hn))
        by_cases hc0 : c = m + 1
        · subst hc0
          obtain rfl : N = m + 1 := by omega
          go_wp2_with (first
            | (at_builtin; refine wpList_append_evs _ rfl (.tmp 59) (.tmp 65) 29 rfl 36 i0 _ Try.underlying29 HIN.out.1 HIN.out.2.1 HIN.out.2.2.1 HIN.out.2.2.2 rfl (.slice none 0 0) 0 (flatV []) rfl (RowV.nil _) (some ⟨g, o, none⟩) (m + 1) (m + 1) (es.take (m + 1)) rfl HS1.out (by omega) ?_; intro v5 w5 h1 h2 h3; rw [← flatV_append, List.nil_append, Nat.zero_add] at h1; obtain ⟨B, d, rfl⟩ := own_slice h1; have HR1 := Lib.hid (rown_grow (rown_start V) h1 h2 h3); obtain ⟨c0, c1, c2, c3, c4⟩ := five_whole (k_later HR1.out.2.1 HXV.out); have HX5 := Lib.hid ((show w5.ownsRow 0 36 5 (.slice B ((m + 1)) d) ((m + 1)) (flatV (es.take (m + 1))) from HR1.out.1).alloc (.cells #[.int .i64 x.t, .int .i64 x.k, .int .i64 x.n, .int .i64 x.m, .int .i64 x.v] 36)); have HS2 := Lib.hid (one_new w5 x); clear h1 h2 h3)
            | (at_builtin; refine wpList_append_evs _ rfl (.tmp 67) (.tmp 69) 29 rfl 36 i0 _ Try.underlying29 HIN.out.1 HIN.out.2.1 HIN.out.2.2.1 HIN.out.2.2.2 rfl (.slice B ((m + 1)) d) ((m + 1)) (flatV (es.take (m + 1))) rfl HX5.out (some ⟨w5.heap.size, 0, none⟩) 1 1 [x] rfl HS2.out (by omega) ?_; intro v6 w6 h1 h2 h3; rw [← flatV_append] at h1; obtain ⟨B2, d2, rfl⟩ := own_slice h1; have HR2 := Lib.hid (drop_step HR1.out h1 h2 h3); have hr6 := (HRV.out.later HR2.out.2.1).whole.cell 0; have HS3 := Lib.hid (src_dropN HNE.out (HRV.out.later HR2.out.2.1).src); simp at hr6; rw [← HNE.out] at hr6; clear h1 h2 h3 HX5 HS2 HS1 c0 c1 c2 c3 c4)
            | (at_builtin; refine wpList_append_evs _ rfl (.tmp 72) (.tmp 78) 29 rfl 36 i0 _ Try.underlying29 HIN.out.1 HIN.out.2.1 HIN.out.2.2.1 HIN.out.2.2.2 rfl (.slice B2 ((m + 1) + 1) d2) ((m + 1) + 1) (flatV (es.take ((m + 1)) ++ [x])) rfl HR2.out.1 (some ⟨g, o, none⟩) 0 0 (es.drop ((m + 1))) rfl HS3.out (by omega) ?_; intro v7 w7 h1 h2 h3; rw [← flatV_append] at h1; obtain ⟨B3, d3, rfl⟩ := own_slice h1; have HR3 := Lib.hid (rown_grow HR2.out h1 h2 h3); have hrf7 := (HRV.out.later HR3.out.2.1).whole.frozen 0; have hr7 := (HRV.out.later HR3.out.2.1).whole.cell 0; simp at hr7; clear h1 h2 h3 HS3))
          go_ret
          have hr3 : RowN V w7 B3 ((m + 1 + 1)) d3 (es.take (m + 1) ++ x :: es.drop (m + 1)) := by
            have h := HR3.out
            rw [List.append_assoc, List.singleton_append] at h
            rw [show (m + 1 + 1) = m + 1 + 1 + 0 by omega]
            exact h
          exact .inl ⟨HOK.out, rfl, (m + 1), HPP.out, put_fin HH.out HBV.out hr3 (by rw [List.length_append, List.length_cons, List.length_take, List.length_drop, ← HNE.out]; omega)⟩
        · have hc1 : ¬ m + 1 = c := fun h => hc0 h.symm
          go_wp2_with (first
            | (at_builtin; refine wpList_append_evs _ rfl (.tmp 59) (.tmp 65) 29 rfl 36 i0 _ Try.underlying29 HIN.out.1 HIN.out.2.1 HIN.out.2.2.1 HIN.out.2.2.2 rfl (.slice none 0 0) 0 (flatV []) rfl (RowV.nil _) (some ⟨g, o, none⟩) (m + 1) c (es.take (m + 1)) rfl HS1.out (by omega) ?_; intro v5 w5 h1 h2 h3; rw [← flatV_append, List.nil_append, Nat.zero_add] at h1; obtain ⟨B, d, rfl⟩ := own_slice h1; have HR1 := Lib.hid (rown_grow (rown_start V) h1 h2 h3); obtain ⟨c0, c1, c2, c3, c4⟩ := five_whole (k_later HR1.out.2.1 HXV.out); have HX5 := Lib.hid ((show w5.ownsRow 0 36 5 (.slice B ((m + 1)) d) ((m + 1)) (flatV (es.take (m + 1))) from HR1.out.1).alloc (.cells #[.int .i64 x.t, .int .i64 x.k, .int .i64 x.n, .int .i64 x.m, .int .i64 x.v] 36)); have HS2 := Lib.hid (one_new w5 x); clear h1 h2 h3)
            | (at_builtin; refine wpList_append_evs _ rfl (.tmp 67) (.tmp 69) 29 rfl 36 i0 _ Try.underlying29 HIN.out.1 HIN.out.2.1 HIN.out.2.2.1 HIN.out.2.2.2 rfl (.slice B ((m + 1)) d) ((m + 1)) (flatV (es.take (m + 1))) rfl HX5.out (some ⟨w5.heap.size, 0, none⟩) 1 1 [x] rfl HS2.out (by omega) ?_; intro v6 w6 h1 h2 h3; rw [← flatV_append] at h1; obtain ⟨B2, d2, rfl⟩ := own_slice h1; have HR2 := Lib.hid (drop_step HR1.out h1 h2 h3); have hr6 := (HRV.out.later HR2.out.2.1).whole.cell 0; have HS3 := Lib.hid (src_dropM HNE.out hn (HRV.out.later HR2.out.2.1).src); simp at hr6; rw [← HNE.out] at hr6; clear h1 h2 h3 HX5 HS2 HS1 c0 c1 c2 c3 c4)
            | (at_builtin; refine wpList_append_evs _ rfl (.tmp 72) (.tmp 78) 29 rfl 36 i0 _ Try.underlying29 HIN.out.1 HIN.out.2.1 HIN.out.2.2.1 HIN.out.2.2.2 rfl (.slice B2 ((m + 1) + 1) d2) ((m + 1) + 1) (flatV (es.take ((m + 1)) ++ [x])) rfl HR2.out.1 (some ⟨g, o + (m + 1) * 5, none⟩) (N - (m + 1)) (c - (m + 1)) (es.drop ((m + 1))) rfl HS3.out (by omega) ?_; intro v7 w7 h1 h2 h3; rw [← flatV_append] at h1; obtain ⟨B3, d3, rfl⟩ := own_slice h1; have HR3 := Lib.hid (rown_grow HR2.out h1 h2 h3); have hrf7 := (HRV.out.later HR3.out.2.1).whole.frozen 0; have hr7 := (HRV.out.later HR3.out.2.1).whole.cell 0; simp at hr7; clear h1 h2 h3 HS3))
          go_ret
          have hr3 : RowN V w7 B3 ((m + 1 + 1 + (N - (m + 1)))) d3 (es.take (m + 1) ++ x :: es.drop (m + 1)) := by
            have h := HR3.out
            rw [List.append_assoc, List.singleton_append] at h
            rw [show (m + 1 + 1 + (N - (m + 1))) = m + 1 + 1 + (N - (m + 1)) by omega]
            exact h
          exact .inl ⟨HOK.out, rfl, (m + 1), HPP.out, put_fin HH.out HBV.out hr3 (by rw [List.length_append, List.length_cons, List.length_take, List.length_drop, ← HNE.out]; omega)⟩
end Go.Proofs.Ytchfponnajednaa
