/- The document's agenda: Until. No condition. -/
import Derived.Test.YtchfponnajednaaAPTake
import Derived.WalkLawsBesides
namespace Go.Proofs.Ytchfponnajednaa
open Go.RowKit Go.Shelf

/-- So many events are due. -/
structure UpE (t : Int) (es : List Ev) (n : Nat) : Prop where
  le : n ≤ es.length
  all : ∀ j, j < n → (es.getD j default).t ≤ t
  no : n < es.length → t < (es.getD n default).t
theorem VSrc.take {w : World} {A : Option Addr} {m n : Nat} {es : List Ev} (h : VSrc w A m es) (hn : n ≤ m) : VSrc w A n (es.take n) := by
  refine ⟨by rw [List.length_take, h.1]; omega, fun h0 => ?_⟩
  obtain ⟨g, o, e, hc⟩ := h.2 (by omega)
  refine ⟨g, o, e, fun i x hx => hc i x ?_⟩
  rw [List.getElem?_take] at hx
  split at hx
  · exact hx
  · cases hx
theorem VSrc.drop {w : World} {g o m n : Nat} {es : List Ev} (h : VSrc w (some ⟨g, o, none⟩) m es) (hn : n ≤ m) : VSrc w (some ⟨g, o + n * 5, none⟩) (m - n) (es.drop n) := by
  refine ⟨by rw [List.length_drop, h.1], fun h0 => ⟨g, o + n * 5, rfl, fun i x hx => ?_⟩⟩
  obtain ⟨g', o', e, hc⟩ := h.2 (by omega)
  injection e with e
  injection e with e1 e2
  subst e1 e2
  rw [List.getElem?_drop] at hx
  have := hc (n + i) x hx
  rwa [show o + (n + i) * 5 = o + n * 5 + i * 5 by omega] at this
/-- What the document's Until answers and leaves. -/
def RefUntil (w : World) (rr : Nat) (A : Option Addr) (es : List Ev) (t : Int) (e : Ending) (w' : World) : Prop :=
  ∃ B n d, e = .returned (.slice B n d) ∧ UpE t es n ∧ VSrc w' B n (es.take n) ∧ (∀ k, blk B k → w.heap.size ≤ k ∧ k < w'.heap.size) ∧ RefTo w rr A (es.drop n) w'
theorem refUntil_fin {wr w5 : World} {rr : Nat} {A A' B : Option Addr} {c c' n d : Nat} {es : List Ev} {t : Int} (H : RefAt wr rr A c es) (hup : UpE t es n)
    (h : w5.ownsRow 0 36 5 (.slice B n d) n (flatV (es.take n)) ∧ Below wr.heap.size wr w5 ∧ ((Value.slice B n d).ownBlock = (Value.slice none 0 0).ownBlock ∨ (Value.slice B n d).ownBlock = some wr.heap.size))
    (hs : VSrc wr A' (es.drop n).length (es.drop n)) (hc : (es.drop n).length ≤ c') (hn : A' = none → c' = 0) (hb : ∀ k, blk A' k → blk A k) :
    RefUntil wr rr A es t (.returned (.slice B n d)) (w5.setCell ⟨rr, 0, none⟩ (.slice A' (es.drop n).length c')) := by
  obtain ⟨h1, h2, h3⟩ := h
  have hrr := H.whole.lt
  have hB : ∀ k, blk B k → k = wr.heap.size ∧ k < w5.heap.size := fun k hk => by
    have e := RowV.blk_own (n := n) (c := d) hk
    refine ⟨?_, (World.ownsRow.lt h1 k e).2⟩
    rcases h3 with h3 | h3
    · rw [e] at h3; cases h3
    · rw [e] at h3; injection h3
  obtain ⟨r1, k1⟩ := (H.later h2).store (A' := A') (c' := c') (es' := es.drop n) (hs.later h2) hc hn (fun k hk => ⟨fun e => H.apart (by rw [← e]; exact hb k hk), Nat.lt_of_lt_of_le (H.lt k (hb k hk)) h2.size⟩)
  refine ⟨B, n, d, rfl, hup, (RowV.src h1).kept k1 (fun ad e he => ?_), fun k hk => ⟨by have := (hB k hk).1; omega, Nat.lt_of_lt_of_le (hB k hk).2 k1.size⟩, A', c', r1, (Kept.of_below h2 _).trans k1 (fun _ _ h => h), fun k hk => .inl (hb k hk)⟩
  have := (hB ad.block ⟨ad, e, rfl⟩).1
  have e2 : ad.block = rr := he
  omega
set_option maxRecDepth 100000 in
set_option maxHeartbeats 4000000 in
theorem refUntil_any (w : World) (rr : Nat) (A : Option Addr) (c : Nat) (es : List Ev) (t : Int) (h : RefAt w rr A c es) (hl : es.length ≤ 1000000) :
    Calls Try.prog 26 #[.pointer (some ⟨rr, 0, none⟩), .int .i64 t] w (RefUntil w rr A es t) := by
  have hr := h.whole.cell 0
  have hrf := h.whole.frozen 0
  simp at hr
  obtain ⟨N, hN⟩ : ∃ N, N = es.length := ⟨_, rfl⟩
  rw [← hN] at hr hl
  have HN := Lib.hid hN
  have H := Lib.hid h
  obtain ⟨i0, hi, hy0, hy1, hy2⟩ := info_parts ev_infos
  clear h hN
  go_enter Try.func26, Try.ntmps26
  go_wp2_with fail
  go_loopw [5] (fun iv wr => ∃ n : Nat, n ≤ N ∧ iv = .int .i64 (n : Int) ∧ wr = w ∧ ∀ j, j < n → (es.getD j default).t ≤ t) (fun iv _ => N - (intOf iv).toNat)
  case atStart => exact ⟨0, Nat.zero_le _, rfl, rfl, fun j hj => absurd hj (Nat.not_lt_zero _)⟩
  case round =>
    obtain ⟨n, hn, rfl, rfl, hall⟩ := hrel
    have HALL := Lib.hid hall
    clear hall
    by_cases hlt : n < N
    · obtain ⟨g, o, rfl, hc⟩ := H.out.src.at_ (i := n) (by rw [← HN.out]; exact hlt)
      obtain ⟨x, hx⟩ : ∃ x, x = es.getD n default := ⟨_, rfl⟩
      rw [← hx] at hc
      have a0 := (five_of hc).1
      have HX := Lib.hid hx
      clear hc hx
      by_cases hle : x.t ≤ t
      · go_wp2
        go_roundw
        case rel => exact ⟨n + 1, by omega, by go_num, trivial, fun j hj => by
          rcases Nat.lt_or_ge j n with h1 | h1
          · exact HALL.out j h1
          · obtain rfl : j = n := by omega
            rw [← HX.out]
            exact hle⟩
        case measure => simp [intOf]; omega
      · have HUP := Lib.hid (show UpE t es n from ⟨by rw [← HN.out]; omega, HALL.out, fun _ => by rw [← HX.out]; omega⟩)
        clear HALL HX
        have hcap := H.out.cap
        rw [← HN.out] at hcap
        have e1 : (n : Int) ≤ (N : Int) := by omega
        have e2 : (n : Int) ≤ (c : Int) := by omega
        have e3 : (N : Int) ≤ (c : Int) := by omega
        have HSRC := Lib.hid (show VSrc wr (some ⟨g, o, none⟩) n (es.take n) from VSrc.take H.out.src HUP.out.le)
        clear hcap
        go_wp2_with (at_builtin; go_loud (refine wpList_append_evs _ rfl (.tmp 28) (.tmp 34) 29 rfl 36 i0 _ Try.underlying29 hi hy0 hy1 hy2 rfl (.slice none 0 0) 0 (flatV []) rfl (RowV.nil _) (some ⟨g, o, none⟩) n c (es.take n) rfl HSRC.out (by omega) ?_; intro v5 w5 h1 h2 h3; rw [← flatV_append, List.nil_append, Nat.zero_add] at h1; obtain ⟨B, d, rfl⟩ := own_slice h1; have HR := Lib.hid (And.intro h1 (And.intro (((Kept.refl Empty wr).grown h2 (fun k hk => by cases hk)).below (fun _ _ h => h)) h3)); have hr5 := k_cell HR.out.2.1 hr; have hf5 := (k_later HR.out.2.1 H.out.whole).frozen 0; clear h1 h2 h3 hr hrf))
        go_ret
        rw [show N - n = (es.drop n).length by rw [List.length_drop, HN.out]]
        exact refUntil_fin H.out HUP.out HR.out (by rw [List.length_drop]; exact VSrc.drop H.out.src HUP.out.le) (by rw [List.length_drop, ← HN.out]; omega) (fun h => by cases h) (fun k hk => by obtain ⟨ad, e, rfl⟩ := hk; injection e with e; subst e; exact ⟨_, rfl, rfl⟩)
    · obtain rfl : n = N := by omega
      have HUP := Lib.hid (show UpE t es n from ⟨by rw [← HN.out]; exact Nat.le_refl _, HALL.out, fun h => absurd h (by rw [← HN.out]; exact Nat.lt_irrefl _)⟩)
      clear HALL
      cases A with
      | none =>
        have hc0 := H.out.nil rfl
        have hcap := H.out.cap
        rw [← HN.out] at hcap
        subst hc0
        obtain rfl : n = 0 := by omega
        have HSRC := Lib.hid (show VSrc wr none 0 (es.take 0) from VSrc.zero _ _)
        clear hcap
        go_wp2_with (at_builtin; go_loud (refine wpList_append_evs _ rfl (.tmp 28) (.tmp 34) 29 rfl 36 i0 _ Try.underlying29 hi hy0 hy1 hy2 rfl (.slice none 0 0) 0 (flatV []) rfl (RowV.nil _) none 0 0 (es.take 0) rfl HSRC.out (by omega) ?_; intro v5 w5 h1 h2 h3; rw [← flatV_append, List.nil_append, Nat.zero_add] at h1; obtain ⟨B, d, rfl⟩ := own_slice h1; have HR := Lib.hid (And.intro h1 (And.intro (((Kept.refl Empty wr).grown h2 (fun k hk => by cases hk)).below (fun _ _ h => h)) h3)); have hr5 := k_cell HR.out.2.1 hr; have hf5 := (k_later HR.out.2.1 H.out.whole).frozen 0; clear h1 h2 h3 hr hrf))
        have hnil : es.drop 0 = [] := List.drop_eq_nil_of_le (by rw [← HN.out]; exact Nat.le_refl _)
        go_ret
        have hfin := refUntil_fin (A' := none) (c' := 0) H.out HUP.out HR.out (by rw [hnil]; exact VSrc.zero _ _) (by rw [hnil]; simp) (fun _ => rfl) (fun k hk => hk)
        rw [hnil] at hfin
        exact hfin
      | some ad =>
        have hcap := H.out.cap
        rw [← HN.out] at hcap
        have e1 : (n : Int) ≤ (n : Int) := by omega
        have e2 : (n : Int) ≤ (c : Int) := by omega
        have e3 : (n : Int) ≤ (c : Int) := by omega
        have HSRC := Lib.hid (show VSrc wr (some ad) n (es.take n) from VSrc.take H.out.src HUP.out.le)
        clear hcap
        go_wp2_with (at_builtin; go_loud (refine wpList_append_evs _ rfl (.tmp 28) (.tmp 34) 29 rfl 36 i0 _ Try.underlying29 hi hy0 hy1 hy2 rfl (.slice none 0 0) 0 (flatV []) rfl (RowV.nil _) (some ad) n c (es.take n) rfl HSRC.out (by omega) ?_; intro v5 w5 h1 h2 h3; rw [← flatV_append, List.nil_append, Nat.zero_add] at h1; obtain ⟨B, d, rfl⟩ := own_slice h1; have HR := Lib.hid (And.intro h1 (And.intro (((Kept.refl Empty wr).grown h2 (fun k hk => by cases hk)).below (fun _ _ h => h)) h3)); have hr5 := k_cell HR.out.2.1 hr; have hf5 := (k_later HR.out.2.1 H.out.whole).frozen 0; clear h1 h2 h3 hr hrf))
        all_goals have hnil : es.drop n = [] := List.drop_eq_nil_of_le (by rw [← HN.out]; exact Nat.le_refl _)
        · go_ret
          have hfin := refUntil_fin (A' := some ad) (c' := 0) H.out HUP.out HR.out (by rw [hnil]; exact VSrc.zero _ _) (by rw [hnil]; simp) (fun h => by cases h) (fun k hk => hk)
          rw [hnil] at hfin
          exact hfin
        · go_ret
          have hfin := refUntil_fin (A' := some (ad.add (n * 5))) (c' := c - n) H.out HUP.out HR.out (by rw [hnil]; exact VSrc.zero _ _) (by rw [hnil]; simp) (fun h => by cases h) (fun k hk => by
            obtain ⟨ad', e, rfl⟩ := hk
            injection e with e
            subst e
            exact ⟨ad, rfl, by unfold Addr.add; split <;> rfl⟩)
          rw [hnil] at hfin
          exact hfin
end Go.Proofs.Ytchfponnajednaa
