/- GroupTexts, its walk. -/
import Derived.Test.YtnefjkbnolbpbaaGAlive
namespace Go.Proofs.Ytnefjkbnolbpbaa
open Go.RowKit

theorem digOf_inj {x y : Int} (hx : 0 ≤ x ∧ x ≤ 15) (hy : 0 ≤ y ∧ y ≤ 15) (h : digOf x = digOf y) : x = y := by
  obtain ⟨a, rfl⟩ := Int.eq_ofNat_of_zero_le hx.1
  obtain ⟨b, rfl⟩ := Int.eq_ofNat_of_zero_le hy.1
  have key : ∀ a b : Fin 16, digOf (a.val : Int) = digOf (b.val : Int) → a = b := by decide +kernel
  have := key ⟨a, by omega⟩ ⟨b, by omega⟩ h
  have : a = b := by simpa using this
  rw [this]
theorem digOf_ne (x : Int) : digOf x ≠ 45 := by
  have key : ∀ a : Fin 17, digsL.getD a.val 0 ≠ 45 := by decide +kernel
  unfold digOf
  by_cases h : x.toNat < 17
  · exact key ⟨x.toNat, h⟩
  · rw [List.getD_eq_getElem?_getD, List.getElem?_eq_none (by simp [digsL]; omega)]
    decide
theorem map_inj {l m : List Int} (hl : ∀ x ∈ l, 0 ≤ x ∧ x ≤ 15) (hm : ∀ x ∈ m, 0 ≤ x ∧ x ≤ 15) (h : l.map digOf = m.map digOf) : l = m := by
  induction l generalizing m with
  | nil => cases m with
    | nil => rfl
    | cons y m => simp at h
  | cons x l ih => cases m with
    | nil => simp at h
    | cons y m =>
      rw [List.map_cons, List.map_cons, List.cons.injEq] at h
      rw [digOf_inj (hl x (List.mem_cons_self ..)) (hm y (List.mem_cons_self ..)) h.1, ih (fun z hz => hl z (List.mem_cons_of_mem _ hz)) (fun z hz => hm z (List.mem_cons_of_mem _ hz)) h.2]
theorem listI_mem {g : Nat} : ∀ x ∈ listI g, 0 ≤ x ∧ x ≤ 15 := fun _ hx => node_yes (hasG_node (mem_listI.1 hx))
theorem listI_inj {g h : Nat} (hg : g < 65536) (hh : h < 65536) (e : listI g = listI h) : g = h :=
  group_ext hg hh fun x => by rw [Bool.eq_iff_iff, ← mem_listI, ← mem_listI, e]
theorem listI_nil {g : Nat} (hg : g < 65536) : listI g = [] ↔ g = 0 := by
  rw [← listG_nil hg]
  simp [listI]
theorem textG_none {g : Nat} : textG g = [45] ↔ g = 0 := by
  unfold textG
  constructor
  · intro h
    split at h
    · assumption
    · exfalso
      have : (45 : UInt8) ∈ (listI g).map digOf := by rw [h]; exact List.mem_cons_self ..
      obtain ⟨x, _, hx⟩ := List.mem_map.1 this
      exact digOf_ne x hx
  · intro h; rw [if_pos h]
theorem textG_inj {g h : Nat} (hg : g < 65536) (hh : h < 65536) : textG g = textG h ↔ g = h := by
  constructor
  · intro e
    by_cases h0 : g = 0
    · rw [h0, (textG_none (g := h)).1 (by rw [← e, h0]; rfl)]
    · by_cases h1 : h = 0
      · exact absurd ((textG_none (g := g)).1 (by rw [e, h1]; rfl)) h0
      · unfold textG at e
        rw [if_neg h0, if_neg h1] at e
        exact listI_inj hg hh (map_inj listI_mem listI_mem e)
  · rintro rfl; rfl
theorem countG_pos {g : Nat} (hg : g < 65536) (h : g ≠ 0) : 1 ≤ countG g := by
  rw [← listI_length]
  rcases Nat.eq_zero_or_pos (listI g).length with h0 | h0
  · exact absurd ((listI_nil hg).1 (List.eq_nil_of_length_eq_zero h0)) h
  · exact h0
theorem textG_length {g : Nat} (h : g ≠ 0) : (textG g).length = countG g := by
  rw [textG, if_neg h, List.length_map, listI_length]
theorem list_beq (a b : List UInt8) : (a == b) = decide (a = b) := by
  rw [Bool.eq_iff_iff, beq_iff_eq, decide_eq_true_eq]
theorem int_beq (a b : Nat) : ((a : Int) == (b : Int)) = decide (a = b) := by
  rw [Bool.eq_iff_iff, beq_iff_eq, decide_eq_true_eq, Int.ofNat_inj]

/-- The two texts, and what is said of them. -/
theorem texts_facts {g h : Nat} (hg : g < 65536) (hh : h < 65536) : ∃ s t : ByteArray, s = ⟨(textG g).toArray⟩ ∧ t = ⟨(textG h).toArray⟩ ∧ (s.toList == t.toList) = ((g : Int) == (h : Int)) ∧ (s.toList == [45]) = ((g : Int) == 0) ∧ ((g = 0 ∧ s.size = 1) ∨ (1 ≤ countG g ∧ s.size = countG g)) := by
  refine ⟨_, _, rfl, rfl, ?_, ?_, ?_⟩
  · rw [ByteArray.toList_mk, ByteArray.toList_mk, list_beq, int_beq]
    congr 1
    rw [eq_iff_iff]
    exact textG_inj hg hh
  · rw [ByteArray.toList_mk, list_beq, show ((0 : Int)) = ((0 : Nat) : Int) from rfl, int_beq]
    congr 1
    rw [eq_iff_iff]
    exact textG_none
  · by_cases h0 : g = 0
    · refine .inl ⟨h0, ?_⟩
      subst h0
      rfl
    · refine .inr ⟨countG_pos hg h0, ?_⟩
      rw [← textG_length h0]
      rfl

set_option maxHeartbeats 1000000 in
theorem texts_walk (g1 g2 : Nat) (w : World) (hg : g1 < 65536) (hh : g2 < 65536) : Calls Try.prog 10 #[.int .u16 (g1 : Int), .int .u16 (g2 : Int)] w fun e w' => e = .returned (.bool true) ∧ Below w.heap.size w w' := by
  obtain ⟨s, t, hs, ht, hst, hs0, hlen⟩ := texts_facts hg hh
  have T1 : ∀ W, Hid (Calls Try.prog 36 #[.int .u16 (g1 : Int)] W fun e w' => e = .returned (.string s) ∧ Below W.heap.size W w') := fun W => Lib.hid (by rw [hs]; exact text_any g1 W hg)
  have T2 : ∀ W, Hid (Calls Try.prog 36 #[.int .u16 (g2 : Int)] W fun e w' => e = .returned (.string t) ∧ Below W.heap.size W w') := fun W => Lib.hid (by rw [ht]; exact text_any g2 W hh)
  have CN : ∀ W, Hid (Calls Try.prog 20 #[.int .u16 (g1 : Int)] W fun e w' => e = .returned (.int .i64 ((countG g1 : Nat) : Int)) ∧ ∃ k, w' = W.drewN k) := fun W => Lib.hid (count_any g1 W hg)
  have hz : countG 0 = 0 := by decide
  clear hs ht hh hg
  rcases hlen with ⟨rfl, hsz⟩ | ⟨hc, hsz⟩
  · rw [hz] at CN
    clear hz
    have hst : (s.toList == t.toList) = ((0 : Int) == (g2 : Int)) := hst
    have hs0 : (s.toList == [45]) = true := hs0
    go_enter Try.func10, Try.ntmps10
    go_wp2_with fail
    refine (alive_any _).mono ?_
    rintro e w0 ⟨rfl, b0⟩
    go_wp2_with fail
    refine (T1 _).out.mono ?_
    rintro e w1 ⟨rfl, b1⟩
    have hb1 := b0.trans (b1.mono b0.size)
    go_wp2_with fail
    refine (T2 _).out.mono ?_
    rintro e w2 ⟨rfl, b2⟩
    have hb2 := hb1.trans (b2.mono hb1.size)
    go_wp2_with fail
    refine (CN _).out.mono ?_
    rintro e w3 ⟨rfl, k, rfl⟩
    go_wp2
    all_goals
      go_ret
      exact ⟨by simp, below_drewN hb2 _⟩
  · have hc16 := countG_le g1
    generalize countG g1 = c at *
    have h0 : (s.size : Int) = c := by rw [hsz]
    clear hsz hz
    go_enter Try.func10, Try.ntmps10
    go_wp2_with fail
    refine (alive_any _).mono ?_
    rintro e w0 ⟨rfl, b0⟩
    go_wp2_with fail
    refine (T1 _).out.mono ?_
    rintro e w1 ⟨rfl, b1⟩
    have hb1 := b0.trans (b1.mono b0.size)
    go_wp2_with fail
    refine (T2 _).out.mono ?_
    rintro e w2 ⟨rfl, b2⟩
    have hb2 := hb1.trans (b2.mono hb1.size)
    go_wp2_with fail
    refine (CN _).out.mono ?_
    rintro e w3 ⟨rfl, k, rfl⟩
    go_wp2
    all_goals
      go_ret
      exact ⟨by simp, below_drewN hb2 _⟩

end Go.Proofs.Ytnefjkbnolbpbaa
