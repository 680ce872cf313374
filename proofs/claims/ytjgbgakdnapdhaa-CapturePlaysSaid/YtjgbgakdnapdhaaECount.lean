/- A capture's Count, by its contract. No condition. -/
import Derived.Test.YtjgbgakdnapdhaaEIter
namespace Go.Proofs.Ytjgbgakdnapdhaa
open Go.RowKit Go.Shelf
attribute [local go_sem] Oper.semAt_some

/-- What a round is handed, of a list. -/
def encD (L : List De) (k : Nat) : Array Value := #[.int .i64 ((L.getD (k - 1) default).n : Int), .int .i64 (L.getD (k - 1) default).v]
/-- What is told of a capture, or of none. -/
def SrcE (w : World) (c : Option Addr) (L : List De) : Prop := (c = none ∧ L = []) ∨ ∃ a f, c = some ⟨a, 0, none⟩ ∧ CapAt w a f ∧ L = listC f
theorem SrcE.later {w w' : World} {c : Option Addr} {L : List De} (h : SrcE w c L) (hb : Below w.heap.size w w') : SrcE w' c L := by
  rcases h with h | ⟨a, f, h1, h2, h3⟩
  · exact .inl h
  · exact .inr ⟨a, f, h1, h2.later hb, h3⟩
theorem SrcE.len {w : World} {c : Option Addr} {L : List De} (h : SrcE w c L) : L.length ≤ 16 := by
  rcases h with ⟨_, rfl⟩ | ⟨a, f, _, _, rfl⟩
  · exact Nat.zero_le _
  · exact listTo_len f 16
theorem SrcE.of {w : World} {a : Nat} {f : Ca} (h : CapAt w a f) : SrcE w (some ⟨a, 0, none⟩) (listC f) := .inr ⟨a, f, rfl, h, rfl⟩
theorem SrcE.nil (w : World) : SrcE w none [] := .inl ⟨rfl, rfl⟩

set_option maxHeartbeats 1000000 in
theorem turnsNil_any (m b : Nat) (w : World) (hb : w.cell? ⟨b, 0, none⟩ = some (.pointer none)) :
    TurnsOf m Try.prog 35 #[.pointer (some ⟨b, 0, none⟩)] (encD []) 0 Nothing Nothing (fun _ _ => True) w := fun lp J Jx W hW hJ0 hY h0 => by
  have hc := k_cell hW hb
  have H0 := Lib.hid h0
  clear hJ0 hY h0 hW hb
  refine callsIn_of_wp Try.func35 rfl trivial ?_ rfl
  simp only [Try.ntmps35, List.size_toArray, List.length_cons, List.length_nil, Nat.reduceAdd, Nat.reduceSub, Array.replicate_succ, Array.replicate_zero, List.push_toArray, List.append_toArray, List.nil_append, List.cons_append]
  gi_wp2
  refine wpIn_scope_a ?_
  gi_wp2
  dsimp only [Exit.noGoto]
  refine bodyPost_ret (results_none rfl _ _ _) rfl ?_
  exact ⟨⟨_, rfl⟩, .inl ⟨H0.out, trivial⟩⟩
theorem turnsD (m : Nat) (hm : 1 ≤ m) (b : Nat) (c : Option Addr) (L : List De) (w : World) (hb : w.cell? ⟨b, 0, none⟩ = some (.pointer c)) (h : SrcE w c L) :
    TurnsOf m Try.prog 35 #[.pointer (some ⟨b, 0, none⟩)] (encD L) L.length Nothing Nothing (fun _ _ => True) w := by
  rcases h with ⟨rfl, rfl⟩ | ⟨a, f, rfl, h, rfl⟩
  · exact turnsNil_any m b w hb
  · exact turns_any m hm b a f w hb h

theorem keptTo_of {N : Nat} {S R : Nat → Prop} {a b : World} (h : Kept R a b) (hN : N ≤ a.heap.size) (hR : ∀ i, i < N → R i → S i) : KeptTo N S a b :=
  ⟨h.os, h.tape, h.output, h.size, fun i hi hn => h.block i (by omega) (fun ht => hn (hR i hi ht))⟩

set_option maxRecDepth 100000 in
set_option maxHeartbeats 4000000 in
theorem count_any {w : World} {c : Option Addr} {L : List De} (h : SrcE w c L) : Calls Try.prog 14 #[.pointer c] w fun e w' => e = .returned (.int .i64 (L.length : Int)) ∧ Below w.heap.size w w' := by
  obtain ⟨w1, hw1⟩ : ∃ w1, w1 = w.alloc (.cells #[.int .i64 0] 3) := ⟨_, rfl⟩
  have hb1 : Below w.heap.size w w1 := by rw [hw1]; exact (Below.refl _ _).alloc (Nat.le_refl _) _
  have hW1 : Whole w1 w.heap.size 3 #[.int .i64 0] := by rw [hw1]; exact Whole.new _ _ _
  have hz1 : w1.heap.size = w.heap.size + 1 := by rw [hw1]; simp
  obtain ⟨w2, hw2⟩ : ∃ w2, w2 = w1.alloc (.cells #[.pointer c] 24) := ⟨_, rfl⟩
  have hb2 : Below w1.heap.size w1 w2 := by rw [hw2]; exact (Below.refl _ _).alloc (Nat.le_refl _) _
  have hW2 : Whole w2 w1.heap.size 24 #[.pointer c] := by rw [hw2]; exact Whole.new _ _ _
  have hz2 : w2.heap.size = w1.heap.size + 1 := by rw [hw2]; simp
  have hs2 := h.later (k_then hb2 hb1)
  have hle := h.len
  have htl := turnsD 4 (by omega) w1.heap.size c L w2 (hW2.cell 0) hs2
  rw [hz1] at htl
  have HT := Lib.hid htl
  have HB := Lib.hid (And.intro (k_then hb2 hb1) (k_later hb2 hW1))
  have HW1 := Lib.hid hw1
  have HW2 := Lib.hid hw2
  clear h hw1 hb1 hW1 hw2 hb2 hW2 hs2 htl
  refine (callsIn_wide (n := 5)).1 ?_
  refine callsIn_of_wp_marks Try.func14 rfl trivial ?_ rfl
  simp only [Try.ntmps14, List.size_toArray, List.length_cons, List.length_nil, Nat.reduceAdd, Nat.reduceSub, Array.replicate_succ, Array.replicate_zero, List.push_toArray, List.append_toArray, List.nil_append, List.cons_append]
  gi_wp2_with (refine ⟨trivial, ?_⟩; gi_at_call 31; refine (noted_in _ _ _).mono ?_; rintro e w' ⟨rfl, hw'⟩; rw [← HW1.out, ← HW2.out] at hw'; have HW3 := Lib.hid hw'; clear hw')
  rw [HW3.out]
  refine wpIn_turns (S := fun i => i = w.heap.size) (T := Nothing) (K := Nothing) (fun i h => by omega) (fun i h => h.elim) (fun i h => h.elim) (by omega) (gf := 35) (lb := #[.pointer (some ⟨w.heap.size + 1, 0, none⟩)]) rfl
    (enters_of Try.func35 (by kernel_rfl) rfl) (encs := encD L) (M := L.length) (fun _ => rfl) (E := fun _ _ => True) (fun _ _ _ _ h => h) HT.out
    (fun k W => Whole W w.heap.size 3 #[.int .i64 (k : Int)]) (fun _ _ _ => False)
    (fun k a2 W => a2 = { tmps := #[.pointer c, undef, .int .i64 0, .pointer (some ⟨w.heap.size, 0, none⟩), .pointer c, .func (.func 35) #[] #[.pointer (some ⟨w.heap.size + 1, 0, none⟩)], .int .i64 ((L.getD (k - 1) default).n : Int), .int .i64 (L.getD (k - 1) default).v, undef, undef, undef], defers := [] })
    ?hI ?hX ?hAx ?h0 ?assign ?body ?done ?stop
  case hI =>
    intro k A B hk hT
    exact hT.kept hk (by rintro (e | e | e); exact e.elim; omega; omega)
  case hX => exact fun _ _ _ _ _ h => h
  case hAx => exact fun _ _ _ _ _ h => h
  case h0 => exact HB.out.2
  case assign =>
    intro lp k W K hWz hK
    unfold encD
    gi_wp2
    exact hK _ _ (Below.refl _ W) (by simp)
  case body =>
    rintro lp k W a2 hkM hWz hKT hT rfl
    have hc := hT.cell 0
    have hf := hT.frozen
    simp at hc
    have HT2 := Lib.hid hT
    have hkl : k ≤ 16 := by omega
    clear hT hKT HT
    gi_wp2
    refine ⟨?_, ?_⟩
    · exact keptTo_of (R := fun i => i = w.heap.size) (Kept.setCell (S := fun i => i = w.heap.size) (Kept.refl _ W) (p := ⟨w.heap.size, 0, none⟩) (.inl rfl) _) hWz (fun i _ e => e)
    · exact HT2.out.set 0 _
  case done =>
    rintro D W hD hKT hT _ hDD
    have hc := hT.cell 0
    simp at hc
    have HF := Lib.hid (show Below w.heap.size w (W.putObj D (.deferred none)) from below_on HB.out.1 (hKT.putObj hD (.deferred none)).kept (fun i e => by rcases e with e | e; omega; exact e.elim) HB.out.1.size)
    clear hT hKT HT
    gi_wp2
    refine ⟨by simp, .inl ⟨_, _, rfl, run_takeDeferred hDD, ?_⟩⟩
    exact ⟨_, results_tmp rfl _ _ _, rfl, HF.out⟩
  case stop =>
    rintro D cc k W hD hk1 hkM hKT hX
    exact hX.elim
end Go.Proofs.Ytjgbgakdnapdhaa
