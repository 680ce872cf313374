/- Encode and Decode, the program's and the document's, whatever is handed in. No condition. | What ScriptForms goes by: what lies behind the program's Decode. No condition. -/
import Derived.Test.YtljcaigaofalbaaQRDec
import Derived.Test.YtljcaigaofalbaaQEx
import Derived.Test.YtljcaigaofalbaaQREnc
import Derived.Test.YtljcaigaofalbaaQY
import Derived.Test.YtljcaigaofalbaaQA
import Derived.Test.YtljcaigaofalbaaQFramesL
namespace Go.Proofs.Ytljcaigaofalbaa
open Go.RowKit Go.Shelf

set_option maxRecDepth 100000 in
set_option maxHeartbeats 4000000 in
theorem refEncode_no (x : Pl) (V : ScV) (s : ScA) (w : World) (h : ScAt w V s) (hm : mayS x s.sc = false) :
    Calls Try.prog 14 #[.agg x.cells, .agg V.cells] w fun e w' => e = .returned (.tuple #[.slice none 0 0, .int .i64 110]) ∧ Below w.heap.size w w' := by
  have hX := held_new (held_new (held_start w) 23 x.cells) 29 V.cells
  simp only [List.nil_append, List.cons_append, World.size_alloc] at hX
  have HX := Lib.hid hX
  have HC := Lib.hid (fun W (hW : Below w.heap.size w W) => refCheckS_any x V s W (h.later hW))
  rw [hm] at HC
  unfold errS at HC
  rw [if_neg (by decide)] at HC
  have HS := Lib.hid x.cellsL
  have HV := Lib.hid V.info
  clear hX h hm
  go_enter Try.func14, Try.ntmps14
  go_wp2_with (first
    | (refine wpList_load_row rfl 23 _ rfl w.heap.size rfl 23 x.cells (0, 0) _ (held1 HX.out) Try.underlying23 rfl HS.out.plan ?_)
    | (refine wpList_load_row rfl 29 _ rfl (w.heap.size + 1) rfl 29 V.cells (0, 0) _ (held2 HX.out) Try.underlying29 rfl HV.out ?_)
    | (go_at_call 19; refine (HC.out _ HX.out.1).mono ?_; rintro e w1 ⟨rfl, hb1⟩; have HB1 := Lib.hid hb1; clear hb1))
  go_ret2
  exact ⟨rfl, k_then HB1.out HX.out.1⟩
theorem rchk_no {x : Pl} (hf : ¬ failsL x 11 = 0) (W : World) : Calls Try.prog 56 #[.agg x.cells] W fun e w' => e = .returned (.int .i64 70) ∧ Below W.heap.size W w' := by
  have := refCheck_any x W
  unfold chkL at this
  rwa [if_neg hf] at this

set_option maxRecDepth 100000 in
set_option maxHeartbeats 4000000 in
theorem refDecode_no (x : Pl) (hf : ¬ failsL x 11 = 0) (A : Option Addr) (n c : Nat) (w : World) :
    Calls Try.prog 16 #[.agg x.cells, .slice A n c] w fun e w' => e = .returned (.tuple #[.agg ScV.zero.cells, .int .i64 110]) ∧ Below w.heap.size w w' := by
  have hX := held_new (held_new (held_start w) 23 x.cells) 29 #[.slice none 0 0, .slice none 0 0, .slice none 0 0, .slice none 0 0, .slice none 0 0]
  simp only [List.nil_append, List.cons_append, World.size_alloc] at hX
  have HX := Lib.hid hX
  have HS := Lib.hid x.cellsL
  have HC := Lib.hid (rchk_no hf)
  have HI := Lib.hid info_script
  have HIN := Lib.hid (show (Try.prog.info? 29).map (·.size) = some (#[.slice none 0 0, .slice none 0 0, .slice none 0 0, .slice none 0 0, .slice none 0 0] : Array Value).size from by show _ = some 5; kernel_rfl)
  have HON := Lib.hid (show (#[.slice none 0 0, .slice none 0 0, .slice none 0 0, .slice none 0 0, .slice none 0 0] : Array Value).all (·.oneCell') = true from by simp [Value.oneCell'])
  clear hX hf
  go_enter Try.func16, Try.ntmps16
  go_wp2_with (first
    | (refine wpList_load_row rfl 23 _ rfl w.heap.size rfl 23 x.cells (0, 0) _ (held1 HX.out) Try.underlying23 rfl HS.out.plan ?_)
    | (go_at_call 56; refine (HC.out _).mono ?_; rintro e w1 ⟨rfl, hb1⟩; have HX1 := Lib.hid (held_later hb1 HX.out); clear hb1)
    | (refine wpList_store_row rfl 29 (.tmp 4) (.tmp 28) rfl (w.heap.size + 1) #[.slice none 0 0, .slice none 0 0, .slice none 0 0, .slice none 0 0, .slice none 0 0] rfl rfl 29 #[.slice none 0 0, .slice none 0 0, .slice none 0 0, .slice none 0 0, .slice none 0 0] (held2 HX1.out) HIN.out rfl HON.out ?_))
  refine bodyPost_ret (v := .tuple #[.agg ScV.zero.cells, .int .i64 110]) (results_cell_tmp rfl _ _ (w.heap.size + 1) 29 ScV.zero.cells (0, 0) _ rfl rfl (r_row_whole (held2 HX1.out)) Try.underlying29 rfl HI.out) rfl ⟨rfl, ?_⟩
  exact p_below_row HX1.out.1 (by omega) _

/-- A script's bytes, none if it may not be. -/
def encU (x : Pl) (s : Sc) : List UInt8 := if mayS x s then encS x s else []
theorem Encode_u (x : Pl) (V : ScV) (s : ScA) (w : World) (h : ScAt w V s) (L : List UInt8) (k : Int) (hL : encU x s.sc = L) (hk : errS (mayS x s.sc) = k) :
    Calls Try.prog 13 #[.agg x.cells, .agg V.cells] w fun e w' => ∃ (A : Option Addr) (c : Nat), e = .returned (.tuple #[.slice A L.length c, .int .i64 k]) ∧ Src w' A L.length L ∧ Below w.heap.size w w' := by
  subst hL hk
  unfold encU
  cases hm : mayS x s.sc with
  | true => exact (Encode_sc x V s w h hm _ rfl).mono fun e w' ⟨A, c, e1, e2, _, e3⟩ => ⟨A, c, e1, e2, e3⟩
  | false => exact (encode_no x V s w h hm).mono fun e w' ⟨e1, e2⟩ => ⟨none, 0, e1, Src.nil _ _, e2⟩
theorem refEncode_u (x : Pl) (V : ScV) (s : ScA) (w : World) (h : ScAt w V s) (L : List UInt8) (k : Int) (hL : encU x s.sc = L) (hk : errS (mayS x s.sc) = k) :
    Calls Try.prog 14 #[.agg x.cells, .agg V.cells] w fun e w' => ∃ (A : Option Addr) (c : Nat), e = .returned (.tuple #[.slice A L.length c, .int .i64 k]) ∧ Src w' A L.length L ∧ Below w.heap.size w w' := by
  subst hL hk
  unfold encU
  cases hm : mayS x s.sc with
  | true =>
    refine (refEncode_yes x V s w h hm).mono fun e w' k => ?_
    obtain ⟨v, rfl, hown, hb⟩ := k
    obtain ⟨A, c, rfl, _, hs, _, hz⟩ := Src.of_own hown
    exact ⟨A, c, rfl, hs, hb⟩
  | false => exact (refEncode_no x V s w h hm).mono fun e w' ⟨e1, e2⟩ => ⟨none, 0, e1, Src.nil _ _, e2⟩
/-- What bytes say, nothing if the plan may not be. -/
def decU (x : Pl) (b : List UInt8) : Sc := if failsL x 11 = 0 then decS x b else ⟨[], [], [], [], []⟩
def decE (x : Pl) : Int := if failsL x 11 = 0 then 0 else 110
/-- Its payloads are new, and may be changed. -/
def PlN (b0 : Nat) (w' : World) (s : ScA) : Prop := ∀ y ∈ s.haps, ∀ ad, y.A = some ad → b0 ≤ ad.block ∧ UB w' ad.block
theorem PlN.later {b0 : Nat} {w w' : World} {s : ScA} (h : PlN b0 w s) (hb : Below w.heap.size w w') : PlN b0 w' s := fun y hy ad e => ⟨(h y hy ad e).1, (h y hy ad e).2.kept (Kept.of_below hb Empty) (fun h => h)⟩
/-- Its rows are new. -/
def ScNew (b0 : Nat) (V : ScV) : Prop := (∀ ad, V.r.A = some ad → b0 ≤ ad.block) ∧ (∀ ad, V.o.A = some ad → b0 ≤ ad.block) ∧ (∀ ad, V.d.A = some ad → b0 ≤ ad.block) ∧ (∀ ad, V.h.A = some ad → b0 ≤ ad.block) ∧ (∀ ad, V.f.A = some ad → b0 ≤ ad.block)
theorem ScAt.keep {w w' : World} {V : ScV} {s : ScA} {S : Nat → Prop} {b0 : Nat} (h : ScAt w V s) (hk : Kept S w w') (hV : ScNew b0 V) (hp : PlN b0 w s) (hS : ∀ i, b0 ≤ i → ¬ S i) : ScAt w' V s :=
  ⟨h.r.kept hk (fun ad e => hS _ (hV.1 ad e)), h.o.kept hk (fun ad e => hS _ (hV.2.1 ad e)), h.d.kept hk (fun ad e => hS _ (hV.2.2.1 ad e)), ⟨h.h.row.kept hk (fun ad e => hS _ (hV.2.2.2.1 ad e)), fun a ha => (h.h.pl a ha).kept hk (fun ad e => hS _ (hp a ha ad e).1)⟩, h.f.kept hk (fun ad e => hS _ (hV.2.2.2.2 ad e))⟩
theorem PlN.keep {b0 : Nat} {w w' : World} {s : ScA} {S : Nat → Prop} (h : PlN b0 w s) (hk : Kept S w w') (hS : ∀ i, b0 ≤ i → ¬ S i) : PlN b0 w' s := fun y hy ad e => ⟨(h y hy ad e).1, (h y hy ad e).2.kept hk (hS _ (h y hy ad e).1)⟩
theorem own_new {w' : World} {b0 k n : Nat} {e : TypeId} {s : Sl} {v : Value} {xs : List Value} (ho : w'.ownsRow b0 e k v n xs) (hv : v = s.v) : ∀ ad, s.A = some ad → b0 ≤ ad.block := by
  intro ad hA
  have hg : v.ownBlock = some ad.block := by rw [hv, Sl.v, hA]; rfl
  exact (own_typed ho hg).1
theorem Decode_u (x : Pl) (A : Option Addr) (n c : Nat) (b : List UInt8) (w : World) (hs : Src w A n b) (hz : A = none → c = 0) (hn : n ≤ 65536) (D : Sc) (k : Int) (hD : decU x b = D) (hk : decE x = k) :
    Calls Try.prog 15 #[.agg x.cells, .slice A n c] w fun e w' => ∃ (V : ScV) (s : ScA), e = .returned (.tuple #[.agg V.cells, .int .i64 k]) ∧ ScAt w' V s ∧ s.sc = D ∧ (ScNew w.heap.size V ∧ PlN w.heap.size w' s) ∧ Below w.heap.size w w' := by
  subst hD hk
  refine (Decode_any x A n c b w hs hz).mono fun e w' h => ?_
  unfold decU decE
  by_cases hf : failsL x 11 = 0
  · rw [if_pos ⟨hf, hn⟩] at h
    rw [if_pos hf, if_pos hf]
    obtain ⟨V, s, G, B, rfl, hsb, hG, hsc, hb⟩ := h
    obtain ⟨S, e1, e2, _⟩ := hsb.sc
    have hV := congrArg (fun a : Array Value => a.toList) e1
    simp only [Vs.cells, ScV.cells, List.cons.injEq, and_true] at hV
    exact ⟨S, s, by rw [e1], e2, hsc, ⟨⟨own_new hsb.r0 hV.1, own_new hsb.r1 hV.2.1, own_new hsb.r2 hV.2.2.1, own_new hsb.r3 hV.2.2.2.1, own_new hsb.r4 hV.2.2.2.2⟩, fun y hy ad e => ⟨hG _ ((hsb.pl y hy).2 ad e).1, ((hsb.pl y hy).2 ad e).2⟩⟩, hb⟩
  · rw [if_neg (fun a => hf a.1)] at h
    rw [if_neg hf, if_neg hf]
    exact ⟨ScV.zero, ⟨[], [], [], [], []⟩, h.1, ScAt.zero _, rfl, ⟨⟨(fun _ e => by cases e), (fun _ e => by cases e), (fun _ e => by cases e), (fun _ e => by cases e), (fun _ e => by cases e)⟩, (fun y hy => by cases hy)⟩, h.2⟩
theorem refDecode_u (x : Pl) (A : Option Addr) (c : Nat) (b : List UInt8) (w : World) (hs : Src w A b.length b) (hn : b.length ≤ 65536) (D : Sc) (k : Int) (hD : decU x b = D) (hk : decE x = k) :
    Calls Try.prog 16 #[.agg x.cells, .slice A b.length c] w fun e w' => ∃ (V : ScV) (s : ScA), e = .returned (.tuple #[.agg V.cells, .int .i64 k]) ∧ ScAt w' V s ∧ s.sc = D ∧ Below w.heap.size w w' := by
  subst hD hk
  unfold decU decE
  by_cases hf : failsL x 11 = 0
  · rw [if_pos hf, if_pos hf]
    refine (refDecode_yes x hf A c b w hs hn).mono fun e w' h => ?_
    obtain ⟨V, s, B, rfl, hsb, hsc, hb⟩ := h
    obtain ⟨S, e1, e2, _⟩ := hsb.sc
    exact ⟨S, s, by rw [e1], e2, hsc, hb⟩
  · rw [if_neg hf, if_neg hf]
    exact (refDecode_no x hf A _ c w).mono fun e w' h => ⟨ScV.zero, ⟨[], [], [], [], []⟩, h.1, ScAt.zero _, rfl, h.2⟩
theorem later_conv {w : World} {A : Option Addr} {n : Nat} {l : List UInt8} (y : Later w) (h : Src w A n l) (c : Nat) : (convert 30 9 (.slice A n c)).run Try.prog y.at_ = .ok (.string ⟨l.toArray⟩) y.at_ :=
  (h.below y.below).convert (P := Try.prog) c 30 5 9 Try.underlying30 Try.underlying5 Try.underlying9
theorem src_conv {w : World} {A : Option Addr} {n : Nat} {l : List UInt8} (h : Src w A n l) (c : Nat) : (convert 30 9 (.slice A n c)).run Try.prog w = .ok (.string ⟨l.toArray⟩) w :=
  h.convert (P := Try.prog) c 30 5 9 Try.underlying30 Try.underlying5 Try.underlying9
end Go.Proofs.Ytljcaigaofalbaa

namespace Go.Proofs.Ytljcaigaofalbaa
open Go.RowKit Go.Shelf

/-- What lies behind the program's Decode: what it answers in a box of its own. -/
def FormR (wc : World) (D : Sc) (k : Int) (s13 s14 : Value) (W : World) : Prop :=
  ∃ (B : Nat) (U : ScV) (u : ScA), s13 = .pointer (some ⟨B, 0, none⟩) ∧ s14 = .int .i64 k ∧ Whole W B 29 U.cells ∧ ScAt W U u ∧ u.sc = D ∧ PlN wc.heap.size W u ∧ wc.heap.size ≤ B ∧ Below wc.heap.size wc W
section
variable {wc w7 : World} {s' : ScA} {D : Sc} {k : Int} {B0 B1 B2 B3 B4 : Option Addr} {a0 a1 a2 a3 a4 d0 d1 d2 d3 d4 M : Nat}
theorem formR_new (hq : ScAt w7 ⟨⟨B0, a0, d0⟩, ⟨B1, a1, d1⟩, ⟨B2, a2, d2⟩, ⟨B3, a3, d3⟩, ⟨B4, a4, d4⟩⟩ s') (hd : s'.sc = D) (hp : PlN M w7 s') (hM : wc.heap.size ≤ M) (hb : Below wc.heap.size wc w7) :
    FormR wc D k (.pointer (some ⟨w7.heap.size, 0, none⟩)) (.int .i64 k) (w7.alloc (.cells #[.slice B0 a0 d0, .slice B1 a1 d1, .slice B2 a2 d2, .slice B3 a3 d3, .slice B4 a4 d4] 29)) := by
  have hb2 : Below w7.heap.size w7 (w7.alloc (.cells #[.slice B0 a0 d0, .slice B1 a1 d1, .slice B2 a2 d2, .slice B3 a3 d3, .slice B4 a4 d4] 29)) := (Below.refl _ _).alloc (Nat.le_refl _) _
  exact ⟨w7.heap.size, ⟨⟨B0, a0, d0⟩, ⟨B1, a1, d1⟩, ⟨B2, a2, d2⟩, ⟨B3, a3, d3⟩, ⟨B4, a4, d4⟩⟩, s', rfl, rfl, Whole.new w7 _ _, hq.later hb2, hd, fun y hy ad e => ⟨Nat.le_trans hM (hp y hy ad e).1, ((hp.later hb2) y hy ad e).2⟩, hb.size, k_then hb2 hb⟩
theorem formR_set {B : Nat} {y0 y1 y2 y3 y4 : Value} (hz : Whole w7 B 29 #[y0, y1, y2, y3, y4]) (hq : ScAt w7 ⟨⟨B0, a0, d0⟩, ⟨B1, a1, d1⟩, ⟨B2, a2, d2⟩, ⟨B3, a3, d3⟩, ⟨B4, a4, d4⟩⟩ s') (hd : s'.sc = D) (hv : ScNew M ⟨⟨B0, a0, d0⟩, ⟨B1, a1, d1⟩, ⟨B2, a2, d2⟩, ⟨B3, a3, d3⟩, ⟨B4, a4, d4⟩⟩) (hp : PlN M w7 s') (hM : B < M) (hB : wc.heap.size ≤ B) (hb : Below wc.heap.size wc w7) :
    FormR wc D k (.pointer (some ⟨B, 0, none⟩)) (.int .i64 k) (((((w7.setCell ⟨B, 0, none⟩ (.slice B0 a0 d0)).setCell ⟨B, 1, none⟩ (.slice B1 a1 d1)).setCell ⟨B, 2, none⟩ (.slice B2 a2 d2)).setCell ⟨B, 3, none⟩ (.slice B3 a3 d3)).setCell ⟨B, 4, none⟩ (.slice B4 a4 d4)) := by
  have kk := kept5 (Kept.refl (fun i => i = B) w7) (B := B) (.inl rfl) (.slice B0 a0 d0) (.slice B1 a1 d1) (.slice B2 a2 d2) (.slice B3 a3 d3) (.slice B4 a4 d4)
  have hS : ∀ i, M ≤ i → ¬ i = B := fun i hi e => by omega
  refine ⟨B, ⟨⟨B0, a0, d0⟩, ⟨B1, a1, d1⟩, ⟨B2, a2, d2⟩, ⟨B3, a3, d3⟩, ⟨B4, a4, d4⟩⟩, s', rfl, rfl, set5 hz _ _ _ _ _, hq.keep kk hv hp hS, hd, fun y hy ad e => ⟨by have := (hp y hy ad e).1; omega, ((hp.keep kk hS) y hy ad e).2⟩, hB, ?_⟩
  exact ((((hb.setCell hB _).setCell hB _).setCell hB _).setCell hB _).setCell hB _
theorem cat_seven (l : List UInt8) : (l ++ [7] == ((⟨l.toArray⟩ : ByteArray) ++ (⟨#[7]⟩ : ByteArray)).toList) = true := by
  rw [ByteArray.toList_eq, ByteArray.data_append, Array.toList_append]
  simp
theorem cells_lit : ScV.cells ⟨⟨B0, a0, d0⟩, ⟨B1, a1, d1⟩, ⟨B2, a2, d2⟩, ⟨B3, a3, d3⟩, ⟨B4, a4, d4⟩⟩ = #[.slice B0 a0 d0, .slice B1 a1 d1, .slice B2 a2 d2, .slice B3 a3 d3, .slice B4 a4 d4] := rfl
theorem b5l {a W : World} {b B : Nat} (h : Below b a W) (hB : b ≤ B) (v0 v1 v2 v3 v4 : Value) : Below b a (((((W.setCell ⟨B, 0, none⟩ v0).setCell ⟨B, 1, none⟩ v1).setCell ⟨B, 2, none⟩ v2).setCell ⟨B, 3, none⟩ v3).setCell ⟨B, 4, none⟩ v4) := ((((h.setCell hB _).setCell hB _).setCell hB _).setCell hB _).setCell hB _
end
end Go.Proofs.Ytljcaigaofalbaa
