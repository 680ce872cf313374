/- Put of an Out, by a contract. -/
import Derived.Test.YtljcaigaofalbaaQB
namespace Go.Proofs.Ytljcaigaofalbaa
open Go.RowKit Go.Shelf
attribute [local go_sem] Oper.semAt_some

/-- What Put makes of an Out. -/
def putSt (st : Option (List UInt8)) (n : Int) (x : Nat) : Option (List UInt8) := if fitsW n x then st.map (· ++ beBytes n.toNat x) else none

theorem put_bad (w : World) (S : Nat → Prop) (a : Nat) (n : Int) (x : Nat) (h : OutAt w S a none) :
    Calls Try.prog 46 #[.pointer (some ⟨a, 0, none⟩), .int .i64 n, .int .u64 (x : Int)] w (Turned w S a none) := by
  go_enter Try.func46, Try.ntmps46
  go_wp2_with (go_at_call 81; refine (spoilt_any _ _ _ _ _ h.bad).mono ?_; rintro e w' ⟨rfl, rfl⟩)
  go_ret
  exact ⟨rfl, h.more (fun _ h => .inl h) (Grow.lt h.lt (Nat.le_refl _)), Kept.refl _ _⟩

theorem put_unfit (w : World) (S : Nat → Prop) (a : Nat) (n : Int) (x : Nat) (l : List UInt8) (h : OutAt w S a (some l)) (hf : fitsW n x = false) (hx : x < 18446744073709551616) :
    Calls Try.prog 46 #[.pointer (some ⟨a, 0, none⟩), .int .i64 n, .int .u64 (x : Int)] w (Turned w S a none) := by
  obtain ⟨sp, hsp⟩ := h.good
  have c0 := hsp.whole.cell 0
  have c1 := hsp.whole.cell 1
  have c2 := hsp.whole.cell 2
  have z0 := hsp.whole.frozen 0
  have z1 := hsp.whole.frozen 1
  have z2 := hsp.whole.frozen 2
  simp at c0 c1 c2
  have HX := Lib.hid hx
  clear hx
  go_enter Try.func46, Try.ntmps46
  go_wp2_with (first | (go_at_call 81; refine (spoilt_any _ _ _ _ _ hsp).mono ?_; rintro e w' ⟨rfl, rfl⟩) | (go_at_call 82; refine (fits_any _ _ _ HX.out).mono ?_; rintro e w' ⟨rfl, rfl⟩))
  go_ret
  refine ⟨rfl, ⟨Grow.lt h.lt (by simp [World.setCell]), .inl h.own, .inl ⟨rfl, ⟨by simpa using ((hsp.whole.set 0 (.pointer none)).set 1 (.int .i64 0)).set 2 (.bool true)⟩⟩⟩, (((Kept.refl S w).setCell (p := ⟨a, 0, none⟩) (.inl h.own) _).setCell (p := ⟨a, 1, none⟩) (.inl h.own) _).setCell (p := ⟨a, 2, none⟩) (.inl h.own) _⟩

theorem noDefer_of {ops : Array Oper} (h : ∀ o ∈ ops.toList, ∀ c, o.op ≠ .defer c) : ∀ (i : Nat) (o : Oper) c, ops[i]? = some o → o.op ≠ .defer c := fun i o c ho => h o (by
  obtain ⟨hi, rfl⟩ := Array.getElem?_eq_some_iff.1 ho
  simp) c

/-- What holds between two rounds of Put's loop, the bytes L standing on the shelf. -/
structure Mid (w : World) (S : Nat → Prop) (a sb Bt : Nat) (z : Int) (n x : Nat) (L : List UInt8) (W : World) : Prop where
  shelf : ∃ v, Shelf W (Grow S w W) a sb z L v
  kept : Kept S w W
  box : Whole W Bt 68 #[.pointer (some ⟨sb, 0, none⟩)]
  bw : Whole W (Bt + 1) 3 #[.int .i64 (n : Int)]
  bn : Whole W (Bt + 1 + 1) 75 #[.int .u64 (x : Int)]

section
variable {w W W' X w2 : World} {S : Nat → Prop} {a sb Bt n x : Nat} {z : Int} {L : List UInt8} {v v2 : Value} {b : UInt8}
theorem Grow.mono (h : W.heap.size ≤ W'.heap.size) : ∀ k, Grow S w W k → Grow S w W' k := by
  rintro k (hk | hk)
  · exact .inl hk
  · exact .inr ⟨hk.1, by omega⟩

theorem Mid.own (h : Mid w S a sb Bt z n x L W) {row : Option Nat} {B : Nat} (hB : w.heap.size ≤ B) (hg : W.grownBy W' row) (hr : ∀ r, row = some r → B ≤ r ∧ ∃ o : Obj, W.heap[r]? = some o ∧ o.isCells = false) (hlt : ∀ k, S k → k < w.heap.size) : Mid w S a sb Bt z n x L W' := by
  have ne : ∀ {g t cs}, Whole W g t cs → some g ≠ row := fun {g t cs} hw e => by
    obtain ⟨o, ho, hc⟩ := (hr g e.symm).2
    rw [show W.heap[g]? = _ from hw] at ho
    cases ho
    cases hc
  obtain ⟨v, hs⟩ := h.shelf
  have hk : Kept S w W' := h.kept.grown hg (fun k e => .inr (Nat.le_trans hB (hr k e).1))
  refine ⟨⟨v, Grow.lt hlt hk.size, Grow.mono hg.size _ hs.own, ⟨hs.cells.whole.grown hg (ne hs.cells.whole)⟩, Grow.mono hg.size _ hs.mine, hs.whole.grown hg (ne hs.whole), ?_, fun g e => Grow.mono hg.size _ (hs.rows g e)⟩, hk, h.box.grown hg (ne h.box), h.bw.grown hg (ne h.bw), h.bn.grown hg (ne h.bn)⟩
  refine hs.row.kept hg ?_
  rcases hs.row.2 with ⟨rfl, _⟩ | ⟨g, cap, cur, rfl, _, hgb, _⟩
  · exact .inl rfl
  · exact .inr (fun e => ne (t := 5) (cs := cur) hgb e)

/-- A round: the append's two words, and the store behind it. -/
theorem Mid.step (h : Mid w S a sb Bt z n x L W) (hs : Shelf W (Grow S w W) a sb z L v) (hlt : ∀ k, S k → k < w.heap.size) (hX : Kept Empty W X) (hXo : KeepsOthers W X)
    (h1 : w2.ownsRow 0 5 1 v2 (L.length + 1) (bv L ++ bv [b])) (h2 : X.grownBy w2 v.ownBlock) (h3 : v2.ownBlock = v.ownBlock ∨ v2.ownBlock = some X.heap.size) (B : Nat) :
    KeepsFrom B W (w2.setCell ⟨sb, 0, none⟩ v2) ∧ KpB (Bt + 1) (Bt + 1 + 1) W (w2.setCell ⟨sb, 0, none⟩ v2) ∧ Mid w S a sb Bt z n x (L ++ [b]) (w2.setCell ⟨sb, 0, none⟩ v2) := by
  have hsX : Shelf X (Grow S w W) a sb z L v := hs.keep hX (fun _ _ h => h)
  have h1' : w2.ownsRow 0 5 1 v2 (L ++ [b]).length (bv (L ++ [b])) := by rw [bv_append, List.length_append]; exact h1
  obtain ⟨hs2, hk2⟩ := hsX.appended h2 h1' h3
  have keep : ∀ {g t cs}, Whole W g t cs → t ≠ 5 → t ≠ 132 → Whole (w2.setCell ⟨sb, 0, none⟩ v2) g t cs := fun {g t cs} hw ht hts =>
    ((hw.kept hX (fun h => h)).grown h2 ((hw.kept hX (fun h => h)).not_row ht hsX.row)).far (hw.apart hs.whole hts) _
  have hbox := keep h.box (by decide) (by decide)
  have hbw := keep h.bw (by decide) (by decide)
  have hbn := keep h.bn (by decide) (by decide)
  have hkW : Kept S w X := h.kept.trans (T := Empty) hX (fun _ _ h => h.elim)
  have hkk : Kept S w (w2.setCell ⟨sb, 0, none⟩ v2) := hkW.trans hk2 (fun i hi hg => by
    rcases hg with hg | hg
    · exact hg
    · omega)
  refine ⟨?_, ⟨by rw [hbw.cell 0, h.bw.cell 0], by rw [hbn.cell 0, h.bn.cell 0]⟩, ⟨_, hs2.more (fun k hg => ?_) (Grow.lt hlt hkk.size)⟩, hkk, hbox, hbw, hbn⟩
  · refine KeepsOthers.from ((hXo.trans (KeepsOthers.of_grownBy h2 fun j o ej hj => ?_)).trans (KeepsOthers.setCell _ _ _)) B
    rcases hsX.row.2 with ⟨rfl, _⟩ | ⟨g, cap, cur, rfl, _, hgb, _⟩
    · simp [Value.ownBlock] at ej
    · obtain rfl : g = j := by simpa [Value.ownBlock] using ej
      rw [hgb] at hj
      cases hj
      rfl
  · have hz1 := h.kept.size
    have hz2 := hX.size
    rcases hg with (hg | hg) | hg
    · exact .inl hg
    · exact .inr ⟨hg.1, by have := hk2.size; omega⟩
    · exact .inr ⟨by omega, hg.2⟩

theorem Mid.finish (hm : Mid w S a sb Bt z n x L W) (hs : Shelf W (Grow S w W) a sb z L v) (hlt : ∀ k, S k → k < w.heap.size) {D : Nat} (hD : w.heap.size ≤ D) (hK : W.heap[D]? = some (.deferred (some []))) :
    Turned w S a (some L) (.returned (.pointer (some ⟨a, 0, none⟩))) ((W.setCell ⟨a, 1, none⟩ (.int .i64 (L.length : Int))).putObj D (.deferred none)) := by
  obtain ⟨h1, hk1⟩ := hs.sized
  have hsz : (W.setCell ⟨a, 1, none⟩ (.int .i64 (L.length : Int))).heap.size = W.heap.size := by simp [World.setCell]
  have hkk : Kept S w (W.setCell ⟨a, 1, none⟩ (.int .i64 (L.length : Int))) := hm.kept.fromGrow hk1
  have hm1 : Mid w S a sb Bt (L.length : Int) n x L (W.setCell ⟨a, 1, none⟩ (.int .i64 (L.length : Int))) :=
    ⟨⟨v, h1.more (Grow.mono hk1.size) (Grow.lt hlt hkk.size)⟩, hkk, hm.box.far (hm.box.apart hs.cells.whole (by decide)) _, hm.bw.far (hm.bw.apart hs.cells.whole (by decide)) _, hm.bn.far (hm.bn.apart hs.cells.whole (by decide)) _⟩
  have hK1 := (KeepsOthers.setCell W ⟨a, 1, none⟩ (.int .i64 (L.length : Int))).same D _ hK rfl
  have hm2 := hm1.own hD (grownBy_putObj' _ D (.deferred none)) (fun r e => by cases e; exact ⟨Nat.le_refl _, _, hK1, rfl⟩) hlt
  obtain ⟨v2, hs2⟩ := hm2.shelf
  exact ⟨rfl, hs2.out, hm2.kept⟩
end

set_option maxRecDepth 100000 in
set_option maxHeartbeats 2000000 in
theorem put_good (w : World) (S : Nat → Prop) (a : Nat) (n : Nat) (x : Nat) (l : List UInt8) (h : OutAt w S a (some l)) (hf : fitsW n x = true) (hx : x < 18446744073709551616) (hlen : l.length ≤ 274877906944) :
    Calls Try.prog 46 #[.pointer (some ⟨a, 0, none⟩), .int .i64 (n : Int), .int .u64 (x : Int)] w (Turned w S a (some (l ++ beBytes n x))) := by
  obtain ⟨i0, hi, hz0, hz1, hz2⟩ := info_parts u8_info
  obtain ⟨sp, hsp⟩ := h.good
  have HX := Lib.hid hx
  clear hx
  refine (callsIn_wide (n := 5)).1 ?_
  refine callsIn_of_wp_marks Try.func46 rfl trivial ?_ rfl
  simp only [Try.ntmps46, List.size_toArray, List.length_cons, List.length_nil, Nat.reduceAdd, Nat.reduceSub, Array.replicate_succ, Array.replicate_zero, List.push_toArray, List.append_toArray, List.nil_append, List.cons_append]
  gi_wp2_with (first
    | (refine ⟨trivial, ?_⟩; gi_at_call 81; refine (callsIn_wide.2 (spoilt_any _ _ _ _ _ hsp)).mono ?_; rintro e w' ⟨rfl, rfl⟩)
    | (refine ⟨trivial, ?_⟩; gi_at_call 82; refine (callsIn_wide.2 (fits_any _ _ _ HX.out)).mono ?_; rintro e w' ⟨rfl, rfl⟩)
    | (refine ⟨trivial, ?_⟩; gi_at_call 83; refine (callsIn_wide.2 (ownShelf_any w S a l h (by omega))).mono ?_; rintro e w1 ⟨sb, v, rfl, hsh, hk1⟩)
    | (refine ⟨trivial, ?_⟩; gi_at_call 84; refine (bytesOf_in _ _ _ _).mono ?_; rintro e w' ⟨rfl, rfl⟩))
  have hn8 : n ≤ 8 := by
    simp [fitsW, isW] at hf
    omega
  obtain ⟨W0, hW0⟩ : ∃ W0, ((w1.alloc (.cells #[.pointer (some ⟨sb, 0, none⟩)] 68)).alloc (.cells #[.int .i64 (n : Int)] 3)).alloc (.cells #[.int .u64 (x : Int)] 75) = W0 := ⟨_, rfl⟩
  have hsz : W0.heap.size = w1.heap.size + 1 + 1 + 1 := by rw [← hW0]; simp
  have hm0 : Mid w S a sb w1.heap.size (l.length : Int) n x l W0 := by
    have b1 := Whole.new w1 68 #[.pointer (some ⟨sb, 0, none⟩)]
    have b2 := Whole.new (w1.alloc (.cells #[.pointer (some ⟨sb, 0, none⟩)] 68)) 3 #[.int .i64 (n : Int)]
    have b3 := Whole.new ((w1.alloc (.cells #[.pointer (some ⟨sb, 0, none⟩)] 68)).alloc (.cells #[.int .i64 (n : Int)] 3)) 75 #[.int .u64 (x : Int)]
    simp only [World.size_alloc] at b2 b3
    have hk0 : Kept Empty w1 W0 := by rw [← hW0]; exact (((Kept.refl _ _).alloc _).alloc _).alloc _
    refine ⟨⟨v, (hsh.keep hk0 (fun _ _ h => h)).more (Grow.mono hk0.size) (Grow.lt h.lt (Nat.le_trans hk1.size hk0.size))⟩, hk1.trans hk0 (fun _ _ h => h.elim), ?_, ?_, ?_⟩
    · rw [← hW0]; exact (b1.alloc _).alloc _
    · rw [← hW0]; exact b2.alloc _
    · rw [← hW0]; exact b3
  rw [hW0]
  have hm0' := hm0
  refine wpIn_rangeFunc_ownG rfl (by omega) (gf := 107) (lb := #[.pointer (some ⟨w1.heap.size + 1, 0, none⟩), .pointer (some ⟨w1.heap.size + 1 + 1, 0, none⟩)]) rfl trivial (enters_of Try.func107 (by kernel_rfl) rfl)
    (bytesOf_stops 4 (by omega) (w1.heap.size + 1) (w1.heap.size + 1 + 1) n x W0 (by omega) (by omega) (by simpa using hm0.bw.cell 0) (by simpa using hm0.bn.cell 0) hn8)
    (fun h k => ⟨k.1.trans h.1, k.2.trans h.2⟩)
    (fun W l o o' hl ho hc _ => ⟨World.cell?_of_block (World.putObj_heap_other (by simp; omega)), World.cell?_of_block (World.putObj_heap_other (by simp; omega))⟩)
    (Below.refl _ _) (fun _ => rfl)
    (fun pre W => Mid w S a sb w1.heap.size (l.length : Int) n x (l ++ pre) W)
    (fun _ _ _ => False)
    (fun pre W W' row hs hg hr => hs.own (by have := hk1.size; omega) hg hr h.lt)
    (fun _ _ _ _ _ hs _ _ => hs)
    (by simpa using hm0)
    (fun b => { tmps := #[.pointer (some ⟨a, 0, none⟩), .int .i64 (n : Int), .int .u64 (x : Int), undef, undef, undef, .pointer none, .pointer (some ⟨w1.heap.size, 0, none⟩), .int .u8 (b.toNat : Int), .pointer (some ⟨a, 0, none⟩), .bool false, undef, .int .i64 (n : Int), .int .u64 (x : Int), .bool true, .bool false, undef, undef, undef, undef, .pointer (some ⟨a, 0, none⟩), .pointer (some ⟨sb, 0, none⟩), .int .i64 (n : Int), .int .u64 (x : Int), .func (.func 107) #[] #[.pointer (some ⟨w1.heap.size + 1, 0, none⟩), .pointer (some ⟨w1.heap.size + 1 + 1, 0, none⟩)], .int .u8 (b.toNat : Int), undef, undef, undef, undef, undef, undef, undef, undef, undef, undef, undef, undef, undef, undef, undef, undef, undef, undef, undef], defers := [] }) ?assign ?body ?done ?stop
  case assign =>
    intro l x W K hK
    gi_wp2
    exact hK
  case body =>
    rintro l0 pre b W hm hlt
    obtain ⟨L, hL⟩ : ∃ L, L = l ++ pre := ⟨_, rfl⟩
    have hLn : L.length ≤ 300000000000 := by rw [hL, List.length_append]; omega
    have e1 : l ++ (pre ++ [b]) = L ++ [b] := by rw [hL, List.append_assoc]
    rw [← hL] at hm
    have E1 := Lib.hid e1
    clear e1
    have HL := Lib.hid hL
    clear hL hW0 hm0 hm0' hf hsp
    obtain ⟨v', hs⟩ := hm.shelf
    obtain ⟨A, c, rfl, _⟩ := Src.of_own hs.row
    have hkX : Kept Empty W (W.alloc (.cells #[.int .u8 (b.toNat : Int)] 5)).drew := ((Kept.refl _ _).alloc _).drew
    have hoX : KeepsOthers W (W.alloc (.cells #[.int .u8 (b.toNat : Int)] 5)).drew := (KeepsOthers.alloc W _).trans (KeepsOthers.drew _)
    have hsX := hs.keep hkX (fun _ _ h => h)
    have hsrcX : Src (W.alloc (.cells #[.int .u8 (b.toNat : Int)] 5)).drew (some ⟨W.heap.size, 0, none⟩) 1 [b] := ⟨rfl, fun _ => ⟨_, _, rfl, fun i hi => by
      obtain rfl : i = 0 := by simpa using hi
      simp⟩⟩
    have hbx : ∀ w2, (W.alloc (.cells #[.int .u8 (b.toNat : Int)] 5)).drew.grownBy w2 (Value.slice A L.length c).ownBlock → w2.cell? ⟨w1.heap.size, 0, none⟩ = some (.pointer (some ⟨sb, 0, none⟩)) := fun w2 h2 => by
      have hbX := hm.box.kept hkX (fun h => h)
      simpa using (hbX.grown h2 (hbX.not_row (by decide) hsX.row)).cell 0
    have hfin := fun (v2 : Value) (w2 : World) (B : Nat) h1 h2 h3 => hm.step (v2 := v2) (w2 := w2) (b := b) hs h.lt hkX hoX h1 h2 h3 B
    rw [← E1.out] at hfin
    have hb0 := hm.box.cell 0
    have hs0 := hs.whole.cell 0
    have hb1 := (hm.box.alloc (.cells #[.int .u8 (b.toNat : Int)] 5)).cell 0
    have hs1 := (hs.whole.alloc (.cells #[.int .u8 (b.toNat : Int)] 5)).cell 0
    simp at hb0 hs0 hb1 hs1
    gi_wp2
    refine wpIn_region_any (by kernel_rfl) (wpAnyIn_inRound (F := Fence.wide) l0 rfl (noDefer_of (by simp)) _ _ _ _ ?_)
    change wpAnyIn _ _ _ _ _ _ _ _ _ (World.drew _)
    refine wpAnyIn_take (i := 5) (v := .int .u8 (b.toNat : Int)) rfl rfl (by kernel_rfl) (by kernel_rfl) (by kernel_rfl) (fun _ _ _ h => h) ⟨Or.inl ⟨by rfl, ?_⟩, fun _ => rfl⟩ ?_
    · intro w; go_simp
    refine wpAnyIn_ready (rs := [0, 1, 6]) (by kernel_rfl) (by simp) (AllReadyIn.cons rfl (fun K hK => ?_) (AllReadyIn.cons rfl (fun K hK => ?_) (AllReadyIn.cons rfl (fun K hK => ?_) AllReadyIn.nil)))
    · go_simp
      refine hK _ _ ?_
      clear hK K
      refine wpAnyIn_ready (rs := [1, 6]) (by kernel_rfl) (by simp) (AllReadyIn.cons rfl (fun K hK => ?_) (AllReadyIn.cons rfl (fun K hK => ?_) AllReadyIn.nil))
      · go_simp
        refine hK _ _ ?_
        clear hK K
        refine wpAnyIn_take (i := 2) (v := .pointer (some ⟨sb, 0, none⟩)) rfl rfl (by kernel_rfl) (by kernel_rfl) (by kernel_rfl) (fun _ _ _ h => h) ⟨Or.inl ⟨by rfl, ?_⟩, fun _ => rfl⟩ ?_
        · intro w; go_simp
        refine wpAnyIn_take (i := 3) (v := .pointer (some ⟨sb, 0, none⟩)) rfl rfl (by kernel_rfl) (by kernel_rfl) (by kernel_rfl) (fun _ _ _ h => h) ⟨Or.inl ⟨by rfl, ?_⟩, fun _ => rfl⟩ ?_
        · intro w; go_simp
        refine wpAnyIn_ready (rs := [4, 6]) (by kernel_rfl) (by simp) (AllReadyIn.cons rfl (fun K hK => ?_) (AllReadyIn.cons rfl (fun K hK => ?_) AllReadyIn.nil))
        · go_simp
          refine hK _ _ ?_
          clear hK K
          refine wpAnyIn_ready (rs := [6]) (by kernel_rfl) (by simp) (AllReadyIn.cons rfl (fun K hK => ?_) AllReadyIn.nil)
          · go_simp
            refine hK _ _ ?_
            clear hK K
            refine wpAnyIn_ready (rs := [7]) (by kernel_rfl) (by simp) (AllReadyIn.cons rfl (fun K hK => ?_) AllReadyIn.nil)
            · refine stepIn_append_src rfl rfl (.tmp 30) (.tmp 32) 30 rfl 0 5 i0 Try.underlying30 hi hz0 hz1 hz2 (.slice A L.length c) L.length (bv L) rfl hsX.row (some ⟨W.heap.size, 0, none⟩) 1 1 [b] rfl hsrcX (by omega) (Nat.zero_le _) ?_
              intro v2 w2 h1 h2 h3
              obtain ⟨A2, c2, e2, g1, g2, g3, g4, g5, g6⟩ := tail_step hsX rfl h1 h2 h3
              have hb2 := hbx w2 h2
              subst e2
              refine hK _ _ ?_
              clear hK K
              refine wpAnyIn_take (i := 8) (v := .pointer (some ⟨sb, 0, none⟩)) rfl rfl (by kernel_rfl) (by kernel_rfl) (by kernel_rfl) (fun _ _ _ h => h) ⟨Or.inl ⟨by rfl, ?_⟩, fun _ => rfl⟩ ?_
              · intro w; go_simp
              refine wpAnyIn_take (i := 9) (v := .pointer (some ⟨sb, 0, none⟩)) rfl rfl (by kernel_rfl) (by kernel_rfl) (by kernel_rfl) (fun _ _ _ h => h) ⟨Or.inl ⟨by rfl, ?_⟩, fun _ => rfl⟩ ?_
              · intro w; go_simp
              refine wpAnyIn_ready (rs := [10]) (by kernel_rfl) (by simp) (AllReadyIn.cons rfl (fun K hK => ?_) AllReadyIn.nil)
              · go_simp
                refine hK _ _ ?_
                clear hK K
                refine wpAnyIn_done (by kernel_rfl) ?_ _
                exact hfin _ _ _ h1 h2 h3
        · go_simp
          refine hK _ _ ?_
          clear hK K
          refine wpAnyIn_ready (rs := [4]) (by kernel_rfl) (by simp) (AllReadyIn.cons rfl (fun K hK => ?_) AllReadyIn.nil)
          · go_simp
            refine hK _ _ ?_
            clear hK K
            refine wpAnyIn_ready (rs := [7]) (by kernel_rfl) (by simp) (AllReadyIn.cons rfl (fun K hK => ?_) AllReadyIn.nil)
            · refine stepIn_append_src rfl rfl (.tmp 30) (.tmp 32) 30 rfl 0 5 i0 Try.underlying30 hi hz0 hz1 hz2 (.slice A L.length c) L.length (bv L) rfl hsX.row (some ⟨W.heap.size, 0, none⟩) 1 1 [b] rfl hsrcX (by omega) (Nat.zero_le _) ?_
              intro v2 w2 h1 h2 h3
              obtain ⟨A2, c2, e2, g1, g2, g3, g4, g5, g6⟩ := tail_step hsX rfl h1 h2 h3
              have hb2 := hbx w2 h2
              subst e2
              refine hK _ _ ?_
              clear hK K
              refine wpAnyIn_take (i := 8) (v := .pointer (some ⟨sb, 0, none⟩)) rfl rfl (by kernel_rfl) (by kernel_rfl) (by kernel_rfl) (fun _ _ _ h => h) ⟨Or.inl ⟨by rfl, ?_⟩, fun _ => rfl⟩ ?_
              · intro w; go_simp
              refine wpAnyIn_take (i := 9) (v := .pointer (some ⟨sb, 0, none⟩)) rfl rfl (by kernel_rfl) (by kernel_rfl) (by kernel_rfl) (fun _ _ _ h => h) ⟨Or.inl ⟨by rfl, ?_⟩, fun _ => rfl⟩ ?_
              · intro w; go_simp
              refine wpAnyIn_ready (rs := [10]) (by kernel_rfl) (by simp) (AllReadyIn.cons rfl (fun K hK => ?_) AllReadyIn.nil)
              · go_simp
                refine hK _ _ ?_
                clear hK K
                refine wpAnyIn_done (by kernel_rfl) ?_ _
                exact hfin _ _ _ h1 h2 h3
      · go_simp
        refine hK _ _ ?_
        clear hK K
        refine wpAnyIn_ready (rs := [1]) (by kernel_rfl) (by simp) (AllReadyIn.cons rfl (fun K hK => ?_) AllReadyIn.nil)
        · go_simp
          refine hK _ _ ?_
          clear hK K
          refine wpAnyIn_take (i := 2) (v := .pointer (some ⟨sb, 0, none⟩)) rfl rfl (by kernel_rfl) (by kernel_rfl) (by kernel_rfl) (fun _ _ _ h => h) ⟨Or.inl ⟨by rfl, ?_⟩, fun _ => rfl⟩ ?_
          · intro w; go_simp
          refine wpAnyIn_take (i := 3) (v := .pointer (some ⟨sb, 0, none⟩)) rfl rfl (by kernel_rfl) (by kernel_rfl) (by kernel_rfl) (fun _ _ _ h => h) ⟨Or.inl ⟨by rfl, ?_⟩, fun _ => rfl⟩ ?_
          · intro w; go_simp
          refine wpAnyIn_ready (rs := [4]) (by kernel_rfl) (by simp) (AllReadyIn.cons rfl (fun K hK => ?_) AllReadyIn.nil)
          · go_simp
            refine hK _ _ ?_
            clear hK K
            refine wpAnyIn_ready (rs := [7]) (by kernel_rfl) (by simp) (AllReadyIn.cons rfl (fun K hK => ?_) AllReadyIn.nil)
            · refine stepIn_append_src rfl rfl (.tmp 30) (.tmp 32) 30 rfl 0 5 i0 Try.underlying30 hi hz0 hz1 hz2 (.slice A L.length c) L.length (bv L) rfl hsX.row (some ⟨W.heap.size, 0, none⟩) 1 1 [b] rfl hsrcX (by omega) (Nat.zero_le _) ?_
              intro v2 w2 h1 h2 h3
              obtain ⟨A2, c2, e2, g1, g2, g3, g4, g5, g6⟩ := tail_step hsX rfl h1 h2 h3
              have hb2 := hbx w2 h2
              subst e2
              refine hK _ _ ?_
              clear hK K
              refine wpAnyIn_take (i := 8) (v := .pointer (some ⟨sb, 0, none⟩)) rfl rfl (by kernel_rfl) (by kernel_rfl) (by kernel_rfl) (fun _ _ _ h => h) ⟨Or.inl ⟨by rfl, ?_⟩, fun _ => rfl⟩ ?_
              · intro w; go_simp
              refine wpAnyIn_take (i := 9) (v := .pointer (some ⟨sb, 0, none⟩)) rfl rfl (by kernel_rfl) (by kernel_rfl) (by kernel_rfl) (fun _ _ _ h => h) ⟨Or.inl ⟨by rfl, ?_⟩, fun _ => rfl⟩ ?_
              · intro w; go_simp
              refine wpAnyIn_ready (rs := [10]) (by kernel_rfl) (by simp) (AllReadyIn.cons rfl (fun K hK => ?_) AllReadyIn.nil)
              · go_simp
                refine hK _ _ ?_
                clear hK K
                refine wpAnyIn_done (by kernel_rfl) ?_ _
                exact hfin _ _ _ h1 h2 h3
    · go_simp
      refine hK _ _ ?_
      clear hK K
      refine wpAnyIn_take (i := 2) (v := .pointer (some ⟨sb, 0, none⟩)) rfl rfl (by kernel_rfl) (by kernel_rfl) (by kernel_rfl) (fun _ _ _ h => h) ⟨Or.inl ⟨by rfl, ?_⟩, fun _ => rfl⟩ ?_
      · intro w; go_simp
      refine wpAnyIn_take (i := 3) (v := .pointer (some ⟨sb, 0, none⟩)) rfl rfl (by kernel_rfl) (by kernel_rfl) (by kernel_rfl) (fun _ _ _ h => h) ⟨Or.inl ⟨by rfl, ?_⟩, fun _ => rfl⟩ ?_
      · intro w; go_simp
      refine wpAnyIn_ready (rs := [0, 4, 6]) (by kernel_rfl) (by simp) (AllReadyIn.cons rfl (fun K hK => ?_) (AllReadyIn.cons rfl (fun K hK => ?_) (AllReadyIn.cons rfl (fun K hK => ?_) AllReadyIn.nil)))
      · go_simp
        refine hK _ _ ?_
        clear hK K
        refine wpAnyIn_ready (rs := [4, 6]) (by kernel_rfl) (by simp) (AllReadyIn.cons rfl (fun K hK => ?_) (AllReadyIn.cons rfl (fun K hK => ?_) AllReadyIn.nil))
        · go_simp
          refine hK _ _ ?_
          clear hK K
          refine wpAnyIn_ready (rs := [6]) (by kernel_rfl) (by simp) (AllReadyIn.cons rfl (fun K hK => ?_) AllReadyIn.nil)
          · go_simp
            refine hK _ _ ?_
            clear hK K
            refine wpAnyIn_ready (rs := [7]) (by kernel_rfl) (by simp) (AllReadyIn.cons rfl (fun K hK => ?_) AllReadyIn.nil)
            · refine stepIn_append_src rfl rfl (.tmp 30) (.tmp 32) 30 rfl 0 5 i0 Try.underlying30 hi hz0 hz1 hz2 (.slice A L.length c) L.length (bv L) rfl hsX.row (some ⟨W.heap.size, 0, none⟩) 1 1 [b] rfl hsrcX (by omega) (Nat.zero_le _) ?_
              intro v2 w2 h1 h2 h3
              obtain ⟨A2, c2, e2, g1, g2, g3, g4, g5, g6⟩ := tail_step hsX rfl h1 h2 h3
              have hb2 := hbx w2 h2
              subst e2
              refine hK _ _ ?_
              clear hK K
              refine wpAnyIn_take (i := 8) (v := .pointer (some ⟨sb, 0, none⟩)) rfl rfl (by kernel_rfl) (by kernel_rfl) (by kernel_rfl) (fun _ _ _ h => h) ⟨Or.inl ⟨by rfl, ?_⟩, fun _ => rfl⟩ ?_
              · intro w; go_simp
              refine wpAnyIn_take (i := 9) (v := .pointer (some ⟨sb, 0, none⟩)) rfl rfl (by kernel_rfl) (by kernel_rfl) (by kernel_rfl) (fun _ _ _ h => h) ⟨Or.inl ⟨by rfl, ?_⟩, fun _ => rfl⟩ ?_
              · intro w; go_simp
              refine wpAnyIn_ready (rs := [10]) (by kernel_rfl) (by simp) (AllReadyIn.cons rfl (fun K hK => ?_) AllReadyIn.nil)
              · go_simp
                refine hK _ _ ?_
                clear hK K
                refine wpAnyIn_done (by kernel_rfl) ?_ _
                exact hfin _ _ _ h1 h2 h3
        · go_simp
          refine hK _ _ ?_
          clear hK K
          refine wpAnyIn_ready (rs := [4]) (by kernel_rfl) (by simp) (AllReadyIn.cons rfl (fun K hK => ?_) AllReadyIn.nil)
          · go_simp
            refine hK _ _ ?_
            clear hK K
            refine wpAnyIn_ready (rs := [7]) (by kernel_rfl) (by simp) (AllReadyIn.cons rfl (fun K hK => ?_) AllReadyIn.nil)
            · refine stepIn_append_src rfl rfl (.tmp 30) (.tmp 32) 30 rfl 0 5 i0 Try.underlying30 hi hz0 hz1 hz2 (.slice A L.length c) L.length (bv L) rfl hsX.row (some ⟨W.heap.size, 0, none⟩) 1 1 [b] rfl hsrcX (by omega) (Nat.zero_le _) ?_
              intro v2 w2 h1 h2 h3
              obtain ⟨A2, c2, e2, g1, g2, g3, g4, g5, g6⟩ := tail_step hsX rfl h1 h2 h3
              have hb2 := hbx w2 h2
              subst e2
              refine hK _ _ ?_
              clear hK K
              refine wpAnyIn_take (i := 8) (v := .pointer (some ⟨sb, 0, none⟩)) rfl rfl (by kernel_rfl) (by kernel_rfl) (by kernel_rfl) (fun _ _ _ h => h) ⟨Or.inl ⟨by rfl, ?_⟩, fun _ => rfl⟩ ?_
              · intro w; go_simp
              refine wpAnyIn_take (i := 9) (v := .pointer (some ⟨sb, 0, none⟩)) rfl rfl (by kernel_rfl) (by kernel_rfl) (by kernel_rfl) (fun _ _ _ h => h) ⟨Or.inl ⟨by rfl, ?_⟩, fun _ => rfl⟩ ?_
              · intro w; go_simp
              refine wpAnyIn_ready (rs := [10]) (by kernel_rfl) (by simp) (AllReadyIn.cons rfl (fun K hK => ?_) AllReadyIn.nil)
              · go_simp
                refine hK _ _ ?_
                clear hK K
                refine wpAnyIn_done (by kernel_rfl) ?_ _
                exact hfin _ _ _ h1 h2 h3
      · go_simp
        refine hK _ _ ?_
        clear hK K
        refine wpAnyIn_ready (rs := [0, 6]) (by kernel_rfl) (by simp) (AllReadyIn.cons rfl (fun K hK => ?_) (AllReadyIn.cons rfl (fun K hK => ?_) AllReadyIn.nil))
        · go_simp
          refine hK _ _ ?_
          clear hK K
          refine wpAnyIn_ready (rs := [6]) (by kernel_rfl) (by simp) (AllReadyIn.cons rfl (fun K hK => ?_) AllReadyIn.nil)
          · go_simp
            refine hK _ _ ?_
            clear hK K
            refine wpAnyIn_ready (rs := [7]) (by kernel_rfl) (by simp) (AllReadyIn.cons rfl (fun K hK => ?_) AllReadyIn.nil)
            · refine stepIn_append_src rfl rfl (.tmp 30) (.tmp 32) 30 rfl 0 5 i0 Try.underlying30 hi hz0 hz1 hz2 (.slice A L.length c) L.length (bv L) rfl hsX.row (some ⟨W.heap.size, 0, none⟩) 1 1 [b] rfl hsrcX (by omega) (Nat.zero_le _) ?_
              intro v2 w2 h1 h2 h3
              obtain ⟨A2, c2, e2, g1, g2, g3, g4, g5, g6⟩ := tail_step hsX rfl h1 h2 h3
              have hb2 := hbx w2 h2
              subst e2
              refine hK _ _ ?_
              clear hK K
              refine wpAnyIn_take (i := 8) (v := .pointer (some ⟨sb, 0, none⟩)) rfl rfl (by kernel_rfl) (by kernel_rfl) (by kernel_rfl) (fun _ _ _ h => h) ⟨Or.inl ⟨by rfl, ?_⟩, fun _ => rfl⟩ ?_
              · intro w; go_simp
              refine wpAnyIn_take (i := 9) (v := .pointer (some ⟨sb, 0, none⟩)) rfl rfl (by kernel_rfl) (by kernel_rfl) (by kernel_rfl) (fun _ _ _ h => h) ⟨Or.inl ⟨by rfl, ?_⟩, fun _ => rfl⟩ ?_
              · intro w; go_simp
              refine wpAnyIn_ready (rs := [10]) (by kernel_rfl) (by simp) (AllReadyIn.cons rfl (fun K hK => ?_) AllReadyIn.nil)
              · go_simp
                refine hK _ _ ?_
                clear hK K
                refine wpAnyIn_done (by kernel_rfl) ?_ _
                exact hfin _ _ _ h1 h2 h3
        · go_simp
          refine hK _ _ ?_
          clear hK K
          refine wpAnyIn_ready (rs := [0, 7]) (by kernel_rfl) (by simp) (AllReadyIn.cons rfl (fun K hK => ?_) (AllReadyIn.cons rfl (fun K hK => ?_) AllReadyIn.nil))
          · go_simp
            refine hK _ _ ?_
            clear hK K
            refine wpAnyIn_ready (rs := [7]) (by kernel_rfl) (by simp) (AllReadyIn.cons rfl (fun K hK => ?_) AllReadyIn.nil)
            · refine stepIn_append_src rfl rfl (.tmp 30) (.tmp 32) 30 rfl 0 5 i0 Try.underlying30 hi hz0 hz1 hz2 (.slice A L.length c) L.length (bv L) rfl hsX.row (some ⟨W.heap.size, 0, none⟩) 1 1 [b] rfl hsrcX (by omega) (Nat.zero_le _) ?_
              intro v2 w2 h1 h2 h3
              obtain ⟨A2, c2, e2, g1, g2, g3, g4, g5, g6⟩ := tail_step hsX rfl h1 h2 h3
              have hb2 := hbx w2 h2
              subst e2
              refine hK _ _ ?_
              clear hK K
              refine wpAnyIn_take (i := 8) (v := .pointer (some ⟨sb, 0, none⟩)) rfl rfl (by kernel_rfl) (by kernel_rfl) (by kernel_rfl) (fun _ _ _ h => h) ⟨Or.inl ⟨by rfl, ?_⟩, fun _ => rfl⟩ ?_
              · intro w; go_simp
              refine wpAnyIn_take (i := 9) (v := .pointer (some ⟨sb, 0, none⟩)) rfl rfl (by kernel_rfl) (by kernel_rfl) (by kernel_rfl) (fun _ _ _ h => h) ⟨Or.inl ⟨by rfl, ?_⟩, fun _ => rfl⟩ ?_
              · intro w; go_simp
              refine wpAnyIn_ready (rs := [10]) (by kernel_rfl) (by simp) (AllReadyIn.cons rfl (fun K hK => ?_) AllReadyIn.nil)
              · go_simp
                refine hK _ _ ?_
                clear hK K
                refine wpAnyIn_done (by kernel_rfl) ?_ _
                exact hfin _ _ _ h1 h2 h3
          · refine stepIn_append_src rfl rfl (.tmp 30) (.tmp 32) 30 rfl 0 5 i0 Try.underlying30 hi hz0 hz1 hz2 (.slice A L.length c) L.length (bv L) rfl hsX.row (some ⟨W.heap.size, 0, none⟩) 1 1 [b] rfl hsrcX (by omega) (Nat.zero_le _) ?_
            intro v2 w2 h1 h2 h3
            obtain ⟨A2, c2, e2, g1, g2, g3, g4, g5, g6⟩ := tail_step hsX rfl h1 h2 h3
            have hb2 := hbx w2 h2
            subst e2
            refine hK _ _ ?_
            clear hK K
            refine wpAnyIn_ready (rs := [0]) (by kernel_rfl) (by simp) (AllReadyIn.cons rfl (fun K hK => ?_) AllReadyIn.nil)
            · go_simp
              refine hK _ _ ?_
              clear hK K
              refine wpAnyIn_take (i := 8) (v := .pointer (some ⟨sb, 0, none⟩)) rfl rfl (by kernel_rfl) (by kernel_rfl) (by kernel_rfl) (fun _ _ _ h => h) ⟨Or.inl ⟨by rfl, ?_⟩, fun _ => rfl⟩ ?_
              · intro w; go_simp
              refine wpAnyIn_take (i := 9) (v := .pointer (some ⟨sb, 0, none⟩)) rfl rfl (by kernel_rfl) (by kernel_rfl) (by kernel_rfl) (fun _ _ _ h => h) ⟨Or.inl ⟨by rfl, ?_⟩, fun _ => rfl⟩ ?_
              · intro w; go_simp
              refine wpAnyIn_ready (rs := [10]) (by kernel_rfl) (by simp) (AllReadyIn.cons rfl (fun K hK => ?_) AllReadyIn.nil)
              · go_simp
                refine hK _ _ ?_
                clear hK K
                refine wpAnyIn_done (by kernel_rfl) ?_ _
                exact hfin _ _ _ h1 h2 h3
      · go_simp
        refine hK _ _ ?_
        clear hK K
        refine wpAnyIn_ready (rs := [0, 4]) (by kernel_rfl) (by simp) (AllReadyIn.cons rfl (fun K hK => ?_) (AllReadyIn.cons rfl (fun K hK => ?_) AllReadyIn.nil))
        · go_simp
          refine hK _ _ ?_
          clear hK K
          refine wpAnyIn_ready (rs := [4]) (by kernel_rfl) (by simp) (AllReadyIn.cons rfl (fun K hK => ?_) AllReadyIn.nil)
          · go_simp
            refine hK _ _ ?_
            clear hK K
            refine wpAnyIn_ready (rs := [7]) (by kernel_rfl) (by simp) (AllReadyIn.cons rfl (fun K hK => ?_) AllReadyIn.nil)
            · refine stepIn_append_src rfl rfl (.tmp 30) (.tmp 32) 30 rfl 0 5 i0 Try.underlying30 hi hz0 hz1 hz2 (.slice A L.length c) L.length (bv L) rfl hsX.row (some ⟨W.heap.size, 0, none⟩) 1 1 [b] rfl hsrcX (by omega) (Nat.zero_le _) ?_
              intro v2 w2 h1 h2 h3
              obtain ⟨A2, c2, e2, g1, g2, g3, g4, g5, g6⟩ := tail_step hsX rfl h1 h2 h3
              have hb2 := hbx w2 h2
              subst e2
              refine hK _ _ ?_
              clear hK K
              refine wpAnyIn_take (i := 8) (v := .pointer (some ⟨sb, 0, none⟩)) rfl rfl (by kernel_rfl) (by kernel_rfl) (by kernel_rfl) (fun _ _ _ h => h) ⟨Or.inl ⟨by rfl, ?_⟩, fun _ => rfl⟩ ?_
              · intro w; go_simp
              refine wpAnyIn_take (i := 9) (v := .pointer (some ⟨sb, 0, none⟩)) rfl rfl (by kernel_rfl) (by kernel_rfl) (by kernel_rfl) (fun _ _ _ h => h) ⟨Or.inl ⟨by rfl, ?_⟩, fun _ => rfl⟩ ?_
              · intro w; go_simp
              refine wpAnyIn_ready (rs := [10]) (by kernel_rfl) (by simp) (AllReadyIn.cons rfl (fun K hK => ?_) AllReadyIn.nil)
              · go_simp
                refine hK _ _ ?_
                clear hK K
                refine wpAnyIn_done (by kernel_rfl) ?_ _
                exact hfin _ _ _ h1 h2 h3
        · go_simp
          refine hK _ _ ?_
          clear hK K
          refine wpAnyIn_ready (rs := [0, 7]) (by kernel_rfl) (by simp) (AllReadyIn.cons rfl (fun K hK => ?_) (AllReadyIn.cons rfl (fun K hK => ?_) AllReadyIn.nil))
          · go_simp
            refine hK _ _ ?_
            clear hK K
            refine wpAnyIn_ready (rs := [7]) (by kernel_rfl) (by simp) (AllReadyIn.cons rfl (fun K hK => ?_) AllReadyIn.nil)
            · refine stepIn_append_src rfl rfl (.tmp 30) (.tmp 32) 30 rfl 0 5 i0 Try.underlying30 hi hz0 hz1 hz2 (.slice A L.length c) L.length (bv L) rfl hsX.row (some ⟨W.heap.size, 0, none⟩) 1 1 [b] rfl hsrcX (by omega) (Nat.zero_le _) ?_
              intro v2 w2 h1 h2 h3
              obtain ⟨A2, c2, e2, g1, g2, g3, g4, g5, g6⟩ := tail_step hsX rfl h1 h2 h3
              have hb2 := hbx w2 h2
              subst e2
              refine hK _ _ ?_
              clear hK K
              refine wpAnyIn_take (i := 8) (v := .pointer (some ⟨sb, 0, none⟩)) rfl rfl (by kernel_rfl) (by kernel_rfl) (by kernel_rfl) (fun _ _ _ h => h) ⟨Or.inl ⟨by rfl, ?_⟩, fun _ => rfl⟩ ?_
              · intro w; go_simp
              refine wpAnyIn_take (i := 9) (v := .pointer (some ⟨sb, 0, none⟩)) rfl rfl (by kernel_rfl) (by kernel_rfl) (by kernel_rfl) (fun _ _ _ h => h) ⟨Or.inl ⟨by rfl, ?_⟩, fun _ => rfl⟩ ?_
              · intro w; go_simp
              refine wpAnyIn_ready (rs := [10]) (by kernel_rfl) (by simp) (AllReadyIn.cons rfl (fun K hK => ?_) AllReadyIn.nil)
              · go_simp
                refine hK _ _ ?_
                clear hK K
                refine wpAnyIn_done (by kernel_rfl) ?_ _
                exact hfin _ _ _ h1 h2 h3
          · refine stepIn_append_src rfl rfl (.tmp 30) (.tmp 32) 30 rfl 0 5 i0 Try.underlying30 hi hz0 hz1 hz2 (.slice A L.length c) L.length (bv L) rfl hsX.row (some ⟨W.heap.size, 0, none⟩) 1 1 [b] rfl hsrcX (by omega) (Nat.zero_le _) ?_
            intro v2 w2 h1 h2 h3
            obtain ⟨A2, c2, e2, g1, g2, g3, g4, g5, g6⟩ := tail_step hsX rfl h1 h2 h3
            have hb2 := hbx w2 h2
            subst e2
            refine hK _ _ ?_
            clear hK K
            refine wpAnyIn_ready (rs := [0]) (by kernel_rfl) (by simp) (AllReadyIn.cons rfl (fun K hK => ?_) AllReadyIn.nil)
            · go_simp
              refine hK _ _ ?_
              clear hK K
              refine wpAnyIn_take (i := 8) (v := .pointer (some ⟨sb, 0, none⟩)) rfl rfl (by kernel_rfl) (by kernel_rfl) (by kernel_rfl) (fun _ _ _ h => h) ⟨Or.inl ⟨by rfl, ?_⟩, fun _ => rfl⟩ ?_
              · intro w; go_simp
              refine wpAnyIn_take (i := 9) (v := .pointer (some ⟨sb, 0, none⟩)) rfl rfl (by kernel_rfl) (by kernel_rfl) (by kernel_rfl) (fun _ _ _ h => h) ⟨Or.inl ⟨by rfl, ?_⟩, fun _ => rfl⟩ ?_
              · intro w; go_simp
              refine wpAnyIn_ready (rs := [10]) (by kernel_rfl) (by simp) (AllReadyIn.cons rfl (fun K hK => ?_) AllReadyIn.nil)
              · go_simp
                refine hK _ _ ?_
                clear hK K
                refine wpAnyIn_done (by kernel_rfl) ?_ _
                exact hfin _ _ _ h1 h2 h3
    · go_simp
      refine hK _ _ ?_
      clear hK K
      refine wpAnyIn_ready (rs := [0, 1]) (by kernel_rfl) (by simp) (AllReadyIn.cons rfl (fun K hK => ?_) (AllReadyIn.cons rfl (fun K hK => ?_) AllReadyIn.nil))
      · go_simp
        refine hK _ _ ?_
        clear hK K
        refine wpAnyIn_ready (rs := [1]) (by kernel_rfl) (by simp) (AllReadyIn.cons rfl (fun K hK => ?_) AllReadyIn.nil)
        · go_simp
          refine hK _ _ ?_
          clear hK K
          refine wpAnyIn_take (i := 2) (v := .pointer (some ⟨sb, 0, none⟩)) rfl rfl (by kernel_rfl) (by kernel_rfl) (by kernel_rfl) (fun _ _ _ h => h) ⟨Or.inl ⟨by rfl, ?_⟩, fun _ => rfl⟩ ?_
          · intro w; go_simp
          refine wpAnyIn_take (i := 3) (v := .pointer (some ⟨sb, 0, none⟩)) rfl rfl (by kernel_rfl) (by kernel_rfl) (by kernel_rfl) (fun _ _ _ h => h) ⟨Or.inl ⟨by rfl, ?_⟩, fun _ => rfl⟩ ?_
          · intro w; go_simp
          refine wpAnyIn_ready (rs := [4]) (by kernel_rfl) (by simp) (AllReadyIn.cons rfl (fun K hK => ?_) AllReadyIn.nil)
          · go_simp
            refine hK _ _ ?_
            clear hK K
            refine wpAnyIn_ready (rs := [7]) (by kernel_rfl) (by simp) (AllReadyIn.cons rfl (fun K hK => ?_) AllReadyIn.nil)
            · refine stepIn_append_src rfl rfl (.tmp 30) (.tmp 32) 30 rfl 0 5 i0 Try.underlying30 hi hz0 hz1 hz2 (.slice A L.length c) L.length (bv L) rfl hsX.row (some ⟨W.heap.size, 0, none⟩) 1 1 [b] rfl hsrcX (by omega) (Nat.zero_le _) ?_
              intro v2 w2 h1 h2 h3
              obtain ⟨A2, c2, e2, g1, g2, g3, g4, g5, g6⟩ := tail_step hsX rfl h1 h2 h3
              have hb2 := hbx w2 h2
              subst e2
              refine hK _ _ ?_
              clear hK K
              refine wpAnyIn_take (i := 8) (v := .pointer (some ⟨sb, 0, none⟩)) rfl rfl (by kernel_rfl) (by kernel_rfl) (by kernel_rfl) (fun _ _ _ h => h) ⟨Or.inl ⟨by rfl, ?_⟩, fun _ => rfl⟩ ?_
              · intro w; go_simp
              refine wpAnyIn_take (i := 9) (v := .pointer (some ⟨sb, 0, none⟩)) rfl rfl (by kernel_rfl) (by kernel_rfl) (by kernel_rfl) (fun _ _ _ h => h) ⟨Or.inl ⟨by rfl, ?_⟩, fun _ => rfl⟩ ?_
              · intro w; go_simp
              refine wpAnyIn_ready (rs := [10]) (by kernel_rfl) (by simp) (AllReadyIn.cons rfl (fun K hK => ?_) AllReadyIn.nil)
              · go_simp
                refine hK _ _ ?_
                clear hK K
                refine wpAnyIn_done (by kernel_rfl) ?_ _
                exact hfin _ _ _ h1 h2 h3
      · go_simp
        refine hK _ _ ?_
        clear hK K
        refine wpAnyIn_take (i := 2) (v := .pointer (some ⟨sb, 0, none⟩)) rfl rfl (by kernel_rfl) (by kernel_rfl) (by kernel_rfl) (fun _ _ _ h => h) ⟨Or.inl ⟨by rfl, ?_⟩, fun _ => rfl⟩ ?_
        · intro w; go_simp
        refine wpAnyIn_take (i := 3) (v := .pointer (some ⟨sb, 0, none⟩)) rfl rfl (by kernel_rfl) (by kernel_rfl) (by kernel_rfl) (fun _ _ _ h => h) ⟨Or.inl ⟨by rfl, ?_⟩, fun _ => rfl⟩ ?_
        · intro w; go_simp
        refine wpAnyIn_ready (rs := [0, 4]) (by kernel_rfl) (by simp) (AllReadyIn.cons rfl (fun K hK => ?_) (AllReadyIn.cons rfl (fun K hK => ?_) AllReadyIn.nil))
        · go_simp
          refine hK _ _ ?_
          clear hK K
          refine wpAnyIn_ready (rs := [4]) (by kernel_rfl) (by simp) (AllReadyIn.cons rfl (fun K hK => ?_) AllReadyIn.nil)
          · go_simp
            refine hK _ _ ?_
            clear hK K
            refine wpAnyIn_ready (rs := [7]) (by kernel_rfl) (by simp) (AllReadyIn.cons rfl (fun K hK => ?_) AllReadyIn.nil)
            · refine stepIn_append_src rfl rfl (.tmp 30) (.tmp 32) 30 rfl 0 5 i0 Try.underlying30 hi hz0 hz1 hz2 (.slice A L.length c) L.length (bv L) rfl hsX.row (some ⟨W.heap.size, 0, none⟩) 1 1 [b] rfl hsrcX (by omega) (Nat.zero_le _) ?_
              intro v2 w2 h1 h2 h3
              obtain ⟨A2, c2, e2, g1, g2, g3, g4, g5, g6⟩ := tail_step hsX rfl h1 h2 h3
              have hb2 := hbx w2 h2
              subst e2
              refine hK _ _ ?_
              clear hK K
              refine wpAnyIn_take (i := 8) (v := .pointer (some ⟨sb, 0, none⟩)) rfl rfl (by kernel_rfl) (by kernel_rfl) (by kernel_rfl) (fun _ _ _ h => h) ⟨Or.inl ⟨by rfl, ?_⟩, fun _ => rfl⟩ ?_
              · intro w; go_simp
              refine wpAnyIn_take (i := 9) (v := .pointer (some ⟨sb, 0, none⟩)) rfl rfl (by kernel_rfl) (by kernel_rfl) (by kernel_rfl) (fun _ _ _ h => h) ⟨Or.inl ⟨by rfl, ?_⟩, fun _ => rfl⟩ ?_
              · intro w; go_simp
              refine wpAnyIn_ready (rs := [10]) (by kernel_rfl) (by simp) (AllReadyIn.cons rfl (fun K hK => ?_) AllReadyIn.nil)
              · go_simp
                refine hK _ _ ?_
                clear hK K
                refine wpAnyIn_done (by kernel_rfl) ?_ _
                exact hfin _ _ _ h1 h2 h3
        · go_simp
          refine hK _ _ ?_
          clear hK K
          refine wpAnyIn_ready (rs := [0, 7]) (by kernel_rfl) (by simp) (AllReadyIn.cons rfl (fun K hK => ?_) (AllReadyIn.cons rfl (fun K hK => ?_) AllReadyIn.nil))
          · go_simp
            refine hK _ _ ?_
            clear hK K
            refine wpAnyIn_ready (rs := [7]) (by kernel_rfl) (by simp) (AllReadyIn.cons rfl (fun K hK => ?_) AllReadyIn.nil)
            · refine stepIn_append_src rfl rfl (.tmp 30) (.tmp 32) 30 rfl 0 5 i0 Try.underlying30 hi hz0 hz1 hz2 (.slice A L.length c) L.length (bv L) rfl hsX.row (some ⟨W.heap.size, 0, none⟩) 1 1 [b] rfl hsrcX (by omega) (Nat.zero_le _) ?_
              intro v2 w2 h1 h2 h3
              obtain ⟨A2, c2, e2, g1, g2, g3, g4, g5, g6⟩ := tail_step hsX rfl h1 h2 h3
              have hb2 := hbx w2 h2
              subst e2
              refine hK _ _ ?_
              clear hK K
              refine wpAnyIn_take (i := 8) (v := .pointer (some ⟨sb, 0, none⟩)) rfl rfl (by kernel_rfl) (by kernel_rfl) (by kernel_rfl) (fun _ _ _ h => h) ⟨Or.inl ⟨by rfl, ?_⟩, fun _ => rfl⟩ ?_
              · intro w; go_simp
              refine wpAnyIn_take (i := 9) (v := .pointer (some ⟨sb, 0, none⟩)) rfl rfl (by kernel_rfl) (by kernel_rfl) (by kernel_rfl) (fun _ _ _ h => h) ⟨Or.inl ⟨by rfl, ?_⟩, fun _ => rfl⟩ ?_
              · intro w; go_simp
              refine wpAnyIn_ready (rs := [10]) (by kernel_rfl) (by simp) (AllReadyIn.cons rfl (fun K hK => ?_) AllReadyIn.nil)
              · go_simp
                refine hK _ _ ?_
                clear hK K
                refine wpAnyIn_done (by kernel_rfl) ?_ _
                exact hfin _ _ _ h1 h2 h3
          · refine stepIn_append_src rfl rfl (.tmp 30) (.tmp 32) 30 rfl 0 5 i0 Try.underlying30 hi hz0 hz1 hz2 (.slice A L.length c) L.length (bv L) rfl hsX.row (some ⟨W.heap.size, 0, none⟩) 1 1 [b] rfl hsrcX (by omega) (Nat.zero_le _) ?_
            intro v2 w2 h1 h2 h3
            obtain ⟨A2, c2, e2, g1, g2, g3, g4, g5, g6⟩ := tail_step hsX rfl h1 h2 h3
            have hb2 := hbx w2 h2
            subst e2
            refine hK _ _ ?_
            clear hK K
            refine wpAnyIn_ready (rs := [0]) (by kernel_rfl) (by simp) (AllReadyIn.cons rfl (fun K hK => ?_) AllReadyIn.nil)
            · go_simp
              refine hK _ _ ?_
              clear hK K
              refine wpAnyIn_take (i := 8) (v := .pointer (some ⟨sb, 0, none⟩)) rfl rfl (by kernel_rfl) (by kernel_rfl) (by kernel_rfl) (fun _ _ _ h => h) ⟨Or.inl ⟨by rfl, ?_⟩, fun _ => rfl⟩ ?_
              · intro w; go_simp
              refine wpAnyIn_take (i := 9) (v := .pointer (some ⟨sb, 0, none⟩)) rfl rfl (by kernel_rfl) (by kernel_rfl) (by kernel_rfl) (fun _ _ _ h => h) ⟨Or.inl ⟨by rfl, ?_⟩, fun _ => rfl⟩ ?_
              · intro w; go_simp
              refine wpAnyIn_ready (rs := [10]) (by kernel_rfl) (by simp) (AllReadyIn.cons rfl (fun K hK => ?_) AllReadyIn.nil)
              · go_simp
                refine hK _ _ ?_
                clear hK K
                refine wpAnyIn_done (by kernel_rfl) ?_ _
                exact hfin _ _ _ h1 h2 h3
  case done =>
    rintro D ys W hD rfl hm hK
    have hln : (l ++ beBytes n x).length ≤ 300000000000 := by rw [List.length_append, beBytes_length]; omega
    generalize l ++ beBytes n x = L at *
    obtain ⟨v', hs⟩ := hm.shelf
    have hfin := hm.finish hs h.lt (by have := hk1.size; omega) hK
    obtain ⟨A, c, rfl, _⟩ := Src.of_own hs.row
    have hb0 := hm.box.cell 0
    have hs0 := hs.whole.cell 0
    have hc1 := hs.cells.whole.cell 1
    have hf1 := hs.cells.whole.frozen 1
    have hK1 := (KeepsOthers.setCell W ⟨a, 1, none⟩ (.int .i64 (L.length : Int))).same D _ hK rfl
    simp at hb0 hs0 hc1
    clear hW0 hm0 hm0' hf hsp
    gi_wp2
    refine ⟨by simp, .inl ⟨_, _, rfl, run_takeDeferred hK1, ?_⟩⟩
    refine ⟨_, results_tmp (t := 6) rfl _ _ _, ?_⟩
    exact hfin
  case stop =>
    rintro D c pre W _ _ h _
    exact h.elim

theorem put_any (w : World) (S : Nat → Prop) (a : Nat) (n : Int) (x : Nat) (st : Option (List UInt8)) (h : OutAt w S a st) (hx : x < 18446744073709551616) (hlen : (st.getD []).length ≤ 274877906944) :
    Calls Try.prog 46 #[.pointer (some ⟨a, 0, none⟩), .int .i64 n, .int .u64 (x : Int)] w (Turned w S a (putSt st n x)) := by
  cases st with
  | none =>
    have e : putSt none n x = none := by simp [putSt]
    rw [e]
    exact put_bad w S a n x h
  | some l =>
    cases hf : fitsW n x with
    | false =>
      have e : putSt (some l) n x = none := by simp [putSt, hf]
      rw [e]
      exact put_unfit w S a n x l h hf hx
    | true =>
      have hn : n = ((n.toNat : Nat) : Int) := by
        simp [fitsW, isW] at hf
        omega
      obtain ⟨m, rfl⟩ : ∃ m : Nat, n = (m : Int) := ⟨n.toNat, hn⟩
      have e : putSt (some l) (m : Int) x = some (l ++ beBytes m x) := by simp [putSt, hf]
      rw [e]
      exact put_good w S a m x l h hf hx hlen

end Go.Proofs.Ytljcaigaofalbaa
