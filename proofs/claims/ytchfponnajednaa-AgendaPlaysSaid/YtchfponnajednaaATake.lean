/- Take of an agenda: by its contract. No condition. -/
import Derived.Test.YtchfponnajednaaAPut
import Derived.Deep.WholeRow
import Derived.BigFrame
namespace Go.Proofs.Ytchfponnajednaa
open Go.RowKit Go.Shelf

theorem AgAt.pile {w : World} {S : Nat → Prop} {a nx : Nat} {x : En} {L : List En} (h : AgAt w S a nx (x :: L)) :
    ∃ p v l, Whole w a 27 #[.pointer (some ⟨p, 0, none⟩)] ∧ S p ∧ (∀ g, v.ownBlock = some g → S g) ∧ PileAt w p v nx l ∧ Heap l ∧ l.Perm (x :: L) := by
  rcases h.shape with ⟨_, h2, _⟩ | h2
  · cases h2
  · exact h2
theorem take_done {w w1 w2 : World} {S : Nat → Prop} {a nx p : Nat} {x : En} {L l l' : List En} {v v' : Value} (h : AgAt w S a nx (x :: L)) (hb : Below w.heap.size w w1) (hA : Whole w a 27 #[.pointer (some ⟨p, 0, none⟩)]) (hS : S p) (hv : ∀ g, v.ownBlock = some g → S g)
    (hp : PileAt w p v nx l) (hpm : l.Perm (x :: L)) (hp2 : PileAt w2 p v' nx l') (hpm2 : (x :: l').Perm l) (hh : Heap l') (hk : Kept (fun k => k = p ∨ some k = v.ownBlock) w1 w2) (hv' : v'.ownBlock = v.ownBlock) :
    AgAt w2 S a nx L ∧ Kept S w w2 := by
  have hA1 := k_later hb hA
  have hp1 := hp.later hb
  have hap : a ≠ p := hA1.apart hp1.whole (by decide)
  have har : some a ≠ v.ownBlock := hA1.not_row (by decide) hp1.row
  have hA2 := hA1.kept hk (fun e => by rcases e with e | e; exact hap e; exact har e)
  have kS : Kept S w w2 := (Kept.of_below hb S).trans hk (fun i _ e => by
    rcases e with rfl | e
    · exact hS
    · exact hv i e.symm)
  have hs := List.pairwise_cons.1 h.sorted
  exact ⟨⟨fun k hk => Nat.lt_of_lt_of_le (h.lt k hk) kS.size, h.own, .inr ⟨p, v', l', hA2, hS, fun g hg => hv g (by rw [← hv']; exact hg), hp2, hh, (hpm2.trans hpm).cons_inv⟩, hs.2, fun y hy => h.turns y (List.mem_cons_of_mem _ hy), fun y hy => h.may y (List.mem_cons_of_mem _ hy)⟩, kS⟩

section
variable {P : Program} {ops : Array Oper} {rest : List Oper} {o : Oper} {a : Act} {w : World} {Q : Exit → Act → World → Prop}
/-- A whole row into the block that was made last. -/
theorem wpList_store_last (hgd : o.guard = none) (ty : TypeId) (x y : Operand) (ho : o.op = .store ty x y) (g : Nat) (cells : Array Value) (hx : a.eval x = .pointer (some ⟨g, 0, none⟩)) (hy : a.eval y = .agg cells)
    (t : TypeId) (old : Array Value) (hg : g = w.heap.size) (hi : (P.info? ty).map (·.size) = some cells.size) (hold : old.size = cells.size) (h1 : cells.all (·.oneCell') = true)
    (h : wpList P ops Q rest (a.put o.dst undef) (w.alloc (.cells cells t))) : wpList P ops Q (o :: rest) a (w.alloc (.cells old t)) := by
  subst hg
  refine wpList_store_row hgd ty x y ho w.heap.size cells hx hy t old (heap_alloc_last w _) hi hold h1 ?_
  rw [World.setRow_alloc_new]
  exact h
end
theorem results_cell_tmp {P : Program} {fn : Func} {p q : Tmp} {ty : TypeId} (h : fn.results = #[.cell p ty, .tmp q]) (tmps : Array Value) (w : World) (g : Nat) (t : TypeId) (cs : Array Value) (fr : Nat × Nat) (d : TypeDesc)
    (hp : tmps.getD p undef = .pointer (some ⟨g, 0, none⟩)) {v : Value} (hv : tmps.getD q undef = v) (hg : w.heap[g]? = some (.cells cs t fr))
    (hu : P.underlying ty = some d) (hd : (match d with | .struct _ | .array _ _ => true | _ => false) = true) (hi : (P.info? ty).map (·.size) = some cs.size) :
    (results fn tmps).run P w = .ok (.tuple #[.agg cs, v]) w := by
  subst hv
  have hp' : tmps[p]?.getD undef = .pointer (some ⟨g, 0, none⟩) := by simpa using hp
  simp [results, h, hp', asAddr, run_loadVar_row w g t ty cs fr d hg hu hd hi]
theorem Kept.setRow {S : Nat → Prop} {a b : World} (h : Kept S a b) {g : Nat} (hg : a.heap.size ≤ g) (cs : Array Value) : Kept S a (b.setRow g cs) :=
  ⟨h.os, h.tape, h.output, by simpa using h.size, fun i hi hn => (setRow_other b g i cs (by omega)).trans (h.block i hi hn)⟩
theorem headV_cells (L : List En) : (headV L).toArray.size = 5 ∧ (headV L).toArray.all (·.oneCell') = true := by
  cases L with
  | nil => exact ⟨rfl, all_oneCell_toArray zeroEv.cells_one⟩
  | cons x L => exact ⟨rfl, all_oneCell_toArray x.e.cells_one⟩

set_option maxRecDepth 100000 in
set_option maxHeartbeats 2000000 in
theorem agTake_any (w : World) (S : Nat → Prop) (a nx : Nat) (L : List En) (h : AgAt w S a nx L) (hl : L.length ≤ 1000000) :
    Calls Try.prog 17 #[.pointer (some ⟨a, 0, none⟩)] w fun e w' => e = .returned (headOf L) ∧ AgAt w' (Grow S w w') a nx L.tail ∧ Kept S w w' := by
  have hb0 : Below w.heap.size w (w.alloc (.cells #[.int .i64 0, .int .i64 0, .int .i64 0, .int .i64 0, .int .i64 0] 36)) := (Below.refl _ _).alloc (Nat.le_refl _) _
  have hW0 : Whole (w.alloc (.cells #[.int .i64 0, .int .i64 0, .int .i64 0, .int .i64 0, .int .i64 0] 36)) w.heap.size 36 #[.int .i64 0, .int .i64 0, .int .i64 0, .int .i64 0, .int .i64 0] := Whole.new w _ _
  have hk0 := agFirst_any _ S a nx L (h.later hb0)
  obtain ⟨hcs, hco⟩ := headV_cells L
  have hie : (Try.prog.info? 36).map (·.size) = some (headV L).toArray.size := by rw [hcs]; exact ev_info
  obtain ⟨cs, hce⟩ : ∃ cs, cs = (headV L).toArray := ⟨_, rfl⟩
  obtain ⟨b, hbe⟩ : ∃ b, b = !L.isEmpty := ⟨_, rfl⟩
  have hho : headOf L = .tuple #[.agg cs, .bool b] := by rw [hce, hbe]; rfl
  rw [hho] at hk0
  rw [← hce] at hcs hco hie
  have HCS := Lib.hid hcs
  have HCO := Lib.hid hco
  have HIE := Lib.hid hie
  have HHO := Lib.hid hho
  have HBE := Lib.hid hbe
  have HB0 := Lib.hid hb0
  have HK0 := Lib.hid hk0
  have HW0 := Lib.hid hW0
  have H := Lib.hid h
  clear hb0 hk0 h hW0 hce hbe hcs hco hie
  rw [hho]
  clear hho
  go_enter Try.func17, Try.ntmps17
  go_wp2_with fail
  refine HK0.out.mono ?_
  rintro e w1 ⟨rfl, hb⟩
  have hb1 := k_then hb HB0.out
  have hW1 := k_later hb HW0.out
  have hb2 : Below w.heap.size w (w1.alloc (.cells cs 36)) := hb1.alloc hb1.size _
  have hW2 : Whole (w1.alloc (.cells cs 36)) w.heap.size 36 #[.int .i64 0, .int .i64 0, .int .i64 0, .int .i64 0, .int .i64 0] := hW1.alloc _
  have hX2 : Whole (w1.alloc (.cells cs 36)) w1.heap.size 36 cs := Whole.new w1 _ _
  have HB2 := Lib.hid hb2
  have HW2 := Lib.hid hW2
  have HX2 := Lib.hid hX2
  have HZ := Lib.hid hb1.size
  clear HK0 HB0 HW0 hb hb1 hW1 hb2 hW2 hX2
  cases L with
  | nil =>
    obtain rfl : b = false := HBE.out
    go_wp2_with (first
      | (refine wpList_store_last rfl 36 (.tmp 4) (.tmp 9) rfl w1.heap.size cs rfl rfl 36 _ rfl HIE.out HCS.out.symm HCO.out ?_)
      | (refine wpList_load_row rfl 36 (.tmp 4) rfl w1.heap.size rfl 36 cs (0, 0) _ HX2.out Try.underlying36 rfl HIE.out ?_)
      | (refine wpList_store_row rfl 36 (.tmp 2) (.tmp 18) rfl w.heap.size cs rfl rfl 36 _ HW2.out HIE.out HCS.out.symm HCO.out ?_))
    refine bodyPost_ret (v := .tuple #[.agg cs, .bool false]) (results_cell_tmp rfl _ _ _ 36 cs (0, 0) _ rfl rfl (setRow_heap _ _ _ _ _ _ HW2.out) Try.underlying36 rfl HIE.out) rfl ⟨rfl, ?_⟩
    have k := (Kept.of_below HB2.out Empty).setRow (Nat.le_refl w.heap.size) cs
    exact ⟨(H.out.kept k (fun _ _ h => h)).grow H.out.lt k.size, k.mono (fun _ h => h.elim)⟩
  | cons x L =>
    obtain rfl : b = true := HBE.out
    obtain ⟨p, v, l, hA, hSp, hSv, hp, hh, hpm⟩ := H.out.pile
    have hA2 := k_later HB2.out hA
    have ha0 := hA2.cell 0
    simp at ha0
    have hx := heap_head hh hpm H.out.sorted
    have hpop := heapPop_any _ p v nx l (hp.later HB2.out) hh (by rw [hpm.length_eq]; simp) (by rw [hpm.length_eq]; exact hl)
    rw [hx] at hpop
    have HPOP := Lib.hid hpop
    have HP := Lib.hid (And.intro hA (And.intro hSp (And.intro hSv (And.intro hp hpm))))
    clear hA hSp hSv hp hh hpm hA2 hx hpop
    go_wp2_with (first
      | (refine wpList_store_last rfl 36 (.tmp 4) (.tmp 9) rfl w1.heap.size cs rfl rfl 36 _ rfl HIE.out HCS.out.symm HCO.out ?_))
    refine HPOP.out.mono ?_
    rintro e w3 ⟨rfl, v', l', hp', hpm', hh', hk', hv'⟩
    have hfin := take_done H.out HB2.out HP.out.1 HP.out.2.1 HP.out.2.2.1 HP.out.2.2.2.1 HP.out.2.2.2.2 hp' hpm' hh' hk' hv'
    have hnp : ∀ i, w.heap.size ≤ i → ¬ (i = p ∨ some i = v.ownBlock) := by
      intro i hi e
      rcases e with rfl | e
      · have := H.out.lt _ HP.out.2.1; omega
      · have := H.out.lt _ (HP.out.2.2.1 i e.symm); omega
    have hX3 := HX2.out.kept hk' (hnp _ HZ.out)
    have hW3 := HW2.out.kept hk' (hnp _ (Nat.le_refl _))
    have HX3 := Lib.hid hX3
    have HW3 := Lib.hid hW3
    have HF := Lib.hid hfin
    have HK := Lib.hid hk'
    clear hp' hpm' hh' hk' hv' hfin hnp hX3 hW3 HPOP ha0
    go_wp2_with (first
      | (refine wpList_load_row rfl 36 (.tmp 4) rfl w1.heap.size rfl 36 cs (0, 0) _ HX3.out Try.underlying36 rfl HIE.out ?_)
      | (refine wpList_store_row rfl 36 (.tmp 2) (.tmp 18) rfl w.heap.size cs rfl rfl 36 _ HW3.out HIE.out HCS.out.symm HCO.out ?_))
    refine bodyPost_ret (v := .tuple #[.agg cs, .bool true]) (results_cell_tmp rfl _ _ _ 36 cs (0, 0) _ rfl rfl (setRow_heap _ _ _ _ _ _ HW3.out) Try.underlying36 rfl HIE.out) rfl ⟨rfl, ?_⟩
    have hz : (w3.setRow w.heap.size cs).heap.size = w3.heap.size := by simp
    have hlt3 := HF.out.1.lt
    have k1 : Kept S w (w3.setRow w.heap.size cs) := HF.out.2.setRow (Nat.le_refl _) cs
    have k2 : AgAt (w3.setRow w.heap.size cs) S a nx L := by
      refine HF.out.1.kept (T := fun k => k = w.heap.size) ⟨rfl, rfl, rfl, by simp, fun i _ hn => setRow_other w3 _ i cs hn⟩ (fun k hk e => ?_)
      have h1 := H.out.lt k hk
      have h2 : k = w.heap.size := e
      omega
    exact ⟨k2.grow H.out.lt k1.size, k1⟩
end Go.Proofs.Ytchfponnajednaa
