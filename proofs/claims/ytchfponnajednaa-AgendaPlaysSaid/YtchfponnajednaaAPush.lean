/- Push and Pop of the pile: by contracts. No condition. -/
import Derived.Test.YtchfponnajednaaASwap
import Derived.Deep.RegionLaw
import Derived.Deep.DrawnRows
import Derived.Laws.EntriesVeiled
namespace Go.Proofs.Ytchfponnajednaa
open Go.RowKit Go.Shelf

/-- append onto a row of the call's own, or onto nil: at a step of a region that draws its order. -/
theorem step_append_row {P : Program} {ops : Array Oper} {o : Oper} {a : Act} {w : World} {K : Act → World → Prop} {Q : Exit → Act → World → Prop} {E : Prop} (hgd : o.guard = none) (s x : Operand) (t : TypeId)
    (ho : o.op = .call { callee := .builtin .append, args := #[s, x], argTypes := #[t, t] })
    (base : Nat) (e : TypeId) (i : TypeInfo) (z : Value) (size bytes : Nat) (ht : P.underlying t = some (.slice e)) (hi : P.info? e = some i) (hz : i.zero = some z)
    (hsize : i.size = size) (hby : i.bytes = bytes) (hzs : z.cells.size = size) (hsz : 0 < size)
    (v : Value) (n : Nat) (xs : List Value) (hs : a.eval s = v) (hown : w.ownsRow base e size v n xs)
    (ad : Addr) (m c : Nat) (news : List Value) (hx : a.eval x = .slice (some ad) m c) (hl : news.length = m * size) (hnews : ∀ j u, news[j]? = some u → w.cell? (ad.add j) = some u) (h1 : ∀ u ∈ news, u.oneCell' = true)
    (h63 : n + m ≤ maxLen) (hbytes : (n + m) * bytes ≤ 140737488355328) (hbase : base ≤ w.heap.size)
    (h : ∀ v' w', w'.ownsRow base e size v' (n + m) (xs ++ news) → w.grownBy w' v.ownBlock → (v'.ownBlock = v.ownBlock ∨ v'.ownBlock = some w.heap.size) → K (a.put o.dst v') w') :
    if Region.wanted o (yielded ops a.tmps) = true then Oper.wp P o a w K Q else E := by
  have hw : Region.wanted o (yielded ops a.tmps) = true := by simp [Region.wanted, hgd]
  rw [if_pos hw]
  obtain ⟨v', w', hr, h2, h3, _, h5⟩ := run_append_own_at (P := P) w base t o.type e i z size bytes ht hi hz hsize hby hzs hsz v n xs hown ad m c news hl hnews h1 h63 hbytes hbase
  unfold Oper.wp execOp
  simp only [ho, resolve, invoke, builtin, Sem.run_bind, Sem.run_pure, Result.andThen_ok, List.map_toArray, List.map_cons, List.map_nil, hs, hx, hr]
  exact h v' w' h2 h3 h5
theorem en_infos : (Try.prog.info? 70).map (fun i => (i.zero, i.size, i.bytes)) = some (some (.agg #[.int .i64 0, .int .i64 0, .int .i64 0, .int .i64 0, .int .i64 0, .int .u64 0]), 6, 48) := by kernel_rfl

/-- What the walk wants behind the append. -/
theorem push_mid {w w1 : World} {p nx : Nat} {v v' : Value} {l : List En} {x : En} {o : Obj} (h : PileAt w p v nx l) (h1 : w1.ownsRow 0 70 6 v' (l.length + 1) (flatE l ++ x.cells)) (h2 : (w.drew.alloc o).grownBy w1 v.ownBlock) :
    ∃ g cap, v' = .slice (some ⟨g, 0, none⟩) (l.length + 1) cap ∧ w1.cell? ⟨p, 0, none⟩ = some v ∧ w1.frozen? ⟨p, 0, none⟩ = false ∧ w1.frozen? ⟨p, 1, none⟩ = false ∧ w1.cell? ⟨p, 1, none⟩ = some (.int .u64 (nx : Int)) ∧ (w1.setCell ⟨p, 0, none⟩ v').cell? ⟨p, 1, none⟩ = some (.int .u64 (nx : Int)) := by
  have hW : Whole w1 p 63 #[v, .int .u64 (nx : Int)] := ((h.whole.drew).alloc o).grown h2 h.ne
  rcases h1.2 with ⟨_, h0⟩ | ⟨g, cap, cur, e, _⟩
  · omega
  · exact ⟨g, cap, e, hW.cell 0, hW.frozen 0, hW.frozen 1, hW.cell 1, (hW.set 0 v').cell 1⟩
theorem push_done {w w1 : World} {p nx : Nat} {v v' : Value} {l : List En} {x : Ev} {o : Obj} (h : PileAt w p v nx l) (h1 : w1.ownsRow 0 70 6 v' (l.length + 1) (flatE l ++ (En.mk x nx).cells)) (h2 : (w.drew.alloc o).grownBy w1 v.ownBlock)
    (h3 : v'.ownBlock = v.ownBlock ∨ v'.ownBlock = some (w.drew.alloc o).heap.size) :
    ∃ v2, PileAt ((w1.setCell ⟨p, 0, none⟩ v').setCell ⟨p, 1, none⟩ (.int .u64 ((nx : Int) + 1))) p v2 (nx + 1) (l ++ [⟨x, nx⟩]) ∧
      Kept (fun k => k = p ∨ some k = v.ownBlock) w ((w1.setCell ⟨p, 0, none⟩ v').setCell ⟨p, 1, none⟩ (.int .u64 ((nx : Int) + 1))) ∧ (v2.ownBlock = v.ownBlock ∨ ∃ k, v2.ownBlock = some k ∧ w.heap.size ≤ k) := by
  have hW : Whole w1 p 63 #[v, .int .u64 (nx : Int)] := ((h.whole.drew).alloc o).grown h2 h.ne
  have hW2 : Whole ((w1.setCell ⟨p, 0, none⟩ v').setCell ⟨p, 1, none⟩ (.int .u64 ((nx : Int) + 1))) p 63 #[v', .int .u64 ((nx + 1 : Nat) : Int)] := (hW.set 0 v').set 1 _
  have hne : ∀ g, v'.ownBlock = some g → ¬ g = p := by
    intro g hg e
    exact hW.not_row (by decide) h1 (by rw [hg, e])
  have k2 : Kept (fun k => k = p) w1 (w1.setCell ⟨p, 0, none⟩ v') := Kept.setCell (S := fun k => k = p) (Kept.refl _ w1) (p := ⟨p, 0, none⟩) (.inl rfl) _
  have k1 : Kept (fun k => k = p) w1 ((w1.setCell ⟨p, 0, none⟩ v').setCell ⟨p, 1, none⟩ (.int .u64 ((nx : Int) + 1))) := Kept.setCell (S := fun k => k = p) k2 (p := ⟨p, 1, none⟩) (.inl rfl) _
  have hr := own_kept h1 k1 hne
  have k0 : Kept (fun k => k = p ∨ some k = v.ownBlock) w w1 := (((Kept.refl _ w).drew).alloc o).grown h2 (fun k hk => .inl (.inr hk.symm))
  refine ⟨v', ⟨hW2, ?_⟩, Kept.setCell (S := fun k => k = p ∨ some k = v.ownBlock) (Kept.setCell (S := fun k => k = p ∨ some k = v.ownBlock) k0 (p := ⟨p, 0, none⟩) (.inl (.inl rfl)) _) (p := ⟨p, 1, none⟩) (.inl (.inl rfl)) _, ?_⟩
  · rw [List.length_append, flatE_append]
    have e : flatE [(⟨x, nx⟩ : En)] = (En.mk x nx).cells := by simp [flatE]
    rw [e]
    exact hr
  · rcases h3 with h3 | h3
    · exact .inl h3
    · exact .inr ⟨_, h3, by simp⟩

set_option maxRecDepth 100000 in
set_option maxHeartbeats 2000000 in
theorem push_any (w : World) (p : Nat) (v : Value) (nx : Nat) (l : List En) (x : Ev) (h : PileAt w p v nx l) (hl : l.length ≤ 1000000) (hnx : nx < 1000000000) :
    Calls Try.prog 62 #[.pointer (some ⟨p, 0, none⟩), .iface 36 (.agg x.cells.toArray)] w fun e w' => e = .returned (.tuple #[]) ∧
      ∃ v', PileAt w' p v' (nx + 1) (l ++ [⟨x, nx⟩]) ∧ Kept (fun k => k = p ∨ some k = v.ownBlock) w w' ∧ (v'.ownBlock = v.ownBlock ∨ ∃ k, v'.ownBlock = some k ∧ w.heap.size ≤ k) := by
  obtain ⟨i0, hi, hz0, hz1, hz2⟩ := info_parts en_infos
  have hc0 := h.cell0
  have hc1 := h.cell1
  have hrow := h.row
  have hpl := h.whole.lt
  have hpf := h.whole.frozen 0
  have hne := h.ne
  unfold Ev.cells
  have hta : ∀ (a b c d e : Int) (W : World), (Instr.typeAssert (.iface 36 (.agg #[.int .i64 a, .int .i64 b, .int .i64 c, .int .i64 d, .int .i64 e])) 20 36 false).run Try.prog W = .ok (.agg #[.int .i64 a, .int .i64 b, .int .i64 c, .int .i64 d, .int .i64 e]) W := fun _ _ _ _ _ _ => by kernel_rfl
  go_enter Try.func62, Try.ntmps62
  go_wp2
  go_region_law ((refine step_append_row (by rfl) (.tmp 8) (.tmp 16) 60 (by rfl) 0 70 i0 _ 6 48 Try.underlying60 hi hz0 hz1 hz2 (by rfl) (by omega) v l.length (flatE l) (by rfl) (by exact hrow.alloc _) ⟨w.heap.size, 0, none⟩ 1 1 (En.cells ⟨x, nx⟩) (by rfl) (by rfl) (by exact fun j u hu => World.news_of_block (Whole.new w.drew _ _) j u hu) (En.cells_one _) (by simp only [maxLen]; omega) (by omega) (by omega) ?_; intro v' w1 h1 h2 h3; obtain ⟨g', cap', rfl, m1, m2, m3, m4, m5⟩ := push_mid h h1 h2; have HD := Lib.hid (push_done h h1 h2 h3); clear h1 h2 h3))
  all_goals go_wp2
  all_goals go_end0
  all_goals exact ⟨rfl, HD.out⟩
end Go.Proofs.Ytchfponnajednaa
