/- Rows of strings that grow: at steps of regions that draw their order; where their strings lie. No condition. -/
import Derived.Test.YtdeiohcciafffaaGreatDoorTSplit
import Derived.Test.YtdeiohcciafffaaGreatDoorTAlive
import Derived.Deep.RegionHeld3
import Derived.Deep.DeepCutAuto
namespace Go.Proofs.YtdeiohcciafffaaGreatDoor
open Go.RowKit Go.Shelf

/-- append onto a row of the call's own, or onto nil, of whatever number of elements: at a step of a region that draws its order. -/
theorem step_append_any {P : Program} {ops : Array Oper} {o : Oper} {a : Act} {w : World} {K : Act → World → Prop} {Q : Exit → Act → World → Prop} {E : Prop} (hgd : o.guard = none) (s x : Operand) (t : TypeId)
    (ho : o.op = .call { callee := .builtin .append, args := #[s, x], argTypes := #[t, t] })
    (base : Nat) (e : TypeId) (i : TypeInfo) (z : Value) (size bytes : Nat) (ht : P.underlying t = some (.slice e)) (hi : P.info? e = some i) (hz : i.zero = some z)
    (hsize : i.size = size) (hby : i.bytes = bytes) (hzs : z.cells.size = size) (hsz : 0 < size)
    (v : Value) (n : Nat) (xs : List Value) (hs : a.eval s = v) (hown : w.ownsRow base e size v n xs)
    (ad : Addr) (m c : Nat) (news : List Value) (hx : a.eval x = .slice (some ad) m c) (hl : news.length = m * size) (hnews : ∀ j u, news[j]? = some u → w.cell? (ad.add j) = some u) (h1 : ∀ u ∈ news, u.oneCell' = true)
    (h63 : n + m ≤ maxLen) (hbytes : (n + m) * bytes ≤ 140737488355328) (hbase : base ≤ w.heap.size)
    (h : ∀ v' w', w'.ownsRow base e size v' (n + m) (xs ++ news) → w.grownBy w' v.ownBlock → K (a.put o.dst v') w') :
    if Region.wanted o (yielded ops a.tmps) = true then Oper.wp P o a w K Q else E := by
  have hw : Region.wanted o (yielded ops a.tmps) = true := by simp [Region.wanted, hgd]
  rw [if_pos hw]
  obtain ⟨v', w', hr, h2, h3, _, _⟩ := run_append_own_at (P := P) w base t o.type e i z size bytes ht hi hz hsize hby hzs hsz v n xs hown ad m c news hl hnews h1 h63 hbytes hbase
  unfold Oper.wp execOp
  simp only [ho, resolve, invoke, builtin, Sem.run_bind, Sem.run_pure, Result.andThen_ok, List.map_toArray, List.map_cons, List.map_nil, hs, hx, hr]
  exact h v' w' h2 h3
theorem str_info : (Tryz.prog.info? 9).map (fun i => (i.zero, i.size, i.bytes)) = some (some (.string ⟨#[]⟩), 1, 16) := by kernel_rfl

theorem strV_one {ls : List (List UInt8)} : ∀ u ∈ strV ls, u.oneCell' = true := by
  intro u hu
  obtain ⟨l, _, rfl⟩ := List.mem_map.1 hu
  rfl
theorem below_grown {w0 V W : World} {row : Option Nat} (hb : Below w0.heap.size w0 V) (hg : V.grownBy W row) (hr : ∀ k, row = some k → w0.heap.size ≤ k) : Below w0.heap.size w0 W :=
  ((Kept.of_below hb Empty).grown hg (fun k h => .inr (hr k h))).below (fun _ _ h => h)
theorem own_block {w : World} {base : Nat} {e : TypeId} {size : Nat} {v : Value} {n : Nat} {xs : List Value} (h : w.ownsRow base e size v n xs) : ∀ k, v.ownBlock = some k → base ≤ k := by
  intro k hk
  rcases h.2 with ⟨rfl, _⟩ | ⟨g, cap, cur, rfl, hb, _⟩
  · simp [Value.ownBlock] at hk
  · have : g = k := by simpa [Value.ownBlock] using hk
    omega
theorem none_block (w0 : World) : ∀ k, (Value.slice none 0 0).ownBlock = some k → w0.heap.size ≤ k := fun k h => by simp [Value.ownBlock] at h
theorem own_strings {w : World} {base : Nat} {e : TypeId} {v : Value} {n : Nat} {ms : List (List UInt8)} (h : w.ownsRow base e 1 v n (strV ms)) (hn : 0 < n) :
    ∃ (g cap : Nat), v = .slice (some ⟨g, 0, none⟩) n cap ∧ (∀ (j : Nat) u, (ms.map txt)[j]? = some u → w.cell? ⟨g, j, none⟩ = some (.string u)) ∧ g < w.heap.size ∧ n ≤ cap := by
  rcases h.2 with ⟨_, h0⟩ | ⟨g, cap, cur, rfl, _, hg, hnc, _⟩
  · omega
  · refine ⟨g, cap, rfl, fun j u hu => ?_, (Array.getElem?_eq_some_iff.1 hg).1, hnc⟩
    have := h.cells (g := g) rfl j (.string u) (by
      rw [List.getElem?_map] at hu
      rw [strV, List.getElem?_map]
      cases hj : ms[j]? with
      | none => rw [hj] at hu; simp at hu
      | some m => rw [hj] at hu; simp at hu; simp [hu])
    have hadd : (⟨g, 0, none⟩ : Addr).add j = ⟨g, 0 + j, none⟩ := by unfold Addr.add; split <;> simp_all
    rwa [hadd, Nat.zero_add] at this
theorem plain_add8 (b o k : Nat) : (⟨b, o, none⟩ : Addr).add k = ⟨b, o + k, none⟩ := by unfold Addr.add; split <;> simp_all
section
variable {W : World} {b : Nat} {t : TypeId} {ls : List (List UInt8)}
theorem row_drop (h : Whole W b t (strV ls).toArray) (k : Nat) : ∀ (j : Nat) u, (strV (ls.drop k))[j]? = some u → W.cell? ((⟨b, k, none⟩ : Addr).add j) = some u := by
  intro j u hu
  rw [plain_add8]
  refine (h.cell (k + j)).trans ?_
  simpa [strV] using hu
theorem row_take (h : Whole W b t (strV ls).toArray) (k : Nat) : ∀ (j : Nat) u, (strV (ls.take k))[j]? = some u → W.cell? ((⟨b, 0, none⟩ : Addr).add j) = some u := by
  intro j u hu
  have hj : j < k := by
    have := (List.getElem?_eq_some_iff.1 hu).1
    rw [strV_length, List.length_take] at this
    omega
  rw [plain_add8, Nat.zero_add]
  refine (h.cell j).trans ?_
  simpa [strV, List.getElem?_take, hj] using hu
theorem row_all (h : Whole W b t (strV ls).toArray) : ∀ (j : Nat) u, (strV ls)[j]? = some u → W.cell? ((⟨b, 0, none⟩ : Addr).add j) = some u := by
  intro j u hu
  have h2 := row_drop h 0 j u
  rw [List.drop_zero] at h2
  exact h2 hu
end
/-- Lines that lie in a row, joined. -/
theorem joins_lines {w : World} {bk c n : Nat} {ls : List (List UInt8)} (h : ∀ (j : Nat) u, (ls.map txt)[j]? = some u → w.cell? ⟨bk, j, none⟩ = some (.string u)) (hbk : bk < w.heap.size) (hn : ls.length = n) (hN : n ≤ 1000000) (hc : n ≤ c)
    (hl : (Lib.join ls [10]).length ≤ 1000000) : Joins (.slice (some ⟨bk, 0, none⟩) n c) (Lib.join ls [10]) w := by
  have hmap : (ls.map txt).map (fun b => b.data.toList) = ls := (List.map_map ..).trans (List.map_id _)
  have hlen : (ls.map txt).length = n := by rw [List.length_map, hn]
  have h2 := joins_cells h hbk (by omega) (by rw [hlen]; exact hc) (by rw [hmap]; omega)
  rw [hlen, hmap] at h2
  exact h2
theorem news_drewn {w : World} (nd : Nat) (t : TypeId) (cs : List Value) : ∀ (j : Nat) u, cs[j]? = some u → ((w.drewN nd).alloc (.cells cs.toArray t)).cell? ((⟨w.heap.size, 0, none⟩ : Addr).add j) = some u := fun j u hu =>
  World.news_of_block (Whole.new (w.drewN nd) t cs.toArray) j u (by simpa using hu)
theorem own_drewn {w : World} {base : Nat} {e : TypeId} {v : Value} {n : Nat} {xs : List Value} (h : w.ownsRow base e 1 v n xs) (nd : Nat) (o : Obj) : ((w.drewN nd).alloc o).ownsRow base e 1 v n xs :=
  (show (w.drewN nd).ownsRow base e 1 v n xs from h).alloc o
theorem size_drewn {w0 w : World} (h : w0.heap.size ≤ w.heap.size) (nd : Nat) (o : Obj) : w0.heap.size ≤ ((w.drewN nd).alloc o).heap.size := by
  rw [World.size_alloc]
  exact Nat.le_trans h (Nat.le_succ _)
theorem below_drewn_grown {w0 w W : World} {row : Option Nat} (h : Below w0.heap.size w0 w) (nd : Nat) (o : Obj) (hg : ((w.drewN nd).alloc o).grownBy W row) (hr : ∀ k, row = some k → w0.heap.size ≤ k) : Below w0.heap.size w0 W :=
  below_grown ((below_drewN h nd).alloc h.size o) hg hr
theorem own_empty (w : World) (base : Nat) (e : TypeId) (hb : base ≤ w.heap.size) : (w.alloc (.cells #[] e)).ownsRow base e 1 (.slice (some ⟨w.heap.size, 0, none⟩) 0 0) 0 [] := World.ownsRow_made w #[] 0 hb (by simp [maxLen]) rfl
end Go.Proofs.YtdeiohcciafffaaGreatDoor
