/- Swap of the list: by a contract, over a program that is a letter, so that an entry's cells are not counted out. No condition. -/
import Derived.Test.YtchfponnajednaaALess
import Derived.Shelf.RegionOpenPlain
namespace Go.Proofs.Ytchfponnajednaa
open Go.RowKit Go.Shelf

theorem RowAt.drewN {w : World} {g cap : Nat} {l : List En} (h : RowAt w g cap l) (k : Nat) : RowAt (w.drewN k) g cap l := h.same rfl

/-- What Swap leans on, of a program. -/
structure SwapIn (P : Program) (k : Nat) : Prop where
  mixed : P.follows .mixedOrders = true
  f : P.funcs[63]? = some Try.f63
  tl : P.underlying 60 = some (.slice 70)
  al : ∀ w, (isAgg 60).run P w = .ok false w
  zl : ∀ w, (Go.sizeOf 60).run P w = .ok 1 w
  ti : P.underlying 3 = some (.int .i64)
  ai : ∀ w, (isAgg 3).run P w = .ok false w
  zi : ∀ w, (Go.sizeOf 3).run P w = .ok 1 w
  ae : ∀ w, (isAgg 70).run P w = .ok true w
  ze : ∀ w, (Go.sizeOf 70).run P w = .ok k w
theorem swap_in : SwapIn Try.prog 6 where
  mixed := by kernel_rfl
  f := Try.func63
  tl := Try.underlying60
  al := Try.isAgg60
  zl := Try.sizeOf60
  ti := Try.underlying3
  ai := Try.isAgg3
  zi := Try.sizeOf3
  ae := Try.isAgg70
  ze := Try.sizeOf70

theorem load_list (P : Program) (W : World) (g o k : Nat) (cs : List Value) (hk : cs.length = k) (h : W.rangeAt g o cs) :
    Sem.run P (loadCellsFrom ⟨g, o, none⟩ 0 k #[]) W = .ok cs.toArray W := by
  have := run_loadCells_list (P := P) (w := W) ⟨g, o, none⟩ cs (fun j v hv => by rw [Addr.add_mid]; exact h j v hv)
  rw [hk] at this
  simpa [loadCells] using this
theorem store_list (P : Program) (W : World) (g o k : Nat) (cs : List Value) (hk : cs.length = k) (h : W.there g o k) (h1 : ∀ v ∈ cs, v.oneCell' = true) :
    Sem.run P (storeCells ⟨g, o, none⟩ cs 0) W = .ok () (W.setCells g o cs) := by
  subst hk
  have := run_storeCells_cells (P := P) g o cs 0 W (fun j hj => by simpa using (h j hj).1) (fun j hj => by simpa using (h j hj).2) h1
  simpa using this

set_option maxRecDepth 100000 in
set_option maxHeartbeats 2000000 in
theorem swap_gen (P : Program) (k : Nat) (L : SwapIn P k) (w : World) (g cap n : Nat) (i j : Nat) (hi : i < n) (hj : j < n)
    (cx cy : List Value) (lx : cx.length = k) (ly : cy.length = k) (ox : ∀ v ∈ cx, v.oneCell' = true) (oy : ∀ v ∈ cy, v.oneCell' = true)
    (hx : w.rangeAt g (i * k) cx) (hy : w.rangeAt g (j * k) cy) (tx : w.there g (i * k) k) (ty : w.there g (j * k) k) :
    Calls P 63 #[.slice (some ⟨g, 0, none⟩) n cap, .int .i64 (i : Int), .int .i64 (j : Int)] w fun e w' => e = .returned (.tuple #[]) ∧ w' = (w.drew.setCells g (i * k) cy).setCells g (j * k) cx := by
  have mixed := L.mixed; have tl := L.tl; have al := L.al; have zl := L.zl; have ti := L.ti; have ai := L.ai; have zi := L.zi; have ae := L.ae; have ze := L.ze
  have li := load_list P w.drew g (i * k) k cx lx hx
  have lj := load_list P w.drew g (j * k) k cy ly hy
  have s1 := store_list P w.drew g (i * k) k cy ly tx oy
  have s2 := store_list P (w.drew.setCells g (i * k) cy) g (j * k) k cx lx (World.there_setCells (w := w.drew) ty _ _ _) ox
  have e1 : (0 : Int) ≤ (i : Int) := by omega
  have e2 : (i : Int) < (n : Int) := by omega
  have e3 : (0 : Int) ≤ (j : Int) := by omega
  have e4 : (j : Int) < (n : Int) := by omega
  clear hx hy tx ty ox oy
  go_enter L.f, Try.ntmps63
  go_wp2_with fail
  go_big_region_o
  all_goals go_wp2
  all_goals go_end0
  all_goals exact ⟨rfl, rfl⟩

theorem swap_any (w : World) (g cap n : Nat) (l : List En) (i j : Nat) (h : RowAt w g cap l) (hn : l.length = n) (hi : i < n) (hj : j < n) :
    Calls Try.prog 63 #[.slice (some ⟨g, 0, none⟩) n cap, .int .i64 (i : Int), .int .i64 (j : Int)] w fun e w' => e = .returned (.tuple #[]) ∧ RowAt w' g cap (swapL l i j) ∧ Kept (fun k => k = g) w w' := by
  obtain ⟨x, hx⟩ : ∃ x, l[i]? = some x := ⟨_, List.getElem?_eq_getElem (by omega)⟩
  obtain ⟨y, hy⟩ : ∃ y, l[j]? = some y := ⟨_, List.getElem?_eq_getElem (by omega)⟩
  have hf := h.fits
  refine (swap_gen Try.prog 6 swap_in w g cap n i j hi hj x.cells y.cells rfl rfl x.cells_one y.cells_one (h.cells i x hx) (h.cells j y hy) (h.there i (by omega)) (h.there j (by omega))).mono ?_
  rintro e w' ⟨rfl, rfl⟩
  have k1 : Kept (fun k => k = g) w w.drew := (Kept.refl _ w).drew
  have k2 : Kept (fun k => k = g) w (w.drew.setCells g (i * 6) y.cells) := k1.setCells g _ (.inl rfl) _
  refine ⟨rfl, ?_, k2.setCells g _ (.inl rfl) _⟩
  have := (((h.drewN 1).store i y (by omega)).store j x (by rw [List.length_set]; omega))
  rw [swapL, show l.getD j default = y by simp [List.getD_eq_getElem?_getD, hy], show l.getD i default = x by simp [List.getD_eq_getElem?_getD, hx]]
  exact this

end Go.Proofs.Ytchfponnajednaa
