/- An argument that is a list of calls, opened. -/
import Derived.Test.YtloeckflcdnmaaaOps
import Derived.ProofKit
import Derived.OpenShut
import Derived.SizedLaws
import Derived.Deep.Slices
import Derived.Deep.Fields
namespace Go.Proofs.Ytloeckflcdnmaaa
open Go.ChangeShapes Go.WideShapes Go.ChangeAt Go.RowKit Go.Deep

theorem cells_op : Try.prog.cellsOf 34 = 4 := by kernel_rfl
theorem bytes_u8 : Try.prog.bytesOf 5 = 1 := by kernel_rfl

theorem plain_add (b o k : Nat) : (⟨b, o, none⟩ : Addr).add k = ⟨b, o + k, none⟩ := by unfold Addr.add; split <;> simp_all

/-- A slice of bytes, opened. -/
theorem open_bytes {H : Type} {enc : TypeId × Value → H} {W : World} {fuel : Nat} {c3 : Value} {y : DataW H × List MemPlace} (h : DataW.trod enc Try.prog W 0 (fun _ => true) true fuel 28 [c3] = some y) (hsz : ∀ k ∈ DataW.weights Try.prog 28 y.1, k ≤ reachBytes) :
    ∃ (B : Option Addr) (l : List UInt8) (c : Nat), c3 = .slice B l.length c ∧ Src W B l.length l ∧ l.length ≤ c ∧ (B = none → c = 0) ∧ l.length ≤ 140737488351232 ∧ (0 < l.length → ∀ ad, B = some ad → ad.block < W.heap.size) := by
  rcases open_ints Try.underlying28 Try.underlying5 (by kernel_rfl) h with ⟨hcs, _⟩ | ⟨x, len, cap, zs, hcs, _, hl, hm, hz, hy, hcell, hwz⟩
  · simp at hcs
    exact ⟨none, [], 0, hcs, Src.nil _ _, Nat.le_refl _, fun _ => rfl, by simp, fun h => absurd h (by simp)⟩
  · simp at hcs hz
    have hlen : ((zs.take len).map fun n => UInt8.ofNat n.toNat).length = len := by rw [List.length_map, List.length_take]; omega
    have hw := hsz ((zs.take len).length + (zs.drop len).length) (by
      rw [hy]
      simp only [DataW.weights, Try.underlying28, bytes_u8, lits, List.length_map, Nat.mul_one]
      exact List.mem_cons_self)
    have hplain : 0 < len → ∃ b o, x = ⟨b, o, none⟩ ∧ b < W.heap.size := fun h0 => by
      obtain ⟨b, off, spot⟩ := x
      have hc := hcell 0 (by omega)
      have hspot : spot = none := by simpa [Addr.add] using World.cell?_spot hc
      subst hspot
      exact ⟨b, off, rfl, World.block_lt_of_cell? W _ (by simpa [Addr.add] using hc)⟩
    refine ⟨some x, (zs.take len).map fun n => UInt8.ofNat n.toNat, cap, by rw [hlen]; exact hcs, ⟨rfl, fun h0 => ?_⟩, by omega, (fun h => by cases h), ?_, fun h0 ad e => ?_⟩
    · rw [hlen] at h0
      obtain ⟨b, o, rfl, _⟩ := hplain h0
      refine ⟨b, o, rfl, fun i hi => ?_⟩
      rw [hlen] at hi
      have h1 := hcell i (by omega)
      rw [plain_add] at h1
      have hi' : i < zs.length := by omega
      have hb := bounds_u8 (hwz _ (List.getElem_mem hi'))
      rw [h1, List.getElem_map, List.getElem_take, show zs.getD i 0 = zs[i] from by simp [List.getD, List.getElem?_eq_getElem hi'], UInt8.toNat_ofNat']
      congr 2
      omega
    · simp only [List.length_take, List.length_drop, reachBytes] at hw
      omega
    · rw [hlen] at h0
      obtain ⟨b, o, rfl, hb⟩ := hplain h0
      cases e
      exact hb

theorem weights_mem_all {H : Type} {P : Program} {e : TypeId} {l : List (DataW H)} {d : DataW H} (hd : d ∈ l) {k : Nat} (hk : k ∈ DataW.weights P e d) : k ∈ DataW.weightsAll P e l := by
  induction l with
  | nil => cases hd
  | cons x l ih =>
    rw [DataW.weightsAll]
    rcases List.mem_cons.1 hd with rfl | hd
    · exact List.mem_append_left _ hk
    · exact List.mem_append_right _ (ih hd)

theorem list_of {α : Type} {P : Nat → α → Prop} (n : Nat) (h : ∀ i, i < n → ∃ x, P i x) : ∃ xs : List α, xs.length = n ∧ ∀ i (hi : i < xs.length), P i xs[i] := by
  induction n with
  | zero => exact ⟨[], rfl, fun i hi => absurd hi (by simp)⟩
  | succ n ih =>
    obtain ⟨xs, hl, hx⟩ := ih (fun i hi => h i (by omega))
    obtain ⟨x, hp⟩ := h n (by omega)
    refine ⟨xs ++ [x], by simp [hl], fun i hi => ?_⟩
    by_cases hin : i < xs.length
    · rw [List.getElem_append_left hin]
      exact hx i hin
    · have : i = xs.length := by simp at hi; omega
      subst this
      simp only [List.getElem_concat_length]
      rw [hl]
      exact hp

theorem cells_int : Try.prog.cellsOf 3 = 1 := by kernel_rfl
theorem cells_u64 : Try.prog.cellsOf 32 = 1 := by kernel_rfl
theorem cells_bytes : Try.prog.cellsOf 28 = 1 := by kernel_rfl

set_option maxRecDepth 100000 in
/-- A list of calls, opened. -/
theorem open_ops {H : Type} {enc : TypeId × Value → H} {W : World} {a0 : Option Addr} {len cap : Nat} {d : DataW H} {p : List MemPlace} (h : DataW.Trod enc Try.prog W 0 (fun _ => true) true 22 (.slice a0 len cap) d p) (hsz : ∀ k ∈ DataW.weights Try.prog 22 d, k ≤ reachBytes) :
    ∃ xs, Ops W a0 len xs ∧ len ≤ 9223372036854775807 := by
  obtain ⟨fuel, hf⟩ := h
  rcases open_slice Try.underlying22 hf with ⟨hcs, _⟩ | ⟨a, l, c, m, n, D, Pl, hcs, _, hl, hm, hmm, hx, hi⟩
  · simp [Value.cells] at hcs
    obtain ⟨rfl, rfl, rfl⟩ := hcs
    exact ⟨[], ⟨rfl, fun h => absurd h (by omega)⟩, by omega⟩
  · simp [Value.cells] at hcs
    obtain ⟨rfl, rfl, rfl⟩ := hcs
    have hmc : m = cap := by rw [hmm, if_pos rfl]
    subst hmc
    simp only [Prod.mk.injEq] at hx
    have each : ∀ i, i < len → ∃ x : OpD, ∀ b o, a = ⟨b, o, none⟩ → OpAt W b (o + i * 4) x := fun i hil => by
      obtain ⟨cs, hc, ht⟩ := hi i (by omega)
      rw [cells_op] at hc
      obtain ⟨_, hcl, hat⟩ := World.cells?_some hc
      obtain ⟨ys, n', _, hy, _, hyl, hfld⟩ := DataW.trod_struct Try.underlying34 ht
      match cs, hcl, ys, hyl with
      | [c0, c1, c2, c3], _, [y0, y1, y2, y3], _ =>
        have f0 : DataW.trod enc Try.prog W 0 (fun _ => true) true n' 3 [c0] = some y0 := by simpa [cells_int] using hfld 0 _ rfl
        have f1 : DataW.trod enc Try.prog W 0 (fun _ => true) true n' 3 [c1] = some y1 := by simpa [cells_int] using hfld 1 _ rfl
        have f2 : DataW.trod enc Try.prog W 0 (fun _ => true) true n' 32 [c2] = some y2 := by simpa [cells_u64] using hfld 2 _ rfl
        have f3 : DataW.trod enc Try.prog W 0 (fun _ => true) true n' 28 [c3] = some y3 := by simpa [cells_bytes] using hfld 3 _ rfl
        simp only [Prod.mk.injEq] at hy
        have hw3 : ∀ k ∈ DataW.weights Try.prog 28 y3.1, k ≤ reachBytes := fun k hk => hsz k (by
          rw [hx.1]
          simp only [DataW.weights, Try.underlying22]
          refine List.mem_cons_of_mem _ (List.mem_append_left _ (weights_mem_all (d := D i) (List.mem_map.2 ⟨i, List.mem_range.2 hil, rfl⟩) ?_))
          rw [hy.1]
          simp only [DataW.weights, Try.underlying34, List.map_cons, List.map_nil, DataW.weightsEach]
          simp [hk])
        obtain ⟨B, l, c, rfl, hsrc, _, hz, h47, hbl⟩ := open_bytes f3 hw3
        obtain ⟨k0, e0, _, _⟩ := DataW.trod_int Try.underlying3 f0
        obtain ⟨k1, e1, _, _⟩ := DataW.trod_int Try.underlying3 f1
        obtain ⟨k2, e2, _, w2⟩ := DataW.trod_int Try.underlying32 f2
        simp at e0 e1 e2
        subst e0 e1 e2
        have b2 := bounds_u64 w2
        obtain ⟨v, rfl⟩ := Int.eq_ofNat_of_zero_le b2.1
        refine ⟨⟨k0, k1, v, l⟩, fun b o e => ?_⟩
        subst e
        have g0 := hat 0 (by omega)
        have g1 := hat 1 (by omega)
        have g2 := hat 2 (by omega)
        have g3 := hat 3 (by omega)
        simp only [plain_add] at g0 g1 g2 g3
        exact ⟨by show v < _; omega, g0, g1, g2, B, c, g3, hsrc, hz, h47, hbl⟩
    obtain ⟨xs, hxl, hxs⟩ := list_of len each
    refine ⟨xs, ⟨hxl, fun h0 => ?_⟩, by simp only [maxLen] at hm; omega⟩
    obtain ⟨cs, hc, _⟩ := hi 0 (by omega)
    rw [cells_op] at hc
    obtain ⟨_, hcl, hat⟩ := World.cells?_some hc
    obtain ⟨b, off, spot⟩ := a
    have h00 := hat 0 (by omega)
    rw [List.getElem?_eq_getElem (by omega)] at h00
    have hspot : spot = none := by simpa [Addr.add] using World.cell?_spot h00
    subst hspot
    refine ⟨b, off, rfl, World.block_lt_of_cell? W _ (by simpa [Addr.add] using h00), fun i hi => hxs i hi b off rfl⟩

end Go.Proofs.Ytloeckflcdnmaaa
