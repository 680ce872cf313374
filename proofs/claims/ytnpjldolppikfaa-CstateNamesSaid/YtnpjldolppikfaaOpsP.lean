/- An argument that is a list of calls, opened. -/
import Derived.Test.YtnpjldolppikfaaOps
import Derived.ProofKit
import Derived.OpenShut
import Derived.SizedLaws
import Derived.Deep.Slices
import Derived.Deep.Fields
namespace Go.Proofs.Ytnpjldolppikfaa
open Go.ChangeShapes Go.WideShapes Go.ChangeAt Go.RowKit Go.Deep

theorem bytes_u8 : Try.prog.bytesOf 5 = 1 := by kernel_rfl

theorem plain_add (b o k : Nat) : (⟨b, o, none⟩ : Addr).add k = ⟨b, o + k, none⟩ := by unfold Addr.add; split <;> simp_all

/-- A slice of bytes, opened. -/
theorem open_bytes {H : Type} {enc : TypeId × Value → H} {W : World} {fuel : Nat} {c3 : Value} {y : DataW H × List MemPlace} (h : DataW.trod enc Try.prog W 0 (fun _ => true) true fuel 26 [c3] = some y) (hsz : ∀ k ∈ DataW.weights Try.prog 26 y.1, k ≤ reachBytes) :
    ∃ (B : Option Addr) (l : List UInt8) (c : Nat), c3 = .slice B l.length c ∧ Src W B l.length l ∧ l.length ≤ c ∧ (B = none → c = 0) ∧ l.length ≤ 140737488351232 ∧ (0 < l.length → ∀ ad, B = some ad → ad.block < W.heap.size) := by
  rcases open_ints Try.underlying26 Try.underlying5 (by kernel_rfl) h with ⟨hcs, _⟩ | ⟨x, len, cap, zs, hcs, _, hl, hm, hz, hy, hcell, hwz⟩
  · simp at hcs
    exact ⟨none, [], 0, hcs, Src.nil _ _, Nat.le_refl _, fun _ => rfl, by simp, fun h => absurd h (by simp)⟩
  · simp at hcs hz
    have hlen : ((zs.take len).map fun n => UInt8.ofNat n.toNat).length = len := by rw [List.length_map, List.length_take]; omega
    have hw := hsz ((zs.take len).length + (zs.drop len).length) (by
      rw [hy]
      simp only [DataW.weights, Try.underlying26, bytes_u8, lits, List.length_map, Nat.mul_one]
      exact List.mem_cons_self)
    have hplain : 0 < len → ∃ b o, x = ⟨b, o, none⟩ ∧ b < W.heap.size := fun h0 => by
      obtain ⟨b, off, spot⟩ := x
      have hc := hcell 0 (by omega)
      have hspot : spot = none := by simpa [Addr.add] using World.cell?_spot hc
      subst hspot
      exact ⟨b, off, rfl, World.block_lt_of_cell? W _ (by simpa [Addr.add] using hc)⟩
    refine ⟨some x, (zs.take len).map fun n => UInt8.ofNat n.toNat, cap, by rw [hlen]; exact hcs, ⟨rfl, fun h0 => ?_⟩, by omega, (fun h => by cases h), ?_, fun h0 ad e => ?_⟩
    · rw [hlen] at h0
      obtain ⟨b, o, rfl, _⟩ := hplain h0
      refine ⟨b, o, rfl, fun i hi => ?_⟩
      rw [hlen] at hi
      have h1 := hcell i (by omega)
      rw [plain_add] at h1
      have hi' : i < zs.length := by omega
      have hb := bounds_u8 (hwz _ (List.getElem_mem hi'))
      rw [h1, List.getElem_map, List.getElem_take, show zs.getD i 0 = zs[i] from by simp [List.getD, List.getElem?_eq_getElem hi'], UInt8.toNat_ofNat']
      congr 2
      omega
    · simp only [List.length_take, List.length_drop, reachBytes] at hw
      omega
    · rw [hlen] at h0
      obtain ⟨b, o, rfl, hb⟩ := hplain h0
      cases e
      exact hb

theorem weights_mem_all {H : Type} {P : Program} {e : TypeId} {l : List (DataW H)} {d : DataW H} (hd : d ∈ l) {k : Nat} (hk : k ∈ DataW.weights P e d) : k ∈ DataW.weightsAll P e l := by
  induction l with
  | nil => cases hd
  | cons x l ih =>
    rw [DataW.weightsAll]
    rcases List.mem_cons.1 hd with rfl | hd
    · exact List.mem_append_left _ hk
    · exact List.mem_append_right _ (ih hd)

theorem list_of {α : Type} {P : Nat → α → Prop} (n : Nat) (h : ∀ i, i < n → ∃ x, P i x) : ∃ xs : List α, xs.length = n ∧ ∀ i (hi : i < xs.length), P i xs[i] := by
  induction n with
  | zero => exact ⟨[], rfl, fun i hi => absurd hi (by simp)⟩
  | succ n ih =>
    obtain ⟨xs, hl, hx⟩ := ih (fun i hi => h i (by omega))
    obtain ⟨x, hp⟩ := h n (by omega)
    refine ⟨xs ++ [x], by simp [hl], fun i hi => ?_⟩
    by_cases hin : i < xs.length
    · rw [List.getElem_append_left hin]
      exact hx i hin
    · have : i = xs.length := by simp at hi; omega
      subst this
      simp only [List.getElem_concat_length]
      rw [hl]
      exact hp

theorem cells_int : Try.prog.cellsOf 3 = 1 := by kernel_rfl
theorem cells_u64 : Try.prog.cellsOf 74 = 1 := by kernel_rfl
theorem cells_bytes : Try.prog.cellsOf 26 = 1 := by kernel_rfl

end Go.Proofs.Ytnpjldolppikfaa
