/- The law's digits: a plan of numbers; by a contract. No condition but where the numbers lie. -/
import Derived.Test.YtdeiohcciafffaaGreatDoorTRParse
import Derived.Test.YtdeiohcciafffaaGreatDoorTBackM
import Derived.ProofKit
import Derived.OpenShut
import Derived.SizedLaws
import Derived.Deep.Slices
namespace Go.Proofs.YtdeiohcciafffaaGreatDoor
open Go.RowKit Go.Shelf

/-- A row of numbers that lies somewhere. -/
def SrcI (k : IntKind) (w : World) (A : Option Addr) (n : Nat) (f : Nat → Int) : Prop :=
  0 < n → ∃ b o, A = some ⟨b, o, none⟩ ∧ b < w.heap.size ∧ ∀ i, i < n → w.cell? ⟨b, o + i, none⟩ = some (.int k (f i))
theorem SrcI.later {k : IntKind} {w w' : World} {A : Option Addr} {n : Nat} {f : Nat → Int} (h : SrcI k w A n f) (hb : Below w.heap.size w w') : SrcI k w' A n f := by
  intro h0
  obtain ⟨b, o, e, hl, hc⟩ := h h0
  exact ⟨b, o, e, Nat.lt_of_lt_of_le hl hb.size, fun i hi => k_cell hb (hc i hi)⟩
def digF (f : Nat → Int) (n k : Nat) : Int := if k < n then f k % 1000000000000000 else 0
def digP (f : Nat → Int) (n m : Nat) : Nat → Int := fun j => if j < m then digF f n j else 0
theorem digP_next (f : Nat → Int) (n k : Nat) : digP f n (k + 1) = fun j => if j = k then digF f n k else digP f n k j := by
  funext j
  unfold digP
  by_cases h : j = k
  · subst h; simp
  · rw [if_neg h]
    by_cases h2 : j < k
    · rw [if_pos h2, if_pos (by omega)]
    · rw [if_neg h2, if_neg (by omega)]
theorem digP_stay (f : Nat → Int) {n k : Nat} (h : n ≤ k) : digP f n (k + 1) = digP f n k := by
  rw [digP_next]
  funext j
  by_cases h1 : j = k
  · subst h1
    rw [if_pos rfl]
    unfold digP digF
    rw [if_neg (by omega), if_neg (by omega)]
  · rw [if_neg h1]
theorem digF_small (f : Nat → Int) (n : Nat) : Small (planL (digF f n)) := by
  intro k hk
  rw [planL_nth _ hk]
  unfold digF
  split
  · exact ⟨Int.emod_nonneg _ (by omega), Int.emod_lt_of_pos _ (by omega)⟩
  · omega
theorem make_zeros (w : World) : (Instr.makeSlice 80 (.int .i64 16) (.int .i64 16)).run Tryz.prog w = .ok (.slice (some ⟨w.heap.size, 0, none⟩) 16 16) (w.alloc (.cells zeroP.cells 2)) := by kernel_rfl
theorem digP_zero (f : Nat → Int) (n : Nat) : planL (digP f n 0) = zeroP := by
  rw [planL_same (g := fun _ => 0) (fun k _ => by simp [digP])]
  rfl

set_option maxRecDepth 100000 in
set_option maxHeartbeats 8000000 in
theorem digits_any (A : Option Addr) (n c : Nat) (f : Nat → Int) (w : World) (hn : n ≤ 16) (hs : SrcI .u64 w A n f) (hf : ∀ i, i < n → 0 ≤ f i ∧ f i < 18446744073709551616) :
    Calls Tryz.prog 18 #[.slice A n c] w fun e w' => e = .returned (.agg (planL (digF f n)).cells) ∧ Below w.heap.size w w' := by
  have HB := Lib.hid ((Below.refl w.heap.size w).alloc (Nat.le_refl _) (.cells zeroP.cells 23))
  have HP := Lib.hid (Whole.new w 23 zeroP.cells)
  have HN := Lib.hid (Whole.new (w.alloc (.cells zeroP.cells 23)) 2 zeroP.cells)
  have HP2 := Lib.hid (HP.out.alloc (.cells zeroP.cells 2))
  have HB2 := Lib.hid (HB.out.alloc HB.out.size (.cells zeroP.cells 2))
  simp only [World.size_alloc] at HN
  have hmk := make_zeros
  have HPL := Lib.hid (fun x nb W h => refPlan8_any x nb W h)
  have HSR := Lib.hid (hs.later HB2.out)
  have HSL := Lib.hid hs
  have HF := Lib.hid hf
  clear hs hf HB HP
  go_enter Tryz.func18, Tryz.ntmps18
  go_wp2
  clear hmk
  obtain ⟨nb, hnb⟩ : ∃ nb, nb = w.heap.size + 1 := ⟨_, rfl⟩
  rw [← hnb] at HN ⊢
  have HD := Lib.hid hnb
  clear hnb
  generalize hw2 : (w.alloc _).alloc _ = w2
  have hw2' : (w.alloc (.cells zeroP.cells 23)).alloc (.cells zeroP.cells 2) = w2 := hw2
  rw [hw2'] at HN HP2 HB2 HSR
  clear hw2 hw2'
  rw [← digP_zero f n] at HN
  go_loopw [8] (fun i V => ∃ k : Nat, k ≤ 16 ∧ i = .int .i64 (k : Int) ∧ Kept (fun j => j = nb) w2 V ∧ Whole V nb 2 (planL (digP f n k)).cells) (fun i _ => 16 - (intOf i).toNat)
  case atStart => exact ⟨0, by omega, rfl, Kept.refl _ _, HN.out⟩
  case round =>
    obtain ⟨k, hk, rfl, hkp, hwn⟩ := hrel
    have HK := Lib.hid hkp
    have HR := Lib.hid hwn
    clear hkp hwn
    by_cases hlt : k < 16
    · by_cases hkn : k < n
      · obtain ⟨b, o, rfl, hbl, hc⟩ := HSL.out (by omega)
        have hc0 : wr.cell? ⟨b, o + k, none⟩ = some (.int .u64 (f k)) := by
          obtain ⟨b', o', e', _, hc'⟩ := HSR.out (by omega)
          cases e'
          exact HK.out.cell (p := ⟨b, o + k, none⟩) (hc' k hkn) (by have := HD.out; simp only; omega)
        obtain ⟨f1, f2⟩ := HF.out k hkn
        have HE := Lib.hid (show digF f n k = f k % 1000000000000000 from if_pos hkn)
        clear hc
        generalize f k = u at *
        have e1 : u.tmod 1000000000000000 = u % 1000000000000000 := Int.tmod_eq_emod_of_nonneg f1
        have e2 : 0 ≤ u % 1000000000000000 := Int.emod_nonneg _ (by omega)
        have e3 : u % 1000000000000000 < 1000000000000000 := Int.emod_lt_of_pos _ (by omega)
        have hfr := HR.out.frozen k
        have hn0 := (HR.out.cell k).trans (planL_cell _ hlt)
        generalize u % 1000000000000000 = v at *
        go_wp2
        go_roundw
        case rel =>
          refine ⟨k + 1, by omega, by go_num, HK.out.setCell (p := ⟨nb, k, none⟩) (.inl rfl) _, ?_⟩
          have h := HR.out.set k (.int .i64 v)
          rw [planL_set _ _ hlt] at h
          rw [digP_next, HE.out]
          exact h
        case measure => simp [intOf]; omega
      · have hkn' : n ≤ k := by omega
        go_wp2
        go_roundw
        case rel => exact ⟨k + 1, by omega, by go_num, HK.out, by rw [digP_stay f hkn']; exact HR.out⟩
        case measure => simp [intOf]; omega
    · obtain rfl : k = 16 := by omega
      have HX := Lib.hid (HP2.out.kept HK.out (by have := HD.out; omega))
      have HY := Lib.hid (HB2.out.trans (Kept.below_from HK.out HB2.out.size (fun i h => by have := HD.out; omega)))
      have e : planL (digP f n 16) = planL (digF f n) := planL_same fun k hk => if_pos hk
      rw [e] at HR
      have HPQ := Lib.hid (HPL.out _ nb wr HR.out)
      have HQ := Lib.hid (planL (digF f n)).cellsL
      clear e HR HPL hlt
      obtain ⟨cs, hcs⟩ : ∃ cs, cs = (planL (digF f n)).cells := ⟨_, rfl⟩
      rw [← hcs] at HPQ HQ
      have HCS := Lib.hid hcs
      clear hcs
      go_wp2_with (first
        | (go_at_call 38; refine HPQ.out.mono ?_; rintro e w5 ⟨rfl, hb5⟩; have HX5 := Lib.hid (k_later hb5 HX.out); have HY5 := Lib.hid (k_then hb5 HY.out); clear hb5)
        | (refine wpList_store_row rfl 23 (.tmp 2) (.tmp 26) rfl w.heap.size cs rfl rfl 23 zeroP.cells HX5.out HQ.out.plan HQ.out.size.symm HQ.out.one ?_))
      refine bodyPost_ret (v := .agg cs) ?_ rfl ⟨by rw [HCS.out], below_setRow' HY5.out (Nat.le_refl _) _⟩
      exact results_row0 rfl _ _ _ 23 _ (0, 0) _ rfl (setRow_whole HX5.out) Tryz.underlying23 rfl HQ.out.plan
end Go.Proofs.YtdeiohcciafffaaGreatDoor

/- Arguments that are slices of numbers, opened. -/
namespace Go.Proofs.YtdeiohcciafffaaGreatDoor
open Go.ChangeShapes Go.WideShapes Go.ChangeAt Go.RowKit Go.Deep

theorem src_of {k : IntKind} {W : World} {x : Addr} {len : Nat} {zs : List Int} (hcell : ∀ i, i < zs.length → W.cell? (x.add i) = some (.int k (zs.getD i 0))) (hl : len ≤ zs.length) : SrcI k W (some x) len (fun i => zs.getD i 0) := by
  intro h0
  obtain ⟨b, off, spot⟩ := x
  have hc := hcell 0 (by omega)
  have hspot : spot = none := by simpa [Addr.add] using World.cell?_spot hc
  subst hspot
  refine ⟨b, off, rfl, World.block_lt_of_cell? W _ (by simpa [Addr.add] using hc), fun i hi => ?_⟩
  have h := hcell i (by omega)
  have e : (⟨b, off, none⟩ : Addr).add i = ⟨b, off + i, none⟩ := by unfold Addr.add; split <;> simp_all
  rwa [e] at h
section
variable {H : Type} {enc : TypeId × Value → H} {W : World} {v : Value} {d : DataW H} {p : List MemPlace}
set_option maxRecDepth 100000 in
theorem open_longs {r : Reach} {b0 : Nat} (hval : Value.okWide Tryz.prog W r b0 39 v) (h : DataW.Trod enc Tryz.prog W 0 (fun _ => true) true 39 v d p) :
    ∃ A n c f, v = .slice A n c ∧ SrcI .u64 W A n f ∧ ∀ i, i < n → 0 ≤ f i ∧ f i < 18446744073709551616 := by
  obtain ⟨a0, l0, c0, rfl⟩ := okWide_slice Tryz.underlying39 hval
  obtain ⟨fuel, hf⟩ := h
  rcases open_ints Tryz.underlying39 Tryz.underlying81 (by kernel_rfl) hf with ⟨hcs, _⟩ | ⟨x, len, cap, zs, hcs, _, hl, hm, hz, hy, hcell, hwz⟩
  · have hcs : [Value.slice a0 l0 c0] = [.slice none 0 0] := hcs
    cases hcs
    exact ⟨none, 0, 0, fun _ => 0, rfl, fun h => absurd h (by omega), fun i hi => absurd hi (by omega)⟩
  · have hcs : [Value.slice a0 l0 c0] = [.slice (some x) len cap] := hcs
    cases hcs
    simp at hz
    refine ⟨some x, _, _, fun i => zs.getD i 0, rfl, src_of hcell (by omega), fun i hi => ?_⟩
    have hi' : i < zs.length := by omega
    have hb := bounds_u64 (hwz _ (List.getElem_mem hi'))
    simp only [List.getD, List.getElem?_eq_getElem hi', Option.getD_some]
    omega
set_option maxRecDepth 100000 in
theorem open_octets {r : Reach} {b0 : Nat} (hval : Value.okWide Tryz.prog W r b0 40 v) (h : DataW.Trod enc Tryz.prog W 0 (fun _ => true) true 40 v d p) :
    ∃ A n c f, v = .slice A n c ∧ SrcI .u8 W A n f ∧ ∀ i, i < n → 0 ≤ f i ∧ f i < 256 := by
  obtain ⟨a0, l0, c0, rfl⟩ := okWide_slice Tryz.underlying40 hval
  obtain ⟨fuel, hf⟩ := h
  rcases open_ints Tryz.underlying40 Tryz.underlying5 (by kernel_rfl) hf with ⟨hcs, _⟩ | ⟨x, len, cap, zs, hcs, _, hl, hm, hz, hy, hcell, hwz⟩
  · have hcs : [Value.slice a0 l0 c0] = [.slice none 0 0] := hcs
    cases hcs
    exact ⟨none, 0, 0, fun _ => 0, rfl, fun h => absurd h (by omega), fun i hi => absurd hi (by omega)⟩
  · have hcs : [Value.slice a0 l0 c0] = [.slice (some x) len cap] := hcs
    cases hcs
    simp at hz
    refine ⟨some x, _, _, fun i => zs.getD i 0, rfl, src_of hcell (by omega), fun i hi => ?_⟩
    have hi' : i < zs.length := by omega
    have hb := bounds_u8 (hwz _ (List.getElem_mem hi'))
    simp only [List.getD, List.getElem?_eq_getElem hi', Option.getD_some]
    omega
end
end Go.Proofs.YtdeiohcciafffaaGreatDoor
