/- The document's digits of a number, by a contract: the decimal numeral. No condition. -/
import Derived.Test.YtfiflcajkamliaaDoorTNamesP
import Derived.Lib.ItoaLen
import Derived.Lib.ItoaMem
namespace Go.Proofs.YtfiflcajkamliaaDoor
open Go.RowKit Go.Shelf

/-- What is there when the last k digits of M are written. -/
structure DigSt (M k m : Nat) (s : List UInt8) : Prop where
  num : m = M / 10 ^ k
  zero : k = 0 → s = []
  more : 0 < m ∨ k = 0 → Lib.decDigits m ++ s = Lib.decDigits M
  len : s.length = k
  done : m = 0 → 0 < k → s = Lib.decDigits M
theorem DigSt.start (M : Nat) : DigSt M 0 M [] := ⟨by simp, fun _ => rfl, fun _ => by simp, rfl, fun _ h => absurd h (by omega)⟩
theorem DigSt.step {M k m : Nat} {s : List UInt8} (h : DigSt M k m s) (hm : 0 < m ∨ k = 0) : DigSt M (k + 1) (m / 10) (UInt8.ofNat (48 + m % 10) :: s) := by
  have e := h.more hm
  rw [Lib.decDigits] at e
  refine ⟨by rw [h.num, Nat.div_div_eq_div_mul, Nat.pow_succ], fun h => by omega, fun hq => ?_, by simp [h.len], fun hz _ => ?_⟩
  · have h10 : ¬ m < 10 := by omega
    rw [dif_neg h10, List.append_assoc] at e
    exact e
  · have h10 : m < 10 := by omega
    rw [dif_pos h10] at e
    rw [Nat.mod_eq_of_lt h10]
    exact e

theorem neg_wrap {n : Int} (h : n < 0) (h0 : -9223372036854775808 ≤ n) : IntKind.u64.wrap (-IntKind.u64.wrap n) = (n.natAbs : Int) := by
  simp [IntKind.wrap, IntKind.bits, IntKind.signed]
  omega
theorem shown_conv {P : Program} (w : World) (src e dst : TypeId) (d : UInt8) (x : Int) (hx : x = (d.toNat : Int)) (hs : P.underlying src = some (.slice e)) (he : P.underlying e = some (.int .u8)) (hd : P.underlying dst = some .string) :
    (convert src dst (.slice (some ⟨w.heap.size, 0, none⟩) 1 1)).run P (w.alloc (.cells #[.int .u8 x] e)) = .ok (.string ⟨#[d]⟩) (w.alloc (.cells #[.int .u8 x] e)) := by
  subst hx
  refine run_convert_bytes_back _ src dst e _ 1 [d] hs he hd fun j hj => ?_
  obtain rfl : j = 0 := by simp at hj; omega
  exact cell_one_new w _ e 0 _ rfl

set_option maxHeartbeats 1000000 in
theorem shown_any (n : Int) (h0 : -9223372036854775808 ≤ n) (h1 : n ≤ 9223372036854775807) (w : World) : Calls Tryd.prog 16 #[.int .i64 n] w fun e w' => e = .returned (.string ⟨(Lib.itoa n).toArray⟩) ∧ Below w.heap.size w w' := by
  obtain ⟨M, hM⟩ : ∃ M : Nat, M = n.natAbs := ⟨_, rfl⟩
  have hM64 : M ≤ 9223372036854775808 := by omega
  have h20 : M / 10 ^ 20 = 0 := Nat.div_eq_of_lt (by omega)
  by_cases hneg : n < 0
  · have HI := Lib.hid (show Lib.itoa n = 45 :: Lib.decDigits M by rw [Lib.itoa, if_pos hneg, hM])
    go_enter Tryd.func16, Tryd.ntmps16
    go_wp2
    go_loopw [3, 4, 5] (fun a b c W => ∃ (m : Nat) (s : List UInt8) (k : Nat), k ≤ 20 ∧ m ≤ M ∧ a = .int .u64 (m : Int) ∧ b = .string ⟨s.toArray⟩ ∧ c = .int .i64 (k : Int) ∧ DigSt M k m s ∧ Below w.heap.size w W) (fun _ _ c _ => 20 - (intOf c).toNat)
    case atStart =>
      have e : IntKind.u64.wrap (-IntKind.u64.wrap n) = (M : Int) := by rw [hM]; exact neg_wrap hneg h0
      exact ⟨M, [], 0, by omega, by omega, by rw [e], rfl, rfl, DigSt.start M, Below.refl _ _⟩
    case round =>
      obtain ⟨m, s, k, hk, hmM, rfl, rfl, rfl, hst, hbl⟩ := hrel
      have HD := Lib.hid hst
      have hls := hst.len
      by_cases hgo : k < 20 ∧ (0 < m ∨ k = 0)
      · have hS := hst.step hgo.2
        have hlt := hgo.1
        have hm10 : m % 10 < 10 := Nat.mod_lt _ (by omega)
        obtain ⟨d, hd⟩ : ∃ d, d = UInt8.ofNat (48 + m % 10) := ⟨_, rfl⟩
        have hdn : 48 + (m : Int) % 10 = (d.toNat : Int) := by rw [hd]; simp; omega
        rw [← hd] at hS
        have HS := Lib.hid hS
        have HB := Lib.hid (hbl.alloc hbl.size (.cells #[.int .u8 (48 + (m : Int) % 10)] 5))
        have hcv := shown_conv (P := Tryd.prog) wr 42 5 9 d (48 + (m : Int) % 10) hdn Tryd.underlying42 Tryd.underlying5 Tryd.underlying9
        have hg := Lib.hid hgo.2
        have HE := Lib.hid (show (⟨#[d]⟩ : ByteArray) ++ (⟨s.toArray⟩ : ByteArray) = ⟨(d :: s).toArray⟩ by apply ByteArray.ext; simp)
        have HDN := Lib.hid hdn
        clear hst hgo hd hm10 hS hdn
        rcases Nat.eq_zero_or_pos m with hm | hm
        · obtain rfl : k = 0 := by have := hg.out; omega
          subst hm
          have hcv := shown_conv (P := Tryd.prog) wr 42 5 9 d 48 (by simpa using HDN.out) Tryd.underlying42 Tryd.underlying5 Tryd.underlying9
          have HB := Lib.hid (hbl.alloc hbl.size (.cells #[.int .u8 48] 5))
          go_wp2
          go_round
          case rel => exact ⟨0 / 10, d :: s, 0 + 1, by omega, by omega, by go_num, by rw [HE.out], by go_num, HS.out, HB.out⟩
          case measure => simp [intOf]
        · have hmd : decide ((0 : Int) < (m : Int)) = true := by simpa using hm
          go_wp2
          go_round
          case rel => exact ⟨m / 10, d :: s, k + 1, by omega, by omega, by go_num, by rw [HE.out], by go_num, HS.out, HB.out⟩
          case measure => simp [intOf]; omega
      · have hm0 : m = 0 := by
          rcases Nat.lt_or_ge k 20 with h | h
          · omega
          · obtain rfl : k = 20 := by omega
            rw [hst.num, h20]
        subst hm0
        have hk0 : 0 < k := by omega
        have HF := Lib.hid (hst.done rfl hk0)
        clear hst
        by_cases hlt : k < 20
        · have hkz : ((k : Int) == 0) = false := by rw [beq_eq_false_iff_ne]; omega
          go_wp2
          go_ret
          exact ⟨by rw [HI.out, HF.out]; congr 1, hbl⟩
        · go_wp2
          go_ret
          exact ⟨by rw [HI.out, HF.out]; congr 1, hbl⟩
  · have HI := Lib.hid (show Lib.itoa n = Lib.decDigits M by rw [Lib.itoa, if_neg hneg, hM]; congr 1; omega)
    go_enter Tryd.func16, Tryd.ntmps16
    go_wp2
    go_loopw [3, 4, 5] (fun a b c W => ∃ (m : Nat) (s : List UInt8) (k : Nat), k ≤ 20 ∧ m ≤ M ∧ a = .int .u64 (m : Int) ∧ b = .string ⟨s.toArray⟩ ∧ c = .int .i64 (k : Int) ∧ DigSt M k m s ∧ Below w.heap.size w W) (fun _ _ c _ => 20 - (intOf c).toNat)
    case atStart =>
      have e : n = (M : Int) := by omega
      exact ⟨M, [], 0, by omega, by omega, by rw [← e], rfl, rfl, DigSt.start M, Below.refl _ _⟩
    case round =>
      obtain ⟨m, s, k, hk, hmM, rfl, rfl, rfl, hst, hbl⟩ := hrel
      have HD := Lib.hid hst
      have hls := hst.len
      by_cases hgo : k < 20 ∧ (0 < m ∨ k = 0)
      · have hS := hst.step hgo.2
        have hlt := hgo.1
        have hm10 : m % 10 < 10 := Nat.mod_lt _ (by omega)
        obtain ⟨d, hd⟩ : ∃ d, d = UInt8.ofNat (48 + m % 10) := ⟨_, rfl⟩
        have hdn : 48 + (m : Int) % 10 = (d.toNat : Int) := by rw [hd]; simp; omega
        rw [← hd] at hS
        have HS := Lib.hid hS
        have HB := Lib.hid (hbl.alloc hbl.size (.cells #[.int .u8 (48 + (m : Int) % 10)] 5))
        have hcv := shown_conv (P := Tryd.prog) wr 42 5 9 d (48 + (m : Int) % 10) hdn Tryd.underlying42 Tryd.underlying5 Tryd.underlying9
        have hg := Lib.hid hgo.2
        have HE := Lib.hid (show (⟨#[d]⟩ : ByteArray) ++ (⟨s.toArray⟩ : ByteArray) = ⟨(d :: s).toArray⟩ by apply ByteArray.ext; simp)
        have HDN := Lib.hid hdn
        clear hst hgo hd hm10 hS hdn
        rcases Nat.eq_zero_or_pos m with hm | hm
        · obtain rfl : k = 0 := by have := hg.out; omega
          subst hm
          have hcv := shown_conv (P := Tryd.prog) wr 42 5 9 d 48 (by simpa using HDN.out) Tryd.underlying42 Tryd.underlying5 Tryd.underlying9
          have HB := Lib.hid (hbl.alloc hbl.size (.cells #[.int .u8 48] 5))
          go_wp2
          go_round
          case rel => exact ⟨0 / 10, d :: s, 0 + 1, by omega, by omega, by go_num, by rw [HE.out], by go_num, HS.out, HB.out⟩
          case measure => simp [intOf]
        · have hmd : decide ((0 : Int) < (m : Int)) = true := by simpa using hm
          go_wp2
          go_round
          case rel => exact ⟨m / 10, d :: s, k + 1, by omega, by omega, by go_num, by rw [HE.out], by go_num, HS.out, HB.out⟩
          case measure => simp [intOf]; omega
      · have hm0 : m = 0 := by
          rcases Nat.lt_or_ge k 20 with h | h
          · omega
          · obtain rfl : k = 20 := by omega
            rw [hst.num, h20]
        subst hm0
        have hk0 : 0 < k := by omega
        have HF := Lib.hid (hst.done rfl hk0)
        clear hst
        by_cases hlt : k < 20
        · have hkz : ((k : Int) == 0) = false := by rw [beq_eq_false_iff_ne]; omega
          go_wp2
          go_ret
          exact ⟨by rw [HI.out, HF.out]; rfl, hbl⟩
        · go_wp2
          go_ret
          exact ⟨by rw [HI.out, HF.out]; rfl, hbl⟩
end Go.Proofs.YtfiflcajkamliaaDoor
