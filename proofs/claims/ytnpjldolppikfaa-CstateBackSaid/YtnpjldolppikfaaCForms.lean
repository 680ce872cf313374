/- CstateForms, its walk. -/
import Derived.Test.YtnpjldolppikfaaCAlive
import Derived.Test.YtnpjldolppikfaaCEncR
import Derived.Test.YtnpjldolppikfaaCDecR
import Derived.Test.YtnpjldolppikfaaIns
namespace Go.Proofs.Ytnpjldolppikfaa
open Go.RowKit

theorem own_later {w w' : World} {b : Nat} {e : TypeId} {size : Nat} {v : Value} {n : Nat} {xs : List Value} (h : w.ownsRow b e size v n xs) (hb : Below w.heap.size w w') : w'.ownsRow b e size v n xs := ownsRow_kept h (Kept.of_below hb Empty) (fun _ _ h => h)

theorem encV_le (r s m : Int) (g : Nat) : (encV r s m g).length ≤ 8 := by
  unfold encV
  split
  · rw [encL_length]; exact Nat.le_refl _
  · exact Nat.zero_le _

/-- The string of bytes that lie in a later world. -/
theorem conv_src {w : World} {A : Option Addr} {n : Nat} {l : List UInt8} (h : Src w A n l) (c : Nat) : (convert 26 9 (.slice A n c)).run Try.prog w = .ok (.string ⟨l.toArray⟩) w :=
  h.convert (P := Try.prog) c 26 5 9 Try.underlying26 Try.underlying5 Try.underlying9

theorem forms_long (r s m : Int) (g : Nat) (A0 : Option Addr) (n c0 : Nat) (w : World) (h : 100 < n) : Calls Try.prog 3 #[.agg #[.int .i64 r, .int .i64 s, .int .i64 m, .int .u16 (g : Int)], .slice A0 n c0] w fun e w' => e = .returned (.bool true) ∧ Below w.heap.size w w' := by
  have hb : Below w.heap.size w (w.alloc (.cells #[.int .i64 r, .int .i64 s, .int .i64 m, .int .u16 (g : Int)] 25)) := (Below.refl _ _).alloc (Nat.le_refl _) _
  have h2 : decide ((100 : Int) < (n : Int)) = true := by simp; omega
  go_enter Try.func3, Try.ntmps3
  go_wp2
  go_ret
  exact ⟨rfl, hb⟩

set_option maxRecDepth 100000 in
set_option maxHeartbeats 4000000 in
theorem forms_short (r s m : Int) (g : Nat) (A0 : Option Addr) (n c0 : Nat) (l : List UInt8) (w : World) (h : n ≤ 100) (hg : g < 65536) (hs : Src w A0 n l) (hc : n ≤ c0) (hz : A0 = none → c0 = 0) : Calls Try.prog 3 #[.agg #[.int .i64 r, .int .i64 s, .int .i64 m, .int .u16 (g : Int)], .slice A0 n c0] w fun e w' => e = .returned (.bool true) ∧ Below w.heap.size w w' := by
  have hb0 : Below w.heap.size w (w.alloc (.cells #[.int .i64 r, .int .i64 s, .int .i64 m, .int .u16 (g : Int)] 25)) := (Below.refl _ _).alloc (Nat.le_refl _) _
  have hC0 := Whole.new w 25 #[.int .i64 r, .int .i64 s, .int .i64 m, .int .u16 (g : Int)]
  have hs0 : Src (w.alloc (.cells #[.int .i64 r, .int .i64 s, .int .i64 m, .int .u16 (g : Int)] 25)) A0 n l := hs.kept ((Kept.refl Empty w).alloc _) (fun _ _ h => h)
  have d : decide ((100 : Int) < (n : Int)) = false := by simp; omega
  have E1 := fun V => encode_any r s m g V hg
  have E2 := fun V => refEncode_any r s m g V hg
  have K1 := fun V => check_any r s m (g : Int) V
  have K2 := fun V => refCheck_any r s m (g : Int) V
  have hL := encV_le r s m g
  generalize encV r s m g = L at *
  generalize chkC r s m = K at *
  have D1 := fun (V : World) (A : Option Addr) (c : Nat) (h1 : Src V A n l) (h2 : A = none → c = 0) => decode_any A n c l V h1 h2 (by omega)
  have D2 := fun (V : World) (A : Option Addr) (c : Nat) (h1 : Src V A n l) (h2 : n ≤ c) => refDecode_any A n c l V h1 h2
  unfold DecAt decT at D1 D2
  generalize decR l = dr at *
  generalize decS l = ds at *
  generalize decM l = dm at *
  generalize decG l = dg at *
  generalize decE l = de at *
  have TW := Lib.hid (twin_any A0 n c0 l _ hs0 (by omega))
  have HE1 := Lib.hid E1
  have HE2 := Lib.hid E2
  have HK1 := Lib.hid K1
  have HK2 := Lib.hid K2
  have HD1 := Lib.hid D1
  have HD2 := Lib.hid D2
  have HC := Lib.hid hc
  have HZ := Lib.hid hz
  have HL := Lib.hid hL
  clear E1 E2 K1 K2 D1 D2 hc hz hs hg
  go_enter Try.func3, Try.ntmps3
  go_wp2_with fail
  refine TW.out.mono ?_
  rintro e w1 ⟨v1, rfl, own1, k1⟩
  have hb1 := below_then k1 hb0
  have hC1 := whole_later k1 hC0
  have hs1 := hs0.below k1
  obtain ⟨A1, c1, rfl, hc1, o1, _, hn1⟩ := Src.of_own own1
  have z0 : w.heap.size < w1.heap.size := hC1.lt
  have HZ1 := Lib.hid (fun e => (hn1 e).2)
  clear hb0 hC0 hs0 TW own1 k1 hn1
  obtain ⟨a0, a1, a2, a3, af⟩ := hC1.four
  go_wp2_with fail
  refine (HE1.out _).mono ?_
  rintro e w2 hf
  obtain ⟨A2, c2, rfl, _, _, _, own2, k2⟩ := hf.opened
  have hb2 := below_then k2 hb1
  have hC2 := whole_later k2 hC1
  have hs2 := hs1.below k2
  have o2 := o1.below k2
  have z1 : w1.heap.size ≤ w2.heap.size := k2.size
  clear hf hb1 hC1 hs1 o1 k2 a0 a1 a2 a3 af
  obtain ⟨a0, a1, a2, a3, af⟩ := hC2.four
  go_wp2_with fail
  refine (HE2.out _).mono ?_
  rintro e w3 hf
  obtain ⟨A3, c3, rfl, y3, _, _, own3, k3⟩ := hf.opened
  have hb3 := below_then k3 hb2
  have hC3 := whole_later k3 hC2
  have hs3 := hs2.below k3
  have o3 := o2.below k3
  have x3 := own_later own2 k3
  have hy3 : ∀ ad, A3 = some ad → w2.heap.size ≤ ad.block := fun ad e => by
    obtain ⟨A', c', e', _, _, hA, _⟩ := Src.of_own own3
    simp at e'
    obtain ⟨rfl, rfl⟩ := e'
    exact (hA ad e).2
  have hx3 : ∀ ad, A2 = some ad → w1.heap.size ≤ ad.block ∧ ad.block < w2.heap.size := fun ad e => by
    obtain ⟨A', c', e', _, _, hA, _⟩ := Src.of_own own2
    simp at e'
    obtain ⟨rfl, rfl⟩ := e'
    exact ⟨(hA ad e).2, (own2.lt _ (hA ad e).1).2⟩
  have HX := Lib.hid hx3
  have HY := Lib.hid hy3
  clear hf hb2 hC2 hs2 o2 k3 own2 own3 a0 a1 a2 a3 af hx3 hy3
  go_wp2_with fail
  refine (HD1.out _ _ _ o3 HZ1.out).mono ?_
  rintro e w4 ⟨rfl, k4⟩
  have hb4 := (below_then k4 hb3).alloc (below_then k4 hb3).size (.cells #[.int .i64 (dr : Int), .int .i64 (ds : Int), .int .i64 (dm : Int), .int .u16 (dg : Int)] 25)
  have hC4 := (whole_later k4 hC3).alloc (.cells #[.int .i64 (dr : Int), .int .i64 (ds : Int), .int .i64 (dm : Int), .int .u16 (dg : Int)] 25)
  have U4 := Whole.new w4 25 #[.int .i64 (dr : Int), .int .i64 (ds : Int), .int .i64 (dm : Int), .int .u16 (dg : Int)]
  have ka : Below w4.heap.size w4 (w4.alloc (.cells #[.int .i64 (dr : Int), .int .i64 (ds : Int), .int .i64 (dm : Int), .int .u16 (dg : Int)] 25)) := (Below.refl _ _).alloc (Nat.le_refl _) _
  have hs4 := (hs3.below k4).below ka
  have o4 := (o3.below k4).below ka
  have x4 := own_later (own_later x3 k4) ka
  have y4 := (y3.below k4).below ka
  clear hb3 hC3 hs3 o3 x3 y3 k4 ka
  go_wp2_with fail
  refine (HD2.out _ _ _ hs4 HC.out).mono ?_
  rintro e w5 ⟨rfl, k5⟩
  have hb5 := (below_then k5 hb4).alloc (below_then k5 hb4).size (.cells #[.int .i64 (dr : Int), .int .i64 (ds : Int), .int .i64 (dm : Int), .int .u16 (dg : Int)] 25)
  have hC5 := (whole_later k5 hC4).alloc (.cells #[.int .i64 (dr : Int), .int .i64 (ds : Int), .int .i64 (dm : Int), .int .u16 (dg : Int)] 25)
  have U5 := (whole_later k5 U4).alloc (.cells #[.int .i64 (dr : Int), .int .i64 (ds : Int), .int .i64 (dm : Int), .int .u16 (dg : Int)] 25)
  have V5 := Whole.new w5 25 #[.int .i64 (dr : Int), .int .i64 (ds : Int), .int .i64 (dm : Int), .int .u16 (dg : Int)]
  have ka : Below w5.heap.size w5 (w5.alloc (.cells #[.int .i64 (dr : Int), .int .i64 (ds : Int), .int .i64 (dm : Int), .int .u16 (dg : Int)] 25)) := (Below.refl _ _).alloc (Nat.le_refl _) _
  have hs5 := (hs4.below k5).below ka
  have o5 := (o4.below k5).below ka
  have x5 := own_later (own_later x4 k5) ka
  have y5 := (y4.below k5).below ka
  clear hb4 hC4 U4 hs4 o4 x4 y4 k5 ka
  go_wp2_with fail
  obtain ⟨A2', c2', e2, _, x6, _⟩ := Src.of_own x5
  simp only [Value.slice.injEq] at e2
  obtain ⟨rfl, _, rfl⟩ := e2
  generalize w5.heap.size = gV at *
  generalize w4.heap.size = gU at *
  generalize w5.alloc (.cells #[.int .i64 (dr : Int), .int .i64 (ds : Int), .int .i64 (dm : Int), .int .u16 (dg : Int)] 25) = W at *
  obtain ⟨a0, a1, a2, a3, af⟩ := hC5.four
  obtain ⟨u0, u1, u2, u3, uf⟩ := U5.four
  obtain ⟨v0, v1, v2, v3, vf⟩ := V5.four
  have i0 := fun y : Later W => y.cell a0
  have i1 := fun y : Later W => y.cell a1
  have i2 := fun y : Later W => y.cell a2
  have i3 := fun y : Later W => y.cell a3
  have j0 := fun y : Later W => y.cell u0
  have j1 := fun y : Later W => y.cell u1
  have j2 := fun y : Later W => y.cell u2
  have j3 := fun y : Later W => y.cell u3
  have k0 := fun y : Later W => y.cell v0
  have k1 := fun y : Later W => y.cell v1
  have k2 := fun y : Later W => y.cell v2
  have k3 := fun y : Later W => y.cell v3
  have q1 := fun y : Later W => y.conv x6 c2
  have q2 := fun y : Later W => y.conv y5 c3
  have q3 := fun y : Later W => y.conv o5 c1
  have q4 := fun y : Later W => y.conv hs5 c0
  clear a0 a1 a2 a3 af u0 u1 u2 u3 uf v0 v1 v2 v3 vf U5 V5 o5 hs5 x6
  refine wp_region_later (by kernel_rfl) (by kernel_rfl) ?_
  repeat (go_big_quiet_step ((first
    | (go_at_call 16; exact later_of _ HK1.out)
    | (go_at_call 17; exact later_of _ HK2.out))))
  refine wpQuiet_nil ?_
  intro _ hw'
  obtain ⟨q, hw''⟩ := hw'
  subst hw''
  have hb6 := below_then q.below hb5
  have hC6 := whole_later q.below hC5
  have x7 := own_later x5 q.below
  have y7 := y5.below q.below
  clear i0 i1 i2 i3 j0 j1 j2 j3 k0 k1 k2 k3 q1 q2 q3 q4 hb5 hC5 x5 y5
  generalize q.at_ = W2 at *
  have HI := Lib.hid (inc_start x7)
  clear x7
  go_wp2_with fail
  go_loopw [15, 79] (fun _ k V => Inc W2 A2 L.length k V) (fun _ k _ => L.length - (intOf k).toNat)
  case atStart => exact HI.out
  case round =>
    obtain ⟨j, hj, rfl, hk, hcc⟩ := hrel
    by_cases hlt : j < L.length
    · obtain ⟨gg, zz, rfl, hcell, hfr, hnext⟩ := inc_read (hcc (by omega)) hk hlt
      have HN := Lib.hid hnext
      clear hnext hcc
      go_wp2_with fail
      go_roundw
      case rel => exact HN.out _
      case measure => simp [intOf]; omega
    · obtain rfl : j = L.length := by omega
      have hb7 := hk.on hb6 (fun i hi => by
        obtain ⟨ad, e, rfl⟩ := hi
        have := (HX.out ad e).1
        have := z0
        omega) hb6.size
      have y8 := y7.kept hk (fun ad e hi => by
        obtain ⟨ad', e', hbk⟩ := hi
        have h1 := (HX.out ad' e').2
        have h2 := HY.out ad e
        omega)
      have hC7 := whole_kept hk (fun hi => by
        obtain ⟨ad', e', hbk⟩ := hi
        have h1 := (HX.out ad' e').1
        omega) hC6
      clear HI hk hcc hb6 y7 hC6
      obtain ⟨a0, a1, a2, a3, af⟩ := hC7.four
      go_wp2_with fail
      refine (HE1.out _).mono ?_
      rintro e w8 hf
      obtain ⟨A8, c8, rfl, x8, _, _, _, k8⟩ := hf.opened
      have hb8 := hb7.trans (k8.mono hb7.size)
      have q1 := conv_src x8 c8
      have q2 := conv_src (y8.below k8) c3
      clear hf hb7 hC7 y8 x8 k8 a0 a1 a2 a3 af
      go_wp2
      go_ret
      exact ⟨rfl, hb8⟩

theorem forms_walk (r s m : Int) (g : Nat) (A0 : Option Addr) (n c0 : Nat) (l : List UInt8) (w : World) (hg : g < 65536) (hs : Src w A0 n l) (hc : n ≤ c0) (hz : A0 = none → c0 = 0) : Calls Try.prog 3 #[.agg #[.int .i64 r, .int .i64 s, .int .i64 m, .int .u16 (g : Int)], .slice A0 n c0] w fun e w' => e = .returned (.bool true) ∧ Below w.heap.size w w' := by
  by_cases h : 100 < n
  · exact forms_long r s m g A0 n c0 w h
  · exact forms_short r s m g A0 n c0 l w (by omega) hg hs hc hz

end Go.Proofs.Ytnpjldolppikfaa
