/- The C-state of bytes: how it is read, by contracts. -/
import Derived.Test.YtnpjldolppikfaaCSeen
import Derived.Test.YtnpjldolppikfaaVal
namespace Go.Proofs.Ytnpjldolppikfaa
open Go.RowKit

theorem getSt_lt (st : Option (List UInt8)) (k : Nat) : (getSt st (k : Int)).2 < 2 ^ (8 * k) := by
  have hp : 0 < 2 ^ (8 * k) := Nat.two_pow_pos _
  unfold getSt
  split
  · unfold takeSt
    cases st with
    | none => simpa [beVal] using hp
    | some l =>
      dsimp only
      split
      · refine Nat.lt_of_lt_of_le (beVal_lt _) (Nat.pow_le_pow_right (by decide) ?_)
        have := List.length_take_le (k : Int).toNat l
        simp at this ⊢
        omega
      · simpa [beVal] using hp
  · exact hp
theorem getSt_le (st : Option (List UInt8)) (n : Int) : ((getSt st n).1.getD []).length ≤ (st.getD []).length := by
  unfold getSt
  split
  · unfold takeSt
    cases st with
    | none => simp
    | some l =>
      dsimp only
      split
      · simp
      · simp
  · simp

theorem whole_kept {S : Nat → Prop} {w w' : World} {g : Nat} {t : TypeId} {cs : Array Value} (hk : Kept S w w') (hg : ¬ S g) (h : Whole w g t cs) : Whole w' g t cs := h.kept hk hg
theorem kept_then {S : Nat → Prop} {a b c : World} (k2 : Kept S b c) (k1 : Kept S a b) : Kept S a c := k1.trans k2 (fun _ _ h => h)

def Its (i : Nat) : Nat → Prop := fun k => k = i

set_option maxHeartbeats 1000000 in
theorem dec1_any (bi i k : Nat) (S : Nat → Prop) (st : Option (List UInt8)) (w : World) (h : InAt w S i st) (hl : (st.getD []).length ≤ 549755813888) (hb : Whole w bi 71 #[.pointer (some ⟨i, 0, none⟩)]) (m : Int) (hm : m = (k : Int)) (hk : k ≤ 4) :
    Calls Try.prog 38 #[.int .i64 m, .pointer (some ⟨bi, 0, none⟩)] w fun e w' => e = .returned (.int .i64 (((getSt st m).2 : Nat) : Int)) ∧ InAt w' S i (getSt st m).1 ∧ Kept (Its i) w w' := by
  have hv := getSt_lt st k
  have hp : 2 ^ (8 * k) ≤ 2 ^ 32 := Nat.pow_le_pow_right (by decide) (by omega)
  rw [← hm] at hv
  have HG := Lib.hid (get_any w S i st m h hl)
  generalize hgs : getSt st m = gs at *
  obtain ⟨st', v⟩ := gs
  dsimp only at *
  have hv2 : v < 4294967296 := by omega
  have c0 : w.cell? ⟨bi, 0, none⟩ = some (.pointer (some ⟨i, 0, none⟩)) := hb.cell 0
  clear h hl hb hv hp hm hgs hk
  go_enter Try.func38, Try.ntmps38
  go_wp2_with fail
  refine HG.out.mono ?_
  rintro e w1 ⟨rfl, h1, k1⟩
  go_wp2
  go_ret
  exact ⟨rfl, h1, k1⟩

/-- What is read, number by number. -/
def rd1 (l : List UInt8) := getSt (some l) 4
def rd2 (l : List UInt8) := getSt (rd1 l).1 1
def rd3 (l : List UInt8) := getSt (rd2 l).1 1
def rd4 (l : List UInt8) := getSt (rd3 l).1 2
theorem rd_bd (l : List UInt8) : (rd1 l).2 < 4294967296 ∧ (rd2 l).2 < 256 ∧ (rd3 l).2 < 256 ∧ (rd4 l).2 < 65536 :=
  ⟨getSt_lt _ 4, getSt_lt _ 1, getSt_lt _ 1, getSt_lt _ 2⟩

set_option maxHeartbeats 1000000 in
theorem read_any (bi i : Nat) (S : Nat → Prop) (l : List UInt8) (w : World) (h : InAt w S i (some l)) (hl : l.length ≤ 549755813888) (hb : Whole w bi 71 #[.pointer (some ⟨i, 0, none⟩)]) (hne : bi ≠ i) :
    Calls Try.prog 37 #[.func (.func 38) #[] #[.pointer (some ⟨bi, 0, none⟩)]] w fun e w' =>
      e = .returned (.agg #[.int .i64 (((rd1 l).2 : Nat) : Int), .int .i64 (((rd2 l).2 : Nat) : Int), .int .i64 (((rd3 l).2 : Nat) : Int), .int .u16 (((rd4 l).2 : Nat) : Int)]) ∧ InAt w' S i (rd4 l).1 ∧ Kept (Its i) w w' := by
  obtain ⟨b1, b2, b3, b4⟩ := rd_bd l
  have hi : i < w.heap.size := h.lt _ h.own
  have hS : ∀ k, S k → ¬ One w.heap.size k := fun k hk e => by
    have := h.lt k hk
    simp [One] at e
    omega
  have hbne : bi ≠ w.heap.size := by have := hb.lt; omega
  have hine : ¬ Its i w.heap.size := by simp [Its]; omega
  have D1 := fun W h hb => dec1_any bi i 4 S (some l) W h hl hb 4 rfl (by decide)
  have l1 : ((rd1 l).1.getD []).length ≤ 549755813888 := Nat.le_trans (getSt_le _ _) hl
  have l2 : ((rd2 l).1.getD []).length ≤ 549755813888 := Nat.le_trans (getSt_le _ _) l1
  have l3 : ((rd3 l).1.getD []).length ≤ 549755813888 := Nat.le_trans (getSt_le _ _) l2
  have D2 := fun W h hb => dec1_any bi i 1 S (rd1 l).1 W h l1 hb 1 rfl (by decide)
  have D3 := fun W h hb => dec1_any bi i 1 S (rd2 l).1 W h l2 hb 1 rfl (by decide)
  have D4 := fun W h hb => dec1_any bi i 2 S (rd3 l).1 W h l3 hb 2 rfl (by decide)
  change ∀ W, _ → _ → Calls _ _ _ W (fun e w' => e = .returned (.int .i64 (((rd1 l).2 : Nat) : Int)) ∧ InAt w' S i (rd1 l).1 ∧ Kept (Its i) W w') at D1
  change ∀ W, _ → _ → Calls _ _ _ W (fun e w' => e = .returned (.int .i64 (((rd2 l).2 : Nat) : Int)) ∧ InAt w' S i (rd2 l).1 ∧ Kept (Its i) W w') at D2
  change ∀ W, _ → _ → Calls _ _ _ W (fun e w' => e = .returned (.int .i64 (((rd3 l).2 : Nat) : Int)) ∧ InAt w' S i (rd3 l).1 ∧ Kept (Its i) W w') at D3
  change ∀ W, _ → _ → Calls _ _ _ W (fun e w' => e = .returned (.int .i64 (((rd4 l).2 : Nat) : Int)) ∧ InAt w' S i (rd4 l).1 ∧ Kept (Its i) W w') at D4
  generalize (rd1 l).2 = v1 at *
  generalize (rd2 l).2 = v2 at *
  generalize (rd3 l).2 = v3 at *
  generalize (rd4 l).2 = v4 at *
  generalize (rd1 l).1 = s1 at *
  generalize (rd2 l).1 = s2 at *
  generalize (rd3 l).1 = s3 at *
  generalize (rd4 l).1 = s4 at *
  have H1 := Lib.hid D1
  have H2 := Lib.hid D2
  have H3 := Lib.hid D3
  have H4 := Lib.hid D4
  have k0 : Kept (Its i) w (w.alloc (.cells #[.int .i64 0, .int .i64 0, .int .i64 0, .int .u16 0] 25)) := (Kept.refl _ _).alloc _
  have i0 := h.keep ((Kept.refl Empty w).alloc (.cells #[.int .i64 0, .int .i64 0, .int .i64 0, .int .u16 0] 25)) (fun _ _ h => h)
  have hb0 := hb.alloc (.cells #[.int .i64 0, .int .i64 0, .int .i64 0, .int .u16 0] 25)
  have c0 := Whole.new w 25 #[.int .i64 0, .int .i64 0, .int .i64 0, .int .u16 0]
  have hbl := hb.lt
  clear D1 D2 D3 D4 l1 l2 l3 h hl hb
  go_enter Try.func37, Try.ntmps37
  go_wp2_with fail
  refine (H1.out _ i0 hb0).mono ?_
  rintro e w1 ⟨rfl, i1, k1⟩
  have hb1 := hb0.kept k1 hne
  have c1 := c0.kept k1 hine
  have kk1 := k0.trans k1 (fun _ _ h => h)
  obtain ⟨d0, d1, d2, d3, df⟩ := c1.four
  clear i0 hb0 c0 k0 k1
  go_wp2_with fail
  refine (H2.out _ (i1.keep ((Kept.refl (One w.heap.size) w1).setCell (p := ⟨w.heap.size, 0, none⟩) (.inl rfl) _) hS) (hb1.far hbne _)).mono ?_
  rintro e w2 ⟨rfl, i2, k2⟩
  have hb2 := whole_kept k2 hne (hb1.far hbne _)
  have c2 := whole_kept k2 hine (c1.set _ _)
  have kk2 := kept_then k2 (kk1.setCell (p := ⟨w.heap.size, _, none⟩) (.inr (Nat.le_refl _)) _)
  clear d0 d1 d2 d3 df i1 hb1 c1 kk1 k2
  obtain ⟨d0, d1, d2, d3, df⟩ := c2.four
  go_wp2_with fail
  refine (H3.out _ (i2.keep ((Kept.refl (One w.heap.size) w2).setCell (p := ⟨w.heap.size, 1, none⟩) (.inl rfl) _) hS) (hb2.far hbne _)).mono ?_
  rintro e w3 ⟨rfl, i3, k3⟩
  have hb3 := whole_kept k3 hne (hb2.far hbne _)
  have c3 := whole_kept k3 hine (c2.set _ _)
  have kk3 := kept_then k3 (kk2.setCell (p := ⟨w.heap.size, _, none⟩) (.inr (Nat.le_refl _)) _)
  clear d0 d1 d2 d3 df i2 hb2 c2 kk2 k3
  obtain ⟨d0, d1, d2, d3, df⟩ := c3.four
  go_wp2_with fail
  refine (H4.out _ (i3.keep ((Kept.refl (One w.heap.size) w3).setCell (p := ⟨w.heap.size, 2, none⟩) (.inl rfl) _) hS) (hb3.far hbne _)).mono ?_
  rintro e w4 ⟨rfl, i4, k4⟩
  have hb4 := whole_kept k4 hne (hb3.far hbne _)
  have c4 := whole_kept k4 hine (c3.set _ _)
  have kk4 := kept_then k4 (kk3.setCell (p := ⟨w.heap.size, _, none⟩) (.inr (Nat.le_refl _)) _)
  clear d0 d1 d2 d3 df i3 hb3 c3 kk3 k4
  obtain ⟨d0, d1, d2, d3, df⟩ := c4.four
  go_wp2
  refine bodyPost_ret (v := .agg #[.int .i64 (v1 : Int), .int .i64 (v2 : Int), .int .i64 (v3 : Int), .int .u16 (v4 : Int)]) (by simp [results, Try.results37, go_sem, d0, d1, d2, d3]) rfl ⟨rfl, ?_, ?_⟩
  · exact i4.keep ((((((Kept.refl (One w.heap.size) w4).setCell (p := ⟨w.heap.size, 3, none⟩) (.inl rfl) _).setCell (p := ⟨w.heap.size, 0, none⟩) (.inl rfl) _).setCell (p := ⟨w.heap.size, 1, none⟩) (.inl rfl) _).setCell (p := ⟨w.heap.size, 2, none⟩) (.inl rfl) _).setCell (p := ⟨w.heap.size, 3, none⟩) (.inl rfl) _) hS
  · exact (((((kk4.setCell (p := ⟨w.heap.size, 3, none⟩) (.inr (Nat.le_refl _)) _).setCell (p := ⟨w.heap.size, 0, none⟩) (.inr (Nat.le_refl _)) _).setCell (p := ⟨w.heap.size, 1, none⟩) (.inr (Nat.le_refl _)) _).setCell (p := ⟨w.heap.size, 2, none⟩) (.inr (Nat.le_refl _)) _).setCell (p := ⟨w.heap.size, 3, none⟩) (.inr (Nat.le_refl _)) _)

end Go.Proofs.Ytnpjldolppikfaa
