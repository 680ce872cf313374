/- A frame's fates, by channels: the walk. No condition. -/
import Derived.Test.YtmplidgafdobkaaURes
import Derived.Deep.DeepCutAuto
import Derived.Deep.RegionHeld3
namespace Go.Proofs.Ytmplidgafdobkaa
open Go.RowKit Go.Shelf

/-- What has been told of the first c channels. -/
def SprI (p : Pl) (told : List Fa) (f : Int) (N : Nat) (w : World) (c : Nat) (V : Nat → Value) (wr : World) : Prop :=
  Below w.heap.size w wr ∧ Whole wr w.heap.size 76 #[V 0, V 1] ∧ ∀ j, j < c → ∃ g, V j = .slice (some ⟨g, 0, none⟩) N N ∧ w.heap.size < g ∧ FaRow wr g (spreadL p told f j)
theorem SprI.cell {p : Pl} {told : List Fa} {f : Int} {N : Nat} {w : World} {c : Nat} {V : Nat → Value} {wr : World} (h : SprI p told f N w c V wr) (j : Nat) (hj : j < 2) : wr.cell? ⟨w.heap.size, j, none⟩ = some (V j) := by
  have : j = 0 ∨ j = 1 := by omega
  rcases this with rfl | rfl
  · exact h.2.1.cell 0
  · exact h.2.1.cell 1
/-- A new row for channel c. -/
theorem SprI.make {p : Pl} {told : List Fa} {f : Int} {N : Nat} {w : World} {c : Nat} {V : Nat → Value} {wr : World} (h : SprI p told f N w c V wr) (hc : c < 2) (xs : List Fa) :
    SprI p told f N w c (fun j => if j = c then .slice (some ⟨wr.heap.size, 0, none⟩) N N else V j) ((wr.setCell ⟨w.heap.size, c, none⟩ (.slice (some ⟨wr.heap.size, 0, none⟩) N N)).alloc (.cells (xs.flatMap faC).toArray 47)) ∧
    FaRow ((wr.setCell ⟨w.heap.size, c, none⟩ (.slice (some ⟨wr.heap.size, 0, none⟩) N N)).alloc (.cells (xs.flatMap faC).toArray 47)) wr.heap.size xs := by
  obtain ⟨hb, hW, hj⟩ := h
  have hlt := hW.lt
  have hz : (wr.setCell ⟨w.heap.size, c, none⟩ (.slice (some ⟨wr.heap.size, 0, none⟩) N N)).heap.size = wr.heap.size := by simp [World.setCell]
  refine ⟨⟨(hb.setCell (p := ⟨w.heap.size, c, none⟩) (Nat.le_refl _) _).alloc (by rw [hz]; exact hb.size) _, ?_, fun j hjc => ?_⟩, ?_⟩
  · have := (hW.set c (.slice (some ⟨wr.heap.size, 0, none⟩) N N)).alloc (.cells (xs.flatMap faC).toArray 47)
    have hcc : c = 0 ∨ c = 1 := by omega
    rcases hcc with rfl | rfl
    · simpa using this
    · simpa using this
  · obtain ⟨g, e1, e2, e3⟩ := hj j hjc
    refine ⟨g, by dsimp only; rw [if_neg (by omega)]; exact e1, e2, ?_⟩
    exact (Whole.far e3 (by simp; omega) _).alloc _
  · have := Whole.new (wr.setCell ⟨w.heap.size, c, none⟩ (.slice (some ⟨wr.heap.size, 0, none⟩) N N)) 47 (xs.flatMap faC).toArray
    rw [hz] at this
    exact this
/-- The row is told. -/
theorem SprI.next {p : Pl} {told : List Fa} {f : Int} {N : Nat} {w : World} {c G : Nat} {V : Nat → Value} {w2 wr : World} (h : SprI p told f N w c V w2) (hk : Kept (fun i => i = G) w2 wr) (hG : w.heap.size < G) (hV : V c = .slice (some ⟨G, 0, none⟩) N N)
    (hne : ∀ j g, j < c → V j = .slice (some ⟨g, 0, none⟩) N N → g ≠ G) (hr : FaRow wr G (spreadL p told f c)) : SprI p told f N w (c + 1) V wr := by
  obtain ⟨hb, hW, hj⟩ := h
  have hz := hb.size
  refine ⟨below_on hb hk (fun i e => by have e : i = G := e; omega) hz, hW.kept hk (by show ¬ w.heap.size = G; omega), fun j hjc => ?_⟩
  by_cases e : j = c
  · subst e
    exact ⟨G, hV, hG, hr⟩
  · obtain ⟨g, e1, e2, e3⟩ := hj j (by omega)
    exact ⟨g, e1, e2, Whole.kept e3 hk (hne j g (by omega) e1)⟩

theorem fate_in {p : Pl} {told : List Fa} {f : Int} {c n q : Nat} {x : Fa} (hq : c * p.nodes.toNat + n = q) (hl : q < told.length) (hx : x = told.getD q default) : fateL p told f c n = ⟨x.d, x.lost || decide ((n : Int) = f), x.cut⟩ := by
  unfold fateL
  rw [hq, hx, List.getD_eq_getElem?_getD, List.getD_eq_getElem?_getD, List.getElem?_eq_getElem hl]
  rfl
theorem fate_out {p : Pl} {told : List Fa} {f : Int} {c n q : Nat} (hq : c * p.nodes.toNat + n = q) (hl : told.length ≤ q) : fateL p told f c n = ⟨p.dmin, decide ((n : Int) = f), false⟩ := by
  unfold fateL
  rw [hq, List.getD_eq_getElem?_getD, List.getElem?_eq_none hl]
  simp

set_option maxRecDepth 100000 in
set_option maxHeartbeats 4000000 in
theorem spread_any (p : Pl) (hp : PlanU p) (l : Nat) (v : Value) (last opens f : Int) (s : Sl) (told : List Fa) (w : World) (hl : Whole w l 72 (lgC p v last opens)) (h : RSrc faC 3 w s told) (hm : s.n ≤ 1000000) :
    Calls Try.prog 32 #[.pointer (some ⟨l, 0, none⟩), .int .i64 f, s.v] w fun e w' => ∃ V : Nat → Value, e = .returned (.agg #[V 0, V 1]) ∧ SprI p told f p.nodes.toNat w 2 V w' := by
  obtain ⟨N, hN⟩ := Int.eq_ofNat_of_zero_le (a := p.nodes) (by have := hp.n1; omega)
  have n1 := hp.n1
  have n2 := hp.n2
  rw [hN] at n1 n2
  rw [hN, Int.toNat_natCast]
  have hNt : p.nodes.toNat = N := by rw [hN, Int.toNat_natCast]
  have hlen := h.len
  have HP := Lib.hid (And.intro hp (And.intro hl (And.intro h (And.intro hN (And.intro hNt hlen)))))
  have hmk := make_fa N (by omega) (by omega)
  have HMK := Lib.hid hmk
  have hlt := hl.lt
  obtain ⟨A, n, c⟩ := s
  unfold Sl.v
  dsimp only at *
  have h0 : SprI p told f N w 0 (fun _ => .slice none 0 0) (w.alloc (.cells #[.slice none 0 0, .slice none 0 0] 76)) := ⟨(Below.refl _ _).alloc (Nat.le_refl _) _, Whole.new _ _ _, fun j hj => absurd hj (by omega)⟩
  have H0 := Lib.hid h0
  clear hp hl h hN hNt hlen h0 hmk
  go_enter Try.func32, Try.ntmps32
  go_upto_region 2 with fail
  go_loopw [11] (fun iv wr => ∃ (k : Nat) (V : Nat → Value), k ≤ 2 ∧ iv = .int .i64 (k : Int) ∧ SprI p told f N w k V wr) (fun iv _ => 2 - (intOf iv).toNat)
  case atStart => exact ⟨0, _, by omega, rfl, H0.out⟩
  case round =>
    obtain ⟨w1, rfl⟩ : ∃ x, x = wr := ⟨_, rfl⟩
    obtain ⟨k, V, hk, rfl, hI⟩ := hrel
    by_cases hlt2 : k < 2
    · have hG := hI.make hlt2 (rowTo p told f k N 0)
      rw [rowTo_zero] at hG
      have hmk2 := HMK.out w1
      have cB := hI.cell k hlt2
      have fB := hI.2.1.frozen k
      have hsz := hI.2.1.lt
      obtain ⟨⟨c0, _, _, c6, _⟩, _⟩ := log_cells (k_later hI.1 HP.out.2.1)
      rw [HP.out.2.2.2.1] at c0
      have e1 : (0 : Int) ≤ (k : Int) := by omega
      have e2 : (k : Int) < 2 := by omega
      have HG := Lib.hid hG
      have HI := Lib.hid hI
      clear hG hI
      have hsz2 : w.heap.size < w1.heap.size := hsz
      go_upto_region 5 with fail
      clear hmk2 cB fB c0 c6
      obtain ⟨w2, hw2⟩ : ∃ w2, w2 = ((w1.setCell ⟨w.heap.size, k, none⟩ (.slice (some ⟨w1.heap.size, 0, none⟩) N N)).alloc (.cells ((List.replicate N (default : Fa)).flatMap faC).toArray 47)) := ⟨_, rfl⟩
      rw [← hw2] at HG ⊢
      have cB : w2.cell? ⟨w.heap.size, k, none⟩ = some (.slice (some ⟨w1.heap.size, 0, none⟩) N N) := by rw [HG.out.1.cell k hlt2, if_pos rfl]
      obtain ⟨Q, hQ⟩ : ∃ Q : Nat, (k : Int) * (N : Int) = (Q : Int) := ⟨k * N, by rw [Int.natCast_mul]⟩
      have hQ2 : k * N = Q := by rw [← Int.natCast_mul] at hQ; omega
      have hQ3 : Q ≤ 16 := by
        have : k = 0 ∨ k = 1 := by omega
        rcases this with rfl | rfl
        · rw [← hQ2]; omega
        · rw [← hQ2]; omega
      have HQ := Lib.hid hQ2
      have HW2 := Lib.hid hw2
      have hlw : l < w.heap.size := hlt
      clear hw2 hQ2 hsz
      go_upto_region 6 with fail
      clear cB
      go_loopw [26] (fun iv wi => ∃ j : Nat, j ≤ N ∧ iv = .int .i64 (j : Int) ∧ Kept (fun i => i = w1.heap.size) w2 wi ∧ FaRow wi w1.heap.size (rowTo p told f k N j)) (fun iv _ => N - (intOf iv).toNat)
      case atStart => exact ⟨0, by omega, rfl, Kept.refl _ _, by rw [rowTo_zero]; exact HG.out.2⟩
      case round =>
        obtain ⟨j, hj, rfl, hK, hR⟩ := hrel
        by_cases hlt3 : j < N
        · have hbw := below_on HG.out.1.1 hK (fun i e => by have e : i = w1.heap.size := e; omega) HG.out.1.1.size
          obtain ⟨⟨c0, _, _, c6, _⟩, _⟩ := log_cells (k_later hbw HP.out.2.1)
          rw [HP.out.2.2.2.1] at c0
          have hBk := (show Whole w2 w.heap.size 76 _ from HG.out.1.2.1).kept hK (by show ¬ w.heap.size = w1.heap.size; omega)
          have bx := hbw.size
          have bl := World.block_lt_of_cell? _ _ c0
          have bB := hBk.lt
          have HBK := Lib.hid hBk
          have HK := Lib.hid hK
          have HR := Lib.hid hR
          have HBW := Lib.hid hbw
          clear hK hR hbw hBk
          by_cases hin : Q + j < n
          · obtain ⟨g, o, hA0, hA2⟩ := (HP.out.2.2.1.later HBW.out).get (i := Q + j) hin
            dsimp only at hA0
            subst hA0
            obtain ⟨x, hx⟩ : ∃ x, x = told.getD (Q + j) default := ⟨_, rfl⟩
            rw [← hx] at hA2
            obtain ⟨a0, a1, a2⟩ := faC_cells hA2
            have bg := World.block_lt_of_cell? _ _ a0
            have e3 : (0 : Int) ≤ (j : Int) := by omega
            have e4 : (j : Int) < (N : Int) := by omega
            have e5 : (0 : Int) ≤ (Q : Int) + (j : Int) := by omega
            have e6 : (Q : Int) + (j : Int) < (n : Int) := by omega
            have hf := fate_in (p := p) (told := told) (f := f) (c := k) (n := j) (q := Q + j) (x := x) (by rw [HP.out.2.2.2.2.1, HQ.out]) (by have := HP.out.2.2.2.2.2; omega) hx
            have HX := Lib.hid hf
            obtain ⟨d, lo, cu⟩ := x
            dsimp only at a0 a1 a2
            clear hA2 hx hf
            cases lo
            · go_upto_region 13 with fail
              obtain ⟨b, hb⟩ : ∃ b : Bool, b = ((j : Int) == f) := ⟨_, rfl⟩
              rw [← hb]
              have HF := Lib.hid (show fateL p told f k j = ⟨d, b, cu⟩ from by rw [HX.out, hb, Bool.false_or]; rfl)
              clear hb a0 a1 a2
              obtain ⟨w4, hw4⟩ : ∃ w4, w4 = wr.alloc (.cells #[.int .i64 (d), .bool (b), .bool (cu)] 47) := ⟨_, rfl⟩
              rw [← hw4]
              have hF4 : Whole w4 wr.heap.size 47 #[.int .i64 (d), .bool (b), .bool (cu)] := hw4 ▸ Whole.new _ _ _
              have hB4 := HBK.out.alloc (.cells #[.int .i64 (d), .bool (b), .bool (cu)] 47)
              rw [← hw4] at hB4
              have hR4 : FaRow w4 w1.heap.size (rowTo p told f k N j) := hw4 ▸ Whole.alloc HR.out _
              have hK4 : Kept (fun i => i = w1.heap.size) w2 w4 := hw4 ▸ HK.out.alloc _
              obtain ⟨w5, hw5⟩ : ∃ w5, w5 = w4.drew := ⟨_, rfl⟩
              have hR5 : FaRow w5 w1.heap.size (rowTo p told f k N j) := hw5 ▸ hR4
              have hK5 : Kept (fun i => i = w1.heap.size) w2 w5 := hw5 ▸ hK4.drew
              obtain ⟨r0, r1, r2⟩ := FaRow.cells hR5 j (by rw [rowTo_length]; exact hlt3)
              have rf := fun i => Whole.frozen hR5 i
              have f0 := hF4.cell 0
              have f1 := hF4.cell 1
              have f2 := hF4.cell 2
              have cb : w4.cell? ⟨w.heap.size, k, none⟩ = some (.slice (some ⟨w1.heap.size, 0, none⟩) N N) := by
                have hk01 : k = 0 ∨ k = 1 := by omega
                rcases hk01 with rfl | rfl
                · rw [hB4.cell 0]; rfl
                · rw [hB4.cell 1]; rfl
              simp at f0 f1 f2
              have HR5 := Lib.hid hR5
              have HK5 := Lib.hid hK5
              have HW5 := Lib.hid hw5
              clear hw4 hF4 hB4 hR4 hK4 hw5 hR5 hK5 bx bB bl c0 c6
              have e7 : (0 : Int) ≤ (j : Int) := by omega
              have e8 : (j : Int) < (N : Int) := by omega
              go_still_tail 6, (by kernel_rfl)
              change wpList _ _ _ _ _ w4.drew
              rw [← HW5.out]
              clear f0 f1 f2 cb
              go_wp2
              go_roundw
              case rel =>
                refine ⟨j + 1, by omega, by go_num, ?_, ?_⟩
                · exact ((HK5.out.setCell (p := ⟨w1.heap.size, _, none⟩) (.inl rfl) _).setCell (p := ⟨w1.heap.size, _, none⟩) (.inl rfl) _).setCell (p := ⟨w1.heap.size, _, none⟩) (.inl rfl) _
                · have := HR5.out.store j (by rw [rowTo_length]; exact hlt3) (d) (b) (cu)
                  rw [← HF.out, rowTo_set] at this
                  exact this
              case measure => simp [intOf]; omega
            · go_upto_region 13 with fail
              have HF := Lib.hid (show fateL p told f k j = ⟨d, true, cu⟩ from by rw [HX.out, Bool.true_or])
              clear a0 a1 a2
              obtain ⟨w4, hw4⟩ : ∃ w4, w4 = wr.alloc (.cells #[.int .i64 (d), .bool (true), .bool (cu)] 47) := ⟨_, rfl⟩
              rw [← hw4]
              have hF4 : Whole w4 wr.heap.size 47 #[.int .i64 (d), .bool (true), .bool (cu)] := hw4 ▸ Whole.new _ _ _
              have hB4 := HBK.out.alloc (.cells #[.int .i64 (d), .bool (true), .bool (cu)] 47)
              rw [← hw4] at hB4
              have hR4 : FaRow w4 w1.heap.size (rowTo p told f k N j) := hw4 ▸ Whole.alloc HR.out _
              have hK4 : Kept (fun i => i = w1.heap.size) w2 w4 := hw4 ▸ HK.out.alloc _
              obtain ⟨w5, hw5⟩ : ∃ w5, w5 = w4.drew := ⟨_, rfl⟩
              have hR5 : FaRow w5 w1.heap.size (rowTo p told f k N j) := hw5 ▸ hR4
              have hK5 : Kept (fun i => i = w1.heap.size) w2 w5 := hw5 ▸ hK4.drew
              obtain ⟨r0, r1, r2⟩ := FaRow.cells hR5 j (by rw [rowTo_length]; exact hlt3)
              have rf := fun i => Whole.frozen hR5 i
              have f0 := hF4.cell 0
              have f1 := hF4.cell 1
              have f2 := hF4.cell 2
              have cb : w4.cell? ⟨w.heap.size, k, none⟩ = some (.slice (some ⟨w1.heap.size, 0, none⟩) N N) := by
                have hk01 : k = 0 ∨ k = 1 := by omega
                rcases hk01 with rfl | rfl
                · rw [hB4.cell 0]; rfl
                · rw [hB4.cell 1]; rfl
              simp at f0 f1 f2
              have HR5 := Lib.hid hR5
              have HK5 := Lib.hid hK5
              have HW5 := Lib.hid hw5
              clear hw4 hF4 hB4 hR4 hK4 hw5 hR5 hK5 bx bB bl c0 c6
              have e7 : (0 : Int) ≤ (j : Int) := by omega
              have e8 : (j : Int) < (N : Int) := by omega
              go_still_tail 6, (by kernel_rfl)
              change wpList _ _ _ _ _ w4.drew
              rw [← HW5.out]
              clear f0 f1 f2 cb
              go_wp2
              go_roundw
              case rel =>
                refine ⟨j + 1, by omega, by go_num, ?_, ?_⟩
                · exact ((HK5.out.setCell (p := ⟨w1.heap.size, _, none⟩) (.inl rfl) _).setCell (p := ⟨w1.heap.size, _, none⟩) (.inl rfl) _).setCell (p := ⟨w1.heap.size, _, none⟩) (.inl rfl) _
                · have := HR5.out.store j (by rw [rowTo_length]; exact hlt3) (d) (true) (cu)
                  rw [← HF.out, rowTo_set] at this
                  exact this
              case measure => simp [intOf]; omega
          · have e6 : (n : Int) ≤ (Q : Int) + (j : Int) := by omega
            have hf := fate_out (p := p) (told := told) (f := f) (c := k) (n := j) (q := Q + j) (by rw [HP.out.2.2.2.2.1, HQ.out]) (by have := HP.out.2.2.2.2.2; omega)
            have HX := Lib.hid hf
            clear hf
            go_upto_region 13 with fail
            obtain ⟨b, hb⟩ : ∃ b : Bool, b = ((j : Int) == f) := ⟨_, rfl⟩
            rw [← hb]
            have HF := Lib.hid (show fateL p told f k j = ⟨p.dmin, b, false⟩ from by rw [HX.out, hb]; rfl)
            clear hb
            obtain ⟨w4, hw4⟩ : ∃ w4, w4 = wr.alloc (.cells #[.int .i64 (p.dmin), .bool (b), .bool (false)] 47) := ⟨_, rfl⟩
            rw [← hw4]
            have hF4 : Whole w4 wr.heap.size 47 #[.int .i64 (p.dmin), .bool (b), .bool (false)] := hw4 ▸ Whole.new _ _ _
            have hB4 := HBK.out.alloc (.cells #[.int .i64 (p.dmin), .bool (b), .bool (false)] 47)
            rw [← hw4] at hB4
            have hR4 : FaRow w4 w1.heap.size (rowTo p told f k N j) := hw4 ▸ Whole.alloc HR.out _
            have hK4 : Kept (fun i => i = w1.heap.size) w2 w4 := hw4 ▸ HK.out.alloc _
            obtain ⟨w5, hw5⟩ : ∃ w5, w5 = w4.drew := ⟨_, rfl⟩
            have hR5 : FaRow w5 w1.heap.size (rowTo p told f k N j) := hw5 ▸ hR4
            have hK5 : Kept (fun i => i = w1.heap.size) w2 w5 := hw5 ▸ hK4.drew
            obtain ⟨r0, r1, r2⟩ := FaRow.cells hR5 j (by rw [rowTo_length]; exact hlt3)
            have rf := fun i => Whole.frozen hR5 i
            have f0 := hF4.cell 0
            have f1 := hF4.cell 1
            have f2 := hF4.cell 2
            have cb : w4.cell? ⟨w.heap.size, k, none⟩ = some (.slice (some ⟨w1.heap.size, 0, none⟩) N N) := by
              have hk01 : k = 0 ∨ k = 1 := by omega
              rcases hk01 with rfl | rfl
              · rw [hB4.cell 0]; rfl
              · rw [hB4.cell 1]; rfl
            simp at f0 f1 f2
            have HR5 := Lib.hid hR5
            have HK5 := Lib.hid hK5
            have HW5 := Lib.hid hw5
            clear hw4 hF4 hB4 hR4 hK4 hw5 hR5 hK5 bx bB bl c0 c6
            have e7 : (0 : Int) ≤ (j : Int) := by omega
            have e8 : (j : Int) < (N : Int) := by omega
            go_still_tail 6, (by kernel_rfl)
            change wpList _ _ _ _ _ w4.drew
            rw [← HW5.out]
            clear f0 f1 f2 cb
            go_wp2
            go_roundw
            case rel =>
              refine ⟨j + 1, by omega, by go_num, ?_, ?_⟩
              · exact ((HK5.out.setCell (p := ⟨w1.heap.size, _, none⟩) (.inl rfl) _).setCell (p := ⟨w1.heap.size, _, none⟩) (.inl rfl) _).setCell (p := ⟨w1.heap.size, _, none⟩) (.inl rfl) _
              · have := HR5.out.store j (by rw [rowTo_length]; exact hlt3) (p.dmin) (b) (false)
                rw [← HF.out, rowTo_set] at this
                exact this
            case measure => simp [intOf]; omega
        · obtain rfl : j = N := by omega
          have hN := HG.out.1.next hK hsz2 (by rw [if_pos rfl]) (fun i g hi e => by
            obtain ⟨g', e1, _, e3⟩ := HI.out.2.2 i hi
            rw [if_neg (by omega)] at e
            rw [e1] at e
            simp at e
            have := Whole.lt e3
            omega) (by rw [← rowTo_all p told f k j HP.out.2.2.2.2.1]; exact hR)
          have HN := Lib.hid hN
          clear hN hK hR
          go_wp2
          go_roundw
          case rel => exact ⟨k + 1, _, by omega, by go_num, HN.out⟩
          case measure => simp [intOf]; omega
    · obtain rfl : k = 2 := by omega
      have hb := hI.2.1
      have c0 := hb.cell 0
      have c1 := hb.cell 1
      simp at c0 c1
      have fz := hb.frozen
      have hfin : SprI p told f N w 2 V ((w1.setCell ⟨w.heap.size, 0, none⟩ (V 0)).setCell ⟨w.heap.size, 1, none⟩ (V 1)) := by
        refine ⟨(hI.1.setCell (p := ⟨w.heap.size, 0, none⟩) (Nat.le_refl _) _).setCell (p := ⟨w.heap.size, 1, none⟩) (Nat.le_refl _) _, ?_, fun j hj => ?_⟩
        · have := (hb.set 0 (V 0)).set 1 (V 1)
          simpa using this
        · obtain ⟨g, e1, e2, e3⟩ := hI.2.2 j hj
          exact ⟨g, e1, e2, (Whole.far e3 (by simp; omega) _).far (by simp; omega) _⟩
      have HF := Lib.hid hfin
      obtain ⟨g0, q0, _⟩ := hI.2.2 0 (by omega)
      obtain ⟨g1, q1, _⟩ := hI.2.2 1 (by omega)
      rw [q0] at c0
      rw [q1] at c1
      have HW : Whole ((w1.setCell ⟨w.heap.size, 0, none⟩ (V 0)).setCell ⟨w.heap.size, 1, none⟩ (V 1)) w.heap.size 76 #[V 0, V 1] := hfin.2.1
      rw [q0, q1] at HF HW
      have HWW := Lib.hid HW
      have HQ := Lib.hid (And.intro q0 q1)
      clear hI hb hfin HW q0 q1
      go_wp2
      refine bodyPost_ret (v := .agg #[V 0, V 1]) (by rw [HQ.out.1, HQ.out.2]; exact u_results0 rfl _ _ _ 76 _ (0, 0) _ rfl HWW.out Try.underlying76 rfl (by kernel_rfl)) rfl ⟨V, rfl, HF.out⟩
end Go.Proofs.Ytmplidgafdobkaa
