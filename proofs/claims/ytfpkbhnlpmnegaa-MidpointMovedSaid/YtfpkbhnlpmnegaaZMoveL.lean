/- MidpointMoved, its walk. No condition. -/
import Derived.Test.YtfpkbhnlpmnegaaZMoveD
import Derived.Test.YtfpkbhnlpmnegaaZOpen
namespace Go.Proofs.Ytfpkbhnlpmnegaa
open Go.RowKit Go.Shelf

/-- By how much value i is moved. -/
def byI (ml : List Int) (d : Int) (i : Nat) : Int := if i < ml.length then max (-d) (min (ml.getD i 0) d) else 0
theorem byI_ok (ml : List Int) {d : Int} (hd : 0 ≤ d) (i : Nat) : -d ≤ byI ml d i ∧ byI ml d i ≤ d := by
  unfold byI
  split <;> omega
theorem shC_cells {w : World} {g o : Nat} {x : Int} (h : w.rangeAt g o (shC x)) : w.cell? ⟨g, o, none⟩ = some (.int .i16 x) := h 0 _ rfl

set_option maxRecDepth 100000 in
set_option maxHeartbeats 16000000 in
theorem midpointMoved_walk (s t : Sl) (l ml : List Int) (kk d : Nat) (w : World) (h : RSrc inC 1 w s l) (ht : RSrc shC 1 w t ml) (hsh : ∀ x ∈ ml, shOk x) (hk : kk < 256) (hd : d < 65536) : Calls Try.prog 6 #[s.v, t.v, .int .u8 (kk : Int), .int .u16 (d : Int)] w fun e w' => e = .returned (.bool true) ∧ Below w.heap.size w w' := by
  have HA := Lib.hid (fun W => alive_any W)
  have hl := h.len
  have htl := ht.len
  have hmx := Nat.le_trans h.cap h.max
  have htmx := Nat.le_trans ht.cap ht.max
  have H := Lib.hid (And.intro h ht)
  have HL := Lib.hid (And.intro hl (And.intro htl hsh))
  obtain ⟨A, n, c⟩ := s
  obtain ⟨B, mn, mc⟩ := t
  unfold Sl.v
  dsimp only at *
  clear h ht hsh
  by_cases hgo : 1 ≤ n ∧ n ≤ 30
  · obtain ⟨g1, g2⟩ := hgo
    obtain ⟨q, hq⟩ : ∃ q, q = (n - 1) / 2 := ⟨_, rfl⟩
    obtain ⟨m, hm⟩ : ∃ m, m = kk % (q + 1) := ⟨_, rfl⟩
    have hmq : m ≤ q := by rw [hm]; have := Nat.mod_lt kk (show 0 < q + 1 by omega); omega
    have g3 : 2 * m + 1 ≤ n := by omega
    have r0 : ((n : Int) == 0) = false := beq_eq_false_iff_ne.2 (by omega)
    have r1 : ¬ ((30 : Int) < (n : Int)) := by omega
    have s0 : IntKind.i64.wrap (kk : Int) = (kk : Int) := IntWalk.i64_in _ (by omega)
    have s1 : IntKind.i64.wrap ((n : Int) - 1) = (n : Int) - 1 := IntWalk.i64_in _ (by omega)
    have s2 : ((n : Int) - 1).tdiv 2 = (q : Int) := by rw [Int.tdiv_eq_ediv_of_nonneg (by omega)]; omega
    have s3 : IntKind.i64.wrap (q : Int) = (q : Int) := IntWalk.i64_in _ (by omega)
    have s4 : IntKind.i64.wrap ((q : Int) + 1) = (q : Int) + 1 := IntWalk.i64_in _ (by omega)
    have s5 : (kk : Int).tmod ((q : Int) + 1) = (m : Int) := by
      rw [Int.tmod_eq_emod_of_nonneg (by omega), hm, show (q : Int) + 1 = ((q + 1 : Nat) : Int) by omega]
      exact (Int.natCast_emod kk (q + 1)).symm
    have s6 : IntKind.i64.wrap (m : Int) = (m : Int) := IntWalk.i64_in _ (by omega)
    have s7 : ¬ ((q : Int) + 1 = 0) := by omega
    have s8 : IntKind.i64.wrap (d : Int) = (d : Int) := IntWalk.i64_in _ (by omega)
    have s9 : IntKind.i64.wrap (-(d : Int)) = -(d : Int) := IntWalk.i64_in _ (by omega)
    have HSM := Lib.hid (fun W (hb : Below w.heap.size w W) => some_any W ⟨A, n, c⟩ l (H.out.1.later hb) (by show n ≤ 1000; omega))
    obtain ⟨L, hL⟩ : ∃ L, L = someL l := ⟨_, rfl⟩
    have hLl : L.length = n := by rw [hL, someL_len, hl]
    have HLv := Lib.hid (show ∀ x ∈ L, -2147483648 < x ∧ x < 2147483648 from by rw [hL]; exact someL_ok l)
    rw [← hL] at HSM
    have HLl := Lib.hid hLl
    have HM := Lib.hid (And.intro hq (And.intro hm hmq))
    clear hL hl htl hq hm hmq
    obtain ⟨i0, hi0, hy0, hy1, hy2⟩ := info_parts i_i64
    go_enter Try.func6, Try.ntmps6
    go_upto_region 8 with (first
      | (go_at_call 16; refine (HA.out _).mono ?_; rintro e w1 ⟨rfl, hb1⟩; have HB1 := Lib.hid hb1; clear hb1)
      | (go_at_call 18; refine (HSM.out _ HB1.out).mono ?_; rintro e w2 hd; obtain ⟨A2, c2, rfl, hs2, _, hb2⟩ := newrow_src (cells := inC) (k := 1) (fun _ => rfl) hd; rw [hLl] at hs2 ⊢; have HS2 := Lib.hid hs2; have HB2 := Lib.hid (k_then hb2 HB1.out); clear hd hs2 hb2 HSM))
    clear r0 r1 s0 s2 s3 s4 s5 s6 s7 HA
    have HT0 := Lib.hid (Three.start w2)
    obtain ⟨fb, hfb⟩ : ∃ fb : Nat → List Int, fb = mapTo (fun i => L.getD i 0 + byI ml (d : Int) i) := ⟨_, rfl⟩
    obtain ⟨fc, hfc⟩ : ∃ fc : Nat → List Int, fc = mapTo (fun i => L.getD i 0 + (d : Int)) := ⟨_, rfl⟩
    obtain ⟨fk, hfk⟩ : ∃ fk : Nat → List Int, fk = mapTo (fun i => L.getD (n - 1 - i) 0) := ⟨_, rfl⟩
    have HF := Lib.hid (And.intro hfb (And.intro hfc hfk))
    clear hfb hfc hfk
    go_loopw [12, 13, 14, 51] (fun vb vc vk iv wr => ∃ i : Nat, i ≤ n ∧ iv = .int .i64 (i : Int) ∧ Three w2 w2.heap.size vb vc vk i i i (fb i) (fc i) (fk i) wr) (fun _ _ _ iv _ => n - (intOf iv).toNat)
    case atStart => exact ⟨0, Nat.zero_le _, rfl, by rw [HF.out.1, HF.out.2.1, HF.out.2.2]; exact HT0.out⟩
    case round =>
      obtain ⟨i, hi', rfl, hth⟩ := hrel
      have HR := Lib.hid hth
      clear hth
      by_cases hlt : i < n
      · have hat : ∀ j, j < n → ∀ W, Below w2.heap.size w2 W → ∃ g o, A2 = some ⟨g, o, none⟩ ∧ W.cell? ⟨g, o + j, none⟩ = some (.int .i64 (L.getD j 0)) := fun j hj W hW => by
          obtain ⟨g, o, e, hc⟩ := (HS2.out.later hW).get (i := j) hj
          have := inC_cells hc
          rw [Nat.mul_one] at this
          exact ⟨g, o, e, this⟩
        obtain ⟨g, o, hA0, -⟩ := hat i hlt wr HR.out.below
        subst hA0
        have HC := Lib.hid (fun j (hj : j < n) W (hW : Below w2.heap.size w2 W) => (show W.cell? ⟨g, o + j, none⟩ = some (.int .i64 (L.getD j 0)) from by
          obtain ⟨g', o', e, hc⟩ := hat j hj W hW
          cases e
          exact hc))
        clear hat
        obtain ⟨z, hz⟩ : ∃ z, z = L.getD i 0 := ⟨_, rfl⟩
        obtain ⟨zk, hzk⟩ : ∃ zk, zk = L.getD (n - 1 - i) 0 := ⟨_, rfl⟩
        obtain ⟨jk, hjk⟩ : ∃ jk, jk = n - 1 - i := ⟨_, rfl⟩
        have bz := HLv.out _ (getD_mem (l := L) (i := i) (by rw [HLl.out]; exact hlt))
        rw [← hz] at bz
        have e1 : (0 : Int) ≤ (i : Int) := by omega
        have e2 : (i : Int) < (n : Int) := by omega
        have e4 : (0 : Int) ≤ (jk : Int) := by omega
        have e5 : (jk : Int) < (n : Int) := by omega
        have e6 : IntKind.i64.wrap ((n : Int) - 1 - (i : Int)) = (jk : Int) := by rw [IntWalk.i64_in _ (by omega)]; omega
        have t2 : IntKind.i64.wrap (z + (d : Int)) = z + (d : Int) := IntWalk.i64_in _ (by omega)
        have HX := Lib.hid (And.intro hz (And.intro hzk hjk))
        have c1 := HC.out i hlt wr HR.out.below
        rw [← hz] at c1
        have HC1 := Lib.hid (fun W (hW : Below w2.heap.size w2 W) => (show W.cell? ⟨g, o + i, none⟩ = some (.int .i64 z) ∧ W.cell? ⟨g, o + jk, none⟩ = some (.int .i64 zk) from by rw [hz, hzk, hjk]; exact ⟨HC.out i hlt W hW, HC.out (n - 1 - i) (by omega) W hW⟩))
        by_cases him : i < mn
        · obtain ⟨g', o', hB0, hB2⟩ := (H.out.2.later (k_then HR.out.below HB2.out)).get (i := i) him
          dsimp only at hB0
          subst hB0
          obtain ⟨u, hu⟩ : ∃ u, u = ml.getD i 0 := ⟨_, rfl⟩
          have hu2 : ml.getD i default = u := hu.symm
          rw [hu2] at hB2
          have b0 := shC_cells hB2
          rw [Nat.mul_one] at b0
          have bu : shOk u := by rw [hu]; exact HL.out.2.2 _ (getD_mem (by rw [HL.out.2.1]; exact him))
          unfold shOk at bu
          have t0 : IntKind.i64.wrap u = u := IntWalk.i64_in _ (by omega)
          have hby : byI ml (d : Int) i = max (-(d : Int)) (min u (d : Int)) := by unfold byI; rw [if_pos (by rw [HL.out.2.1]; exact him), ← hu]
          have HBY := Lib.hid hby
          have e3 : (i : Int) < (mn : Int) := by omega
          have t1 : IntKind.i64.wrap (z + max (-(d : Int)) (min u (d : Int))) = z + max (-(d : Int)) (min u (d : Int)) := IntWalk.i64_in _ (by omega)
          clear hz hzk hjk hB2 hu hu2 bz bu hby
          go_wp2_with (first
            | (at_builtin; refine wpList_append_own_at _ rfl (.tmp 70) (.tmp 77) 22 rfl w2.heap.size 2 i0 _ 1 8 u_ints hi0 hy0 hy1 hy2 rfl (by decide) u12 i ((fb i).flatMap inC) rfl (HR.out.r1.alloc _) ⟨wr.heap.size, 0, none⟩ 1 1 (inC (z + max (-(d : Int)) (min u (d : Int)))) rfl rfl (fun j u hu => World.news_of_block (Whole.new wr _ _) j u hu) (inC_ones _) (by simp only [maxLen]; omega) (by omega) (by have := HR.out.below.size; simp; omega) ?_; intro v5 w5 h1 h2 _ h3; have HR5 := Lib.hid (HR.out.add h1 h2 h3).rot; clear h1 h2 h3; obtain ⟨d0, d1⟩ := HC1.out w5 HR5.out.below)
            | (at_builtin; refine wpList_append_own_at _ rfl (.tmp 79) (.tmp 87) 22 rfl w2.heap.size 2 i0 _ 1 8 u_ints hi0 hy0 hy1 hy2 rfl (by decide) u13 i ((fc i).flatMap inC) rfl (HR5.out.r1.alloc _) ⟨w5.heap.size, 0, none⟩ 1 1 (inC (z + (d : Int))) rfl rfl (fun j u hu => World.news_of_block (Whole.new w5 _ _) j u hu) (inC_ones _) (by simp only [maxLen]; omega) (by omega) (by have := HR5.out.below.size; simp; omega) ?_; intro v6 w6 h1 h2 _ h3; have HR6 := Lib.hid (HR5.out.add h1 h2 h3).rot; clear h1 h2 h3; obtain ⟨d2, d3⟩ := HC1.out w6 HR6.out.below)
            | (at_builtin; refine wpList_append_own_at _ rfl (.tmp 89) (.tmp 98) 22 rfl w2.heap.size 2 i0 _ 1 8 u_ints hi0 hy0 hy1 hy2 rfl (by decide) u14 i ((fk i).flatMap inC) rfl (HR6.out.r1.alloc _) ⟨w6.heap.size, 0, none⟩ 1 1 (inC (zk)) rfl rfl (fun j u hu => World.news_of_block (Whole.new w6 _ _) j u hu) (inC_ones _) (by simp only [maxLen]; omega) (by omega) (by have := HR6.out.below.size; simp; omega) ?_; intro v7 w7 h1 h2 _ h3; have HR7 := Lib.hid (HR6.out.add h1 h2 h3).rot; clear h1 h2 h3; obtain ⟨d4, d5⟩ := HC1.out w7 HR7.out.below))
          refine ⟨⟨i + 1, by omega, by go_num, ?_⟩, by simp [intOf]; omega⟩
          have b1 : fb (i + 1) = fb i ++ [z + max (-(d : Int)) (min u (d : Int))] := by
            rw [HF.out.1, mapTo_succ, HBY.out, ← HX.out.1]
          have b2 : fc (i + 1) = fc i ++ [z + (d : Int)] := by rw [HF.out.2.1, mapTo_succ, ← HX.out.1]
          have b3 : fk (i + 1) = fk i ++ [zk] := by rw [HF.out.2.2, mapTo_succ, ← HX.out.2.1]
          rw [b1, b2, b3]
          exact HR7.out
        · have hby : byI ml (d : Int) i = 0 := by unfold byI; rw [if_neg (by rw [HL.out.2.1]; exact him)]
          have HBY := Lib.hid hby
          have e3 : ¬ (i : Int) < (mn : Int) := by omega
          have t1 : IntKind.i64.wrap z = z := IntWalk.i64_in _ (by omega)
          clear hz hzk hjk bz hby
          go_wp2_with (first
            | (at_builtin; refine wpList_append_own_at _ rfl (.tmp 70) (.tmp 77) 22 rfl w2.heap.size 2 i0 _ 1 8 u_ints hi0 hy0 hy1 hy2 rfl (by decide) u12 i ((fb i).flatMap inC) rfl (HR.out.r1.alloc _) ⟨wr.heap.size, 0, none⟩ 1 1 (inC (z)) rfl rfl (fun j u hu => World.news_of_block (Whole.new wr _ _) j u hu) (inC_ones _) (by simp only [maxLen]; omega) (by omega) (by have := HR.out.below.size; simp; omega) ?_; intro v5 w5 h1 h2 _ h3; have HR5 := Lib.hid (HR.out.add h1 h2 h3).rot; clear h1 h2 h3; obtain ⟨d0, d1⟩ := HC1.out w5 HR5.out.below)
            | (at_builtin; refine wpList_append_own_at _ rfl (.tmp 79) (.tmp 87) 22 rfl w2.heap.size 2 i0 _ 1 8 u_ints hi0 hy0 hy1 hy2 rfl (by decide) u13 i ((fc i).flatMap inC) rfl (HR5.out.r1.alloc _) ⟨w5.heap.size, 0, none⟩ 1 1 (inC (z + (d : Int))) rfl rfl (fun j u hu => World.news_of_block (Whole.new w5 _ _) j u hu) (inC_ones _) (by simp only [maxLen]; omega) (by omega) (by have := HR5.out.below.size; simp; omega) ?_; intro v6 w6 h1 h2 _ h3; have HR6 := Lib.hid (HR5.out.add h1 h2 h3).rot; clear h1 h2 h3; obtain ⟨d2, d3⟩ := HC1.out w6 HR6.out.below)
            | (at_builtin; refine wpList_append_own_at _ rfl (.tmp 89) (.tmp 98) 22 rfl w2.heap.size 2 i0 _ 1 8 u_ints hi0 hy0 hy1 hy2 rfl (by decide) u14 i ((fk i).flatMap inC) rfl (HR6.out.r1.alloc _) ⟨w6.heap.size, 0, none⟩ 1 1 (inC (zk)) rfl rfl (fun j u hu => World.news_of_block (Whole.new w6 _ _) j u hu) (inC_ones _) (by simp only [maxLen]; omega) (by omega) (by have := HR6.out.below.size; simp; omega) ?_; intro v7 w7 h1 h2 _ h3; have HR7 := Lib.hid (HR6.out.add h1 h2 h3).rot; clear h1 h2 h3; obtain ⟨d4, d5⟩ := HC1.out w7 HR7.out.below))
          refine ⟨⟨i + 1, by omega, by go_num, ?_⟩, by simp [intOf]; omega⟩
          have b1 : fb (i + 1) = fb i ++ [z] := by
            rw [HF.out.1, mapTo_succ, HBY.out, ← HX.out.1, Int.add_zero]
          have b2 : fc (i + 1) = fc i ++ [z + (d : Int)] := by rw [HF.out.2.1, mapTo_succ, ← HX.out.1]
          have b3 : fk (i + 1) = fk i ++ [zk] := by rw [HF.out.2.2, mapTo_succ, ← HX.out.2.1]
          rw [b1, b2, b3]
          exact HR7.out
      · obtain rfl : i = n := by omega
        have hf := moved_facts (L := L) (by_ := byI ml (d : Int)) (n := i) (m := m) (d := (d : Int)) HLl.out g3 HLv.out (by omega) (fun j => byI_ok ml (by omega) j)
        have x1 : mapTo (fun j => L.getD j 0 + byI ml (d : Int) j) i = fb i := by rw [HF.out.1]
        have x2 : mapTo (fun j => L.getD j 0 + (d : Int)) i = fc i := by rw [HF.out.2.1]
        have x3 : mapTo (fun j => L.getD (i - 1 - j) 0) i = fk i := by rw [HF.out.2.2]
        rw [x1, x2, x3] at hf
        have y1 : (fb i).length = i := by rw [← x1, mapTo_len]
        have y2 : (fc i).length = i := by rw [← x2, mapTo_len]
        have y3 : (fk i).length = i := by rw [← x3, mapTo_len]
        generalize fb i = Lb at *
        generalize fc i = Lc at *
        generalize fk i = Lk at *
        obtain ⟨⟨A3, n3, c3⟩, rfl, hs3, -⟩ := rsrc_of_own (cells := inC) (fun _ => rfl) y1.symm HR.out.r1
        obtain ⟨⟨A4, n4, c4⟩, rfl, hs4, -⟩ := rsrc_of_own (cells := inC) (fun _ => rfl) y2.symm HR.out.r2
        obtain ⟨⟨A5, n5, c5⟩, rfl, hs5, -⟩ := rsrc_of_own (cells := inC) (fun _ => rfl) y3.symm HR.out.r3
        have z3 := hs3.len
        have z4 := hs4.len
        have z5 := hs5.len
        dsimp only at z3 z4 z5
        have HO1 := Lib.hid (Of_any wr ⟨A2, i, c2⟩ L (m : Int) (HS2.out.later HR.out.below) (by show i ≤ 1000; omega))
        have HO2 := Lib.hid (fun W (hb : Below wr.heap.size wr W) => Of_any W ⟨A3, n3, c3⟩ Lb (m : Int) (hs3.later hb) (by show n3 ≤ 1000; omega))
        have HO3 := Lib.hid (fun W (hb : Below wr.heap.size wr W) => Of_any W ⟨A4, n4, c4⟩ Lc (m : Int) (hs4.later hb) (by show n4 ≤ 1000; omega))
        have HO4 := Lib.hid (fun W (hb : Below wr.heap.size wr W) => Of_any W ⟨A5, n5, c5⟩ Lk (m : Int) (hs5.later hb) (by show n5 ≤ 1000; omega))
        have HBW := Lib.hid (k_then HR.out.below HB2.out)
        obtain ⟨f1, f2, f3, f4, f5, f6, f7, f8, f9, f10⟩ := hf
        rw [f1] at HO1
        rw [f2] at HO2
        rw [f3] at HO3
        rw [f4] at HO4
        generalize midT L (m : Int) = m1 at *
        generalize midT Lb (m : Int) = m2 at *
        rw [f7] at HO3
        rw [f8] at HO4
        have u1 : IntKind.i64.wrap (m2 - m1) = m2 - m1 := IntWalk.i64_in _ (by omega)
        have u2 : IntKind.i64.wrap (m1 - m2) = m1 - m2 := IntWalk.i64_in _ (by omega)
        have u3 : IntKind.i64.wrap (m1 + (d : Int)) = m1 + (d : Int) := IntWalk.i64_in _ (by omega)
        clear f1 f2 f3 f4 f7 f8 f9 f10 x1 x2 x3 y1 y2 y3 z3 z4 z5 hs3 hs4 hs5 HR HF s1 s9
        unfold Sl.v at *
        dsimp only at *
        go_wp2_with (first
          | (go_at_call 11; with_reducible refine HO1.out.mono ?_; (rintro e w4 ⟨rfl, hb⟩; have HB4 := Lib.hid hb; clear hb HO1))
          | (go_at_call 11; with_reducible refine (HO2.out _ HB4.out).mono ?_; (rintro e w5 ⟨rfl, hb⟩; have HB5 := Lib.hid (k_then hb HB4.out); clear hb HO2))
          | (go_at_call 11; with_reducible refine (HO3.out _ HB5.out).mono ?_; (rintro e w6 ⟨rfl, hb⟩; have HB6 := Lib.hid (k_then hb HB5.out); clear hb HO3))
          | (go_at_call 11; with_reducible refine (HO4.out _ HB6.out).mono ?_; (rintro e w7 ⟨rfl, hb⟩; have HB7 := Lib.hid (k_then (k_then hb HB6.out) HBW.out); clear hb HO4)))
        go_ret
        exact ⟨rfl, HB7.out⟩
  · have r : n = 0 ∨ 30 < n := by omega
    rcases r with r | r
    · subst r
      clear hgo
      go_enter Try.func6, Try.ntmps6
      go_wp2_with (go_at_call 16; refine (HA.out _).mono ?_; rintro e w1 ⟨rfl, hb1⟩; have HB1 := Lib.hid hb1; clear hb1)
      go_ret
      exact ⟨rfl, HB1.out⟩
    · have r0 : ((n : Int) == 0) = false := beq_eq_false_iff_ne.2 (by omega)
      have r1 : (30 : Int) < (n : Int) := by omega
      clear hgo
      go_enter Try.func6, Try.ntmps6
      go_wp2_with (go_at_call 16; refine (HA.out _).mono ?_; rintro e w1 ⟨rfl, hb1⟩; have HB1 := Lib.hid hb1; clear hb1)
      go_ret
      exact ⟨rfl, HB1.out⟩
end Go.Proofs.Ytfpkbhnlpmnegaa
