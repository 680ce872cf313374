/- MidpointWithin, its walk. No condition. -/
import Derived.Test.YtfpkbhnlpmnegaaZWithD
namespace Go.Proofs.Ytfpkbhnlpmnegaa
open Go.RowKit Go.Shelf

set_option maxRecDepth 100000 in
set_option maxHeartbeats 16000000 in
theorem midpointWithin_walk (s t : Sl) (l wl : List Int) (a b : Int) (w : World) (h : RSrc inC 1 w s l) (ht : RSrc inC 1 w t wl) : Calls Try.prog 5 #[s.v, t.v, .int .i64 a, .int .i64 b] w fun e w' => e = .returned (.bool true) ∧ Below w.heap.size w w' := by
  have HA := Lib.hid (fun W => alive_any W)
  have hl := h.len
  have htl := ht.len
  have hmx := Nat.le_trans h.cap h.max
  have htmx := Nat.le_trans ht.cap ht.max
  have H := Lib.hid (And.intro h ht)
  have HL := Lib.hid (And.intro hl htl)
  obtain ⟨A, n, c⟩ := s
  obtain ⟨B, k, d⟩ := t
  unfold Sl.v
  dsimp only at *
  clear h ht
  by_cases hgo : n ≤ 30 ∧ k ≤ 10 ∧ k + 1 ≤ n
  · obtain ⟨g1, g2, g3⟩ := hgo
    obtain ⟨x, hx⟩ : ∃ x, x = a.tmod 2147483648 := ⟨_, rfl⟩
    obtain ⟨y, hy⟩ : ∃ y, y = b.tmod 2147483648 := ⟨_, rfl⟩
    have bx := some_ok a
    have by_ := some_ok b
    rw [← hx] at bx
    rw [← hy] at by_
    have q1 : a.tmod 2147483648 = x := hx.symm
    have q2 : b.tmod 2147483648 = y := hy.symm
    have q3 : IntKind.i64.wrap x = x := IntWalk.i64_in _ (by omega)
    have q4 : IntKind.i64.wrap y = y := IntWalk.i64_in _ (by omega)
    have q5 : IntKind.i64.wrap ((k : Int) + 1) = (k : Int) + 1 := IntWalk.i64_in _ (by omega)
    have r1 : ¬ ((30 : Int) < (n : Int)) := by omega
    have r2 : ¬ ((10 : Int) < (k : Int)) := by omega
    have r3 : ¬ ((n : Int) < (k : Int) + 1) := by omega
    have HSM := Lib.hid (fun W (hb : Below w.heap.size w W) => some_any W ⟨A, n, c⟩ l (H.out.1.later hb) (by show n ≤ 1000; omega))
    obtain ⟨L, hL⟩ : ∃ L, L = someL l := ⟨_, rfl⟩
    have hLl : L.length = n := by rw [hL, someL_len, HL.out.1]
    rw [← hL] at HSM
    have HLl := Lib.hid hLl
    clear hx hy hL hl htl
    obtain ⟨i0, hi0, hy0, hy1, hy2⟩ := info_parts i_i64
    go_enter Try.func5, Try.ntmps5
    go_upto_region 8 with (first
      | (go_at_call 16; refine (HA.out _).mono ?_; rintro e w1 ⟨rfl, hb1⟩; have HB1 := Lib.hid hb1; clear hb1)
      | (go_at_call 18; refine (HSM.out _ HB1.out).mono ?_; rintro e w2 hd; obtain ⟨A2, c2, rfl, hs2, _, hb2⟩ := newrow_src (cells := inC) (k := 1) (fun _ => rfl) hd; rw [hLl] at hs2 ⊢; have HS2 := Lib.hid hs2; have HB2 := Lib.hid (k_then hb2 HB1.out); clear hd hs2 hb2 HSM))
    clear q1 q2 q3 q4 q5 r1 r2 r3 HA
    obtain ⟨lo, hlo⟩ : ∃ lo, lo = min x y := ⟨_, rfl⟩
    obtain ⟨hi, hhi⟩ : ∃ hi, hi = max x y := ⟨_, rfl⟩
    have HBN := Lib.hid (show (-2147483648 ≤ lo ∧ lo ≤ 2147483648) ∧ (-2147483648 ≤ hi ∧ hi ≤ 2147483648) ∧ lo ≤ hi from by omega)
    rw [← hlo, ← hhi]
    clear hlo hhi bx by_
    obtain ⟨tmpR, htR⟩ : ∃ tmpR : Nat → List Int, tmpR = fun i => allTo wl lo hi L i := ⟨_, rfl⟩
    have HR0 := Lib.hid htR
    clear htR
    go_loopw [13, 55] (fun v iv wr => ∃ i : Nat, i ≤ n ∧ iv = .int .i64 (i : Int) ∧ wr.ownsRow w2.heap.size 2 1 v (i + min i k) ((tmpR i).flatMap inC) ∧ Below w2.heap.size w2 wr) (fun _ iv _ => n - (intOf iv).toNat)
    case atStart => exact ⟨0, Nat.zero_le _, rfl, by rw [HR0.out]; exact ⟨by simp [allTo], .inl ⟨rfl, by omega⟩⟩, Below.refl _ _⟩
    case round =>
      obtain ⟨i, hi', rfl, hrow, hwr⟩ := hrel
      have HR := Lib.hid (And.intro hrow hwr)
      by_cases hlt : i < n
      · obtain ⟨g, o, hA0, hA2⟩ := (HS2.out.later hwr).get (i := i) hlt
        dsimp only at hA0
        subst hA0
        obtain ⟨z, hz⟩ : ∃ z, z = L.getD i 0 := ⟨_, rfl⟩
        have hz2 : L.getD i default = z := hz.symm
        rw [hz2] at hA2
        have a0 := inC_cells hA2
        rw [Nat.mul_one] at a0
        have HZ := Lib.hid hz
        have e1 : (0 : Int) ≤ (i : Int) := by omega
        have e2 : (i : Int) < (n : Int) := by omega
        by_cases hik : i < k
        · obtain ⟨g', o', hB0, hB2⟩ := (H.out.2.later (k_then hwr HB2.out)).get (i := i) hik
          dsimp only at hB0
          subst hB0
          obtain ⟨u, hu⟩ : ∃ u, u = wl.getD i 0 := ⟨_, rfl⟩
          have hu2 : wl.getD i default = u := hu.symm
          rw [hu2] at hB2
          have b0 := inC_cells hB2
          rw [Nat.mul_one] at b0
          obtain ⟨uu, huu⟩ : ∃ uu, uu = u.tmod 2147483648 := ⟨_, rfl⟩
          have s1 : u.tmod 2147483648 = uu := huu.symm
          have s2 : IntKind.i64.wrap uu = uu := IntWalk.i64_in _ (by have := some_ok u; omega)
          have e3 : (i : Int) < (k : Int) := by omega
          have HU := Lib.hid (show uu = (wl.getD i 0).tmod 2147483648 from by rw [huu, hu])
          clear hrow hwr hA2 hB2 hz hz2 hu hu2 huu
          go_wp2_with (first
            | (at_builtin; refine wpList_append_own _ rfl (.tmp 63) (.tmp 69) 22 rfl w2.heap.size 2 i0 _ 1 8 u_ints hi0 hy0 hy1 hy2 rfl (by decide) u13 (i + min i k) ((tmpR i).flatMap inC) rfl (HR.out.1.alloc _) ⟨wr.heap.size, 0, none⟩ 1 1 (inC uu) rfl rfl (fun j u hu => World.news_of_block (Whole.new wr _ _) j u hu) (inC_ones uu) (by simp only [maxLen]; omega) (by omega) (by have := HR.out.2.size; simp; omega) ?_; intro v5 w5 h1 h2 _; have hb5 := (HR.out.2.alloc HR.out.2.size _).grown h2 (by have := HR.out.2.size; simp; omega) (fun i hi => (own_typed HR.out.1 hi).1); have HG := Lib.hid (And.intro h1 hb5); clear h1 h2 hb5)
            | (at_builtin; refine wpList_append_own _ rfl (.tmp 71) (.tmp 77) 22 rfl w2.heap.size 2 i0 _ 1 8 u_ints hi0 hy0 hy1 hy2 rfl (by decide) v5 (i + min i k + 1) ((tmpR i).flatMap inC ++ inC uu) rfl (HG.out.1.alloc _) ⟨w5.heap.size, 0, none⟩ 1 1 (inC (max lo (min z hi))) rfl rfl (fun j u hu => World.news_of_block (Whole.new w5 _ _) j u hu) (inC_ones _) (by simp only [maxLen]; omega) (by omega) (by have := HG.out.2.size; simp; omega) ?_; intro v6 w6 h1 h2 _; have hb6 := (HG.out.2.alloc HG.out.2.size _).grown h2 (by have := HG.out.2.size; simp; omega) (fun i hi => (own_typed HG.out.1 hi).1); have HG6 := Lib.hid (And.intro h1 hb6); clear h1 h2 hb6))
          refine ⟨⟨i + 1, by omega, by go_num, ?_, HG6.out.2⟩, by simp [intOf]; omega⟩
          have e : tmpR (i + 1) = tmpR i ++ [uu] ++ [max lo (min z hi)] := by
            rw [HR0.out]
            show allTo wl lo hi L (i + 1) = allTo wl lo hi L i ++ [uu] ++ [max lo (min z hi)]
            rw [allTo_succ, if_pos (by rw [HL.out.2]; exact hik), ← HZ.out, ← HU.out]
          rw [e, List.flatMap_append, List.flatMap_append, List.flatMap_singleton, List.flatMap_singleton, show i + 1 + min (i + 1) k = i + min i k + 1 + 1 by omega]
          exact HG6.out.1
        · have e3 : ¬ (i : Int) < (k : Int) := by omega
          clear hrow hwr hA2 hz hz2
          go_wp2_with (at_builtin; refine wpList_append_own _ rfl (.tmp 71) (.tmp 77) 22 rfl w2.heap.size 2 i0 _ 1 8 u_ints hi0 hy0 hy1 hy2 rfl (by decide) u13 (i + min i k) ((tmpR i).flatMap inC) rfl (HR.out.1.alloc _) ⟨wr.heap.size, 0, none⟩ 1 1 (inC (max lo (min z hi))) rfl rfl (fun j u hu => World.news_of_block (Whole.new wr _ _) j u hu) (inC_ones _) (by simp only [maxLen]; omega) (by omega) (by have := HR.out.2.size; simp; omega) ?_; intro v5 w5 h1 h2 _; have hb5 := (HR.out.2.alloc HR.out.2.size _).grown h2 (by have := HR.out.2.size; simp; omega) (fun i hi => (own_typed HR.out.1 hi).1); have HG := Lib.hid (And.intro h1 hb5); clear h1 h2 hb5)
          refine ⟨⟨i + 1, by omega, by go_num, ?_, HG.out.2⟩, by simp [intOf]; omega⟩
          have e : tmpR (i + 1) = tmpR i ++ [max lo (min z hi)] := by
            rw [HR0.out]
            show allTo wl lo hi L (i + 1) = allTo wl lo hi L i ++ [max lo (min z hi)]
            rw [allTo_succ, if_neg (by rw [HL.out.2]; exact hik), ← HZ.out, List.append_nil]
          rw [e, List.flatMap_append, List.flatMap_singleton, show i + 1 + min (i + 1) k = i + min i k + 1 by omega]
          exact HG.out.1
      · obtain rfl : i = n := by omega
        have hM : tmpR i = allTo wl lo hi L L.length := by rw [HR0.out, HLl.out]
        have hMl := allTo_len wl lo hi L L.length
        have hf := with_facts (wl := wl) (L := L) HBN.out.2.2 (by rw [HL.out.2, HLl.out]; exact g3) HBN.out.1 HBN.out.2.1
        rw [← hM] at hMl hf
        rw [HL.out.2] at hMl hf
        rw [HLl.out] at hMl
        generalize tmpR i = M at *
        rw [← hMl] at hrow
        obtain ⟨⟨A3, n3, c3⟩, rfl, hs3, _⟩ := rsrc_of_own (cells := inC) (fun _ => rfl) rfl hrow
        have hn3 : M.length = n3 := hs3.len
        have HO := Lib.hid (Of_any wr ⟨A3, n3, c3⟩ M (k : Int) hs3 (by show n3 ≤ 1000; omega))
        have HSP := Lib.hid (fun W (hb : Below wr.heap.size wr W) => Spread_any W ⟨A3, n3, c3⟩ M (k : Int) (hs3.later hb) (by show n3 ≤ 1000; omega))
        have HBW := Lib.hid (k_then hwr HB2.out)
        obtain ⟨f1, ⟨f2, f3⟩, f4, f5⟩ := hf
        rw [f1] at HO HSP
        generalize midT M (k : Int) = mm at *
        generalize sprT M (k : Int) = ss at *
        have hsub : IntKind.i64.wrap (hi - lo) = hi - lo := IntWalk.i64_in _ (by have := HBN.out; omega)
        clear hrow hwr hM hMl hs3 f1 HR HR0
        unfold Sl.v
        dsimp only
        go_wp2_with (first
          | (go_at_call 11; refine HO.out.mono ?_; rintro e w4 ⟨rfl, hb⟩; have HB4 := Lib.hid hb; clear hb)
          | (go_at_call 13; refine (HSP.out _ HB4.out).mono ?_; rintro e w5 ⟨rfl, hb⟩; have HB5 := Lib.hid (k_then (k_then hb HB4.out) HBW.out); clear hb))
        go_ret
        exact ⟨rfl, HB5.out⟩
  · by_cases r1 : (30 : Int) < (n : Int)
    · clear hgo
      go_enter Try.func5, Try.ntmps5
      go_wp2_with (go_at_call 16; refine (HA.out _).mono ?_; rintro e w1 ⟨rfl, hb1⟩; have HB1 := Lib.hid hb1; clear hb1)
      go_ret
      exact ⟨rfl, HB1.out⟩
    · by_cases r2 : (10 : Int) < (k : Int)
      · clear hgo
        go_enter Try.func5, Try.ntmps5
        go_wp2_with (go_at_call 16; refine (HA.out _).mono ?_; rintro e w1 ⟨rfl, hb1⟩; have HB1 := Lib.hid hb1; clear hb1)
        go_ret
        exact ⟨rfl, HB1.out⟩
      · have r3 : (n : Int) < (k : Int) + 1 := by omega
        have q6 : IntKind.i64.wrap ((k : Int) + 1) = (k : Int) + 1 := IntWalk.i64_in _ (by omega)
        clear hgo
        go_enter Try.func5, Try.ntmps5
        go_wp2_with (go_at_call 16; refine (HA.out _).mono ?_; rintro e w1 ⟨rfl, hb1⟩; have HB1 := Lib.hid hb1; clear hb1)
        go_ret
        exact ⟨rfl, HB1.out⟩
end Go.Proofs.Ytfpkbhnlpmnegaa
