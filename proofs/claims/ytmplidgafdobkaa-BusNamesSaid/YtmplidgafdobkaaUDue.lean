/- Due, by a contract. No condition. -/
import Derived.Test.YtmplidgafdobkaaUDueM
namespace Go.Proofs.Ytmplidgafdobkaa
open Go.RowKit Go.Shelf

/-- A list of where a frame is there, in new memory. -/
def FreshD (w : World) (L : List Du) (e : Ending) (w' : World) : Prop := ∃ v, e = .returned v ∧ w'.ownsRow w.heap.size 65 3 v L.length (L.flatMap duC) ∧ Below w.heap.size w w'

section
variable {w : World} {S : Nat → Prop} {b l : Nat} {v : Value} {As : List SdA} {g : Lg}
theorem index0 (A B : Option Addr) (m c n d : Nat) (W : World) : (Instr.index 76 (.agg #[.slice A m c, .slice B n d]) (.int .i64 0)).run Try.prog W = .ok (.slice A m c) W := by kernel_rfl
theorem index1 (A B : Option Addr) (m c n d : Nat) (W : World) : (Instr.index 76 (.agg #[.slice A m c, .slice B n d]) (.int .i64 1)).run Try.prog W = .ok (.slice B n d) W := by kernel_rfl
theorem due_no (h : BusAt w S b l v As g) (id : Int) (hid : idB g id = false) : Calls Try.prog 17 #[.pointer (some ⟨b, 0, none⟩), .int .i64 id] w (FreshD w []) := by
  have cb := h.bus.cell 0
  obtain ⟨_, ⟨c16, _, _⟩, _⟩ := log_cells h.log
  obtain ⟨s, hs, _, _⟩ := rsrc_of_own (cells := sdC) sd_len rfl h.row
  have hlen : As.length = g.L.length := by rw [← h.sds, List.length_map]
  obtain ⟨A, n, c⟩ := s
  unfold Sl.v at hs
  subst hs
  have hn : n = As.length := by
    rcases h.row.2 with ⟨e, h0⟩ | ⟨gb, cap, cur, e, _⟩
    · cases e; exact h0.symm
    · cases e; rfl
  have hh := has_b (w := w) b l A n c id (by simpa using cb) c16
  rw [hn, hlen, show (decide (0 ≤ id) && decide (id < (g.L.length : Int))) = false from hid] at hh
  clear cb c16
  go_enter Try.func17, Try.ntmps17
  go_wp2_with (go_at_call 35; refine hh.mono ?_; rintro e wq ⟨rfl, hq⟩; obtain rfl := hq.symm)
  go_ret
  exact ⟨_, rfl, World.ownsRow_nil _ _ _ _, Below.refl _ _⟩

/-- What has been told. -/
def DueI (w : World) (b l : Nat) (v : Value) (As : List SdA) (g : Lg) (S : Nat → Prop) (L : List Du) (v2 : Value) (wr : World) : Prop := Below w.heap.size w wr ∧ BusAt wr S b l v As g ∧ wr.ownsRow w.heap.size 65 3 v2 L.length (L.flatMap duC)

set_option maxRecDepth 100000 in
set_option maxHeartbeats 8000000 in
theorem due_yes (h : BusAt w S b l v As g) (hg : OkG g) (i : Nat) (hi : i < As.length) (hid : idB g (i : Int) = true) : Calls Try.prog 17 #[.pointer (some ⟨b, 0, none⟩), .int .i64 (i : Int)] w (FreshD w (dueS g.p (g.L.getD i default))) := by
  obtain ⟨i0, hi0, hz0, hz1, hz2⟩ := info_parts i_du
  have hp := planU_of hg.plan
  have cb := h.bus.cell 0
  obtain ⟨_, ⟨c16, _, _⟩, _⟩ := log_cells h.log
  obtain ⟨gb, cap, rfl, hnc, hcm, ⟨y0, y1, y2, y3, y4⟩, hgb⟩ := sd_cells h i hi
  obtain ⟨hsd, hse, hsm⟩ := sd_get h i hi
  have hlen : As.length = g.L.length := by rw [← h.sds, List.length_map]
  have hh := has_b (w := w) b l (some ⟨gb, 0, none⟩) As.length cap (i : Int) (by simpa using cb) c16
  rw [hlen, show (decide (0 ≤ (i : Int)) && decide ((i : Int) < (g.L.length : Int))) = true from hid] at hh
  rw [← hse]
  obtain ⟨a, ha⟩ : ∃ a, a = As.getD i default := ⟨_, rfl⟩
  rw [← ha] at hsd hse hsm y0 y1 y2 y3 y4 ⊢
  have hbd : ∀ c, ∀ f ∈ a.s.ch c, g.p.dmin ≤ f.d ∧ f.d ≤ g.p.dmax := hg.fates _ hsm
  have hlg : ∀ c, (a.s.ch c).length ≤ 16 := fun c => by
    have n2 := hp.n2
    rcases hg.long _ hsm c with e | e
    · rw [e]; decide
    · omega
  have hup := hg.up _ hsm
  have hla := hg.last
  have htb : 0 ≤ a.s.t ∧ a.s.t ≤ 4294967296 := by omega
  obtain ⟨⟨A0, m0, d0⟩, hf0⟩ : ∃ s, s = a.f0 := ⟨_, rfl⟩
  obtain ⟨⟨A1, m1, d1⟩, hf1⟩ : ∃ s, s = a.f1 := ⟨_, rfl⟩
  rw [← hf0] at y3
  rw [← hf1] at y4
  have r0 := hsd.r0
  have r1 := hsd.r1
  rw [← hf0] at r0
  rw [← hf1] at r1
  have l0 := r0.len
  have l1 := r1.len
  have hm0 : m0 ≤ 16 := by have := hlg 0; unfold Sd.ch at this; rw [if_pos rfl] at this; simp only at l0; omega
  have hm1 : m1 ≤ 16 := by have := hlg 1; unfold Sd.ch at this; rw [if_neg (by decide)] at this; simp only at l1; omega
  have HBD := Lib.hid (show (∀ f ∈ a.s.l0, g.p.dmin ≤ f.d ∧ f.d ≤ g.p.dmax) ∧ ∀ f ∈ a.s.l1, g.p.dmin ≤ f.d ∧ f.d ≤ g.p.dmax from ⟨hbd 0, hbd 1⟩)
  have hat : ∀ W, BusAt W S b l (.slice (some ⟨gb, 0, none⟩) As.length cap) As g → W.cell? ⟨gb, i * 5 + 1, none⟩ = some (.int .i64 a.s.t) := fun W hW => by
    obtain ⟨gb', cap', e, _, _, ⟨_, z1, _⟩, _⟩ := sd_cells hW i hi
    cases e
    rw [ha]; exact z1
  have HAT := Lib.hid hat
  have HR := Lib.hid (And.intro r0 (And.intro r1 (And.intro l0 l1)))
  have HP := Lib.hid hp
  have HH := Lib.hid h
  obtain ⟨D0, hD0⟩ : ∃ D0, D0 = dueTo 0 (a.s.t + g.p.air) a.s.l0 m0 := ⟨_, rfl⟩
  obtain ⟨D1, hD1⟩ : ∃ D1, D1 = D0 ++ dueTo 1 (a.s.t + g.p.air) a.s.l1 m1 := ⟨_, rfl⟩
  have hDS : dueS g.p a.s = D1 := by
    unfold dueS
    rw [hD1, hD0, show a.s.l0.length = m0 from l0, show a.s.l1.length = m1 from l1]
  have hD0l : D0.length ≤ 16 := by rw [hD0]; exact Nat.le_trans (dueTo_length _ _ _ _) hm0
  rw [hDS]
  have HD := Lib.hid (And.intro hD0 hD1)
  have hs0 : DueI w b l (.slice (some ⟨gb, 0, none⟩) As.length cap) As g S [] (.slice none 0 0) w := ⟨Below.refl _ _, h, World.ownsRow_nil _ _ _ _⟩
  have HS0 := Lib.hid hs0
  have hap := hp.a1
  have hap2 := hp.a2
  have hdp := hp.d1
  have hdp3 := hp.d3
  obtain ⟨t0, ht0⟩ : ∃ t0, t0 = a.s.t := ⟨_, rfl⟩
  rw [← ht0] at HAT htb y1
  have HT0 := Lib.hid ht0
  clear hs0 hDS hD0 hD1 hat r0 r1 l0 l1 hbd hlg hup hla hsd hse hsm ha hp hf0 hf1 h hg ht0
  simp at cb
  have e5 : (0 : Int) ≤ (i : Int) := by omega
  have e6 : (i : Int) < (As.length : Int) := by omega
  unfold Sl.v at y2 y3 y4
  go_enter Try.func17, Try.ntmps17
  go_upto_region 6 with (go_at_call 35; refine hh.mono ?_; rintro e wq ⟨rfl, hq⟩; obtain rfl := hq.symm)
  clear hh cb c16 y0 y1 y2 y3 y4 hlen
  go_loopw [5, 28] (fun v2 iv wr => ∃ k : Nat, k ≤ 2 ∧ iv = .int .i64 (k : Int) ∧ DueI w b l (.slice (some ⟨gb, 0, none⟩) As.length cap) As g S (if k = 0 then [] else if k = 1 then D0 else D1) v2 wr) (fun _ iv _ => 2 - (intOf iv).toNat)
  case atStart => exact ⟨0, by omega, rfl, HS0.out⟩
  case round =>
    obtain ⟨w1, rfl⟩ : ∃ x, x = wr := ⟨_, rfl⟩
    obtain ⟨k, hk, rfl, hI⟩ := hrel
    have hkk : k = 0 ∨ k = 1 ∨ k = 2 := by omega
    rcases hkk with rfl | rfl | rfl
    · rw [if_pos rfl] at hI
      have HI := Lib.hid hI
      clear hI
      have hx0 := fun W => index0 A0 A1 m0 d0 m1 d1 W
      have hx1 := fun W => index1 A0 A1 m0 d0 m1 d1 W
      go_upto_region 9 with fail
      clear hx0 hx1
      go_loopw [5, 34] (fun v2 jv wi => ∃ j : Nat, j ≤ m0 ∧ jv = .int .i64 (j : Int) ∧ DueI w b l (.slice (some ⟨gb, 0, none⟩) As.length cap) As g S (([] : List Du) ++ dueTo 0 (a.s.t + g.p.air) a.s.l0 j) v2 wi) (fun _ jv _ => m0 - (intOf jv).toNat)
      case atStart => exact ⟨0, by omega, rfl, by rw [dueTo_zero, List.append_nil]; exact HI.out⟩
      case round =>
        obtain ⟨w2, rfl⟩ : ∃ x, x = wr := ⟨_, rfl⟩
        obtain ⟨j, hj, rfl, hJ⟩ := hrel
        clear HI
        by_cases hlt : j < m0
        · obtain ⟨g1, o1, hA0, hA2⟩ := (HR.out.1.later hJ.1).get (i := j) hlt
          dsimp only at hA0
          subst hA0
          obtain ⟨x, hx⟩ : ∃ x, x = a.s.l0.getD j default := ⟨_, rfl⟩
          rw [← hx] at hA2
          obtain ⟨a0, a1, a2⟩ := faC_cells hA2
          have e3 : (0 : Int) ≤ (j : Int) := by omega
          have e4 : (j : Int) < (m0 : Int) := by omega
          have HX := Lib.hid hx
          have hxd : g.p.dmin ≤ x.d ∧ x.d ≤ g.p.dmax := by
            have hjl : j < a.s.l0.length := by have := HR.out.2.2.1; omega
            have hmem : x ∈ a.s.l0 := by rw [hx, List.getD_eq_getElem?_getD, List.getElem?_eq_getElem hjl]; exact List.getElem_mem hjl
            exact HBD.out.1 x hmem
          obtain ⟨xd, lo, cu⟩ := x
          dsimp only at a0 a1 a2 hxd
          clear hx hA2
          cases lo
          · have hLst := dueTo_here (c := 0) (t := a.s.t + g.p.air) (l := a.s.l0) (k := j) (by rw [← HX.out])
            rw [show (a.s.l0.getD j default).d = xd by rw [← HX.out]] at hLst
            have HL := Lib.hid hLst
            have hDl := dueTo_length 0 (a.s.t + g.p.air) a.s.l0 j
            have HJ := Lib.hid hJ
            clear hLst hJ
            go_upto_region 12 with fail
            clear a0 a1 a2
            obtain ⟨w4, hw4⟩ : ∃ w4, w4 = w2.alloc (.cells #[.int .i64 xd, .bool false, .bool cu] 47) := ⟨_, rfl⟩
            rw [← hw4]
            have hb4 : Below w2.heap.size w2 w4 := hw4 ▸ (Below.refl _ _).alloc (Nat.le_refl _) _
            have hF4 : Whole w4 w2.heap.size 47 #[.int .i64 xd, .bool false, .bool cu] := hw4 ▸ Whole.new _ _ _
            have hB4 := HJ.out.2.1.later hb4
            have hr4 : w4.ownsRow w.heap.size 65 3 u5 (([] : List Du) ++ dueTo 0 (a.s.t + g.p.air) a.s.l0 j).length ((([] : List Du) ++ dueTo 0 (a.s.t + g.p.air) a.s.l0 j).flatMap duC) := hw4 ▸ HJ.out.2.2.alloc _
            have hbw := k_then hb4 HJ.out.1
            obtain ⟨LL, hLL⟩ : ∃ LL, LL = ([] : List Du) ++ dueTo 0 (a.s.t + g.p.air) a.s.l0 j := ⟨_, rfl⟩
            have hLLl : LL.length ≤ 64 := by rw [hLL, List.length_append]; have h0 : ([] : List Du).length = 0 := rfl; omega
            have z1 : IntKind.i64.wrap (t0 + xd) = t0 + xd := IntWalk.i64_in _ (by omega)
            have z2 : IntKind.i64.wrap (t0 + xd + g.p.air) = t0 + xd + g.p.air := IntWalk.i64_in _ (by omega)
            rw [← hLL] at hr4
            obtain ⟨⟨_, _, c5, _, _⟩, ⟨c16, _, _⟩, _⟩ := log_cells hB4.log
            have cb := hB4.bus.cell 0
            have y1 := HAT.out _ hB4
            have f0 := hF4.cell 0
            simp at cb f0
            have hz := hbw.size
            have HB4 := Lib.hid hbw
            have HBB := Lib.hid (And.intro hB4 hb4)
            have HR4 := Lib.hid hr4
            have HLL := Lib.hid hLL
            have HON := Lib.hid (fun d => du_one d)
            have hFn : some w2.heap.size ≠ u5.ownBlock := hF4.not_row (by decide) hr4
            have hbw0 := HH.out.bus.lt
            have hlw0 := HH.out.log.lt
            clear hw4 hb4 hF4 hB4 hr4 hbw hLL
            have hKG : ∀ (o : Obj) (W : World), ((w4.alloc o).drew).grownBy W u5.ownBlock → (W.cell? ⟨gb, i * 5 + 1, none⟩ = some (.int .i64 t0) ∧ W.cell? ⟨w2.heap.size, 0, none⟩ = some (.int .i64 xd) ∧ W.cell? ⟨b, 0, none⟩ = some (.pointer (some ⟨l, 0, none⟩)) ∧ W.cell? ⟨l, 5, none⟩ = some (.int .i64 g.p.air)) := fun o W hW => by
              have hne := hFn
              have hlt := fun k (e : u5.ownBlock = some k) => (own_typed HR4.out e).1
              have kg : Kept (fun k => some k = u5.ownBlock) w4 W := (((Kept.refl _ w4).alloc o).drew).grown hW (fun k hk => .inl hk.symm)
              refine ⟨kg.cell y1 (fun e => ?_), kg.cell f0 (fun e => ?_), kg.cell cb (fun e => ?_), kg.cell c5 (fun e => ?_)⟩
              · have : w.heap.size ≤ gb := hlt gb e.symm
                omega
              · exact hne e
              · have : w.heap.size ≤ b := hlt b e.symm
                omega
              · have : w.heap.size ≤ l := hlt l e.symm
                omega
            have KG := Lib.hid hKG
            have K0 := Lib.hid (show (fun W : World => (W.cell? ⟨gb, i * 5 + 1, none⟩ = some (.int .i64 t0) ∧ W.cell? ⟨w2.heap.size, 0, none⟩ = some (.int .i64 xd) ∧ W.cell? ⟨b, 0, none⟩ = some (.pointer (some ⟨l, 0, none⟩)) ∧ W.cell? ⟨l, 5, none⟩ = some (.int .i64 g.p.air))) w4.drew from ⟨y1, f0, cb, c5⟩)
            have K1 := Lib.hid (fun o => show (fun W : World => (W.cell? ⟨gb, i * 5 + 1, none⟩ = some (.int .i64 t0) ∧ W.cell? ⟨w2.heap.size, 0, none⟩ = some (.int .i64 xd) ∧ W.cell? ⟨b, 0, none⟩ = some (.pointer (some ⟨l, 0, none⟩)) ∧ W.cell? ⟨l, 5, none⟩ = some (.int .i64 g.p.air))) ((w4.alloc o).drew) from (hKG o _ (World.grownBy.refl _ _)))
            have hbl4 := World.block_lt_of_cell? _ _ cb
            clear hKG hFn
            go_region_held3 (fun W => (W.cell? ⟨gb, i * 5 + 1, none⟩ = some (.int .i64 t0) ∧ W.cell? ⟨w2.heap.size, 0, none⟩ = some (.int .i64 xd) ∧ W.cell? ⟨b, 0, none⟩ = some (.pointer (some ⟨l, 0, none⟩)) ∧ W.cell? ⟨l, 5, none⟩ = some (.int .i64 g.p.air))) (first | with_reducible exact K5.out | with_reducible exact K1.out _ | with_reducible exact K0.out | exact K0.out) (first
              | (refine step_append_row rfl (.tmp 42) (.tmp 62) 49 rfl w.heap.size 65 i0 _ 3 24 Try.underlying49 hi0 hz0 hz1 hz2 rfl (by decide) u5 LL.length (LL.flatMap duC) rfl ((HR4.out.alloc _).drew) ⟨w4.heap.size, 0, none⟩ 1 1 (duC ⟨(j : Int), 0, t0 + xd + g.p.air⟩) rfl rfl (fun j u hu => World.news_of_block (Whole.new w4 _ _).drew j u hu) (HON.out _) (by simp only [maxLen]; omega) (by omega) (by simp; omega) ?_; intro v' w5 q1 q2 q3; obtain ⟨gv, cv, rfl⟩ := own_slice q1; have HQ := Lib.hid (And.intro q1 (And.intro q2 q3)); have K5 := Lib.hid (KG.out _ _ q2); clear q1 q2 q3))
            have hfin : DueI w b l (.slice (some ⟨gb, 0, none⟩) As.length cap) As g S (([] : List Du) ++ dueTo 0 (a.s.t + g.p.air) a.s.l0 (j + 1)) (.slice (some ⟨gv, 0, none⟩) (LL.length + 1) cv) w5 := by
              have hb5 : Below w.heap.size w w5 := ((HB4.out.alloc HB4.out.size _).drew).grown HQ.out.2.1 (by show w.heap.size ≤ (w4.alloc _).heap.size; simp; omega) (fun k e => (own_typed HR4.out e).1)
              refine ⟨hb5, HH.out.later hb5, ?_⟩
              rw [HL.out, ← List.append_assoc, ← HLL.out, List.length_append, List.flatMap_append, List.flatMap_singleton, ← HT0.out, show t0 + g.p.air + xd = t0 + xd + g.p.air by omega]
              exact HQ.out.1
            have HFN := Lib.hid hfin
            clear hfin c5 c16 cb y1 f0 z1 z2
            go_wp2
            go_roundw
            case rel => exact ⟨_, _, _, _, ⟨j + 1, by omega, by go_num, HFN.out⟩, rfl, rfl, rfl, rfl⟩
            case measure => simp [intOf]; omega
          · have hLst := dueTo_lost (c := 0) (t := a.s.t + g.p.air) (l := a.s.l0) (k := j) (by rw [← HX.out])
            have HL := Lib.hid hLst
            have hb4 := (Below.refl w2.heap.size w2).alloc (Nat.le_refl _) (.cells #[.int .i64 xd, .bool true, .bool cu] 47)
            have HJ := Lib.hid (show DueI w b l (.slice (some ⟨gb, 0, none⟩) As.length cap) As g S (([] : List Du) ++ dueTo 0 (a.s.t + g.p.air) a.s.l0 j) u5 (w2.alloc (.cells #[.int .i64 xd, .bool true, .bool cu] 47)) from ⟨k_then hb4 hJ.1, hJ.2.1.later hb4, hJ.2.2.alloc _⟩)
            clear hLst hJ hb4
            go_wp2
            go_roundw
            case rel => exact ⟨j + 1, by omega, by go_num, by rw [HL.out]; exact HJ.out⟩
            case measure => simp [intOf]; omega
        · obtain rfl : j = m0 := by omega
          have HJ := Lib.hid hJ
          clear hJ
          go_wp2
          go_roundw
          case rel => exact ⟨0 + 1, by omega, by go_num, by rw [if_neg (by decide), if_pos rfl, HD.out.1]; exact HJ.out⟩
          case measure => simp [intOf]
    · rw [if_neg (by decide), if_pos rfl] at hI
      have HI := Lib.hid hI
      clear hI
      have hx0 := fun W => index0 A0 A1 m0 d0 m1 d1 W
      have hx1 := fun W => index1 A0 A1 m0 d0 m1 d1 W
      go_upto_region 9 with fail
      clear hx0 hx1
      go_loopw [5, 34] (fun v2 jv wi => ∃ j : Nat, j ≤ m1 ∧ jv = .int .i64 (j : Int) ∧ DueI w b l (.slice (some ⟨gb, 0, none⟩) As.length cap) As g S (D0 ++ dueTo 1 (a.s.t + g.p.air) a.s.l1 j) v2 wi) (fun _ jv _ => m1 - (intOf jv).toNat)
      case atStart => exact ⟨0, by omega, rfl, by rw [dueTo_zero, List.append_nil]; exact HI.out⟩
      case round =>
        obtain ⟨w2, rfl⟩ : ∃ x, x = wr := ⟨_, rfl⟩
        obtain ⟨j, hj, rfl, hJ⟩ := hrel
        clear HI
        by_cases hlt : j < m1
        · obtain ⟨g1, o1, hA0, hA2⟩ := (HR.out.2.1.later hJ.1).get (i := j) hlt
          dsimp only at hA0
          subst hA0
          obtain ⟨x, hx⟩ : ∃ x, x = a.s.l1.getD j default := ⟨_, rfl⟩
          rw [← hx] at hA2
          obtain ⟨a0, a1, a2⟩ := faC_cells hA2
          have e3 : (0 : Int) ≤ (j : Int) := by omega
          have e4 : (j : Int) < (m1 : Int) := by omega
          have HX := Lib.hid hx
          have hxd : g.p.dmin ≤ x.d ∧ x.d ≤ g.p.dmax := by
            have hjl : j < a.s.l1.length := by have := HR.out.2.2.2; omega
            have hmem : x ∈ a.s.l1 := by rw [hx, List.getD_eq_getElem?_getD, List.getElem?_eq_getElem hjl]; exact List.getElem_mem hjl
            exact HBD.out.2 x hmem
          obtain ⟨xd, lo, cu⟩ := x
          dsimp only at a0 a1 a2 hxd
          clear hx hA2
          cases lo
          · have hLst := dueTo_here (c := 1) (t := a.s.t + g.p.air) (l := a.s.l1) (k := j) (by rw [← HX.out])
            rw [show (a.s.l1.getD j default).d = xd by rw [← HX.out]] at hLst
            have HL := Lib.hid hLst
            have hDl := dueTo_length 1 (a.s.t + g.p.air) a.s.l1 j
            have HJ := Lib.hid hJ
            clear hLst hJ
            go_upto_region 12 with fail
            clear a0 a1 a2
            obtain ⟨w4, hw4⟩ : ∃ w4, w4 = w2.alloc (.cells #[.int .i64 xd, .bool false, .bool cu] 47) := ⟨_, rfl⟩
            rw [← hw4]
            have hb4 : Below w2.heap.size w2 w4 := hw4 ▸ (Below.refl _ _).alloc (Nat.le_refl _) _
            have hF4 : Whole w4 w2.heap.size 47 #[.int .i64 xd, .bool false, .bool cu] := hw4 ▸ Whole.new _ _ _
            have hB4 := HJ.out.2.1.later hb4
            have hr4 : w4.ownsRow w.heap.size 65 3 u5 (D0 ++ dueTo 1 (a.s.t + g.p.air) a.s.l1 j).length ((D0 ++ dueTo 1 (a.s.t + g.p.air) a.s.l1 j).flatMap duC) := hw4 ▸ HJ.out.2.2.alloc _
            have hbw := k_then hb4 HJ.out.1
            obtain ⟨LL, hLL⟩ : ∃ LL, LL = D0 ++ dueTo 1 (a.s.t + g.p.air) a.s.l1 j := ⟨_, rfl⟩
            have hLLl : LL.length ≤ 64 := by rw [hLL, List.length_append]; have h0 : ([] : List Du).length = 0 := rfl; omega
            have z1 : IntKind.i64.wrap (t0 + xd) = t0 + xd := IntWalk.i64_in _ (by omega)
            have z2 : IntKind.i64.wrap (t0 + xd + g.p.air) = t0 + xd + g.p.air := IntWalk.i64_in _ (by omega)
            rw [← hLL] at hr4
            obtain ⟨⟨_, _, c5, _, _⟩, ⟨c16, _, _⟩, _⟩ := log_cells hB4.log
            have cb := hB4.bus.cell 0
            have y1 := HAT.out _ hB4
            have f0 := hF4.cell 0
            simp at cb f0
            have hz := hbw.size
            have HB4 := Lib.hid hbw
            have HBB := Lib.hid (And.intro hB4 hb4)
            have HR4 := Lib.hid hr4
            have HLL := Lib.hid hLL
            have HON := Lib.hid (fun d => du_one d)
            have hFn : some w2.heap.size ≠ u5.ownBlock := hF4.not_row (by decide) hr4
            have hbw0 := HH.out.bus.lt
            have hlw0 := HH.out.log.lt
            clear hw4 hb4 hF4 hB4 hr4 hbw hLL
            have hKG : ∀ (o : Obj) (W : World), ((w4.alloc o).drew).grownBy W u5.ownBlock → (W.cell? ⟨gb, i * 5 + 1, none⟩ = some (.int .i64 t0) ∧ W.cell? ⟨w2.heap.size, 0, none⟩ = some (.int .i64 xd) ∧ W.cell? ⟨b, 0, none⟩ = some (.pointer (some ⟨l, 0, none⟩)) ∧ W.cell? ⟨l, 5, none⟩ = some (.int .i64 g.p.air)) := fun o W hW => by
              have hne := hFn
              have hlt := fun k (e : u5.ownBlock = some k) => (own_typed HR4.out e).1
              have kg : Kept (fun k => some k = u5.ownBlock) w4 W := (((Kept.refl _ w4).alloc o).drew).grown hW (fun k hk => .inl hk.symm)
              refine ⟨kg.cell y1 (fun e => ?_), kg.cell f0 (fun e => ?_), kg.cell cb (fun e => ?_), kg.cell c5 (fun e => ?_)⟩
              · have : w.heap.size ≤ gb := hlt gb e.symm
                omega
              · exact hne e
              · have : w.heap.size ≤ b := hlt b e.symm
                omega
              · have : w.heap.size ≤ l := hlt l e.symm
                omega
            have KG := Lib.hid hKG
            have K0 := Lib.hid (show (fun W : World => (W.cell? ⟨gb, i * 5 + 1, none⟩ = some (.int .i64 t0) ∧ W.cell? ⟨w2.heap.size, 0, none⟩ = some (.int .i64 xd) ∧ W.cell? ⟨b, 0, none⟩ = some (.pointer (some ⟨l, 0, none⟩)) ∧ W.cell? ⟨l, 5, none⟩ = some (.int .i64 g.p.air))) w4.drew from ⟨y1, f0, cb, c5⟩)
            have K1 := Lib.hid (fun o => show (fun W : World => (W.cell? ⟨gb, i * 5 + 1, none⟩ = some (.int .i64 t0) ∧ W.cell? ⟨w2.heap.size, 0, none⟩ = some (.int .i64 xd) ∧ W.cell? ⟨b, 0, none⟩ = some (.pointer (some ⟨l, 0, none⟩)) ∧ W.cell? ⟨l, 5, none⟩ = some (.int .i64 g.p.air))) ((w4.alloc o).drew) from (hKG o _ (World.grownBy.refl _ _)))
            have hbl4 := World.block_lt_of_cell? _ _ cb
            clear hKG hFn
            go_region_held3 (fun W => (W.cell? ⟨gb, i * 5 + 1, none⟩ = some (.int .i64 t0) ∧ W.cell? ⟨w2.heap.size, 0, none⟩ = some (.int .i64 xd) ∧ W.cell? ⟨b, 0, none⟩ = some (.pointer (some ⟨l, 0, none⟩)) ∧ W.cell? ⟨l, 5, none⟩ = some (.int .i64 g.p.air))) (first | with_reducible exact K5.out | with_reducible exact K1.out _ | with_reducible exact K0.out | exact K0.out) (first
              | (refine step_append_row rfl (.tmp 42) (.tmp 62) 49 rfl w.heap.size 65 i0 _ 3 24 Try.underlying49 hi0 hz0 hz1 hz2 rfl (by decide) u5 LL.length (LL.flatMap duC) rfl ((HR4.out.alloc _).drew) ⟨w4.heap.size, 0, none⟩ 1 1 (duC ⟨(j : Int), 1, t0 + xd + g.p.air⟩) rfl rfl (fun j u hu => World.news_of_block (Whole.new w4 _ _).drew j u hu) (HON.out _) (by simp only [maxLen]; omega) (by omega) (by simp; omega) ?_; intro v' w5 q1 q2 q3; obtain ⟨gv, cv, rfl⟩ := own_slice q1; have HQ := Lib.hid (And.intro q1 (And.intro q2 q3)); have K5 := Lib.hid (KG.out _ _ q2); clear q1 q2 q3))
            have hfin : DueI w b l (.slice (some ⟨gb, 0, none⟩) As.length cap) As g S (D0 ++ dueTo 1 (a.s.t + g.p.air) a.s.l1 (j + 1)) (.slice (some ⟨gv, 0, none⟩) (LL.length + 1) cv) w5 := by
              have hb5 : Below w.heap.size w w5 := ((HB4.out.alloc HB4.out.size _).drew).grown HQ.out.2.1 (by show w.heap.size ≤ (w4.alloc _).heap.size; simp; omega) (fun k e => (own_typed HR4.out e).1)
              refine ⟨hb5, HH.out.later hb5, ?_⟩
              rw [HL.out, ← List.append_assoc, ← HLL.out, List.length_append, List.flatMap_append, List.flatMap_singleton, ← HT0.out, show t0 + g.p.air + xd = t0 + xd + g.p.air by omega]
              exact HQ.out.1
            have HFN := Lib.hid hfin
            clear hfin c5 c16 cb y1 f0 z1 z2
            go_wp2
            go_roundw
            case rel => exact ⟨_, _, _, _, ⟨j + 1, by omega, by go_num, HFN.out⟩, rfl, rfl, rfl, rfl⟩
            case measure => simp [intOf]; omega
          · have hLst := dueTo_lost (c := 1) (t := a.s.t + g.p.air) (l := a.s.l1) (k := j) (by rw [← HX.out])
            have HL := Lib.hid hLst
            have hb4 := (Below.refl w2.heap.size w2).alloc (Nat.le_refl _) (.cells #[.int .i64 xd, .bool true, .bool cu] 47)
            have HJ := Lib.hid (show DueI w b l (.slice (some ⟨gb, 0, none⟩) As.length cap) As g S (D0 ++ dueTo 1 (a.s.t + g.p.air) a.s.l1 j) u5 (w2.alloc (.cells #[.int .i64 xd, .bool true, .bool cu] 47)) from ⟨k_then hb4 hJ.1, hJ.2.1.later hb4, hJ.2.2.alloc _⟩)
            clear hLst hJ hb4
            go_wp2
            go_roundw
            case rel => exact ⟨j + 1, by omega, by go_num, by rw [HL.out]; exact HJ.out⟩
            case measure => simp [intOf]; omega
        · obtain rfl : j = m1 := by omega
          have HJ := Lib.hid hJ
          clear hJ
          go_wp2
          go_roundw
          case rel => exact ⟨1 + 1, by omega, by go_num, by rw [if_neg (by decide), if_neg (by decide), HD.out.2]; exact HJ.out⟩
          case measure => simp [intOf]
    · rw [if_neg (by decide), if_neg (by decide)] at hI
      have HI := Lib.hid hI
      clear hI
      go_wp2
      go_ret
      exact ⟨_, rfl, HI.out.2.2, HI.out.1⟩
end
end Go.Proofs.Ytmplidgafdobkaa
