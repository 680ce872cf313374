/- OctetJoined, its walk. -/
import Derived.Test.YtnddlpaffnhigaaTrio
import Derived.Test.YtnddlpaffnhigaaHigh
namespace Go.Proofs.Ytnddlpaffnhigaa
open Go.RowKit

def Loop1 (w : World) (xs : List OpD) (bx by_ bz : Nat) (k : Value) (W : World) : Prop :=
  ∃ j Sx Sy Sz, j ≤ xs.length ∧ k = .int .i64 (j : Int) ∧ Trio w bx by_ bz (writes (some []) (xs.take j)) (some []) (writes (some []) (xs.take j)) Sx Sy Sz W
def Loop2 (w : World) (xs ys : List OpD) (bx by_ bz : Nat) (k : Value) (W : World) : Prop :=
  ∃ j Sx Sy Sz, j ≤ ys.length ∧ k = .int .i64 (j : Int) ∧ Trio w bx by_ bz (writes (some []) xs) (writes (some []) (ys.take j)) (writes (writes (some []) xs) (ys.take j)) Sx Sy Sz W

theorem trio_new (w W : World) (hb : Below w.heap.size w W) : Trio w W.heap.size (W.heap.size + 1) (W.heap.size + 1 + 1) (some []) (some []) (some []) (fun k => k = W.heap.size) (fun k => k = W.heap.size + 1) (fun k => k = W.heap.size + 1 + 1) (((W.alloc zeroOut).alloc zeroOut).alloc zeroOut) := by
  obtain ⟨o1, o2, o3⟩ := three_outs W
  have hz := hb.size
  exact ⟨o1, o2, o3, fun i h1 h2 => by omega, fun i h1 h2 => by omega, fun i h1 h2 => by omega, fun i h => by omega, fun i h => by omega, fun i h => by omega, ((hb.alloc hz _).alloc (by simp; omega) _).alloc (by simp; omega) _⟩

theorem Ops.below {w W : World} {A : Option Addr} {n : Nat} {xs : List OpD} (h : Ops w A n xs) (hb : Below w.heap.size w W) : Ops W A n xs := ⟨h.1, fun h0 => by
  obtain ⟨g, o, e, hg, hat⟩ := h.2 h0
  exact ⟨g, o, e, Nat.lt_of_lt_of_le hg hb.size, fun i hi => (hat i hi).below hg hb⟩⟩

/-- A call's cells in a later world, its bytes' memory older than w. -/
def OpNow (w W : World) (g p : Nat) (x : OpD) (Q : Option Addr) (cq : Nat) : Prop :=
  x.v < 18446744073709551616 ∧ W.cell? ⟨g, p, none⟩ = some (.int .i64 x.kind) ∧ W.cell? ⟨g, p + 1, none⟩ = some (.int .i64 x.n) ∧ W.cell? ⟨g, p + 2, none⟩ = some (.int .u64 (x.v : Int)) ∧ W.cell? ⟨g, p + 3, none⟩ = some (.slice Q x.b.length cq) ∧ Src W Q x.b.length x.b ∧ (0 < x.b.length → ∀ ad, Q = some ad → ad.block < w.heap.size)

theorem Ops.now {w W : World} {A : Option Addr} {n : Nat} {xs : List OpD} (h : Ops w A n xs) (hb : Below w.heap.size w W) {j : Nat} (hj : j < xs.length) : ∃ g o Q cq, A = some ⟨g, o, none⟩ ∧ OpNow w W g (o + j * 4) xs[j] Q cq := by
  obtain ⟨g, o, e, hg, hat⟩ := h.2 (by have := h.1; omega)
  obtain ⟨h0, h1, h2, h3, B, c, h4, h5, h6, h7, h8⟩ := hat j hj
  exact ⟨g, o, B, c, e, h0, (hb.cell (p := ⟨g, _, none⟩) hg).trans h1, (hb.cell (p := ⟨g, _, none⟩) hg).trans h2, (hb.cell (p := ⟨g, _, none⟩) hg).trans h3, (hb.cell (p := ⟨g, _, none⟩) hg).trans h4, h5.below hb, h8⟩

theorem Src.on {w W W' : World} {S : Nat → Prop} {Q : Option Addr} {l : List UInt8} (h : Src W Q l.length l) (k : Kept S W W') (hq : 0 < l.length → ∀ ad, Q = some ad → ad.block < w.heap.size) (hS : ∀ i, S i → w.heap.size ≤ i) : Src W' Q l.length l := by
  rcases Nat.eq_zero_or_pos l.length with h0 | h0
  · exact ⟨rfl, fun h => absurd h (by omega)⟩
  · exact h.kept k (fun ad e hs => by have h1 := hq h0 ad e; have h2 := hS _ hs; omega)

theorem far_of {w : World} {S : Nat → Prop} {Q : Option Addr} {W : World} {n : Nat} (hq : 0 < n → ∀ ad, Q = some ad → ad.block < w.heap.size) (hS : ∀ i, S i → w.heap.size ≤ i) (hz : w.heap.size ≤ W.heap.size) : 0 < n → ∀ ad, Q = some ad → ¬ S ad.block ∧ ad.block < W.heap.size := fun h0 ad e =>
  ⟨fun hs => by have h1 := hq h0 ad e; have h2 := hS _ hs; omega, by have h1 := hq h0 ad e; omega⟩

set_option maxRecDepth 100000 in
set_option maxHeartbeats 2000000 in
theorem join_walk (A B : Option Addr) (n c m d : Nat) (xs ys : List OpD) (w : World) (hx : Ops w A n xs) (hy : Ops w B m ys) (hn : n ≤ 9223372036854775807) (hm : m ≤ 9223372036854775807) :
    Calls Try.prog 8 #[.slice A n c, .slice B m d] w fun e w' => e = .returned (.bool true) ∧ Below w.heap.size w w' := by
  have HX := Lib.hid hx
  have HY := Lib.hid hy
  clear hx hy
  cases gx : greatB xs with
  | true =>
    have GX := Lib.hid gx
    clear gx
    go_enter Try.func8, Try.ntmps8
    go_wp2_with (first
      | (go_at_call 26; refine (alive_any _).mono ?_; rintro e w1 ⟨rfl, b1⟩)
      | (go_at_call 9; refine (great_any A n c xs _ (HX.out.below b1) hn).mono ?_; rintro e w2 ⟨rfl, rfl⟩; rw [GX.out]))
    go_ret
    exact ⟨rfl, b1⟩
  | false =>
    cases gy : greatB ys with
    | true =>
      have GX := Lib.hid gx
      have GY := Lib.hid gy
      clear gx gy
      go_enter Try.func8, Try.ntmps8
      go_wp2_with fail
      refine (alive_any _).mono ?_
      rintro e w1 ⟨rfl, b1⟩
      go_wp2_with fail
      refine (great_any A n c xs _ (HX.out.below b1) hn).mono ?_
      rintro e w2 ⟨rfl, rfl⟩
      rw [GX.out]
      go_wp2_with fail
      refine (great_any B m d ys _ (HY.out.below b1) hm).mono ?_
      rintro e w2 ⟨rfl, rfl⟩
      rw [GY.out]
      go_wp2
      go_ret
      exact ⟨rfl, b1⟩
    | false =>
      obtain ⟨hx1, hx2⟩ := not_great gx
      obtain ⟨hy1, hy2⟩ := not_great gy
      have GX := Lib.hid gx
      have GY := Lib.hid gy
      clear gx gy
      obtain rfl := HX.out.1
      obtain rfl := HY.out.1
      go_enter Try.func8, Try.ntmps8
      go_wp2_with fail
      refine (alive_any _).mono ?_
      rintro e w1 ⟨rfl, b1⟩
      go_wp2_with fail
      refine (great_any A _ c xs _ (HX.out.below b1) hn).mono ?_
      rintro e w2 ⟨rfl, rfl⟩
      rw [GX.out]
      go_wp2_with fail
      refine (great_any B _ d ys _ (HY.out.below b1) hm).mono ?_
      rintro e w2 ⟨rfl, rfl⟩
      rw [GY.out]
      go_wp2_with fail
      have t0 := trio_new w w1 b1
      go_loopw [10, 28] (fun _ k W => Loop1 w xs w1.heap.size (w1.heap.size + 1) (w1.heap.size + 1 + 1) k W) (fun _ k _ => xs.length - (intOf k).toNat)
      case atStart => exact ⟨0, _, _, _, Nat.zero_le _, rfl, t0⟩
      case round =>
        obtain ⟨j, Sx, Sy, Sz, hj, rfl, ht⟩ := hrel
        by_cases hlt : j < xs.length
        · obtain ⟨g, o, Q, cq, rfl, hv, c0, c1, c2, c3, hsrc, hq⟩ := HX.out.now ht.below hlt
          have hl1 := writes_len (some []) (xs.take j)
          have hl2 := opsSum_take xs j
          have hl3 : xs[j].b.length ≤ 20000 := by
            have h1 := opsSum_take xs (j + 1)
            rw [List.take_succ_eq_append_getElem hlt, opsSum_snoc] at h1
            omega
          have hl4 : ((writes (some []) (xs.take j)).getD []).length ≤ 21000 := by
            simp only [Option.getD_some, List.length_nil, List.length_take] at hl1
            omega
          have HW := Lib.hid (show writes (some []) (xs.take (j + 1)) = writeSt (writes (some []) (xs.take j)) xs[j] from by rw [List.take_succ_eq_append_getElem hlt, writes_snoc])
          clear hl1 hl2
          generalize xs[j] = x at *
          have kb : Kept Empty wr (wr.alloc (.cells #[.int .i64 x.kind, .int .i64 x.n, .int .u64 (x.v : Int), .slice Q x.b.length cq] 34)) := (Kept.refl _ _).alloc _
          have ht1 := ht.keep kb
          have hbox := Whole.new wr 34 #[.int .i64 x.kind, .int .i64 x.n, .int .u64 (x.v : Int), .slice Q x.b.length cq]
          have hs1 := hsrc.kept kb (fun _ _ h => h)
          go_wp2_with fail
          refine (write_any _ Sx _ _ x Q cq ht1.x hv hs1 (far_of hq ht1.nx ht1.below.size) (by omega)).mono ?_
          rintro e w5 ⟨rfl, o5, k5⟩
          have ht2 := ht1.turnX o5 k5
          have hbox2 := hbox.kept k5 (fun h => by have := ht.x.lt _ h; omega)
          have hs2 := hs1.on k5 hq ht1.nx
          have d0 := hbox2.cell 0
          have d1 := hbox2.cell 1
          have d2 := hbox2.cell 2
          have d3 := hbox2.cell 3
          simp at d0 d1 d2 d3
          go_wp2_with fail
          refine (write_any _ Sz _ _ x Q cq ht2.z hv hs2 (far_of hq ht2.nz ht2.below.size) (by omega)).mono ?_
          rintro e w6 ⟨rfl, o6, k6⟩
          have ht3 := ht2.turnZ o6 k6
          rw [← HW.out] at ht3
          go_wp2
          exact ⟨⟨j + 1, _, _, _, by omega, by go_num, ht3⟩, by simp [intOf]; omega⟩
        · obtain rfl : j = xs.length := by omega
          rw [List.take_length] at ht
          go_wp2_with fail
          go_loopw [12, 39] (fun _ k W => Loop2 w xs ys w1.heap.size (w1.heap.size + 1) (w1.heap.size + 1 + 1) k W) (fun _ k _ => ys.length - (intOf k).toNat)
          case atStart => exact ⟨0, _, _, _, Nat.zero_le _, rfl, ht⟩
          case round =>
            clear ht
            obtain ⟨j, Sx, Sy, Sz, hj, rfl, ht⟩ := hrel
            by_cases hlt : j < ys.length
            · obtain ⟨g, o, Q, cq, rfl, hv, c0, c1, c2, c3, hsrc, hq⟩ := HY.out.now ht.below hlt
              have hl0 := writes_len (some []) xs
              have hl1 := writes_len (some []) (ys.take j)
              have hl5 := writes_len (writes (some []) xs) (ys.take j)
              have hl2 := opsSum_take ys j
              have hl3 : ys[j].b.length ≤ 20000 := by
                have h1 := opsSum_take ys (j + 1)
                rw [List.take_succ_eq_append_getElem hlt, opsSum_snoc] at h1
                omega
              simp only [Option.getD_some, List.length_nil, List.length_take] at hl0 hl1 hl5
              have hl4 : ((writes (some []) (ys.take j)).getD []).length ≤ 21000 := by omega
              have hl6 : ((writes (writes (some []) xs) (ys.take j)).getD []).length ≤ 42000 := by omega
              have HW := Lib.hid (show writes (some []) (ys.take (j + 1)) = writeSt (writes (some []) (ys.take j)) ys[j] from by rw [List.take_succ_eq_append_getElem hlt, writes_snoc])
              have HZ := Lib.hid (show writes (writes (some []) xs) (ys.take (j + 1)) = writeSt (writes (writes (some []) xs) (ys.take j)) ys[j] from by rw [List.take_succ_eq_append_getElem hlt, writes_snoc])
              clear hl0 hl1 hl2 hl5
              generalize ys[j] = x at *
              have kb : Kept Empty wr (wr.alloc (.cells #[.int .i64 x.kind, .int .i64 x.n, .int .u64 (x.v : Int), .slice Q x.b.length cq] 34)) := (Kept.refl _ _).alloc _
              have ht1 := ht.keep kb
              have hbox := Whole.new wr 34 #[.int .i64 x.kind, .int .i64 x.n, .int .u64 (x.v : Int), .slice Q x.b.length cq]
              have hs1 := hsrc.kept kb (fun _ _ h => h)
              go_wp2_with fail
              refine (write_any _ Sy _ _ x Q cq ht1.y hv hs1 (far_of hq ht1.ny ht1.below.size) (by omega)).mono ?_
              rintro e w5 ⟨rfl, o5, k5⟩
              have ht2 := ht1.turnY o5 k5
              have hbox2 := hbox.kept k5 (fun h => by have := ht.y.lt _ h; omega)
              have hs2 := hs1.on k5 hq ht1.ny
              have d0 := hbox2.cell 0
              have d1 := hbox2.cell 1
              have d2 := hbox2.cell 2
              have d3 := hbox2.cell 3
              simp at d0 d1 d2 d3
              go_wp2_with fail
              refine (write_any _ Sz _ _ x Q cq ht2.z hv hs2 (far_of hq ht2.nz ht2.below.size) (by omega)).mono ?_
              rintro e w6 ⟨rfl, o6, k6⟩
              have ht3 := ht2.turnZ o6 k6
              rw [← HW.out, ← HZ.out] at ht3
              go_wp2
              exact ⟨⟨j + 1, _, _, _, by omega, by go_num, ht3⟩, by simp [intOf]; omega⟩
            · obtain rfl : j = ys.length := by omega
              rw [List.take_length] at ht
              have hl0 := writes_len (some []) xs
              have hl1 := writes_len (some []) ys
              have hzs := writes_bind (writes (some []) xs) ys
              simp only [Option.getD_some, List.length_nil] at hl0 hl1
              have hX : ((writes (some []) xs).getD []).length ≤ 21000 := by omega
              have hY : ((writes (some []) ys).getD []).length ≤ 21000 := by omega
              rw [hzs] at ht
              clear hl0 hl1 hzs t0 HX HY GX GY
              generalize writes (some []) xs = X at *
              generalize writes (some []) ys = Y at *
              have k0 : Kept Empty wr (wr.alloc zeroOut) := (Kept.refl _ _).alloc _
              have ht1 := ht.keep k0
              have j1 := OutAt.new wr
              go_wp2_with fail
              refine (all_any _ Sx _ X ht1.x (by omega)).mono ?_
              rintro e w5 ⟨v1, rfl, hown1, hbl1⟩
              obtain ⟨A1, c1, rfl, _, s1, t1, _⟩ := Src.of_own hown1
              have ht2 := ht1.keep (Kept.of_below hbl1 Empty)
              have j2 := j1.keep (Kept.of_below hbl1 Empty) (fun _ _ h => h)
              go_wp2_with fail
              refine (tail_any _ _ _ (some []) A1 c1 _ j2 s1 (fun _ ad e h => by have h1 := (t1 ad e).2; simp at h1; omega) (by simp only [Option.getD_some, List.length_nil]; omega)).mono ?_
              rintro e w6 ⟨rfl, j3, k3⟩
              have hwz := ht.below.size
              have ht3 := ht2.far k3 (fun i h1 h2 => by have := ht.x.lt i h1; omega) (fun i h1 h2 => by have := ht.y.lt i h1; omega) (fun i h1 h2 => by have := ht.z.lt i h1; omega) (fun i h => by omega)
              have gfar : ∀ i, Grow (fun k => k = wr.heap.size) w5 w6 i → wr.heap.size ≤ i := Grow.on (fun i e => by omega) (by have := hbl1.size; simp at this; omega)
              have e3 : Option.map (· ++ X.getD []) (some ([] : List UInt8)) = some (X.getD []) := rfl
              rw [e3] at j3
              revert j3 gfar
              generalize Grow (fun k => k = wr.heap.size) w5 w6 = T3
              intro j3 gfar
              clear e3 hown1 hbl1 s1 t1 ht1 ht2 j1 j2 k3
              go_wp2_with fail
              refine (all_any _ Sy _ Y ht3.y (by omega)).mono ?_
              rintro e w7 ⟨v2, rfl, hown2, hbl2⟩
              obtain ⟨A2, c2, rfl, _, s2, t2, _⟩ := Src.of_own hown2
              have ht4 := ht3.keep (Kept.of_below hbl2 Empty)
              have j4 := j3.keep (Kept.of_below hbl2 Empty) (fun _ _ h => h)
              go_wp2_with fail
              refine (tail_any _ _ _ (some (X.getD [])) A2 c2 _ j4 s2 (fun _ ad e h => by have h1 := (t2 ad e).2; have h2 := j3.lt _ h; omega) (by simp only [Option.getD_some]; omega)).mono ?_
              rintro e w8 ⟨rfl, j5, k5⟩
              have ht5 := ht4.far k5 (fun i h1 h2 => by have := ht.x.lt i h1; have := gfar i h2; omega) (fun i h1 h2 => by have := ht.y.lt i h1; have := gfar i h2; omega) (fun i h1 h2 => by have := ht.z.lt i h1; have := gfar i h2; omega) (fun i h => by have := gfar i h; omega)
              have e5 : Option.map (· ++ Y.getD []) (some (X.getD [])) = some (X.getD [] ++ Y.getD []) := rfl
              rw [e5] at j5
              revert j5
              generalize Grow T3 w7 w8 = T5
              intro j5
              clear e5 hown2 hbl2 s2 t2 ht3 ht4 j3 j4 k5 ht gfar k0
              cases X with
              | none =>
                have p1 := Lib.hid ht5.x.spoilt
                have p2 := Lib.hid (OutAt.spoilt (st := none) ht5.z)
                have p3 := Lib.hid (len_any _ _ _ none ht5.z (by simp))
                go_wp2_with (first
                  | (go_at_call_of 17 (Value.pointer (some (Addr.mk w1.heap.size 0 none))); refine p1.out.mono ?_; rintro e w9 ⟨rfl, rfl⟩)
                  | (go_at_call 17; refine p2.out.mono ?_; rintro e w9 ⟨rfl, rfl⟩)
                  | (go_at_call 16; refine p3.out.mono ?_; rintro e w9 ⟨rfl, k, rfl⟩))
                go_ret
                exact ⟨rfl, below_drewN ht5.below _⟩
              | some lx =>
                cases Y with
                | none =>
                  have p1 := Lib.hid ht5.x.spoilt
                  have p0 := Lib.hid ht5.y.spoilt
                  have p2 := Lib.hid (OutAt.spoilt (st := none) ht5.z)
                  have p3 := Lib.hid (len_any _ _ _ none ht5.z (by simp))
                  go_wp2_with fail
                  refine p1.out.mono ?_
                  rintro e w9 ⟨rfl, rfl⟩
                  go_wp2_with fail
                  refine p0.out.mono ?_
                  rintro e w9 ⟨rfl, rfl⟩
                  go_wp2_with fail
                  refine p2.out.mono ?_
                  rintro e w9 ⟨rfl, rfl⟩
                  go_wp2_with fail
                  refine p3.out.mono ?_
                  rintro e w9 ⟨rfl, k, rfl⟩
                  go_wp2
                  go_ret
                  exact ⟨rfl, below_drewN ht5.below _⟩
                | some ly =>
                  simp only [Option.getD_some] at hX hY j5
                  obtain ⟨L, hL⟩ : ∃ L, L = lx ++ ly := ⟨_, rfl⟩
                  have ht5' : Trio w w1.heap.size (w1.heap.size + 1) (w1.heap.size + 1 + 1) (some lx) (some ly) (some L) Sx Sy Sz w8 := by rw [hL]; exact ht5
                  rw [← hL] at j5
                  have hll : L.length = lx.length + ly.length := by rw [hL, List.length_append]
                  have HLL := Lib.hid hll
                  have hl : L.length ≤ 549755813888 := by omega
                  have hw1 : IntKind.i64.wrap ((lx.length : Int) + (ly.length : Int)) = (lx.length : Int) + (ly.length : Int) := by rw [IntKind.wrap_i64]; omega
                  have hq1 : ((L.length : Int) == IntKind.i64.wrap ((lx.length : Int) + (ly.length : Int))) = true := by rw [hw1, beq_iff_eq]; omega
                  have hq2 : ((L.length : Int) == (lx.length : Int) + (ly.length : Int)) = true := by rw [beq_iff_eq]; omega
                  clear hw1
                  clear ht5 hll hL
                  have p1 := Lib.hid ht5'.x.spoilt
                  have p0 := Lib.hid ht5'.y.spoilt
                  have ht5 := ht5'
                  clear ht5'
                  have ht6 := ht5.keep (Kept.drew (Kept.refl Empty _))
                  have j6 := j5.keep (Kept.drew (Kept.refl Empty _)) (fun _ _ h => h)
                  have p2 := Lib.hid ht6.z.spoilt
                  have p3 := Lib.hid (all_some _ _ _ L j6 hl)
                  go_wp2_with fail
                  refine p1.out.mono ?_
                  rintro e w9 ⟨rfl, rfl⟩
                  go_wp2_with fail
                  refine p0.out.mono ?_
                  rintro e w9 ⟨rfl, rfl⟩
                  go_wp2_with fail
                  go_region_with (first
                    | (go_at_call 17; refine p2.out.mono ?_; rintro e w9 ⟨rfl, rfl⟩)
                    | (go_at_call 15
                       refine (all_some _ _ _ _ ht7.z hl).mono ?_
                       rintro e w11 ⟨v4, rfl, hown4, hbl4⟩
                       obtain ⟨A4, c4, rfl, _, s4, _, _⟩ := Src.of_own hown4
                       have ht8 := ht7.keep (Kept.of_below hbl4 Empty)
                       have hcv4 := Src.convert (P := Try.prog) s4 c4 28 5 9 Try.underlying28 Try.underlying5 Try.underlying9
                       have hcv5 := Src.convert (P := Try.prog) (s3.below hbl4) c3 28 5 9 Try.underlying28 Try.underlying5 Try.underlying9)
                    | (go_at_call 15
                       refine p3.out.mono ?_
                       rintro e w10 ⟨v3, rfl, hown3, hbl3⟩
                       obtain ⟨A3, c3, rfl, _, s3, _, _⟩ := Src.of_own hown3
                       have ht7 := ht6.keep (Kept.of_below hbl3 Empty)
                       have hcv3 := Src.convert (P := Try.prog) s3 c3 28 5 9 Try.underlying28 Try.underlying5 Try.underlying9)
                    | (go_at_call_of 16 (Value.pointer (some (Addr.mk w1.heap.size 0 none)))
                       refine (len_some _ _ _ _ ht9.x (by omega)).mono ?_
                       rintro e w13 ⟨rfl, k2, rfl⟩
                       have ht10 := ht8.keep ((Kept.refl Empty _).drewN (k1 + k2)))
                    | (go_at_call 16
                       refine (len_some _ _ _ _ ht10.y (by omega)).mono ?_
                       rintro e w14 ⟨rfl, k3, rfl⟩)
                    | (go_at_call 16
                       refine (len_some _ _ _ _ ht8.z hl).mono ?_
                       rintro e w12 ⟨rfl, k1, rfl⟩
                       have ht9 := ht8.keep ((Kept.refl Empty _).drewN k1)))
                  all_goals
                    go_wp2
                    go_ret
                    exact ⟨rfl, below_drewN ht8.below _⟩

end Go.Proofs.Ytnddlpaffnhigaa
