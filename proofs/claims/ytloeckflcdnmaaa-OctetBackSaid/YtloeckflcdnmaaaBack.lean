/- OctetBack, its walk. -/
import Derived.Test.YtloeckflcdnmaaaBackD
import Derived.Test.YtloeckflcdnmaaaNow
import Derived.Deep.RegionHeld3
import Derived.Deep.DrawnRows
import Derived.Deep.DeepCutAuto
namespace Go.Proofs.Ytloeckflcdnmaaa
open Go.RowKit
attribute [local go_sem ↓] Go.wp_at_zero Go.wp_at_succ

theorem op_info : (Try.prog.info? 34).map (fun i => (i.zero, i.size, i.bytes)) = some (some (.agg #[.int .i64 0, .int .i64 0, .int .u64 0, .slice none 0 0]), 4, 48) := by kernel_rfl

set_option maxRecDepth 100000 in
set_option maxHeartbeats 2000000 in
theorem back_walk (A : Option Addr) (n c : Nat) (xs : List OpD) (w : World) (hx : Ops w A n xs) (hn : n ≤ 9223372036854775807) :
    Calls Try.prog 5 #[.slice A n c] w fun e w' => e = .returned (.bool true) ∧ Below w.heap.size w w' := by
  obtain ⟨i0, hi0, hz0, hz1, hz2⟩ := info_parts op_info
  have HX := Lib.hid hx
  clear hx
  cases gx : greatB xs with
  | true =>
    have GX := Lib.hid gx
    clear gx
    go_enter Try.func5, Try.ntmps5
    go_wp2_with (first
      | (go_at_call 26; refine (alive_any _).mono ?_; rintro e w1 ⟨rfl, b1⟩)
      | (go_at_call 9; refine (great_any A n c xs _ (HX.out.below b1) hn).mono ?_; rintro e w2 ⟨rfl, rfl⟩; rw [GX.out]))
    go_ret
    exact ⟨rfl, b1⟩
  | false =>
    obtain ⟨hx1, hx2⟩ := not_great gx
    have GX := Lib.hid gx
    clear gx
    obtain rfl := HX.out.1
    go_enter Try.func5, Try.ntmps5
    go_wp2_with fail
    refine (alive_any _).mono ?_
    rintro e w1 ⟨rfl, b1⟩
    go_wp2_with fail
    refine (great_any A _ c xs _ (HX.out.below b1) hn).mono ?_
    rintro e w2 ⟨rfl, rfl⟩
    rw [GX.out]
    go_wp2_with fail
    go_loopw [5, 6, 7, 22] (fun v _ _ k W => BackOut w xs w1.heap.size v k W) (fun _ _ _ k _ => xs.length - (intOf k).toNat)
    case atStart => exact ⟨0, _, [], Nat.zero_le _, rfl, OutAt.new w1, fun i e => by have := b1.size; omega, b1.alloc b1.size _, World.ownsRow_nil _ _ _ _, rowOf_nil _, fun g e => by simp [Value.ownBlock] at e⟩
    case round =>
      obtain ⟨j, S, vs, hj, rfl, ho, hS, hb, hrow, hvs, hvS⟩ := hrel
      by_cases hlt : j < xs.length
      · obtain ⟨g, o, Q, cq, rfl, hnow⟩ := HX.out.each hlt
        have hl1 := bytesAll_le (xs.take j)
        have hl2 := opsSum_take xs j
        have hl3 : xs[j].b.length ≤ 20000 := by
          have h1 := opsSum_take xs (j + 1)
          rw [List.take_succ_eq_append_getElem hlt, opsSum_snoc] at h1
          omega
        have hl4 : (bytesAll (doneOf (xs.take j))).length ≤ 21000 := by
          rw [List.length_take] at hl1
          omega
        have hl5 : (doneOf (xs.take j)).length ≤ 100 := by
          have := doneOf_length (xs.take j)
          rw [List.length_take] at this
          omega
        have HD := Lib.hid (show doneOf (xs.take (j + 1)) = if goodB xs[j] then doneOf (xs.take j) ++ [xs[j]] else doneOf (xs.take j) from by rw [List.take_succ_eq_append_getElem hlt, doneOf_snoc])
        clear hl1 hl2
        generalize doneOf (xs.take j) = ds at *
        generalize xs[j] = x at *
        have hz := hb.size
        have HN := Lib.hid hnow
        clear hnow
        obtain ⟨hv, c0, c1, c2, c3, hsrc, hq⟩ := HN.out wr hb
        have k0 : Kept Empty wr (wr.alloc (.cells #[.pointer none, .int .i64 0, .bool false] 26)) := (Kept.refl _ _).alloc _
        have bp := k0.drew.on hb (fun _ h => h.elim) hz
        have zp := bp.size
        have op := (OutAt.new wr).keep (Kept.drew (Kept.refl Empty _)) (fun _ _ h => h)
        have ho1 := ho.keep k0.drew (fun _ _ h => h)
        have hrow1 := ownsRow_kept hrow k0.drew (fun _ _ h => h)
        by_cases e0 : x.kind = 0
        · rw [e0] at c0
          by_cases hf : fitsW x.n x.v = true
          · have hps : putSt (some []) x.n x.v = some (beBytes x.n.toNat x.v) := by simp [putSt, hf]
            have hps2 : putSt (some (bytesAll ds)) x.n x.v = some (bytesAll (ds ++ [x])) := by rw [bytesAll_snoc]; simp [putSt, hf, opBytes, e0]
            have HP := Lib.hid (put_any _ _ _ x.n x.v _ op hv (by simp))
            rw [hps] at HP
            have HQ := fun W S' (h : OutAt W S' w1.heap.size (some (bytesAll ds))) => put_any W S' _ x.n x.v _ h hv (by simp only [Option.getD_some]; omega)
            rw [hps2] at HQ
            have HQ := Lib.hid HQ
            go_wp2_with fail
            go_region_held3 (fun w' => w'.cell? ⟨g, o + j * 4, none⟩ = some (.int .i64 0) ∧ w'.cell? ⟨g, o + j * 4 + 1, none⟩ = some (.int .i64 x.n) ∧ w'.cell? ⟨g, o + j * 4 + 2, none⟩ = some (.int .u64 (x.v : Int))) (first | exact ⟨d0, d1, d2⟩ | go_keep)
              (first
                | (go_at_call 12; refine HP.out.mono ?_; rintro e w5 ⟨rfl, o5, k5⟩; have b5 := k5.on bp (fun i e => by omega) zp; obtain ⟨_, d0, d1, d2, d3, _, _⟩ := HN.out w5 b5; rw [e0] at d0)
                | (go_at_call 17; refine o5.spoilt.mono ?_; rintro e w6 ⟨rfl, rfl⟩))
            have q5 : ∀ k, S k → ¬ k = wr.heap.size := fun k hk e => by have := ho.lt k hk; omega
            have r5 : ∀ g, u5.ownBlock = some g → ¬ g = wr.heap.size := fun g hg e => by have := (hrow.lt g hg).2; omega
            have ho5 := (ho1.keep k5 q5).keep (Kept.drew (Kept.refl Empty _)) (fun _ _ h => h)
            have hrow5 := ownsRow_kept (ownsRow_kept hrow1 k5 r5) (Kept.drew (Kept.refl Empty _)) (fun _ _ h => h)
            have b5d : Below w.heap.size w w5.drew := b5.drew
            go_wp2_with fail
            go_region_held3 (fun w' => w'.cell? ⟨g, o + j * 4 + 1, none⟩ = some (.int .i64 x.n) ∧ w'.cell? ⟨g, o + j * 4 + 2, none⟩ = some (.int .u64 (x.v : Int))) (first | exact ⟨f1, f2⟩ | go_keep)
              (first
                | (go_at_call 12; refine (HQ.out _ S ho5).mono ?_; rintro e w6 ⟨rfl, o6, k6⟩; have b6 := k6.on b5d hS b5d.size; obtain ⟨_, f0, f1, f2, f3, _, _⟩ := HN.out w6 b6; rw [e0] at f0))
            have hrow6 := ownsRow_kept hrow5 k6 hvS
            have hvS6 := not_grow (W' := w6) hrow5 hvS
            have hS6 := Grow.on (w1 := w6) hS b5d.size
            revert o6 hvS6 hS6
            generalize Grow S w5.drew w6 = S6
            intro o6 hvS6 hS6
            clear ho5 hrow5 ho1 hrow1 k5 k6 o5 op HP HQ q5 r5 hrow ho hvS bp zp k0 hps hps2 d0 d1 d2 d3 c0 c1 c2 c3 b5 b5d
            have hz6 := b6.size
            have hsn := hvs.snoc (c := cq) (HN.out w (Below.refl _ _)).2.2.2.2.2.1 hq
            have hone := opCells_one x Q cq
            have hcs : (opCells x Q cq).toList = [.int .i64 0, .int .i64 x.n, .int .u64 (x.v : Int), .slice Q x.b.length cq] := by simp [opCells, e0]
            rw [hcs] at hsn hone
            have HSN := Lib.hid hsn
            have HON := Lib.hid hone
            clear hsn hone hcs
            go_wp2_with (at_builtin; refine wpList_append_lies _ rfl _ _ _ rfl w.heap.size 34 i0 _ 4 48 Try.underlying22 hi0 hz0 hz1 hz2 rfl (by omega) u5 ds.length vs rfl (hrow6.alloc _) ⟨w6.heap.size, 0, none⟩ 1 1 [.int .i64 0, .int .i64 x.n, .int .u64 (x.v : Int), .slice Q x.b.length cq] rfl rfl (World.news_of_block (heap_alloc_new w6 _)) HON.out (by omega) (by simp only [maxLen]; omega) (by omega) (by simp; omega) (w6.heap.size + 1) (by simp) ?_; intro g7 cap7 w7 hown7 hgrow7 hat7 hlt7; obtain ⟨o7, b7, hv7⟩ := back_push o6 b6 hrow6 hvS6 hown7 hgrow7 hat7; obtain ⟨_, p0, _, _, _, _, _⟩ := HN.out w7 b7; rw [e0] at p0)
            go_roundw
            case rel =>
              have hd := HD.out
              rw [if_pos (by rw [good_zero e0]; exact hf)] at hd
              refine back_next hlt hd o7 hS6 b7 (by rw [List.length_append]; exact hown7) HSN.out hv7
            case measure => simp [intOf]; omega
          · have hps : putSt (some []) x.n x.v = none := by simp [putSt, hf]
            have HP := Lib.hid (put_any _ _ _ x.n x.v _ op hv (by simp))
            rw [hps] at HP
            go_wp2_with fail
            go_region_held3 (fun w' => w'.cell? ⟨g, o + j * 4, none⟩ = some (.int .i64 0) ∧ w'.cell? ⟨g, o + j * 4 + 1, none⟩ = some (.int .i64 x.n) ∧ w'.cell? ⟨g, o + j * 4 + 2, none⟩ = some (.int .u64 (x.v : Int))) (first | exact ⟨d0, d1, d2⟩ | go_keep)
              (first
                | (go_at_call 12; refine HP.out.mono ?_; rintro e w5 ⟨rfl, o5, k5⟩; have b5 := k5.on bp (fun i e => by omega) zp; obtain ⟨_, d0, d1, d2, d3, _, _⟩ := HN.out w5 b5; rw [e0] at d0)
                | (go_at_call 17; refine o5.spoilt.mono ?_; rintro e w6 ⟨rfl, rfl⟩))
            have q5 : ∀ k, S k → ¬ k = wr.heap.size := fun k hk e => by have := ho.lt k hk; omega
            have r5 : ∀ g, u5.ownBlock = some g → ¬ g = wr.heap.size := fun g hg e => by have := (hrow.lt g hg).2; omega
            have ho5 := ho1.keep k5 q5
            have hrow5 := ownsRow_kept hrow1 k5 r5
            go_wp2
            go_roundw
            case rel =>
              have hd := HD.out
              rw [if_neg (by rw [good_zero e0]; exact hf)] at hd
              exact back_next hlt hd ho5 hS b5 hrow5 hvs hvS
            case measure => simp [intOf]; omega
        · obtain ⟨_, a0, _, _, a3, _, _⟩ := HN.out _ (k0.on hb (fun _ h => h.elim) hz)
          by_cases e1 : x.kind = 1
          · have E1 := Lib.hid e1
            rw [e1] at c0 a0
            clear e0 e1
            by_cases hl : 0 < x.b.length
            · go_wp2_with fail
              go_quiet (fail)
              have bp := (k0.drewN nq).on hb (fun _ h => h.elim) hz
              have zp := bp.size
              have ho1 := ho.keep (k0.drewN nq) (fun _ _ h => h)
              have hrow1 := ownsRow_kept hrow (k0.drewN nq) (fun _ _ h => h)
              obtain ⟨_, d0, d1, d2, d3, hs1, _⟩ := HN.out _ bp
              rw [E1.out] at d0
              have HT := Lib.hid (tail_any _ S _ _ Q cq x.b ho1 hs1 (far_out hq hS) (by simp only [Option.getD_some]; omega))
              rw [show Option.map (· ++ x.b) (some (bytesAll ds)) = some (bytesAll (ds ++ [x])) from by rw [bytesAll_snoc]; simp [opBytes, E1.out]] at HT
              go_wp2_with fail
              refine HT.out.mono ?_
              rintro e w6 ⟨rfl, o6, k6⟩
              have b6 := k6.on bp hS zp
              obtain ⟨_, f0, f1, f2, f3, _, _⟩ := HN.out w6 b6
              rw [E1.out] at f0
              have hrow6 := ownsRow_kept hrow1 k6 hvS
              have hvS6 := not_grow (W' := w6) hrow1 hvS
              have hS6 := Grow.on (w1 := w6) hS zp
              revert o6 hvS6 hS6
              generalize Grow S _ w6 = S6
              intro o6 hvS6 hS6
              clear ho1 hrow1 k6 op HT hrow ho hvS bp zp k0 d0 d1 d2 d3 c0 c1 c2 c3
              have hz6 := b6.size
              have hsn := hvs.snoc (c := cq) (HN.out w (Below.refl _ _)).2.2.2.2.2.1 hq
              have hone := opCells_one x Q cq
              have hcs : (opCells x Q cq).toList = [.int .i64 1, .int .i64 x.n, .int .u64 (x.v : Int), .slice Q x.b.length cq] := by simp [opCells, E1.out]
              rw [hcs] at hsn hone
              have HSN := Lib.hid hsn
              have HON := Lib.hid hone
              clear hsn hone hcs
              go_wp2_with (at_builtin; refine wpList_append_lies _ rfl _ _ _ rfl w.heap.size 34 i0 _ 4 48 Try.underlying22 hi0 hz0 hz1 hz2 rfl (by omega) u5 ds.length vs rfl (hrow6.alloc _) ⟨w6.heap.size, 0, none⟩ 1 1 [.int .i64 1, .int .i64 x.n, .int .u64 (x.v : Int), .slice Q x.b.length cq] rfl rfl (World.news_of_block (heap_alloc_new w6 _)) HON.out (by omega) (by simp only [maxLen]; omega) (by omega) (by simp; omega) (w6.heap.size + 1) (by simp) ?_; intro g7 cap7 w7 hown7 hgrow7 hat7 hlt7; obtain ⟨o7, b7, hv7⟩ := back_push o6 b6 hrow6 hvS6 hown7 hgrow7 hat7)
              go_roundw
              case rel =>
                have hd := HD.out
                rw [if_pos (by rw [good_one E1.out]; simpa using hl)] at hd
                refine back_next hlt hd o7 hS6 b7 (by rw [List.length_append]; exact hown7) HSN.out hv7
              case measure => simp [intOf]; omega
            · have hl0 : x.b.length = 0 := by omega
              rw [hl0] at c3
              go_wp2_with fail
              go_quiet (fail)
              have bp := (k0.drewN nq).on hb (fun _ h => h.elim) hz
              have zp := bp.size
              have ho1 := ho.keep (k0.drewN nq) (fun _ _ h => h)
              have hrow1 := ownsRow_kept hrow (k0.drewN nq) (fun _ _ h => h)
              obtain ⟨_, d0, d1, d2, d3, hs1, _⟩ := HN.out _ bp
              rw [E1.out] at d0
              rw [hl0] at d3
              go_wp2
              go_roundw
              case rel =>
                have hd := HD.out
                rw [if_neg (by rw [good_one E1.out, hl0]; simp)] at hd
                exact back_next hlt hd ho1 hS bp hrow1 hvs hvS
              case measure => simp [intOf]; omega
          · have t0 : (x.kind == 0) = false := by simp [e0]
            have t1 : (x.kind == 1) = false := by simp [e1]
            have HG := Lib.hid (good_other e0 e1)
            clear e0 e1
            go_wp2_with fail
            go_quiet (fail)
            have bp := (k0.drewN nq).on hb (fun _ h => h.elim) hz
            have zp := bp.size
            have ho1 := ho.keep (k0.drewN nq) (fun _ _ h => h)
            have hrow1 := ownsRow_kept hrow (k0.drewN nq) (fun _ _ h => h)
            obtain ⟨_, d0, d1, d2, d3, hs1, _⟩ := HN.out _ bp
            go_wp2
            go_roundw
            case rel =>
              have hd := HD.out
              rw [if_neg (by rw [HG.out]; simp)] at hd
              exact back_next hlt hd ho1 hS bp hrow1 hvs hvS
            case measure => simp [intOf]; omega
      · obtain rfl : j = xs.length := by omega
        rw [List.take_length] at ho hrow hvs
        have hl4 : (bytesAll (doneOf xs)).length ≤ 21000 := by
          have := bytesAll_le xs
          omega
        have hgood : ∀ d ∈ doneOf xs, goodB d = true := fun d hd => (List.mem_filter.1 hd).2
        have hl5 : (doneOf xs).length ≤ 100 := by
          have := doneOf_length xs
          omega
        generalize doneOf xs = ds at *
        have hz := hb.size
        go_wp2_with fail
        refine (all_any _ S _ (some (bytesAll ds)) ho (by simp only [Option.getD_some]; omega)).mono ?_
        rintro e w5 ⟨v5, rfl, hown5, hbl5⟩
        simp only [Option.getD_some] at hown5
        obtain ⟨A5, c5, rfl, _, s5, t5, n5⟩ := Src.of_own hown5
        go_wp2_with fail
        refine (from_any A5 _ c5 (bytesAll ds) s5 (fun e => (n5 e).2) (by omega)).mono ?_
        rintro e w6 ⟨xi, T, rfl, hin, hT, hb6⟩
        have hz5 := hbl5.size
        have ho6 := (ho.keep (Kept.of_below hbl5 Empty) (fun _ _ h => h)).keep (Kept.of_below hb6 Empty) (fun _ _ h => h)
        have hrow6 := ownsRow_kept (ownsRow_kept hrow (Kept.of_below hbl5 Empty) (fun _ _ h => h)) (Kept.of_below hb6 Empty) (fun _ _ h => h)
        have b6 : Below w.heap.size w w6 := (hb.trans (hbl5.mono hz)).trans (hb6.mono (by omega))
        have hST : ∀ i, S i → ¬ T i := fun i hi ht => by
          have h1 := ho.lt i hi
          have h2 := hT i ht
          omega
        have hvT : ∀ g, u5.ownBlock = some g → ¬ T g := fun g hg ht => by
          have h1 := (hrow.lt g hg).2
          have h2 := hT g ht
          omega
        have hT6 : ∀ i, T i → w.heap.size ≤ i := fun i hi => by have := hT i hi; omega
        obtain ⟨A7, c7, rfl⟩ := row_slice hrow6
        clear ho hrow hb hvS hown5 hbl5 s5 t5 n5 hb6 hT hz hz5 hj hlt HX GX hx1 hx2 hi0 hz0 hz1 hz2
        go_wp2_with fail
        go_loopw [10, 97] (fun _ k W => BackIn w ds w1.heap.size xi (.slice A7 ds.length c7) k W) (fun _ k _ => ds.length - (intOf k).toNat)
        case atStart => exact ⟨0, S, T, vs, Nat.zero_le _, rfl, ho6, hin, hS, hT6, b6, hrow6, hvs, hST, hvT⟩
        case round =>
          clear ho6 hin hS hT6 b6 hrow6 hvs hST hvT
          obtain ⟨j, S, T, vs, hj, rfl, ho, hin, hS, hT, hb, hrow, hvs, hST, hvT⟩ := hrel
          by_cases hlt : j < ds.length
          · have hdrop : bytesAll (ds.drop j) = opBytes ds[j] ++ bytesAll (ds.drop (j + 1)) := by rw [List.drop_eq_getElem_cons hlt, bytesAll_cons]
            have hg := hgood _ (List.getElem_mem hlt)
            have hlen : (opBytes ds[j] ++ bytesAll (ds.drop (j + 1))).length ≤ 21000 := by
              have h1 : bytesAll ds = bytesAll (ds.take j) ++ bytesAll (ds.drop j) := by
                conv => lhs; rw [← List.take_append_drop j ds]
                simp only [bytesAll, List.flatMap_append]
              rw [h1, hdrop, List.length_append] at hl4
              omega
            rw [hdrop] at hin
            obtain ⟨gd, Q, cq, rfl, c0, c1, c2, c3, hsrc, hq⟩ := row_cells hrow hvs hb hlt
            have HR := Lib.hid (fun W1 W2 (k1 : Kept Empty wr W1) (k2 : Kept (fun k => k = xi) W1 W2) (hi : InAt W2 T xi (some (bytesAll (ds.drop (j + 1))))) => back_step hlt ho hS hT hb hrow hvs hST hvT k1 k2 hi)
            clear hdrop hgood
            generalize ds[j] = x at *
            generalize bytesAll (ds.drop (j + 1)) = rest at *
            have hpos := opBytes_pos hg
            have kb : Kept Empty wr (wr.alloc (.cells #[.int .i64 x.kind, .int .i64 x.n, .int .u64 (x.v : Int), .slice Q x.b.length cq] 34)) := (Kept.refl _ _).alloc _
            have hbox := Whole.new wr 34 #[.int .i64 x.kind, .int .i64 x.n, .int .u64 (x.v : Int), .slice Q x.b.length cq]
            have hin1 := hin.keep kb (fun _ _ h => h)
            have hs1 := hsrc.kept kb.drew (fun _ _ h => h)
            have hbx : ¬ wr.heap.size = xi := fun e => by have := hin.lt xi hin.own; omega
            have hxi : ∀ i, i = xi → w.heap.size ≤ i := fun i e => by rw [e]; exact hT _ hin.own
            have hnd : isDone (some (opBytes x ++ rest)) = false := by
              cases ho : opBytes x with
              | nil => rw [ho] at hpos; simp at hpos
              | cons b l => rfl
            have HDn := Lib.hid (inDone_any hin1)
            rw [hnd] at HDn
            clear hnd hpos
            by_cases e0 : x.kind = 0
            · have HG := Lib.hid (get_any _ T xi _ x.n (hin1.keep (Kept.drew (Kept.refl Empty _)) (fun _ _ h => h)) (by simp only [Option.getD_some]; omega))
              rw [read_zero hg e0] at HG
              rw [e0] at c0 hbox kb hin1 hs1 HDn HG
              clear hin hin1
              go_wp2_with fail
              refine HDn.out.mono ?_
              rintro e w6 ⟨rfl, rfl⟩
              go_wp2_with fail
              refine wp_region_held_drew (S := (fun w' => w'.cell? ⟨wr.heap.size, 0, none⟩ = some (.int .i64 0) ∧ w'.cell? ⟨wr.heap.size, 1, none⟩ = some (.int .i64 x.n) ∧ w'.cell? ⟨wr.heap.size, 2, none⟩ = some (.int .u64 (x.v : Int)))) (by kernel_rfl) ?_ (fun hHeld => ?_)
              · exact ⟨by simp, by simp, by simp⟩
              refine takeH 0 (some 103) (.pointer (some ⟨wr.heap.size, 0, none⟩)) rfl rfl (by kernel_rfl) (by kernel_rfl) (by kernel_rfl) (fun _ _ _ h => h) (by kernel_rfl) ?_ (by assumption) ?_
              · intro w' hSw; (try dsimp only at hSw); go_simp; try rfl
              simp only [Act.put, List.setIfInBounds_toArray, List.set_cons_zero, List.set_cons_succ]
              refine takeH 1 (some 104) (.int .i64 0) rfl rfl (by kernel_rfl) (by kernel_rfl) (by kernel_rfl) (fun _ _ _ h => h) (by kernel_rfl) ?_ (by assumption) ?_
              · intro w' hSw; (try dsimp only at hSw); go_simp; try rfl
              simp only [Act.put, List.setIfInBounds_toArray, List.set_cons_zero, List.set_cons_succ]
              refine takeH 2 (some 105) (.bool true) rfl rfl (by kernel_rfl) (by kernel_rfl) (by kernel_rfl) (fun _ _ _ h => h) (by kernel_rfl) ?_ (by assumption) ?_
              · intro w' hSw; (try dsimp only at hSw); go_simp; try rfl
              simp only [Act.put, List.setIfInBounds_toArray, List.set_cons_zero, List.set_cons_succ]
              refine takeH 3 (some 106) (.bool true) rfl rfl (by kernel_rfl) (by kernel_rfl) (by kernel_rfl) (fun _ _ _ h => h) (by kernel_rfl) ?_ (by assumption) ?_
              · intro w' hSw; (try dsimp only at hSw); go_simp; try rfl
              simp only [Act.put, List.setIfInBounds_toArray, List.set_cons_zero, List.set_cons_succ]
              refine takeH 4 (some 107) (.pointer (some ⟨xi, 0, none⟩)) rfl rfl (by kernel_rfl) (by kernel_rfl) (by kernel_rfl) (fun _ _ _ h => h) (by kernel_rfl) ?_ (by assumption) ?_
              · intro w' hSw; (try dsimp only at hSw); go_simp; try rfl
              simp only [Act.put, List.setIfInBounds_toArray, List.set_cons_zero, List.set_cons_succ]
              refine takeH 5 (some 108) (.pointer (some ⟨wr.heap.size, 1, none⟩)) rfl rfl (by kernel_rfl) (by kernel_rfl) (by kernel_rfl) (fun _ _ _ h => h) (by kernel_rfl) ?_ (by assumption) ?_
              · intro w' hSw; (try dsimp only at hSw); go_simp; try rfl
              simp only [Act.put, List.setIfInBounds_toArray, List.set_cons_zero, List.set_cons_succ]
              refine takeH 6 (some 109) (.int .i64 x.n) rfl rfl (by kernel_rfl) (by kernel_rfl) (by kernel_rfl) (fun _ _ _ h => h) (by kernel_rfl) ?_ (by assumption) ?_
              · intro w' hSw; (try dsimp only at hSw); go_simp; try rfl
              simp only [Act.put, List.setIfInBounds_toArray, List.set_cons_zero, List.set_cons_succ]
              refine takeH 8 (some 111) (.pointer (some ⟨wr.heap.size, 2, none⟩)) rfl rfl (by kernel_rfl) (by kernel_rfl) (by kernel_rfl) (fun _ _ _ h => h) (by kernel_rfl) ?_ (by assumption) ?_
              · intro w' hSw; (try dsimp only at hSw); go_simp; try rfl
              simp only [Act.put, List.setIfInBounds_toArray, List.set_cons_zero, List.set_cons_succ]
              refine takeH 9 (some 112) (.int .u64 (x.v : Int)) rfl rfl (by kernel_rfl) (by kernel_rfl) (by kernel_rfl) (fun _ _ _ h => h) (by kernel_rfl) ?_ (by assumption) ?_
              · intro w' hSw; (try dsimp only at hSw); go_simp; try rfl
              simp only [Act.put, List.setIfInBounds_toArray, List.set_cons_zero, List.set_cons_succ]
              refine wpAnyH_ready (rs := [7]) (by kernel_rfl) (by simp) (AllReadyH.cons rfl (fun K hK => ?_) AllReadyH.nil)
              go_simp
              refine HG.out.mono ?_
              rintro e w6 ⟨rfl, hin6, k6⟩
              have hbox6 := hbox.drew.kept k6 hbx
              refine hK.out _ _ ⟨by simpa using hbox6.cell 0, by simpa using hbox6.cell 1, by simpa using hbox6.cell 2⟩ (fun hHeld => ?_)
              clear hK K
              refine takeH 10 (some 113) (.bool false) rfl rfl (by kernel_rfl) (by kernel_rfl) (by kernel_rfl) (fun _ _ _ h => h) (by kernel_rfl) ?_ (by assumption) ?_
              · intro w' hSw; (try dsimp only at hSw); go_simp; try rfl
              simp only [Act.put, List.setIfInBounds_toArray, List.set_cons_zero, List.set_cons_succ]
              refine takeH 11 (some 114) (.bool false) rfl rfl (by kernel_rfl) (by kernel_rfl) (by kernel_rfl) (fun _ _ _ h => h) (by kernel_rfl) ?_ (by assumption) ?_
              · intro w' hSw; (try dsimp only at hSw); go_simp; try rfl
              simp only [Act.put, List.setIfInBounds_toArray, List.set_cons_zero, List.set_cons_succ]
              refine takeH 12 (some 115) (.bool false) rfl rfl (by kernel_rfl) (by kernel_rfl) (by kernel_rfl) (fun _ _ _ h => h) (by kernel_rfl) ?_ (by assumption) ?_
              · intro w' hSw; (try dsimp only at hSw); go_simp; try rfl
              simp only [Act.put, List.setIfInBounds_toArray, List.set_cons_zero, List.set_cons_succ]
              refine takeH 13 (some 116) (.pointer (some ⟨wr.heap.size, 0, none⟩)) rfl rfl (by kernel_rfl) (by kernel_rfl) (by kernel_rfl) (fun _ _ _ h => h) (by kernel_rfl) ?_ (by assumption) ?_
              · intro w' hSw; (try dsimp only at hSw); go_simp; try rfl
              simp only [Act.put, List.setIfInBounds_toArray, List.set_cons_zero, List.set_cons_succ]
              refine takeH 14 (some 117) (.int .i64 0) rfl rfl (by kernel_rfl) (by kernel_rfl) (by kernel_rfl) (fun _ _ _ h => h) (by kernel_rfl) ?_ (by assumption) ?_
              · intro w' hSw; (try dsimp only at hSw); go_simp; try rfl
              simp only [Act.put, List.setIfInBounds_toArray, List.set_cons_zero, List.set_cons_succ]
              refine takeH 15 (some 118) (.bool false) rfl rfl (by kernel_rfl) (by kernel_rfl) (by kernel_rfl) (fun _ _ _ h => h) (by kernel_rfl) ?_ (by assumption) ?_
              · intro w' hSw; (try dsimp only at hSw); go_simp; try rfl
              simp only [Act.put, List.setIfInBounds_toArray, List.set_cons_zero, List.set_cons_succ]
              refine takeH 16 (some 119) (.bool false) rfl rfl (by kernel_rfl) (by kernel_rfl) (by kernel_rfl) (fun _ _ _ h => h) (by kernel_rfl) ?_ (by assumption) ?_
              · intro w' hSw; (try dsimp only at hSw); go_simp; try rfl
              simp only [Act.put, List.setIfInBounds_toArray, List.set_cons_zero, List.set_cons_succ]
              refine skipH 17 (some 120) rfl rfl (by kernel_rfl) (by kernel_rfl) (by kernel_rfl) (fun _ _ _ h => h) (by kernel_rfl) (by assumption) ?_
              simp only [Act.put, List.setIfInBounds_toArray, List.set_cons_zero, List.set_cons_succ]
              refine skipH 18 (some 121) rfl rfl (by kernel_rfl) (by kernel_rfl) (by kernel_rfl) (fun _ _ _ h => h) (by kernel_rfl) (by assumption) ?_
              simp only [Act.put, List.setIfInBounds_toArray, List.set_cons_zero, List.set_cons_succ]
              refine skipH 19 (some 122) rfl rfl (by kernel_rfl) (by kernel_rfl) (by kernel_rfl) (fun _ _ _ h => h) (by kernel_rfl) (by assumption) ?_
              simp only [Act.put, List.setIfInBounds_toArray, List.set_cons_zero, List.set_cons_succ]
              refine skipH 20 (some 123) rfl rfl (by kernel_rfl) (by kernel_rfl) (by kernel_rfl) (fun _ _ _ h => h) (by kernel_rfl) (by assumption) ?_
              simp only [Act.put, List.setIfInBounds_toArray, List.set_cons_zero, List.set_cons_succ]
              refine skipH 21 (some 124) rfl rfl (by kernel_rfl) (by kernel_rfl) (by kernel_rfl) (fun _ _ _ h => h) (by kernel_rfl) (by assumption) ?_
              simp only [Act.put, List.setIfInBounds_toArray, List.set_cons_zero, List.set_cons_succ]
              refine skipH 22 (some 125) rfl rfl (by kernel_rfl) (by kernel_rfl) (by kernel_rfl) (fun _ _ _ h => h) (by kernel_rfl) (by assumption) ?_
              simp only [Act.put, List.setIfInBounds_toArray, List.set_cons_zero, List.set_cons_succ]
              refine skipH 23 (some 126) rfl rfl (by kernel_rfl) (by kernel_rfl) (by kernel_rfl) (fun _ _ _ h => h) (by kernel_rfl) (by assumption) ?_
              simp only [Act.put, List.setIfInBounds_toArray, List.set_cons_zero, List.set_cons_succ]
              refine skipH 24 (some 127) rfl rfl (by kernel_rfl) (by kernel_rfl) (by kernel_rfl) (fun _ _ _ h => h) (by kernel_rfl) (by assumption) ?_
              simp only [Act.put, List.setIfInBounds_toArray, List.set_cons_zero, List.set_cons_succ]
              refine skipH 25 (some 128) rfl rfl (by kernel_rfl) (by kernel_rfl) (by kernel_rfl) (fun _ _ _ h => h) (by kernel_rfl) (by assumption) ?_
              simp only [Act.put, List.setIfInBounds_toArray, List.set_cons_zero, List.set_cons_succ]
              refine skipH 26 (some 129) rfl rfl (by kernel_rfl) (by kernel_rfl) (by kernel_rfl) (fun _ _ _ h => h) (by kernel_rfl) (by assumption) ?_
              simp only [Act.put, List.setIfInBounds_toArray, List.set_cons_zero, List.set_cons_succ]
              refine takeH 27 (some 130) (.bool false) rfl rfl (by kernel_rfl) (by kernel_rfl) (by kernel_rfl) (fun _ _ _ h => h) (by kernel_rfl) ?_ (by assumption) ?_
              · intro w' hSw; (try dsimp only at hSw); go_simp; try rfl
              simp only [Act.put, List.setIfInBounds_toArray, List.set_cons_zero, List.set_cons_succ]
              refine takeH 28 (some 131) (.bool false) rfl rfl (by kernel_rfl) (by kernel_rfl) (by kernel_rfl) (fun _ _ _ h => h) (by kernel_rfl) ?_ (by assumption) ?_
              · intro w' hSw; (try dsimp only at hSw); go_simp; try rfl
              simp only [Act.put, List.setIfInBounds_toArray, List.set_cons_zero, List.set_cons_succ]
              refine wpAnyH_done (by kernel_rfl) ?_ _
              go_wp2
              go_roundw
              case rel => exact HR.out _ _ kb.drew k6 hin6
              case measure => simp [intOf]; omega
            · have e1 : x.kind = 1 := by
                by_cases e1 : x.kind = 1
                · exact e1
                · rw [good_other e0 e1] at hg
                  cases hg
              have HG := Lib.hid (inTake_any (x.b.length : Int) (hin1.keep (Kept.drew (Kept.refl Empty _)) (fun _ _ h => h)) (by simp only [Option.getD_some]; omega))
              rw [read_one e1] at HG
              rw [e1] at c0 hbox kb hin1 hs1 HDn HG
              clear hin hin1 e0
              go_wp2_with fail
              refine HDn.out.mono ?_
              rintro e w6 ⟨rfl, rfl⟩
              go_wp2_with fail
              refine wp_region_held_drew (S := (fun w' => w'.cell? ⟨wr.heap.size, 0, none⟩ = some (.int .i64 1) ∧ w'.cell? ⟨wr.heap.size, 3, none⟩ = some (.slice Q x.b.length cq) ∧ Src w' Q x.b.length x.b)) (by kernel_rfl) ?_ (fun hHeld => ?_)
              · exact ⟨by simp, by simp, hs1⟩
              refine takeH 0 (some 103) (.pointer (some ⟨wr.heap.size, 0, none⟩)) rfl rfl (by kernel_rfl) (by kernel_rfl) (by kernel_rfl) (fun _ _ _ h => h) (by kernel_rfl) ?_ (by assumption) ?_
              · intro w' hSw; (try dsimp only at hSw); go_simp; try rfl
              simp only [Act.put, List.setIfInBounds_toArray, List.set_cons_zero, List.set_cons_succ]
              refine takeH 1 (some 104) (.int .i64 1) rfl rfl (by kernel_rfl) (by kernel_rfl) (by kernel_rfl) (fun _ _ _ h => h) (by kernel_rfl) ?_ (by assumption) ?_
              · intro w' hSw; (try dsimp only at hSw); go_simp; try rfl
              simp only [Act.put, List.setIfInBounds_toArray, List.set_cons_zero, List.set_cons_succ]
              refine takeH 2 (some 105) (.bool false) rfl rfl (by kernel_rfl) (by kernel_rfl) (by kernel_rfl) (fun _ _ _ h => h) (by kernel_rfl) ?_ (by assumption) ?_
              · intro w' hSw; (try dsimp only at hSw); go_simp; try rfl
              simp only [Act.put, List.setIfInBounds_toArray, List.set_cons_zero, List.set_cons_succ]
              refine takeH 3 (some 106) (.bool false) rfl rfl (by kernel_rfl) (by kernel_rfl) (by kernel_rfl) (fun _ _ _ h => h) (by kernel_rfl) ?_ (by assumption) ?_
              · intro w' hSw; (try dsimp only at hSw); go_simp; try rfl
              simp only [Act.put, List.setIfInBounds_toArray, List.set_cons_zero, List.set_cons_succ]
              refine skipH 4 (some 107) rfl rfl (by kernel_rfl) (by kernel_rfl) (by kernel_rfl) (fun _ _ _ h => h) (by kernel_rfl) (by assumption) ?_
              simp only [Act.put, List.setIfInBounds_toArray, List.set_cons_zero, List.set_cons_succ]
              refine skipH 5 (some 108) rfl rfl (by kernel_rfl) (by kernel_rfl) (by kernel_rfl) (fun _ _ _ h => h) (by kernel_rfl) (by assumption) ?_
              simp only [Act.put, List.setIfInBounds_toArray, List.set_cons_zero, List.set_cons_succ]
              refine skipH 6 (some 109) rfl rfl (by kernel_rfl) (by kernel_rfl) (by kernel_rfl) (fun _ _ _ h => h) (by kernel_rfl) (by assumption) ?_
              simp only [Act.put, List.setIfInBounds_toArray, List.set_cons_zero, List.set_cons_succ]
              refine skipH 7 (some 110) rfl rfl (by kernel_rfl) (by kernel_rfl) (by kernel_rfl) (fun _ _ _ h => h) (by kernel_rfl) (by assumption) ?_
              simp only [Act.put, List.setIfInBounds_toArray, List.set_cons_zero, List.set_cons_succ]
              refine skipH 8 (some 111) rfl rfl (by kernel_rfl) (by kernel_rfl) (by kernel_rfl) (fun _ _ _ h => h) (by kernel_rfl) (by assumption) ?_
              simp only [Act.put, List.setIfInBounds_toArray, List.set_cons_zero, List.set_cons_succ]
              refine skipH 9 (some 112) rfl rfl (by kernel_rfl) (by kernel_rfl) (by kernel_rfl) (fun _ _ _ h => h) (by kernel_rfl) (by assumption) ?_
              simp only [Act.put, List.setIfInBounds_toArray, List.set_cons_zero, List.set_cons_succ]
              refine skipH 10 (some 113) rfl rfl (by kernel_rfl) (by kernel_rfl) (by kernel_rfl) (fun _ _ _ h => h) (by kernel_rfl) (by assumption) ?_
              simp only [Act.put, List.setIfInBounds_toArray, List.set_cons_zero, List.set_cons_succ]
              refine takeH 11 (some 114) (.bool false) rfl rfl (by kernel_rfl) (by kernel_rfl) (by kernel_rfl) (fun _ _ _ h => h) (by kernel_rfl) ?_ (by assumption) ?_
              · intro w' hSw; (try dsimp only at hSw); go_simp; try rfl
              simp only [Act.put, List.setIfInBounds_toArray, List.set_cons_zero, List.set_cons_succ]
              refine takeH 12 (some 115) (.bool false) rfl rfl (by kernel_rfl) (by kernel_rfl) (by kernel_rfl) (fun _ _ _ h => h) (by kernel_rfl) ?_ (by assumption) ?_
              · intro w' hSw; (try dsimp only at hSw); go_simp; try rfl
              simp only [Act.put, List.setIfInBounds_toArray, List.set_cons_zero, List.set_cons_succ]
              refine takeH 13 (some 116) (.pointer (some ⟨wr.heap.size, 0, none⟩)) rfl rfl (by kernel_rfl) (by kernel_rfl) (by kernel_rfl) (fun _ _ _ h => h) (by kernel_rfl) ?_ (by assumption) ?_
              · intro w' hSw; (try dsimp only at hSw); go_simp; try rfl
              simp only [Act.put, List.setIfInBounds_toArray, List.set_cons_zero, List.set_cons_succ]
              refine takeH 14 (some 117) (.int .i64 1) rfl rfl (by kernel_rfl) (by kernel_rfl) (by kernel_rfl) (fun _ _ _ h => h) (by kernel_rfl) ?_ (by assumption) ?_
              · intro w' hSw; (try dsimp only at hSw); go_simp; try rfl
              simp only [Act.put, List.setIfInBounds_toArray, List.set_cons_zero, List.set_cons_succ]
              refine takeH 15 (some 118) (.bool true) rfl rfl (by kernel_rfl) (by kernel_rfl) (by kernel_rfl) (fun _ _ _ h => h) (by kernel_rfl) ?_ (by assumption) ?_
              · intro w' hSw; (try dsimp only at hSw); go_simp; try rfl
              simp only [Act.put, List.setIfInBounds_toArray, List.set_cons_zero, List.set_cons_succ]
              refine takeH 16 (some 119) (.bool true) rfl rfl (by kernel_rfl) (by kernel_rfl) (by kernel_rfl) (fun _ _ _ h => h) (by kernel_rfl) ?_ (by assumption) ?_
              · intro w' hSw; (try dsimp only at hSw); go_simp; try rfl
              simp only [Act.put, List.setIfInBounds_toArray, List.set_cons_zero, List.set_cons_succ]
              refine takeH 17 (some 120) (.pointer (some ⟨xi, 0, none⟩)) rfl rfl (by kernel_rfl) (by kernel_rfl) (by kernel_rfl) (fun _ _ _ h => h) (by kernel_rfl) ?_ (by assumption) ?_
              · intro w' hSw; (try dsimp only at hSw); go_simp; try rfl
              simp only [Act.put, List.setIfInBounds_toArray, List.set_cons_zero, List.set_cons_succ]
              refine takeH 18 (some 121) (.pointer (some ⟨wr.heap.size, 3, none⟩)) rfl rfl (by kernel_rfl) (by kernel_rfl) (by kernel_rfl) (fun _ _ _ h => h) (by kernel_rfl) ?_ (by assumption) ?_
              · intro w' hSw; (try dsimp only at hSw); go_simp; try rfl
              simp only [Act.put, List.setIfInBounds_toArray, List.set_cons_zero, List.set_cons_succ]
              refine takeH 19 (some 122) (.slice Q x.b.length cq) rfl rfl (by kernel_rfl) (by kernel_rfl) (by kernel_rfl) (fun _ _ _ h => h) (by kernel_rfl) ?_ (by assumption) ?_
              · intro w' hSw; (try dsimp only at hSw); go_simp; try rfl
              simp only [Act.put, List.setIfInBounds_toArray, List.set_cons_zero, List.set_cons_succ]
              refine takeH 20 (some 123) (.int .i64 (x.b.length : Int)) rfl rfl (by kernel_rfl) (by kernel_rfl) (by kernel_rfl) (fun _ _ _ h => h) (by kernel_rfl) ?_ (by assumption) ?_
              · intro w' hSw; (try dsimp only at hSw); go_simp; try rfl
              simp only [Act.put, List.setIfInBounds_toArray, List.set_cons_zero, List.set_cons_succ]
              refine takeH 23 (some 126) (.pointer (some ⟨wr.heap.size, 3, none⟩)) rfl rfl (by kernel_rfl) (by kernel_rfl) (by kernel_rfl) (fun _ _ _ h => h) (by kernel_rfl) ?_ (by assumption) ?_
              · intro w' hSw; (try dsimp only at hSw); go_simp; try rfl
              simp only [Act.put, List.setIfInBounds_toArray, List.set_cons_zero, List.set_cons_succ]
              refine takeH 24 (some 127) (.slice Q x.b.length cq) rfl rfl (by kernel_rfl) (by kernel_rfl) (by kernel_rfl) (fun _ _ _ h => h) (by kernel_rfl) ?_ (by assumption) ?_
              · intro w' hSw; (try dsimp only at hSw); go_simp; try rfl
              simp only [Act.put, List.setIfInBounds_toArray, List.set_cons_zero, List.set_cons_succ]
              refine takeH 25 (some 128) (.string ⟨x.b.toArray⟩) rfl rfl (by kernel_rfl) (by kernel_rfl) (by kernel_rfl) (fun _ _ _ h => h) (by kernel_rfl) ?_ (by assumption) ?_
              · intro w' hSw; have hcv := Src.convert (P := Try.prog) hSw.2.2 cq 28 5 9 Try.underlying28 Try.underlying5 Try.underlying9; go_simp; try rfl
              simp only [Act.put, List.setIfInBounds_toArray, List.set_cons_zero, List.set_cons_succ]
              refine wpAnyH_ready (rs := [21]) (by kernel_rfl) (by simp) (AllReadyH.cons rfl (fun K hK => ?_) AllReadyH.nil)
              go_simp
              refine HG.out.mono ?_
              rintro e w6 ⟨v6, rfl, hown6, hin6, k6⟩
              have hbox6 := hbox.drew.kept k6 hbx
              have hs6 := hs1.on k6 hq hxi
              obtain ⟨A6, c6, rfl, _, t6, _, _⟩ := Src.of_own hown6
              refine hK.out _ _ ⟨by simpa using hbox6.cell 0, by simpa using hbox6.cell 3, hs6⟩ (fun hHeld => ?_)
              clear hK K
              have hcv := Src.convert (P := Try.prog) t6 c6 28 5 9 Try.underlying28 Try.underlying5 Try.underlying9
              refine wpAnyH_ready (rs := [22]) (by kernel_rfl) (by simp) (AllReadyH.cons rfl (fun K hK => ?_) AllReadyH.nil)
              go_simp
              refine hK.out _ _ ⟨by simpa using hbox6.cell 0, by simpa using hbox6.cell 3, hs6⟩ (fun hHeld => ?_)
              clear hK K
              refine takeH 26 (some 129) (.bool false) rfl rfl (by kernel_rfl) (by kernel_rfl) (by kernel_rfl) (fun _ _ _ h => h) (by kernel_rfl) ?_ (by assumption) ?_
              · intro w' hSw; (try dsimp only at hSw); go_simp; try rfl
              simp only [Act.put, List.setIfInBounds_toArray, List.set_cons_zero, List.set_cons_succ]
              refine takeH 27 (some 130) (.bool false) rfl rfl (by kernel_rfl) (by kernel_rfl) (by kernel_rfl) (fun _ _ _ h => h) (by kernel_rfl) ?_ (by assumption) ?_
              · intro w' hSw; (try dsimp only at hSw); go_simp; try rfl
              simp only [Act.put, List.setIfInBounds_toArray, List.set_cons_zero, List.set_cons_succ]
              refine takeH 28 (some 131) (.bool false) rfl rfl (by kernel_rfl) (by kernel_rfl) (by kernel_rfl) (fun _ _ _ h => h) (by kernel_rfl) ?_ (by assumption) ?_
              · intro w' hSw; (try dsimp only at hSw); go_simp; try rfl
              simp only [Act.put, List.setIfInBounds_toArray, List.set_cons_zero, List.set_cons_succ]
              refine wpAnyH_done (by kernel_rfl) ?_ _
              go_wp2
              go_roundw
              case rel => exact HR.out _ _ kb.drew k6 hin6
              case measure => simp [intOf]; omega
          · obtain rfl : j = ds.length := by omega
            rw [List.drop_length] at hin
            have HD := Lib.hid (inDone_any hin)
            have HK := Lib.hid (inTake_any 1 hin (by simp [bytesAll]))
            rw [show takeSt (some (bytesAll [])) 1 = (none, []) from by simp [takeSt, bytesAll]] at HK
            rw [show isDone (some (bytesAll [])) = true from rfl] at HD
            go_wp2_with fail
            refine HD.out.mono ?_
            rintro e w6 ⟨rfl, rfl⟩
            go_wp2_with fail
            refine HK.out.mono ?_
            rintro e w7 ⟨v7, rfl, _, hin7, k7⟩
            have ho7 := ho.keep k7 (fun k hk e => hST k hk (by rw [e]; exact hin.own))
            have b7 := k7.on hb (fun i e => by rw [e]; exact hT _ hin.own) hb.size
            go_wp2_with (first
              | (go_at_call 24; refine (inSpoilt_any hin7).mono ?_; rintro e w8 ⟨rfl, rfl⟩)
              | (go_at_call 17; refine ho7.spoilt.mono ?_; rintro e w8 ⟨rfl, rfl⟩))
            go_ret
            exact ⟨rfl, b7⟩

end Go.Proofs.Ytloeckflcdnmaaa
