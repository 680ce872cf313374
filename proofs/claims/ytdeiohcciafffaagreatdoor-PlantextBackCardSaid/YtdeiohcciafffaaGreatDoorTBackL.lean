/- PlantextBack, its walk. It asks that the table of tens reads as the library lays it, and that a variable of the library's holds some number. -/
import Derived.Test.YtdeiohcciafffaaGreatDoorTBackD
import Derived.Test.YtdeiohcciafffaaGreatDoorTApp
import Derived.Test.YtdeiohcciafffaaGreatDoorTReadsL
import Derived.Test.YtdeiohcciafffaaGreatDoorHeld
namespace Go.Proofs.YtdeiohcciafffaaGreatDoor
open Go.RowKit Go.Shelf

theorem small_in64 {x : Pl} (hx : Small x) : x.In64 := fun k hk => by have := hx k hk; omega
theorem trim_shown (x : Pl) : Lib.trimSuffix (shownL x) [10] = Lib.join (bodies x) [10] := by
  rw [shown_join]
  have h : Lib.hasSuffix (Lib.join (bodies x) [10] ++ [10]) [10] = true := by
    unfold Lib.hasSuffix
    rw [List.isSuffixOf_iff_suffix]
    exact List.suffix_append _ _
  unfold Lib.trimSuffix
  rw [if_pos h]
  simp
theorem swap_perm {π : List Nat} {i j : Nat} (hp : π.Perm (List.range 16)) (hi : i < π.length) (hj : j < π.length) : ((π.set i π[j]).set j π[i]).Perm (List.range 16) := (List.set_set_perm hi hj).trans hp
theorem row_set (x : Pl) (π : List Nat) (k y : Nat) : (strV (π.map (bodyL x))).toArray.setIfInBounds k (.string (txt (bodyL x y))) = (strV ((π.set k y).map (bodyL x))).toArray := by
  simp [strV, List.map_set]
theorem row_get (x : Pl) (π : List Nat) {k : Nat} (hk : k < π.length) : (strV (π.map (bodyL x))).toArray[k]? = some (.string (txt (bodyL x π[k]))) := by
  simp [strV, hk]
theorem more_row {x : Pl} {rm : List UInt8} {r nk dk : ByteArray} {k : Nat} (h1 : rm = r.data.toList) (h2 : nk = ⟨(nameL k).toArray⟩) (h3 : dk = ⟨(decN x k).toArray⟩) :
    strV (moreL x rm k) = [.string (⟨#[35]⟩ ++ r), .string (⟨#[32, 9]⟩ ++ nk ++ ⟨#[61]⟩ ++ dk ++ ⟨#[32, 35]⟩ ++ r), .string ⟨#[]⟩] := by
  have e1 : (⟨#[35]⟩ ++ r : ByteArray) = txt (35 :: rm) := by
    rw [h1]; apply ByteArray.ext; apply Array.ext'; simp
  have e2 : (⟨#[32, 9]⟩ ++ nk ++ ⟨#[61]⟩ ++ dk ++ ⟨#[32, 35]⟩ ++ r : ByteArray) = txt (32 :: 9 :: (nameL k ++ 61 :: (decN x k ++ 32 :: 35 :: rm))) := by
    rw [h1, h2, h3]; apply ByteArray.ext; apply Array.ext'; simp
  rw [e1, e2]
  rfl
theorem more_line {x : Pl} (hx : Small x) {rm : List UInt8} (hno : rm.contains 10 = false) (hl : rm.length ≤ 50) {k : Nat} (hk : k < 16) {y : List UInt8} (hy : y ∈ moreL x rm k) : y.length ≤ 77 ∧ y.contains 10 = false := by
  have h1 := nameL_le k
  have h2 := dec_le hx hk
  have h3 := name_no hk
  have h4 := itoa_no (x.nth k)
  have h5 : (decN x k).contains 10 = false := by
    have hb := body_no x hk
    rw [body_dec hx hk] at hb
    rw [List.contains_eq_mem, decide_eq_false_iff_not] at hb ⊢
    exact fun h => hb (List.mem_append_right _ h)
  unfold moreL at hy
  simp only [List.mem_cons, List.not_mem_nil, or_false] at hy
  rw [List.contains_eq_mem, decide_eq_false_iff_not] at hno h3 h5
  rcases hy with rfl | rfl | rfl
  · refine ⟨by simp; omega, ?_⟩
    rw [List.contains_eq_mem, decide_eq_false_iff_not]
    simp [hno]
  · refine ⟨by simp; omega, ?_⟩
    rw [List.contains_eq_mem, decide_eq_false_iff_not]
    simp [hno, h3, h5]
  · exact ⟨by simp, rfl⟩
theorem bodies_le {x : Pl} (hx : Small x) {k : Nat} (hk : k < 16) : (bodyL x k).length ≤ 25 := by
  have h1 := nameL_le k
  have h2 := dec_le hx hk
  rw [body_dec hx hk]
  simp
  omega

set_option maxRecDepth 100000 in
set_option maxHeartbeats 40000000 in
theorem back_walk (A : Option Addr) (n c : Nat) (f : Nat → Int) (B : Option Addr) (m d : Nat) (g : Nat → Int) (r : ByteArray) (a : Nat) (q : Int) (w : World)
    (hA : SrcI .u64 w A n f) (hf : ∀ i, i < n → 0 ≤ f i ∧ f i < 18446744073709551616) (hB : SrcI .u8 w B m g) (hg : ∀ i, i < m → 0 ≤ g i ∧ g i < 256) (ha : a < 256) (ht : Tens w) (hm : Sized q w) :
    Calls Tryz.prog 4 #[.slice A n c, .slice B m d, .string r, .int .u8 (a : Int)] w fun e w' => e = .returned (.bool true) ∧ Below w.heap.size w w' := by
  have HA := Lib.hid (fun W h => alive_any q W h)
  have HM := Lib.hid hm
  by_cases hn : n ≤ 16
  case neg =>
    have d1 : 16 < n := by omega
    go_enter Tryz.func4, Tryz.ntmps4
    go_wp2_with (go_at_call 15; refine (HA.out _ HM.out).mono ?_; clear HA; rintro e w1 ⟨rfl, hb⟩)
    go_ret
    exact ⟨rfl, hb⟩
  by_cases hm16 : m ≤ 16
  case neg =>
    have d1 : 16 < m := by omega
    go_enter Tryz.func4, Tryz.ntmps4
    go_wp2_with (go_at_call 15; refine (HA.out _ HM.out).mono ?_; clear HA; rintro e w1 ⟨rfl, hb⟩)
    go_ret
    exact ⟨rfl, hb⟩
  by_cases h2 : r.size ≤ 50
  case neg =>
    have d1 : 50 < r.size := by omega
    go_enter Tryz.func4, Tryz.ntmps4
    go_wp2_with (go_at_call 15; refine (HA.out _ HM.out).mono ?_; clear HA; rintro e w1 ⟨rfl, hb⟩)
    go_ret
    exact ⟨rfl, hb⟩
  have hc := fun W (h : Sized q W) => Tryz.strings_Contains r ⟨#[10]⟩ q W (by omega) h
  have e10 : (⟨#[10]⟩ : ByteArray).data.toList = [10] := rfl
  rw [e10] at hc
  have HC := Lib.hid hc
  clear hc
  cases hr : Lib.contains r.data.toList [10]
  case true =>
    rw [hr] at HC
    clear hr
    go_enter Tryz.func4, Tryz.ntmps4
    go_wp2_with (first
      | (go_at_call 15; refine (HA.out _ HM.out).mono ?_; clear HA; rintro e w1 ⟨rfl, hb⟩; have HB1 := Lib.hid hb)
      | (go_at_call 16; refine (HC.out _ (HM.out.later HB1.out)).mono ?_; rintro e w2 ⟨rfl, rfl⟩))
    go_ret
    exact ⟨rfl, HB1.out⟩
  rw [hr] at HC
  have hno : r.data.toList.contains 10 = false := by rw [Lib.contains_iff_indexByte, ← Lib.index_one]; exact hr
  clear hr
  have hx := digF_small f n
  have HDG := Lib.hid (fun W (h : Below w.heap.size w W) => digits_any A n c f W hn (hA.later h) hf)
  clear hA hf
  generalize planL (digF f n) = x at *
  have HSH := Lib.hid (fun W h => Show_any x W (small_in64 hx) h)
  have htr := fun W => Tryz.strings_TrimSuffix ⟨(shownL x).toArray⟩ ⟨#[10]⟩ W (by
    have h1 := shownT_le (small_in64 hx) 16 (Nat.le_refl _)
    have h3 := txt_size (shownL x)
    unfold shownL at h3
    simp only [txt] at h3
    unfold shownL
    omega)
  rw [e10, txt_list, trim_shown] at htr
  have hTl := bodies_lines x
  have hTn : (Lib.join (bodies x) [10]).length ≤ 4000 := by
    have h := join_few (c := 25) (r := bodies x) (fun y hy => by
      obtain ⟨k, hk, rfl⟩ := List.mem_map.1 hy
      exact bodies_le hx (List.mem_range.1 hk))
    simp at h
    omega
  have hsp := fun W h => split_any (Lib.join (bodies x) [10]) q W (by omega) h
  rw [hTl] at hsp
  have hb16 : (bodies x).length = 16 := by simp
  rw [hb16] at hsp
  simp only [txt] at hsp
  have HTR := Lib.hid htr
  have HSP := Lib.hid hsp
  have HXS := Lib.hid hx
  have HBS := Lib.hid hB
  have HG := Lib.hid hg
  have HT := Lib.hid ht
  have HQ := Lib.hid x.cellsL
  have HX := Lib.hid (held_start w)
  clear htr hTl hTn hsp hb16 hx hB hg ht hm e10
  obtain ⟨cs, hcs⟩ : ∃ cs, cs = x.cells := ⟨_, rfl⟩
  rw [← hcs] at HDG HSH HQ
  have HCS := Lib.hid hcs
  clear hcs
  obtain ⟨tx, htx⟩ : ∃ tx : ByteArray, tx = ⟨(Lib.join (bodies x) [10]).toArray⟩ := ⟨_, rfl⟩
  rw [← htx] at HTR HSP
  clear htx
  obtain ⟨sh, hsh⟩ : ∃ sh : ByteArray, sh = ⟨(shownL x).toArray⟩ := ⟨_, rfl⟩
  rw [← hsh] at HTR HSH
  clear hsh
  go_enter Tryz.func4, Tryz.ntmps4
  go_upto_region 8 with (first
    | (go_at_call 15; refine (HA.out _ HM.out).mono ?_; clear HA; rintro e w1 ⟨rfl, hb⟩; have HXs := HX; clear HX; have HX := Lib.hid (held_later hb HXs.out); clear HXs hb)
    | (go_at_call 16; refine (HC.out _ (HM.out.later HX.out.1)).mono ?_; clear HC; rintro e w2 ⟨rfl, rfl⟩)
    | (go_at_call 18; refine (HDG.out _ HX.out.1).mono ?_; clear HDG; rintro e w3 ⟨rfl, hb⟩; have HXs := HX; clear HX; have HX := Lib.hid (held_later hb HXs.out); clear HXs hb)
    | (refine wpList_store_last (w := w3) rfl 23 (.tmp 10) (.tmp 60) rfl _ cs rfl rfl 23 _ rfl HQ.out.plan HQ.out.size.symm HQ.out.one ?_; have hp0 := HX.out.1.size; have HXs := HX; clear HX; have HX := Lib.hid (held_new HXs.out 23 cs); clear HXs)
    | (refine wpList_load_row rfl 23 (.tmp 10) rfl w3.heap.size rfl 23 cs (0, 0) _ (held1 HX.out) Tryz.underlying23 rfl HQ.out.plan ?_)
    | (go_at_call 6; refine (HSH.out _ (HT.out.later HX.out.1)).mono ?_; clear HSH; rintro e w5 ⟨rfl, hb⟩; have HXs := HX; clear HX; have HX := Lib.hid (held_later hb HXs.out); clear HXs hb)
    | (go_at_call 20; refine (HTR.out _).mono ?_; clear HTR; rintro e w6 ⟨rfl, rfl⟩)
    | (go_at_call 19; refine (HSP.out _ (HM.out.later HX.out.1)).mono ?_; clear HSP; rintro e w7 ⟨rfl, hw7⟩; have hps := (held1 HX.out).lt; have hs0 := HX.out.1.size; have HXs := HX; clear HX; have HX := Lib.hid (hw7 ▸ held_new HXs.out 9 (strV (bodies x)).toArray); clear HXs))
  rw [← hw7]
  clear hw7
  have HP1 := Lib.hid (held1 HX.out)
  have HSL := Lib.hid (held2 HX.out)
  have HB7 := Lib.hid HX.out.1
  clear HX
  simp only at HP1 HSL hp0 hps hs0
  generalize w3.heap.size = pb at *
  generalize w6.heap.size = sb at *
  go_wp2
  go_loopw [70] (fun i V => ∃ (k : Nat) (π : List Nat), k ≤ m ∧ i = .int .i64 (k : Int) ∧ π.Perm (List.range 16) ∧ Kept (fun j => j = sb) w7 V ∧ Whole V sb 9 (strV (π.map (bodyL x))).toArray) (fun i _ => m - (intOf i).toNat)
  case atStart => exact ⟨0, List.range 16, Nat.zero_le _, rfl, List.Perm.refl _, Kept.refl _ _, HSL.out⟩
  case round =>
    obtain ⟨k, π, hk, rfl, hp, hkp, hws⟩ := hrel
    have HK := Lib.hid hkp
    have HR := Lib.hid hws
    have HPM := Lib.hid hp
    have hlen : π.length = 16 := by rw [hp.length_eq]; simp
    clear hkp hws hp
    by_cases hlt : k < m
    · obtain ⟨b2, o2, rfl, hbl, hcl⟩ := HBS.out (by omega)
      have hc0 : wr.cell? ⟨b2, o2 + k, none⟩ = some (.int .u8 (g k)) := HK.out.cell (p := ⟨b2, o2 + k, none⟩) (k_cell HB7.out (hcl k hlt)) (by simp only; omega)
      obtain ⟨g1, g2⟩ := HG.out k hlt
      clear hcl
      generalize g k = u at *
      obtain ⟨e, he, hek⟩ : ∃ e : Nat, u.tmod (16 - (k : Int)) = (e : Int) ∧ k + e < 16 := by
        have h0 : 0 ≤ u % (16 - (k : Int)) := Int.emod_nonneg _ (by omega)
        have h1 : u % (16 - (k : Int)) < 16 - (k : Int) := Int.emod_lt_of_pos _ (by omega)
        exact ⟨(u % (16 - (k : Int))).toNat, by rw [Int.tmod_eq_emod_of_nonneg g1]; omega, by omega⟩
      have hz : ¬ (16 - (k : Int)) = 0 := by omega
      have hk16 : k < π.length := by omega
      have hj16 : k + e < π.length := by omega
      have c1 := (HR.out.cell k).trans (row_get x π hk16)
      have c2 := (HR.out.cell (k + e)).trans (row_get x π hj16)
      have f1 := HR.out.frozen k
      have f2 := HR.out.frozen (k + e)
      have HEND := Lib.hid (show ∀ V, V = (wr.setCell ⟨sb, k, none⟩ (.string (txt (bodyL x π[k + e])))).setCell ⟨sb, k + e, none⟩ (.string (txt (bodyL x π[k]))) → ((π.set k π[k + e]).set (k + e) π[k]).Perm (List.range 16) ∧ Kept (fun j => j = sb) w7 V ∧ Whole V sb 9 (strV (((π.set k π[k + e]).set (k + e) π[k]).map (bodyL x))).toArray by
        rintro V rfl
        refine ⟨swap_perm HPM.out hk16 hj16, (HK.out.setCell (p := ⟨sb, k, none⟩) (.inl rfl) _).setCell (p := ⟨sb, k + e, none⟩) (.inl rfl) _, ?_⟩
        have h := (HR.out.set k (.string (txt (bodyL x π[k + e])))).set (k + e) (.string (txt (bodyL x π[k])))
        rw [row_set, row_set] at h
        exact h)
      generalize (π.set k π[k + e]).set (k + e) π[k] = π' at *
      obtain ⟨tk, htk⟩ : ∃ t, t = txt (bodyL x π[k]) := ⟨_, rfl⟩
      obtain ⟨tj, htj⟩ : ∃ t, t = txt (bodyL x π[k + e]) := ⟨_, rfl⟩
      rw [← htk, ← htj] at HEND
      rw [← htk] at c1
      rw [← htj] at c2
      clear htk htj HR HK HPM HG HBS
      go_upto_region 12 with fail
      by_cases he0 : e = 0
      · subst he0
        have htt : tj = tk := by
          have h := c2.symm.trans c1
          simpa using h
        subst htt
        go_region
        all_goals
          go_wp2
          go_roundw
          case rel =>
            obtain ⟨e1, e2, e3⟩ := HEND.out _ rfl
            exact ⟨k + 1, π', by omega, by go_num, e1, e2.drew, e3.drew⟩
          case measure => simp [intOf]; omega
      · go_region
        all_goals
          go_wp2
          go_roundw
          case rel =>
            obtain ⟨e1, e2, e3⟩ := HEND.out _ rfl
            exact ⟨k + 1, π', by omega, by go_num, e1, e2.drew, e3.drew⟩
          case measure => simp [intOf]; omega
    · obtain rfl : m = k := by omega
      clear hlt HSL HBS HG hm16 hk
      obtain ⟨ka, hka, hk16⟩ : ∃ ka : Nat, (a : Int).tmod 16 = (ka : Int) ∧ ka < 16 := ⟨a % 16, by rw [Int.tmod_eq_emod_of_nonneg (by omega)]; omega, Nat.mod_lt _ (by omega)⟩
      have HX := Lib.hid (show Held w [(pb, 23, cs), (sb, 9, (strV (π.map (bodyL x))).toArray)] wr from ⟨HB7.out.trans (Kept.below_from HK.out HB7.out.size (fun i h => by omega)), fun y hy => by
        simp only [List.mem_cons, List.not_mem_nil, or_false] at hy
        rcases hy with rfl | rfl
        · exact HP1.out.kept HK.out (by show ¬ pb = sb; omega)
        · exact HR.out⟩)
      have hlv : (π.map (bodyL x)).length = 16 := by rw [List.length_map, hlen]
      clear HB7 HP1 HK HR
      generalize wr = w8 at *
      go_upto_region 15 with fail
      obtain ⟨i0, hi0, hz0, hz1, hz2⟩ := info_parts str_info
      obtain ⟨ls, hls⟩ : ∃ ls, ls = π.map (bodyL x) := ⟨_, rfl⟩
      rw [← hls] at HX hlv
      have HLS := Lib.hid hls
      clear hls
      have hslt := (held2 HX.out).lt
      simp only at hslt
      have HRW := Lib.hid (fun W (h : Below w8.heap.size w8 W) => ((held2 HX.out).below h hslt : Whole W sb 9 (strV ls).toArray))
      go_cut [16] (fun s16 wx => ∃ (gb cap : Nat), s16 = .slice (some ⟨gb, 0, none⟩) 15 cap ∧ (∀ (j : Nat) u, ((ls.take ka ++ ls.drop (ka + 1)).map txt)[j]? = some u → wx.cell? ⟨gb, j, none⟩ = some (.string u)) ∧ gb < wx.heap.size ∧ 15 ≤ cap ∧ Below w8.heap.size w8 wx)
      case first =>
        have G0 := Lib.hid (show Below w8.heap.size w8 (w8.alloc (.cells #[] 9)).drew from by
          have := (Below.refl w8.heap.size w8).alloc (Nat.le_refl _) (.cells #[] 9)
          exact ⟨this.os, this.tape, this.output, this.size, this.block⟩)
        have OW := Lib.hid ((own_empty w8 w8.heap.size 9 (Nat.le_refl _)).drew)
        by_cases h15 : ka = 15
        · have h15a : (15 = ka) = True := eq_true h15.symm
          have h15b : (ka = 15) = True := eq_true h15
          have H15 := Lib.hid h15
          have q0 : (0 : Int) ≤ (ka : Int) := by omega
          have q1 : (ka : Int) ≤ 16 := by omega
          have q2 : (ka : Int) + 1 ≤ 16 := by omega
          have q3 : (0 : Int) ≤ (ka : Int) + 1 := by omega
          have q4 : IntKind.i64.wrap ((ka : Int) + 1) = (ka : Int) + 1 := IntWalk.i64_in _ (by omega)
          have F1 : 0 + ka ≤ maxLen := by simp only [maxLen]; omega
          have F2 : (0 + ka) * 16 ≤ 140737488355328 := by omega
          have F3 : 0 + ka + (15 - ka) ≤ maxLen := by simp only [maxLen]; omega
          have F4 : (0 + ka + (15 - ka)) * 16 ≤ 140737488355328 := by omega
          have F5 : (strV (ls.take ka)).length = ka * 1 := by rw [strV_length, List.length_take]; omega
          have F6 : (strV (ls.drop (ka + 1))).length = (15 - ka) * 1 := by rw [strV_length, List.length_drop]; omega
          have F7 := Lib.hid (fun (W : World) (j : Nat) (u : Value) (hu : (strV (ls.drop (ka + 1)))[j]? = some u) => (by have h := (List.getElem?_eq_some_iff.1 hu).1; omega : W.cell? ((⟨sb, 0, none⟩ : Addr).add j) = some u))
          clear h15
          go_region_held3 (fun _ => True) (trivial) (first
            | (refine step_append_any rfl (.tmp 100) (.tmp 103) 37 rfl w8.heap.size 9 i0 (.string ⟨#[]⟩) 1 16 Tryz.underlying37 hi0 hz0 hz1 hz2 rfl Nat.one_pos (.slice (some ⟨w8.heap.size, 0, none⟩) 0 0) 0 [] rfl OW.out ⟨sb, 0, none⟩ ka 16 (strV (ls.take ka)) rfl F5 (row_take (HRW.out _ G0.out) ka) strV_one F1 F2 G0.out.size ?_; intro v1 W1 hown1 hgrow1; have GB1 := Lib.hid (below_grown G0.out hgrow1 (own_block OW.out)); have HO1 := Lib.hid hown1; clear hown1 hgrow1)
            | (refine step_append_any rfl (.tmp 104) (.tmp 108) 37 rfl w8.heap.size 9 i0 (.string ⟨#[]⟩) 1 16 Tryz.underlying37 hi0 hz0 hz1 hz2 rfl Nat.one_pos v1 (0 + ka) ([] ++ strV (ls.take ka)) rfl HO1.out ⟨sb, 0, none⟩ (15 - ka) (15 - ka) (strV (ls.drop (ka + 1))) rfl F6 (F7.out _) strV_one F3 F4 GB1.out.size ?_; intro v2 W2 hown2 hgrow2; have GB2 := Lib.hid (below_grown GB1.out hgrow2 (own_block HO1.out)); have HO2 := Lib.hid hown2; clear hown2 hgrow2))
          all_goals
            go_wp2_with fail
            go_meet
            have e1 : ([] ++ strV (ls.take ka)) ++ strV (ls.drop (ka + 1)) = strV (ls.take ka ++ ls.drop (ka + 1)) := by rw [List.nil_append, strV_append]
            have e2 : 0 + ka + (15 - ka) = 15 := by have := H15.out; omega
            have h := HO2.out
            rw [e1, e2] at h
            obtain ⟨gb, cap, rfl, hcells, hlt, hcap⟩ := own_strings h (by omega)
            exact ⟨gb, cap, rfl, hcells, hlt, hcap, GB2.out⟩
        · have h15' : ¬ 15 = ka := fun h => h15 h.symm
          have q0 : (0 : Int) ≤ (ka : Int) := by omega
          have q1 : (ka : Int) ≤ 16 := by omega
          have q2 : (ka : Int) + 1 ≤ 16 := by omega
          have q3 : (0 : Int) ≤ (ka : Int) + 1 := by omega
          have q4 : IntKind.i64.wrap ((ka : Int) + 1) = (ka : Int) + 1 := IntWalk.i64_in _ (by omega)
          have F1 : 0 + ka ≤ maxLen := by simp only [maxLen]; omega
          have F2 : (0 + ka) * 16 ≤ 140737488355328 := by omega
          have F3 : 0 + ka + (15 - ka) ≤ maxLen := by simp only [maxLen]; omega
          have F4 : (0 + ka + (15 - ka)) * 16 ≤ 140737488355328 := by omega
          have F5 : (strV (ls.take ka)).length = ka * 1 := by rw [strV_length, List.length_take]; omega
          have F6 : (strV (ls.drop (ka + 1))).length = (15 - ka) * 1 := by rw [strV_length, List.length_drop]; omega
          go_region_held3 (fun _ => True) (trivial) (first
            | (refine step_append_any rfl (.tmp 100) (.tmp 103) 37 rfl w8.heap.size 9 i0 (.string ⟨#[]⟩) 1 16 Tryz.underlying37 hi0 hz0 hz1 hz2 rfl Nat.one_pos (.slice (some ⟨w8.heap.size, 0, none⟩) 0 0) 0 [] rfl OW.out ⟨sb, 0, none⟩ ka 16 (strV (ls.take ka)) rfl F5 (row_take (HRW.out _ G0.out) ka) strV_one F1 F2 G0.out.size ?_; intro v1 W1 hown1 hgrow1; have GB1 := Lib.hid (below_grown G0.out hgrow1 (own_block OW.out)); have HO1 := Lib.hid hown1; clear hown1 hgrow1)
            | (refine step_append_any rfl (.tmp 104) (.tmp 108) 37 rfl w8.heap.size 9 i0 (.string ⟨#[]⟩) 1 16 Tryz.underlying37 hi0 hz0 hz1 hz2 rfl Nat.one_pos v1 (0 + ka) ([] ++ strV (ls.take ka)) rfl HO1.out ⟨sb, ka + 1, none⟩ (15 - ka) (15 - ka) (strV (ls.drop (ka + 1))) rfl F6 (row_drop (HRW.out _ GB1.out) (ka + 1)) strV_one F3 F4 GB1.out.size ?_; intro v2 W2 hown2 hgrow2; have GB2 := Lib.hid (below_grown GB1.out hgrow2 (own_block HO1.out)); have HO2 := Lib.hid hown2; clear hown2 hgrow2))
          all_goals
            go_wp2_with fail
            go_meet
            have e1 : ([] ++ strV (ls.take ka)) ++ strV (ls.drop (ka + 1)) = strV (ls.take ka ++ ls.drop (ka + 1)) := by rw [List.nil_append, strV_append]
            have e2 : 0 + ka + (15 - ka) = 15 := by omega
            have h := HO2.out
            rw [e1, e2] at h
            obtain ⟨gb, cap, rfl, hcells, hlt, hcap⟩ := own_strings h (by omega)
            exact ⟨gb, cap, rfl, hcells, hlt, hcap, GB2.out⟩
      case rest =>
        obtain ⟨gb, cap, rfl, hcells, hlt, hcap, hbc⟩ := hcut
        obtain ⟨le, hle⟩ : ∃ le, le = ls.take ka ++ ls.drop (ka + 1) := ⟨_, rfl⟩
        rw [← hle] at hcells
        have HLE := Lib.hid hle
        have hll : le.length = 15 := by rw [hle, List.length_append, List.length_take, List.length_drop]; omega
        have HJL := Lib.hid (fun hj => joins_lines hcells hlt hll (by omega) hcap hj)
        have HXs := HX
        clear HX
        have HX := Lib.hid (held_later hbc HXs.out)
        clear HXs HRW hcells hlt hcap hbc hle hslt
        generalize wc = w9 at *
        have hslt := (held2 HX.out).lt
        simp only at hslt
        have HRW := Lib.hid (fun W (h : Below w9.heap.size w9 W) => ((held2 HX.out).below h hslt : Whole W sb 9 (strV ls).toArray))
        have hkl : ka < ls.length := by omega
        have ck : w9.cell? ⟨sb, ka, none⟩ = some (.string (txt ls[ka])) := by
          refine ((held2 HX.out).cell ka).trans ?_
          simp [strV, hkl]
        obtain ⟨tk, htk⟩ : ∃ tk, tk = txt ls[ka] := ⟨_, rfl⟩
        rw [← htk] at ck
        have HTK := Lib.hid htk
        clear htk
        go_upto_region 16 with fail
        go_cut [17] (fun s17 wx => ∃ (gb cap : Nat), s17 = .slice (some ⟨gb, 0, none⟩) 18 cap ∧ (∀ (j : Nat) u, ((ls ++ [[], ls[ka]]).map txt)[j]? = some u → wx.cell? ⟨gb, j, none⟩ = some (.string u)) ∧ gb < wx.heap.size ∧ 18 ≤ cap ∧ Below w9.heap.size w9 wx)
        case first =>
          have b1 := (Below.refl w9.heap.size w9).alloc (Nat.le_refl _) (.cells #[] 9)
          have b2 := b1.alloc b1.size (.cells #[.string ⟨#[]⟩, .string tk] 9)
          have b3 := ((Below.refl w9.heap.size w9).alloc (Nat.le_refl _) (.cells #[.string ⟨#[]⟩, .string tk] 9))
          have b4 := b3.alloc b3.size (.cells #[] 9)
          have G1 := Lib.hid (show Below w9.heap.size w9 (w9.alloc (.cells #[] 9)).drew from ⟨b1.os, b1.tape, b1.output, b1.size, b1.block⟩)
          have G2 := Lib.hid (show Below w9.heap.size w9 ((w9.alloc (.cells #[] 9)).alloc (.cells #[.string ⟨#[]⟩, .string tk] 9)).drew from ⟨b2.os, b2.tape, b2.output, b2.size, b2.block⟩)
          have G3 := Lib.hid (show Below w9.heap.size w9 ((w9.alloc (.cells #[.string ⟨#[]⟩, .string tk] 9)).alloc (.cells #[] 9)).drew from ⟨b4.os, b4.tape, b4.output, b4.size, b4.block⟩)
          have G5 := Lib.hid (show Below w9.heap.size w9 (w9.alloc (.cells #[.string ⟨#[]⟩, .string tk] 9)).drew from ⟨b3.os, b3.tape, b3.output, b3.size, b3.block⟩)
          have ow1 := own_empty w9 w9.heap.size 9 (Nat.le_refl _)
          have ow3 := own_empty (w9.alloc (.cells #[.string ⟨#[]⟩, .string tk] 9)) w9.heap.size 9 (by simp)
          have gd2 := Whole.new (w9.alloc (.cells #[] 9)) 9 #[.string ⟨#[]⟩, .string tk]
          simp only [World.size_alloc] at ow3 gd2
          have OW1 := Lib.hid ow1.drew
          have OW2 := Lib.hid (ow1.alloc (.cells #[.string ⟨#[]⟩, .string tk] 9)).drew
          have OW3 := Lib.hid ow3.drew
          have GD2 := Lib.hid gd2.drew
          have GD3 := Lib.hid ((Whole.new w9 9 #[.string ⟨#[]⟩, .string tk]).alloc (.cells #[] 9)).drew
          clear b1 b2 b3 b4 ow1 ow3 gd2
          have q0 : (0 : Int) ≤ (ka : Int) := by omega
          have q1 : (ka : Int) < 16 := by omega
          have F1 : 0 + 16 ≤ maxLen := by simp [maxLen]
          have F2 : (0 + 16) * 16 ≤ 140737488355328 := by omega
          have F3 : 0 + 16 + 2 ≤ maxLen := by simp [maxLen]
          have F4 : (0 + 16 + 2) * 16 ≤ 140737488355328 := by omega
          have F5 : (strV ls).length = 16 * 1 := by rw [strV_length]; omega
          have F7 : ∀ u ∈ [Value.string ⟨#[]⟩, Value.string tk], u.oneCell' = true := by intro u hu; simp at hu; rcases hu with rfl | rfl <;> rfl
          have HNI := Lib.hid (fun (W : World) (j : Nat) (u : Value) (hu : [Value.string ⟨#[]⟩, Value.string tk][j]? = some u) => (World.news_of_block (Whole.new W 9 #[.string ⟨#[]⟩, .string tk]) j u hu : (W.alloc (.cells #[.string ⟨#[]⟩, .string tk] 9)).cell? ((⟨W.heap.size, 0, none⟩ : Addr).add j) = some u))
          have HNII := Lib.hid (fun (W : World) (bb : Nat) (hW : Whole W bb 9 #[.string ⟨#[]⟩, .string tk]) (j : Nat) (u : Value) (hu : [Value.string ⟨#[]⟩, Value.string tk][j]? = some u) => (World.news_of_block hW j u hu : W.cell? ((⟨bb, 0, none⟩ : Addr).add j) = some u))
          have HCK := Lib.hid (fun (W : World) (h : Below w9.heap.size w9 W) => (k_cell h ck : W.cell? ⟨sb, ka, none⟩ = some (.string tk)))
          have HBA := Lib.hid (fun (W : World) (h : Below w9.heap.size w9 W) => (h.alloc h.size (.cells #[.string ⟨#[]⟩, .string tk] 9) : Below w9.heap.size w9 (W.alloc (.cells #[.string ⟨#[]⟩, .string tk] 9))))
          go_region_held3 (fun W => W.cell? ⟨sb, ka, none⟩ = some (.string tk)) (first | exact ck | exact HCK.out _ G1.out | exact HCK.out _ G2.out | exact HCK.out _ G3.out | exact HCK.out _ G5.out | exact HCK.out _ GB1.out | exact HCK.out _ (HBA.out _ GB1.out) | exact HCK.out _ GB2.out) (first
            | (refine step_append_any rfl (.tmp 110) (.tmp 111) 37 rfl w9.heap.size 9 i0 (.string ⟨#[]⟩) 1 16 Tryz.underlying37 hi0 hz0 hz1 hz2 rfl Nat.one_pos (.slice (some ⟨w9.heap.size, 0, none⟩) 0 0) 0 [] rfl OW1.out ⟨sb, 0, none⟩ 16 16 (strV ls) rfl F5 (row_all (HRW.out _ G1.out)) strV_one F1 F2 G1.out.size ?_; intro v1 W1 hown1 hgrow1; have GB1 := Lib.hid (below_grown G1.out hgrow1 (own_block OW1.out)); have HO1 := Lib.hid hown1; have ck1 := k_cell GB1.out ck; clear hown1 hgrow1)
            | (refine step_append_any rfl (.tmp 110) (.tmp 111) 37 rfl w9.heap.size 9 i0 (.string ⟨#[]⟩) 1 16 Tryz.underlying37 hi0 hz0 hz1 hz2 rfl Nat.one_pos (.slice (some ⟨w9.heap.size, 0, none⟩) 0 0) 0 [] rfl OW2.out ⟨sb, 0, none⟩ 16 16 (strV ls) rfl F5 (row_all (HRW.out _ G2.out)) strV_one F1 F2 G2.out.size ?_; intro v1 W1 hown1 hgrow1; have GB1 := Lib.hid (below_grown G2.out hgrow1 (own_block OW2.out)); have HO1 := Lib.hid hown1; have ck1 := k_cell GB1.out ck; have GD1 := Lib.hid (GD2.out.grown hgrow1 (by simp [Value.ownBlock])); clear hown1 hgrow1)
            | (refine step_append_any rfl (.tmp 110) (.tmp 111) 37 rfl w9.heap.size 9 i0 (.string ⟨#[]⟩) 1 16 Tryz.underlying37 hi0 hz0 hz1 hz2 rfl Nat.one_pos (.slice (some ⟨w9.heap.size + 1, 0, none⟩) 0 0) 0 [] rfl OW3.out ⟨sb, 0, none⟩ 16 16 (strV ls) rfl F5 (row_all (HRW.out _ G3.out)) strV_one F1 F2 G3.out.size ?_; intro v1 W1 hown1 hgrow1; have GB1 := Lib.hid (below_grown G3.out hgrow1 (own_block OW3.out)); have HO1 := Lib.hid hown1; have ck1 := k_cell GB1.out ck; have GD1 := Lib.hid (GD3.out.grown hgrow1 (by simp [Value.ownBlock])); clear hown1 hgrow1)
            | (refine step_append_any rfl (.tmp 112) (.tmp 117) 37 rfl w9.heap.size 9 i0 (.string ⟨#[]⟩) 1 16 Tryz.underlying37 hi0 hz0 hz1 hz2 rfl Nat.one_pos v1 (0 + 16) ([] ++ strV ls) rfl (HO1.out.alloc (.cells #[.string ⟨#[]⟩, .string tk] 9)) ⟨W1.heap.size, 0, none⟩ 2 2 [.string ⟨#[]⟩, .string tk] rfl rfl (HNI.out W1) F7 F3 F4 (HBA.out _ GB1.out).size ?_; intro v2 W2 hown2 hgrow2; have GB2 := Lib.hid (below_grown (HBA.out _ GB1.out) hgrow2 (own_block HO1.out)); have HO2 := Lib.hid hown2; clear hown2 hgrow2)
            | (refine step_append_any rfl (.tmp 112) (.tmp 117) 37 rfl w9.heap.size 9 i0 (.string ⟨#[]⟩) 1 16 Tryz.underlying37 hi0 hz0 hz1 hz2 rfl Nat.one_pos v1 (0 + 16) ([] ++ strV ls) rfl HO1.out ⟨(w9.heap.size + 1), 0, none⟩ 2 2 [.string ⟨#[]⟩, .string tk] rfl rfl (HNII.out _ _ GD1.out) F7 F3 F4 GB1.out.size ?_; intro v2 W2 hown2 hgrow2; have GB2 := Lib.hid (below_grown GB1.out hgrow2 (own_block HO1.out)); have HO2 := Lib.hid hown2; clear hown2 hgrow2)
            | (refine step_append_any rfl (.tmp 112) (.tmp 117) 37 rfl w9.heap.size 9 i0 (.string ⟨#[]⟩) 1 16 Tryz.underlying37 hi0 hz0 hz1 hz2 rfl Nat.one_pos v1 (0 + 16) ([] ++ strV ls) rfl HO1.out ⟨w9.heap.size, 0, none⟩ 2 2 [.string ⟨#[]⟩, .string tk] rfl rfl (HNII.out _ _ GD1.out) F7 F3 F4 GB1.out.size ?_; intro v2 W2 hown2 hgrow2; have GB2 := Lib.hid (below_grown GB1.out hgrow2 (own_block HO1.out)); have HO2 := Lib.hid hown2; clear hown2 hgrow2))
          all_goals
            go_wp2_with fail
            go_meet
            have e1 : ([] ++ strV ls) ++ [.string ⟨#[]⟩, .string tk] = strV (ls ++ [[], ls[ka]]) := by
              rw [List.nil_append, strV_append, HTK.out]
              rfl
            have h := HO2.out
            rw [e1] at h
            obtain ⟨gb, cap, rfl, hcells, hlt, hcap⟩ := own_strings h (by omega)
            exact ⟨gb, cap, rfl, hcells, hlt, hcap, GB2.out⟩
        case rest =>
          obtain ⟨gt, capt, rfl, hcells, hlt, hcap, hbc⟩ := hcut
          obtain ⟨tw, htw⟩ : ∃ tw, tw = ls ++ [[], ls[ka]] := ⟨_, rfl⟩
          rw [← htw] at hcells
          have htl : tw.length = 18 := by rw [htw, List.length_append]; simp [hlv]
          have hbl : ∀ y ∈ ls, y.length ≤ 25 := by
            intro y hy
            rw [HLS.out] at hy
            obtain ⟨k, hk, rfl⟩ := List.mem_map.1 hy
            exact bodies_le HXS.out (List.mem_range.1 (HPM.out.mem_iff.1 hk))
          have hjl : (Lib.join ls [10]).length ≤ 4000 := by have := join_few (c := 25) hbl; omega
          have hjt : (Lib.join tw [10]).length ≤ 4000 := by
            have := join_few (c := 25) (r := tw) (fun y hy => by
              rw [htw] at hy
              rcases List.mem_append.1 hy with hy | hy
              · exact hbl y hy
              · simp only [List.mem_cons, List.not_mem_nil, or_false] at hy
                rcases hy with rfl | rfl
                · simp
                · exact hbl _ (List.getElem_mem hkl))
            omega
          have hjle : (Lib.join le [10]).length ≤ 4000 := by
            have := join_few (c := 25) (r := le) (fun y hy => by
              rw [HLE.out] at hy
              rcases List.mem_append.1 hy with hy | hy
              · exact hbl y (List.mem_of_mem_take hy)
              · exact hbl y (List.mem_of_mem_drop hy))
            omega
          have HJT := Lib.hid (joins_lines hcells hlt htl (by omega) hcap (by omega))
          have HJL2 := Lib.hid ((HJL.out (by omega)).later hbc)
          have HJA := Lib.hid (joins_lines (w := wc) (ls := ls) (fun j u hu => by
            have h := (row_all (HRW.out _ hbc)) j (.string u) (by
              rw [List.getElem?_map] at hu
              rw [strV, List.getElem?_map]
              cases hj : ls[j]? with
              | none => rw [hj] at hu; simp at hu
              | some m => rw [hj] at hu; simp at hu; simp [hu])
            rw [plain_add8, Nat.zero_add] at h
            exact h) (Nat.lt_of_lt_of_le hslt hbc.size) hlv (by omega) (Nat.le_refl 16) (by omega))
          have HTW := Lib.hid htw
          have HXs := HX
          clear HX
          have HX := Lib.hid (held_later hbc HXs.out)
          clear HXs HRW HJL hcells hlt hcap hbc htw hslt ck HTK
          generalize wc = w10 at *
          have hslt := (held2 HX.out).lt
          simp only at hslt
          have HRW := Lib.hid (fun W (h : Below w10.heap.size w10 W) => ((held2 HX.out).below h hslt : Whole W sb 9 (strV ls).toArray))
          obtain ⟨rm, hrm⟩ : ∃ rm, rm = r.data.toList := ⟨_, rfl⟩
          rw [← hrm] at hno
          have HRM := Lib.hid hrm
          have hrl : rm.length ≤ 50 := by
            have h : r.data.toList.length = r.size := by rw [Array.length_toList]; rfl
            rw [hrm, h]
            exact h2
          clear hrm
          go_wp2
          go_loopw [18, 121] (fun v i V => ∃ k : Nat, k ≤ 16 ∧ i = .int .i64 (k : Int) ∧ V.ownsRow w10.heap.size 9 1 v (3 * k) (strV ((π.take k).flatMap (moreL x rm))) ∧ Below w10.heap.size w10 V) (fun _ i _ => 16 - (intOf i).toNat)
          case atStart => exact ⟨0, by omega, rfl, World.ownsRow_nil _ _ _ _, Below.refl _ _⟩
          case round =>
            obtain ⟨k, hk, rfl, hrow, hbw⟩ := hrel
            by_cases hlt : k < 16
            · have hkp : k < π.length := by omega
              have hkn : π[k] < 16 := List.mem_range.1 (HPM.out.mem_iff.1 (List.getElem_mem hkp))
              have hkl2 : k < ls.length := by omega
              have hle2 : ls[k] = bodyL x π[k] := by
                have h := HLS.out
                subst h
                simp
              have hc0 : wr.cell? ⟨sb, k, none⟩ = some (.string (txt (bodyL x π[k]))) := by
                refine ((HRW.out _ hbw).cell k).trans ?_
                simp [strV, hkl2, hle2]
              have hcut := fun W (h : Sized q W) => Tryz.strings_Cut (txt (bodyL x π[k])) ⟨#[32, 61, 32]⟩ q W (by rw [txt_size]; have := bodies_le HXS.out hkn; omega) h
              have e3 : (⟨#[32, 61, 32]⟩ : ByteArray).data.toList = [32, 61, 32] := rfl
              rw [e3, txt_list, body_cut HXS.out hkn] at hcut
              have HCU := Lib.hid hcut
              have HMR := Lib.hid (HM.out.later (k_then hbw HX.out.1))
              have hkd : (π.take (k + 1)).flatMap (moreL x rm) = (π.take k).flatMap (moreL x rm) ++ moreL x rm π[k] := by
                rw [List.take_succ_eq_append_getElem hkp, List.flatMap_append]
                simp
              have HKD := Lib.hid hkd
              clear hcut hkd e3 hle2
              have hn1 := nameL_le π[k]
              have hd1 := dec_le HXS.out hkn
              obtain ⟨bt, hbt⟩ : ∃ bt, bt = txt (bodyL x π[k]) := ⟨_, rfl⟩
              rw [← hbt] at hc0 HCU
              obtain ⟨nk, hnk⟩ : ∃ nk : ByteArray, nk = ⟨(nameL π[k]).toArray⟩ := ⟨_, rfl⟩
              obtain ⟨dk, hdk⟩ : ∃ dk : ByteArray, dk = ⟨(decN x π[k]).toArray⟩ := ⟨_, rfl⟩
              rw [← hnk, ← hdk] at HCU
              have HNK := Lib.hid hnk
              have HDK := Lib.hid hdk
              have hs1 : nk.size ≤ 7 := by rw [hnk]; simpa [ByteArray.size] using hn1
              have hs2 : dk.size ≤ 15 := by rw [hdk]; simpa [ByteArray.size] using hd1
              have HOW := Lib.hid hrow
              have HBW := Lib.hid hbw
              clear hbt hnk hdk hn1 hd1 hrow hbw
              have HOWA := Lib.hid (fun (nd : Nat) (o : Obj) => own_drewn HOW.out nd o)
              have HNEW := Lib.hid (fun (nd : Nat) (s1 s2 : ByteArray) => news_drewn (w := wr) nd 9 [.string s1, .string s2, .string ⟨#[]⟩])
              have HSZ := Lib.hid (fun (nd : Nat) (o : Obj) => size_drewn HBW.out.size nd o)
              have HBG := Lib.hid (fun (nd : Nat) (o : Obj) W (hg : ((wr.drewN nd).alloc o).grownBy W u18.ownBlock) => below_drewn_grown HBW.out nd o hg (own_block HOW.out))
              have F7 := Lib.hid (show ∀ (s1 s2 : ByteArray), ∀ u ∈ [Value.string s1, Value.string s2, Value.string ⟨#[]⟩], u.oneCell' = true by
                intro s1 s2 u hu
                simp only [List.mem_cons, List.not_mem_nil, or_false] at hu
                rcases hu with rfl | rfl | rfl <;> rfl)
              have F3 : 3 * k + 3 ≤ maxLen := by unfold maxLen; omega
              have F4 : (3 * k + 3) * 16 ≤ 140737488355328 := by omega
              have HMO := Lib.hid (more_row (x := x) (k := π[k]) HRM.out HNK.out HDK.out)
              go_wp2_with (first
                | (go_at_call 21; refine (HCU.out _ HMR.out).mono ?_; clear HCU; rintro e wd ⟨rfl, nd, rfl⟩)
                | (at_builtin; generalize hx1 : (⟨#[32, 9]⟩ ++ nk ++ ⟨#[61]⟩ ++ dk ++ ⟨#[32, 35]⟩ ++ r : ByteArray) = s2; generalize hx2 : (⟨#[35]⟩ ++ r : ByteArray) = s1; have HS1 := Lib.hid hx2; have HS2 := Lib.hid hx1; clear hx1 hx2; refine wpList_append_own _ rfl (.tmp 131) (.tmp 142) 37 rfl w10.heap.size 9 i0 (.string ⟨#[]⟩) 1 16 Tryz.underlying37 hi0 hz0 hz1 hz2 rfl Nat.one_pos u18 (3 * k) (strV ((π.take k).flatMap (moreL x rm))) rfl (HOWA.out nd _) ⟨wr.heap.size, 0, none⟩ 3 3 [.string s1, .string s2, .string ⟨#[]⟩] rfl rfl (HNEW.out nd s1 s2) (F7.out s1 s2) F3 F4 (HSZ.out nd _) ?_; clear HOWA HNEW HSZ F7 F3 F4; intro v' w2 hown' hgrow _; have HOW2 := Lib.hid hown'; have HBW2 := Lib.hid (HBG.out nd _ _ hgrow); clear hown' hgrow))
              go_roundw
              case rel =>
                refine ⟨k + 1, by omega, by go_num, ?_, HBW2.out⟩
                have h := HOW2.out
                rw [HKD.out, strV_append, HMO.out, HS1.out, HS2.out, show 3 * (k + 1) = 3 * k + 3 by omega]
                exact h
              case measure => simp [intOf]; omega
            · obtain rfl : k = 16 := by omega
              have hms : (π.take 16).flatMap (moreL x rm) = π.flatMap (moreL x rm) := by rw [List.take_of_length_le (by omega)]
              rw [hms] at hrow
              have hlt16 : ∀ k ∈ π, k < 16 := fun k hk => List.mem_range.1 (HPM.out.mem_iff.1 hk)
              rw [show 3 * 16 = 48 from rfl] at hrow
              obtain ⟨gm, capm, rfl, hcells, hlt2, hcap⟩ := own_strings hrow (by omega)
              have hml : (π.flatMap (moreL x rm)).length = 48 := by have := hrow.1; rw [strV_length] at this; omega
              have hm77 : ∀ y ∈ π.flatMap (moreL x rm), y.length ≤ 77 ∧ y.contains 10 = false := by
                intro y hy
                obtain ⟨k, hk, hy⟩ := List.mem_flatMap.1 hy
                exact more_line HXS.out hno hrl (hlt16 k hk) hy
              have hjm : (Lib.join (π.flatMap (moreL x rm)) [10]).length ≤ 4000 := by
                have := join_few (c := 77) fun y hy => (hm77 y hy).1
                omega
              have HJM := Lib.hid (joins_lines hcells hlt2 hml (by omega) hcap (by omega))
              obtain ⟨b1, b2⟩ := says_bodies HXS.out π hlt16
              obtain ⟨m1, m2⟩ := says_more HXS.out rm π hlt16
              have hne : ∀ (L : List (List UInt8)) (k : Nat), L.length = k + 1 → L ≠ [] := fun L k h e => by rw [e] at h; simp at h
              have hbn : ∀ ks : List Nat, (∀ k ∈ ks, k < 16) → ∀ y ∈ ks.map (bodyL x), y.contains 10 = false := by
                intro ks hks y hy
                obtain ⟨k, hk, rfl⟩ := List.mem_map.1 hy
                exact body_no x (hks k hk)
              have hls := HLS.out
              have hka2 : ka < π.length := by omega
              have hgk : ls[ka] = bodyL x π[ka] := by
                subst hls
                simp
              have htw : tw = π.map (bodyL x) ++ [[], bodyL x π[ka]] := by rw [HTW.out, hgk, hls]
              have hlea : le = (π.take ka ++ π.drop (ka + 1)).map (bodyL x) := by rw [HLE.out, hls, List.map_append, List.map_take, List.map_drop]
              have hkk : ∀ k ∈ π.take ka ++ π.drop (ka + 1), k < 16 := by
                intro k hk
                rcases List.mem_append.1 hk with hk | hk
                · exact hlt16 k (List.mem_of_mem_take hk)
                · exact hlt16 k (List.mem_of_mem_drop hk)
              obtain ⟨l1, l2⟩ := says_bodies HXS.out _ hkk
              obtain ⟨k1, k2⟩ := less_keys (HPM.out.nodup_iff.2 List.nodup_range) hka2
              have ra := read_all HXS.out HPM.out (L := ls) (hne _ 15 hlv) (hls ▸ hbn π hlt16) hjl (hls ▸ b1) (hls ▸ b2)
              have rmo := read_all HXS.out HPM.out (hne _ 47 hml) (fun y hy => (hm77 y hy).2) hjm m1 m2
              have rle := read_less k1 (hlt16 _ (List.getElem_mem hka2)) k2 (L := le) (hne _ 14 hll) (hlea ▸ hbn _ hkk) hjle (hlea ▸ l1) (hlea ▸ l2)
              have rtw := read_twice HXS.out HPM.out (hlt16 _ (List.getElem_mem hka2)) (htw ▸ hjt)
              rw [← htw] at rtw
              have hpa := fun W (h : Sized q W) => Parse_any (Lib.join ls [10]) q W (by omega) h
              have hpm := fun W (h : Sized q W) => Parse_any (Lib.join (π.flatMap (moreL x rm)) [10]) q W (by omega) h
              have hpl := fun W (h : Sized q W) => Parse_any (Lib.join le [10]) q W (by omega) h
              have hpt := fun W (h : Sized q W) => Parse_any (Lib.join tw [10]) q W (by omega) h
              unfold parseV at hpa hpm hpl hpt
              rw [ra.1, ra.2.1, ra.2.2, ← HCS.out] at hpa
              rw [rmo.1, rmo.2.1, rmo.2.2, ← HCS.out] at hpm
              rw [planT, rle.1, rle.2] at hpl
              rw [planT, rtw.1, rtw.2] at hpt
              simp only [Bool.false_eq_true, if_false, if_true] at hpa hpm hpl hpt
              rw [show ((0 : Nat) : Int) = 0 from rfl] at hpa hpm hpl
              rw [show ((18 : Nat) : Int) = 18 from rfl] at hpt
              have HXs := HX
              clear HX
              have HX := Lib.hid (held_later hbw HXs.out)
              have HJA' := Lib.hid (HJA.out.later hbw)
              have HJL' := Lib.hid (HJL2.out.later hbw)
              have HJT' := Lib.hid (HJT.out.later hbw)
              have HQZ := Lib.hid zeroP.cellsL
              have heq := eql_plan x
              rw [← HCS.out] at heq
              clear HXs HRW HJA HJL2 HJT hcells hlt2 hcap hrow hbw ra rmo rle rtw htw hlea hkk k1 k2 l1 l2 m1 m2 b1 b2 hne hbn hls hgk hm77 hms hjm hjl hjt hjle hml hlt hk HLS HLE HTW
              obtain ⟨ja, hja⟩ : ∃ ja, ja = txt (Lib.join ls [10]) := ⟨_, rfl⟩
              obtain ⟨jm, hjm⟩ : ∃ jm, jm = txt (Lib.join (π.flatMap (moreL x rm)) [10]) := ⟨_, rfl⟩
              obtain ⟨jl, hjl⟩ : ∃ jl, jl = txt (Lib.join le [10]) := ⟨_, rfl⟩
              obtain ⟨jt, hjt⟩ : ∃ jt, jt = txt (Lib.join tw [10]) := ⟨_, rfl⟩
              unfold Joins at HJA' HJM HJL' HJT'
              rw [← hja] at hpa HJA'
              rw [← hjm] at hpm HJM
              rw [← hjl] at hpl HJL'
              rw [← hjt] at hpt HJT'
              clear hja hjm hjl hjt
              have HPA := Lib.hid hpa
              have HPMO := Lib.hid hpm
              have HPL := Lib.hid hpl
              have HPT := Lib.hid hpt
              have HY := Lib.hid (held_start wr)
              clear hpa hpm hpl hpt
              generalize zeroP.cells = zs at *
              go_upto_region 28 with (first
                | (go_at_call 22; refine (HJA'.out _ HY.out.1).mono ?_; clear HJA'; rintro e wj1 ⟨rfl, hb⟩; have HXs := HX; clear HX; have HX := Lib.hid (held_later hb HXs.out); clear HXs; have HYs := HY; clear HY; have HY := Lib.hid (held_later hb HYs.out); clear HYs hb)
                | (go_at_call 22; refine (HJM.out _ HY.out.1).mono ?_; clear HJM; rintro e wj2 ⟨rfl, hb⟩; have HXs := HX; clear HX; have HX := Lib.hid (held_later hb HXs.out); clear HXs; have HYs := HY; clear HY; have HY := Lib.hid (held_later hb HYs.out); clear HYs hb)
                | (go_at_call 22; refine (HJL'.out _ HY.out.1).mono ?_; clear HJL'; rintro e wj3 ⟨rfl, hb⟩; have HXs := HX; clear HX; have HX := Lib.hid (held_later hb HXs.out); clear HXs; have HYs := HY; clear HY; have HY := Lib.hid (held_later hb HYs.out); clear HYs hb)
                | (go_at_call 22; refine (HJT'.out _ HY.out.1).mono ?_; clear HJT'; rintro e wj4 ⟨rfl, hb⟩; have HXs := HX; clear HX; have HX := Lib.hid (held_later hb HXs.out); clear HXs; have HYs := HY; clear HY; have HY := Lib.hid (held_later hb HYs.out); clear HYs hb)
                | (go_at_call 7; refine (HPA.out _ (HM.out.later HX.out.1)).mono ?_; clear HPA; rintro e wp1 ⟨rfl, hb⟩; have HXs := HX; clear HX; have HX := Lib.hid (held_later hb HXs.out); clear HXs; have HYs := HY; clear HY; have HY := Lib.hid (held_later hb HYs.out); clear HYs hb)
                | (go_at_call 7; refine (HPMO.out _ (HM.out.later HX.out.1)).mono ?_; clear HPMO; rintro e wp2 ⟨rfl, hb⟩; have HXs := HX; clear HX; have HX := Lib.hid (held_later hb HXs.out); clear HXs; have HYs := HY; clear HY; have HY := Lib.hid (held_later hb HYs.out); clear HYs hb)
                | (go_at_call 7; refine (HPL.out _ (HM.out.later HX.out.1)).mono ?_; clear HPL; rintro e wp3 ⟨rfl, hb⟩; have HXs := HX; clear HX; have HX := Lib.hid (held_later hb HXs.out); clear HXs; have HYs := HY; clear HY; have HY := Lib.hid (held_later hb HYs.out); clear HYs hb)
                | (go_at_call 7; refine (HPT.out _ (HM.out.later HX.out.1)).mono ?_; clear HPT; rintro e wp4 ⟨rfl, hb⟩; have HXs := HX; clear HX; have HX := Lib.hid (held_later hb HXs.out); clear HXs; have HYs := HY; clear HY; have HY := Lib.hid (held_later hb HYs.out); clear HYs hb)
                | (refine wpList_store_last (w := wp1) rfl 23 (.tmp 24) (.tmp 149) rfl _ cs rfl rfl 23 _ rfl HQ.out.plan HQ.out.size.symm HQ.out.one ?_; have HXs := HX; clear HX; have HX := Lib.hid (held_new HXs.out 23 cs); clear HXs; have HYs := HY; clear HY; have HY := Lib.hid (held_new HYs.out 23 cs); clear HYs)
                | (refine wpList_store_last (w := wp2) rfl 23 (.tmp 27) (.tmp 156) rfl _ cs rfl rfl 23 _ rfl HQ.out.plan HQ.out.size.symm HQ.out.one ?_; have HXs := HX; clear HX; have HX := Lib.hid (held_new HXs.out 23 cs); clear HXs; have HYs := HY; clear HY; have HY := Lib.hid (held_new HYs.out 23 cs); clear HYs)
                | (refine wpList_store_last (w := wp3) rfl 23 (.tmp 30) (.tmp 163) rfl _ zs rfl rfl 23 _ rfl HQZ.out.plan HQZ.out.size.symm HQZ.out.one ?_; have HXs := HX; clear HX; have HX := Lib.hid (held_new HXs.out 23 zs); clear HXs; have HYs := HY; clear HY; have HY := Lib.hid (held_new HYs.out 23 zs); clear HYs)
                | (refine wpList_store_last (w := wp4) rfl 23 (.tmp 33) (.tmp 170) rfl _ zs rfl rfl 23 _ rfl HQZ.out.plan HQZ.out.size.symm HQZ.out.one ?_; have HXs := HX; clear HX; have HX := Lib.hid (held_new HXs.out 23 zs); clear HXs; have HYs := HY; clear HY; have HY := Lib.hid (held_new HYs.out 23 zs); clear HYs))
              clear HY
              go_wp2_with (first
                | (refine wpList_load_want rfl 23 (.tmp 24) rfl wp1.heap.size rfl 23 cs (0, 0) _ (held3 HX.out) Tryz.underlying23 rfl HQ.out.plan ?_)
                | (refine wpList_load_want rfl 23 (.tmp 10) rfl pb rfl 23 cs (0, 0) _ (held1 HX.out) Tryz.underlying23 rfl HQ.out.plan ?_)
                | (refine wpList_load_want rfl 23 (.tmp 27) rfl wp2.heap.size rfl 23 cs (0, 0) _ (held4 HX.out) Tryz.underlying23 rfl HQ.out.plan ?_))
              go_ret
              exact ⟨rfl, HX.out.1⟩
end Go.Proofs.YtdeiohcciafffaaGreatDoor
