/- PlantextAdds, its walk. It asks what a variable of the library's holds: some number. -/
import Derived.Test.YtdeiohcciafffaaGreatDoorTAddM
import Derived.Deep.RegionHeld3
import Derived.Deep.DeepCutAuto
namespace Go.Proofs.YtdeiohcciafffaaGreatDoor
open Go.RowKit Go.Shelf

/-- append onto a row of the call's own, or onto nil, of whatever number of elements: at a step of a region that draws its order. -/
theorem step_append_any {P : Program} {ops : Array Oper} {o : Oper} {a : Act} {w : World} {K : Act → World → Prop} {Q : Exit → Act → World → Prop} {E : Prop} (hgd : o.guard = none) (s x : Operand) (t : TypeId)
    (ho : o.op = .call { callee := .builtin .append, args := #[s, x], argTypes := #[t, t] })
    (base : Nat) (e : TypeId) (i : TypeInfo) (z : Value) (size bytes : Nat) (ht : P.underlying t = some (.slice e)) (hi : P.info? e = some i) (hz : i.zero = some z)
    (hsize : i.size = size) (hby : i.bytes = bytes) (hzs : z.cells.size = size) (hsz : 0 < size)
    (v : Value) (n : Nat) (xs : List Value) (hs : a.eval s = v) (hown : w.ownsRow base e size v n xs)
    (ad : Addr) (m c : Nat) (news : List Value) (hx : a.eval x = .slice (some ad) m c) (hl : news.length = m * size) (hnews : ∀ j u, news[j]? = some u → w.cell? (ad.add j) = some u) (h1 : ∀ u ∈ news, u.oneCell' = true)
    (h63 : n + m ≤ maxLen) (hbytes : (n + m) * bytes ≤ 140737488355328) (hbase : base ≤ w.heap.size)
    (h : ∀ v' w', w'.ownsRow base e size v' (n + m) (xs ++ news) → w.grownBy w' v.ownBlock → K (a.put o.dst v') w') :
    if Region.wanted o (yielded ops a.tmps) = true then Oper.wp P o a w K Q else E := by
  have hw : Region.wanted o (yielded ops a.tmps) = true := by simp [Region.wanted, hgd]
  rw [if_pos hw]
  obtain ⟨v', w', hr, h2, h3, _, _⟩ := run_append_own_at (P := P) w base t o.type e i z size bytes ht hi hz hsize hby hzs hsz v n xs hown ad m c news hl hnews h1 h63 hbytes hbase
  unfold Oper.wp execOp
  simp only [ho, resolve, invoke, builtin, Sem.run_bind, Sem.run_pure, Result.andThen_ok, List.map_toArray, List.map_cons, List.map_nil, hs, hx, hr]
  exact h v' w' h2 h3
theorem str_info : (Tryz.prog.info? 9).map (fun i => (i.zero, i.size, i.bytes)) = some (some (.string ⟨#[]⟩), 1, 16) := by kernel_rfl

theorem strV_one {ls : List (List UInt8)} : ∀ u ∈ strV ls, u.oneCell' = true := by
  intro u hu
  obtain ⟨l, _, rfl⟩ := List.mem_map.1 hu
  rfl
theorem join_len : ∀ (a b : List (List UInt8)) (x : List UInt8), a ++ b ≠ [] → (Lib.join (a ++ x :: b) [10]).length = (Lib.join (a ++ b) [10]).length + x.length + 1 := by
  have tail : ∀ (r : List (List UInt8)), (Lib.joinTail [10] r).length = (r.map fun y => y.length + 1).sum := by
    intro r
    simp [Lib.joinTail, List.length_flatten, Function.comp_def]
  have key : ∀ (r : List (List UInt8)), r ≠ [] → (Lib.join r [10]).length + 1 = (r.map fun y => y.length + 1).sum := by
    intro r hr
    cases r with
    | nil => exact absurd rfl hr
    | cons y t => rw [Lib.join_cons, List.length_append, tail]; simp; omega
  intro a b x h
  have h1 := key (a ++ x :: b) (by simp)
  have h2 := key (a ++ b) h
  simp only [List.map_append, List.map_cons, List.sum_append, List.sum_cons] at h1 h2
  omega

theorem below_grown {w0 V W : World} {row : Option Nat} (hb : Below w0.heap.size w0 V) (hg : V.grownBy W row) (hr : ∀ k, row = some k → w0.heap.size ≤ k) : Below w0.heap.size w0 W :=
  ((Kept.of_below hb Empty).grown hg (fun k h => .inr (hr k h))).below (fun _ _ h => h)
theorem own_block {w : World} {base : Nat} {e : TypeId} {size : Nat} {v : Value} {n : Nat} {xs : List Value} (h : w.ownsRow base e size v n xs) : ∀ k, v.ownBlock = some k → base ≤ k := by
  intro k hk
  rcases h.2 with ⟨rfl, _⟩ | ⟨g, cap, cur, rfl, hb, _⟩
  · simp [Value.ownBlock] at hk
  · have : g = k := by simpa [Value.ownBlock] using hk
    omega
theorem none_block (w0 : World) : ∀ k, (Value.slice none 0 0).ownBlock = some k → w0.heap.size ≤ k := fun k h => by simp [Value.ownBlock] at h
theorem own_strings {w : World} {base : Nat} {e : TypeId} {v : Value} {n : Nat} {ms : List (List UInt8)} (h : w.ownsRow base e 1 v n (strV ms)) (hn : 0 < n) :
    ∃ (g cap : Nat), v = .slice (some ⟨g, 0, none⟩) n cap ∧ (∀ (j : Nat) u, (ms.map txt)[j]? = some u → w.cell? ⟨g, j, none⟩ = some (.string u)) ∧ g < w.heap.size ∧ n ≤ cap := by
  rcases h.2 with ⟨_, h0⟩ | ⟨g, cap, cur, rfl, _, hg, hnc, _⟩
  · omega
  · refine ⟨g, cap, rfl, fun j u hu => ?_, (Array.getElem?_eq_some_iff.1 hg).1, hnc⟩
    have := h.cells (g := g) rfl j (.string u) (by
      rw [List.getElem?_map] at hu
      rw [strV, List.getElem?_map]
      cases hj : ms[j]? with
      | none => rw [hj] at hu; simp at hu
      | some m => rw [hj] at hu; simp at hu; simp [hu])
    have hadd : (⟨g, 0, none⟩ : Addr).add j = ⟨g, 0 + j, none⟩ := by unfold Addr.add; split <;> simp_all
    rwa [hadd, Nat.zero_add] at this
theorem lines_len (l : List UInt8) : (linesT l).length ≤ l.length + 1 := by
  induction l with
  | nil => simp [linesT]
  | cons c r ih =>
    unfold linesT
    split
    · simp; omega
    · split
      · rename_i e; exact absurd e (linesT_ne r)
      · rename_i e; rw [e] at ih; simp at ih ⊢; omega
theorem scan_le : ∀ (b : List (List UInt8)) (k : Nat) (s : St8), (scanT b k s).1 ≤ k + b.length
  | [], _, _ => Nat.zero_le _
  | l :: r, k, s => by
    have h1 := fun s => scan_le r (k + 1) s
    unfold scanT
    simp only [List.length_cons]
    split
    · have := h1 s; omega
    · simp
    · split
      · simp
      · rename_i p n _ _
        have := h1 (s.put p n)
        omega
theorem lineNo_le (l : List UInt8) : lineNo l ≤ 1 + (linesT l).length := by
  unfold lineNo
  split
  · omega
  · exact scan_le _ _ _
theorem remark_txt (r : ByteArray) : (⟨#[9, 32, 35]⟩ : ByteArray) ++ r = txt (9 :: 32 :: 35 :: r.data.toList) := by
  apply ByteArray.ext
  apply Array.ext'
  simp

set_option maxRecDepth 100000 in
set_option maxHeartbeats 8000000 in
theorem adds_walk (s r : ByteArray) (a : Nat) (q : Int) (w : World) (ha : a < 65536) (hm : Sized q w) : Calls Tryz.prog 5 #[.string s, .string r, .int .u16 (a : Int)] w fun e w' => e = .returned (.bool true) ∧ Below w.heap.size w w' := by
  have HA := Lib.hid (fun W h => alive_any q W h)
  have HM := Lib.hid hm
  clear hm
  by_cases h1 : s.size ≤ 3900
  case neg =>
    have d1 : 3900 < s.size := by omega
    go_enter Tryz.func5, Tryz.ntmps5
    go_wp2_with (go_at_call 15; refine (HA.out _ HM.out).mono ?_; clear HA; rintro e w1 ⟨rfl, hb⟩)
    go_ret
    exact ⟨rfl, hb⟩
  by_cases h2 : r.size ≤ 50
  case neg =>
    have d1 : 50 < r.size := by omega
    go_enter Tryz.func5, Tryz.ntmps5
    go_wp2_with (go_at_call 15; refine (HA.out _ HM.out).mono ?_; clear HA; rintro e w1 ⟨rfl, hb⟩)
    go_ret
    exact ⟨rfl, hb⟩
  have hc := fun W (h : Sized q W) => Tryz.strings_Contains r ⟨#[10]⟩ q W (by omega) h
  have e10 : (⟨#[10]⟩ : ByteArray).data.toList = [10] := rfl
  rw [e10] at hc
  have HC := Lib.hid hc
  clear hc e10
  cases hr : Lib.contains r.data.toList [10]
  case true =>
    rw [hr] at HC
    clear hr
    go_enter Tryz.func5, Tryz.ntmps5
    go_wp2_with (first
      | (go_at_call 15; refine (HA.out _ HM.out).mono ?_; clear HA; rintro e w1 ⟨rfl, hb⟩; have HB1 := Lib.hid hb)
      | (go_at_call 16; refine (HC.out _ (HM.out.later HB1.out)).mono ?_; rintro e w2 ⟨rfl, rfl⟩))
    go_ret
    exact ⟨rfl, HB1.out⟩
  rw [hr] at HC
  have hno : r.data.toList.contains 10 = false := by rw [Lib.contains_iff_indexByte, ← Lib.index_one]; exact hr
  clear hr
  obtain ⟨l, hl⟩ : ∃ l, l = s.data.toList := ⟨_, rfl⟩
  have hsl : s = txt l := by rw [hl]
  have hll : l.length ≤ 3900 := by have : s.size = l.length := by rw [hsl, txt_size]
                                   omega
  clear hl
  obtain ⟨x, hx⟩ : ∃ x, x = 9 :: 32 :: 35 :: r.data.toList := ⟨_, rfl⟩
  have hxl : x.length ≤ 53 := by rw [hx]; have : r.data.toList.length = r.size := by rw [Array.length_toList]; rfl
                                 simp; omega
  have hx10 : x.contains 10 = false := by rw [hx]; simpa using hno
  have hxn : lineT x = .nothing := by rw [hx]; exact remark_nothing _
  have hxs : (⟨#[9, 32, 35]⟩ : ByteArray) ++ r = txt x := by rw [hx, remark_txt]
  clear hx hno
  have hn1 : 1 ≤ (linesT l).length := by have := linesT_ne l; cases h : linesT l <;> simp_all
  have hn2 : (linesT l).length ≤ 3901 := by
    have h := lines_len l
    omega
  obtain ⟨k, hk⟩ : ∃ k, k = a % ((linesT l).length + 1) := ⟨_, rfl⟩
  have hkn : k ≤ (linesT l).length := by have := Nat.mod_lt a (show 0 < (linesT l).length + 1 by omega); omega
  have hjl : (Lib.join ((linesT l).take k ++ x :: (linesT l).drop k) [10]).length ≤ 4000 := by
    rw [join_len _ _ _ (by rw [List.take_append_drop]; intro h; rw [h] at hn1; simp at hn1), List.take_append_drop, join_lines]
    omega
  obtain ⟨p1, p2, p3⟩ := parse_put hxn hx10 hkn (by omega) hjl
  have hP := fun W (h : Sized q W) => Parse_any l q W (by omega) h
  have hQ := fun W (h : Sized q W) => Parse_any _ q W (by omega : (Lib.join ((linesT l).take k ++ x :: (linesT l).drop k) [10]).length ≤ 1000000) h
  unfold parseV at hP hQ
  rw [p1, p2, p3] at hQ
  have hsp := fun W h => split_any l q W (by omega) h
  subst hsl
  obtain ⟨tl, htl⟩ : ∃ tl, tl = txt l := ⟨_, rfl⟩
  rw [← htl] at hP hsp h1 ⊢
  clear htl
  obtain ⟨jl, hjl2⟩ : ∃ jl, jl = Lib.join ((linesT l).take k ++ x :: (linesT l).drop k) [10] := ⟨_, rfl⟩
  have hmap : (((linesT l).take k ++ x :: (linesT l).drop k).map txt).map (fun b => b.data.toList) = (linesT l).take k ++ x :: (linesT l).drop k := (List.map_map ..).trans (List.map_id _)
  have hlen : (((linesT l).take k ++ x :: (linesT l).drop k).map txt).length = (linesT l).length + 1 := by simp; omega
  have HJ := Lib.hid (fun W bk c (h : ∀ (j : Nat) u, (((linesT l).take k ++ x :: (linesT l).drop k).map txt)[j]? = some u → W.cell? ⟨bk, j, none⟩ = some (.string u)) (hbk : bk < W.heap.size) (hc : (linesT l).length + 1 ≤ c) => (by
    have h2 := joins_cells h hbk (by omega) (by rw [hlen]; exact hc) (by rw [hmap]; omega)
    rw [hlen, hmap, ← hjl2] at h2
    exact h2 : Joins (.slice (some ⟨bk, 0, none⟩) ((linesT l).length + 1) c) jl W))
  rw [← hjl2] at hQ
  have hsum : (linesT l).take k ++ (linesT l).drop k = linesT l := List.take_append_drop _ _
  have hst : (strV ((linesT l).take k)).length = k := by rw [strV_length, List.length_take]; omega
  have hsd : (strV ((linesT l).drop k)).length = (linesT l).length - k := by rw [strV_length, List.length_drop]
  clear hjl2 p1 p2 p3 hjl hx10 hxn hmap hlen
  have e1 : ((a : Nat) : Int).tmod (((linesT l).length : Nat) + 1 : Int) = (k : Int) := by
    rw [hk, Int.tmod_eq_emod_of_nonneg (by omega), show (((linesT l).length : Nat) + 1 : Int) = (((linesT l).length + 1 : Nat) : Int) by omega, ← Int.natCast_emod]
  have HSP := Lib.hid hsp
  have HP := Lib.hid hP
  have HQ := Lib.hid hQ
  clear hsp hP hQ hk
  generalize hn : (linesT l).length = n at *
  have hln := lineNo_le l
  rw [hn] at hln
  generalize lineNo l = ln at *
  go_enter Tryz.func5, Tryz.ntmps5
  go_upto_region 7 with (first
    | (go_at_call 15; refine (HA.out _ HM.out).mono ?_; clear HA; rintro e w1 ⟨rfl, hb⟩; have HB1 := Lib.hid hb; clear hb)
    | (go_at_call 16; refine (HC.out _ (HM.out.later HB1.out)).mono ?_; rintro e w2 ⟨rfl, rfl⟩)
    | (go_at_call 19; refine (HSP.out _ (HM.out.later HB1.out)).mono ?_; clear HSP; rintro e w3 ⟨rfl, hw3⟩; have hal := (Below.refl w2.heap.size w2).alloc (Nat.le_refl _) (.cells (strV (linesT l)).toArray 9); rw [← hw3] at hal; have HSL := Lib.hid (show Whole w3 w2.heap.size 9 (strV (linesT l)).toArray from hw3 ▸ Whole.new w2 _ _); have HB3 := Lib.hid (k_then hal HB1.out); clear hal hw3))
  have HXS := Lib.hid hxs
  clear hxs
  have hsz9 : ¬ 9223372036854775807 < 3 + r.size := by omega
  obtain ⟨i0, hi0, hz0, hz1, hz2⟩ := info_parts str_info
  obtain ⟨sb, hsb⟩ : ∃ sb, sb = w2.heap.size := ⟨_, rfl⟩
  rw [← hsb] at HSL ⊢
  have hslt := HSL.out.lt
  clear hsb
  have hsz3 := HB3.out.size
  have HTK := Lib.hid (fun W (h : Below w3.heap.size w3 W) (j : Nat) u (hu : (strV ((linesT l).take k))[j]? = some u) => (by
    have h1 := (List.getElem?_eq_some_iff.1 hu).1
    have hadd : (⟨sb, 0, none⟩ : Addr).add j = ⟨sb, j, none⟩ := by unfold Addr.add; split <;> simp_all
    rw [hadd]
    refine ((HSL.out.below h hslt).cell j).trans ?_
    have h2 : (strV (linesT l))[j]? = some u := by rw [← hsum, strV_append, List.getElem?_append_left h1]; exact hu
    simpa using h2 : W.cell? ((⟨sb, 0, none⟩ : Addr).add j) = some u))
  obtain ⟨A, hA, HDK⟩ : ∃ A, (if n = k then some (⟨sb, 0, none⟩ : Addr) else some ⟨sb, k, none⟩) = some A ∧ Hid (∀ W (_ : Below w3.heap.size w3 W) (j : Nat) u (_ : (strV ((linesT l).drop k))[j]? = some u), W.cell? (A.add j) = some u) := by
    refine ⟨if n = k then ⟨sb, 0, none⟩ else ⟨sb, k, none⟩, by split <;> rfl, Lib.hid ?_⟩
    intro W h j u hu
    have h1 := (List.getElem?_eq_some_iff.1 hu).1
    rw [hsd] at h1
    rw [if_neg (by omega)]
    have hadd : (⟨sb, k, none⟩ : Addr).add j = ⟨sb, k + j, none⟩ := by unfold Addr.add; split <;> simp_all
    rw [hadd]
    refine ((HSL.out.below h hslt).cell (k + j)).trans ?_
    have h2 : (strV (linesT l))[k + j]? = some u := by rw [← hsum, strV_append, List.getElem?_append_right (by omega), hst]; simpa using hu
    simpa using h2
  go_cut [10] (fun s10 wx => ∃ (g cap : Nat), s10 = .slice (some ⟨g, 0, none⟩) (n + 1) cap ∧ (∀ (j : Nat) u, (((linesT l).take k ++ x :: (linesT l).drop k).map txt)[j]? = some u → wx.cell? ⟨g, j, none⟩ = some (.string u)) ∧ g < wx.heap.size ∧ n + 1 ≤ cap ∧ Below w.heap.size w wx)
  case first =>
    have hb0 : Below w3.heap.size w3 w3.drew := ⟨rfl, rfl, rfl, Nat.le_refl _, fun _ _ => rfl⟩
    have hb0a : Below w3.heap.size w3 (w3.alloc (.cells #[.string (⟨#[9, 32, 35]⟩ ++ r)] 9)).drew := by
      have := (Below.refl w3.heap.size w3).alloc (Nat.le_refl _) (.cells #[.string (⟨#[9, 32, 35]⟩ ++ r)] 9)
      exact ⟨this.os, this.tape, this.output, this.size, this.block⟩
    have hga : Whole (w3.alloc (.cells #[.string (⟨#[9, 32, 35]⟩ ++ r)] 9)).drew w3.heap.size 9 #[.string (⟨#[9, 32, 35]⟩ ++ r)] := (Whole.new w3 9 #[.string (⟨#[9, 32, 35]⟩ ++ r)]).drew
    have F1 : 0 + k ≤ maxLen := by simp only [maxLen]; omega
    have F2 : (0 + k) * 16 ≤ 140737488355328 := by omega
    have F3 : 0 + k + 1 ≤ maxLen := by simp only [maxLen]; omega
    have F4 : (0 + k + 1) * 16 ≤ 140737488355328 := by omega
    have F5 : 0 + k + 1 + (n - k) ≤ maxLen := by simp only [maxLen]; omega
    have F6 : (0 + k + 1 + (n - k)) * 16 ≤ 140737488355328 := by omega
    have F7 : ∀ u ∈ [Value.string (⟨#[9, 32, 35]⟩ ++ r)], u.oneCell' = true := by intro u hu; simp at hu; subst hu; rfl
    have F8 : (strV ((linesT l).drop k)).length = (n - k) * 1 := by omega
    have HNI := Lib.hid (fun (W : World) (j : Nat) (u : Value) (hu : [Value.string (⟨#[9, 32, 35]⟩ ++ r)][j]? = some u) => (World.news_of_block (Whole.new W 9 #[.string (⟨#[9, 32, 35]⟩ ++ r)]) j u hu : (W.alloc (.cells #[.string (⟨#[9, 32, 35]⟩ ++ r)] 9)).cell? ((⟨W.heap.size, 0, none⟩ : Addr).add j) = some u))
    have HNII := Lib.hid (fun (W : World) (hW : Whole W w3.heap.size 9 #[.string (⟨#[9, 32, 35]⟩ ++ r)]) (j : Nat) (u : Value) (hu : [Value.string (⟨#[9, 32, 35]⟩ ++ r)][j]? = some u) => (World.news_of_block hW j u hu : W.cell? ((⟨w3.heap.size, 0, none⟩ : Addr).add j) = some u))
    have HGN := Lib.hid (fun (W V : World) (h : W.grownBy V (Value.slice none 0 0).ownBlock) (hW : Whole W w3.heap.size 9 #[.string (⟨#[9, 32, 35]⟩ ++ r)]) => (hW.grown h (by simp [Value.ownBlock]) : Whole V w3.heap.size 9 #[.string (⟨#[9, 32, 35]⟩ ++ r)]))
    have HAL := Lib.hid (fun (W : World) (v : Value) (m : Nat) (xs : List Value) (h : W.ownsRow w3.heap.size 9 1 v m xs) => (h.alloc (.cells #[.string (⟨#[9, 32, 35]⟩ ++ r)] 9) : (W.alloc (.cells #[.string (⟨#[9, 32, 35]⟩ ++ r)] 9)).ownsRow w3.heap.size 9 1 v m xs))
    have HBA := Lib.hid (fun (W : World) (h : Below w3.heap.size w3 W) => (h.alloc h.size (.cells #[.string (⟨#[9, 32, 35]⟩ ++ r)] 9) : Below w3.heap.size w3 (W.alloc (.cells #[.string (⟨#[9, 32, 35]⟩ ++ r)] 9))))
    have HFIN := Lib.hid (fun (W : World) (v : Value) (h : W.ownsRow w3.heap.size 9 1 v (0 + k + 1 + (n - k)) (([] ++ strV ((linesT l).take k)) ++ [.string (⟨#[9, 32, 35]⟩ ++ r)] ++ strV ((linesT l).drop k))) => (by
      have e1 : ([] ++ strV ((linesT l).take k)) ++ [.string (⟨#[9, 32, 35]⟩ ++ r)] ++ strV ((linesT l).drop k) = strV ((linesT l).take k ++ x :: (linesT l).drop k) := by
        rw [HXS.out, strV_append]
        simp [strV]
      have e2 : 0 + k + 1 + (n - k) = n + 1 := by omega
      rw [e1, e2] at h
      exact own_strings h (by omega) : ∃ (g cap : Nat), v = .slice (some ⟨g, 0, none⟩) (n + 1) cap ∧ (∀ (j : Nat) u, (((linesT l).take k ++ x :: (linesT l).drop k).map txt)[j]? = some u → W.cell? ⟨g, j, none⟩ = some (.string u)) ∧ g < W.heap.size ∧ n + 1 ≤ cap))
    have G0 := Lib.hid hb0
    have G0a := Lib.hid hb0a
    have GA := Lib.hid hga
    clear hb0 hb0a hga
    go_region_held3 (fun _ => True) (trivial) (first
      | (refine step_append_any rfl (.tmp 44) (.tmp 47) 37 rfl w3.heap.size 9 i0 (.string ⟨#[]⟩) 1 16 Tryz.underlying37 hi0 hz0 hz1 hz2 rfl Nat.one_pos (.slice none 0 0) 0 [] rfl (World.ownsRow_nil _ _ _ _) ⟨sb, 0, none⟩ k n (strV ((linesT l).take k)) rfl (hst.trans (Nat.mul_one k).symm) (HTK.out _ G0.out) strV_one F1 F2 G0.out.size ?_; intro v1 W1 hown1 hgrow1; have GB1 := Lib.hid (below_grown G0.out hgrow1 (none_block w3)); have HO1 := Lib.hid hown1; clear hown1 hgrow1)
      | (refine step_append_any rfl (.tmp 44) (.tmp 47) 37 rfl w3.heap.size 9 i0 (.string ⟨#[]⟩) 1 16 Tryz.underlying37 hi0 hz0 hz1 hz2 rfl Nat.one_pos (.slice none 0 0) 0 [] rfl (World.ownsRow_nil _ _ _ _) ⟨sb, 0, none⟩ k n (strV ((linesT l).take k)) rfl (hst.trans (Nat.mul_one k).symm) (HTK.out _ G0a.out) strV_one F1 F2 G0a.out.size ?_; intro v1 W1 hown1 hgrow1; have GB1 := Lib.hid (below_grown G0a.out hgrow1 (none_block w3)); have HO1 := Lib.hid hown1; have GA1 := Lib.hid (HGN.out _ _ hgrow1 GA.out); clear hown1 hgrow1)
      | (refine step_append_any rfl (.tmp 48) (.tmp 51) 37 rfl w3.heap.size 9 i0 (.string ⟨#[]⟩) 1 16 Tryz.underlying37 hi0 hz0 hz1 hz2 rfl Nat.one_pos v1 (0 + k) ([] ++ strV ((linesT l).take k)) rfl HO1.out ⟨w3.heap.size, 0, none⟩ 1 1 [.string (⟨#[9, 32, 35]⟩ ++ r)] rfl rfl (HNII.out _ GA1.out) F7 F3 F4 GB1.out.size ?_; intro v2 W2 hown2 hgrow2; have GB2 := Lib.hid (below_grown GB1.out hgrow2 (own_block HO1.out)); have HO2 := Lib.hid hown2; clear hown2 hgrow2)
      | (refine step_append_any rfl (.tmp 48) (.tmp 51) 37 rfl w3.heap.size 9 i0 (.string ⟨#[]⟩) 1 16 Tryz.underlying37 hi0 hz0 hz1 hz2 rfl Nat.one_pos v1 (0 + k) ([] ++ strV ((linesT l).take k)) rfl (HAL.out _ _ _ _ HO1.out) ⟨W1.heap.size, 0, none⟩ 1 1 [.string (⟨#[9, 32, 35]⟩ ++ r)] rfl rfl (HNI.out W1) F7 F3 F4 (HBA.out _ GB1.out).size ?_; intro v2 W2 hown2 hgrow2; have GB2 := Lib.hid (below_grown (HBA.out _ GB1.out) hgrow2 (own_block HO1.out)); have HO2 := Lib.hid hown2; clear hown2 hgrow2)
      | (refine step_append_any rfl (.tmp 52) (.tmp 55) 37 rfl w3.heap.size 9 i0 (.string ⟨#[]⟩) 1 16 Tryz.underlying37 hi0 hz0 hz1 hz2 rfl Nat.one_pos v2 (0 + k + 1) (([] ++ strV ((linesT l).take k)) ++ [.string (⟨#[9, 32, 35]⟩ ++ r)]) rfl HO2.out A (n - k) (n - k) (strV ((linesT l).drop k)) rfl F8 (HDK.out _ GB2.out) strV_one F5 F6 GB2.out.size ?_; intro v3 W3 hown3 hgrow3; have GB3 := Lib.hid (below_grown GB2.out hgrow3 (own_block HO2.out)); have HO3 := Lib.hid hown3; clear hown3 hgrow3))
    all_goals
      go_wp2_with fail
      go_meet
      obtain ⟨g, cap, rfl, hcells, hlt, hcap⟩ := HFIN.out _ _ HO3.out
      exact ⟨g, cap, rfl, hcells, hlt, hcap, HB3.out.trans (GB3.out.mono HB3.out.size)⟩
  case rest =>
    obtain ⟨g, cap, rfl, hcells, hlt, hcap, hbc⟩ := hcut
    have HJC := Lib.hid (HJ.out wc g cap hcells hlt hcap)
    have HBC := Lib.hid hbc
    have HMC := Lib.hid (HM.out.later hbc)
    have hq1 := eql_plan (planT l)
    have HQ1 := Lib.hid (planT l).cellsL
    obtain ⟨tj, htj⟩ : ∃ tj, tj = txt jl := ⟨_, rfl⟩
    unfold Joins at HJC
    rw [← htj] at HQ HJC
    clear hcells hlt hcap hbc htj HTK HDK hA HJ HSL hsum hst hsd HC HXS HB1 HB3 HM hslt hsz3 hi0 hz0 hz1 hz2 hsz9
    generalize (planT l).cells = c1 at *
    generalize (if errT l = true then (80 : Int) else 0) = er at *
    by_cases hkl : k < ln
    · rw [if_pos hkl] at HQ
      have e2 : (((ln + 1 : Nat)) : Int) = (ln : Int) + 1 := by omega
      rw [e2] at HQ
      have h3 : (k : Int) < (ln : Int) := by omega
      have h4 : (ln : Int) ≤ 4000 := by omega
      go_upto_region 13 with (first
        | (go_at_call 7; refine (HP.out _ HMC.out).mono ?_; clear HP; rintro e w4 ⟨rfl, hb⟩; have HB4 := Lib.hid hb; clear hb)
        | (refine wpList_store_last (w := w4) rfl 23 (.tmp 11) (.tmp 60) rfl _ c1 rfl rfl 23 _ rfl HQ1.out.plan HQ1.out.size.symm HQ1.out.one ?_; have HX4 := Lib.hid (Whole.new w4 23 c1); have HC4 := Lib.hid (HB4.out.alloc HB4.out.size (.cells c1 23)))
        | (go_at_call 22; refine (HJC.out _ HC4.out).mono ?_; rintro e w5 ⟨rfl, hb⟩; have HB5 := Lib.hid (k_then hb HC4.out); have HX5 := Lib.hid (k_later hb HX4.out); clear hb)
        | (go_at_call 7; refine (HQ.out _ (HMC.out.later HB5.out)).mono ?_; clear HQ; rintro e w6 ⟨rfl, hb⟩; have HB6 := Lib.hid (k_then hb HB5.out); have HX6 := Lib.hid (k_later hb HX5.out); clear hb)
        | (refine wpList_store_last (w := w6) rfl 23 (.tmp 14) (.tmp 67) rfl _ c1 rfl rfl 23 _ rfl HQ1.out.plan HQ1.out.size.symm HQ1.out.one ?_; have HY7 := Lib.hid (Whole.new w6 23 c1); have HX7 := Lib.hid (HX6.out.alloc (.cells c1 23)); have HC7 := Lib.hid (HB6.out.alloc HB6.out.size (.cells c1 23))))
      generalize w6.alloc (.cells c1 23) = w7 at *
      go_wp2_with (first
        | (refine wpList_load_want rfl 23 (.tmp 11) rfl w4.heap.size rfl 23 c1 (0, 0) _ HX7.out Tryz.underlying23 rfl HQ1.out.plan ?_)
        | (refine wpList_load_want rfl 23 (.tmp 14) rfl w6.heap.size rfl 23 c1 (0, 0) _ HY7.out Tryz.underlying23 rfl HQ1.out.plan ?_))
      go_ret
      exact ⟨rfl, HBC.out.trans (HC7.out.mono HBC.out.size)⟩
    · rw [if_neg hkl] at HQ
      have h3 : (ln : Int) ≤ (k : Int) := by omega
      go_upto_region 13 with (first
        | (go_at_call 7; refine (HP.out _ HMC.out).mono ?_; clear HP; rintro e w4 ⟨rfl, hb⟩; have HB4 := Lib.hid hb; clear hb)
        | (refine wpList_store_last (w := w4) rfl 23 (.tmp 11) (.tmp 60) rfl _ c1 rfl rfl 23 _ rfl HQ1.out.plan HQ1.out.size.symm HQ1.out.one ?_; have HX4 := Lib.hid (Whole.new w4 23 c1); have HC4 := Lib.hid (HB4.out.alloc HB4.out.size (.cells c1 23)))
        | (go_at_call 22; refine (HJC.out _ HC4.out).mono ?_; rintro e w5 ⟨rfl, hb⟩; have HB5 := Lib.hid (k_then hb HC4.out); have HX5 := Lib.hid (k_later hb HX4.out); clear hb)
        | (go_at_call 7; refine (HQ.out _ (HMC.out.later HB5.out)).mono ?_; clear HQ; rintro e w6 ⟨rfl, hb⟩; have HB6 := Lib.hid (k_then hb HB5.out); have HX6 := Lib.hid (k_later hb HX5.out); clear hb)
        | (refine wpList_store_last (w := w6) rfl 23 (.tmp 14) (.tmp 67) rfl _ c1 rfl rfl 23 _ rfl HQ1.out.plan HQ1.out.size.symm HQ1.out.one ?_; have HY7 := Lib.hid (Whole.new w6 23 c1); have HX7 := Lib.hid (HX6.out.alloc (.cells c1 23)); have HC7 := Lib.hid (HB6.out.alloc HB6.out.size (.cells c1 23))))
      generalize w6.alloc (.cells c1 23) = w7 at *
      go_wp2_with (first
        | (refine wpList_load_want rfl 23 (.tmp 11) rfl w4.heap.size rfl 23 c1 (0, 0) _ HX7.out Tryz.underlying23 rfl HQ1.out.plan ?_)
        | (refine wpList_load_want rfl 23 (.tmp 14) rfl w6.heap.size rfl 23 c1 (0, 0) _ HY7.out Tryz.underlying23 rfl HQ1.out.plan ?_))
      go_ret
      exact ⟨rfl, HBC.out.trans (HC7.out.mono HBC.out.size)⟩

end Go.Proofs.YtdeiohcciafffaaGreatDoor
