/- What a text says, read by the program: by a contract. It asks what a variable of the library's holds: some number. -/
import Derived.Test.YtdeiohcciafffaaGreatDoorTIter
import Derived.Test.YtdeiohcciafffaaGreatDoorLFails
import Derived.Maps.OwnIn
import Derived.Maps.OwnSet
import Derived.Maps.Views
import Derived.StringKeys
namespace Go.Proofs.YtdeiohcciafffaaGreatDoor
open Go.RowKit Go.Shelf
open Go.Maps (Keyed string_keyed)
attribute [local go_sem] Oper.semAt_some

theorem key_string : Keyed Tryz.prog 9 := string_keyed Tryz.underlying9

/-- A map's datum says just what was said. -/
structure Reads8 (D : DataW Unit) (s : St8) : Prop where
  tidy : Maps.Tidy D
  has : ∀ key : List UInt8, Maps.has D (.string key) = (decide (placeL key < 16) && (s (placeL key)).isSome)
  at_ : ∀ k n, k < 16 → s k = some n → D.atKey (.string (nameL k)) (.lit (.int .i64 0)) = .lit (.int .i64 (n : Nat))
  size : Maps.size D = s.count
/-- The map in block b says just what was said. -/
def SaidIs (W : World) (b : Nat) (s : St8) : Prop := ∃ D : DataW Unit, W.ownsMap Tryz.prog 9 (plainElem Tryz.prog 2) b s.count D ∧ Reads8 D s

theorem count_le (s : St8) : s.count ≤ 16 := by
  unfold St8.count
  exact Nat.le_trans (List.length_filter_le _ _) (by simp)
theorem count_put {s : St8} {k n : Nat} (hk : k < 16) (h : s k = none) : (s.put k n).count = s.count + 1 := by
  have key : ∀ N, ((List.range N).filter fun j => ((s.put k n) j).isSome).length = ((List.range N).filter fun j => (s j).isSome).length + (if k < N then 1 else 0) := by
    intro N
    induction N with
    | zero => simp
    | succ N ih =>
      rw [List.range_succ, List.filter_append, List.filter_append, List.length_append, List.length_append, ih]
      by_cases e : N = k
      · subst e
        simp [St8.put, h]
      · have h1 : (s.put k n) N = s N := if_neg e
        simp only [List.filter_cons, List.filter_nil, h1]
        by_cases h2 : k < N
        · have : k < N + 1 := by omega
          simp only [h2, this, if_true]
          omega
        · have : ¬ k < N + 1 := by omega
          simp only [h2, this, if_false]
          omega
  unfold St8.count
  rw [key 16, if_pos hk]
theorem placeL_nameL {k : Nat} (hk : k < 16) : placeL (nameL k) = k := by
  revert hk
  exact fun hk => case16 (p := fun k => placeL (nameL k) = k) (by decide) (by decide) (by decide) (by decide) (by decide) (by decide) (by decide) (by decide) (by decide) (by decide) (by decide) (by decide) (by decide) (by decide) (by decide) (by decide) k hk
theorem Reads8.start : Reads8 (.map []) St8.start := ⟨Maps.tidy_empty, fun key => by simp [Maps.has, St8.start], fun k n _ h => by simp [St8.start] at h, by decide⟩
theorem Reads8.put {D : DataW Unit} {s : St8} (h : Reads8 D s) {k n : Nat} (hk : k < 16) (hs : s k = none) (hkey : WideAt.IsKeyLit (.string (nameL k))) : Reads8 (D.put (.string (nameL k)) (.lit (.int .i64 (n : Nat)))) (s.put k n) := by
  have hno : Maps.has D (.string (nameL k)) = false := by rw [h.has, placeL_nameL hk, hs]; simp
  refine ⟨h.tidy.put hkey _, fun key => ?_, fun j m hj hm => ?_, by rw [Maps.size_put h.tidy, hno, h.size, count_put hk hs]; rfl⟩
  · by_cases e : key = nameL k
    · subst e
      rw [Maps.has_put_same h.tidy.isMap hkey, placeL_nameL hk]
      simp [St8.put, hk]
    · rw [Maps.has_put_other (by intro h'; exact e (by simpa using h')), h.has]
      by_cases hp : placeL key < 16
      · have : placeL key ≠ k := by
          intro h'
          apply e
          rw [← h']
          exact (placeL_name hp).symm
        simp [St8.put, this]
      · simp [hp]
  · by_cases e : j = k
    · subst e
      have : n = m := by simpa [St8.put] using hm
      subst this
      exact Maps.atKey_put_same h.tidy.isMap hkey _ _
    · have hm' : s j = some m := by simpa [St8.put, e] using hm
      rw [Maps.atKey_put_other, h.at_ j m hj hm']
      intro h'
      apply e
      have : nameL j = nameL k := by simpa using h'
      rw [← placeL_nameL hj, this, placeL_nameL hk]

theorem SaidIs.same {A B : World} {b : Nat} {s : St8} (h : SaidIs A b s) (e : B.heap[b]? = A.heap[b]?) : SaidIs B b s := by
  obtain ⟨D, ⟨es, clock, hb, F, hs, hD⟩, hr⟩ := h
  exact ⟨D, ⟨es, clock, e.trans hb, F, hs, hD⟩, hr⟩
theorem Kept.below_from {S : Nat → Prop} {a b : World} {B : Nat} (h : Kept S a b) (hB : B ≤ a.heap.size) (hS : ∀ i, S i → B ≤ i) : Below B a b :=
  ⟨h.os, h.tape, h.output, h.size, fun i hi => h.block i (by omega) fun hs => by have := hS i hs; omega⟩
theorem own_same {A B : World} {b n : Nat} {D : DataW Unit} (h : A.ownsMap Tryz.prog 9 (plainElem Tryz.prog 2) b n D) (hk : Below A.heap.size A B) : B.ownsMap Tryz.prog 9 (plainElem Tryz.prog 2) b n D := by
  have hlt := h.lt
  obtain ⟨es, clock, hb, F, hs, hD⟩ := h
  exact ⟨es, clock, (hk.block b hlt).trans hb, F, hs, hD⟩
theorem line_le : ∀ {l : List UInt8} {x : List UInt8}, x ∈ linesT l → x.length ≤ l.length
  | [], x, h => by simp [linesT] at h; simp [h]
  | c :: r, x, h => by
    unfold linesT at h
    split at h
    · rcases List.mem_cons.1 h with h | h
      · simp [h]
      · have := line_le h
        simp; omega
    · split at h
      · simp at h; simp [h]
      · rename_i hd t e
        rcases List.mem_cons.1 h with h | h
        · have := line_le (l := r) (x := hd) (by rw [e]; simp)
          rw [h]; simp; omega
        · have := line_le (l := r) (x := x) (by rw [e]; simp [h])
          simp; omega
theorem trimS_le (l cs : List UInt8) : (Lib.trimS l cs).length ≤ l.length := by
  have h1 : (Lib.trimRightS l cs).length ≤ l.length := by
    unfold Lib.trimRightS
    rw [List.length_reverse]
    have := (List.dropWhile_sublist (l := l.reverse) (p := (cs.contains ·))).length_le
    simpa using this
  exact Nat.le_trans (List.dropWhile_sublist _).length_le h1
theorem countT_le (l : List UInt8) : (countT l).length ≤ l.length := Nat.le_trans (trimS_le _ _) (ahead_le _ _)
theorem nameOf_le (l : List UInt8) : (nameOf l).length ≤ l.length := by
  unfold nameOf Lib.trimRightS
  rw [List.length_reverse]
  have h1 := (List.dropWhile_sublist (l := (aheadL 61 l).reverse) (p := (blanksL.contains ·))).length_le
  have h2 := ahead_le 61 l
  rw [List.length_reverse] at h1
  omega
theorem sayT_nil : sayT [] = none := by decide
theorem sayT_some {l : List UInt8} {k n : Nat} (h : sayT l = some (k, n)) : k < 16 ∧ nameL k = nameOf l ∧ n < 1000000000000000 := by
  unfold sayT at h
  by_cases hp : placeL (nameOf l) < 16
  · rw [if_pos hp] at h
    cases hw : wholeT (restOf l) with
    | none => rw [hw] at h; simp at h
    | some v =>
      rw [hw] at h
      simp at h
      obtain ⟨rfl, rfl⟩ := h
      refine ⟨hp, placeL_name hp, ?_⟩
      unfold wholeT at hw
      split at hw
      · simp at hw
      · rename_i hno
        split at hw
        · rename_i hall
          simp at hw
          rw [← hw]
          exact digitsV_small hall (by omega)
        · simp at hw
  · rw [if_neg hp] at h; simp at h
theorem keyOf_txt (l : List UInt8) (h : l.length ≤ 4000000) : keyOf Tryz.prog 9 (.string (txt l)) = some (.string l) :=
  Go.WideMaps.keyOf_string_mk Tryz.underlying9 (by rw [txt_size]; unfold maxLen; omega)

/-- Between two rounds: k lines have come, none of them wrong; s was said. -/
def Came (l : List UInt8) (bw bm k : Nat) (W : World) : Prop := Boxed W bw 3 (.int .i64 0) ∧ ∃ s, SaidIs W bm s ∧ scanT ((linesT l).drop k) (k + 1) s = scanT (linesT l) 1 St8.start
/-- Line k is wrong; s was said ahead of it. -/
def Broke (l : List UInt8) (bw bm k : Nat) (W : World) : Prop := Boxed W bw 3 (.int .i64 (k : Int)) ∧ ∃ s, SaidIs W bm s ∧ scanT (linesT l) 1 St8.start = (k, s)

set_option maxRecDepth 100000 in
set_option maxHeartbeats 16000000 in
theorem read_any (l : List UInt8) (q : Int) (tb : Nat) (w : World) (hl : l.length ≤ 4000) (hm : Sized q w) (hT : Whole w tb 58 tabC) :
    Calls Tryz.prog 27 #[.string (txt l), .slice (some ⟨tb, 0, none⟩) 16 16] w fun e w' => ∃ bm, e = .returned (.tuple #[.map (some bm), .int .i64 ((scanT (linesT l) 1 St8.start).1 : Nat)]) ∧ SaidIs w' bm (scanT (linesT l) 1 St8.start).2 ∧ Below w.heap.size w w' := by
  obtain ⟨tl, htl⟩ : ∃ tl, tl = txt l := ⟨_, rfl⟩
  rw [← htl]
  refine (callsIn_wide (n := 5)).1 ?_
  refine callsIn_of_wp_marks Tryz.func27 rfl trivial ?_ rfl
  simp only [Tryz.ntmps27, List.size_toArray, List.length_cons, List.length_nil, Nat.reduceAdd, Nat.reduceSub, Array.replicate_succ, Array.replicate_zero, List.push_toArray, List.append_toArray, List.nil_append, List.cons_append]
  have HTL := Lib.hid htl
  clear htl
  have hmm := @run_makeMap Tryz.prog
  gi_wp2
  refine wpIn_scope_any ?_
  gi_wp2
  refine wpIn_label ?_
  gi_wp2_with (refine ⟨trivial, ?_⟩; gi_at_call 76; refine (lines_in _ _ _).mono ?_; rintro e w' ⟨rfl, rfl⟩)
  clear hmm
  obtain ⟨w3, hw3⟩ : ∃ w3, w3 = ((((w.alloc (.cells #[.slice (some ⟨tb, 0, none⟩) 16 16] 53)).alloc (.cells #[.map (some (w.heap.size + 1 + 1 + 1))] 66)).alloc (.cells #[.int .i64 0] 3)).alloc (.map #[] 0)).alloc (.cells #[.string tl] 9) := ⟨_, rfl⟩
  rw [← hw3]
  have hB0 : Below w.heap.size w w3 := by
    rw [hw3]
    exact (((((Below.refl _ w).alloc (Nat.le_refl _) _).alloc (by simp) _).alloc (by simp; omega) _).alloc (by simp; omega) _).alloc (by simp; omega) _
  have hz : w3.heap.size = w.heap.size + 1 + 1 + 1 + 1 + 1 := by rw [hw3]; simp
  have bA : Boxed w3 w.heap.size 53 (.slice (some ⟨tb, 0, none⟩) 16 16) := by
    rw [hw3]
    exact ((((Boxed.new w _ _).alloc _).alloc _).alloc _).alloc _
  have bM : Boxed w3 (w.heap.size + 1) 66 (.map (some (w.heap.size + 1 + 1 + 1))) := by
    have h := ((((Boxed.new (w.alloc (.cells #[.slice (some ⟨tb, 0, none⟩) 16 16] 53)) 66 (.map (some (w.heap.size + 1 + 1 + 1)))).alloc (.cells #[.int .i64 0] 3)).alloc (.map #[] 0)).alloc (.cells #[.string tl] 9))
    simp only [World.size_alloc] at h
    rw [hw3]
    exact h
  have bW : Boxed w3 (w.heap.size + 1 + 1) 3 (.int .i64 0) := by
    have h := ((Boxed.new ((w.alloc (.cells #[.slice (some ⟨tb, 0, none⟩) 16 16] 53)).alloc (.cells #[.map (some (w.heap.size + 1 + 1 + 1))] 66)) 3 (.int .i64 0)).alloc (.map #[] 0)).alloc (.cells #[.string tl] 9)
    simp only [World.size_alloc] at h
    rw [hw3]
    exact h
  have mS : SaidIs w3 (w.heap.size + 1 + 1 + 1) St8.start := by
    have h := (World.ownsMap_made (H := Unit) (((w.alloc (.cells #[.slice (some ⟨tb, 0, none⟩) 16 16] 53)).alloc (.cells #[.map (some (w.heap.size + 1 + 1 + 1))] 66)).alloc (.cells #[.int .i64 0] 3)) Tryz.prog 9 (plainElem Tryz.prog 2)).alloc (.cells #[.string tl] 9)
    simp only [World.size_alloc] at h
    rw [hw3]
    exact ⟨_, h.mono (Nat.zero_le _), Reads8.start⟩
  have bT : w3.cell? ⟨w.heap.size + 1 + 1 + 1 + 1, 0, none⟩ = some (.string tl) := by
    have h := (Boxed.new ((((w.alloc (.cells #[.slice (some ⟨tb, 0, none⟩) 16 16] 53)).alloc (.cells #[.map (some (w.heap.size + 1 + 1 + 1))] 66)).alloc (.cells #[.int .i64 0] 3)).alloc (.map #[] 0)) 9 (.string tl)).cell
    simp only [World.size_alloc] at h
    rw [hw3]
    exact h
  clear hw3
  have hg := hm
  have hgl : 0 < w.heap.size := World.block_lt_of_cell? w _ hm
  refine wpIn_rounds8 (S := fun i => i = w.heap.size + 1 + 1 ∨ i = w.heap.size + 1 + 1 + 1) (fun i h => by omega) (by omega) (gf := 93) (lb := #[.pointer (some ⟨w.heap.size + 1 + 1 + 1 + 1, 0, none⟩)]) rfl
    (enters_of Tryz.func93 (by kernel_rfl) rfl) (encs := encT l) (M := (linesT l).length) (fun _ => rfl) (Kp := Sized q)
    (fun V hV => (hV.cell (p := ⟨0, 0, none⟩) (hm.later hB0) (by simp only; omega)))
    (lineRounds_any 4 (by omega) (w.heap.size + 1 + 1 + 1 + 1) l q w3 (by omega) (by omega) (by rw [bT, HTL.out]))
    (Came l (w.heap.size + 1 + 1) (w.heap.size + 1 + 1 + 1)) (fun c k W => c = .exit 0 ∧ Broke l (w.heap.size + 1 + 1) (w.heap.size + 1 + 1 + 1) k W)
    (fun k A B h i => ⟨(h _ (.inl rfl)).trans i.1, i.2.imp fun s j => ⟨j.1.same (h _ (.inr rfl)), j.2⟩⟩)
    (fun c k A B h i => ⟨i.1, (h _ (.inl rfl)).trans i.2.1, i.2.2.imp fun s j => ⟨j.1.same (h _ (.inr rfl)), j.2⟩⟩)
    ⟨bW, St8.start, mS, rfl⟩
    (fun k => { tmps := #[.string tl, .slice (some ⟨tb, 0, none⟩) 16 16, undef, .pointer (some ⟨w.heap.size, 0, none⟩), .pointer (some ⟨w.heap.size + 1, 0, none⟩), .pointer (some ⟨w.heap.size + 1 + 1, 0, none⟩), .int .i64 (k : Int), .string (txt ((linesT l).getD (k - 1) [])), undef, undef, undef, undef, undef, undef,
      .map (some (w.heap.size + 1 + 1 + 1)), .string tl, .func (.func 93) #[] #[.pointer (some ⟨w.heap.size + 1 + 1 + 1 + 1, 0, none⟩)], .int .i64 (k : Int), .string (txt ((linesT l).getD (k - 1) [])), undef, undef, undef, undef, undef, undef, undef, undef, undef, undef, undef, undef, undef, undef, undef, undef, undef, undef, undef, undef, undef, undef, undef, undef, undef, undef, undef, undef, undef, undef], defers := [] }) ?assign ?body ?done ?stop
  case assign =>
    intro lp k W K hK
    unfold encT at *
    generalize txt ((linesT l).getD (k - 1) []) = ln at *
    gi_wp2
    exact hK
  case body =>
    rintro lp k W hkM hK ⟨hbW, s, ⟨D, hown, hrd⟩, hsc⟩
    have hbA : Boxed W w.heap.size 53 (.slice (some ⟨tb, 0, none⟩) 16 16) := (hK.block _ (by omega) (by omega)).trans bA
    have hbM : Boxed W (w.heap.size + 1) 66 (.map (some (w.heap.size + 1 + 1 + 1))) := (hK.block _ (by omega) (by omega)).trans bM
    have hSz : Sized q W := hK.cell (p := ⟨0, 0, none⟩) (hm.later hB0) (by simp only; omega)
    have hTT : Whole W tb 58 tabC := (k_later hB0 hT).kept hK (by have := hT.lt; omega)
    have hc3 := hbA.cell
    have hc4 := hbM.cell
    have HBW := Lib.hid hbW
    have HOW := Lib.hid hown
    have HRD := Lib.hid hrd
    have HSZ := Lib.hid hSz
    have HTT := Lib.hid hTT
    have hmem : (linesT l).getD k [] ∈ linesT l := by rw [List.getD_eq_getElem?_getD, List.getElem?_eq_getElem hkM]; exact List.getElem_mem hkM
    have hln := line_le hmem
    have hdrop : (linesT l).drop k = (linesT l).getD k [] :: (linesT l).drop (k + 1) := by
      rw [List.drop_eq_getElem_cons hkM, List.getD_eq_getElem?_getD, List.getElem?_eq_getElem hkM]
      rfl
    rw [hdrop, scanT] at hsc
    clear hbA hbM hSz hTT hbW hown hrd bA bM bW mS bT hB0 hK hmem hdrop hg
    rw [Nat.add_sub_cancel]
    have hco := fun W (h : Sized q W) => counted_any ((linesT l).getD k []) q W (by omega) h
    have hcl := countT_le ((linesT l).getD k [])
    have hsa := fun W (h : Sized q W) h' => saying_any (countT ((linesT l).getD k [])) q tb W (by omega) h h'
    generalize hln' : (linesT l).getD k [] = line at *
    clear hln'
    have HCO := Lib.hid (hco W HSZ.out)
    have hcount : ∀ x, x.length ≤ 4000 → (txt x).toList = x := fun x _ => by rw [ByteArray.toList_eq]
    have hcnt := hcount (countT line) (by omega)
    have hci : (txt (countT line)).toList.isEmpty = (countT line).isEmpty := by rw [hcnt]
    have hnl := nameOf_le (countT line)
    have HCL := Lib.hid (show (countT line).length ≤ 4000 by omega)
    clear hco hcount
    obtain ⟨ct, hct⟩ : ∃ ct, ct = txt (countT line) := ⟨_, rfl⟩
    obtain ⟨lt, hlt⟩ : ∃ lt, lt = txt line := ⟨_, rfl⟩
    rw [← hct] at HCO hsa hcnt hci
    rw [← hlt] at HCO ⊢
    have HSA := Lib.hid hsa
    clear hsa hct hlt hcnt
    unfold lineT at hsc
    by_cases hnil : countT line = []
    · rw [if_pos hnil] at hsc
      have HSC := Lib.hid hsc
      have hem : ct.toList.isEmpty = true := by rw [hci, hnil]; rfl
      rw [hnil] at HSA
      rw [show sayV [] = .tuple #[.string ⟨#[]⟩, .int .i64 0, .bool false] by rw [sayV, sayT_nil]] at HSA
      have HKEY := Lib.hid (keyOf_txt [] (by simp))
      have HHAS := Lib.hid (show Maps.has D (.string []) = false by rw [HRD.out.has, show placeL [] = 16 from by decide]; rfl)
      clear hsc hci hnil hcl hnl HCL hln
      gi_wp2_with (first
        | (refine ⟨trivial, ?_⟩; gi_at_call 77; refine (CallsIn.inRound lp (callsIn_wide.2 HCO.out)).mono ?_; rintro e w4 ⟨rfl, hb4⟩; have hc31 : w4.cell? ⟨w.heap.size, 0, none⟩ = some (.slice (some ⟨tb, 0, none⟩) 16 16) := k_cell hb4 hc3; have hc41 : w4.cell? ⟨w.heap.size + 1, 0, none⟩ = some (.map (some (w.heap.size + 1 + 1 + 1))) := k_cell hb4 hc4; have HB4 := Lib.hid hb4; clear hb4 hc3 hc4)
        | (refine ⟨trivial, ?_⟩; gi_at_call 78; refine (CallsIn.inRound lp (callsIn_wide.2 (HSA.out w4 (HSZ.out.later HB4.out) (k_later HB4.out HTT.out)))).mono ?_; rintro e w5 ⟨rfl, hb5⟩; have hc42 : w5.cell? ⟨w.heap.size + 1, 0, none⟩ = some (.map (some (w.heap.size + 1 + 1 + 1))) := k_cell hb5 hc41; have HB5 := Lib.hid (k_then hb5 HB4.out); have hown5 := own_same HOW.out HB5.out; have HOW5 := Lib.hid hown5; have HW5 := Lib.hid (show Boxed w5 (w.heap.size + 1 + 1) 3 (.int .i64 0) from (HB5.out.block _ (Array.getElem?_eq_some_iff.1 HBW.out).1).trans HBW.out); have hcw := HW5.out.cell; have hfw := HW5.out.frozen; clear hb5 hc31 hc41 hown5)
        | (gi_at_lookup; refine wpListIn_lookup_own_ok_int _ rfl _ _ 66 rfl 9 2 .i64 key_string Tryz.underlying66 Tryz.underlying2 (Tryz.zeroValue2 _) (w.heap.size + 1 + 1 + 1) s.count D rfl HOW5.out _ (.string []) rfl HKEY.out ?_; intro cv _ _; rw [HHAS.out]))
      exact ⟨Kept.of_below HB5.out _, HW5.out, s, ⟨D, HOW5.out, HRD.out⟩, HSC.out⟩
    rw [if_neg hnil] at hsc
    have hem : ct.toList.isEmpty = false := by
      rw [hci]
      cases h : countT line
      · exact absurd h hnil
      · rfl
    cases hsay : sayT (countT line) with
    | none =>
      rw [hsay] at hsc
      have HSC := Lib.hid hsc
      rw [show sayV (countT line) = .tuple #[.string ⟨#[]⟩, .int .i64 0, .bool false] by rw [sayV, hsay]] at HSA
      have HKEY := Lib.hid (keyOf_txt [] (by simp))
      have HHAS := Lib.hid (show Maps.has D (.string []) = false by rw [HRD.out.has, show placeL [] = 16 from by decide]; rfl)
      clear hsc hci hnil hcl hnl HCL hln hsay
      gi_wp2_with (first
        | (refine ⟨trivial, ?_⟩; gi_at_call 77; refine (CallsIn.inRound lp (callsIn_wide.2 HCO.out)).mono ?_; rintro e w4 ⟨rfl, hb4⟩; have hc31 : w4.cell? ⟨w.heap.size, 0, none⟩ = some (.slice (some ⟨tb, 0, none⟩) 16 16) := k_cell hb4 hc3; have hc41 : w4.cell? ⟨w.heap.size + 1, 0, none⟩ = some (.map (some (w.heap.size + 1 + 1 + 1))) := k_cell hb4 hc4; have HB4 := Lib.hid hb4; clear hb4 hc3 hc4)
        | (refine ⟨trivial, ?_⟩; gi_at_call 78; refine (CallsIn.inRound lp (callsIn_wide.2 (HSA.out w4 (HSZ.out.later HB4.out) (k_later HB4.out HTT.out)))).mono ?_; rintro e w5 ⟨rfl, hb5⟩; have hc42 : w5.cell? ⟨w.heap.size + 1, 0, none⟩ = some (.map (some (w.heap.size + 1 + 1 + 1))) := k_cell hb5 hc41; have HB5 := Lib.hid (k_then hb5 HB4.out); have hown5 := own_same HOW.out HB5.out; have HOW5 := Lib.hid hown5; have HW5 := Lib.hid (show Boxed w5 (w.heap.size + 1 + 1) 3 (.int .i64 0) from (HB5.out.block _ (Array.getElem?_eq_some_iff.1 HBW.out).1).trans HBW.out); have hcw := HW5.out.cell; have hfw := HW5.out.frozen; clear hb5 hc31 hc41 hown5)
        | (gi_at_lookup; refine wpListIn_lookup_own_ok_int _ rfl _ _ 66 rfl 9 2 .i64 key_string Tryz.underlying66 Tryz.underlying2 (Tryz.zeroValue2 _) (w.heap.size + 1 + 1 + 1) s.count D rfl HOW5.out _ (.string []) rfl HKEY.out ?_; intro cv _ _; rw [HHAS.out]))
      have em : ((k + 1 : Nat) : Int) = (k : Int) + 1 := by omega
      exact ⟨Kept.setCell (S := fun i => i = w.heap.size + 1 + 1 ∨ i = w.heap.size + 1 + 1 + 1) (p := ⟨w.heap.size + 1 + 1, 0, none⟩) (Kept.of_below HB5.out _) (.inl (.inl rfl)) _, rfl, (by rw [em]; exact HW5.out.set _), s, ⟨D, HOW5.out.setCell (by simp) _, HRD.out⟩, HSC.out.symm⟩
    | some pn =>
      obtain ⟨p, n⟩ := pn
      rw [hsay] at hsc
      replace hsc : (if (s p).isSome = true then (k + 1, s) else scanT ((linesT l).drop (k + 1)) (k + 1 + 1) (s.put p n)) = scanT (linesT l) 1 St8.start := hsc
      obtain ⟨hp16, hpn, hn15⟩ := sayT_some hsay
      rw [show sayV (countT line) = .tuple #[.string (txt (nameOf (countT line))), .int .i64 (n : Nat), .bool true] by rw [sayV, hsay]] at HSA
      have HKEY := Lib.hid (keyOf_txt (nameOf (countT line)) (by have := HCL.out; omega))
      have hhas : Maps.has D (.string (nameOf (countT line))) = (s p).isSome := by rw [HRD.out.has, ← hpn, placeL_nameL hp16, decide_eq_true hp16]; rfl
      rw [← hpn] at HSA HKEY hhas
      have HP := Lib.hid hp16
      have HN := Lib.hid hn15
      by_cases htw : (s p).isSome = true
      · rw [if_pos htw] at hsc
        rw [htw] at hhas
        have HSC := Lib.hid hsc
        have HHAS := Lib.hid hhas
        clear hsc hci hnil hcl hnl HCL hln hsay hhas htw hpn hp16 hn15
        generalize nameL p = np at *
        obtain ⟨nt, hnt⟩ : ∃ nt, nt = txt np := ⟨_, rfl⟩
        rw [← hnt] at HSA HKEY
        clear hnt
        gi_wp2_with (first
          | (refine ⟨trivial, ?_⟩; gi_at_call 77; refine (CallsIn.inRound lp (callsIn_wide.2 HCO.out)).mono ?_; rintro e w4 ⟨rfl, hb4⟩; have hc31 : w4.cell? ⟨w.heap.size, 0, none⟩ = some (.slice (some ⟨tb, 0, none⟩) 16 16) := k_cell hb4 hc3; have hc41 : w4.cell? ⟨w.heap.size + 1, 0, none⟩ = some (.map (some (w.heap.size + 1 + 1 + 1))) := k_cell hb4 hc4; have HB4 := Lib.hid hb4; clear hb4 hc3 hc4)
          | (refine ⟨trivial, ?_⟩; gi_at_call 78; refine (CallsIn.inRound lp (callsIn_wide.2 (HSA.out w4 (HSZ.out.later HB4.out) (k_later HB4.out HTT.out)))).mono ?_; rintro e w5 ⟨rfl, hb5⟩; have hc42 : w5.cell? ⟨w.heap.size + 1, 0, none⟩ = some (.map (some (w.heap.size + 1 + 1 + 1))) := k_cell hb5 hc41; have HB5 := Lib.hid (k_then hb5 HB4.out); have hown5 := own_same HOW.out HB5.out; have HOW5 := Lib.hid hown5; have HW5 := Lib.hid (show Boxed w5 (w.heap.size + 1 + 1) 3 (.int .i64 0) from (HB5.out.block _ (Array.getElem?_eq_some_iff.1 HBW.out).1).trans HBW.out); have hcw := HW5.out.cell; have hfw := HW5.out.frozen; clear hb5 hc31 hc41 hown5)
          | (gi_at_lookup; refine wpListIn_lookup_own_ok_int _ rfl _ _ 66 rfl 9 2 .i64 key_string Tryz.underlying66 Tryz.underlying2 (Tryz.zeroValue2 _) (w.heap.size + 1 + 1 + 1) s.count D rfl HOW5.out _ (.string np) rfl HKEY.out ?_; intro cv _ _; rw [HHAS.out]))
        have em : ((k + 1 : Nat) : Int) = (k : Int) + 1 := by omega
        exact ⟨Kept.setCell (S := fun i => i = w.heap.size + 1 + 1 ∨ i = w.heap.size + 1 + 1 + 1) (p := ⟨w.heap.size + 1 + 1, 0, none⟩) (Kept.of_below HB5.out _) (.inl (.inl rfl)) _, rfl, (by rw [em]; exact HW5.out.set _), s, ⟨D, HOW5.out.setCell (by simp) _, HRD.out⟩, HSC.out.symm⟩
      · rw [if_neg htw] at hsc
        have htw' : s p = none := by
          cases h : s p
          · rfl
          · rw [h] at htw; simp at htw
        rw [htw'] at hhas
        have HSC := Lib.hid hsc
        have HHAS := Lib.hid hhas
        have HRP := Lib.hid (fun hk => HRD.out.put (n := n) HP.out htw' hk)
        have HCT := Lib.hid (count_put (n := n) HP.out htw')
        have hcle := count_le s
        have hfit := plainElem_int (H := Unit) (P := Tryz.prog) (e := 2) (q := .i64) (a := (n : Int)) Tryz.underlying2 (by simp [Lit.wf, IntKind.min, IntKind.max, IntKind.signed, IntKind.bits]; omega)
        have HFIT := Lib.hid hfit
        have HKL := Lib.hid (show WideAt.IsKeyLit (.string (nameL p)) from trivial)
        clear hsc hci hnil hcl hnl HCL hln hsay hhas htw htw' hpn hp16 hn15 hfit
        generalize nameL p = np at *
        obtain ⟨nt, hnt⟩ : ∃ nt, nt = txt np := ⟨_, rfl⟩
        rw [← hnt] at HSA HKEY
        clear hnt
        gi_wp2_with (first
          | (refine ⟨trivial, ?_⟩; gi_at_call 77; refine (CallsIn.inRound lp (callsIn_wide.2 HCO.out)).mono ?_; rintro e w4 ⟨rfl, hb4⟩; have hc31 : w4.cell? ⟨w.heap.size, 0, none⟩ = some (.slice (some ⟨tb, 0, none⟩) 16 16) := k_cell hb4 hc3; have hc41 : w4.cell? ⟨w.heap.size + 1, 0, none⟩ = some (.map (some (w.heap.size + 1 + 1 + 1))) := k_cell hb4 hc4; have HB4 := Lib.hid hb4; clear hb4 hc3 hc4)
          | (refine ⟨trivial, ?_⟩; gi_at_call 78; refine (CallsIn.inRound lp (callsIn_wide.2 (HSA.out w4 (HSZ.out.later HB4.out) (k_later HB4.out HTT.out)))).mono ?_; rintro e w5 ⟨rfl, hb5⟩; have hc42 : w5.cell? ⟨w.heap.size + 1, 0, none⟩ = some (.map (some (w.heap.size + 1 + 1 + 1))) := k_cell hb5 hc41; have HB5 := Lib.hid (k_then hb5 HB4.out); have hown5 := own_same HOW.out HB5.out; have HOW5 := Lib.hid hown5; have HW5 := Lib.hid (show Boxed w5 (w.heap.size + 1 + 1) 3 (.int .i64 0) from (HB5.out.block _ (Array.getElem?_eq_some_iff.1 HBW.out).1).trans HBW.out); have hcw := HW5.out.cell; have hfw := HW5.out.frozen; clear hb5 hc31 hc41 hown5)
          | (gi_at_lookup; refine wpListIn_lookup_own_ok_int _ rfl _ _ 66 rfl 9 2 .i64 key_string Tryz.underlying66 Tryz.underlying2 (Tryz.zeroValue2 _) (w.heap.size + 1 + 1 + 1) s.count D rfl HOW5.out _ (.string np) rfl HKEY.out ?_; intro cv _ _; rw [HHAS.out])
          | (gi_at_mapUpdate; refine wpListIn_mapUpdate_own _ rfl _ _ _ 66 rfl 9 2 key_string Tryz.underlying66 (plainElem Tryz.prog 2) (w.heap.size + 1 + 1 + 1) s.count D rfl HOW5.out (by unfold maxLen; omega) _ _ (.string np) rfl rfl HKEY.out (.lit (.int .i64 (n : Nat))) [] HFIT.out ?_; intro w6 hown6 hgrow6; have HO6 := Lib.hid hown6; have HG6 := Lib.hid hgrow6; clear hown6 hgrow6))
        exact ⟨Kept.grown (S := fun i => i = w.heap.size + 1 + 1 ∨ i = w.heap.size + 1 + 1 + 1) (Kept.of_below HB5.out _) HG6.out (fun i hi => by cases hi; exact .inl (.inr rfl)), (HG6.out.block _ (Array.getElem?_eq_some_iff.1 HW5.out).1 (by simp)).trans HW5.out, s.put p n, ⟨_, by rw [HCT.out]; exact HO6.out, HRP.out HKL.out⟩, HSC.out⟩
  case done =>
    rintro D W hD hK ⟨hbW, s, hs, hsc⟩ hDD
    have hbM : Boxed W (w.heap.size + 1) 66 (.map (some (w.heap.size + 1 + 1 + 1))) := (hK.block _ (by omega) (by omega)).trans bM
    have hc4 := hbM.cell
    have hf4 := hbM.frozen
    have hc5 := hbW.cell
    have hf5 := hbW.frozen
    have hdrop : (linesT l).drop (linesT l).length = [] := List.drop_length
    rw [hdrop, scanT] at hsc
    have HSC := Lib.hid hsc
    have HBW0 := Lib.hid (hB0.trans (Kept.below_from hK (by omega) (fun i h => by omega)))
    have HS := Lib.hid hs
    have HDD := Lib.hid hDD
    clear hsc bA bM bW mS bT hB0 hK hs
    gi_wp2
    gi_region
    gi_wp2
    rw [Exit.noGoto_ret]
    obtain ⟨V, hV⟩ : ∃ V, V = ((W.setCell ⟨w.heap.size + 1, 0, none⟩ (.map (some (w.heap.size + 1 + 1 + 1)))).setCell ⟨w.heap.size + 1 + 1, 0, none⟩ (.int .i64 0)).drew := ⟨_, rfl⟩
    rw [← hV]
    have hDV : V.heap[D]? = some (.deferred (some [])) := by
      rw [hV]
      exact (Below.heap_setCell _ _ _ D (by simp only; omega)).trans ((Below.heap_setCell _ _ _ D (by simp only; omega)).trans HDD.out)
    have bV4 : Boxed V (w.heap.size + 1) 66 (.map (some (w.heap.size + 1 + 1 + 1))) := by
      rw [hV]
      exact (Below.heap_setCell _ ⟨w.heap.size + 1 + 1, 0, none⟩ _ (w.heap.size + 1) (by simp only; omega)).trans (hbM.set _)
    have bV5 : Boxed V (w.heap.size + 1 + 1) 3 (.int .i64 0) := by
      rw [hV]
      have h5 : Boxed (W.setCell ⟨w.heap.size + 1, 0, none⟩ (.map (some (w.heap.size + 1 + 1 + 1)))) (w.heap.size + 1 + 1) 3 (.int .i64 0) := (Below.heap_setCell W ⟨w.heap.size + 1, 0, none⟩ _ (w.heap.size + 1 + 1) (by simp only; omega)).trans hbW
      exact h5.set _
    have hSV : SaidIs V (w.heap.size + 1 + 1 + 1) s := HS.out.same (by
      rw [hV]
      exact (Below.heap_setCell _ ⟨w.heap.size + 1 + 1, 0, none⟩ _ (w.heap.size + 1 + 1 + 1) (by simp only; omega)).trans (Below.heap_setCell W ⟨w.heap.size + 1, 0, none⟩ _ (w.heap.size + 1 + 1 + 1) (by simp only; omega)))
    have hBV : Below w.heap.size w (V.putObj D (.deferred none)) := by
      refine Below.trans (b := V) ?_ (belowK_b (w := w) (Nat.le_refl _) V D _ _ (by omega) hDV rfl rfl)
      rw [hV]
      exact ((HBW0.out.setCell (p := ⟨w.heap.size + 1, 0, none⟩) (by simp) _).setCell (p := ⟨w.heap.size + 1 + 1, 0, none⟩) (by simp only; omega) _).drew
    refine ⟨by simp, .inl ⟨_, _, rfl, run_takeDeferred hDV, ?_⟩⟩
    have p4 : (V.putObj D (.deferred none)).cell? ⟨w.heap.size + 1, 0, none⟩ = some (.map (some (w.heap.size + 1 + 1 + 1))) := Boxed.cell (t := 66) ((World.putObj_heap_other (by omega)).trans bV4)
    have p5 : (V.putObj D (.deferred none)).cell? ⟨w.heap.size + 1 + 1, 0, none⟩ = some (.int .i64 0) := Boxed.cell (t := 3) ((World.putObj_heap_other (by omega)).trans bV5)
    refine ⟨.tuple #[.map (some (w.heap.size + 1 + 1 + 1)), .int .i64 0], by simp [results, Tryz.results27, go_sem, p4, p5], ?_⟩
    rw [← HSC.out]
    exact ⟨_, rfl, hSV.same (World.putObj_heap_other (by omega)), hBV⟩
  case stop =>
    rintro D c k W hD hk1 hk2 hK ⟨rfl, hbW, s, hs, hsc⟩ hDD
    have hbM : Boxed W (w.heap.size + 1) 66 (.map (some (w.heap.size + 1 + 1 + 1))) := (hK.block _ (by omega) (by omega)).trans bM
    have hc4 := hbM.cell
    have hf4 := hbM.frozen
    have hc5 := hbW.cell
    have hf5 := hbW.frozen
    have HSC := Lib.hid hsc.symm
    have HBW0 := Lib.hid (hB0.trans (Kept.below_from hK (by omega) (fun i h => by omega)))
    have HS := Lib.hid hs
    have HDD := Lib.hid hDD
    clear hsc bA bM bW mS bT hB0 hK hs
    gi_wp2
    gi_region
    gi_wp2
    rw [Exit.noGoto_ret]
    obtain ⟨V, hV⟩ : ∃ V, V = ((W.setCell ⟨w.heap.size + 1, 0, none⟩ (.map (some (w.heap.size + 1 + 1 + 1)))).setCell ⟨w.heap.size + 1 + 1, 0, none⟩ (.int .i64 (k : Int))).drew := ⟨_, rfl⟩
    rw [← hV]
    have hDV : V.heap[D]? = some (.deferred (some [])) := by
      rw [hV]
      exact (Below.heap_setCell _ _ _ D (by simp only; omega)).trans ((Below.heap_setCell _ _ _ D (by simp only; omega)).trans HDD.out)
    have bV4 : Boxed V (w.heap.size + 1) 66 (.map (some (w.heap.size + 1 + 1 + 1))) := by
      rw [hV]
      exact (Below.heap_setCell _ ⟨w.heap.size + 1 + 1, 0, none⟩ _ (w.heap.size + 1) (by simp only; omega)).trans (hbM.set _)
    have bV5 : Boxed V (w.heap.size + 1 + 1) 3 (.int .i64 (k : Int)) := by
      rw [hV]
      have h5 : Boxed (W.setCell ⟨w.heap.size + 1, 0, none⟩ (.map (some (w.heap.size + 1 + 1 + 1)))) (w.heap.size + 1 + 1) 3 (.int .i64 (k : Int)) := (Below.heap_setCell W ⟨w.heap.size + 1, 0, none⟩ _ (w.heap.size + 1 + 1) (by simp only; omega)).trans hbW
      exact h5.set _
    have hSV : SaidIs V (w.heap.size + 1 + 1 + 1) s := HS.out.same (by
      rw [hV]
      exact (Below.heap_setCell _ ⟨w.heap.size + 1 + 1, 0, none⟩ _ (w.heap.size + 1 + 1 + 1) (by simp only; omega)).trans (Below.heap_setCell W ⟨w.heap.size + 1, 0, none⟩ _ (w.heap.size + 1 + 1 + 1) (by simp only; omega)))
    have hBV : Below w.heap.size w (V.putObj D (.deferred none)) := by
      refine Below.trans (b := V) ?_ (belowK_b (w := w) (Nat.le_refl _) V D _ _ (by omega) hDV rfl rfl)
      rw [hV]
      exact ((HBW0.out.setCell (p := ⟨w.heap.size + 1, 0, none⟩) (by simp) _).setCell (p := ⟨w.heap.size + 1 + 1, 0, none⟩) (by simp only; omega) _).drew
    refine ⟨by simp, .inl ⟨_, _, rfl, run_takeDeferred hDV, ?_⟩⟩
    have p4 : (V.putObj D (.deferred none)).cell? ⟨w.heap.size + 1, 0, none⟩ = some (.map (some (w.heap.size + 1 + 1 + 1))) := Boxed.cell (t := 66) ((World.putObj_heap_other (by omega)).trans bV4)
    have p5 : (V.putObj D (.deferred none)).cell? ⟨w.heap.size + 1 + 1, 0, none⟩ = some (.int .i64 (k : Int)) := Boxed.cell (t := 3) ((World.putObj_heap_other (by omega)).trans bV5)
    refine ⟨.tuple #[.map (some (w.heap.size + 1 + 1 + 1)), .int .i64 (k : Int)], by simp [results, Tryz.results27, go_sem, p4, p5], ?_⟩
    rw [← HSC.out]
    exact ⟨_, rfl, hSV.same (World.putObj_heap_other (by omega)), hBV⟩
end Go.Proofs.YtdeiohcciafffaaGreatDoor
