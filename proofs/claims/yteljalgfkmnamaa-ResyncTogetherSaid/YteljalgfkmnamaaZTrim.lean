/- Trim, by its contract. No condition. -/
import Derived.Test.YteljalgfkmnamaaZIter
import Derived.Maps.OwnIn
namespace Go.Proofs.Yteljalgfkmnamaa
open Go.RowKit Go.Shelf
attribute [local go_sem] Oper.semAt_some

/-- Between two rounds: the first j are in the row. -/
def TrimI (w : World) (d base : Nat) (L : List Int) (j : Nat) (G : Nat → Prop) (A : World) : Prop :=
  ∃ vd, Whole A d 26 #[vd] ∧ A.ownsRow base 2 1 vd j ((L.take j).flatMap inC) ∧ G d ∧ (∀ g, vd.ownBlock = some g → G g) ∧ (∀ i, i < w.heap.size → G i) ∧ Below w.heap.size w A
theorem TrimI.kept {w A B : World} {d base j : Nat} {L : List Int} {G : Nat → Prop} (h : TrimI w d base L j G A) (hk : Kept (fun i => ¬ G i) A B) : TrimI w d base L j G B := by
  obtain ⟨vd, h1, h2, h3, h4, h5, h6⟩ := h
  exact ⟨vd, h1.kept hk (fun h => h h3), own_kept h2 hk (fun g hg h => h (h4 g hg)), h3, h4, h5, below_on h6 hk (fun i hi => Nat.le_of_not_lt (fun hlt => hi (h5 i hlt))) h6.size⟩
/-- A round that lays one more. -/
theorem trimI_more {w A w5 : World} {d base j z : Nat} {L : List Int} {G F : Nat → Prop} {vd v' : Value} {o : Obj} {x : Int} (hx : x = L.getD j 0) (hj : j < L.length) (hd : Whole A d 26 #[vd]) (hr : A.ownsRow base 2 1 vd j ((L.take j).flatMap inC)) (g1 : G d) (g2 : ∀ g, vd.ownBlock = some g → G g) (g3 : ∀ i, i < w.heap.size → G i) (g4 : Below w.heap.size w A)
    (hwd : w.heap.size ≤ d) (hwb : w.heap.size ≤ base) (hG : ∀ i, G i → i < A.heap.size ∧ ¬ F i ∧ i ≠ z ∧ i ≠ z + 1) (hF : ∀ i, F i → i < A.heap.size) (hz : z + 1 < A.heap.size)
    (h1 : w5.ownsRow base 2 1 v' (j + 1) ((L.take j).flatMap inC ++ inC x)) (h2 : (A.alloc o).grownBy w5 vd.ownBlock) (h3 : v'.ownBlock = vd.ownBlock ∨ v'.ownBlock = some (A.alloc o).heap.size) (hdv : some d ≠ vd.ownBlock) :
    ∃ G', Kept G A (w5.setCell ⟨d, 0, none⟩ v') ∧ (∀ i, G' i → i < (w5.setCell ⟨d, 0, none⟩ v').heap.size ∧ ¬ F i ∧ i ≠ z ∧ i ≠ z + 1) ∧ TrimI w d base L (j + 1) G' (w5.setCell ⟨d, 0, none⟩ v') := by
  have hza : (A.alloc o).heap.size = A.heap.size + 1 := by simp
  have hz5 := h2.size
  have hd5 : Whole w5 d 26 #[vd] := (hd.alloc o).grown h2 hdv
  have hk : Kept G A (w5.setCell ⟨d, 0, none⟩ v') := (((Kept.refl G A).alloc o).grown h2 (fun k hk => .inl (g2 k hk))).setCell (p := ⟨d, 0, none⟩) (.inl g1) v'
  have hs : (w5.setCell ⟨d, 0, none⟩ v').heap.size = w5.heap.size := by simp [World.setCell]
  have hdv' : some d ≠ v'.ownBlock := by
    rcases h3 with e | e
    · rw [e]; exact hdv
    · rw [e]
      intro h
      have := hd.lt
      simp at h
      omega
  have e : (L.take (j + 1)).flatMap inC = (L.take j).flatMap inC ++ inC x := by
    rw [hx, List.take_add_one, List.flatMap_append, List.getElem?_eq_getElem hj, getD_lt hj]
    simp
  refine ⟨fun i => G i ∨ some i = v'.ownBlock, hk, ?_, v', hd5.set 0 v', ?_, .inl g1, fun g hg => .inr hg.symm, fun i hi => .inl (g3 i hi), below_on g4 (Kept.mono (S := fun i => i = d ∨ some i = vd.ownBlock) ((((Kept.refl _ A).alloc o).grown h2 (fun k hk => .inl (.inr hk.symm))).setCell (p := ⟨d, 0, none⟩) (.inl (.inl rfl)) v') (fun _ h => h)) (fun i hi => ?_) g4.size⟩
  · rintro i (h | h)
    · have := hG i h
      exact ⟨by rw [hs]; omega, this.2⟩
    · rcases h3 with e3 | e3
      · rw [e3] at h
        have := hG i (g2 i h.symm)
        exact ⟨by rw [hs]; omega, this.2⟩
      · have hi : i = (A.alloc o).heap.size := by rw [e3] at h; simpa using h
        have h5 : i < w5.heap.size := by
          obtain ⟨_, cur, hh⟩ := own_typed h1 h.symm
          exact (Array.getElem?_eq_some_iff.1 hh).1
        exact ⟨by rw [hs]; exact h5, fun hf => by have := hF i hf; omega, by omega, by omega⟩
  · rw [e]
    exact own_kept h1 (Kept.setCell (S := fun i => i = d) (Kept.refl _ w5) (p := ⟨d, 0, none⟩) (.inl rfl) v') (fun g hg e => hdv' (by rw [hg, e]))
  · rcases hi with rfl | hi
    · exact hwd
    · exact Nat.le_trans hwb (own_typed hr hi.symm).1

/-- What Trim answers. -/
def outT (l : List Int) (k : Int) : List Int := if okM l k = true then trimL l k.toNat else []
def errT (l : List Int) (k : Int) : Int := if okM l k = true then 0 else 140
def TrimD (l : List Int) (k : Int) (w : World) (e : Ending) (w' : World) : Prop :=
  ∃ v, e = .returned (.tuple #[v, .int .i64 (errT l k)]) ∧ w'.ownsRow w.heap.size 2 1 v (outT l k).length ((outT l k).flatMap inC) ∧ Below w.heap.size w w'

set_option maxRecDepth 100000 in
set_option maxHeartbeats 4000000 in
theorem Trim_any (w : World) (s : Sl) (l : List Int) (k : Int) (h : RSrc inC 1 w s l) (hn : s.n ≤ 1000) : Calls Try.prog 48 #[s.v, .int .i64 k] w (TrimD l k w) := by
  have hl := h.len
  have HV := Lib.hid (areValues_any w s l h)
  have HE := Lib.hid (enough_any s.n k hn w)
  have H := Lib.hid h
  have HL := Lib.hid hl
  unfold TrimD outT errT
  by_cases hv : okV l = true
  · by_cases hk : okN l.length k = true
    · have hok : okM l k = true := by unfold okM; rw [hv, hk]; rfl
      rw [hok, if_pos rfl, if_pos rfl]
      rw [hv] at HV
      rw [hl] at hk
      obtain ⟨m, rfl, hm⟩ := okN_iff.1 hk
      rw [Int.toNat_natCast]
      rw [hk] at HE
      obtain ⟨w1, hw1⟩ : ∃ w1, w1 = w.alloc (.cells #[.slice none 0 0] 26) := ⟨_, rfl⟩
      have hb1 : Below w.heap.size w w1 := by rw [hw1]; exact (Below.refl _ _).alloc (Nat.le_refl _) _
      have hW1 : Whole w1 w.heap.size 26 #[.slice none 0 0] := by rw [hw1]; exact Whole.new _ _ _
      have hz1 : w1.heap.size = w.heap.size + 1 := by rw [hw1]; simp
      obtain ⟨w2, hw2⟩ : ∃ w2, w2 = w1.alloc (.cells #[s.v] 26) := ⟨_, rfl⟩
      have hb2 : Below w1.heap.size w1 w2 := by rw [hw2]; exact (Below.refl _ _).alloc (Nat.le_refl _) _
      have hW2 : Whole w2 w1.heap.size 26 #[s.v] := by rw [hw2]; exact Whole.new _ _ _
      have hz2 : w2.heap.size = w1.heap.size + 1 := by rw [hw2]; simp
      obtain ⟨w3, hw3⟩ : ∃ w3, w3 = w2.alloc (.cells #[.int .i64 (m : Int)] 3) := ⟨_, rfl⟩
      have hb3 : Below w2.heap.size w2 w3 := by rw [hw3]; exact (Below.refl _ _).alloc (Nat.le_refl _) _
      have hW3 : Whole w3 w2.heap.size 3 #[.int .i64 (m : Int)] := by rw [hw3]; exact Whole.new _ _ _
      have hz3 : w3.heap.size = w2.heap.size + 1 := by rw [hw3]; simp
      have hb13 : Below w1.heap.size w1 w3 := k_then hb3 hb2
      have hb03 : Below w.heap.size w w3 := k_then hb13 hb1
      have hlt := left_turns 4 (by omega) w1.heap.size w2.heap.size s l m (by rw [hl]; exact hm) hn w3 (k_later hb3 hW2) hW3 (h.later hb03)
      rw [hz2, hz1] at hlt
      have HT := Lib.hid hlt
      have HB := Lib.hid (And.intro hb03 (k_later hb13 hW1))
      have HW1 := Lib.hid hw1
      have HW2 := Lib.hid hw2
      have HW3 := Lib.hid hw3
      have HK := Lib.hid hm
      have hz : w3.heap.size = w.heap.size + 3 := by omega
      obtain ⟨A, n, c⟩ := s
      unfold Sl.v at *
      dsimp only at *
      clear h hv hk hok hw1 hb1 hW1 hw2 hb2 hW2 hw3 hb3 hW3 hb13 hb03 hlt hm
      refine (callsIn_wide (n := 5)).1 ?_
      refine callsIn_of_wp_marks Try.func48 rfl trivial ?_ rfl
      simp only [Try.ntmps48, List.size_toArray, List.length_cons, List.length_nil, Nat.reduceAdd, Nat.reduceSub, Array.replicate_succ, Array.replicate_zero, List.push_toArray, List.append_toArray, List.nil_append, List.cons_append]
      gi_wp2_with (first
        | (refine ⟨trivial, ?_⟩; gi_at_call 64; refine (callsIn_wide.2 HV.out).mono ?_; rintro e w' ⟨rfl, hww⟩; obtain rfl := hww.symm)
        | (refine ⟨trivial, ?_⟩; gi_at_call 65; refine (callsIn_wide.2 HE.out).mono ?_; rintro e w' ⟨rfl, hww⟩; obtain rfl := hww.symm)
        | (refine ⟨trivial, ?_⟩; gi_at_call 66; refine (left_in _ ⟨A, n, c⟩ _ _).mono ?_; rintro e w' ⟨rfl, hw'⟩; unfold Sl.v at hw'; rw [← HW1.out, ← HW2.out, ← HW3.out] at hw'; have HW4 := Lib.hid hw'; clear hw'))
      rw [HW4.out]
      obtain ⟨i0, hi, hy0, hy1, hy2⟩ := info_parts i_i64
      have htl : (trimL l m).length = l.length - 2 * m := trim_len (by rw [HL.out]; exact HK.out)
      have HTL := Lib.hid htl
      have HX0 := Lib.hid (fun j (hj : j < l.length - 2 * m) => trim_at (l := l) (k := m) (by rw [HL.out]; exact HK.out) hj)
      refine wpIn_shareB (F0 := leftF (w.heap.size + 1) (w.heap.size + 1 + 1)) (G0 := fun i => i ≤ w.heap.size) (by rintro i (e | e) <;> omega) (by
        intro i hi
        refine ⟨by omega, ?_⟩
        rintro (e | e) <;> omega) (by omega) (gf := 68) (lb := #[.pointer (some ⟨w.heap.size + 1, 0, none⟩), .pointer (some ⟨w.heap.size + 1 + 1, 0, none⟩)]) rfl
        (enters_of Try.func68 (by kernel_rfl) rfl) (Enc := EncZ l m) (M := l.length - 2 * m) (fun k args F A h => by unfold EncZ at h; subst h; rfl) HT.out
        (TrimI w w.heap.size (w.heap.size + 1) (trimL l m)) (fun _ _ _ _ => False)
        (fun j F a2 V => a2 = { tmps := #[.slice A n c, .int .i64 (m : Int), undef, undef, .slice none 0 0, .int .i64 0, .pointer (some ⟨w.heap.size, 0, none⟩), .int .i64 ((srt l).getD (m + (j - 1)) 0), .slice A n c, .bool true, .bool false, .bool false, .slice A n c, .int .i64 (n : Int), .int .i64 (m : Int), .bool true, .bool false, .bool false, .slice A n c, .int .i64 (m : Int), .func (.func 68) #[] #[.pointer (some ⟨w.heap.size + 1, 0, none⟩), .pointer (some ⟨w.heap.size + 1 + 1, 0, none⟩)], .int .i64 ((srt l).getD (m + (j - 1)) 0), undef, undef, undef, undef, undef], defers := [] })
        ?hI ?hX ?hAx ?h0 ?assign ?body ?done ?stop
      case hI => exact fun j G A B h _ hk => h.kept hk
      case hX => exact fun _ _ _ _ _ h _ _ => h
      case hAx => exact fun _ _ _ _ _ _ h => h
      case h0 => exact ⟨_, HB.out.2, ⟨rfl, .inl ⟨rfl, rfl⟩⟩, Nat.le_refl _, (fun g hg => by cases hg), (fun i hi => Nat.le_of_lt hi), HB.out.1⟩
      case assign =>
        intro lp j args F V K hVz henc _ _ _ hK
        unfold EncZ at henc
        subst henc
        gi_wp2
        exact hK _ _ (Below.refl _ V) rfl
      case body =>
        rintro lp j F G V a2 hj hVz ⟨vd, hD, hrow, g1, g2, g3, g4⟩ hG hF hnc rfl
        rw [Nat.add_sub_cancel]
        obtain ⟨x, hx⟩ : ∃ x, x = (srt l).getD (m + j) 0 := ⟨_, rfl⟩
        rw [← hx]
        have hxt : x = (trimL l m).getD j 0 := by rw [hx, HX0.out j hj]
        have hd0 := hD.cell 0
        have hdf := hD.frozen 0
        have hdl := hD.lt
        simp at hd0
        have HI := Lib.hid (And.intro hD (And.intro hrow (And.intro g1 (And.intro g2 (And.intro g3 (And.intro g4 (And.intro hG hF)))))))
        have HX := Lib.hid hxt
        have hjl : j ≤ 1000 := by omega
        have hjt : j < (trimL l m).length := by omega
        have HJT := Lib.hid hjt
        clear hD g1 g2 g3 g4 hG hF hnc hx hxt hjt HT HX0
        gi_wp2_with (gi_at_builtin; refine wpListIn_append_own_at _ rfl (.tmp 22) (.tmp 24) 26 rfl (w.heap.size + 1) 2 i0 _ 1 8 u_ints hi hy0 hy1 hy2 rfl (by decide) vd j (((trimL l m).take j).flatMap inC) rfl (hrow.alloc _) ⟨V.heap.size, 0, none⟩ 1 1 (inC x) rfl rfl (fun j u hu => World.news_of_block (Whole.new V _ _) j u hu) (inC_ones x) (by simp only [maxLen]; omega) (by omega) (by simp; omega) ?_; intro v' w5 h1 h2 _ h3; have hnr := HI.out.1.not_row (by decide) hrow; have hD5 : Whole w5 w.heap.size 26 #[vd] := (HI.out.1.alloc _).grown h2 hnr; have hc5 := hD5.cell 0; have hf5 := hD5.frozen 0; simp at hc5; have HG := Lib.hid (And.intro h1 (And.intro h2 (And.intro h3 hnr))); obtain ⟨g', cap', rfl⟩ := ownsRow_succ h1; clear h1 h2 h3 hD5 hnr)
        exact trimI_more HX.out HJT.out HI.out.1 HI.out.2.1 HI.out.2.2.1 HI.out.2.2.2.1 HI.out.2.2.2.2.1 HI.out.2.2.2.2.2.1 (Nat.le_refl _) (by omega) HI.out.2.2.2.2.2.2.1 HI.out.2.2.2.2.2.2.2 (by omega) HG.out.1 HG.out.2.1 HG.out.2.2.1 HG.out.2.2.2
      case done =>
        rintro D V G hD ⟨vd, hDw, hrow, g1, g2, g3, g4⟩ hG hDD
        have hc := hDw.cell 0
        simp at hc
        have HF := Lib.hid (show Below w.heap.size w (V.putObj D (.deferred none)) from below_on g4 (kept_putObj (T := fun i => i = D) rfl (.deferred none)) (fun i e => by have e : i = D := e; omega) g4.size)
        have HR := Lib.hid (own_low (b' := w.heap.size) (ownsRow_putObj (o := .deferred none) hrow hDD (fun _ _ _ e => by cases e)) (by omega))
        rw [← htl] at HR
        clear hDw hrow g1 g2 g3 g4 hG HT HX0
        gi_wp2
        refine ⟨by simp, .inl ⟨_, _, rfl, run_takeDeferred hDD, ?_⟩⟩
        refine ⟨_, results_tmp2 rfl _ _ _, vd, rfl, ?_, HF.out⟩
        have := HR.out
        rw [List.take_length] at this
        exact this
      case stop => exact fun D cc k W G hD h1 h2 h3 => h3.elim
    · have hk2 : okN l.length k = false := by simpa using hk
      have hok : okM l k = false := by unfold okM; rw [hv, hk2]; rfl
      rw [hl] at hk2
      rw [hv] at HV
      rw [hk2] at HE
      rw [hok, if_neg (by decide), if_neg (by decide)]
      obtain ⟨A, n, c⟩ := s
      unfold Sl.v at *
      dsimp only at *
      clear h hv hk hk2 hok
      go_enter Try.func48, Try.ntmps48
      go_wp2_with (first
        | (go_at_call 64; refine HV.out.mono ?_; rintro e w' ⟨rfl, hww⟩; obtain rfl := hww.symm)
        | (go_at_call 65; refine HE.out.mono ?_; rintro e w' ⟨rfl, hww⟩; obtain rfl := hww.symm))
      go_ret2
      exact ⟨_, rfl, ⟨rfl, .inl ⟨rfl, rfl⟩⟩, Below.refl _ _⟩
  · have hv2 : okV l = false := by simpa using hv
    have hok : okM l k = false := by unfold okM; rw [hv2]; rfl
    rw [hv2] at HV
    rw [hok, if_neg (by decide), if_neg (by decide)]
    obtain ⟨A, n, c⟩ := s
    unfold Sl.v at *
    dsimp only at *
    clear h hv hv2 hok
    go_enter Try.func48, Try.ntmps48
    go_wp2_with (go_at_call 64; refine HV.out.mono ?_; rintro e w' ⟨rfl, hww⟩; obtain rfl := hww.symm)
    go_ret2
    exact ⟨_, rfl, ⟨rfl, .inl ⟨rfl, rfl⟩⟩, Below.refl _ _⟩
end Go.Proofs.Yteljalgfkmnamaa
