/- append of events, whatever their slice; All and Until as calls that answer a new row. No condition. -/
import Derived.Test.YtchfponnajednaaALawR
namespace Go.Proofs.Ytchfponnajednaa
open Go.RowKit Go.Shelf

theorem run_append_evs {P : Program} (w : World) (t ty e : TypeId) (i : TypeInfo) (z : Value) (ht : P.underlying t = some (.slice e)) (hi : P.info? e = some i) (hz : i.zero = some z)
    (hsize : i.size = 5) (hby : i.bytes = 40) (hzs : z.cells.size = 5) (v : Value) (n : Nat) (xs : List Value) (hown : w.ownsRow 0 e 5 v n xs)
    (A : Option Addr) (m c : Nat) (l : List Ev) (hr : VSrc w A m l) (hlen : n + m ≤ 1000000) :
    ∃ v' w', (Builtin.append_ #[t, t] ty #[v, .slice A m c]).run P w = .ok v' w' ∧ w'.ownsRow 0 e 5 v' (n + m) (xs ++ flatV l) ∧ w.grownBy w' v.ownBlock ∧
      (v'.ownBlock = v.ownBlock ∨ v'.ownBlock = some w.heap.size) := by
  obtain ⟨rfl, h2⟩ := hr
  by_cases h0 : l = [] ∧ A = none
  · obtain ⟨rfl, rfl⟩ := h0
    refine ⟨v, w, ?_, by simpa [flatV] using hown, World.grownBy.refl w _, .inl rfl⟩
    rcases hown.2 with ⟨rfl, rfl⟩ | ⟨g, cap, cur, rfl, _, _, hnc, _⟩
    · simp [Builtin.append_, run_underlying ht, sizeOf, typeInfo, hi, Builtin.lenOf, Builtin.firstCells]
    · simp [Builtin.append_, run_underlying ht, sizeOf, typeInfo, hi, Builtin.lenOf, Builtin.firstCells, hnc, storeCells]
  · obtain ⟨ad, rfl, hc⟩ : ∃ ad, A = some ad ∧ ∀ j u, (flatV l)[j]? = some u → w.cell? (ad.add j) = some u := by
      rcases Nat.eq_zero_or_pos l.length with hl | hl
      · obtain rfl : l = [] := List.eq_nil_of_length_eq_zero hl
        cases A with
        | none => exact absurd ⟨rfl, rfl⟩ h0
        | some ad => exact ⟨ad, rfl, fun j u hu => by simp [flatV] at hu⟩
      · obtain ⟨b, o, rfl, hc⟩ := h2 hl
        refine ⟨_, rfl, fun j u hu => ?_⟩
        have hj : j < l.length * 5 := by
          have := (List.getElem?_eq_some_iff.1 hu).1
          rwa [flatV_length] at this
        have hi' : j / 5 < l.length := by omega
        have e1 := flatV_get l (j / 5) _ (j % 5) (List.getElem?_eq_getElem hi') (Nat.mod_lt _ (by decide))
        rw [show j / 5 * 5 + j % 5 = j by omega, hu] at e1
        have := hc (j / 5) _ (List.getElem?_eq_getElem hi') (j % 5) u e1.symm
        rw [Addr.add_mid]
        rwa [show o + j / 5 * 5 + j % 5 = o + j by omega] at this
    obtain ⟨v', w', hrun, h3, h4, _, h6⟩ := run_append_own_at (P := P) w 0 t ty e i z 5 40 ht hi hz hsize hby hzs (by decide) v n xs hown ad l.length c (flatV l) (flatV_length l) hc flatV_ones (by simp only [maxLen]; omega) (by omega) (Nat.zero_le _)
    exact ⟨v', w', hrun, h3, h4, h6⟩
theorem wpList_append_evs {P : Program} (w : World) {ops : Array Oper} {rest : List Oper} {o : Oper} {a : Act} {Q : Exit → Act → World → Prop} (hgd : o.guard = none) (s x : Operand) (t : TypeId)
    (ho : o.op = .call { callee := .builtin .append, args := #[s, x], argTypes := #[t, t] })
    (e : TypeId) (i : TypeInfo) (z : Value) (ht : P.underlying t = some (.slice e)) (hi : P.info? e = some i) (hz : i.zero = some z) (hsize : i.size = 5) (hby : i.bytes = 40) (hzs : z.cells.size = 5)
    (v : Value) (n : Nat) (xs : List Value) (hs : a.eval s = v) (hown : w.ownsRow 0 e 5 v n xs)
    (A : Option Addr) (m c : Nat) (l : List Ev) (hx : a.eval x = .slice A m c) (hr : VSrc w A m l) (hlen : n + m ≤ 1000000)
    (h : ∀ v' w', w'.ownsRow 0 e 5 v' (n + m) (xs ++ flatV l) → w.grownBy w' v.ownBlock → (v'.ownBlock = v.ownBlock ∨ v'.ownBlock = some w.heap.size) → wpList P ops Q rest (a.put o.dst v') w') : wpList P ops Q (o :: rest) a w :=
  wpList_plain hgd fun _ hK => by
    obtain ⟨v', w', hrun, h2, h3, h4⟩ := run_append_evs (P := P) w t o.type e i z ht hi hz hsize hby hzs v n xs hown A m c l hr hlen
    unfold Oper.wp execOp
    simp only [ho, resolve, invoke, builtin, Sem.run_bind, Sem.run_pure, Result.andThen_ok, List.map_toArray, List.map_cons, List.map_nil, hs, hx, hrun]
    exact hK _ _ (h v' w' h2 h3 h4)

theorem own_base {w : World} {base : Nat} {e : TypeId} {size n : Nat} {v : Value} {xs : List Value} (h : w.ownsRow base e size v n xs) : w.ownsRow 0 e size v n xs := by
  refine ⟨h.1, ?_⟩
  rcases h.2 with h0 | ⟨g, cap, cur, e, _, h3⟩
  · exact .inl h0
  · exact .inr ⟨g, cap, cur, e, Nat.zero_le _, h3⟩
abbrev AllY (L : List En) : Option Addr → Nat → Nat → List Ev → Prop := fun _ n _ es => n = L.length ∧ es = L.map En.e
abbrev UntY (t : Int) (L : List En) : Option Addr → Nat → Nat → List Ev → Prop := fun _ n _ es => UpTo t L n ∧ es = evs L n
section
variable {a nx b ny : Nat} {L M : List En} {t : Int}
theorem all_rowed (hl : L.length ≤ 1000000) (G : Nat → Prop) (W : World) (h : AgF G a nx L W) :
    Calls Try.prog 13 #[.pointer (some ⟨a, 0, none⟩)] W (Rowed (fun _ F V => AgF F a nx L V) (AllY L) G W) := by
  refine (all_f h hl).mono ?_
  rintro e W' ⟨v, rfl, hr, hb⟩
  obtain ⟨A, c, rfl⟩ := own_slice hr
  have hn : ∀ k, blk A k → W.heap.size ≤ k ∧ k < W'.heap.size := fun k hk => hr.lt k (RowV.blk_own hk)
  exact ⟨A, _, c, _, rfl, ⟨rfl, rfl⟩, (h.new hb).less (fun k hk => by
    rcases hk with hk | hk
    · exact .inl hk
    · exact .inr (hn k hk)), Kept.of_below hb _, own_base hr, hn⟩
theorem all2_rowed (hl : L.length ≤ 1000000) (G : Nat → Prop) (W : World) (h : Ag2 G a nx L b ny M W) :
    Calls Try.prog 13 #[.pointer (some ⟨a, 0, none⟩)] W (Rowed (fun _ F V => Ag2 F a nx L b ny M V) (AllY L) G W) := by
  refine (all_f h.fst hl).mono ?_
  rintro e W' ⟨v, rfl, hr, hb⟩
  obtain ⟨A, c, rfl⟩ := own_slice hr
  have hn : ∀ k, blk A k → W.heap.size ≤ k ∧ k < W'.heap.size := fun k hk => hr.lt k (RowV.blk_own hk)
  exact ⟨A, _, c, _, rfl, ⟨rfl, rfl⟩, (h.new hb).less (fun k hk => by
    rcases hk with hk | hk
    · exact .inl hk
    · exact .inr (hn k hk)), Kept.of_below hb _, own_base hr, hn⟩
theorem until_rowed (hl : L.length ≤ 1000000) (G : Nat → Prop) (W : World) (hB : Bnd G W) (h : AgF G a nx L W) :
    Calls Try.prog 20 #[.pointer (some ⟨a, 0, none⟩), .int .i64 t] W (Rowed (fun es F V => AgF F a nx (L.drop es.length) V) (UntY t L) G W) := by
  refine (until_f h hB hl).mono ?_
  rintro e W' ⟨A, n, c, rfl, hup, hsrc, hag, hk, hA, hr⟩
  have hn : ∀ k, blk A k → W.heap.size ≤ k ∧ k < W'.heap.size := fun k hk => by
    obtain ⟨ad, e, rfl⟩ := hk
    exact hA ad e
  refine ⟨A, n, c, evs L n, rfl, ⟨hup, rfl⟩, ?_, hk, own_base hr, hn⟩
  show AgF _ a nx (L.drop (evs L n).length) W'
  rw [evs_length hup.le]
  exact hag
theorem until2_rowed (hl : L.length ≤ 1000000) (G : Nat → Prop) (W : World) (hB : Bnd G W) (h : Ag2 G a nx L b ny M W) :
    Calls Try.prog 20 #[.pointer (some ⟨a, 0, none⟩), .int .i64 t] W (Rowed (fun es F V => Ag2 F a nx (L.drop es.length) b ny M V) (UntY t L) G W) := by
  obtain ⟨S, T, g1, g2, g3, g4, g5⟩ := h
  refine (until_f (F := fun k => G k ∨ T k) (t := t) ⟨S, g1, fun k hk hs => by
    rcases hk with hk | hk
    · exact g4 k hk hs
    · exact g3 k hs hk⟩ (fun k hk => by
    rcases hk with hk | hk
    · exact hB k hk
    · exact g2.lt k hk) hl).mono ?_
  rintro e W' ⟨A, n, c, rfl, hup, hsrc, ⟨S', g6, g7⟩, hk, hA, hr⟩
  have hn : ∀ k, blk A k → W.heap.size ≤ k ∧ k < W'.heap.size := fun k hk => by
    obtain ⟨ad, e, rfl⟩ := hk
    exact hA ad e
  refine ⟨A, n, c, evs L n, rfl, ⟨hup, rfl⟩, ?_, hk.mono (fun i hi hf => hi (.inl hf)), own_base hr, hn⟩
  show Ag2 _ a nx (L.drop (evs L n).length) b ny M W'
  rw [evs_length hup.le]
  refine ⟨S', T, g6, g2.kept hk (fun k ht hn => hn (.inr ht)), fun k hs ht => g7 k (.inl (.inr ht)) hs, fun k hf => g7 k (by
    rcases hf with hf | hf
    · exact .inl (.inl hf)
    · exact .inr hf), fun k hf ht => ?_⟩
  rcases hf with hf | hf
  · exact g5 k hf ht
  · have := (hn k hf).1
    have := g2.lt k ht
    omega
/-- The second of two. -/
theorem Rowed.swap {P : Program} {f : FuncId} {args : Array Value} {W : World} {G : Nat → Prop} {N : List Ev → List En} {Y : Option Addr → Nat → Nat → List Ev → Prop}
    (h : Calls P f args W (Rowed (fun es F V => Ag2 F b ny (N es) a nx L V) Y G W)) : Calls P f args W (Rowed (fun es F V => Ag2 F a nx L b ny (N es) V) Y G W) := by
  refine h.mono ?_
  rintro e W' ⟨A, n, c, es, rfl, hy, hs, hk⟩
  exact ⟨A, n, c, es, rfl, hy, hs.swap, hk⟩
theorem upTo_eq {n m : Nat} (h : UpTo t L n) (k : UpTo t L m) : n = m := by
  rcases Nat.lt_trichotomy n m with h1 | h1 | h1
  · have := h.no (by have := k.le; omega)
    have := k.all n h1
    omega
  · exact h1
  · have := k.no (by have := h.le; omega)
    have := h.all m h1
    omega
theorem getD_drop (L : List En) (n j : Nat) : (L.drop n).getD j default = L.getD (n + j) default := by
  rw [List.getD_eq_getElem?_getD, List.getD_eq_getElem?_getD, List.getElem?_drop]
theorem upTo_add {s : Int} {n m : Nat} (hst : s ≤ t) (h : UpTo s L n) (k : UpTo t (L.drop n) m) : UpTo t L (n + m) := by
  have hl := k.le
  rw [List.length_drop] at hl
  have hln := h.le
  refine ⟨by omega, fun j hj => ?_, fun hj => ?_⟩
  · rcases Nat.lt_or_ge j n with h1 | h1
    · have := h.all j h1; omega
    · have := k.all (j - n) (by omega)
      rwa [getD_drop, show n + (j - n) = j by omega] at this
  · have := k.no (by rw [List.length_drop]; omega)
    rwa [getD_drop] at this
theorem evs_add (n m : Nat) : evs L n ++ evs (L.drop n) m = evs L (n + m) := by
  unfold evs
  rw [← List.map_append, ← List.take_add]
end
section
variable {w0 W : World} {Q : World → Prop} {a nx b ny n c : Nat} {L M : List En} {A : Option Addr} {es : List Ev}
theorem copy_h (h : HoldQ (fun F V => AgF F a nx L V) w0 Q W) (hl : L.length ≤ 1000000) : Calls Try.prog 18 #[.pointer (some ⟨a, 0, none⟩)] W fun e W' => ∃ b, e = .returned (.pointer (some ⟨b, 0, none⟩)) ∧ HoldQ (fun F V => Ag2 F a nx L b nx L V) w0 Q W' :=
  copy_q (show AgQ w0 a nx L Q W from h) hl
theorem HoldR.one {St : (Nat → Prop) → World → Prop} (h : HoldR St w0 Q A n c es W) : ∃ F, St F W := by
  obtain ⟨F, h1, _⟩ := h
  exact ⟨_, h1⟩
theorem first_r2 (h : HoldR (fun F V => Ag2 F a nx L b ny M V) w0 Q A n c es W) : Calls Try.prog 11 #[.pointer (some ⟨a, 0, none⟩)] W fun e W' => e = .returned (headOf L) ∧ Below W.heap.size W W' := by
  obtain ⟨F, h⟩ := h.one
  exact first_f h.fst
theorem len_r2 (h : HoldR (fun F V => Ag2 F a nx L b ny M V) w0 Q A n c es W) : Calls Try.prog 14 #[.pointer (some ⟨a, 0, none⟩)] W fun e W' => e = .returned (.int .i64 (L.length : Int)) ∧ Below W.heap.size W W' := by
  obtain ⟨F, h⟩ := h.one
  exact len_f h.fst
theorem HoldR.swap2 (h : HoldR (fun F V => Ag2 F a nx L b ny M V) w0 Q A n c es W) : HoldR (fun F V => Ag2 F b ny M a nx L V) w0 Q A n c es W := by
  obtain ⟨F, h1, h2⟩ := h
  exact ⟨F, h1.swap, h2⟩
theorem HoldQ.swap2 (h : HoldQ (fun F V => Ag2 F a nx L b ny M V) w0 Q W) : HoldQ (fun F V => Ag2 F b ny M a nx L V) w0 Q W := by
  obtain ⟨F, h1, h2⟩ := h
  exact ⟨F, h1.swap, h2⟩
theorem until_h2 {t : Int} (h : HoldQ (fun F V => Ag2 F a nx L b ny M V) w0 Q W) (hl : L.length ≤ 1000000) : Calls Try.prog 20 #[.pointer (some ⟨a, 0, none⟩), .int .i64 t] W fun e W' =>
    ∃ B m d, e = .returned (.slice B m d) ∧ UpTo t L m ∧ HoldR (fun F V => Ag2 F a nx (L.drop m) b ny M V) w0 Q B m d (evs L m) W' := by
  refine (h.rowed (fun G hB hG => until2_rowed hl G W hB hG)).mono ?_
  rintro e W' ⟨B, m, d, fs, rfl, ⟨hup, rfl⟩, hr⟩
  rw [evs_length hup.le] at hr
  exact ⟨B, m, d, rfl, hup, hr⟩
theorem until_r2 {t : Int} (h : HoldR (fun F V => Ag2 F a nx L b ny M V) w0 Q A n c es W) (hl : L.length ≤ 1000000) : Calls Try.prog 20 #[.pointer (some ⟨a, 0, none⟩), .int .i64 t] W fun e W' =>
    ∃ B m d, e = .returned (.slice B m d) ∧ UpTo t L m ∧ HoldR (fun F V => Ag2 F a nx (L.drop m) b ny M V) w0 (fun V => Q V ∧ RowV V B m d (evs L m)) A n c es W' := by
  refine (h.rowed (fun G hB hG => until2_rowed hl G W hB hG)).mono ?_
  rintro e W' ⟨B, m, d, fs, rfl, ⟨hup, rfl⟩, hr⟩
  rw [evs_length hup.le] at hr
  exact ⟨B, m, d, rfl, hup, hr⟩
theorem all_r2 (h : HoldR (fun F V => Ag2 F a nx L b ny M V) w0 Q A n c es W) (hl : L.length ≤ 1000000) : Calls Try.prog 13 #[.pointer (some ⟨a, 0, none⟩)] W fun e W' =>
    ∃ B d, e = .returned (.slice B L.length d) ∧ HoldR (fun F V => Ag2 F a nx L b ny M V) w0 (fun V => Q V ∧ RowV V B L.length d (L.map En.e)) A n c es W' := by
  refine (h.rowed (fun G _ hG => all2_rowed hl G W hG)).mono ?_
  rintro e W' ⟨B, m, d, fs, rfl, ⟨rfl, rfl⟩, hr⟩
  exact ⟨B, d, rfl, hr⟩
theorem all_h2 (h : HoldQ (fun F V => Ag2 F a nx L b ny M V) w0 Q W) (hl : L.length ≤ 1000000) : Calls Try.prog 13 #[.pointer (some ⟨a, 0, none⟩)] W fun e W' =>
    ∃ B d, e = .returned (.slice B L.length d) ∧ HoldR (fun F V => Ag2 F a nx L b ny M V) w0 Q B L.length d (L.map En.e) W' := by
  refine (h.rowed (fun G _ hG => all2_rowed hl G W hG)).mono ?_
  rintro e W' ⟨B, m, d, fs, rfl, ⟨rfl, rfl⟩, hr⟩
  exact ⟨B, d, rfl, hr⟩
theorem until_h {t : Int} (h : HoldQ (fun F V => AgF F a nx L V) w0 Q W) (hl : L.length ≤ 1000000) : Calls Try.prog 20 #[.pointer (some ⟨a, 0, none⟩), .int .i64 t] W fun e W' =>
    ∃ B m d, e = .returned (.slice B m d) ∧ UpTo t L m ∧ HoldR (fun F V => AgF F a nx (L.drop m) V) w0 Q B m d (evs L m) W' := by
  refine (h.rowed (fun G hB hG => until_rowed hl G W hB hG)).mono ?_
  rintro e W' ⟨B, m, d, fs, rfl, ⟨hup, rfl⟩, hr⟩
  rw [evs_length hup.le] at hr
  exact ⟨B, m, d, rfl, hup, hr⟩
theorem all_h (h : HoldQ (fun F V => AgF F a nx L V) w0 Q W) (hl : L.length ≤ 1000000) : Calls Try.prog 13 #[.pointer (some ⟨a, 0, none⟩)] W fun e W' =>
    ∃ B d, e = .returned (.slice B L.length d) ∧ HoldR (fun F V => AgF F a nx L V) w0 Q B L.length d (L.map En.e) W' := by
  refine (h.rowed (fun G _ hG => all_rowed hl G W hG)).mono ?_
  rintro e W' ⟨B, m, d, fs, rfl, ⟨rfl, rfl⟩, hr⟩
  exact ⟨B, d, rfl, hr⟩
end
end Go.Proofs.Ytchfponnajednaa
