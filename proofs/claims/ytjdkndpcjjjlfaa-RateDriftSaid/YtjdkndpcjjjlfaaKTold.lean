/- What a dial tells of a number, if no doubt is right: of at with one doubt, of first with none. No condition but the dial's own. -/
import Derived.Test.YtjdkndpcjjjlfaaKAt
namespace Go.Proofs.Ytjdkndpcjjjlfaa
open Go.RowKit Go.Shelf

theorem doubt_info : (Try.prog.info? 48).map (fun i => (i.zero, i.size, i.bytes)) = some (some .nilFunc, 1, 8) := by kernel_rfl

theorem run_append_empty {P : Program} (w : World) (base : Nat) (t ty e : TypeId) (i : TypeInfo) (size : Nat) (ht : P.underlying t = some (.slice e)) (hi : P.info? e = some i)
    (v : Value) (n : Nat) (xs : List Value) (hown : w.ownsRow base e size v n xs) (c : Nat) : (Builtin.append_ #[t, t] ty #[v, .slice none 0 c]).run P w = .ok v w := by
  rcases hown.2 with ⟨rfl, rfl⟩ | ⟨g, cap, cur, rfl, _, _, hnc, _⟩
  · simp [Builtin.append_, run_underlying ht, sizeOf, typeInfo, hi, Builtin.lenOf, Builtin.firstCells]
  · simp [Builtin.append_, run_underlying ht, sizeOf, typeInfo, hi, Builtin.lenOf, Builtin.firstCells, hnc, storeCells]

theorem wpList_append_empty {P : Program} (w : World) {ops : Array Oper} {rest : List Oper} {o : Oper} {a : Act} {Q : Exit → Act → World → Prop} (hgd : o.guard = none) (s x : Operand) (t : TypeId)
    (ho : o.op = .call { callee := .builtin .append, args := #[s, x], argTypes := #[t, t] })
    (base : Nat) (e : TypeId) (i : TypeInfo) (size : Nat) (ht : P.underlying t = some (.slice e)) (hi : P.info? e = some i)
    (v : Value) (n : Nat) (xs : List Value) (hs : a.eval s = v) (hown : w.ownsRow base e size v n xs) (c : Nat) (hx : a.eval x = .slice none 0 c)
    (h : wpList P ops Q rest (a.put o.dst v) w) : wpList P ops Q (o :: rest) a w :=
  wpList_plain hgd fun _ hK => by
    have hrun := run_append_empty (P := P) w base t o.type e i size ht hi v n xs hown c
    unfold Oper.wp execOp
    simp only [ho, resolve, invoke, builtin, Sem.run_bind, Sem.run_pure, Result.andThen_ok, List.map_toArray, List.map_cons, List.map_nil, hs, hx, hrun]
    exact hK _ _ h

def toldV (b : Bool) (v : Int) : Int := if b then v else 0
def toldE (b : Bool) : Int := if b then 0 else 60
def toldT (b : Bool) (v : Int) : Value := .tuple #[.int .i64 (toldV b v), .int .i64 (toldE b)]

theorem one_row (w : World) (v : Value) : (w.alloc (.cells #[v] 48)).ownsRow w.heap.size 48 1 (.slice (some ⟨w.heap.size, 0, none⟩) 1 1) 1 [v] :=
  World.ownsRow_lit w #[v] 1 (Nat.le_refl _) (by simp [maxLen]) rfl

set_option maxHeartbeats 400000 in
theorem told0_any (n d o j r : Int) (w : World) (h2 : okK n d o j = true → r - j ≤ 8589934592) :
    Calls Try.prog 24 #[.func (.func 27) #[] #[], .agg #[.int .i64 n, .int .i64 d, .int .i64 o, .int .i64 j], .int .i64 r, .slice none 0 0] w fun e w' => e = .returned (toldT (okK n d o j) (firstV n d o j r)) ∧ Below w.heap.size w w' := by
  obtain ⟨i0, hi0, _, _, _⟩ := info_parts doubt_info
  have hb : Below w.heap.size w (w.alloc (.cells #[.int .i64 n, .int .i64 d, .int .i64 o, .int .i64 j] 25)) := (Below.refl _ _).alloc (Nat.le_refl _) _
  have hW1 := Whole.new w 25 #[.int .i64 n, .int .i64 d, .int .i64 o, .int .i64 j]
  have HF := Lib.hid (fun (h : okK n d o j = true) W => first_any' n d o j r W h (h2 h))
  clear h2
  generalize firstV n d o j r = fv at *
  go_enter Try.func24, Try.ntmps24
  go_wp2_with fail
  refine (noClock_any n d o j _).mono ?_
  rintro e wA ⟨vA, rfl, dA, bA⟩
  obtain ⟨fA, qA, hA⟩ := dA.open
  subst hA
  have kA := k_then bA hb
  have hA1 := k_later bA hW1
  clear hb hW1 bA
  go_wp2_with (at_builtin; refine wpList_append_empty _ rfl _ _ _ rfl wA.heap.size 48 i0 1 Try.underlying52 hi0 _ _ _ rfl (one_row wA _) _ rfl ?_)
  refine (refused1 _ _ _ _ _ _ (Whole.new wA _ _) (dA.later ((Below.refl _ _).alloc (Nat.le_refl _) _))).mono ?_
  rintro e wC ⟨rfl, bC⟩
  have kC := k_then bC (kA.alloc kA.size _)
  have hC1 := k_later bC (hA1.alloc _)
  clear kA hA1 dA bC hi0
  obtain ⟨a0, a1, a2, a3, af⟩ := k_four hC1
  cases hk : okK n d o j
  · have HE := Lib.hid (show refE (!false) = 60 from rfl)
    rw [HE.out]
    have HT := Lib.hid (show toldT (okK n d o j) fv = toldT false fv by rw [hk])
    clear hk
    go_wp2
    go_ret2
    exact ⟨by rw [HT.out]; rfl, kC⟩
  · have HE := Lib.hid (show refE (!true) = 0 from rfl)
    rw [HE.out]
    have HG := Lib.hid (HF.out hk)
    have HT := Lib.hid (show toldT (okK n d o j) fv = toldT true fv by rw [hk])
    clear hk
    go_wp2_with (go_at_call 27; refine (HG.out _).mono ?_; rintro e wD ⟨rfl, bD⟩; have kD := k_then bD kC)
    go_ret2
    exact ⟨by rw [HT.out]; rfl, kD⟩

def readB (n d o j t : Int) : Bool := okK n d o j && !outB t o 4294967296
theorem readB_ref (n d o j t : Int) : (!okK n d o j || outB t o 4294967296) = !readB n d o j t := by
  unfold readB
  cases okK n d o j <;> simp
theorem readB_yes {n d o j t : Int} (h : readB n d o j t = true) : okK n d o j = true ∧ o ≤ t ∧ t ≤ 4294967296 := by
  simp only [readB, Bool.and_eq_true, Bool.not_eq_true'] at h
  exact ⟨h.1, outB_no h.2⟩

set_option maxHeartbeats 400000 in
theorem told1_any (n d o j t : Int) (g : Nat) (ty : TypeId) (v : Value) (w : World) (hg : Whole w g ty #[v]) (hv : Doubt Try.prog w v (outB t o 4294967296)) :
    Calls Try.prog 24 #[.func (.func 25) #[] #[], .agg #[.int .i64 n, .int .i64 d, .int .i64 o, .int .i64 j], .int .i64 t, .slice (some ⟨g, 0, none⟩) 1 1] w fun e w' => e = .returned (toldT (readB n d o j t) (atV n d o j t)) ∧ Below w.heap.size w w' := by
  obtain ⟨fv, qv, hvo⟩ := hv.open
  subst hvo
  obtain ⟨i0, hi0, hz0, hz1, hz2⟩ := info_parts doubt_info
  have hb : Below w.heap.size w (w.alloc (.cells #[.int .i64 n, .int .i64 d, .int .i64 o, .int .i64 j] 25)) := (Below.refl _ _).alloc (Nat.le_refl _) _
  have hW1 := Whole.new w 25 #[.int .i64 n, .int .i64 d, .int .i64 o, .int .i64 j]
  have HF := Lib.hid (fun (h : readB n d o j t = true) W => at_any' n d o j t W (readB_yes h).1 (readB_yes h).2.1 (readB_yes h).2.2)
  have HO := Lib.hid (readB_ref n d o j t)
  generalize atV n d o j t = av at *
  have hg1 := hg.alloc (.cells #[.int .i64 n, .int .i64 d, .int .i64 o, .int .i64 j] 25)
  have hv1 := hv.later hb
  clear hg hv
  go_enter Try.func24, Try.ntmps24
  go_wp2_with fail
  refine (noClock_any n d o j _).mono ?_
  rintro e wA ⟨vA, rfl, dA, bA⟩
  obtain ⟨fA, qA, hA⟩ := dA.open
  subst hA
  have kA := k_then bA hb
  have hA1 := k_later bA hW1
  have hA2 := k_later bA hg1
  have hv2 := hv1.later bA
  have zA := kA.size
  clear hb hW1 bA hg1 hv1
  have hN : ∀ (k : Nat) u, ([.func (.func fv) #[] qv] : List Value)[k]? = some u → (wA.alloc (.cells #[.func (.func fA) #[] qA] 48)).cell? ((⟨g, 0, none⟩ : Addr).add k) = some u := World.news_of_block (hA2.alloc _)
  have h1 : ∀ u ∈ ([.func (.func fv) #[] qv] : List Value), u.oneCell' = true := by intro u hu; simp at hu; subst hu; rfl
  have HN := Lib.hid hN
  have H1 := Lib.hid h1
  clear hN h1
  go_wp2_with (at_builtin; refine wpList_append_lies _ rfl _ _ _ rfl wA.heap.size 48 i0 _ 1 8 Try.underlying52 hi0 hz0 hz1 hz2 rfl (by omega) _ _ _ rfl (one_row wA _) ⟨g, 0, none⟩ 1 1 [.func (.func fv) #[] qv] rfl rfl HN.out H1.out (by omega) (by simp only [maxLen]; omega) (by omega) (by simp) _ rfl ?_; intro g7 cap7 w7 hown7 hgrow7 hat7 hlt7)
  have kk : Kept Empty wA w7 := ((Kept.refl Empty wA).alloc _).grown hgrow7 (fun k hk => .inr (by
    have hk2 : some wA.heap.size = some k := hk
    injection hk2 with hk3
    exact Nat.le_of_eq hk3))
  have k7 : Below wA.heap.size wA w7 := kk.below (fun _ _ h => h)
  have kW := k_then k7 kA
  have hW7 := k_later k7 hA1
  have R := refused_any [(.func (.func fA) #[] qA, !okK n d o j), (.func (.func fv) #[] qv, outB t o 4294967296)] g7 cap7 w7 (by simp)
    (fun i hi => (hown7.cellAt i (by simpa using hi)).trans (by
      have : i = 0 ∨ i = 1 := by simp at hi; omega
      rcases this with rfl | rfl <;> rfl))
    (fun x hx => by
      simp at hx
      rcases hx with rfl | rfl
      · exact dA.later k7
      · exact hv2.later k7)
  have R2 : Calls Try.prog 29 #[.slice (some ⟨g7, 0, none⟩) 2 cap7] w7 fun e w' => e = .returned (.int .i64 (refE (!okK n d o j || outB t o 4294967296))) ∧ Below w7.heap.size w7 w' := by simpa using R
  rw [HO.out] at R2
  have HR := Lib.hid R2
  clear R R2 hown7 hgrow7 hat7 kk k7 kA hA1 hA2 dA hv2 HN H1 HO hi0 hz0 hz1 hz2
  go_wp2_with fail
  refine HR.out.mono ?_
  rintro e wC ⟨rfl, bC⟩
  have kC := k_then bC kW
  have hC1 := k_later bC hW7
  obtain ⟨a0, a1, a2, a3, af⟩ := k_four hC1
  clear HR hW7
  cases hk : readB n d o j t
  · have HE := Lib.hid (show refE (!false) = 60 from rfl)
    rw [HE.out]
    have HT := Lib.hid (show toldT (readB n d o j t) av = toldT false av by rw [hk])
    clear hk
    go_wp2
    go_ret2
    exact ⟨by rw [HT.out]; rfl, kC⟩
  · have HE := Lib.hid (show refE (!true) = 0 from rfl)
    rw [HE.out]
    have HG := Lib.hid (HF.out hk)
    have HT := Lib.hid (show toldT (readB n d o j t) av = toldT true av by rw [hk])
    clear hk
    go_wp2_with (go_at_call 25; refine (HG.out _).mono ?_; rintro e wD ⟨rfl, bD⟩; have kD := k_then bD kC)
    go_ret2
    exact ⟨by rw [HT.out]; rfl, kD⟩

end Go.Proofs.Ytjdkndpcjjjlfaa
