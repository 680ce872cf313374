/- GroupForms, its walk. -/
import Derived.Test.YtnefjkbnolbpbaaGParseR
import Derived.Test.YtnefjkbnolbpbaaGAsks
namespace Go.Proofs.Ytnefjkbnolbpbaa
open Go.RowKit

theorem iv_one {l : List Int} : ∀ u ∈ iv l, u.oneCell' = true := by
  intro u hu
  obtain ⟨b, _, rfl⟩ := List.mem_map.1 hu
  rfl
/-- append onto a row of the call's own, of whatever source that reads as numbers. -/
theorem run_append_isrc {P : Program} (w : World) (base : Nat) (t ty e : TypeId) (i : TypeInfo) (ht : P.underlying t = some (.slice e)) (hi : P.info? e = some i) (hz : i.zero = some (.int .i64 0))
    (hsize : i.size = 1) (hby : i.bytes = 8) (v : Value) (n : Nat) (xs : List Value) (hown : w.ownsRow base e 1 v n xs)
    (A : Option Addr) (c : Nat) (l : List Int) (hr : ISrc w A l) (hlen : n + l.length ≤ 1099511627776) (hbase : base ≤ w.heap.size) :
    ∃ v' w', (Builtin.append_ #[t, t] ty #[v, .slice A l.length c]).run P w = .ok v' w' ∧ w'.ownsRow base e 1 v' (n + l.length) (xs ++ iv l) ∧ w.grownBy w' v.ownBlock := by
  by_cases h0 : l = [] ∧ A = none
  · obtain ⟨rfl, rfl⟩ := h0
    refine ⟨v, w, ?_, by simpa [iv] using hown, World.grownBy.refl w _⟩
    rcases hown.2 with ⟨rfl, rfl⟩ | ⟨g, cap, cur, rfl, _, _, hnc, _⟩
    · simp [Builtin.append_, run_underlying ht, sizeOf, typeInfo, hi, Builtin.lenOf, Builtin.firstCells]
    · simp [Builtin.append_, run_underlying ht, sizeOf, typeInfo, hi, Builtin.lenOf, Builtin.firstCells, hnc, storeCells]
  · obtain ⟨ad, rfl, hc⟩ : ∃ ad, A = some ad ∧ ∀ j u, (iv l)[j]? = some u → w.cell? (ad.add j) = some u := by
      rcases Nat.eq_zero_or_pos l.length with hl | hl
      · obtain rfl : l = [] := List.eq_nil_of_length_eq_zero hl
        cases A with
        | none => exact absurd ⟨rfl, rfl⟩ h0
        | some ad => exact ⟨ad, rfl, fun j u hu => by simp [iv] at hu⟩
      · obtain ⟨b, o, rfl, hc⟩ := hr hl
        refine ⟨_, rfl, fun j u hu => ?_⟩
        have hj : j < l.length := by
          have := (List.getElem?_eq_some_iff.1 hu).1
          simpa [iv] using this
        have hadd : (⟨b, o, none⟩ : Addr).add j = ⟨b, o + j, none⟩ := by unfold Addr.add; split <;> simp_all
        rw [hadd, hc j hj]
        simp [iv, List.getElem?_eq_getElem hj] at hu
        rw [hu]
    obtain ⟨v', w', hrun, h3, h4, _⟩ := run_append_own (P := P) (w := w) base t ty e i (.int .i64 0) 1 8 ht hi hz hsize hby rfl (by decide) v n xs hown ad l.length c (iv l) (by rw [iv_length, Nat.mul_one]) hc iv_one (by simp only [maxLen]; omega) (by omega) hbase
    exact ⟨v', w', hrun, h3, h4⟩

theorem wpList_append_isrc {P : Program} (w : World) {ops : Array Oper} {rest : List Oper} {o : Oper} {a : Act} {Q : Exit → Act → World → Prop} (hgd : o.guard = none) (s x : Operand) (t : TypeId)
    (ho : o.op = .call { callee := .builtin .append, args := #[s, x], argTypes := #[t, t] })
    (base : Nat) (e : TypeId) (i : TypeInfo) (ht : P.underlying t = some (.slice e)) (hi : P.info? e = some i) (hz : i.zero = some (.int .i64 0)) (hsize : i.size = 1) (hby : i.bytes = 8)
    (v : Value) (n : Nat) (xs : List Value) (hs : a.eval s = v) (hown : w.ownsRow base e 1 v n xs)
    (A : Option Addr) (c : Nat) (l : List Int) (hx : a.eval x = .slice A l.length c) (hr : ISrc w A l) (hlen : n + l.length ≤ 1099511627776) (hbase : base ≤ w.heap.size)
    (h : ∀ v' w', w'.ownsRow base e 1 v' (n + l.length) (xs ++ iv l) → w.grownBy w' v.ownBlock → wpList P ops Q rest (a.put o.dst v') w') : wpList P ops Q (o :: rest) a w :=
  wpList_plain hgd fun _ hK => by
    obtain ⟨v', w', hrun, h2, h3⟩ := run_append_isrc (P := P) w base t o.type e i ht hi hz hsize hby v n xs hown A c l hr hlen hbase
    unfold Oper.wp execOp
    simp only [ho, resolve, invoke, builtin, Sem.run_bind, Sem.run_pure, Result.andThen_ok, List.map_toArray, List.map_cons, List.map_nil, hs, hx, hrun]
    exact hK _ _ (h v' w' h2 h3)

set_option maxRecDepth 100000 in
set_option maxHeartbeats 4000000 in
theorem forms_main (g : Nat) (A : Option Addr) (c : Nat) (l : List Int) (s : ByteArray) (w : World) (hg : g < 65536) (hsrc : ISrc w A l) (hl : l.length ≤ 50) (hs : s.size ≤ 100) :
    Calls Try.prog 4 #[.int .u16 (g : Int), .slice A l.length c, .string s] w fun e w' => e = .returned (.bool true) ∧ Below w.heap.size w w' := by
  obtain ⟨i0, hi, hz0, hz1, hz2⟩ := info_parts int_info
  have OF := fun W A c h => of_any A c l W h (by omega)
  have RO := fun W A c h => refOf_any A c l W h (by omega)
  have PA := fun W => parse_any s W
  have RP := fun W => refParse_any s W (by omega)
  have TX := fun W => text_any g W hg
  have RT := fun W => refText_any g W hg
  generalize textG g = tx at *
  generalize htx : (⟨tx.toArray⟩ : ByteArray) = t at *
  have HOF := Lib.hid OF; have HRO := Lib.hid RO; have HPA := Lib.hid PA; have HRP := Lib.hid RP; have HTX := Lib.hid TX; have HRT := Lib.hid RT
  have HEq := Lib.hid htx
  clear OF RO PA RP TX RT htx
  go_enter Try.func4, Try.ntmps4
  have hb0 : Below w.heap.size w (w.alloc (.cells #[] 3)) := (Below.refl _ _).alloc (Nat.le_refl _) _
  go_wp2_with (at_builtin; refine wpList_append_isrc _ rfl (.tmp 24) (.tmp 25) _ rfl w.heap.size 3 i0 Try.underlying24 hi hz0 hz1 hz2 (.slice (some ⟨w.heap.size, 0, none⟩) 0 0) 0 [] rfl (World.ownsRow_made w #[] 0 (Nat.le_refl _) (by simp [maxLen]) rfl) A c l rfl (hsrc.below hb0) (by omega) (by simp) ?_; intro v w1 h1 h2)
  have h3 : w1.ownsRow w.heap.size 3 1 v l.length (iv l) := by simpa using h1
  obtain ⟨A1, c1, rfl, hs1⟩ := own_isrc rfl h3
  have hb1 : Below w.heap.size w w1 := hb0.grown h2 (by simp) (fun k hk => by
    simp [Value.ownBlock] at hk
    omega)
  have hs2 := hsrc.below hb1
  clear h1 h2 h3 hb0 hsrc
  refine (HOF.out _ _ _ hs1).mono ?_
  rintro e w' ⟨rfl, rfl⟩
  go_wp2_with fail
  refine (HRO.out _ _ _ hs2).mono ?_
  rintro e w' ⟨rfl, rfl⟩
  go_wp2_with fail
  refine (HPA.out _).mono ?_
  rintro e w2 ⟨rfl, b2⟩
  have hs3 := hs1.below b2
  have hs4 := hs2.below b2
  have hb2 := hb1.trans (b2.mono hb1.size)
  clear hs1 hs2 hb1 b2
  go_wp2_with fail
  refine (HRP.out _).mono ?_
  rintro e w3 ⟨rfl, b3⟩
  have hs5 := hs3.below b3
  have hs6 := hs4.below b3
  have hb3 := hb2.trans (b3.mono hb2.size)
  clear hs3 hs4 hb2 b3
  go_wp2_with fail
  refine (HTX.out _).mono ?_
  rintro e w4 ⟨rfl, b4⟩
  have hs7 := hs5.below b4
  have hs8 := hs6.below b4
  have hb4 := hb3.trans (b4.mono hb3.size)
  clear hs5 hs6 hb3 b4
  rw [HEq.out]
  go_wp2_with fail
  refine (HRT.out _).mono ?_
  rintro e w5 ⟨rfl, b5⟩
  have hs9 := hs7.below b5
  have hs10 := hs8.below b5
  have hb5 := hb4.trans (b5.mono hb4.size)
  clear hs7 hs8 hb4 b5
  rw [HEq.out]
  go_wp2_with fail
  refine (ints_b _ _ _ _ l _ hs9 hs10 (by omega)).mono ?_
  rintro e w6 ⟨rfl, b6⟩
  have hb6 := hb5.trans (b6.mono hb5.size)
  go_wp2_with fail
  go_ret
  exact ⟨rfl, hb6⟩

theorem forms_walk (g : Nat) (A : Option Addr) (c : Nat) (l : List Int) (s : ByteArray) (w : World) (hg : g < 65536) (hsrc : ISrc w A l) (hl : l.length ≤ 9223372036854775807) (hs : s.size ≤ 9223372036854775807) :
    Calls Try.prog 4 #[.int .u16 (g : Int), .slice A l.length c, .string s] w fun e w' => e = .returned (.bool true) ∧ Below w.heap.size w w' := by
  by_cases h1 : 50 < l.length
  · clear hsrc
    go_enter Try.func4, Try.ntmps4
    go_wp2_with fail
    go_ret
    exact ⟨rfl, Below.refl _ _⟩
  · by_cases h2 : 100 < s.size
    · have h3 : decide (50 < l.length) = false := decide_eq_false h1
      have h4 : decide ((50 : Int) < (l.length : Int)) = false := decide_eq_false (by omega)
      clear hsrc
      go_enter Try.func4, Try.ntmps4
      go_wp2_with fail
      go_ret
      exact ⟨rfl, Below.refl _ _⟩
    · exact forms_main g A c l s w hg hsrc (by omega) (by omega)

end Go.Proofs.Ytnefjkbnolbpbaa
