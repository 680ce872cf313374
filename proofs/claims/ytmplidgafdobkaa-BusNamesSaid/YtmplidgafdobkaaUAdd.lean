/- A copy of bytes, and a sending put behind the others: contracts. No condition. -/
import Derived.Test.YtmplidgafdobkaaUSprL
import Derived.Deep.RegionLaw
import Derived.Deep.DrawnRows
namespace Go.Proofs.Ytmplidgafdobkaa
open Go.RowKit Go.Shelf

theorem i_u8 : (Try.prog.info? 5).map (fun i => (i.zero, i.size, i.bytes)) = some (some (.int .u8 0), 1, 1) := by kernel_rfl
theorem i_sd : (Try.prog.info? 78).map (fun i => (i.zero, i.size, i.bytes)) = some (some (.agg #[.int .i64 0, .int .i64 0, .slice none 0 0, .slice none 0 0, .slice none 0 0]), 5, 88) := by kernel_rfl
theorem bv_flat (l : List UInt8) : bv l = l.flatMap u8C := by
  induction l with
  | nil => rfl
  | cons b l ih => simp only [bv, List.map_cons, List.flatMap_cons, u8C, List.cons_append, List.nil_append] at ih ⊢; rw [ih]
theorem src_of {w : World} {s : Sl} {l : List UInt8} (h : RSrc u8C 1 w s l) : Src w s.A s.n l :=
  ⟨h.len, fun h0 => by
    obtain ⟨g, o, e, hc⟩ := h.at_ h0
    refine ⟨g, o, e, fun i hi => ?_⟩
    have := hc i _ (List.getElem?_eq_getElem hi) 0 _ rfl
    rw [Nat.mul_one, Nat.add_zero] at this
    exact this⟩
theorem clone_src (A : Option Addr) (m c : Nat) (l : List UInt8) (w : World) (h : Src w A m l) (hA : A = none → c = 0) (hm : m ≤ 549755813888) :
    Calls Try.prog 31 #[.slice A m c] w fun e w' => ∃ v, e = .returned v ∧ w'.ownsRow w.heap.size 5 1 v m (bv l) ∧ Below w.heap.size w w' := by
  obtain ⟨i0, hi, hz0, hz1, hz2⟩ := info_parts i_u8
  cases A with
  | none =>
    obtain rfl := hA rfl
    have hm0 : m = 0 := by
      rcases Nat.eq_zero_or_pos m with h0 | h0
      · exact h0
      · obtain ⟨b, o, hb, _⟩ := h.2 h0
        cases hb
    subst hm0
    have hl : l = [] := List.eq_nil_of_length_eq_zero h.1
    subst hl
    have hq := fun (W : World) => Lib.run_eql_slice_nil (P := Try.prog) W 33 5 none 0 0 0 0 Try.underlying33
    go_enter Try.func31, Try.ntmps31
    go_wp2
    go_ret
    exact ⟨_, rfl, World.ownsRow_nil _ _ _ _, Below.refl _ _⟩
  | some ad =>
    have hq := fun (W : World) => Lib.run_eql_slice_nil (P := Try.prog) W 33 5 (some ad) m c 0 0 Try.underlying33
    go_enter Try.func31, Try.ntmps31
    have hb : Below w.heap.size w (w.alloc (.cells #[] 5)) := (Below.refl _ _).alloc (Nat.le_refl _) _
    go_wp2_with (at_builtin; refine wpList_append_src _ rfl (.tmp 5) (.tmp 6) _ rfl w.heap.size 5 i0 Try.underlying33 hi hz0 hz1 hz2 (.slice (some ⟨w.heap.size, 0, none⟩) 0 0) 0 [] rfl (World.ownsRow_made w #[] 0 (Nat.le_refl _) (by simp [maxLen]) rfl) (some ad) m c l rfl (h.below hb) (by omega) (by simp) ?_; intro v w1 h1 h2 h3)
    go_ret
    refine ⟨v, rfl, by simpa using h1, hb.grown h2 (by simp) (fun k hk => ?_)⟩
    simp [Value.ownBlock] at hk
    omega

/-- A copy is the same, in new memory. -/
theorem clone_raw (w : World) (s : Sl) (l : List UInt8) (h : RSrc u8C 1 w s l) (hm : s.n ≤ 1000000) :
    Calls Try.prog 31 #[s.v] w fun e w' => ∃ r : Sl, e = .returned r.v ∧ RSrc u8C 1 w' r l ∧ (∀ ad, r.A = some ad → w.heap.size ≤ ad.block) ∧ Below w.heap.size w w' := by
  have hl := h.len
  refine (clone_src s.A s.n s.c l w (src_of h) h.no (by omega)).mono ?_
  rintro e w' ⟨v, rfl, hown, hb⟩
  rw [bv_flat] at hown
  obtain ⟨r, rfl, hr, he⟩ := rsrc_of_own (cells := u8C) (fun _ => rfl) hl.symm hown
  refine ⟨r, rfl, hr, fun ad e => ?_, hb⟩
  rw [e] at he
  exact (own_typed hown he.symm).1
/-- append onto a row of the call's own, or onto nil: at a step of a region that draws its order. -/
theorem step_append_row {P : Program} {ops : Array Oper} {o : Oper} {a : Act} {w : World} {K : Act → World → Prop} {Q : Exit → Act → World → Prop} {E : Prop} (hgd : o.guard = none) (s x : Operand) (t : TypeId)
    (ho : o.op = .call { callee := .builtin .append, args := #[s, x], argTypes := #[t, t] })
    (base : Nat) (e : TypeId) (i : TypeInfo) (z : Value) (size bytes : Nat) (ht : P.underlying t = some (.slice e)) (hi : P.info? e = some i) (hz : i.zero = some z)
    (hsize : i.size = size) (hby : i.bytes = bytes) (hzs : z.cells.size = size) (hsz : 0 < size)
    (v : Value) (n : Nat) (xs : List Value) (hs : a.eval s = v) (hown : w.ownsRow base e size v n xs)
    (ad : Addr) (m c : Nat) (news : List Value) (hx : a.eval x = .slice (some ad) m c) (hl : news.length = m * size) (hnews : ∀ j u, news[j]? = some u → w.cell? (ad.add j) = some u) (h1 : ∀ u ∈ news, u.oneCell' = true)
    (h63 : n + m ≤ maxLen) (hbytes : (n + m) * bytes ≤ 140737488355328) (hbase : base ≤ w.heap.size)
    (h : ∀ v' w', w'.ownsRow base e size v' (n + m) (xs ++ news) → w.grownBy w' v.ownBlock → (v'.ownBlock = v.ownBlock ∨ v'.ownBlock = some w.heap.size) → K (a.put o.dst v') w') :
    if Region.wanted o (yielded ops a.tmps) = true then Oper.wp P o a w K Q else E := by
  have hw : Region.wanted o (yielded ops a.tmps) = true := by simp [Region.wanted, hgd]
  rw [if_pos hw]
  obtain ⟨v', w', hr, h2, h3, _, h5⟩ := run_append_own_at (P := P) w base t o.type e i z size bytes ht hi hz hsize hby hzs hsz v n xs hown ad m c news hl hnews h1 h63 hbytes hbase
  unfold Oper.wp execOp
  simp only [ho, resolve, invoke, builtin, Sem.run_bind, Sem.run_pure, Result.andThen_ok, List.map_toArray, List.map_cons, List.map_nil, hs, hx, hr]
  exact h v' w' h2 h3 h5
end Go.Proofs.Ytmplidgafdobkaa
