/- Words that midpoint's laws share: append of numbers, is, alive, some. No condition. -/
import Derived.Test.YteljalgfkmnamaaZRefT
namespace Go.Proofs.Yteljalgfkmnamaa
open Go.RowKit Go.Shelf

/-- append onto a row of one's own, of whatever slice that reads as numbers. -/
theorem run_append_ints {P : Program} (w : World) (base : Nat) (t ty e : TypeId) (i : TypeInfo) (ht : P.underlying t = some (.slice e)) (hi : P.info? e = some i) (hz : i.zero = some (.int .i64 0))
    (hsize : i.size = 1) (hby : i.bytes = 8) (v : Value) (n : Nat) (xs : List Value) (hown : w.ownsRow base e 1 v n xs)
    (s : Sl) (l : List Int) (hr : RSrc inC 1 w s l) (hlen : n + s.n ≤ 17592186044416) (hbase : base ≤ w.heap.size) :
    ∃ v' w', (Builtin.append_ #[t, t] ty #[v, s.v]).run P w = .ok v' w' ∧ w'.ownsRow base e 1 v' (n + s.n) (xs ++ l.flatMap inC) ∧ w.grownBy w' v.ownBlock ∧
      (v'.ownBlock = v.ownBlock ∨ v'.ownBlock = some w.heap.size) := by
  have hl := hr.len
  obtain ⟨A, m, c⟩ := s
  unfold Sl.v
  dsimp only at *
  cases A with
  | none =>
    have hc := hr.no rfl
    have hcap := hr.cap
    dsimp only at hc hcap
    obtain rfl : m = 0 := by omega
    obtain rfl : l = [] := List.eq_nil_of_length_eq_zero hl
    subst hc
    refine ⟨v, w, ?_, by simpa using hown, World.grownBy.refl w _, .inl rfl⟩
    rcases hown.2 with ⟨rfl, rfl⟩ | ⟨g, cap, cur, rfl, _, _, hnc, _⟩
    · simp [Builtin.append_, run_underlying ht, sizeOf, typeInfo, hi, Builtin.lenOf, Builtin.firstCells]
    · simp [Builtin.append_, run_underlying ht, sizeOf, typeInfo, hi, Builtin.lenOf, Builtin.firstCells, hnc, storeCells]
  | some ad =>
    have hc : ∀ j u, (l.flatMap inC)[j]? = some u → w.cell? (ad.add j) = some u := rsrc_news (cells := inC) (fun _ => rfl) (by decide) hr rfl
    obtain ⟨v', w', hrun, h3, h4, _, h6⟩ := run_append_own_at (P := P) w base t ty e i (.int .i64 0) 1 8 ht hi hz hsize hby rfl (by decide) v n xs hown ad m c (l.flatMap inC) (by rw [flat_len (cells := inC) (k := 1) (fun _ => rfl), hl]) hc (flat_one inC_ones l) (by simp only [maxLen]; omega) (by omega) hbase
    exact ⟨v', w', hrun, h3, h4, h6⟩

theorem wpList_append_ints {P : Program} (w : World) {ops : Array Oper} {rest : List Oper} {o : Oper} {a : Act} {Q : Exit → Act → World → Prop} (hgd : o.guard = none) (s x : Operand) (t : TypeId)
    (ho : o.op = .call { callee := .builtin .append, args := #[s, x], argTypes := #[t, t] })
    (base : Nat) (e : TypeId) (i : TypeInfo) (ht : P.underlying t = some (.slice e)) (hi : P.info? e = some i) (hz : i.zero = some (.int .i64 0)) (hsize : i.size = 1) (hby : i.bytes = 8)
    (v : Value) (n : Nat) (xs : List Value) (hs : a.eval s = v) (hown : w.ownsRow base e 1 v n xs)
    (sl : Sl) (l : List Int) (hx : a.eval x = sl.v) (hr : RSrc inC 1 w sl l) (hlen : n + sl.n ≤ 17592186044416) (hbase : base ≤ w.heap.size)
    (h : ∀ v' w', w'.ownsRow base e 1 v' (n + sl.n) (xs ++ l.flatMap inC) → w.grownBy w' v.ownBlock → (v'.ownBlock = v.ownBlock ∨ v'.ownBlock = some w.heap.size) → wpList P ops Q rest (a.put o.dst v') w') : wpList P ops Q (o :: rest) a w :=
  wpList_plain hgd fun _ hK => by
    obtain ⟨v', w', hrun, h2, h3, h4⟩ := run_append_ints (P := P) w base t o.type e i ht hi hz hsize hby v n xs hown sl l hr hlen hbase
    unfold Oper.wp execOp
    simp only [ho, resolve, invoke, builtin, Sem.run_bind, Sem.run_pure, Result.andThen_ok, List.map_toArray, List.map_cons, List.map_nil, hs, hx, hrun]
    exact hK _ _ (h v' w' h2 h3 h4)

/-- A row literal without elements is a row of one's own. -/
theorem own_lit0 (w : World) (t : TypeId) : (w.alloc (.cells #[] t)).ownsRow w.heap.size t 1 (.slice (some ⟨w.heap.size, 0, none⟩) 0 0) 0 [] :=
  ⟨rfl, .inr ⟨w.heap.size, 0, #[], rfl, Nat.le_refl _, heap_alloc_new w _, Nat.le_refl _, by simp only [maxLen]; omega, rfl, rfl⟩⟩

/-- What is told of written numbers. -/
theorem told_lit {fs : List Int} {k : Nat} {a b : Int} (hk : 2 * k + 1 ≤ fs.length) (hv : okV fs = true) (ha : Spot fs k a) (hb : Spot fs (fs.length - 1 - k) b) :
    errT fs (k : Int) = 0 ∧ midT fs (k : Int) = (a + b) / 2 ∧ sprT fs (k : Int) = b - a := by
  have hok : okM fs (k : Int) = true := by unfold okM; rw [hv, okN_iff.2 ⟨k, rfl, hk⟩]; rfl
  have h1 : loT fs (k : Int) = a := by unfold loT loM; rw [if_pos hok, Int.toNat_natCast]; exact srt_spot (by omega) ha
  have h2 : hiT fs (k : Int) = b := by unfold hiT hiM; rw [if_pos hok, Int.toNat_natCast]; exact srt_spot (by omega) hb
  rw [(midT_is _ _).1, (midT_is _ _).2, h1, h2]
  exact ⟨errT_ok hok, rfl, rfl⟩
/-- The law's numbers. -/
def someL (l : List Int) : List Int := l.map fun x => x.tmod 2147483648
theorem some_ok (x : Int) : -2147483648 < x.tmod 2147483648 ∧ x.tmod 2147483648 < 2147483648 :=
  ⟨Int.lt_tmod_of_pos x (by decide), Int.tmod_lt_of_pos x (by decide)⟩
theorem someL_ok (l : List Int) : ∀ x ∈ someL l, -2147483648 < x ∧ x < 2147483648 := by
  intro x hx
  unfold someL at hx
  obtain ⟨y, _, rfl⟩ := List.mem_map.1 hx
  exact some_ok y
theorem someL_len (l : List Int) : (someL l).length = l.length := List.length_map _
theorem take_flat {L : List Int} {j : Nat} {x : Int} (hx : x = L.getD j 0) (hj : j < L.length) : (L.take (j + 1)).flatMap inC = (L.take j).flatMap inC ++ inC x := by
  rw [hx, List.take_add_one, List.flatMap_append, List.getElem?_eq_getElem hj, getD_lt hj]
  simp
theorem someL_at {l : List Int} {i : Nat} (h : i < l.length) : (someL l).getD i 0 = (l.getD i 0).tmod 2147483648 := by
  rw [getD_lt (by rw [someL_len]; exact h), getD_lt h]
  unfold someL
  rw [List.getElem_map]

end Go.Proofs.Yteljalgfkmnamaa
