/- Words that midpoint's laws share: append of numbers, is, alive, some. No condition. -/
import Derived.Test.YtfpkbhnlpmnegaaZRefT
namespace Go.Proofs.Ytfpkbhnlpmnegaa
open Go.RowKit Go.Shelf

/-- append onto a row of one's own, of whatever slice that reads as numbers. -/
theorem run_append_ints {P : Program} (w : World) (base : Nat) (t ty e : TypeId) (i : TypeInfo) (ht : P.underlying t = some (.slice e)) (hi : P.info? e = some i) (hz : i.zero = some (.int .i64 0))
    (hsize : i.size = 1) (hby : i.bytes = 8) (v : Value) (n : Nat) (xs : List Value) (hown : w.ownsRow base e 1 v n xs)
    (s : Sl) (l : List Int) (hr : RSrc inC 1 w s l) (hlen : n + s.n ≤ 17592186044416) (hbase : base ≤ w.heap.size) :
    ∃ v' w', (Builtin.append_ #[t, t] ty #[v, s.v]).run P w = .ok v' w' ∧ w'.ownsRow base e 1 v' (n + s.n) (xs ++ l.flatMap inC) ∧ w.grownBy w' v.ownBlock ∧
      (v'.ownBlock = v.ownBlock ∨ v'.ownBlock = some w.heap.size) := by
  have hl := hr.len
  obtain ⟨A, m, c⟩ := s
  unfold Sl.v
  dsimp only at *
  cases A with
  | none =>
    have hc := hr.no rfl
    have hcap := hr.cap
    dsimp only at hc hcap
    obtain rfl : m = 0 := by omega
    obtain rfl : l = [] := List.eq_nil_of_length_eq_zero hl
    subst hc
    refine ⟨v, w, ?_, by simpa using hown, World.grownBy.refl w _, .inl rfl⟩
    rcases hown.2 with ⟨rfl, rfl⟩ | ⟨g, cap, cur, rfl, _, _, hnc, _⟩
    · simp [Builtin.append_, run_underlying ht, sizeOf, typeInfo, hi, Builtin.lenOf, Builtin.firstCells]
    · simp [Builtin.append_, run_underlying ht, sizeOf, typeInfo, hi, Builtin.lenOf, Builtin.firstCells, hnc, storeCells]
  | some ad =>
    have hc : ∀ j u, (l.flatMap inC)[j]? = some u → w.cell? (ad.add j) = some u := rsrc_news (cells := inC) (fun _ => rfl) (by decide) hr rfl
    obtain ⟨v', w', hrun, h3, h4, _, h6⟩ := run_append_own_at (P := P) w base t ty e i (.int .i64 0) 1 8 ht hi hz hsize hby rfl (by decide) v n xs hown ad m c (l.flatMap inC) (by rw [flat_len (cells := inC) (k := 1) (fun _ => rfl), hl]) hc (flat_one inC_ones l) (by simp only [maxLen]; omega) (by omega) hbase
    exact ⟨v', w', hrun, h3, h4, h6⟩

theorem wpList_append_ints {P : Program} (w : World) {ops : Array Oper} {rest : List Oper} {o : Oper} {a : Act} {Q : Exit → Act → World → Prop} (hgd : o.guard = none) (s x : Operand) (t : TypeId)
    (ho : o.op = .call { callee := .builtin .append, args := #[s, x], argTypes := #[t, t] })
    (base : Nat) (e : TypeId) (i : TypeInfo) (ht : P.underlying t = some (.slice e)) (hi : P.info? e = some i) (hz : i.zero = some (.int .i64 0)) (hsize : i.size = 1) (hby : i.bytes = 8)
    (v : Value) (n : Nat) (xs : List Value) (hs : a.eval s = v) (hown : w.ownsRow base e 1 v n xs)
    (sl : Sl) (l : List Int) (hx : a.eval x = sl.v) (hr : RSrc inC 1 w sl l) (hlen : n + sl.n ≤ 17592186044416) (hbase : base ≤ w.heap.size)
    (h : ∀ v' w', w'.ownsRow base e 1 v' (n + sl.n) (xs ++ l.flatMap inC) → w.grownBy w' v.ownBlock → (v'.ownBlock = v.ownBlock ∨ v'.ownBlock = some w.heap.size) → wpList P ops Q rest (a.put o.dst v') w') : wpList P ops Q (o :: rest) a w :=
  wpList_plain hgd fun _ hK => by
    obtain ⟨v', w', hrun, h2, h3, h4⟩ := run_append_ints (P := P) w base t o.type e i ht hi hz hsize hby v n xs hown sl l hr hlen hbase
    unfold Oper.wp execOp
    simp only [ho, resolve, invoke, builtin, Sem.run_bind, Sem.run_pure, Result.andThen_ok, List.map_toArray, List.map_cons, List.map_nil, hs, hx, hrun]
    exact hK _ _ (h v' w' h2 h3 h4)

/-- A row literal without elements is a row of one's own. -/
theorem own_lit0 (w : World) (t : TypeId) : (w.alloc (.cells #[] t)).ownsRow w.heap.size t 1 (.slice (some ⟨w.heap.size, 0, none⟩) 0 0) 0 [] :=
  ⟨rfl, .inr ⟨w.heap.size, 0, #[], rfl, Nat.le_refl _, heap_alloc_new w _, Nat.le_refl _, by simp only [maxLen]; omega, rfl, rfl⟩⟩

set_option maxRecDepth 100000 in
set_option maxHeartbeats 2000000 in
theorem is_any (w : World) (want k : Int) (s : Sl) (l : List Int) (h : RSrc inC 1 w s l) (hn : s.n ≤ 1000) : Calls Try.prog 17 #[.int .i64 want, .int .i64 k, s.v] w fun e w' => e = .returned (.bool (decide (errT l k = 0) && decide (midT l k = want))) ∧ Below w.heap.size w w' := by
  have HO := Lib.hid (Of_any w s l k h hn)
  obtain ⟨x, hx⟩ : ∃ x, x = midT l k := ⟨_, rfl⟩
  obtain ⟨y, hy⟩ : ∃ y, y = errT l k := ⟨_, rfl⟩
  rw [← hx, ← hy] at HO ⊢
  clear h hx hy
  obtain ⟨A, n, c⟩ := s
  unfold Sl.v at *
  dsimp only at *
  by_cases q1 : y = 0
  · rw [decide_eq_true q1, Bool.true_and]
    have q3 : (y == 0) = true := beq_iff_eq.2 q1
    have HQ := Lib.hid q1
    clear q1
    by_cases q2 : x = want
    · rw [decide_eq_true q2]
      have q4 : (x == want) = true := beq_iff_eq.2 q2
      clear q2
      go_enter Try.func17, Try.ntmps17
      go_wp2_with (go_at_call 11; refine HO.out.mono ?_; rintro e w1 ⟨rfl, hb⟩; have HB := Lib.hid hb; clear hb)
      go_ret
      exact ⟨rfl, HB.out⟩
    · have q5 : decide (x = want) = false := decide_eq_false q2
      rw [q5]
      have q4 : (x == want) = false := beq_eq_false_iff_ne.2 q2
      clear q2 q5
      go_enter Try.func17, Try.ntmps17
      go_wp2_with (go_at_call 11; refine HO.out.mono ?_; rintro e w1 ⟨rfl, hb⟩; have HB := Lib.hid hb; clear hb)
      go_ret
      exact ⟨rfl, HB.out⟩
  · have q3 : (y == 0) = false := beq_eq_false_iff_ne.2 q1
    have q5 : decide (y = 0) = false := decide_eq_false q1
    rw [q5, Bool.false_and]
    clear q1 q5
    go_enter Try.func17, Try.ntmps17
    go_wp2_with (go_at_call 11; refine HO.out.mono ?_; rintro e w1 ⟨rfl, hb⟩; have HB := Lib.hid hb; clear hb)
    go_ret
    exact ⟨rfl, HB.out⟩

/-- What is told of written numbers. -/
theorem told_lit {fs : List Int} {k : Nat} {a b : Int} (hk : 2 * k + 1 ≤ fs.length) (hv : okV fs = true) (ha : Spot fs k a) (hb : Spot fs (fs.length - 1 - k) b) :
    errT fs (k : Int) = 0 ∧ midT fs (k : Int) = (a + b) / 2 ∧ sprT fs (k : Int) = b - a := by
  have hok : okM fs (k : Int) = true := by unfold okM; rw [hv, okN_iff.2 ⟨k, rfl, hk⟩]; rfl
  have h1 : loT fs (k : Int) = a := by unfold loT loM; rw [if_pos hok, Int.toNat_natCast]; exact srt_spot (by omega) ha
  have h2 : hiT fs (k : Int) = b := by unfold hiT hiM; rw [if_pos hok, Int.toNat_natCast]; exact srt_spot (by omega) hb
  rw [(midT_is _ _).1, (midT_is _ _).2, h1, h2]
  exact ⟨errT_ok hok, rfl, rfl⟩
/-- is, of numbers that were just written. -/
theorem is_new {want k : Int} {W : World} (fs : List Int) (n : Nat) (hnl : fs.length = n) (hf : n ≤ 1000) (cs : Array Value) (hcs : (fs.flatMap inC).toArray = cs) (h1 : errT fs k = 0) (h2 : midT fs k = want) :
    Calls Try.prog 17 #[.int .i64 want, .int .i64 k, .slice (some ⟨W.heap.size, 0, none⟩) n n] (W.alloc (.cells cs 2)) fun e w' => e = .returned (.bool true) ∧ Below W.heap.size W w' := by
  have hb : Below W.heap.size W (W.alloc (.cells cs 2)) := (Below.refl _ _).alloc (Nat.le_refl _) _
  subst hnl
  refine (is_any (W.alloc (.cells cs 2)) want k ⟨some ⟨W.heap.size, 0, none⟩, fs.length, fs.length⟩ fs (rsrc_whole (cells := inC) (k := 1) (t := 2) (fun _ => rfl) (by rw [hcs]; exact Whole.new _ _ _) (by omega)) hf).mono ?_
  rintro e w' ⟨rfl, k⟩
  exact ⟨by rw [decide_eq_true h1, decide_eq_true h2]; rfl, k_then k hb⟩

set_option maxRecDepth 100000 in
set_option maxHeartbeats 2000000 in
theorem alive_any (w : World) : Calls Try.prog 16 #[] w fun e w' => e = .returned (.bool true) ∧ Below w.heap.size w w' := by
  obtain ⟨a1, a2, _⟩ := told_lit (fs := [5, 1, 9]) (k := 1) (a := 5) (b := 5) (by decide) (by decide) ⟨by decide, by decide⟩ ⟨by decide, by decide⟩
  obtain ⟨b1, b2, _⟩ := told_lit (fs := [5, 1, 9]) (k := 0) (a := 1) (b := 9) (by decide) (by decide) ⟨by decide, by decide⟩ ⟨by decide, by decide⟩
  obtain ⟨c1, c2, _⟩ := told_lit (fs := [4, -7]) (k := 0) (a := -7) (b := 4) (by decide) (by decide) ⟨by decide, by decide⟩ ⟨by decide, by decide⟩
  have HA := Lib.hid (fun W => is_new (want := 5) (k := 1) (W := W) [5, 1, 9] 3 rfl (by decide) #[.int .i64 5, .int .i64 1, .int .i64 9] rfl a1 a2)
  have HB := Lib.hid (fun W => is_new (want := 5) (k := 0) (W := W) [5, 1, 9] 3 rfl (by decide) #[.int .i64 5, .int .i64 1, .int .i64 9] rfl b1 b2)
  have HC := Lib.hid (fun W => is_new (want := -2) (k := 0) (W := W) [4, -7] 2 rfl (by decide) #[.int .i64 4, .int .i64 (-7)] rfl c1 c2)
  clear a1 a2 b1 b2 c1 c2
  go_enter Try.func16, Try.ntmps16
  go_wp2_with (first
    | (go_at_call 17; with_reducible refine (HA.out _).mono ?_; (rintro e w1 ⟨rfl, hb⟩; have H1 := Lib.hid hb; clear hb HA))
    | (go_at_call 17; with_reducible refine (HB.out _).mono ?_; (rintro e w2 ⟨rfl, hb⟩; have H2 := Lib.hid (k_then hb H1.out); clear hb HB))
    | (go_at_call 17; with_reducible refine (HC.out _).mono ?_; (rintro e w3 ⟨rfl, hb⟩; have H3 := Lib.hid (k_then hb H2.out); clear hb HC)))
  go_ret
  exact ⟨rfl, H3.out⟩

/-- The law's numbers. -/
def someL (l : List Int) : List Int := l.map fun x => x.tmod 2147483648
theorem some_ok (x : Int) : -2147483648 < x.tmod 2147483648 ∧ x.tmod 2147483648 < 2147483648 :=
  ⟨Int.lt_tmod_of_pos x (by decide), Int.tmod_lt_of_pos x (by decide)⟩
theorem someL_ok (l : List Int) : ∀ x ∈ someL l, -2147483648 < x ∧ x < 2147483648 := by
  intro x hx
  unfold someL at hx
  obtain ⟨y, _, rfl⟩ := List.mem_map.1 hx
  exact some_ok y
theorem someL_len (l : List Int) : (someL l).length = l.length := List.length_map _
theorem take_flat {L : List Int} {j : Nat} {x : Int} (hx : x = L.getD j 0) (hj : j < L.length) : (L.take (j + 1)).flatMap inC = (L.take j).flatMap inC ++ inC x := by
  rw [hx, List.take_add_one, List.flatMap_append, List.getElem?_eq_getElem hj, getD_lt hj]
  simp
theorem someL_at {l : List Int} {i : Nat} (h : i < l.length) : (someL l).getD i 0 = (l.getD i 0).tmod 2147483648 := by
  rw [getD_lt (by rw [someL_len]; exact h), getD_lt h]
  unfold someL
  rw [List.getElem_map]

set_option maxRecDepth 100000 in
set_option maxHeartbeats 2000000 in
theorem some_any (w : World) (s : Sl) (l : List Int) (h : RSrc inC 1 w s l) (hn : s.n ≤ 1000) : Calls Try.prog 18 #[s.v] w (NewRow inC 1 2 (someL l) w) := by
  have hl := h.len
  have hmx := Nat.le_trans h.cap h.max
  have H := Lib.hid h
  have HL := Lib.hid hl
  have HSL := Lib.hid (fun i (hi : i < l.length) => someL_at hi)
  obtain ⟨L, hLL⟩ : ∃ L, L = someL l := ⟨_, rfl⟩
  have hLl : L.length = s.n := by rw [hLL, someL_len, hl]
  rw [← hLL] at HSL ⊢
  unfold NewRow
  rw [hLl]
  have HLl := Lib.hid hLl
  obtain ⟨A, n, c⟩ := s
  unfold Sl.v
  dsimp only at *
  clear h hl hLL hLl
  obtain ⟨i0, hi, hy0, hy1, hy2⟩ := info_parts i_i64
  go_enter Try.func18, Try.ntmps18
  go_wp2
  go_loopw [3, 8] (fun v iv wr => ∃ i : Nat, i ≤ n ∧ iv = .int .i64 (i : Int) ∧ wr.ownsRow w.heap.size 2 1 v i ((L.take i).flatMap inC) ∧ Below w.heap.size w wr) (fun _ iv _ => n - (intOf iv).toNat)
  case atStart => exact ⟨0, Nat.zero_le _, rfl, ⟨rfl, .inl ⟨rfl, rfl⟩⟩, Below.refl _ _⟩
  case round =>
    obtain ⟨i, hi', rfl, hrow, hwr⟩ := hrel
    have HR := Lib.hid (And.intro hrow hwr)
    by_cases hlt : i < n
    · obtain ⟨g, o, hA0, hA2⟩ := (H.out.later hwr).get (i := i) hlt
      dsimp only at hA0
      subst hA0
      obtain ⟨x, hx⟩ : ∃ x, x = l.getD i 0 := ⟨_, rfl⟩
      have hx2 : l.getD i default = x := hx.symm
      rw [hx2] at hA2
      have a0 := inC_cells hA2
      rw [Nat.mul_one] at a0
      obtain ⟨y, hy⟩ : ∃ y, y = x.tmod 2147483648 := ⟨_, rfl⟩
      have hyL : y = L.getD i 0 := by rw [hy, hx, HSL.out i (by rw [HL.out]; exact hlt)]
      have hyb := some_ok x
      rw [← hy] at hyb
      have s1 : x.tmod 2147483648 = y := hy.symm
      have s2 : IntKind.i64.wrap y = y := IntWalk.i64_in _ (by omega)
      have e1 : (0 : Int) ≤ (i : Int) := by omega
      have e2 : (i : Int) < (n : Int) := by omega
      have HX := Lib.hid hyL
      have hib : i ≤ 1000 := by omega
      clear hA2 hx hx2 hy hyL hrow hwr hyb
      go_wp2_with (at_builtin; refine wpList_append_own _ rfl (.tmp 12) (.tmp 15) 22 rfl w.heap.size 2 i0 _ 1 8 u_ints hi hy0 hy1 hy2 rfl (by decide) u3 i ((L.take i).flatMap inC) rfl (HR.out.1.alloc _) ⟨wr.heap.size, 0, none⟩ 1 1 (inC y) rfl rfl (fun j u hu => World.news_of_block (Whole.new wr _ _) j u hu) (inC_ones y) (by simp only [maxLen]; omega) (by omega) (by have := HR.out.2.size; simp; omega) ?_; intro v' w5 h1 h2 _; have HG := Lib.hid (And.intro h1 h2); obtain ⟨g', cap', rfl⟩ := ownsRow_succ h1; clear h1 h2)
      refine ⟨⟨i + 1, by omega, by go_num, ?_, ?_⟩, by simp [intOf]; omega⟩
      · rw [take_flat HX.out (by rw [HLl.out]; exact hlt)]
        exact HG.out.1
      · exact (HR.out.2.alloc HR.out.2.size _).grown HG.out.2 (by have := HR.out.2.size; simp; omega) (fun i hi => (own_typed HR.out.1 hi).1)
    · obtain rfl : i = n := by omega
      rw [List.take_of_length_le (by rw [HLl.out]; exact Nat.le_refl _)] at hrow
      have HRR := Lib.hid hrow
      clear hrow hwr
      go_wp2
      go_ret
      exact ⟨u3, rfl, HRR.out, HR.out.2⟩
end Go.Proofs.Ytfpkbhnlpmnegaa
