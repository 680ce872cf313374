/- What the document's Copy goes by, and the document's Copy, by a contract. No condition. | The document's Copy, by a contract. No condition. -/
import Derived.Test.YtljcaigaofalbaaQCp
import Derived.Test.YtljcaigaofalbaaQD
namespace Go.Proofs.Ytljcaigaofalbaa
open Go.RowKit Go.Shelf

/-- append of a whole row onto nil. -/
theorem run_append_nil {P : Program} (w : World) (t ty e : TypeId) (i : TypeInfo) (z : Value) (size bytes : Nat) (ht : P.underlying t = some (.slice e)) (hi : P.info? e = some i) (hz : i.zero = some z)
    (hsize : i.size = size) (hby : i.bytes = bytes) (hzs : z.cells.size = size) (hsz : 0 < size) {α : Type} {cells : α → List Value} (hc : ∀ a, (cells a).length = size) (h1 : ∀ a, ∀ u ∈ cells a, u.oneCell' = true)
    (s : Sl) (xs : List α) (h : RSrc cells size w s xs) (hm : s.n ≤ 1000000) (hbs : bytes ≤ 100) :
    ∃ v' w', (Builtin.append_ #[t, t] ty #[.slice none 0 0, .slice s.A s.n s.c]).run P w = .ok v' w' ∧ w'.ownsRow w.heap.size e size v' xs.length (xs.flatMap cells) ∧ Below w.heap.size w w' := by
  have hl := h.len
  have hlf := flat_len hc xs
  have hnw := fun ad (hA : s.A = some ad) => rsrc_news hc hsz h hA
  have hone := flat_one h1 xs
  have hno := h.no
  have hcap := h.cap
  obtain ⟨A, n, c⟩ := s
  dsimp only at *
  cases A with
  | none =>
    obtain rfl := hno rfl
    obtain rfl : n = 0 := by omega
    obtain rfl : xs = [] := List.eq_nil_of_length_eq_zero hl
    exact ⟨.slice none 0 0, w, by simp [Builtin.append_, run_underlying ht, sizeOf, typeInfo, hi, Builtin.lenOf, Builtin.firstCells], World.ownsRow_nil _ _ _ _, Below.refl _ _⟩
  | some ad =>
    obtain ⟨v', w', hrun, h3, h4, _, h6⟩ := run_append_own_at (P := P) w w.heap.size t ty e i z size bytes ht hi hz hsize hby hzs hsz (.slice none 0 0) 0 [] (World.ownsRow_nil _ _ _ _) ad n c (xs.flatMap cells) (by rw [hlf, hl]) (hnw ad rfl) hone (by simp only [maxLen]; omega) (by
      have : (0 + n) * bytes ≤ 1000000 * 100 := Nat.mul_le_mul (by omega) hbs
      omega) (Nat.le_refl _)
    refine ⟨v', w', hrun, by simpa [hl] using h3, (Below.refl _ _).grown h4 (Nat.le_refl _) (fun k hk => ?_)⟩
    simp [Value.ownBlock] at hk
theorem wpList_append_nil {P : Program} (w : World) {ops : Array Oper} {rest : List Oper} {o : Oper} {a : Act} {Q : Exit → Act → World → Prop} (hgd : o.guard = none) (s x : Operand) (t : TypeId)
    (ho : o.op = .call { callee := .builtin .append, args := #[s, x], argTypes := #[t, t] })
    (e : TypeId) (i : TypeInfo) (z : Value) (size bytes : Nat) (ht : P.underlying t = some (.slice e)) (hi : P.info? e = some i) (hz : i.zero = some z)
    (hsize : i.size = size) (hby : i.bytes = bytes) (hzs : z.cells.size = size) (hsz : 0 < size) {α : Type} {cells : α → List Value} (hc : ∀ a, (cells a).length = size) (h1 : ∀ a, ∀ u ∈ cells a, u.oneCell' = true)
    (S : Sl) (xs : List α) (hs : a.eval s = .slice none 0 0) (hx : a.eval x = .slice S.A S.n S.c) (hr : RSrc cells size w S xs) (hm : S.n ≤ 1000000) (hbs : bytes ≤ 100)
    (h : ∀ p q c w', w'.ownsRow w.heap.size e size (.slice p q c) xs.length (xs.flatMap cells) → Below w.heap.size w w' → wpList P ops Q rest (a.put o.dst (.slice p q c)) w') : wpList P ops Q (o :: rest) a w :=
  wpList_plain hgd fun _ hK => by
    obtain ⟨v', w', hrun, h2, h3⟩ := run_append_nil (P := P) w t o.type e i z size bytes ht hi hz hsize hby hzs hsz hc h1 S xs hr hm hbs
    obtain ⟨p, q, c, rfl⟩ := own_val h2
    unfold Oper.wp execOp
    simp only [ho, resolve, invoke, builtin, Sem.run_bind, Sem.run_pure, Result.andThen_ok, List.map_toArray, List.map_cons, List.map_nil, hs, hx, hrun]
    exact hK _ _ (h p q c w' h2 h3)
section
variable {A A2 : World} {b0 B : Nat} {V : Vs} {s : ScA} {v' : Value}
theorem SB.put0 {xs : List (Int × Int)} (h : SB A (fun i => b0 ≤ i) b0 B V s) (hz : b0 ≤ A.heap.size) (hb : Below A.heap.size A A2) (ho : A2.ownsRow A.heap.size 52 2 v' xs.length (xs.flatMap rateC)) :
    SB (A2.setCell ⟨B, 0, none⟩ v') (fun i => b0 ≤ i) b0 B { V with v0 := v' } { s with rates := xs } ∧ Kept (fun i => b0 ≤ i) A (A2.setCell ⟨B, 0, none⟩ v') := by
  have h2 : SB A2 (fun i => b0 ≤ i) b0 B V s := h.same (Kept.of_below hb _)
  have kB : Kept (fun j => j = B) A2 (A2.setCell ⟨B, 0, none⟩ v') := Kept.setCell (S := fun j => j = B) (Kept.refl _ A2) (p := ⟨B, 0, none⟩) (.inl rfl) _
  have row : ∀ {e : TypeId} {q n : Nat} {v : Value} {ys : List Value}, A2.ownsRow b0 e q v n ys → e ≠ 29 → (A2.setCell ⟨B, 0, none⟩ v').ownsRow b0 e q v n ys := fun {e q n v ys} hr hne => ownsRow_kept hr kB (fun g hg e9 => by
    have e9 : g = B := e9
    obtain ⟨_, cur, hc⟩ := own_typed hr hg
    exact typed_apart hc (show A2.heap[B]? = _ from h2.box) hne e9)
  refine ⟨⟨h2.box.set 0 v', h.gbox, row (ownsRow_base ho hz) (by decide), (fun g hg => Nat.le_trans hz (own_typed ho hg).1), row h2.r1 (by decide), h.g1, row h2.r2 (by decide), h.g2, row h2.r3 (by decide), h.g3, row h2.r4 (by decide), h.g4, h.far, fun a ha => ?_⟩, (Kept.of_below hb _).trans (kB.mono (T := fun i => b0 ≤ i) (fun i e => by have e : i = B := e; exact e ▸ h.gbox)) (fun _ _ h => h)⟩
  have hpa := h2.pl a ha
  have d2 : ∀ ad, a.A = some ad → ad.block ≠ B := fun ad e e3 => by
    obtain ⟨c2, p2⟩ := (hpa.2 ad e).2
    exact typed_apart p2 (show A2.heap[ad.block]? = _ from e3 ▸ h2.box) (by decide) rfl
  exact ⟨hpa.1.kept kB (fun ad e => d2 ad e), fun ad e => ⟨(hpa.2 ad e).1, (hpa.2 ad e).2.kept kB (d2 ad e)⟩⟩
theorem SB.put1 {xs : List (Int)} (h : SB A (fun i => b0 ≤ i) b0 B V s) (hz : b0 ≤ A.heap.size) (hb : Below A.heap.size A A2) (ho : A2.ownsRow A.heap.size 2 1 v' xs.length (xs.flatMap numC)) :
    SB (A2.setCell ⟨B, 1, none⟩ v') (fun i => b0 ≤ i) b0 B { V with v1 := v' } { s with on := xs } ∧ Kept (fun i => b0 ≤ i) A (A2.setCell ⟨B, 1, none⟩ v') := by
  have h2 : SB A2 (fun i => b0 ≤ i) b0 B V s := h.same (Kept.of_below hb _)
  have kB : Kept (fun j => j = B) A2 (A2.setCell ⟨B, 1, none⟩ v') := Kept.setCell (S := fun j => j = B) (Kept.refl _ A2) (p := ⟨B, 1, none⟩) (.inl rfl) _
  have row : ∀ {e : TypeId} {q n : Nat} {v : Value} {ys : List Value}, A2.ownsRow b0 e q v n ys → e ≠ 29 → (A2.setCell ⟨B, 1, none⟩ v').ownsRow b0 e q v n ys := fun {e q n v ys} hr hne => ownsRow_kept hr kB (fun g hg e9 => by
    have e9 : g = B := e9
    obtain ⟨_, cur, hc⟩ := own_typed hr hg
    exact typed_apart hc (show A2.heap[B]? = _ from h2.box) hne e9)
  refine ⟨⟨h2.box.set 1 v', h.gbox, row h2.r0 (by decide), h.g0, row (ownsRow_base ho hz) (by decide), (fun g hg => Nat.le_trans hz (own_typed ho hg).1), row h2.r2 (by decide), h.g2, row h2.r3 (by decide), h.g3, row h2.r4 (by decide), h.g4, (fun g hg e => by
    have x1 := (own_typed ho hg).1
    obtain ⟨_, cur, hc⟩ := own_typed h.r2 e
    have := (Array.getElem?_eq_some_iff.1 hc).1
    omega), fun a ha => ?_⟩, (Kept.of_below hb _).trans (kB.mono (T := fun i => b0 ≤ i) (fun i e => by have e : i = B := e; exact e ▸ h.gbox)) (fun _ _ h => h)⟩
  have hpa := h2.pl a ha
  have d2 : ∀ ad, a.A = some ad → ad.block ≠ B := fun ad e e3 => by
    obtain ⟨c2, p2⟩ := (hpa.2 ad e).2
    exact typed_apart p2 (show A2.heap[ad.block]? = _ from e3 ▸ h2.box) (by decide) rfl
  exact ⟨hpa.1.kept kB (fun ad e => d2 ad e), fun ad e => ⟨(hpa.2 ad e).1, (hpa.2 ad e).2.kept kB (d2 ad e)⟩⟩
theorem SB.put2 {xs : List (Int)} (h : SB A (fun i => b0 ≤ i) b0 B V s) (hz : b0 ≤ A.heap.size) (hb : Below A.heap.size A A2) (ho : A2.ownsRow A.heap.size 2 1 v' xs.length (xs.flatMap numC)) :
    SB (A2.setCell ⟨B, 2, none⟩ v') (fun i => b0 ≤ i) b0 B { V with v2 := v' } { s with delays := xs } ∧ Kept (fun i => b0 ≤ i) A (A2.setCell ⟨B, 2, none⟩ v') := by
  have h2 : SB A2 (fun i => b0 ≤ i) b0 B V s := h.same (Kept.of_below hb _)
  have kB : Kept (fun j => j = B) A2 (A2.setCell ⟨B, 2, none⟩ v') := Kept.setCell (S := fun j => j = B) (Kept.refl _ A2) (p := ⟨B, 2, none⟩) (.inl rfl) _
  have row : ∀ {e : TypeId} {q n : Nat} {v : Value} {ys : List Value}, A2.ownsRow b0 e q v n ys → e ≠ 29 → (A2.setCell ⟨B, 2, none⟩ v').ownsRow b0 e q v n ys := fun {e q n v ys} hr hne => ownsRow_kept hr kB (fun g hg e9 => by
    have e9 : g = B := e9
    obtain ⟨_, cur, hc⟩ := own_typed hr hg
    exact typed_apart hc (show A2.heap[B]? = _ from h2.box) hne e9)
  refine ⟨⟨h2.box.set 2 v', h.gbox, row h2.r0 (by decide), h.g0, row h2.r1 (by decide), h.g1, row (ownsRow_base ho hz) (by decide), (fun g hg => Nat.le_trans hz (own_typed ho hg).1), row h2.r3 (by decide), h.g3, row h2.r4 (by decide), h.g4, (fun g hg e => by
    have x1 := (own_typed ho e).1
    obtain ⟨_, cur, hc⟩ := own_typed h.r1 hg
    have := (Array.getElem?_eq_some_iff.1 hc).1
    omega), fun a ha => ?_⟩, (Kept.of_below hb _).trans (kB.mono (T := fun i => b0 ≤ i) (fun i e => by have e : i = B := e; exact e ▸ h.gbox)) (fun _ _ h => h)⟩
  have hpa := h2.pl a ha
  have d2 : ∀ ad, a.A = some ad → ad.block ≠ B := fun ad e e3 => by
    obtain ⟨c2, p2⟩ := (hpa.2 ad e).2
    exact typed_apart p2 (show A2.heap[ad.block]? = _ from e3 ▸ h2.box) (by decide) rfl
  exact ⟨hpa.1.kept kB (fun ad e => d2 ad e), fun ad e => ⟨(hpa.2 ad e).1, (hpa.2 ad e).2.kept kB (d2 ad e)⟩⟩
theorem SB.put4 {xs : List (Ft)} (h : SB A (fun i => b0 ≤ i) b0 B V s) (hz : b0 ≤ A.heap.size) (hb : Below A.heap.size A A2) (ho : A2.ownsRow A.heap.size 54 5 v' xs.length (xs.flatMap ftC)) :
    SB (A2.setCell ⟨B, 4, none⟩ v') (fun i => b0 ≤ i) b0 B { V with v4 := v' } { s with faults := xs } ∧ Kept (fun i => b0 ≤ i) A (A2.setCell ⟨B, 4, none⟩ v') := by
  have h2 : SB A2 (fun i => b0 ≤ i) b0 B V s := h.same (Kept.of_below hb _)
  have kB : Kept (fun j => j = B) A2 (A2.setCell ⟨B, 4, none⟩ v') := Kept.setCell (S := fun j => j = B) (Kept.refl _ A2) (p := ⟨B, 4, none⟩) (.inl rfl) _
  have row : ∀ {e : TypeId} {q n : Nat} {v : Value} {ys : List Value}, A2.ownsRow b0 e q v n ys → e ≠ 29 → (A2.setCell ⟨B, 4, none⟩ v').ownsRow b0 e q v n ys := fun {e q n v ys} hr hne => ownsRow_kept hr kB (fun g hg e9 => by
    have e9 : g = B := e9
    obtain ⟨_, cur, hc⟩ := own_typed hr hg
    exact typed_apart hc (show A2.heap[B]? = _ from h2.box) hne e9)
  refine ⟨⟨h2.box.set 4 v', h.gbox, row h2.r0 (by decide), h.g0, row h2.r1 (by decide), h.g1, row h2.r2 (by decide), h.g2, row h2.r3 (by decide), h.g3, row (ownsRow_base ho hz) (by decide), (fun g hg => Nat.le_trans hz (own_typed ho hg).1), h.far, fun a ha => ?_⟩, (Kept.of_below hb _).trans (kB.mono (T := fun i => b0 ≤ i) (fun i e => by have e : i = B := e; exact e ▸ h.gbox)) (fun _ _ h => h)⟩
  have hpa := h2.pl a ha
  have d2 : ∀ ad, a.A = some ad → ad.block ≠ B := fun ad e e3 => by
    obtain ⟨c2, p2⟩ := (hpa.2 ad e).2
    exact typed_apart p2 (show A2.heap[ad.block]? = _ from e3 ▸ h2.box) (by decide) rfl
  exact ⟨hpa.1.kept kB (fun ad e => d2 ad e), fun ad e => ⟨(hpa.2 ad e).1, (hpa.2 ad e).2.kept kB (d2 ad e)⟩⟩
end
/-- The script that is copied in its box, the box of the answer, the copy that grows. -/
structure RC (w W : World) (b0 bs R B : Nat) (V : ScV) (U : Vs) (t : ScA) : Prop where
  lo : (bs < b0 ∧ R < b0) ∧ (w.heap.size ≤ b0 ∧ b0 ≤ W.heap.size)
  script : Whole W bs 29 V.cells
  res : Whole W R 29 #[.slice none 0 0, .slice none 0 0, .slice none 0 0, .slice none 0 0, .slice none 0 0]
  below : Below w.heap.size w W
  sb : SB W (fun i => b0 ≤ i) b0 B U t
section
variable {w W W' : World} {b0 bs R B : Nat} {V : ScV} {U U' : Vs} {t t' : ScA} {v' : Value}
theorem RC.turned (h : RC w W b0 bs R B V U t) (hs : SB W' (fun i => b0 ≤ i) b0 B U' t') (hk : Kept (fun i => b0 ≤ i) W W') : RC w W' b0 bs R B V U' t' := by
  have h0 := h.lo
  have hz := hk.size
  refine ⟨⟨h0.1, h0.2.1, Nat.le_trans h0.2.2 hz⟩, h.script.kept hk (by show ¬ b0 ≤ bs; omega), h.res.kept hk (by show ¬ b0 ≤ R; omega), ?_, hs⟩
  exact ((Kept.of_below h.below Empty).trans (hk.mono (T := fun i => w.heap.size ≤ i) (fun i e => Nat.le_trans h0.2.1 e)) (T := fun i => w.heap.size ≤ i) (fun i hi hn => by have hn : w.heap.size ≤ i := hn; omega)).below (fun _ _ h => h)
theorem RC.later (h : RC w W b0 bs R B V U t) (hb : Below W.heap.size W W') : RC w W' b0 bs R B V U t := h.turned (h.sb.same (Kept.of_below hb _)) (Kept.of_below hb _)
theorem RC.drew (h : RC w W b0 bs R B V U t) : RC w W.drew b0 bs R B V U t := h.later (Below.refl _ _).drew
theorem RC.put0 {xs : List (Int × Int)} (h : RC w W b0 bs R B V U t) (hb : Below W.heap.size W W') (ho : W'.ownsRow W.heap.size 52 2 v' xs.length (xs.flatMap rateC)) : RC w (W'.setCell ⟨B, 0, none⟩ v') b0 bs R B V { U with v0 := v' } { t with rates := xs } := by
  obtain ⟨h1, h2⟩ := h.sb.put0 h.lo.2.2 hb ho
  exact h.turned h1 h2
theorem RC.put1 {xs : List (Int)} (h : RC w W b0 bs R B V U t) (hb : Below W.heap.size W W') (ho : W'.ownsRow W.heap.size 2 1 v' xs.length (xs.flatMap numC)) : RC w (W'.setCell ⟨B, 1, none⟩ v') b0 bs R B V { U with v1 := v' } { t with on := xs } := by
  obtain ⟨h1, h2⟩ := h.sb.put1 h.lo.2.2 hb ho
  exact h.turned h1 h2
theorem RC.put2 {xs : List (Int)} (h : RC w W b0 bs R B V U t) (hb : Below W.heap.size W W') (ho : W'.ownsRow W.heap.size 2 1 v' xs.length (xs.flatMap numC)) : RC w (W'.setCell ⟨B, 2, none⟩ v') b0 bs R B V { U with v2 := v' } { t with delays := xs } := by
  obtain ⟨h1, h2⟩ := h.sb.put2 h.lo.2.2 hb ho
  exact h.turned h1 h2
theorem RC.put4 {xs : List (Ft)} (h : RC w W b0 bs R B V U t) (hb : Below W.heap.size W W') (ho : W'.ownsRow W.heap.size 54 5 v' xs.length (xs.flatMap ftC)) : RC w (W'.setCell ⟨B, 4, none⟩ v') b0 bs R B V { U with v4 := v' } { t with faults := xs } := by
  obtain ⟨h1, h2⟩ := h.sb.put4 h.lo.2.2 hb ho
  exact h.turned h1 h2
theorem RC.fin (h : RC w W b0 bs R B V U t) (hR : w.heap.size ≤ R) (cs : Array Value) : SB (W.setRow R cs) (fun i => b0 ≤ i) b0 B U t ∧ Below w.heap.size w (W.setRow R cs) := by
  have h0 := h.lo
  refine ⟨h.sb.same (kept_row (Kept.refl _ _) (.inl (by show ¬ b0 ≤ R; omega)) cs), ?_⟩
  exact ((Kept.of_below h.below Empty).trans (kept_row (S := fun i => w.heap.size ≤ i) (Kept.refl _ W) (.inl hR) cs) (T := fun i => w.heap.size ≤ i) (fun i hi hn => by have hn : w.heap.size ≤ i := hn; omega)).below (fun _ _ h => h)
theorem new_cells (w : World) (cs : Array Value) (ty : TypeId) : ∀ j u, cs.toList[j]? = some u → (w.alloc (.cells cs ty)).cell? ((⟨w.heap.size, 0, none⟩ : Addr).add j) = some u := by
  intro j u hj
  rw [plain_add, Nat.zero_add, (Whole.new w ty cs).cell j, ← Array.getElem?_toList]
  exact hj
theorem RC.hap {W3 w4 : World} (y : HpA) (h : RC w W b0 bs R B V U t) (hb : Below W.heap.size W W3) (hy : PlAt W3 y ∧ ∀ ad, y.A = some ad → W.heap.size ≤ ad.block ∧ UB W3 ad.block) (h1 : w4.ownsRow b0 47 4 v' (t.haps.length + 1) (t.haps.flatMap hapC ++ hapC y)) (h2 : W3.grownBy w4 U.v3.ownBlock) (h3 : v'.ownBlock = U.v3.ownBlock ∨ v'.ownBlock = some W3.heap.size) :
    RC w (w4.setCell ⟨B, 3, none⟩ v') b0 bs R B V { U with v3 := v' } { t with haps := t.haps ++ [y] } := by
  have hs3 : SB W3 (fun i => b0 ≤ i) b0 B U t := h.sb.same (Kept.of_below hb _)
  have kg : Kept (fun j => some j = U.v3.ownBlock) W3 w4 := (Kept.refl _ W3).grown h2 (fun j hj => .inl hj.symm)
  have ne : ∀ ad, y.A = some ad → some ad.block ≠ U.v3.ownBlock := fun ad e e3 => by
    obtain ⟨_, c1, p1⟩ := own_typed hs3.r3 e3.symm
    obtain ⟨c2, p2⟩ := (hy.2 ad e).2
    exact typed_apart p2 p1 (by decide) rfl
  have ub : ∀ ad, y.A = some ad → UB w4 ad.block := fun ad e => (hy.2 ad e).2.kept kg (ne ad e)
  have hB := h.sb.box.lt
  obtain ⟨a, b⟩ := h.sb.add3 (F := fun _ => False) y hb h1 h2 h3 ⟨hy.1.kept kg (fun ad e => ne ad e), fun ad e => ⟨by
      obtain ⟨c2, p2⟩ := ub ad e
      exact (Array.getElem?_eq_some_iff.1 p2).1, fun x => x, ub ad e, (by have := (hy.2 ad e).1; omega), fun e3 => by
      obtain ⟨_, c1, p1⟩ := own_typed h1 e3.symm
      obtain ⟨c2, p2⟩ := ub ad e
      exact typed_apart p2 p1 (by decide) rfl⟩⟩
  have hz := h.lo.2.2
  have hz3 := hb.size
  refine h.turned (a.more (fun i hi => ?_)) b
  rcases hi with (hi | hi) | ⟨ad, e, rfl⟩
  · exact hi
  · omega
  · have := (hy.2 ad e).1; omega
theorem twin_pl {w1 : World} {p : Option Addr} {q z : Nat} {l : List UInt8} {b : Nat} (ho : w1.ownsRow b 5 1 (.slice p q z) l.length (bv l)) : q = l.length ∧ ∀ y : HpA, y.A = p → y.c = z → y.pl = l → PlAt w1 y ∧ ∀ ad, y.A = some ad → b ≤ ad.block ∧ UB w1 ad.block := by
  obtain ⟨A, c, e, h1, h2, h3, h4⟩ := Src.of_own ho
  cases e
  refine ⟨rfl, fun y e1 e2 e3 => ?_⟩
  obtain ⟨yk, yn, yt, yA, yc, yl⟩ := y
  dsimp only at e1 e2 e3 ⊢
  subst e1 e2 e3
  exact ⟨⟨h2, h1, own_cap9 ho, fun e => (h4 e).2⟩, fun ad e => ⟨(h3 ad e).2, by
    obtain ⟨_, cur, hc⟩ := own_typed ho (h3 ad e).1
    exact ⟨cur, hc⟩⟩⟩
theorem pl_over {w1 : World} {y : HpA} {b g i : Nat} {u : Value} {cs : Array Value} {o : Obj} (h : PlAt w1 y ∧ ∀ ad, y.A = some ad → b ≤ ad.block ∧ UB w1 ad.block) (hg : Whole w1 g 47 cs) : PlAt ((w1.setCell ⟨g, i, none⟩ u).alloc o) y ∧ ∀ ad, y.A = some ad → b ≤ ad.block ∧ UB ((w1.setCell ⟨g, i, none⟩ u).alloc o) ad.block := by
  have kk : Kept (fun j => j = g) w1 ((w1.setCell ⟨g, i, none⟩ u).alloc o) := (Kept.setCell (S := fun j => j = g) (Kept.refl _ w1) (p := ⟨g, i, none⟩) (.inl rfl) _).alloc o
  have ne : ∀ ad, y.A = some ad → ad.block ≠ g := fun ad e e3 => by
    obtain ⟨c2, p2⟩ := (h.2 ad e).2
    exact typed_apart p2 (show w1.heap[ad.block]? = _ from e3 ▸ hg) (by decide) rfl
  exact ⟨h.1.kept kk (fun ad e => ne ad e), fun ad e => ⟨(h.2 ad e).1, (h.2 ad e).2.kept kk (ne ad e)⟩⟩
theorem uc5 {g : Nat} {v0 v1 v2 v3 v4 : Value} (h : Whole W g 29 #[v0, v1, v2, v3, v4]) : (W.cell? ⟨g, 0, none⟩ = some v0 ∧ W.frozen? ⟨g, 0, none⟩ = false) ∧ (W.cell? ⟨g, 1, none⟩ = some v1 ∧ W.frozen? ⟨g, 1, none⟩ = false) ∧ (W.cell? ⟨g, 2, none⟩ = some v2 ∧ W.frozen? ⟨g, 2, none⟩ = false) ∧ (W.cell? ⟨g, 3, none⟩ = some v3 ∧ W.frozen? ⟨g, 3, none⟩ = false) ∧ (W.cell? ⟨g, 4, none⟩ = some v4 ∧ W.frozen? ⟨g, 4, none⟩ = false) := ⟨⟨h.cell 0, h.frozen 0⟩, ⟨h.cell 1, h.frozen 1⟩, ⟨h.cell 2, h.frozen 2⟩, ⟨h.cell 3, h.frozen 3⟩, ⟨h.cell 4, h.frozen 4⟩⟩
end
end Go.Proofs.Ytljcaigaofalbaa

namespace Go.Proofs.Ytljcaigaofalbaa
open Go.RowKit Go.Shelf

set_option maxRecDepth 100000 in
set_option maxHeartbeats 8000000 in
theorem refCopy_any (V : ScV) (s : ScA) (w : World) (h : ScAt w V s) (hm : Small V) (hpl : ∀ y ∈ s.haps, y.pl.length ≤ 1000000) :
    Calls Try.prog 11 #[.agg V.cells] w fun e w' => ∃ (V' : Vs) (s' : ScA) (B b0 : Nat), e = .returned (.agg V'.cells) ∧ SB w' (fun i => b0 ≤ i) b0 B V' s' ∧ s'.sc = s.sc ∧ Below w.heap.size w w' := by
  obtain ⟨i0, q00, q01, q02, q03⟩ := info_parts i_rate
  obtain ⟨i1, q10, q11, q12, q13⟩ := info_parts i_int
  obtain ⟨i4, q40, q41, q42, q43⟩ := info_parts i_ft
  obtain ⟨i3, q30, q31, q32, q33⟩ := info_parts i_hap
  obtain ⟨W0, hW0⟩ : ∃ W0, W0 = (w.alloc (.cells V.cells 29)).alloc (.cells #[.slice none 0 0, .slice none 0 0, .slice none 0 0, .slice none 0 0, .slice none 0 0] 29) := ⟨_, rfl⟩
  have hb0 : Below w.heap.size w W0 := by rw [hW0]; exact ((Below.refl _ _).alloc (Nat.le_refl _) _).alloc (by simp) _
  have hs0 : W0.heap.size = w.heap.size + 2 := by rw [hW0]; simp
  have hV0 : Whole W0 w.heap.size 29 V.cells := by rw [hW0]; exact (Whole.new w _ _).alloc _
  have hZ0 : Whole W0 (w.heap.size + 1) 29 #[.slice none 0 0, .slice none 0 0, .slice none 0 0, .slice none 0 0, .slice none 0 0] := by
    rw [hW0]
    have := Whole.new (w.alloc (.cells V.cells 29)) 29 #[.slice none 0 0, .slice none 0 0, .slice none 0 0, .slice none 0 0, .slice none 0 0]
    simpa using this
  have hbB : Below W0.heap.size W0 (W0.alloc (.cells #[.slice none 0 0, .slice none 0 0, .slice none 0 0, .slice none 0 0, .slice none 0 0] 29)) := (Below.refl _ _).alloc (Nat.le_refl _) _
  have R0 : RC w (W0.alloc (.cells #[.slice none 0 0, .slice none 0 0, .slice none 0 0, .slice none 0 0, .slice none 0 0] 29)) W0.heap.size w.heap.size (w.heap.size + 1) W0.heap.size V Vs.zero ⟨[], [], [], [], []⟩ :=
    ⟨⟨⟨by omega, by omega⟩, by omega, by simp⟩, k_later hbB hV0, k_later hbB hZ0, k_then hbB hb0, SB.start _ _ _ _ (Whole.new W0 _ _) (Nat.le_refl _)⟩
  have HR0 := Lib.hid R0
  have HW0 := Lib.hid (And.intro hW0 hs0)
  have HSM := Lib.hid hm
  have HSC := Lib.hid h
  have HPL := Lib.hid hpl
  clear hW0 hb0 hV0 hZ0 h hm hpl hs0 hbB R0
  go_enter Try.func11, Try.ntmps11
  go_upto_region 2 with fail
  have eW := HW0.out.1
  have eZ : w.heap.size + 1 + 1 = W0.heap.size := by have := HW0.out.2; omega
  rw [← eW, eZ]
  have R0 := HR0.out
  clear HR0 eW eZ
  generalize W0.alloc (.cells #[.slice none 0 0, .slice none 0 0, .slice none 0 0, .slice none 0 0, .slice none 0 0] 29) = A0 at *
  generalize W0.heap.size = B at *
  have HRa := Lib.hid R0
  clear R0 HW0
  have c1 : A0.cell? ⟨B, 0, none⟩ = some (.slice none 0 0) := (uc5 HRa.out.sb.box).1.1
  have c2 : A0.cell? ⟨w.heap.size, 0, none⟩ = some (.slice V.r.A V.r.n V.r.c) := (sc5 HRa.out.script).1
  go_upto_region 3 with (at_builtin; refine wpList_append_nil _ rfl (.tmp 8) (.tmp 10) 24 rfl 52 i0 (.agg #[.int .i64 0, .int .i64 0]) 2 16 Try.underlying24 q00 q01 q02 q03 rfl (by decide) (cells := rateC) (fun _ => rfl) c1_rate V.r s.rates rfl rfl (HSC.out.later HRa.out.below).r HSM.out.1.1 (by decide) ?_; intro p0 q0 z0 w1 ho hb; have c3 := (uc5 (HRa.out.later hb).sb.box).1.1; have c4 := (uc5 (HRa.out.later hb).sb.box).1.2; have HRb := Lib.hid (HRa.out.put0 hb ho); clear ho hb c1 c2)
  clear c3 c4 HRa
  generalize w1.setCell ⟨B, 0, none⟩ (.slice p0 q0 z0) = A1 at *
  clear w1
  have c1 : A1.cell? ⟨B, 1, none⟩ = some (.slice none 0 0) := (uc5 HRb.out.sb.box).2.1.1
  have c2 : A1.cell? ⟨w.heap.size, 1, none⟩ = some (.slice V.o.A V.o.n V.o.c) := (sc5 HRb.out.script).2.1
  go_upto_region 4 with (at_builtin; refine wpList_append_nil _ rfl (.tmp 14) (.tmp 16) 25 rfl 2 i1 (.int .i64 0) 1 8 Try.underlying25 q10 q11 q12 q13 rfl (by decide) (cells := numC) (fun _ => rfl) c1_int V.o s.on rfl rfl (HSC.out.later HRb.out.below).o HSM.out.1.2 (by decide) ?_; intro p1 q1 z1 w1 ho hb; have c3 := (uc5 (HRb.out.later hb).sb.box).2.1.1; have c4 := (uc5 (HRb.out.later hb).sb.box).2.1.2; have HRc := Lib.hid (HRb.out.put1 hb ho); clear ho hb c1 c2)
  clear c3 c4 HRb
  generalize w1.setCell ⟨B, 1, none⟩ (.slice p1 q1 z1) = A2 at *
  clear w1
  have c1 : A2.cell? ⟨B, 2, none⟩ = some (.slice none 0 0) := (uc5 HRc.out.sb.box).2.2.1.1
  have c2 : A2.cell? ⟨w.heap.size, 2, none⟩ = some (.slice V.d.A V.d.n V.d.c) := (sc5 HRc.out.script).2.2.1
  go_upto_region 5 with (at_builtin; refine wpList_append_nil _ rfl (.tmp 20) (.tmp 22) 25 rfl 2 i1 (.int .i64 0) 1 8 Try.underlying25 q10 q11 q12 q13 rfl (by decide) (cells := numC) (fun _ => rfl) c1_int V.d s.delays rfl rfl (HSC.out.later HRc.out.below).d HSM.out.2.1.1 (by decide) ?_; intro p2 q2 z2 w1 ho hb; have c3 := (uc5 (HRc.out.later hb).sb.box).2.2.1.1; have c4 := (uc5 (HRc.out.later hb).sb.box).2.2.1.2; have HRd := Lib.hid (HRc.out.put2 hb ho); clear ho hb c1 c2)
  clear c3 c4 HRc
  generalize w1.setCell ⟨B, 2, none⟩ (.slice p2 q2 z2) = A3 at *
  clear w1
  have c1 : A3.cell? ⟨B, 4, none⟩ = some (.slice none 0 0) := (uc5 HRd.out.sb.box).2.2.2.2.1
  have c2 : A3.cell? ⟨w.heap.size, 4, none⟩ = some (.slice V.f.A V.f.n V.f.c) := (sc5 HRd.out.script).2.2.2.2
  go_upto_region 6 with (at_builtin; refine wpList_append_nil _ rfl (.tmp 26) (.tmp 28) 27 rfl 54 i4 (.agg #[.int .i64 0, .int .i64 0, .int .i64 0, .int .i64 0, .bool false]) 5 40 Try.underlying27 q40 q41 q42 q43 rfl (by decide) (cells := ftC) (fun _ => rfl) c1_ft V.f s.faults rfl rfl (HSC.out.later HRd.out.below).f HSM.out.2.2 (by decide) ?_; intro p4 q4 z4 w1 ho hb; have c3 := (uc5 (HRd.out.later hb).sb.box).2.2.2.2.1; have c4 := (uc5 (HRd.out.later hb).sb.box).2.2.2.2.2; have HRe := Lib.hid (HRd.out.put4 hb ho); clear ho hb c1 c2)
  clear c3 c4 HRd
  generalize w1.setCell ⟨B, 4, none⟩ (.slice p4 q4 z4) = A4 at *
  clear w1
  have HRS := Lib.hid (show RC w A4 B w.heap.size (w.heap.size + 1) B V ⟨.slice p0 q0 z0, .slice p1 q1 z1, .slice p2 q2 z2, .slice none 0 0, .slice p4 q4 z4⟩ ⟨s.rates, s.on, s.delays, [], s.faults⟩ from HRe.out)
  clear HRe q00 q01 q02 q03 q10 q11 q12 q13 q40 q41 q42 q43
  go_wp2
  go_loopw [4] (fun iv wr => ∃ (k : Nat) (U : Vs) (hs : List HpA), k ≤ V.h.n ∧ iv = .int .i64 (k : Int) ∧ RC w wr B w.heap.size (w.heap.size + 1) B V U ⟨s.rates, s.on, s.delays, hs, s.faults⟩ ∧ hs.length = k ∧ hs.map HpA.hp = (s.haps.take k).map HpA.hp) (fun iv _ => V.h.n - (intOf iv).toNat)
  case atStart => exact ⟨0, _, [], Nat.zero_le _, rfl, HRS.out, rfl, rfl⟩
  case round =>
    obtain ⟨k, U, hs, hk, rfl, hR, hkl, hhs⟩ := hrel
    obtain ⟨v0, v1, v2, v3, v4⟩ := U
    obtain ⟨b0', e0, f0, rfl⟩ := own_val hR.sb.r0
    obtain ⟨b1, e1, f1, rfl⟩ := own_val hR.sb.r1
    obtain ⟨b2, e2, f2, rfl⟩ := own_val hR.sb.r2
    obtain ⟨b3, e3, f3', rfl⟩ := own_val hR.sb.r3
    obtain ⟨b4, e4, f4, rfl⟩ := own_val hR.sb.r4
    have HR := Lib.hid hR
    have HH := Lib.hid (And.intro hkl hhs)
    have HN := Lib.hid (And.intro (And.intro HSC.out.h.row.len hk) HSM.out.2.1.2)
    have cV : wr.cell? ⟨w.heap.size, 3, none⟩ = some (.slice V.h.A V.h.n V.h.c) := (sc5 hR.script).2.2.2.1
    clear hkl hhs HRS
    by_cases hlt : k < V.h.n
    · obtain ⟨g1, p1, hA1, hR1⟩ := (HSC.out.later hR.below).h.row.get (i := k) hlt
      have hkk : k < s.haps.length := by have := HN.out.1.1; omega
      have q1 := (HSC.out.later hR.below).h.pl _ (getD_mem (xs := s.haps) (j := k) hkk)
      have hlp := HPL.out _ (getD_mem (xs := s.haps) (j := k) hkk)
      have htk : (s.haps.take (k + 1)).map HpA.hp = (s.haps.take k).map HpA.hp ++ [(s.haps.getD k default).hp] := by
        rw [List.take_add_one, List.getElem?_eq_getElem hkk, List.map_append, List.getD_eq_getElem?_getD, List.getElem?_eq_getElem hkk]
        rfl
      obtain ⟨x, hx⟩ : ∃ x, x = s.haps.getD k default := ⟨_, rfl⟩
      rw [← hx] at hR1 q1 hlp htk
      obtain ⟨xk, xn, xt, xA, xc, xl⟩ := x
      obtain ⟨c0, c1, c2, c3⟩ := hapC_cells hR1
      dsimp only at c0 c1 c2 c3 q1 hlp
      rw [hA1] at cV
      have i1 : (0 : Int) ≤ (k : Int) := by omega
      have i2 : (k : Int) < (V.h.n : Int) := by omega
      have i5 := HN.out.2
      have hb1 : Below wr.heap.size wr (wr.alloc (.cells #[.int .i64 xk, .int .i64 xn, .int .i64 xt, .slice xA xl.length xc] 47)) := (Below.refl _ _).alloc (Nat.le_refl _) _
      have HB1 := Lib.hid hb1
      have Q1 := Lib.hid (q1.later hb1)
      have HTK := Lib.hid htk
      have HLP := Lib.hid hlp
      clear hR hA1 hR1 hkk hx hb1 q1 htk hlp
      go_wp2_with (first
        | (go_at_call 12; refine (twin_any xA xl.length xc xl _ Q1.out.src (by have := HLP.out; omega)).mono ?_; rintro e w1 ⟨v, rfl, ho, hb⟩; obtain ⟨p, q, z, rfl⟩ := own_val ho; obtain ⟨eq, hpl⟩ := twin_pl ho; subst eq
           have hW1 := k_later hb (Whole.new wr 47 #[.int .i64 xk, .int .i64 xn, .int .i64 xt, .slice xA xl.length xc])
           have f3 := hW1.frozen 3
           have y3 : w1.cell? ⟨wr.heap.size, 3, none⟩ = some (.slice xA xl.length xc) := hW1.cell 3
           have hW2 : Whole (w1.setCell ⟨wr.heap.size, 3, none⟩ (.slice p xl.length z)) wr.heap.size 47 #[.int .i64 xk, .int .i64 xn, .int .i64 xt, .slice p xl.length z] := hW1.set 3 _
           have d0 := hW2.cell 0
           have d1 := hW2.cell 1
           have d2 := hW2.cell 2
           have d3 := hW2.cell 3
           have d0 : (w1.setCell ⟨wr.heap.size, 3, none⟩ (.slice p xl.length z)).cell? ⟨wr.heap.size, 0, none⟩ = some (.int .i64 xk) := d0
           have d1 : (w1.setCell ⟨wr.heap.size, 3, none⟩ (.slice p xl.length z)).cell? ⟨wr.heap.size, 1, none⟩ = some (.int .i64 xn) := d1
           have d2 : (w1.setCell ⟨wr.heap.size, 3, none⟩ (.slice p xl.length z)).cell? ⟨wr.heap.size, 2, none⟩ = some (.int .i64 xt) := d2
           have d3 : (w1.setCell ⟨wr.heap.size, 3, none⟩ (.slice p xl.length z)).cell? ⟨wr.heap.size, 3, none⟩ = some (.slice p xl.length z) := d3
           have hb2 : Below wr.heap.size wr (w1.setCell ⟨wr.heap.size, 3, none⟩ (.slice p xl.length z)) := (k_then hb HB1.out).setCell (Nat.le_refl _) _
           have HB3 := Lib.hid (hb2.alloc hb2.size (.cells #[.int .i64 xk, .int .i64 xn, .int .i64 xt, .slice p xl.length z] 47))
           have u3 : (w1.setCell ⟨wr.heap.size, 3, none⟩ (.slice p xl.length z)).cell? ⟨B, 3, none⟩ = some (.slice b3 e3 f3') := (uc5 (HR.out.later hb2).sb.box).2.2.2.1.1
           have HY := Lib.hid (pl_over (i := 3) (u := .slice p xl.length z) (o := .cells #[.int .i64 xk, .int .i64 xn, .int .i64 xt, .slice p xl.length z] 47) (hpl ⟨xk, xn, xt, p, z, xl⟩ rfl rfl rfl) hW1)
           have hnw := new_cells (w1.setCell ⟨wr.heap.size, 3, none⟩ (.slice p xl.length z)) #[.int .i64 xk, .int .i64 xn, .int .i64 xt, .slice p xl.length z] 47
           rw [show (w1.setCell ⟨wr.heap.size, 3, none⟩ (.slice p xl.length z)).heap.size = w1.heap.size from by simp [World.setCell]] at hnw
           have HNW := Lib.hid (show ∀ j u, (hapC ⟨xk, xn, xt, p, z, xl⟩)[j]? = some u → ((w1.setCell ⟨wr.heap.size, 3, none⟩ (.slice p xl.length z)).alloc (.cells #[.int .i64 xk, .int .i64 xn, .int .i64 xt, .slice p xl.length z] 47)).cell? ((⟨w1.heap.size, 0, none⟩ : Addr).add j) = some u from hnw)
           clear ho hb hpl hW1 hW2 hb2 hnw)
        | (at_builtin; go_loud (refine wpList_append_own_at _ rfl (.tmp 48) (.tmp 50) 26 rfl B 47 i3 (.agg #[.int .i64 0, .int .i64 0, .int .i64 0, .slice none 0 0]) 4 48 Try.underlying26 q30 q31 q32 q33 rfl (by decide) (.slice b3 e3 f3') hs.length (hs.flatMap hapC) rfl (HR.out.later HB3.out).sb.r3 _ 1 1 (hapC ⟨xk, xn, xt, p, z, xl⟩) rfl rfl HNW.out (c1_hap _) (by have := HH.out.1; simp only [maxLen]; omega) (by have := HH.out.1; omega) (HR.out.later HB3.out).lo.2.2 ?_); intro v' w4 h1 h2 _ h3
           obtain ⟨b9, e9, f9, rfl⟩ := own_val h1
           have hB4 := (HR.out.later HB3.out).sb.box.grown h2 ((HR.out.later HB3.out).sb.box.not_row (by decide) (HR.out.later HB3.out).sb.r3)
           have HC := Lib.hid (HR.out.hap ⟨xk, xn, xt, p, z, xl⟩ HB3.out ⟨HY.out.1, fun ad e => ⟨by have := (HY.out.2 ad e).1; simp at this; omega, (HY.out.2 ad e).2⟩⟩ h1 h2 h3)
           have u4 : w4.cell? ⟨B, 3, none⟩ = some (.slice b3 e3 f3') := (uc5 hB4).2.2.2.1.1
           have u5 : w4.frozen? ⟨B, 3, none⟩ = false := (uc5 hB4).2.2.2.1.2
           clear h1 h2 h3 hB4))
      go_roundw
      case rel =>
        refine ⟨k + 1, _, hs ++ [⟨xk, xn, xt, p, z, xl⟩], by omega, by go_num, HC.out, by rw [List.length_append, HH.out.1]; rfl, ?_⟩
        rw [List.map_append, HH.out.2, HTK.out]
        rfl
      case measure => simp [intOf]; omega
    · obtain rfl : k = V.h.n := by omega
      have hinfo : (Try.prog.info? 29).map (·.size) = some (#[Value.slice b0' e0 f0, .slice b1 e1 f1, .slice b2 e2 f2, .slice b3 e3 f3', .slice b4 e4 f4]).size := by show _ = some 5; kernel_rfl
      have hone : (#[Value.slice b0' e0 f0, .slice b1 e1 f1, .slice b2 e2 f2, .slice b3 e3 f3', .slice b4 e4 f4]).all (·.oneCell') = true := by simp [Value.oneCell']
      have HFIN := Lib.hid (hR.fin (by omega) (#[Value.slice b0' e0 f0, .slice b1 e1 f1, .slice b2 e2 f2, .slice b3 e3 f3', .slice b4 e4 f4]))
      have HZr := Lib.hid hR.res
      have HIN := Lib.hid hinfo
      have HON := Lib.hid hone
      have HBO := Lib.hid (show Whole wr B 29 #[.slice b0' e0 f0, .slice b1 e1 f1, .slice b2 e2 f2, .slice b3 e3 f3', .slice b4 e4 f4] from hR.sb.box)
      clear hR hinfo hone
      go_wp2_with (first
        | (refine wpList_load_row rfl 29 (.tmp 3) rfl B rfl 29 #[.slice b0' e0 f0, .slice b1 e1 f1, .slice b2 e2 f2, .slice b3 e3 f3', .slice b4 e4 f4] (0, 0) _ HBO.out Try.underlying29 rfl HIN.out ?_)
        | (refine wpList_store_row rfl 29 (.tmp 2) (.tmp 53) rfl (w.heap.size + 1) #[.slice b0' e0 f0, .slice b1 e1 f1, .slice b2 e2 f2, .slice b3 e3 f3', .slice b4 e4 f4] rfl rfl 29 #[.slice none 0 0, .slice none 0 0, .slice none 0 0, .slice none 0 0, .slice none 0 0] HZr.out HIN.out rfl HON.out ?_))
      refine bodyPost_ret (v := .agg #[.slice b0' e0 f0, .slice b1 e1 f1, .slice b2 e2 f2, .slice b3 e3 f3', .slice b4 e4 f4]) (r_results0 rfl _ _ (w.heap.size + 1) 29 #[.slice b0' e0 f0, .slice b1 e1 f1, .slice b2 e2 f2, .slice b3 e3 f3', .slice b4 e4 f4] (0, 0) _ rfl (r_row_whole HZr.out) Try.underlying29 rfl HIN.out) rfl ⟨_, _, B, B, rfl, HFIN.out.1, ?_, HFIN.out.2⟩
      show (⟨s.rates, s.on, s.delays, hs.map HpA.hp, s.faults⟩ : Sc) = ⟨s.rates, s.on, s.delays, s.haps.map HpA.hp, s.faults⟩
      rw [HH.out.2, List.take_of_length_le (by have := HN.out.1.1; omega)]
end Go.Proofs.Ytljcaigaofalbaa
