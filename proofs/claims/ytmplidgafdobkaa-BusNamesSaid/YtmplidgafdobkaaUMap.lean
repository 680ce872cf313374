/- A map of pairs of numbers to numbers, by what it has. No condition. -/
import Derived.Test.YtmplidgafdobkaaUTake
import Derived.Maps.OwnSet
import Derived.Maps.OwnOps
import Derived.Maps.Views
import Derived.DeepKeys4
import Derived.WideKeyPair
namespace Go.Proofs.Ytmplidgafdobkaa
open Go.RowKit Go.Shelf Go.Maps Go.WideMaps

theorem laidOutU : laidOutB Try.prog = true := by kernel_rfl
theorem rowK : (66 : TypeId) < Try.prog.types.size := of_decide_eq_true (by kernel_rfl)
theorem wideK : (match Try.prog.underlying 66 with | some (.array _ _) | some (.struct _) => true | _ => false) = true := by rw [Try.underlying66]
theorem keyK : Try.prog.keyTypeAt 2 66 = true := by kernel_rfl
set_option maxRecDepth 100000 in
theorem lawK : Keyed Try.prog 66 := Keyed.of_law (deep_law_laid laidOutU (m := 2) (by omega) rowK keyK wideK)
theorem cellsK : Try.prog.cellsOf 66 = 2 := by kernel_rfl
theorem plainK : Try.prog.plainKey 3 = true := by kernel_rfl
theorem arrK : ArrKey Try.prog 66 3 2 := ⟨Try.underlying66, plainK, cells_int, cellsK⟩
set_option maxRecDepth 100000 in
theorem sizeK : ∃ m, Try.prog.types.size = m + 1 := ⟨_, (Nat.succ_pred_eq_of_pos (Nat.lt_of_le_of_lt (Nat.zero_le _) rowK)).symm⟩
theorem zeroK (w : World) : (zeroValue 2).run Try.prog w = .ok (.int .i64 0) w := by kernel_rfl
/-- What a pair reads as. -/
def klit (r c : Int) : Lit := .string (keyBytes [.int .i64 r, .int .i64 c])
def In64 (n : Int) : Prop := -9223372036854775808 ≤ n ∧ n ≤ 9223372036854775807
theorem in_wf {n : Int} (h : In64 n) : (Lit.int .i64 n).wf = true := WalkArith.wf_i64 h
theorem key_of {r c : Int} (h1 : In64 r) (h2 : In64 c) : keyOf Try.prog 66 (.agg #[.int .i64 r, .int .i64 c]) = some (klit r c) := keyOf_pair arrK Try.underlying3 sizeK (in_wf h1) (in_wf h2)
theorem klit_inj {r c r' c' : Int} (h1 : In64 r) (h2 : In64 c) (h3 : In64 r') (h4 : In64 c') (e : klit r c = klit r' c') : r = r' ∧ c = c' := by
  have := lawK.inj (key_of h1 h2) (by rw [e]; exact key_of h3 h4)
  simpa using this
/-- Block m is a map that has just f's pairs. -/
def MapU (W : World) (m n : Nat) (f : Int → Int → Option Int) : Prop :=
  ∃ D : DataW Unit, W.ownsMap Try.prog 66 (plainElem Try.prog 2) m n D ∧ ∀ r c, In64 r → In64 c → D.atKey (klit r c) (.lit (.int .i64 0)) = .lit (.int .i64 ((f r c).getD 0)) ∧ Maps.has D (klit r c) = (f r c).isSome
/-- One more pair. -/
def updU (f : Int → Int → Option Int) (r c v : Int) : Int → Int → Option Int := fun r' c' => if r' = r ∧ c' = c then some v else f r' c'
section
variable {W W' : World} {m n : Nat} {f : Int → Int → Option Int}
theorem MapU.made (w : World) : MapU (w.alloc (.map #[] 0)) w.heap.size 0 (fun _ _ => none) := ⟨.map [], World.ownsMap_made w _ _ _, fun _ _ _ _ => ⟨rfl, rfl⟩⟩
theorem MapU.lt (h : MapU W m n f) : m < W.heap.size := by
  obtain ⟨D, h1, _⟩ := h
  exact h1.lt
theorem MapU.kept {S : Nat → Prop} (h : MapU W m n f) (hk : Kept S W W') (hm : ¬ S m) : MapU W' m n f := by
  have hlt := h.lt
  obtain ⟨D, ⟨es, clock, hb, F, hs, hD⟩, h2⟩ := h
  exact ⟨D, ⟨es, clock, (hk.block m hlt hm).trans hb, F, hs, hD⟩, h2⟩
theorem MapU.later (h : MapU W m n f) (hb : Below W.heap.size W W') : MapU W' m n f := h.kept (Kept.of_below hb Empty) (fun e => e)
theorem MapU.look (h : MapU W m n f) {r c : Int} (h1 : In64 r) (h2 : In64 c) : (Instr.lookup 63 (.map (some m)) (.agg #[.int .i64 r, .int .i64 c]) false).run Try.prog W = .ok (.int .i64 ((f r c).getD 0)) W := by
  obtain ⟨D, hD, hf⟩ := h
  obtain ⟨x, hr, ha, _⟩ := hD.lookup_int lawK Try.underlying63 Try.underlying2 (zeroK _) (key_of h1 h2)
  rw [(hf r c h1 h2).1] at ha
  cases ha
  exact hr
theorem MapU.look_ok (h : MapU W m n f) {r c : Int} (h1 : In64 r) (h2 : In64 c) : (Instr.lookup 63 (.map (some m)) (.agg #[.int .i64 r, .int .i64 c]) true).run Try.prog W = .ok (.tuple #[.int .i64 ((f r c).getD 0), .bool (f r c).isSome]) W := by
  obtain ⟨D, hD, hf⟩ := h
  obtain ⟨v, ps, hr, hv⟩ := hD.look_ok lawK Try.underlying63 (zeroK _) (plainElem_int Try.underlying2 (by decide)) (key_of h1 h2)
  obtain ⟨x, rfl, hx, _⟩ := plainElem_int_inv Try.underlying2 hv
  have hx := congrArg Prod.fst hx
  rw [(hf r c h1 h2).1] at hx
  cases hx
  rw [hr, (hf r c h1 h2).2]
theorem MapU.put (h : MapU W m n f) (hn : n ≤ 1000000) {r c v : Int} (h1 : In64 r) (h2 : In64 c) (h3 : In64 v) :
    ∃ W', (Instr.mapUpdate 63 (.map (some m)) (.agg #[.int .i64 r, .int .i64 c]) (.int .i64 v)).run Try.prog W = .ok () W' ∧ MapU W' m (n + 1) (updU f r c v) ∧ Kept (fun i => i = m) W W' := by
  obtain ⟨D, hD, hf⟩ := h
  obtain ⟨W', hr, hD', hg⟩ := hD.update lawK Try.underlying63 (by unfold maxLen; omega) (key_of h1 h2) (plainElem_int Try.underlying2 (in_wf h3))
  refine ⟨W', hr, ⟨_, hD', fun r' c' g1 g2 => ?_⟩, (Kept.refl _ W).grown hg (fun k e => .inl (by cases e; rfl))⟩
  unfold updU
  by_cases e : r' = r ∧ c' = c
  · obtain ⟨rfl, rfl⟩ := e
    rw [if_pos ⟨rfl, rfl⟩]
    exact ⟨atKey_put_same hD.isMap (lawK.key (key_of g1 g2)) _ _, has_put_same hD.isMap (lawK.key (key_of g1 g2)) _⟩
  · rw [if_neg e]
    have hne : klit r' c' ≠ klit r c := fun h => e (klit_inj g1 g2 h1 h2 h)
    exact ⟨(atKey_put_other hne _ _).trans (hf r' c' g1 g2).1, (has_put_other hne _).trans (hf r' c' g1 g2).2⟩
end
/-- 'm[k] = v', at the operation. -/
theorem wpList_put_u {w : World} {ops : Array Oper} {rest : List Oper} {o : Oper} {a : Act} {Q : Exit → Act → World → Prop} (hg : o.guard = none) (x y z : Operand) (hop : o.op = Op.mapUpdate 63 x y z) {m n : Nat} {f : Int → Int → Option Int} (h : MapU w m n f) (hn : n ≤ 1000000)
    {r c v : Int} (h1 : In64 r) (h2 : In64 c) (h3 : In64 v) (hx : a.eval x = .map (some m)) (hy : a.eval y = .agg #[.int .i64 r, .int .i64 c]) (hz : a.eval z = .int .i64 v)
    (hK : ∀ w', MapU w' m (n + 1) (updU f r c v) → Kept (fun i => i = m) w w' → wpList Try.prog ops Q rest (a.put o.dst undef) w') : wpList Try.prog ops Q (o :: rest) a w := by
  refine wpList_plain hg fun K' hK' => ?_
  obtain ⟨w', hrun, r1, r2⟩ := h.put hn h1 h2 h3
  unfold Oper.wp
  simp [execOp, hop, hx, hy, hz, hrun, Result.andThen]
  exact hK' _ _ (hK w' r1 r2)
end Go.Proofs.Ytmplidgafdobkaa
