/- The values that are left, told one by one: the iterator, by its contract. No condition. -/
import Derived.Test.YteljalgfkmnamaaZSort
import Derived.Test.YteljalgfkmnamaaZFun
import Derived.Test.YteljalgfkmnamaaShare
namespace Go.Proofs.Yteljalgfkmnamaa
open Go.RowKit Go.Shelf
attribute [local go_sem] Oper.semAt_some

set_option maxHeartbeats 1000000 in
theorem left_in (n : Nat) (s : Sl) (k : Int) (w : World) :
    CallsIn Fence.wide n Try.prog 66 #[s.v, .int .i64 k] w fun e w' => e = .returned (.func (.func 68) #[] #[.pointer (some ⟨w.heap.size, 0, none⟩), .pointer (some ⟨w.heap.size + 1, 0, none⟩)]) ∧
      w' = (w.alloc (.cells #[s.v] 26)).alloc (.cells #[.int .i64 k] 3) := by
  have hmf : ∀ (fn : Fn) (first cap : Array Value) (w : World), (Instr.makeFunc fn first cap).run Try.prog w = .ok (.func fn first cap) w := fun _ _ _ _ => rfl
  obtain ⟨A, N, c⟩ := s
  unfold Sl.v
  dsimp only
  refine callsIn_of_wp Try.func66 rfl trivial ?_ rfl
  simp only [Try.ntmps66, List.size_toArray, List.length_cons, List.length_nil, Nat.reduceAdd, Nat.reduceSub, Array.replicate_succ, Array.replicate_zero, List.push_toArray, List.append_toArray, List.nil_append, List.cons_append]
  gi_wp2
  go_ret
  exact ⟨rfl, rfl⟩

/-- What a round is handed. -/
def EncZ (l : List Int) (k : Nat) (j : Nat) (args : Array Value) (_ : Nat → Prop) (_ : World) : Prop := args = #[.int .i64 ((srt l).getD (k + (j - 1)) 0)]
/-- The iterator's own blocks. -/
def leftF (bl bk : Nat) : Nat → Prop := fun i => i = bl ∨ i = bk
/-- Between two rounds. -/
structure LeftW (J : Nat → (Nat → Prop) → World → Prop) (F : Nat → Prop) (W1 : World) (j : Nat) (V : World) : Prop where
  own : ∃ G, J j G V ∧ ∀ i, G i → i < V.heap.size ∧ ¬ F i
  same : ∀ i, F i → V.heap[i]? = W1.heap[i]?
  size : W1.heap.size ≤ V.heap.size
theorem LeftW.whole {J : Nat → (Nat → Prop) → World → Prop} {F : Nat → Prop} {W1 V : World} {j g : Nat} {t : TypeId} {cs : Array Value} (h : LeftW J F W1 j V) (hw : Whole W1 g t cs) (hg : F g) : Whole V g t cs := (h.same g hg).trans hw
theorem LeftW.src {J : Nat → (Nat → Prop) → World → Prop} {F : Nat → Prop} {W1 V : World} {j g : Nat} {n c i : Nat} {l : List Int} (h : LeftW J F W1 j V) (hg : F g) (hs : RSrc inC 1 W1 ⟨some ⟨g, 0, none⟩, n, c⟩ l) (hi : i < n) : V.cell? ⟨g, i, none⟩ = some (.int .i64 (l.getD i 0)) := by
  obtain ⟨g', o', e, hc⟩ := hs.get (i := i) hi
  cases e
  have h1 := inC_cells hc
  rw [Nat.mul_one, Nat.zero_add] at h1
  exact (World.cell?_of_block (h.same g hg)).trans h1
/-- A round that goes on. -/
theorem LeftW.next {J : Nat → (Nat → Prop) → World → Prop} {F G G' : Nat → Prop} {W1 A B : World} {j j' : Nat} (h : LeftW J F W1 j A) (hF : ∀ i, F i → i < W1.heap.size) (hG : ∀ i, G i → i < A.heap.size ∧ ¬ F i) (hk : Kept G A B) (h1 : ∀ i, G' i → i < B.heap.size ∧ ¬ F i) (h2 : J j' G' B) : LeftW J F W1 j' B :=
  ⟨⟨G', h2, h1⟩, fun i hi => (hk.block i (by have := hF i hi; have := h.size; omega) (fun hg => (hG i hg).2 hi)).trans (h.same i hi), Nat.le_trans h.size hk.size⟩

theorem wpIn_scope_z {n : Nat} {P : Program} {c : Code} {Q : Exit → Act → World → Prop} {a : Act} {w : World} (h : c.wpIn Fence.wide n P (Exit.noGoto Q) a w) : (Code.scope c).wpIn Fence.wide n P Q a w :=
  wpIn_wide.2 (wp_scope_straight (wpIn_wide.1 h))
set_option maxRecDepth 100000 in
set_option maxHeartbeats 4000000 in
theorem left_turns (m : Nat) (hm : 1 ≤ m) (bl bk : Nat) (s : Sl) (l : List Int) (k : Nat) (hk : 2 * k + 1 ≤ l.length) (hn : s.n ≤ 1000) (w : World) (hbl : Whole w bl 26 #[s.v]) (hbk : Whole w bk 3 #[.int .i64 (k : Int)]) (hsrc : RSrc inC 1 w s l) :
    ShareB m Try.prog 68 #[.pointer (some ⟨bl, 0, none⟩), .pointer (some ⟨bk, 0, none⟩)] (l.length - 2 * k) (EncZ l k) (leftF bl bk) w := fun lp J Jx W G0 hW hG0 hJ hY hJ0 => by
  have hl := hsrc.len
  have hmx := Nat.le_trans hsrc.cap hsrc.max
  have wbl := k_later hW hbl
  have wbk := k_later hW hbk
  have wsr := hsrc.later hW
  have hFW : ∀ i, leftF bl bk i → i < W.heap.size := by
    rintro i (rfl | rfl)
    · exact wbl.lt
    · exact wbk.lt
  have HSO := Lib.hid (sorted_any W s l wsr hn (by omega))
  have H0 := Lib.hid (And.intro wbl (And.intro wbk (And.intro wsr hFW)))
  have HJ := Lib.hid hJ
  have HY := Lib.hid hY
  have HJ0 := Lib.hid (And.intro hJ0 hG0)
  have c0 := wbl.cell 0
  simp at c0
  have HL := Lib.hid hl
  obtain ⟨N, hN⟩ : ∃ N, N = l.length := ⟨_, rfl⟩
  rw [← hN] at hk HSO HY hl ⊢
  have HN := Lib.hid hN
  obtain ⟨A, n, c⟩ := s
  unfold Sl.v at *
  dsimp only at *
  have hnN : n = N := hl.symm
  subst hnN
  clear hJ hY hJ0 hG0 hW hbl hbk hsrc wbl wbk wsr hFW hN hl
  refine callsIn_of_wp Try.func68 rfl trivial ?_ rfl
  simp only [Try.ntmps68, List.size_toArray, List.length_cons, List.length_nil, Nat.reduceAdd, Nat.reduceSub, Array.replicate_succ, Array.replicate_zero, List.push_toArray, List.append_toArray, List.nil_append, List.cons_append]
  gi_wp2
  refine wpIn_scope_z ?_
  gi_wp2
  refine wpIn_label ?_
  gi_wp2_with (first
    | (refine ⟨trivial, ?_⟩; gi_at_call 69; refine (callsIn_wide.2 HSO.out).mono ?_; rintro e W1 ⟨g, rfl, hg0, hg1, hg2, hg3⟩; have H1 := Lib.hid (And.intro hg0 (And.intro hg1 (And.intro hg2 hg3))); clear hg0 hg1 hg2 hg3))
  obtain ⟨F, hF⟩ : ∃ F : Nat → Prop, F = fun i => leftF bl bk i ∨ i = g := ⟨_, rfl⟩
  have hs1 := H1.out.2.2.2.size
  have f1 : F bl := by rw [hF]; exact .inl (.inl rfl)
  have f2 : F bk := by rw [hF]; exact .inl (.inr rfl)
  have f3 : F g := by rw [hF]; exact .inr rfl
  have f4 : ∀ i, F i → i < W1.heap.size := by
    rw [hF]
    rintro i (h | rfl)
    · have := H0.out.2.2.2 i h; omega
    · exact H1.out.2.1
  have hS : LeftW J F W1 0 W1 := ⟨⟨G0, HJ.out 0 G0 W W1 HJ0.out.1 (fun i hi => (HJ0.out.2 i hi).1) (Kept.of_below H1.out.2.2.2 _), fun i hi => ⟨by have := (HJ0.out.2 i hi).1; omega, by
    rw [hF]
    rintro (h | rfl)
    · exact (HJ0.out.2 i hi).2 h
    · have := (HJ0.out.2 i hi).1; have := H1.out.1; omega⟩⟩, fun _ _ => rfl, Nat.le_refl _⟩
  have k1 : Whole W1 bl 26 #[.slice A n c] := k_later H1.out.2.2.2 H0.out.1
  have k2 : Whole W1 bk 3 #[.int .i64 (k : Int)] := k_later H1.out.2.2.2 H0.out.2.1
  have HF := Lib.hid (And.intro f1 (And.intro f2 (And.intro f3 (And.intro f4 (And.intro k1 k2)))))
  have HS := Lib.hid hS
  clear hF hs1 f1 f2 f3 f4 hS k1 k2 HJ0 HSO c0
  gi_loopw [9] (fun iv wr => ∃ i : Nat, i ≤ n - k ∧ iv = .int .i64 (i : Int) ∧ LeftW J F W1 (i - k) wr) (fun iv _ => n - (intOf iv).toNat)
  case atStart => exact ⟨0, Nat.zero_le _, rfl, by rw [Nat.zero_sub]; exact HS.out⟩
  case round =>
    obtain ⟨i, hi, rfl, hwr⟩ := hrel
    clear HS
    have HW := Lib.hid hwr
    have c1 := (hwr.whole HF.out.2.2.2.2.1 HF.out.1).cell 0
    have c2 := (hwr.whole HF.out.2.2.2.2.2 HF.out.2.1).cell 0
    simp at c1 c2
    clear hwr
    have q1 : IntKind.i64.wrap ((n : Int) - (k : Int)) = (n : Int) - (k : Int) := IntWalk.i64_in _ (by omega)
    have e0 : (0 : Int) ≤ (i : Int) := by omega
    by_cases hin : i < n
    · have c3 := HW.out.src HF.out.2.2.1 H1.out.2.2.1 hin
      obtain ⟨x, hx⟩ : ∃ x, x = (srt l).getD i 0 := ⟨_, rfl⟩
      rw [← hx] at c3
      have HX := Lib.hid hx
      clear hx
      have e1 : (i : Int) < (n : Int) := by omega
      by_cases hik : i < k
      · have e2 : (i : Int) < (k : Int) := by omega
        gi_wp2
        go_roundw
        case rel => exact ⟨i + 1, by omega, by go_num, by rw [show i + 1 - k = i - k by omega]; exact HW.out⟩
        case measure => simp [intOf]; omega
      · have e2 : ¬ (i : Int) < (k : Int) := by omega
        by_cases hnk : i < n - k
        · have e3 : ¬ ((n : Int) - (k : Int) ≤ (i : Int)) := by omega
          obtain ⟨G, hJG, hGb⟩ := HW.out.own
          have hy := HY.out (i - k) G F #[.int .i64 x] wr (by omega) hJG hGb (fun j hj => Nat.lt_of_lt_of_le (HF.out.2.2.2.1 j hj) HW.out.size) (by
            unfold EncZ
            rw [Nat.add_sub_cancel, show k + (i - k) = i by omega, HX.out])
          obtain ⟨fn, tmps, assign, body, hy1, hR⟩ := hy
          have HR2 := Lib.hid hR
          have HGB := Lib.hid hGb
          clear hR hJG hGb
          gi_wp2
          refine HR2.out.mono ?_
          rintro e W4 ⟨G', hkept, hb, hc⟩
          rcases hc with ⟨rfl, hJ4⟩ | ⟨rfl, hJx⟩
          · have HW4 := Lib.hid (HW.out.next HF.out.2.2.2.1 HGB.out hkept hb hJ4)
            clear hkept hb hJ4 hy1 HR2 c1 c2 c3
            gi_wp2
            go_roundw
            case rel => exact ⟨i + 1, by omega, by go_num, by rw [show i + 1 - k = i - k + 1 by omega]; exact HW4.out⟩
            case measure => simp [intOf]; omega
          · have HE := Lib.hid (And.intro hb hJx)
            clear hkept hb hJx hy1 HR2 c1 c2 c3
            gi_wp2
            dsimp only [Exit.noGoto]
            go_end0
            exact ⟨⟨_, rfl⟩, G', fun j hj => (HE.out.1 j hj).1, .inr ⟨i - k + 1, by omega, by omega, HE.out.2⟩⟩
        · have e3 : (n : Int) - (k : Int) ≤ (i : Int) := by omega
          gi_wp2
          refine ⟨fun f hf => absurd hf (by simp), ?_⟩
          gi_wp2
          dsimp only [Exit.noGoto]
          go_end0
          obtain ⟨G, hJG, hGb⟩ := HW.out.own
          exact ⟨⟨_, rfl⟩, G, fun j hj => (hGb j hj).1, .inl (by rw [show n - 2 * k = i - k by omega]; exact hJG)⟩
    · have e3 : ¬ (i : Int) < (n : Int) := by omega
      gi_wp2
      go_end0
      obtain ⟨G, hJG, hGb⟩ := HW.out.own
      exact ⟨⟨_, rfl⟩, G, fun j hj => (hGb j hj).1, .inl (by rw [show n - 2 * k = i - k by omega]; exact hJG)⟩
end Go.Proofs.Yteljalgfkmnamaa
