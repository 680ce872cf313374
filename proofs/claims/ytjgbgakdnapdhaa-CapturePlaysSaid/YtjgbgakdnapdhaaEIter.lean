/- The nodes that have a deviation, told one by one: the iterator, by its contract. No condition. -/
import Derived.Test.YtjgbgakdnapdhaaEForg
import Derived.Test.YtjgbgakdnapdhaaTurn
namespace Go.Proofs.Ytjgbgakdnapdhaa
open Go.RowKit Go.Shelf
attribute [local go_sem] Oper.semAt_some

section
variable {F : Fence} {nF : Nat} {P : Program} {ops : Array Oper} {rest : List Oper} {o : Oper} {a : Act} {w : World} {Q : Exit → Act → World → Prop}
theorem wpListIn_load_row (hgd : o.guard = none) (ty : TypeId) (x : Operand) (ho : o.op = .load ty x) (g : Nat) (hx : a.eval x = .pointer (some ⟨g, 0, none⟩)) (t : TypeId) (cs : Array Value) (fr : Nat × Nat) (d : TypeDesc)
    (hg : w.heap[g]? = some (.cells cs t fr)) (hu : P.underlying ty = some d) (hd : (match d with | .struct _ | .array _ _ => true | _ => false) = true) (hi : (P.info? ty).map (·.size) = some cs.size)
    (h : wpListIn F nF P ops Q rest (a.put o.dst (.agg cs)) w) : wpListIn F nF P ops Q (o :: rest) a w := by
  refine wpListIn_plain hgd fun K hK => ?_
  unfold Oper.wpIn
  refine ⟨by simp [Oper.about, ho], ?_⟩
  rw [Oper.semAt_plain F _ _ (by rw [ho]; intro c hc'; cases hc')]
  simp only [execOp, ho, hx, Instr.loadAt, Instr.sureAddr, Sem.run_bind, Sem.run_pure, Result.andThen_ok, run_loadVar_row w g t ty cs fr d hg hu hd hi]
  exact hK _ _ h
end

set_option maxHeartbeats 1000000 in
theorem noted_in (n : Nat) (c : Option Addr) (w : World) :
    CallsIn Fence.wide n Try.prog 31 #[.pointer c] w fun e w' => e = .returned (.func (.func 35) #[] #[.pointer (some ⟨w.heap.size, 0, none⟩)]) ∧
      w' = w.alloc (.cells #[.pointer c] 24) := by
  have hmf : ∀ (fn : Fn) (first cap : Array Value) (w : World), (Instr.makeFunc fn first cap).run Try.prog w = .ok (.func fn first cap) w := fun _ _ _ _ => rfl
  refine callsIn_of_wp Try.func31 rfl trivial ?_ rfl
  simp only [Try.ntmps31, List.size_toArray, List.length_cons, List.length_nil, Nat.reduceAdd, Nat.reduceSub, Array.replicate_succ, Array.replicate_zero, List.push_toArray, List.append_toArray, List.nil_append, List.cons_append]
  gi_wp2
  go_ret
  exact ⟨rfl, rfl⟩

/-- What a round is handed: the node, and its deviation. -/
def encE (f : Ca) (k : Nat) : Array Value := #[.int .i64 (((listC f).getD (k - 1) default).n : Int), .int .i64 ((listC f).getD (k - 1) default).v]
theorem listTo_pre (f : Ca) (k : Nat) : ∀ j, listTo f k <+: listTo f (k + j)
  | 0 => List.prefix_refl _
  | j + 1 => by
    refine (listTo_pre f k j).trans ?_
    rw [← Nat.add_assoc, listTo_succ]
    exact List.prefix_append _ _
theorem listTo_at {f : Ca} {n : Nat} {v : Int} (hn : n < 16) (h : devF f n = some v) : (listTo f n).length < (listC f).length ∧ (listC f).getD (listTo f n).length default = ⟨n, v⟩ ∧ (listTo f (n + 1)).length = (listTo f n).length + 1 := by
  have e : listTo f (n + 1) = listTo f n ++ [⟨n, v⟩] := by rw [listTo_succ, h]
  obtain ⟨r, hr⟩ := listTo_pre f (n + 1) (15 - n)
  rw [show n + 1 + (15 - n) = 16 by omega, e] at hr
  have hr' : listC f = listTo f n ++ [⟨n, v⟩] ++ r := hr.symm
  refine ⟨by rw [hr']; simp, ?_, by rw [e]; simp⟩
  rw [hr', List.getD_eq_getElem?_getD, List.append_assoc, List.getElem?_append_right (Nat.le_refl _)]
  simp
theorem listTo_skip {f : Ca} {n : Nat} (h : devF f n = none) : listTo f (n + 1) = listTo f n := by rw [listTo_succ, h]; simp
theorem cap_index (f : Ca) {n : Nat} (hn : n < 16) (W : World) : (Instr.index 29 (.agg (capC f)) (.int .i64 (n : Int))).run Try.prog W = .ok (.agg #[.int .i64 ((f n 0).getD 0), .bool (f n 0).isSome, .int .i64 ((f n 1).getD 0), .bool (f n 1).isSome]) W := by
  have hs : ∀ W, (sizeOf 28).run Try.prog W = .ok 4 W := fun _ => by kernel_rfl
  have hp : ∀ (x : Array Value) k W, (part 28 x k).run Try.prog W = .ok (.agg (x.extract k (k + 4))) W := fun _ _ _ => by kernel_rfl
  have hx : (capC f).extract (n * 4) (n * 4 + 4) = #[.int .i64 ((f n 0).getD 0), .bool (f n 0).isSome, .int .i64 ((f n 1).getD 0), .bool (f n 1).isSome] := by
    obtain ⟨k0, k1, k2, k3⟩ := capC_cells f hn
    apply Array.ext_getElem?
    intro i
    rw [Array.getElem?_extract, capC_size]
    rcases Nat.lt_or_ge i 4 with hi | hi
    · rcases (show i = 0 ∨ i = 1 ∨ i = 2 ∨ i = 3 by omega) with rfl | rfl | rfl | rfl
      · rw [if_pos (by omega), Nat.add_zero, k0]; rfl
      · rw [if_pos (by omega), k1]; rfl
      · rw [if_pos (by omega), k2]; rfl
      · rw [if_pos (by omega), k3]; rfl
    · rw [if_neg (by omega)]
      exact (Array.getElem?_eq_none_iff.2 hi).symm
  have e1 : (0 : Int) ≤ (n : Int) ∧ (n : Int) < 16 := by omega
  simp only [Instr.index, asIntOf, Sem.run_bind, Sem.run_pure, Result.andThen_ok, run_underlying Try.underlying29]
  rw [if_pos (by omega), Int.toNat_natCast]
  simp only [Sem.run_bind, hs, Result.andThen_ok, hp, hx]

theorem wpIn_scope_a {n : Nat} {P : Program} {c : Code} {Q : Exit → Act → World → Prop} {a : Act} {w : World} (h : c.wpIn Fence.wide n P (Exit.noGoto Q) a w) : (Code.scope c).wpIn Fence.wide n P Q a w :=
  wpIn_wide.2 (wp_scope_straight (wpIn_wide.1 h))
def Nothing : Nat → Prop := fun _ => False
set_option maxRecDepth 100000 in
set_option maxHeartbeats 4000000 in
theorem turns_any (m : Nat) (hm : 1 ≤ m) (b a : Nat) (f : Ca) (w : World) (hb : w.cell? ⟨b, 0, none⟩ = some (.pointer (some ⟨a, 0, none⟩))) (h : CapAt w a f) :
    TurnsOf m Try.prog 35 #[.pointer (some ⟨b, 0, none⟩)] (encE f) (listC f).length Nothing Nothing (fun _ _ => True) w := fun lp J Jx W hW hJ0 hY h0 => by
  have hJ : ∀ k A B, Below A.heap.size A B → J k A → J k B := fun k A B hk => hJ0 k A B (Kept.of_below hk _)
  have hc := k_cell hW hb
  have HR := Lib.hid (show Whole W a 31 (capC f) from (h.later hW).whole)
  have HS := Lib.hid (cellsE f)
  have HJ := Lib.hid hJ
  have HY := Lib.hid hY
  have HIX := Lib.hid (fun n hn W => cap_index f (n := n) hn W)
  have HHM := Lib.hid (fun n W => (show Calls Try.prog 30 #[.agg #[.int .i64 ((f n 0).getD 0), .bool (f n 0).isSome, .int .i64 ((f n 1).getD 0), .bool (f n 1).isSome]] W _ from has_any (f n 0) (f n 1) W))
  have HMM := Lib.hid (fun n W => (show Calls Try.prog 29 #[.agg #[.int .i64 ((f n 0).getD 0), .bool (f n 0).isSome, .int .i64 ((f n 1).getD 0), .bool (f n 1).isSome]] W _ from middle_any (f n 0) (f n 1) (h.oko _ _) (h.oko _ _) W))
  clear hJ0 hJ hY hW hb h
  obtain ⟨cs, hcs⟩ : ∃ cs, cs = capC f := ⟨_, rfl⟩
  rw [← hcs] at HR HS HIX
  clear hcs
  refine callsIn_of_wp Try.func35 rfl trivial ?_ rfl
  simp only [Try.ntmps35, List.size_toArray, List.length_cons, List.length_nil, Nat.reduceAdd, Nat.reduceSub, Array.replicate_succ, Array.replicate_zero, List.push_toArray, List.append_toArray, List.nil_append, List.cons_append]
  gi_wp2
  refine wpIn_scope_a ?_
  gi_wp2
  refine wpIn_label ?_
  gi_wp2_with (refine wpListIn_load_row rfl 29 (.tmp 9) rfl a rfl 31 cs (0, 0) _ HR.out Try.underlying29 rfl (by rw [HS.out.size]; kernel_rfl) ?_)
  clear hc
  gi_loopw [11] (fun i wr => ∃ n : Nat, n ≤ 16 ∧ i = .int .i64 (n : Int) ∧ J (listTo f n).length wr) (fun i _ => 17 - (intOf i).toNat)
  case atStart => exact ⟨0, Nat.zero_le _, rfl, h0⟩
  case round =>
    obtain ⟨n, hn, rfl, hJn⟩ := hrel
    by_cases hlt : n < 16
    · have hix := HIX.out n hlt
      have HH := Lib.hid (HHM.out n)
      have HM := Lib.hid (HMM.out n)
      have hdd : devP (f n 0) (f n 1) = devF f n := rfl
      rw [hdd] at HH HM
      have HJN := Lib.hid hJn
      have e1 : (0 : Int) ≤ (n : Int) := by omega
      have e2 : (n : Int) < 16 := by omega
      clear hJn hdd
      obtain ⟨w1, hw1⟩ : ∃ w1, w1 = wr.alloc (.cells #[.int .i64 ((f n 0).getD 0), .bool (f n 0).isSome, .int .i64 ((f n 1).getD 0), .bool (f n 1).isSome] 28) := ⟨_, rfl⟩
      have hb1 : Below wr.heap.size wr w1 := by rw [hw1]; exact (Below.refl _ _).alloc (Nat.le_refl _) _
      have hW1 : Whole w1 wr.heap.size 28 #[.int .i64 ((f n 0).getD 0), .bool (f n 0).isSome, .int .i64 ((f n 1).getD 0), .bool (f n 1).isSome] := by rw [hw1]; exact Whole.new _ _ _
      have HW1 := Lib.hid hw1
      have H1 := Lib.hid (And.intro hb1 hW1)
      clear hw1 hb1 hW1
      generalize (f n 0).getD 0 = x at *
      generalize (f n 0).isSome = p at *
      generalize (f n 1).getD 0 = z at *
      generalize (f n 1).isSome = q at *
      cases hd : devF f n with
      | none =>
        rw [hd] at HH
        have hsk := listTo_skip hd
        have HJ2 := Lib.hid (hsk ▸ HJN.out)
        clear hd hsk HM
        gi_wp2_with (refine ⟨trivial, ?_⟩; gi_at_call 30; refine (callsIn_wide.2 (HH.out _)).mono ?_; rintro e W2 ⟨rfl, hb2⟩; rw [← HW1.out] at hb2; have HJ3 := Lib.hid (HJ.out _ _ _ (k_then hb2 H1.out.1) HJ2.out); clear hb2)
        go_roundw
        case rel => exact ⟨n + 1, by omega, by go_num, HJ3.out⟩
        case measure => simp [intOf]; omega
      | some v =>
        rw [hd] at HH HM
        obtain ⟨hl1, hl2, hl3⟩ := listTo_at hlt hd
        have HL := Lib.hid (And.intro hl1 (And.intro hl2 hl3))
        clear hd hl1 hl2 hl3
        gi_wp2_with (first
          | (refine ⟨trivial, ?_⟩; gi_at_call 30; refine (callsIn_wide.2 (HH.out _)).mono ?_; rintro e W2 ⟨rfl, hb2⟩; rw [← HW1.out] at hb2; have HB2 := Lib.hid hb2; have c0 := (k_later hb2 H1.out.2).cell 0; have c1 := (k_later hb2 H1.out.2).cell 1; have c2 := (k_later hb2 H1.out.2).cell 2; have c3 := (k_later hb2 H1.out.2).cell 3; simp at c0 c1 c2 c3; clear hb2)
          | (refine ⟨trivial, ?_⟩; gi_at_call 29; refine (callsIn_wide.2 (HM.out _)).mono ?_; rintro e W3 ⟨rfl, hb3⟩; have HJ3 := Lib.hid (HJ.out _ _ _ (k_then (k_then hb3 HB2.out) H1.out.1) HJN.out); have hy := HY.out (listTo f n).length W3 HL.out.1 HJ3.out; rw [show encE f ((listTo f n).length + 1) = #[.int .i64 (n : Int), .int .i64 v] from (by unfold encE; rw [Nat.add_sub_cancel, HL.out.2.1])] at hy; obtain ⟨fn, tmps, assign, body, hy1, hR⟩ := hy; have HR2 := Lib.hid hR; clear hb3 hR c0 c1 c2 c3))
        refine HR2.out.mono ?_
        rintro e W4 (⟨rfl, hJ4, _⟩ | ⟨rfl, hJx, _⟩)
        · have HJ4 := Lib.hid (HL.out.2.2.symm ▸ hJ4)
          clear hJ4 hy1 HR2
          gi_wp2
          go_roundw
          case rel => exact ⟨n + 1, by omega, by go_num, HJ4.out⟩
          case measure => simp [intOf]; omega
        · have HJX := Lib.hid hJx
          have hll := HL.out.1
          clear hJx hy1 HR2
          gi_wp2
          dsimp only [Exit.noGoto]
          refine bodyPost_ret (results_none rfl _ _ _) rfl ?_
          exact ⟨⟨_, rfl⟩, .inr ⟨(listTo f n).length + 1, by omega, by omega, HJX.out, trivial⟩⟩
    · obtain rfl : n = 16 := by omega
      have HJN := Lib.hid hJn
      clear hJn
      gi_wp2
      dsimp only [Exit.noGoto]
      go_end0
      exact ⟨⟨_, rfl⟩, .inl ⟨HJN.out, trivial⟩⟩
end Go.Proofs.Ytjgbgakdnapdhaa
