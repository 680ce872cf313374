/- The reader: its bytes and noughts behind their end; number, by a contract. No condition. | number, payload and the folding closure of a reader, by contracts. No condition. | The folding closure and payload of a reader, by contracts. No condition. -/
import Derived.Lib.AppendZeros
import Derived.Deep.RegionHeld3
import Derived.Deep.RegionLaw
import Derived.Test.YtljcaigaofalbaaQO
import Derived.Test.YtljcaigaofalbaaQE
namespace Go.Proofs.Ytljcaigaofalbaa
open Go.RowKit Go.Shelf

def zer (m : Nat) : List UInt8 := List.replicate m 0
theorem zer_length (m : Nat) : (zer m).length = m := by simp [zer]
theorem zeroCells_u8 (m : Nat) : Builtin.zeroCells (Value.int .u8 0).cells m = (bv (zer m)).toArray := by
  apply Array.ext
  · simp [Builtin.zeroCells, Value.cells, bv, zer]
  · intro i h1 h2
    simp [Builtin.zeroCells, Value.cells, bv, zer, Nat.mod_one]
theorem pad_short {w : Nat} {l : List UInt8} (h : l.length ≤ w) : pad w l = l ++ zer (w - l.length) := by
  unfold pad zer
  apply List.ext_getElem
  · simp; omega
  · intro i h1 h2
    simp only [List.getElem_map, List.getElem_range, List.getD_eq_getElem?_getD]
    rw [List.getElem_append]
    split
    · rename_i hi; rw [List.getElem?_eq_getElem hi]; rfl
    · rename_i hi; rw [List.getElem?_eq_none (by omega)]; simp
theorem pad_long {w : Nat} {l : List UInt8} (h : w ≤ l.length) : pad w l = l.take w := by
  unfold pad
  apply List.ext_getElem
  · simp; omega
  · intro i h1 h2
    have hi : i < l.length := by simp at h1; omega
    simp [List.getElem?_eq_getElem hi]
theorem pad_length (w : Nat) (l : List UInt8) : (pad w l).length = w := by simp [pad]

set_option maxHeartbeats 1000000 in
/-- append(x, make([]byte, m)...), onto a row of one's own. -/
theorem run_append_zeros {P : Program} (w : World) (base : Nat) (t tn ty e : TypeId) (i : TypeInfo) (kn : IntKind) (ht : P.underlying t = some (.slice e)) (htn : P.underlying tn = some (.int kn)) (hi : P.info? e = some i) (hz : i.zero = some (.int .u8 0))
    (hsize : i.size = 1) (hby : i.bytes = 1) (v : Value) (n : Nat) (l : List UInt8) (hown : w.ownsRow base e 1 v n (bv l)) (m : Nat) (h0 : 0 < m) (hlen : n + m ≤ 1099511627776) (hbase : base ≤ w.heap.size) :
    ∃ v' w', (Builtin.append_ #[t, tn] ty #[v, .int .i64 (m : Int)]).run P w = .ok v' w' ∧ w'.ownsRow base e 1 v' (n + m) (bv (l ++ zer m)) ∧ w.grownBy w' v.ownBlock ∧ (v'.ownBlock = v.ownBlock ∨ v'.ownBlock = some w.heap.size) := by
  have hl : l.length = n := by have := hown.1; rw [bv_length] at this; omega
  have hlen' : (bv (l ++ zer m)).length = (n + m) * 1 := by simp [bv_length, zer_length, hl]
  have hzs : (Value.int .u8 0).cells.size = 1 := rfl
  have hw : IntKind.i64.wrap (m : Int) = m := IntWalk.i64_in _ (by omega)
  have hneg : ¬ ((m : Int) < 0) := by omega
  have h48i : ¬ (281474976710656 < (m : Int) * (i.bytes : Int)) := by rw [hby]; omega
  have hm : m ≠ 0 := by omega
  have hms : ¬ (m * i.size = 0) := by rw [hsize]; omega
  have grown : ∀ (old : Nat), ∀ (row : Option Nat),
      (w.drew.alloc (.cells ((bv l).toArray ++ (bv (zer m)).toArray ++ Builtin.zeroCells (Value.int .u8 0).cells (grownCap w (n + m) old e - (n + m))) e)).ownsRow base e 1
        (.slice (some ⟨w.heap.size, 0, none⟩) (n + m) (grownCap w (n + m) old e)) (n + m) (bv (l ++ zer m)) ∧
      w.grownBy (w.drew.alloc (.cells ((bv l).toArray ++ (bv (zer m)).toArray ++ Builtin.zeroCells (Value.int .u8 0).cells (grownCap w (n + m) old e - (n + m))) e)) row := by
    intro old row
    have hge := grownCap_ge w (n + m) old e
    have hcm : grownCap w (n + m) old e ≤ maxLen := grownCap_le_maxLen w (n + m) old e (by simp only [maxLen]; omega)
    refine ⟨⟨hlen', .inr ⟨w.heap.size, _, _, rfl, hbase, heap_alloc_new w.drew _, hge, hcm, ?_, ?_⟩⟩, ⟨rfl, rfl, rfl, by simp, fun k hk _ => Below.heap_alloc w.drew _ k hk⟩⟩
    · simp only [Array.size_append, List.size_toArray, size_zeroCells, hzs, bv_length, zer_length, hl]
      omega
    · simp only [Array.toList_append]
      rw [← bv_append]
      exact List.take_left' (by rw [hlen'])
  rcases hown.2 with ⟨rfl, rfl⟩ | ⟨g, cap, cur, rfl, hbg, hg, hnc, hcm, hcs, htake⟩
  · obtain rfl : l = [] := List.eq_nil_of_length_eq_zero hl
    have hr := Lib.run_append_nil_zeros (P := P) w t tn ty e i (.int .u8 0) .i64 kn ht htn hi hz m h0 (by omega) (by omega) (by rw [hby]; omega)
    have hgr := grown 0 (Value.ownBlock (.slice none 0 0))
    rw [zeroCells_u8] at hr
    simp only [Nat.zero_add, bv, List.map_nil, List.nil_append, Array.empty_append] at hgr hr ⊢
    exact ⟨_, _, hr, hgr.1, hgr.2, .inr rfl⟩
  · by_cases hroom : n + m ≤ cap
    · have hst := run_storeCells_at P g (n * i.size) e (bv (zer m)) 0 cur w hg (by rw [hsize, bv_length, zer_length, hcs]; omega) bv_one
      simp only [Nat.add_zero] at hst
      have hr : (Builtin.append_ #[t, tn] ty #[.slice (some ⟨g, 0, none⟩) n cap, .int .i64 (m : Int)]).run P w = .ok (.slice (some ⟨g, 0, none⟩) (n + m) cap) (w.setRow g (cur.toList.take (n * i.size) ++ bv (zer m) ++ cur.toList.drop (n * i.size + (bv (zer m)).length)).toArray) := by
        simp [Builtin.append_, run_underlying ht, run_underlying htn, sizeOf, typeInfo, zeroValue, hi, hz, asInt, asIntOf, hw, hneg, hms, h48i, zeroCells_u8, hroom, Addr.add_lit, hst]
      refine ⟨_, _, hr, ⟨hlen', .inr ⟨g, cap, _, rfl, hbg, setRow_heap w g cur _ e _ hg, hroom, hcm, ?_, ?_⟩⟩, ⟨rfl, rfl, rfl, by simp, fun k _ hk => setRow_other w g k _ (fun e => hk (by simp [Value.ownBlock, e]))⟩, .inl rfl⟩
      · simp only [List.size_toArray, List.length_append, List.length_take, List.length_drop, Array.length_toList, bv_length, zer_length, hsize]
        omega
      · rw [hsize, htake, ← bv_append]
        exact List.take_left' (by rw [hlen'])
    · have hfo := run_firstCells_some (P := P) w.drew i.size n ⟨g, 0, none⟩ n cap (bv l) (by rw [bv_length, hsize, hl, Nat.mul_one]) (by
        have holds : ∀ j u, (bv l)[j]? = some u → w.cell? ((⟨g, 0, none⟩ : Addr).add j) = some u := hown.cells (g := g) rfl
        simpa using holds)
      have hn : ¬ (n + m ≤ cap) := hroom
      have h63' : ¬ (9223372036854775807 < ((n : Int) + (m : Int))) := by omega
      have hfits := growslice_fits (need := n + m) (old := cap) (bytes := i.bytes) (by omega) (by rw [hby]; omega)
      have h48' : ¬ (281474976710656 < Builtin.nextslicecap (n + m) cap * i.bytes) := by omega
      have hr : (Builtin.append_ #[t, tn] ty #[.slice (some ⟨g, 0, none⟩) n cap, .int .i64 (m : Int)]).run P w = .ok (.slice (some ⟨w.heap.size, 0, none⟩) (n + m) (grownCap w (n + m) cap e)) (w.drew.alloc (.cells ((bv l).toArray ++ (bv (zer m)).toArray ++ Builtin.zeroCells (Value.int .u8 0).cells (grownCap w (n + m) cap e - (n + m))) e)) := by
        simp [Builtin.append_, run_underlying ht, run_underlying htn, sizeOf, typeInfo, zeroValue, hi, hz, asInt, asIntOf, hw, hneg, hms, h48i, zeroCells_u8, hn, h63', h48', Question.forced, hfo, newRow, grownCap]
      have hgr := grown cap (Value.ownBlock (.slice (some ⟨g, 0, none⟩) n cap))
      exact ⟨_, _, hr, hgr.1, hgr.2, .inr rfl⟩

theorem step_append_zeros {P : Program} {ops : Array Oper} {o : Oper} {a : Act} {w : World} {K : Act → World → Prop} {Q : Exit → Act → World → Prop} {E : Prop} (hgd : o.guard = none) (s x : Operand) (t tn : TypeId)
    (ho : o.op = .call { callee := .builtin .append, args := #[s, x], argTypes := #[t, tn] }) (base : Nat)
    (e : TypeId) (i : TypeInfo) (kn : IntKind) (ht : P.underlying t = some (.slice e)) (htn : P.underlying tn = some (.int kn)) (hi : P.info? e = some i) (hz : i.zero = some (.int .u8 0)) (hsize : i.size = 1) (hby : i.bytes = 1)
    (v : Value) (n : Nat) (l : List UInt8) (hs : a.eval s = v) (hown : w.ownsRow base e 1 v n (bv l)) (m : Nat) (hx : a.eval x = .int .i64 (m : Int)) (h0 : 0 < m) (hlen : n + m ≤ 1099511627776) (hbase : base ≤ w.heap.size)
    (h : ∀ v' w', w'.ownsRow base e 1 v' (n + m) (bv (l ++ zer m)) → w.grownBy w' v.ownBlock → (v'.ownBlock = v.ownBlock ∨ v'.ownBlock = some w.heap.size) → K (a.put o.dst v') w') :
    if Region.wanted o (yielded ops a.tmps) = true then Oper.wp P o a w K Q else E := by
  have hw : Region.wanted o (yielded ops a.tmps) = true := by simp [Region.wanted, hgd]
  rw [if_pos hw]
  obtain ⟨v', w', hrun, h2, h3, h4⟩ := run_append_zeros (P := P) w base t tn o.type e i kn ht htn hi hz hsize hby v n l hown m h0 hlen hbase
  unfold Oper.wp execOp
  simp only [ho, resolve, invoke, builtin, Sem.run_bind, Sem.run_pure, Result.andThen_ok, List.map_toArray, List.map_cons, List.map_nil, hs, hx, hrun]
  exact h v' w' h2 h3 h4

/-- A reader at block r, of the blocks S, with l left. -/
structure RdAt (w : World) (S : Nat → Prop) (r : Nat) (l : List UInt8) : Prop where
  rd : ∃ i T, Whole w r 89 #[.pointer (some ⟨i, 0, none⟩)] ∧ InAt w T i (some l) ∧ ¬ T r ∧ ∀ k, T k → S k
  own : S r
  lt : ∀ k, S k → k < w.heap.size
theorem RdAt.kept {w w' : World} {S F : Nat → Prop} {r : Nat} {l : List UInt8} (h : RdAt w S r l) (hk : Kept F w w') (hF : ∀ k, S k → ¬ F k) : RdAt w' S r l := by
  obtain ⟨i, T, h1, h2, h3, h4⟩ := h.rd
  exact ⟨⟨i, T, h1.kept hk (hF _ h.own), h2.keep hk (fun k hk' => hF _ (h4 k hk')), h3, h4⟩, h.own, fun k hk' => Nat.lt_of_lt_of_le (h.lt k hk') hk.size⟩
theorem RdAt.later {w w' : World} {S : Nat → Prop} {r : Nat} {l : List UInt8} (h : RdAt w S r l) (hb : Below w.heap.size w w') : RdAt w' S r l := h.kept (Kept.of_below hb Empty) (fun _ _ h => h)

/-- What a read leaves. -/
def Red (w : World) (S : Nat → Prop) (r : Nat) (v : Value) (l : List UInt8) (e : Ending) (w' : World) : Prop :=
  e = .returned v ∧ RdAt w' (Grow S w w') r l ∧ Kept S w w'
end Go.Proofs.Ytljcaigaofalbaa

namespace Go.Proofs.Ytljcaigaofalbaa
open Go.RowKit Go.Shelf

theorem beVal_small {l : List UInt8} (h : l.length ≤ 4) : (beVal l : Int) ≤ 4294967295 := by
  have h1 := beVal_lt l
  have h2 : 2 ^ (8 * l.length) ≤ 2 ^ 32 := Nat.pow_le_pow_right (by decide) (by omega)
  have : beVal l < 4294967296 := Nat.lt_of_lt_of_le h1 h2
  omega

theorem step_call {P : Program} {ops : Array Oper} {o : Oper} {a : Act} {w : World} {K : Act → World → Prop} {Q : Exit → Act → World → Prop} {E : Prop} (hgd : o.guard = none) (f : FuncId) (xs : List Operand) (ts : Array TypeId)
    (ho : o.op = .call { callee := .value (.func f), args := xs.toArray, argTypes := ts }) (hen : ∀ args W, (callFunc f args).run P W = .ok (.enter f args) W) (vs : List Value) (hv : xs.map a.eval = vs)
    (h : Calls P f vs.toArray w fun e w' => ∃ v, e = .returned v ∧ K (a.put o.dst v) w') : if Region.wanted o (yielded ops a.tmps) = true then Oper.wp P o a w K Q else E := by
  have hw : Region.wanted o (yielded ops a.tmps) = true := by simp [Region.wanted, hgd]
  rw [if_pos hw]
  unfold Oper.wp execOp
  simp only [ho, resolve, invoke, Act.eval, Sem.run_bind, Oper.upon]
  have hv' : Array.map a.eval xs.toArray = vs.toArray := by rw [List.map_toArray, hv]
  rw [hv']
  simp only [Deferred.ofValue, Sem.run_pure, Result.andThen_ok, Array.empty_append, Array.append_empty, hen]
  refine h.mono ?_
  rintro _ _ ⟨v, rfl, hk⟩
  exact hk
theorem from_own {w : World} {base n : Nat} {v : Value} {l : List UInt8} (h : w.ownsRow base 5 1 v n (bv l)) (hn : n ≤ 549755813888) :
    Calls Try.prog 53 #[v] w fun e w' => ∃ i S, e = .returned (.pointer (some ⟨i, 0, none⟩)) ∧ InAt w' S i (some l) ∧ (∀ k, S k → w.heap.size ≤ k) ∧ Below w.heap.size w w' := by
  obtain ⟨A, c, rfl, _, hs, _, hz⟩ := Src.of_own h
  exact from_any (w := w) A n c l hs (fun e => (hz e).2) hn

set_option maxRecDepth 100000 in
set_option maxHeartbeats 1000000 in
theorem number_long (w : World) (S : Nat → Prop) (r : Nat) (l : List UInt8) (wd : Nat) (h : RdAt w S r l) (hwd : isW (wd : Int) = true) (h4 : wd ≤ 4) (hl : l.length ≤ 1000000000) (hlen : wd ≤ l.length) :
    Calls Try.prog 88 #[.pointer (some ⟨r, 0, none⟩), .int .i64 (wd : Int)] w (Red w S r (.int .i64 (beVal (pad wd l) : Int)) (l.drop wd)) := by
  obtain ⟨i, T, hr, hi, hTr, hTS⟩ := h.rd
  have hir : i ≠ r := fun e => hTr (e ▸ hi.own)
  have c0 := hr.cell 0
  simp at c0
  have hL := inLeft_any hi
  have hG := get_any w T i (some l) (wd : Int) hi (by simp; omega)
  rw [getSt_take l wd hwd hlen] at hG
  simp only [Option.getD_some] at hL
  have hv : beVal (l.take wd) = beVal (pad wd l) := by rw [pad_long hlen]
  rw [hv] at hG
  have hsm := beVal_small (l := pad wd l) (by rw [pad_length]; exact h4)
  have hfin : ∀ w1, InAt w1 T i (some (l.drop wd)) → Kept (fun k => k = i) w w1 → RdAt w1 (Grow S w w1) r (l.drop wd) ∧ Kept S w w1 := fun w1 a b =>
    ⟨⟨⟨i, T, hr.kept b (fun e => hir e.symm), a, hTr, fun k hk => .inl (hTS k hk)⟩, .inl h.own, Grow.lt h.lt b.size⟩, b.mono (fun k e => e ▸ hTS i hi.own)⟩
  generalize beVal (pad wd l) = val at *
  have HL := Lib.hid hL
  have HG := Lib.hid hG
  have HF := Lib.hid hfin
  obtain ⟨N, hN⟩ : ∃ N, N = l.length := ⟨_, rfl⟩
  rw [← hN] at HL hlen hl
  clear h hr hi hTr hTS hir hL hG hv hfin hwd
  go_enter Try.func88, Try.ntmps88
  go_wp2_with (first
    | (go_at_call 90; refine HL.out.mono ?_; rintro e w1 ⟨rfl, rfl⟩)
    | (go_at_call 111; refine HG.out.mono ?_; rintro e w1 ⟨rfl, hi1, hk1⟩))
  go_ret
  exact ⟨rfl, HF.out _ hi1 hk1⟩


set_option maxRecDepth 100000 in
set_option maxHeartbeats 1000000 in
theorem number_short (w : World) (S : Nat → Prop) (r : Nat) (l : List UInt8) (wd : Nat) (h : RdAt w S r l) (hwd : isW (wd : Int) = true) (h4 : wd ≤ 4) (hlen : l.length < wd) :
    Calls Try.prog 88 #[.pointer (some ⟨r, 0, none⟩), .int .i64 (wd : Int)] w (Red w S r (.int .i64 (beVal (pad wd l) : Int)) (l.drop wd)) := by
  obtain ⟨i, T, hr, hi, hTr, hTS⟩ := h.rd
  have hir : i ≠ r := fun e => hTr (e ▸ hi.own)
  have hrd := hr.drew
  have hid : InAt w.drew T i (some l) := hi.drewN 1
  have c0 := hr.cell 0
  simp at c0
  have c0d := hrd.cell 0
  simp at c0d
  have hL := inLeft_any hi
  have hLd := inLeft_any hid
  have hTk := inTake_any (l.length : Int) hid (by simp; omega)
  rw [takeSt_take l l.length (Nat.le_refl _), List.take_length, List.drop_length] at hTk
  simp only [Option.getD_some] at hL hLd
  obtain ⟨i0, hi0, hz0, hz1, hz2⟩ := info_parts u8_info
  obtain ⟨m, hm⟩ : ∃ m, m = wd - l.length := ⟨_, rfl⟩
  have hm0 : 0 < m := by omega
  have hle : l.length + m ≤ 1099511627776 := by omega
  have hle2 : l.length + m ≤ 549755813888 := by omega
  have hp := pad_short (w := wd) (l := l) (by omega)
  rw [← hm] at hp
  have hsm := beVal_small (l := pad wd l) (by rw [pad_length]; exact h4)
  have hdr : l.drop wd = [] := List.drop_eq_nil_of_le (by omega)
  have hgs : getSt (some (l ++ zer m)) (wd : Int) = (some [], beVal (pad wd l)) := by
    rw [← hp, getSt_take _ wd hwd (by rw [pad_length]; exact Nat.le_refl _)]
    have h1 := pad_length wd l
    rw [List.take_of_length_le (by omega), List.drop_eq_nil_of_le (by omega)]
  rw [hdr]
  have e1 : (wd : Int) - (l.length : Int) = (m : Int) := by omega
  have hlz : (l ++ zer m).length = wd := by rw [List.length_append, zer_length]; omega
  have hfin : ∀ (w5 w6 w7 : World) (i' : Nat) (S' : Nat → Prop), Kept (fun k => k = i) w.drew w5 → Whole w5 r 89 #[.pointer (some ⟨i, 0, none⟩)] → (∀ k, S' k → w.heap.size ≤ k) → S' i' → w6 = w5.setCell ⟨r, 0, none⟩ (.pointer (some ⟨i', 0, none⟩)) → InAt w7 S' i' (some []) → Kept (fun k => k = i') w6 w7 → RdAt w7 (Grow S w w7) r [] ∧ Kept S w w7 := fun w5 w6 w7 i' S' k5 hW5 hS' hi5 e6 hin7 k7 => by
    have z5 := k5.size
    have z7 := k7.size
    have z6 : w6.heap.size = w5.heap.size := by rw [e6]; simp [World.setCell]
    have zd : w.drew.heap.size = w.heap.size := rfl
    have rlt := h.lt r h.own
    have hi' : w.heap.size ≤ i' := hS' _ hi5
    have hW6 : Whole w6 r 89 #[.pointer (some ⟨i', 0, none⟩)] := by rw [e6]; exact hW5.set 0 _
    have kk : Kept S w w7 := by
      have a2 : Kept S w w5 := (Kept.refl S w).drew.trans (k5.mono (fun k e => e ▸ hTS i hi.own)) (fun _ _ h => h)
      have a3 : Kept S w w6 := by rw [e6]; exact a2.setCell (.inl h.own) _
      exact a3.trans k7 (fun k hk e => by have e : k = i' := e; omega)
    refine ⟨⟨⟨i', S', hW6.kept k7 (fun e => by have e : r = i' := e; omega), hin7, fun hS => by have := hS' r hS; omega, fun k hk => .inr ⟨by have := hS' k hk; omega, hin7.lt k hk⟩⟩, .inl h.own, Grow.lt h.lt kk.size⟩, kk⟩
  generalize beVal (pad wd l) = val at *
  have HL := Lib.hid hL
  have HLd := Lib.hid hLd
  have HT := Lib.hid hTk
  have HF := Lib.hid hfin
  have HG := Lib.hid hgs
  have HZ := Lib.hid hlz
  have HM := Lib.hid hm
  have HR := Lib.hid hrd
  have HIR := Lib.hid hir
  have HS := Lib.hid h
  obtain ⟨N, hN⟩ : ∃ N, N = l.length := ⟨_, rfl⟩
  have HN := Lib.hid hN
  rw [← hN] at HL HLd hlen e1 HT
  clear h hr hi hTr hTS hir hL hLd hTk hfin hgs hrd hid hdr hlz hN hp hwd hm
  go_enter Try.func88, Try.ntmps88
  go_wp2_with (go_at_call 90; refine HL.out.mono ?_; rintro e w1 ⟨rfl, rfl⟩)
  have HCK := Lib.hid (fun (w2 w3 : World) (v2 : Value) (h2 : w2.ownsRow w.drew.heap.size 5 1 v2 l.length (bv l)) (c2 : Whole w2 r 89 #[.pointer (some ⟨i, 0, none⟩)]) (hg : w2.grownBy w3 v2.ownBlock) => (show Whole w3 r 89 #[.pointer (some ⟨i, 0, none⟩)] from c2.grown hg (fun e => by
    have := (h2.lt r e.symm).1
    have := HS.out.lt r HS.out.own
    have : w.drew.heap.size = w.heap.size := rfl
    omega)))
  have HFR := Lib.hid (fun (W : World) (v : Value) (h : W.ownsRow w.heap.size 5 1 v (l.length + m) (bv (l ++ zer m))) => from_own h hle2)
  have kL := Lib.hid (enters_of (P := Try.prog) Try.func90 (by kernel_rfl) rfl)
  have kT := Lib.hid (enters_of (P := Try.prog) Try.func110 (by kernel_rfl) rfl)
  have kF := Lib.hid (enters_of (P := Try.prog) Try.func53 (by kernel_rfl) rfl)
  clear c0
  go_region_law (first
    | (refine step_call (by rfl) 90 [.tmp 23] #[86] (by rfl) kL.out [.pointer (some ⟨i, 0, none⟩)] (by rfl) ?_; refine HLd.out.mono ?_; rintro e w1 ⟨rfl, rfl⟩; refine ⟨.int .i64 (N : Int), rfl, ?_⟩)
    | (refine step_call (by rfl) 110 [.tmp 19, .tmp 24] #[86, 3] (by rfl) kT.out [.pointer (some ⟨i, 0, none⟩), .int .i64 (N : Int)] (by rfl) ?_; refine HT.out.mono ?_; rintro e w2 ⟨v2, rfl, hown2, hin2, hk2⟩; refine ⟨v2, rfl, ?_⟩; have HO2 := Lib.hid hown2; have HK2 := Lib.hid hk2; have HW2 := Lib.hid (HR.out.kept hk2 (fun e => HIR.out e.symm)); have c02 := HW2.out.cell 0; have hzz := hk2.size; simp at c02; clear hown2 hk2)
    | (refine step_append_zeros (by rfl) (.tmp 25) (.tmp 26) 30 3 (by rfl) w.heap.size 5 i0 .i64 Try.underlying30 Try.underlying3 hi0 hz0 hz1 hz2 v2 l.length l (by rfl) (by exact HO2.out) m (by rfl) hm0 hle hzz ?_; intro v3 w3 hown3 hg3 _; have HG3 := Lib.hid (And.intro hown3 hg3); have HW3 := Lib.hid (HCK.out _ _ _ HO2.out HW2.out hg3); have c03 := HW3.out.cell 0; simp at c03; clear hown3 hg3)
    | (refine step_call (by rfl) 53 [.tmp 27] #[30] (by rfl) kF.out [v3] (by rfl) ?_; refine (HFR.out w3 v3 HG3.out.1).mono ?_; rintro e w5 ⟨i5, S5, rfl, hin5, hS5, hb5⟩; refine ⟨.pointer (some ⟨i5, 0, none⟩), rfl, ?_⟩; have hw5 := k_later hb5 HW3.out; have c04 := hw5.cell 0; have f04 := hw5.frozen 0; simp at c04; clear hw5; have HI5 := Lib.hid (And.intro hin5 (And.intro hS5 hb5)); clear hin5 hS5 hb5))
  all_goals
    have hin5 := HI5.out.1
    have hS5 := HI5.out.2.1
    have rlt := HS.out.lt r HS.out.own
    have zd : w.drew.heap.size = w.heap.size := rfl
    have k3 : Kept (fun k => k = i) w.drew w3 := HK2.out.grown HG3.out.2 (fun k hk => .inr (HO2.out.lt k hk).1)
    have k5 : Kept (fun k => k = i) w.drew w5 := k3.trans (Kept.of_below HI5.out.2.2 _) (fun _ _ h => h)
    have hS5' : ∀ k, S5 k → w.heap.size ≤ k := fun k hk => by have := hS5 k hk; have := k3.size; omega
    obtain ⟨w6, hw6⟩ : ∃ w6, w6 = w5.setCell ⟨r, 0, none⟩ (.pointer (some ⟨i5, 0, none⟩)) := ⟨_, rfl⟩
    have hW5 := k_later HI5.out.2.2 HW3.out
    have hW6 : Whole w6 r 89 #[.pointer (some ⟨i5, 0, none⟩)] := by rw [hw6]; exact hW5.set 0 _
    have c06 := hW6.cell 0
    simp at c06
    have hin6 : InAt w6 S5 i5 (some (l ++ zer m)) := by
      rw [hw6]
      exact hin5.keep (Kept.setCell (S := fun k => k = r) (Kept.refl _ w5) (p := ⟨r, 0, none⟩) (.inl rfl) _) (fun k hk e => by have e : k = r := e; have := hS5' k hk; omega)
    have hG6 := get_any w6 S5 i5 (some (l ++ zer m)) (wd : Int) hin6 (by have := HZ.out; simp only [Option.getD_some]; omega)
    rw [HG.out] at hG6
    have HG6 := Lib.hid hG6
    have HFF := Lib.hid (fun w7 => HF.out w5 w6 w7 i5 S5 k5 hW5 hS5' hin5.own hw6)
    rw [← hw6]
    clear hin5 hS5 k3 k5 hS5' hW5 hW6 hin6 hG6 c02 c03 c04 f04 hw6 HI5
    go_wp2_with (go_at_call 111; refine HG6.out.mono ?_; rintro e w7 ⟨rfl, hin7, hk7⟩)
    go_ret
    exact ⟨rfl, HFF.out _ hin7 hk7⟩
end Go.Proofs.Ytljcaigaofalbaa

namespace Go.Proofs.Ytljcaigaofalbaa
open Go.RowKit Go.Shelf

theorem number_any (w : World) (S : Nat → Prop) (r : Nat) (l : List UInt8) (wd : Nat) (h : RdAt w S r l) (hwd : isW (wd : Int) = true) (h4 : wd ≤ 4) (hl : l.length ≤ 1000000000) :
    Calls Try.prog 88 #[.pointer (some ⟨r, 0, none⟩), .int .i64 (wd : Int)] w (Red w S r (.int .i64 (beVal (pad wd l) : Int)) (l.drop wd)) := by
  rcases Nat.lt_or_ge l.length wd with hlt | hge
  · exact number_short w S r l wd h hwd h4 hlt
  · exact number_long w S r l wd h hwd h4 hl hge

set_option maxRecDepth 100000 in
set_option maxHeartbeats 2000000 in
theorem fold_any (w : World) (S : Nat → Prop) (r b : Nat) (l : List UInt8) (wd : Nat) (lo hi : Int) (h : RdAt w S r l) (hb : w.cell? ⟨b, 0, none⟩ = some (.pointer (some ⟨r, 0, none⟩))) (hbS : ¬ S b) (hwd : isW (wd : Int) = true) (h4 : wd ≤ 4) (hl : l.length ≤ 1000000000)
    (hlo : -1000000 ≤ lo) (hle : lo ≤ hi) (hhi : hi ≤ 3000000000) :
    Calls Try.prog 87 #[.agg #[.int .i64 (wd : Int), .int .i64 lo, .int .i64 hi], .pointer (some ⟨b, 0, none⟩)] w (Red w S r (.int .i64 (lo + num wd (hi - lo + 1) l)) (l.drop wd)) := by
  obtain ⟨W1, hW1⟩ : ∃ W1, W1 = (w.alloc (.cells #[.int .i64 (wd : Int), .int .i64 lo, .int .i64 hi] 72)) := ⟨_, rfl⟩
  have hb1 : Below w.heap.size w W1 := by rw [hW1]; exact (Below.refl _ _).alloc (Nat.le_refl _) _
  have hX : Whole W1 w.heap.size 72 #[.int .i64 (wd : Int), .int .i64 lo, .int .i64 hi] := by rw [hW1]; exact Whole.new _ _ _
  have h1 := (h.later hb1).later (below_drewN (Below.refl W1.heap.size W1) 1)
  have hB1 := k_cell hb1 hb
  have hsm := beVal_small (l := pad wd l) (by rw [pad_length]; exact h4)
  have hN := fun (hR : RdAt W1.drew S r l) => number_any W1.drew S r l wd hR hwd h4 hl
  have hq : (Int.tmod (beVal (pad wd l) : Int) (hi - lo + 1)) = num wd (hi - lo + 1) l := by unfold num; exact Int.tmod_eq_emod_of_nonneg (by omega)
  have hnr := num_lt (w := wd) (l := l) (show (0 : Int) < hi - lo + 1 by omega)
  have hnS : ¬ S w.heap.size := fun hs => by have := h.lt _ hs; omega
  have hfin : ∀ W2, RdAt W2 (Grow S W1.drew W2) r (l.drop wd) → Kept S W1.drew W2 → RdAt W2 (Grow S w W2) r (l.drop wd) ∧ Kept S w W2 := fun W2 a k => by
    have kk : Kept S w W2 := (Kept.of_below hb1 S).trans (((Kept.refl S W1).drew).trans k (fun _ _ h => h)) (fun _ _ h => h)
    refine ⟨⟨?_, .inl h.own, Grow.lt h.lt kk.size⟩, kk⟩
    obtain ⟨i, T, a1, a2, a3, a4⟩ := a.rd
    refine ⟨i, T, a1, a2, a3, fun k hk => ?_⟩
    rcases a4 k hk with g | g
    · exact .inl g
    · exact .inr ⟨by have := hb1.size; have : W1.drew.heap.size = W1.heap.size := rfl; omega, g.2⟩
  have v1 : IntKind.i64.wrap (hi - lo) = hi - lo := IntWalk.i64_in _ (by omega)
  have v2 : IntKind.i64.wrap (hi - lo + 1) = hi - lo + 1 := IntWalk.i64_in _ (by omega)
  have v3 : ¬ (hi - lo + 1 = 0) := by omega
  have v4 : IntKind.i64.wrap (num wd (hi - lo + 1) l) = num wd (hi - lo + 1) l := IntWalk.i64_in _ (by omega)
  have v5 : IntKind.i64.wrap (lo + num wd (hi - lo + 1) l) = lo + num wd (hi - lo + 1) l := IntWalk.i64_in _ (by omega)
  have hNN := hN h1
  generalize num wd (hi - lo + 1) l = q at *
  generalize beVal (pad wd l) = val at *
  have HN := Lib.hid hNN
  have HF := Lib.hid hfin
  have x0 := hX.drew.cell 0
  have x1 := hX.drew.cell 1
  have x2 := hX.drew.cell 2
  simp at x0 x1 x2
  have HX := Lib.hid (And.intro hX.drew (And.intro hB1 (And.intro hnS hbS)))
  have hBd : W1.drew.cell? ⟨b, 0, none⟩ = some (.pointer (some ⟨r, 0, none⟩)) := hB1
  have HC := Lib.hid (fun (W2 : World) (hk : Kept S W1.drew W2) => (show W2.cell? ⟨w.heap.size, 0, none⟩ = some (.int .i64 (wd : Int)) ∧ W2.cell? ⟨w.heap.size, 1, none⟩ = some (.int .i64 lo) ∧ W2.cell? ⟨w.heap.size, 2, none⟩ = some (.int .i64 hi) ∧ W2.cell? ⟨b, 0, none⟩ = some (.pointer (some ⟨r, 0, none⟩)) from ⟨hk.cell x0 hnS, hk.cell x1 hnS, hk.cell x2 hnS, hk.cell hBd hbS⟩))
  clear h hb hbS hwd hl hX h1 hB1 hN hfin hnS hNN hb1 hnr hsm
  go_enter Try.func87, Try.ntmps87
  go_upto_region 1 with fail
  rw [← hW1]
  clear hW1
  go_region_held3 (fun W' => W'.cell? ⟨w.heap.size, 0, none⟩ = some (.int .i64 (wd : Int)) ∧ W'.cell? ⟨w.heap.size, 1, none⟩ = some (.int .i64 lo) ∧ W'.cell? ⟨w.heap.size, 2, none⟩ = some (.int .i64 hi) ∧ W'.cell? ⟨b, 0, none⟩ = some (.pointer (some ⟨r, 0, none⟩))) (first | exact ⟨x0, x1, x2, hBd⟩ | exact HC.out _ hk2 | go_keep) (first
    | (go_at_call 88; refine HN.out.mono ?_; rintro e w2 ⟨rfl, hr2, hk2⟩))
  all_goals
    go_wp2
    go_ret
    exact ⟨rfl, HF.out _ hr2 hk2⟩


/-- A slice in new memory that reads as m; the reader as it was, but for what was read. -/
def Paid (w : World) (S : Nat → Prop) (r : Nat) (m l : List UInt8) (e : Ending) (w' : World) : Prop :=
  ∃ v, e = .returned v ∧ w'.ownsRow w.heap.size 5 1 v m.length (bv m) ∧ RdAt w' S r l ∧ Kept S w w'
set_option maxRecDepth 100000 in
set_option maxHeartbeats 2000000 in
theorem payload_any (w : World) (S : Nat → Prop) (r : Nat) (l : List UInt8) (k : Nat) (h : RdAt w S r l) (hl : l.length ≤ 1000000000) (hk : k ≤ 1000) :
    Calls Try.prog 113 #[.pointer (some ⟨r, 0, none⟩), .int .i64 (k : Int)] w (Paid w S r (l.take k) (l.drop k)) := by
  obtain ⟨i, T, hr, hi, hTr, hTS⟩ := h.rd
  have hir : i ≠ r := fun e => hTr (e ▸ hi.own)
  have hrd := hr.drew
  have hid : InAt w.drew T i (some l) := hi.drewN 1
  have c0d := hrd.cell 0
  simp at c0d
  have hLd := inLeft_any hid
  simp only [Option.getD_some] at hLd
  obtain ⟨m, hm⟩ : ∃ m, m = min k l.length := ⟨_, rfl⟩
  have hml : m ≤ l.length := by omega
  have hTk := inTake_any (m : Int) hid (by simp; omega)
  rw [takeSt_take l m hml] at hTk
  have ht : l.take m = l.take k := by
    rw [hm]
    rcases Nat.le_total k l.length with h | h
    · rw [Nat.min_eq_left h]
    · rw [Nat.min_eq_right h, List.take_length, List.take_of_length_le h]
  have hd : l.drop m = l.drop k := by
    rw [hm]
    rcases Nat.le_total k l.length with h | h
    · rw [Nat.min_eq_left h]
    · rw [Nat.min_eq_right h, List.drop_length, List.drop_eq_nil_of_le h]
  rw [ht, hd] at hTk
  have hfin : ∀ w2 v, w2.ownsRow w.drew.heap.size 5 1 v (l.take k).length (bv (l.take k)) → InAt w2 T i (some (l.drop k)) → Kept (fun k => k = i) w.drew w2 → Paid w S r (l.take k) (l.drop k) (.returned v) w2 := fun w2 v a b c => by
    have kk : Kept S w w2 := (Kept.refl S w).drew.trans (c.mono (fun k e => e ▸ hTS i hi.own)) (fun _ _ h => h)
    exact ⟨v, rfl, a, ⟨⟨i, T, hrd.kept c (fun e => hir e.symm), b, hTr, hTS⟩, h.own, fun k hk => Nat.lt_of_lt_of_le (h.lt k hk) kk.size⟩, kk⟩
  generalize l.take k = tk at *
  generalize l.drop k = dk at *
  have HL := Lib.hid hLd
  have HT := Lib.hid hTk
  have HF := Lib.hid hfin
  have HC := Lib.hid (fun (w2 : World) (c : Kept (fun k => k = i) w.drew w2) => (show w2.cell? ⟨r, 0, none⟩ = some (.pointer (some ⟨i, 0, none⟩)) from c.cell c0d (fun e => hir (show r = i from e).symm)))
  obtain ⟨N, hN⟩ : ∃ N, N = l.length := ⟨_, rfl⟩
  rw [← hN] at HL hm hl
  clear h hr hi hTr hTS hir hrd hid hLd hTk ht hd hfin hN hml
  rcases Nat.lt_or_ge N k with hkn | hkn
  · obtain rfl : m = N := by omega
    have e1 : (m : Int) < (k : Int) := by omega
    clear hm
    go_enter Try.func113, Try.ntmps113
    go_upto_region 1 with fail
    go_region_held3 (fun w' => w'.cell? ⟨r, 0, none⟩ = some (.pointer (some ⟨i, 0, none⟩))) (first | exact c0d | exact HC.out _ hk2 | go_keep) (first
      | (go_at_call 90; refine HL.out.mono ?_; rintro e w1 ⟨rfl, rfl⟩)
      | (go_at_call 110; refine HT.out.mono ?_; rintro e w2 ⟨v2, rfl, ho2, hi2, hk2⟩))
    all_goals
      go_wp2
      go_ret
      exact HF.out _ _ ho2 hi2 hk2
  · obtain rfl : m = k := by omega
    have e1 : ¬ (N < m) := by omega
    clear hm
    go_enter Try.func113, Try.ntmps113
    go_upto_region 1 with fail
    go_region_held3 (fun w' => w'.cell? ⟨r, 0, none⟩ = some (.pointer (some ⟨i, 0, none⟩))) (first | exact c0d | exact HC.out _ hk2 | go_keep) (first
      | (go_at_call 90; refine HL.out.mono ?_; rintro e w1 ⟨rfl, rfl⟩)
      | (go_at_call 110; refine HT.out.mono ?_; rintro e w2 ⟨v2, rfl, ho2, hi2, hk2⟩))
    all_goals
      go_wp2
      go_ret
      exact HF.out _ _ ho2 hi2 hk2
end Go.Proofs.Ytljcaigaofalbaa
