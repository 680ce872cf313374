/- A Builder's WriteString, by a contract: what a Builder holds grows; blocks of other types are spared. No condition. -/
import Derived.Test.YtdeiohcciafffaaGreatDoorMem
import Derived.Test.YtdeiohcciafffaaGreatDoorProg
import Derived.Lib.Builder
import Derived.Lib.AppendStr
import Derived.Shelf.Strings.Builder1
import Derived.Shelf.Lay
namespace Go.Proofs.YtdeiohcciafffaaGreatDoor
open Go.RowKit Go.Shelf

/-- What is of neither type lies as it lay. -/
def Spared (T e : TypeId) (w w' : World) : Prop := ∀ g t cs, Whole w g t cs → t ≠ T → t ≠ e → Whole w' g t cs
theorem Spared.refl (T e : TypeId) (w : World) : Spared T e w w := fun _ _ _ h _ _ => h
theorem Spared.trans {T e : TypeId} {a b c : World} (h : Spared T e a b) (k : Spared T e b c) : Spared T e a c := fun g t cs x n m => k g t cs (h g t cs x n m) n m

abbrev tB : TypeId := 52
abbrev tU : TypeId := 5
theorem b_size : (Tryz.prog.info? tB).map (·.size) = some 2 := by kernel_rfl
theorem b_lies : liesAt Tryz.prog Tryz.prog.depth tB (2 / Tryz.prog.cellsOf tB) 0 tB 1 = true := by kernel_rfl
theorem b_byte : (Tryz.prog.info? tU).map (fun i => (i.zero, i.size, i.bytes)) = some (some (.int .u8 0), 1, 1) := by kernel_rfl

set_option maxHeartbeats 1000000 in
set_option maxRecDepth 100000 in
theorem copyCheck_any (B b : Nat) (bs : List Value) (w : World) (h : Lib.IsBuilder tB tU B b bs w) :
    Calls Tryz.prog 74 #[.pointer (some ⟨b, 0, none⟩)] w fun e w' => e = .returned (.tuple #[]) ∧ Lib.BuilderAt tB tU B b (.pointer (some ⟨b, 0, none⟩)) bs w' ∧ Below B w w' ∧ Spared tB tU w w' := by
  obtain ⟨j, hj, hjs⟩ := Option.map_eq_some_iff.1 b_size
  rcases h with h | h
  · have h0 := h.cell0
    have hsh := h.shape
    have hfz := h.frozen0
    have H := Lib.hid h
    clear h
    go_enter Tryz.func74, Tryz.ntmps74
    go_wp2
    rw [Lib.run_to_unsafe w ⟨b, 0, none⟩ Tryz.underlying50 Tryz.underlying100 hj (by rw [hjs]; decide) hsh (Nat.zero_lt_succ 1)]
    simp only [Result.andThen]
    rw [Oper.upon_value]
    go_wp2
    rw [run_callFunc_extern Tryz.func88 (by kernel_rfl) (by kernel_rfl) (by kernel_rfl) (e := Extern.AbiNoEscape.same) (by kernel_rfl)]
    rw [Lib.run_noEscape]
    simp only [Result.andThen]
    rw [Oper.upon_value]
    go_wp2
    rw [Lib.run_from_unsafe w ⟨b, 0, none⟩ Tryz.underlying100 Tryz.underlying50 hj hsh b_lies]
    simp only [Result.andThen]
    rw [Oper.upon_value]
    go_wp2
    go_end0
    refine ⟨rfl, H.out.used _, (Below.refl B w).setCell (p := ⟨b, 0, none⟩) H.out.1 _, fun g t cs hW ht _ => hW.far ?_ _⟩
    obtain ⟨_, v, hb, _⟩ := H.out
    rintro rfl
    exact Whole.apart (g' := g) hW hb ht rfl
  · have h0 := h.cell0
    have H := Lib.hid h
    clear h
    go_enter Tryz.func74, Tryz.ntmps74
    go_wp2
    rw [Lib.run_neq_ptr_same w _ Tryz.underlying50 hj]
    go_wp2
    go_end0
    exact ⟨rfl, H.out, Below.refl B _, Spared.refl _ _ _⟩

theorem own_form {w : World} {base : Nat} {e : TypeId} {size n : Nat} {v : Value} {xs : List Value} (h : w.ownsRow base e size v n xs) : ∃ A c, v = .slice A n c := by
  rcases h.2 with ⟨rfl, rfl⟩ | ⟨g, cap, _, rfl, _⟩
  · exact ⟨none, 0, rfl⟩
  · exact ⟨_, cap, rfl⟩

/-- A Builder holds these, at block b; what is before B is not its own. -/
abbrev Holds8 (B b : Nat) (l : List UInt8) (w : World) : Prop := Lib.IsBuilder tB tU B b (bv l) w

set_option maxHeartbeats 1000000 in
set_option maxRecDepth 100000 in
theorem WriteString_any (B b : Nat) (l : List UInt8) (s : ByteArray) (w : World) (h : Holds8 B b l w) (hlen : l.length + s.size ≤ 140737488355328) (hB : B ≤ w.heap.size) :
    Calls Tryz.prog 24 #[.pointer (some ⟨b, 0, none⟩), .string s] w fun e w' => e = .returned (.tuple #[.int .i64 s.size, .nilIface]) ∧ Holds8 B b (l ++ s.data.toList) w' ∧ Below B w w' ∧ Spared tB tU w w' := by
  obtain ⟨i0, hi, hz0, hz1, hz2⟩ := info_parts b_byte
  have HC := Lib.hid (copyCheck_any B b (bv l) w h)
  clear h
  go_enter Tryz.func24, Tryz.ntmps24
  go_wp2_with (first
    | (go_at_call 74; refine HC.out.mono ?_; rintro e w1 ⟨rfl, hat, hb1, hs1⟩; clear HC; obtain ⟨hBb, v, hblk, hown, hne⟩ := hat; have c1 : w1.cell? ⟨b, 1, none⟩ = some v := Lib.cell_of_heap hblk 1; have HK := Lib.hid hblk; have HS := Lib.hid hs1; have HW := Lib.hid hown; have HV := Lib.hid hne; clear hblk hs1 hown hne)
    | (at_builtin; refine Lib.wpList_append_own_string _ rfl _ _ 40 9 rfl B tU i0 Tryz.underlying40 Tryz.underlying9 hi hz0 hz1 hz2 v (bv l).length (bv l) rfl HW.out s rfl (by rw [bv_length]; unfold maxLen; omega) (by rw [bv_length]; omega) (by have := hb1.size; omega) ?_; intro v' w2 hown' hgrow _; obtain ⟨A2, cc2, rfl⟩ := own_form hown'; have hb2 := hb1.grown hgrow (by have := hb1.size; omega) (fun j ej => (HW.out.lt j ej).1); have hk2 := Whole.grown (t := tB) (cs := #[.pointer (some ⟨b, 0, none⟩), v]) HK.out hgrow (fun h => HV.out h.symm); have c2 : w2.cell? ⟨b, 1, none⟩ = some v := hk2.cell 1; have f2 : w2.frozen? ⟨b, 1, none⟩ = false := hk2.frozen 1; have HK2 := Lib.hid hk2; have HG := Lib.hid hgrow; clear hk2 hgrow c1))
  refine bodyPost_ret (results_tmp2 rfl _ _ _) rfl ⟨rfl, .inr ?_, hb2.setCell (p := ⟨b, 1, none⟩) hBb _, fun g t cs hW ht hu => ?_⟩
  · have hlen' : (bv (l ++ s.data.toList)).length = (bv l).length + s.size := by rw [bv_length, bv_length, List.length_append, Array.length_toList]; rfl
    have hcat : bv (l ++ s.data.toList) = bv l ++ Lib.strCells s := by rw [bv_append]; rfl
    exact Lib.BuilderAt.put hBb HK2.out (by rw [hlen', hcat]; exact hown') (by decide)
  · have h1 := HS.out g t cs hW ht hu
    have h2 := h1.grown HG.out (h1.not_row hu HW.out)
    refine h2.far (fun e => ?_) _
    have e' : g = b := e
    subst e'
    exact Whole.apart h2 HK2.out ht rfl
end Go.Proofs.YtdeiohcciafffaaGreatDoor
