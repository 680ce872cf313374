/- The program's sorted: a copy, in order, in new memory; by the library's contract of the sort. No condition. -/
import Derived.Test.YteljalgfkmnamaaShelf
import Derived.Test.YteljalgfkmnamaaLong
import Derived.Test.YteljalgfkmnamaaZDef
import Derived.Sort.OwnSortedInts
import Derived.Laws.CopyOwn
import Derived.Laws.MakeOwn
namespace Go.Proofs.Yteljalgfkmnamaa
open Go.RowKit Go.Shelf Go.Sort

theorem u_ints : Try.prog.underlying 26 = some (.slice 2) := Try.underlying26
theorem i_size1 : (Try.prog.info? 2).map (·.size) = some 1 := by kernel_rfl
theorem make_ints (n : Nat) (hn : n ≤ 1000) (W : World) : (Instr.makeSlice 26 (.int .i64 (n : Int)) (.int .i64 (n : Int))).run Try.prog W = .ok (.slice (some ⟨W.heap.size, 0, none⟩) n n) (W.alloc (.cells (madeCells (Value.int .i64 0).cells n) 2)) := by
  obtain ⟨i0, hi, hy0, hy1, hy2⟩ := info_parts i_i64
  have h := run_makeSlice (P := Try.prog) (w := W) 26 2 i0 (.int .i64 0) u_ints hi hy0 .i64 .i64 (n : Int) (n : Int) (by omega) (Int.le_refl _) (by rw [hy1, Int.toNat_natCast]; omega) (by rw [hy2]; omega) (by omega)
  rw [hy1, Int.toNat_natCast, Nat.mul_one] at h
  exact h

set_option maxRecDepth 100000 in
set_option maxHeartbeats 2000000 in
theorem sorted_any (w : World) (s : Sl) (l : List Int) (h : RSrc inC 1 w s l) (hn : s.n ≤ 1000) (h1 : 1 ≤ s.n) :
    Calls Try.prog 69 #[s.v] w fun e w' => ∃ g, e = .returned (.slice (some ⟨g, 0, none⟩) l.length l.length) ∧ w.heap.size ≤ g ∧ g < w'.heap.size ∧ RSrc inC 1 w' ⟨some ⟨g, 0, none⟩, l.length, l.length⟩ (srt l) ∧ Below w.heap.size w w' := by
  obtain ⟨g0, o0, hA0, _⟩ := h.at_ h1
  have hl := h.len
  have hmx := Nat.le_trans h.cap h.max
  obtain ⟨A, n, c⟩ := s
  unfold Sl.v
  dsimp only at *
  subst hA0
  rw [hl]
  have hmk := make_ints n hn
  obtain ⟨Z, hZ⟩ : ∃ Z, Z = madeCells (Value.int .i64 0).cells n := ⟨_, rfl⟩
  rw [← hZ] at hmk
  have hZs : Z.size = n := by rw [hZ, size_madeCells]
  obtain ⟨cs, hcs⟩ : ∃ cs, cs = l.map (Value.int .i64) := ⟨_, rfl⟩
  have hcl : cs.length = n := by rw [hcs, List.length_map, hl]
  have HS := Lib.hid (fun (W : World) (hb : Below w.heap.size w W) => (show ∀ j v, cs[j]? = some v → W.cell? ((⟨g0, o0, none⟩ : Addr).add j) = some v from by
    have := rsrc_news (cells := inC) (fun _ => rfl) (by decide) (h.later hb) rfl
    rw [flat_inC, ← hcs] at this
    exact this))
  have HC := Lib.hid (And.intro hcs (And.intro hcl (And.intro hl hZs)))
  have h1c : ∀ v ∈ cs, v.oneCell' = true := by
    intro v hv
    rw [hcs] at hv
    obtain ⟨x, _, rfl⟩ := List.mem_map.1 hv
    rfl
  have H1C := Lib.hid h1c
  clear hZ hcs h h1c hcl hZs hl
  obtain ⟨w1, hw1⟩ : ∃ w1, w1 = w.alloc (.cells Z 2) := ⟨_, rfl⟩
  have hb1 : Below w.heap.size w w1 := by rw [hw1]; exact (Below.refl _ _).alloc (Nat.le_refl _) _
  have hW1 : Whole w1 w.heap.size 2 Z := by rw [hw1]; exact Whole.new _ _ _
  have hmk0 := hmk w
  rw [← hw1] at hmk0
  have hcp := run_copy_row (P := Try.prog) w1 26 26 3 2 w.heap.size 0 n n ⟨g0, o0, none⟩ n c Z 2 cs u_ints i_size1 hW1 (by rw [HC.out.2.1]; exact (Nat.min_self n).symm) (HS.out w1 hb1) (by rw [HC.out.2.1, HC.out.2.2.2]; omega) H1C.out
  obtain ⟨w2, hw2⟩ : ∃ w2, w2 = w1.setRow w.heap.size (Z.toList.take 0 ++ cs ++ Z.toList.drop (0 + cs.length)).toArray := ⟨_, rfl⟩
  rw [← hw2] at hcp
  have hC2 : (Z.toList.take 0 ++ cs ++ Z.toList.drop (0 + cs.length)) = cs := by
    rw [List.take_zero, List.nil_append, List.drop_eq_nil_of_le (by rw [HC.out.2.1, Array.length_toList, HC.out.2.2.2]; omega), List.append_nil]
  have hg2 : w2.heap[w.heap.size]? = some (.cells cs.toArray 2 (0, 0)) := by
    rw [hw2, hC2]
    exact setRow_heap w1 w.heap.size Z _ 2 _ hW1
  have hb2 : Below w.heap.size w w2 := by rw [hw2]; exact below_setRow hb1 (Nat.le_refl _) _
  have hh := Try.slices_Sort_int w.heap.size 0 n l w2 (holds_of_blockI hg2 (by rw [HC.out.1, List.take_of_length_le (by simp)])) (Array.getElem?_eq_some_iff.1 hg2).1 (by rw [HC.out.2.2.1]; omega)
  rw [HC.out.2.2.1] at hh
  have HH := Lib.hid hh
  have H2 := Lib.hid (And.intro hg2 hb2)
  rw [HC.out.2.1] at hcp
  unfold goInt at hcp
  clear hw1 hb1 hW1 hmk hw2 hC2 hg2 hb2 hh
  go_enter Try.func69, Try.ntmps69
  go_wp2_with (go_at_call 70; refine HH.out.mono ?_; rintro e w3 ⟨rfl, nn, os, h3⟩; have H3 := Lib.hid h3; clear h3)
  go_ret
  have hr := ownsRow_sortedI (n := nn) (os := os) (ts := srt l) (ss := l) (srt_len l) (Nat.le_refl _) H2.out.1 (show l.length ≤ n by rw [HC.out.2.2.1]; exact Nat.le_refl _) (by simp only [maxLen]; omega) (by simp [HC.out.2.1])
  unfold srt at hr
  rw [← H3.out, HC.out.2.2.1] at hr
  have hlen : (srt l).length = n := by rw [srt_len, HC.out.2.2.1]
  rw [show (l.mergeSort fun x y => decide (x ≤ y)) = srt l from rfl, ← flat_inC] at hr
  obtain ⟨⟨A, n', c'⟩, e, hs, _⟩ := rsrc_of_own (cells := inC) (fun _ => rfl) hlen.symm hr
  unfold Sl.v at e
  cases e
  have hgr : w2.grownBy w3 (some w.heap.size) := by rw [H3.out]; exact grownBy_sortedI _
  have hlt : w.heap.size < w2.heap.size := (Array.getElem?_eq_some_iff.1 H2.out.1).1
  exact ⟨w.heap.size, rfl, Nat.le_refl _, Nat.lt_of_lt_of_le hlt hgr.size, hs, H2.out.2.grown hgr H2.out.2.size (fun j hj => by cases hj; exact Nat.le_refl _)⟩
end Go.Proofs.Yteljalgfkmnamaa
