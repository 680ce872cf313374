/- The bus' calls, beside blocks that it does not touch. No condition. -/
import Derived.Test.YtmplidgafdobkaaUMap
namespace Go.Proofs.Ytmplidgafdobkaa
open Go.RowKit Go.Shelf

/-- What Take answers, number by number. -/
def hdF (g : Lg) (id n c : Int) : Int := if isG g id n c then (sdG g id).f else 0
def hdC (g : Lg) (id n c : Int) : Int := if isG g id n c then c else 0
def hdT (g : Lg) (id n c : Int) : Int := if isG g id n c then (sdG g id).t + (faS (sdG g id) n c).d else 0
def hdB (g : Lg) (id n c : Int) : List UInt8 := if isG g id n c then heardS (sdG g id) (faS (sdG g id) n c).cut else []
def TakeD (g : Lg) (id n c : Int) (w : World) (e : Ending) (w' : World) : Prop :=
  ∃ (A : Option Addr) (m d : Nat), e = .returned (.tuple #[.agg #[.int .i64 (hdF g id n c), .int .i64 (hdC g id n c), .int .i64 (hdT g id n c), .slice A m d], .bool (isG g id n c)]) ∧ RSrc u8C 1 w' ⟨A, m, d⟩ (hdB g id n c) ∧ (∀ ad, A = some ad → w.heap.size ≤ ad.block) ∧ Below w.heap.size w w'
section
variable {F : Nat → Prop} {b : Nat} {g : Lg} {w : World}
theorem as_len {S : Nat → Prop} {l : Nat} {v : Value} {As : List SdA} (h : BusAt w S b l v As g) : As.length = g.L.length := by rw [← h.sds, List.length_map]
theorem v_slice {S : Nat → Prop} {l : Nat} {v : Value} {As : List SdA} (h : BusAt w S b l v As g) : ∃ A c, v = .slice A As.length c := by
  rcases h.row.2 with ⟨e, h0⟩ | ⟨gb, cap, cur, e, _⟩
  · exact ⟨none, 0, by rw [e, h0]⟩
  · exact ⟨_, _, e⟩
theorem len_f (h : BusF F b g w) : Calls Try.prog 13 #[.pointer (some ⟨b, 0, none⟩)] w fun e w' => e = .returned (.int .i64 (g.L.length : Int)) ∧ w' = w := by
  obtain ⟨S, l, v, As, h1, _, _⟩ := h
  obtain ⟨A, c, rfl⟩ := v_slice h1
  rw [← as_len h1]
  have cb := h1.bus.cell 0
  exact len_b b l A As.length c (by simpa using cb) (log_cells h1.log).2.1.1
theorem free_f (h : BusF F b g w) (t : Int) : Calls Try.prog 14 #[.pointer (some ⟨b, 0, none⟩), .int .i64 t] w fun e w' => e = .returned (.bool (freeG g t)) ∧ w' = w := by
  obtain ⟨S, l, v, As, h1, _, _⟩ := h
  have cb := h1.bus.cell 0
  exact free_b b l g.last g.opens t (by simpa using cb) (log_cells h1.log).2.1.2.1 (log_cells h1.log).2.1.2.2
theorem due_f (h : BusF F b g w) (id : Int) : Calls Try.prog 17 #[.pointer (some ⟨b, 0, none⟩), .int .i64 id] w (FreshD w (dueG g id)) := by
  obtain ⟨S, l, v, As, h1, h2, _⟩ := h
  unfold dueG
  cases hi : idB g id
  · rw [if_neg (by decide)]
    exact due_no h1 id hi
  · rw [if_pos rfl]
    have hi2 := hi
    unfold idB at hi2
    simp at hi2
    obtain ⟨i, rfl⟩ := Int.eq_ofNat_of_zero_le hi2.1
    have := due_yes h1 h2 i (by rw [as_len h1]; omega) hi
    unfold sdG
    rw [Int.toNat_natCast]
    exact this
theorem take_f (h : BusF F b g w) (hn : g.L.length ≤ 1000000) (id n c : Int) : Calls Try.prog 19 #[.pointer (some ⟨b, 0, none⟩), .int .i64 id, .int .i64 n, .int .i64 c] w (TakeD g id n c w) := by
  obtain ⟨S, l, v, As, h1, h2, _⟩ := h
  have no : isG g id n c = false → (∀ e w', TakeNo w e w' → TakeD g id n c w e w') := fun hi e w' h => by
    obtain ⟨rfl, hb⟩ := h
    unfold TakeD hdF hdC hdT hdB
    rw [hi]
    exact ⟨none, 0, 0, rfl, RSrc.nil _, (fun _ e => by cases e), hb⟩
  cases hi : idB g id
  · have hg : isG g id n c = false := by unfold isG; rw [hi]; rfl
    exact (take_none h1 id n c hi).mono (no hg)
  · have hi2 := hi
    unfold idB at hi2
    simp at hi2
    obtain ⟨i, rfl⟩ := Int.eq_ofNat_of_zero_le hi2.1
    have hil : i < As.length := by rw [as_len h1]; omega
    cases ht : thereS (sdG g (i : Int)) n c
    · have hg : isG g (i : Int) n c = false := by unfold isG; rw [hi, ht]; rfl
      exact (take_lost h1 h2 i hil n c hi ht).mono (no hg)
    · cases hs : sendsG g n ((sdG g (i : Int)).t + (faS (sdG g (i : Int)) n c).d)
      · have hg : isG g (i : Int) n c = true := by unfold isG; rw [hi, ht, hs]; rfl
        refine (take_yes h1 h2 (by rw [as_len h1]; exact hn) i hil n c hi ht hs).mono ?_
        rintro e w' ⟨r, h3, h4, h5, h6⟩
        unfold TakeD hdF hdC hdT hdB
        rw [hg]
        exact ⟨r.A, r.n, r.c, h3, h4, h5, h6⟩
      · have hg : isG g (i : Int) n c = false := by unfold isG; rw [hi, ht, hs]; rfl
        exact (take_deaf h1 h2 (by rw [as_len h1]; exact hn) i hil n c hi ht hs).mono (no hg)
end
end Go.Proofs.Ytmplidgafdobkaa
