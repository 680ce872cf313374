/- All of an agenda: by its contract. No condition. -/
import Derived.Test.YtchfponnajednaaAUntil
namespace Go.Proofs.Ytchfponnajednaa
open Go.RowKit Go.Shelf

/-- What All answers: all events, in order, in memory of their own. -/
def AllDone (w : World) (L : List En) (e : Ending) (w' : World) : Prop :=
  ∃ v, e = .returned v ∧ w'.ownsRow w.heap.size 36 5 v L.length (flatV (L.map En.e)) ∧ Below w.heap.size w w'

set_option maxRecDepth 100000 in
set_option maxHeartbeats 1000000 in
theorem agAll_any (w : World) (S : Nat → Prop) (a nx : Nat) (L : List En) (h : AgAt w S a nx L) (hl : L.length ≤ 1000000) :
    Calls Try.prog 13 #[.pointer (some ⟨a, 0, none⟩)] w (AllDone w L) := by
  have HC := Lib.hid (agCopy_any w S a nx L h hl)
  have HM := Lib.hid h.may
  clear h
  go_enter Try.func13, Try.ntmps13
  go_wp2_with fail
  refine HC.out.mono ?_
  rintro e w1 ⟨b, T, rfl, hag, hb, hT⟩
  have HU := Lib.hid (agUntil_any w1 T b nx L 4294967296 hag hl)
  have HB := Lib.hid (And.intro hb hT)
  clear hag hb hT HC
  go_wp2_with fail
  refine HU.out.mono ?_
  rintro e w2 ⟨v, n, S2, rfl, hup, hr, _, hk, _, _⟩
  have hn : n = L.length := by
    rcases Nat.lt_or_ge n L.length with h1 | h1
    · have h2 := hup.no h1
      have h3 := (HM.out (L.getD n default) (by rw [List.getD_eq_getElem?_getD, List.getElem?_eq_getElem h1]; exact List.getElem_mem h1)).2.1
      omega
    · have := hup.le; omega
  have hfin : AllDone w L (.returned v) w2 := by
    subst hn
    have e1 : evs L L.length = L.map En.e := by unfold evs; rw [List.take_length]
    rw [e1] at hr
    refine ⟨v, rfl, ⟨hr.1, ?_⟩, ?_⟩
    · rcases hr.2 with h0 | ⟨g, cap, cur, e, hb', h3⟩
      · exact .inl h0
      · exact .inr ⟨g, cap, cur, e, by have := HB.out.1.size; omega, h3⟩
    · exact ((Kept.of_below HB.out.1 Empty).trans hk (fun i hi ht => absurd (HB.out.2 i ht) (by omega))).below (fun _ _ h => h)
  have HF := Lib.hid hfin
  clear hup hr hk hn hfin HU
  go_wp2
  go_ret
  exact HF.out
end Go.Proofs.Ytchfponnajednaa
