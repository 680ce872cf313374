/- Two that were heard, held against each other: a contract. No condition. -/
import Derived.Test.YtmplidgafdobkaaUDues
namespace Go.Proofs.Ytmplidgafdobkaa
open Go.RowKit Go.Shelf

theorem conv_u8 {W : World} {s : Sl} {l : List UInt8} (h : RSrc u8C 1 W s l) : (convert 33 9 s.v).run Try.prog W = .ok (.string ⟨l.toArray⟩) W :=
  (src_of h).convert s.c 33 5 9 Try.underlying33 Try.underlying5 Try.underlying9
set_option maxRecDepth 100000 in
set_option maxHeartbeats 4000000 in
theorem same_any (w : World) (f c t f' c' t' : Int) (s s' : Sl) (l l' : List UInt8) (h : RSrc u8C 1 w s l) (h' : RSrc u8C 1 w s' l') :
    Calls Try.prog 21 #[.agg #[.int .i64 f, .int .i64 c, .int .i64 t, s.v], .agg #[.int .i64 f', .int .i64 c', .int .i64 t', s'.v]] w fun e w' => e = .returned (.bool (decide (f = f') && (decide (c = c') && (decide (t = t') && decide (l = l'))))) ∧ Below w.heap.size w w' := by
  have hb : Below w.heap.size w ((w.alloc (.cells #[.int .i64 f, .int .i64 c, .int .i64 t, s.v] 52)).alloc (.cells #[.int .i64 f', .int .i64 c', .int .i64 t', s'.v] 52)) := ((Below.refl _ _).alloc (Nat.le_refl _) _).alloc (by simp) _
  have hc1 := conv_u8 (h.later hb)
  have hc2 := conv_u8 (h'.later hb)
  have hse := str_eq l l'
  generalize decide (l = l') = q at *
  generalize (⟨l.toArray⟩ : ByteArray) = sl at *
  generalize (⟨l'.toArray⟩ : ByteArray) = sl' at *
  have HB := Lib.hid hb
  clear hb h h'
  unfold Sl.v at *
  by_cases e1 : f = f'
  · subst e1
    by_cases e2 : c = c'
    · subst e2
      by_cases e3 : t = t'
      · subst e3
        go_enter Try.func21, Try.ntmps21
        go_wp2
        go_ret
        exact ⟨by simp, HB.out⟩
      · have e3b : (t == t') = false := by simp [e3]
        have E3 := Lib.hid e3
        clear e3
        go_enter Try.func21, Try.ntmps21
        go_wp2
        go_ret
        exact ⟨by simp [E3.out], HB.out⟩
    · have e2b : (c == c') = false := by simp [e2]
      have E2 := Lib.hid e2
      clear e2
      go_enter Try.func21, Try.ntmps21
      go_wp2
      go_ret
      exact ⟨by simp [E2.out], HB.out⟩
  · have e1b : (f == f') = false := by simp [e1]
    have E1 := Lib.hid e1
    clear e1
    go_enter Try.func21, Try.ntmps21
    go_wp2
    go_ret
    exact ⟨by simp [E1.out], HB.out⟩
end Go.Proofs.Ytmplidgafdobkaa
