/- The document's Same, by a contract. No condition. -/
import Derived.Test.YtljcaigaofalbaaQV
import Derived.Test.YtljcaigaofalbaaQM
namespace Go.Proofs.Ytljcaigaofalbaa
open Go.RowKit Go.Shelf

theorem take_step {α : Type} [DecidableEq α] [Inhabited α] {xs ys : List α} {k : Nat} (h1 : k < xs.length) (h2 : k < ys.length) : decide (xs.take (k + 1) = ys.take (k + 1)) = (decide (xs.take k = ys.take k) && decide (xs.getD k default = ys.getD k default)) := by
  rw [List.take_add_one, List.take_add_one, List.getElem?_eq_getElem h1, List.getElem?_eq_getElem h2, List.getD_eq_getElem?_getD, List.getD_eq_getElem?_getD, List.getElem?_eq_getElem h1, List.getElem?_eq_getElem h2]
  rw [Bool.eq_iff_iff, Bool.and_eq_true, decide_eq_true_eq, decide_eq_true_eq, decide_eq_true_eq]
  simp only [Option.toList_some, Option.getD_some]
  constructor
  · intro h
    have := List.append_inj h (by rw [List.length_take, List.length_take]; omega)
    exact ⟨this.1, by simpa using this.2⟩
  · rintro ⟨a, b⟩
    rw [a, b]
theorem take_all {α : Type} [DecidableEq α] {xs ys : List α} {n : Nat} (h1 : xs.length = n) (h2 : ys.length = n) : decide (xs.take n = ys.take n) = decide (xs = ys) := by
  rw [List.take_of_length_le (by omega), List.take_of_length_le (by omega)]

set_option maxRecDepth 100000 in
set_option maxHeartbeats 8000000 in
theorem refSame_any (V U : ScV) (s t : ScA) (w : World) (h1 : ScAt w V s) (h2 : ScAt w U t) :
    Calls Try.prog 17 #[.agg V.cells, .agg U.cells] w fun e w' => e = .returned (.bool (decide (s.sc = t.sc))) ∧ Below w.heap.size w w' := by
  have hX := held_new (held_new (held_start w) 29 V.cells) 29 U.cells
  simp only [List.nil_append, List.cons_append, World.size_alloc] at hX
  obtain ⟨HL, hHL⟩ : ∃ HL, HL = [(w.heap.size, 29, V.cells), (w.heap.size + 1, 29, U.cells)] := ⟨_, rfl⟩
  have mv : (w.heap.size, 29, V.cells) ∈ HL := by rw [hHL]; simp
  have mu : (w.heap.size + 1, 29, U.cells) ∈ HL := by rw [hHL]; simp
  rw [← hHL] at hX
  have HX := Lib.hid hX
  have H1 := Lib.hid h1
  have H2 := Lib.hid h2
  have r1 := h1.r.len
  have r2 := h2.r.len
  have o1 := h1.o.len
  have o2 := h2.o.len
  have d1 := h1.d.len
  have d2 := h2.d.len
  have p1 := h1.h.row.len
  have p2 := h2.h.row.len
  have f1 := h1.f.len
  have f2 := h2.f.len
  have M := Lib.hid (And.intro (Nat.le_trans h1.r.cap h1.r.max) (And.intro (Nat.le_trans h1.o.cap h1.o.max) (And.intro (Nat.le_trans h1.d.cap h1.d.max) (And.intro (Nat.le_trans h1.h.row.cap h1.h.row.max) (Nat.le_trans h1.f.cap h1.f.max)))))
  obtain ⟨a0, a1, a2, a3, a4⟩ := sc_cells (hX.2 _ mv)
  obtain ⟨b0, b1, b2, b3, b4⟩ := sc_cells (hX.2 _ mu)
  unfold Sl.v at a0 a1 a2 a3 a4 b0 b1 b2 b3 b4
  dsimp only at a0 a1 a2 a3 a4 b0 b1 b2 b3 b4
  clear hX h1 h2 hHL
  by_cases hall : V.r.n = U.r.n ∧ V.o.n = U.o.n ∧ V.d.n = U.d.n ∧ V.h.n = U.h.n ∧ V.f.n = U.f.n
  case neg =>
    have hne : decide (s.sc = t.sc) = false := by
      rw [decide_eq_false_iff_not]
      intro e
      have e0 := congrArg (fun q => q.rates.length) e
      have e1 := congrArg (fun q => q.on.length) e
      have e2 := congrArg (fun q => q.delays.length) e
      have e3 := congrArg (fun q => q.haps.length) e
      have e4 := congrArg (fun q => q.faults.length) e
      simp only [ScA.sc, List.length_map] at e0 e1 e2 e3 e4
      exact hall ⟨by omega, by omega, by omega, by omega, by omega⟩
    have HNE := Lib.hid hne
    have HNA := Lib.hid hall
    clear hne hall r1 r2 o1 o2 d1 d2 p1 p2 f1 f2
    go_enter Try.func17, Try.ntmps17
    go_wp2
    all_goals first
      | (go_ret; exact ⟨by rw [HNE.out]; rfl, HX.out.1⟩)
      | (exfalso; simp only [bne_eq_false_iff_eq] at *; exact HNA.out ⟨by omega, by omega, by omega, by omega, by omega⟩)
  obtain ⟨n0, n1, n2, n3, n4⟩ := hall
  rw [← n0] at b0
  rw [← n1] at b1
  rw [← n2] at b2
  rw [← n3] at b3
  rw [← n4] at b4
  have HLn := Lib.hid (And.intro (And.intro r1 (r2.trans n0.symm)) (And.intro (And.intro o1 (o2.trans n1.symm)) (And.intro (And.intro d1 (d2.trans n2.symm)) (And.intro (And.intro p1 (p2.trans n3.symm)) (And.intro f1 (f2.trans n4.symm))))))
  obtain ⟨ans, hans⟩ : ∃ ans, ans = decide (s.sc = t.sc) := ⟨_, rfl⟩
  have hans2 : ans = (((((true && decide (s.rates = t.rates)) && decide (s.on = t.on)) && decide (s.delays = t.delays)) && decide (s.faults = t.faults)) && decide (s.haps.map HpA.hp = t.haps.map HpA.hp)) := by
    rw [hans, sc_same]
    show (decide (s.rates = t.rates) && (decide (s.on = t.on) && (decide (s.delays = t.delays) && (decide (s.haps.map HpA.hp = t.haps.map HpA.hp) && decide (s.faults = t.faults))))) = _
    rw [Bool.true_and]
    cases decide (s.rates = t.rates) <;> cases decide (s.on = t.on) <;> cases decide (s.delays = t.delays) <;> cases decide (s.haps.map HpA.hp = t.haps.map HpA.hp) <;> cases decide (s.faults = t.faults) <;> rfl
  rw [← hans]
  have HAN := Lib.hid hans2
  have HN := Lib.hid (And.intro n0 (And.intro n1 (And.intro n2 (And.intro n3 n4))))
  clear hans hans2 r1 r2 o1 o2 d1 d2 p1 p2 f1 f2 n0 n1 n2 n3 n4
  go_enter Try.func17, Try.ntmps17
  go_wp2
  clear a0 a1 a2 a3 a4 b0 b1 b2 b3 b4
  go_loopw [6, 5] (fun iv bv wr => ∃ k : Nat, k ≤ V.r.n ∧ iv = .int .i64 (k : Int) ∧ bv = .bool (true && decide (s.rates.take k = t.rates.take k)) ∧ Held w HL wr) (fun iv _ _ => V.r.n - (intOf iv).toNat)
  case atStart => exact ⟨0, Nat.zero_le _, rfl, rfl, HX.out⟩
  case round =>
    obtain ⟨k, hk, rfl, rfl, hX⟩ := hrel
    have HX3 := Lib.hid hX
    have a0 := (sc_cells (hX.2 _ mv)).1
    have b0 := (sc_cells (hX.2 _ mu)).1
    unfold Sl.v at a0 b0
    dsimp only at a0 b0
    rw [← HN.out.1] at b0
    clear hX HX
    by_cases hlt : k < V.r.n
    · obtain ⟨g1, p1, hA1, hR1⟩ := (H1.out.later HX3.out.1).r.get (i := k) hlt
      obtain ⟨g2, p2, hA2, hR2⟩ := (H2.out.later HX3.out.1).r.get (i := k) (by rw [← HN.out.1]; exact hlt)
      have hst := take_step (xs := s.rates) (ys := t.rates) (k := k) (by have := HLn.out.1.1; omega) (by have := HLn.out.1.2; omega)
      obtain ⟨x, hx⟩ : ∃ x, x = s.rates.getD k default := ⟨_, rfl⟩
      obtain ⟨y, hy⟩ : ∃ y, y = t.rates.getD k default := ⟨_, rfl⟩
      rw [← hx] at hR1 hst
      rw [← hy] at hR2 hst
      obtain ⟨c0, c1⟩ := rateC_cells hR1
      obtain ⟨e0, e1⟩ := rateC_cells hR2
      have i1 : (0 : Int) ≤ (k : Int) := by omega
      have i2 : (k : Int) < (V.r.n : Int) := by omega
      have i3 := M.out
      rw [hA1] at a0
      rw [hA2] at b0
      have qE := fun W => rate_eql x y W
      have HST := Lib.hid hst
      clear hx hy hR1 hR2 hst hA1 hA2
      generalize hbb : (true && decide (s.rates.take k = t.rates.take k)) = b at *
      generalize decide (x = y) = e at *
      have HBB := Lib.hid hbb
      clear hbb
      cases b
      · go_wp2
        go_quiet (fail)
        go_wp2
        go_roundw
        case rel => exact ⟨k + 1, by omega, by go_num, congrArg Value.bool (by rw [HST.out, ← Bool.and_assoc, HBB.out]; rfl), held_drew HX3.out _⟩
        case measure => simp [intOf]; omega
      · go_wp2
        go_quiet (fail)
        go_wp2
        go_roundw
        case rel => exact ⟨k + 1, by omega, by go_num, congrArg Value.bool (by rw [HST.out, ← Bool.and_assoc, HBB.out]; cases e <;> rfl), held_drew HX3.out _⟩
        case measure => simp [intOf]; omega
    · obtain rfl : k = V.r.n := by omega
      have hta := take_all (xs := s.rates) (ys := t.rates) (n := V.r.n) HLn.out.1.1 HLn.out.1.2
      rw [hta]
      obtain ⟨acc1, hacc⟩ : ∃ a, a = (true && decide (s.rates = t.rates)) := ⟨_, rfl⟩
      rw [← hacc]
      have HA1 := Lib.hid hacc
      have HACC := Lib.hid (show acc1 = (acc1 && decide (s.on.take 0 = t.on.take 0)) from by simp)
      have HX := Lib.hid HX3.out
      clear hta hacc HX3
      go_wp2
      clear a0 b0
      go_loopw [7, 5] (fun iv bv wr => ∃ k : Nat, k ≤ V.o.n ∧ iv = .int .i64 (k : Int) ∧ bv = .bool (acc1 && decide (s.on.take k = t.on.take k)) ∧ Held w HL wr) (fun iv _ _ => V.o.n - (intOf iv).toNat)
      case atStart => exact ⟨0, Nat.zero_le _, rfl, congrArg Value.bool HACC.out, HX.out⟩
      case round =>
        obtain ⟨k, hk, rfl, rfl, hX⟩ := hrel
        have HX3 := Lib.hid hX
        have a0 := (sc_cells (hX.2 _ mv)).2.1
        have b0 := (sc_cells (hX.2 _ mu)).2.1
        unfold Sl.v at a0 b0
        dsimp only at a0 b0
        rw [← HN.out.2.1] at b0
        clear hX HACC hlt
        by_cases hlt : k < V.o.n
        · obtain ⟨g1, p1, hA1, hR1⟩ := (H1.out.later HX3.out.1).o.get (i := k) hlt
          obtain ⟨g2, p2, hA2, hR2⟩ := (H2.out.later HX3.out.1).o.get (i := k) (by rw [← HN.out.2.1]; exact hlt)
          have hst := take_step (xs := s.on) (ys := t.on) (k := k) (by have := HLn.out.2.1.1; omega) (by have := HLn.out.2.1.2; omega)
          obtain ⟨x, hx⟩ : ∃ x, x = s.on.getD k default := ⟨_, rfl⟩
          obtain ⟨y, hy⟩ : ∃ y, y = t.on.getD k default := ⟨_, rfl⟩
          rw [← hx] at hR1 hst
          rw [← hy] at hR2 hst
          have c0 := numC_cell hR1
          have e0 := numC_cell hR2
          have i1 : (0 : Int) ≤ (k : Int) := by omega
          have i2 : (k : Int) < (V.o.n : Int) := by omega
          have i3 := M.out
          rw [hA1] at a0
          rw [hA2] at b0
          have qE : (x == y) = decide (x = y) := rfl
          have HST := Lib.hid hst
          clear hx hy hR1 hR2 hst hA1 hA2
          generalize hbb : (acc1 && decide (s.on.take k = t.on.take k)) = b at *
          generalize decide (x = y) = e at *
          have HBB := Lib.hid hbb
          clear hbb
          cases b
          · go_wp2
            go_quiet (fail)
            go_wp2
            go_roundw
            case rel => exact ⟨k + 1, by omega, by go_num, congrArg Value.bool (by rw [HST.out, ← Bool.and_assoc, HBB.out]; rfl), held_drew HX3.out _⟩
            case measure => simp [intOf]; omega
          · go_wp2
            go_quiet (fail)
            go_wp2
            go_roundw
            case rel => exact ⟨k + 1, by omega, by go_num, congrArg Value.bool (by rw [HST.out, ← Bool.and_assoc, HBB.out]; cases e <;> rfl), held_drew HX3.out _⟩
            case measure => simp [intOf]; omega
        · obtain rfl : k = V.o.n := by omega
          have hta := take_all (xs := s.on) (ys := t.on) (n := V.o.n) HLn.out.2.1.1 HLn.out.2.1.2
          rw [hta]
          obtain ⟨acc2, hacc⟩ : ∃ a, a = (acc1 && decide (s.on = t.on)) := ⟨_, rfl⟩
          rw [← hacc]
          have HA2 := Lib.hid hacc
          have HACC := Lib.hid (show acc2 = (acc2 && decide (s.delays.take 0 = t.delays.take 0)) from by simp)
          have HX := Lib.hid HX3.out
          clear hta hacc HX3
          go_wp2
          clear a0 b0
          go_loopw [8, 5] (fun iv bv wr => ∃ k : Nat, k ≤ V.d.n ∧ iv = .int .i64 (k : Int) ∧ bv = .bool (acc2 && decide (s.delays.take k = t.delays.take k)) ∧ Held w HL wr) (fun iv _ _ => V.d.n - (intOf iv).toNat)
          case atStart => exact ⟨0, Nat.zero_le _, rfl, congrArg Value.bool HACC.out, HX.out⟩
          case round =>
            obtain ⟨k, hk, rfl, rfl, hX⟩ := hrel
            have HX3 := Lib.hid hX
            have a0 := (sc_cells (hX.2 _ mv)).2.2.1
            have b0 := (sc_cells (hX.2 _ mu)).2.2.1
            unfold Sl.v at a0 b0
            dsimp only at a0 b0
            rw [← HN.out.2.2.1] at b0
            clear hX HACC hlt
            by_cases hlt : k < V.d.n
            · obtain ⟨g1, p1, hA1, hR1⟩ := (H1.out.later HX3.out.1).d.get (i := k) hlt
              obtain ⟨g2, p2, hA2, hR2⟩ := (H2.out.later HX3.out.1).d.get (i := k) (by rw [← HN.out.2.2.1]; exact hlt)
              have hst := take_step (xs := s.delays) (ys := t.delays) (k := k) (by have := HLn.out.2.2.1.1; omega) (by have := HLn.out.2.2.1.2; omega)
              obtain ⟨x, hx⟩ : ∃ x, x = s.delays.getD k default := ⟨_, rfl⟩
              obtain ⟨y, hy⟩ : ∃ y, y = t.delays.getD k default := ⟨_, rfl⟩
              rw [← hx] at hR1 hst
              rw [← hy] at hR2 hst
              have c0 := numC_cell hR1
              have e0 := numC_cell hR2
              have i1 : (0 : Int) ≤ (k : Int) := by omega
              have i2 : (k : Int) < (V.d.n : Int) := by omega
              have i3 := M.out
              rw [hA1] at a0
              rw [hA2] at b0
              have qE : (x == y) = decide (x = y) := rfl
              have HST := Lib.hid hst
              clear hx hy hR1 hR2 hst hA1 hA2
              generalize hbb : (acc2 && decide (s.delays.take k = t.delays.take k)) = b at *
              generalize decide (x = y) = e at *
              have HBB := Lib.hid hbb
              clear hbb
              cases b
              · go_wp2
                go_quiet (fail)
                go_wp2
                go_roundw
                case rel => exact ⟨k + 1, by omega, by go_num, congrArg Value.bool (by rw [HST.out, ← Bool.and_assoc, HBB.out]; rfl), held_drew HX3.out _⟩
                case measure => simp [intOf]; omega
              · go_wp2
                go_quiet (fail)
                go_wp2
                go_roundw
                case rel => exact ⟨k + 1, by omega, by go_num, congrArg Value.bool (by rw [HST.out, ← Bool.and_assoc, HBB.out]; cases e <;> rfl), held_drew HX3.out _⟩
                case measure => simp [intOf]; omega
            · obtain rfl : k = V.d.n := by omega
              have hta := take_all (xs := s.delays) (ys := t.delays) (n := V.d.n) HLn.out.2.2.1.1 HLn.out.2.2.1.2
              rw [hta]
              obtain ⟨acc3, hacc⟩ : ∃ a, a = (acc2 && decide (s.delays = t.delays)) := ⟨_, rfl⟩
              rw [← hacc]
              have HA3 := Lib.hid hacc
              have HACC := Lib.hid (show acc3 = (acc3 && decide (s.faults.take 0 = t.faults.take 0)) from by simp)
              have HX := Lib.hid HX3.out
              clear hta hacc HX3
              go_wp2
              clear a0 b0
              go_loopw [9, 5] (fun iv bv wr => ∃ k : Nat, k ≤ V.f.n ∧ iv = .int .i64 (k : Int) ∧ bv = .bool (acc3 && decide (s.faults.take k = t.faults.take k)) ∧ Held w HL wr) (fun iv _ _ => V.f.n - (intOf iv).toNat)
              case atStart => exact ⟨0, Nat.zero_le _, rfl, congrArg Value.bool HACC.out, HX.out⟩
              case round =>
                obtain ⟨k, hk, rfl, rfl, hX⟩ := hrel
                have HX3 := Lib.hid hX
                have a0 := (sc_cells (hX.2 _ mv)).2.2.2.2
                have b0 := (sc_cells (hX.2 _ mu)).2.2.2.2
                unfold Sl.v at a0 b0
                dsimp only at a0 b0
                rw [← HN.out.2.2.2.2] at b0
                clear hX HACC hlt
                by_cases hlt : k < V.f.n
                · obtain ⟨g1, p1, hA1, hR1⟩ := (H1.out.later HX3.out.1).f.get (i := k) hlt
                  obtain ⟨g2, p2, hA2, hR2⟩ := (H2.out.later HX3.out.1).f.get (i := k) (by rw [← HN.out.2.2.2.2]; exact hlt)
                  have hst := take_step (xs := s.faults) (ys := t.faults) (k := k) (by have := HLn.out.2.2.2.2.1; omega) (by have := HLn.out.2.2.2.2.2; omega)
                  obtain ⟨x, hx⟩ : ∃ x, x = s.faults.getD k default := ⟨_, rfl⟩
                  obtain ⟨y, hy⟩ : ∃ y, y = t.faults.getD k default := ⟨_, rfl⟩
                  rw [← hx] at hR1 hst
                  rw [← hy] at hR2 hst
                  obtain ⟨c0, c1, c2, c3, c4⟩ := ftC_cells hR1
                  obtain ⟨e0, e1, e2, e3, e4⟩ := ftC_cells hR2
                  have i1 : (0 : Int) ≤ (k : Int) := by omega
                  have i2 : (k : Int) < (V.f.n : Int) := by omega
                  have i3 := M.out
                  rw [hA1] at a0
                  rw [hA2] at b0
                  have qE := fun W => ft_eql x y W
                  have HST := Lib.hid hst
                  clear hx hy hR1 hR2 hst hA1 hA2
                  generalize hbb : (acc3 && decide (s.faults.take k = t.faults.take k)) = b at *
                  generalize decide (x = y) = e at *
                  have HBB := Lib.hid hbb
                  clear hbb
                  cases b
                  · go_wp2
                    go_quiet (fail)
                    go_wp2
                    go_roundw
                    case rel => exact ⟨k + 1, by omega, by go_num, congrArg Value.bool (by rw [HST.out, ← Bool.and_assoc, HBB.out]; rfl), held_drew HX3.out _⟩
                    case measure => simp [intOf]; omega
                  · go_wp2
                    go_quiet (fail)
                    go_wp2
                    go_roundw
                    case rel => exact ⟨k + 1, by omega, by go_num, congrArg Value.bool (by rw [HST.out, ← Bool.and_assoc, HBB.out]; cases e <;> rfl), held_drew HX3.out _⟩
                    case measure => simp [intOf]; omega
                · obtain rfl : k = V.f.n := by omega
                  have hta := take_all (xs := s.faults) (ys := t.faults) (n := V.f.n) HLn.out.2.2.2.2.1 HLn.out.2.2.2.2.2
                  rw [hta]
                  obtain ⟨acc4, hacc⟩ : ∃ a, a = (acc3 && decide (s.faults = t.faults)) := ⟨_, rfl⟩
                  rw [← hacc]
                  have HA4 := Lib.hid hacc
                  have HACC := Lib.hid (show acc4 = (acc4 && decide ((s.haps.map HpA.hp).take 0 = (t.haps.map HpA.hp).take 0)) from by simp)
                  have HX := Lib.hid HX3.out
                  clear hta hacc HX3
                  go_wp2
                  clear a0 b0
                  go_loopw [10, 5] (fun iv bv wr => ∃ k : Nat, k ≤ V.h.n ∧ iv = .int .i64 (k : Int) ∧ bv = .bool (acc4 && decide ((s.haps.map HpA.hp).take k = (t.haps.map HpA.hp).take k)) ∧ Held w HL wr) (fun iv _ _ => V.h.n - (intOf iv).toNat)
                  case atStart => exact ⟨0, Nat.zero_le _, rfl, congrArg Value.bool HACC.out, HX.out⟩
                  case round =>
                    obtain ⟨k, hk, rfl, rfl, hX⟩ := hrel
                    have HX3 := Lib.hid hX
                    have a0 := (sc_cells (hX.2 _ mv)).2.2.2.1
                    unfold Sl.v at a0
                    clear HX HACC hlt
                    by_cases hlt : k < V.h.n
                    · have hbX := hX.1
                      obtain ⟨g1, p1, hA1, hR1⟩ := (H1.out.later hX.1).h.row.get (i := k) hlt
                      obtain ⟨g2, p2, hA2, hR2⟩ := (H2.out.later hX.1).h.row.get (i := k) (by rw [← HN.out.2.2.2.1]; exact hlt)
                      have q1 := (H1.out.later hX.1).h.pl _ (getD_mem (xs := s.haps) (j := k) (by have := HLn.out.2.2.2.1.1; omega))
                      have q2 := (H2.out.later hX.1).h.pl _ (getD_mem (xs := t.haps) (j := k) (by have := HLn.out.2.2.2.1.2; omega))
                      have hst := take_step (xs := s.haps.map HpA.hp) (ys := t.haps.map HpA.hp) (k := k) (by have := HLn.out.2.2.2.1.1; rw [List.length_map]; omega) (by have := HLn.out.2.2.2.1.2; rw [List.length_map]; omega)
                      have hg : ∀ l : List HpA, (l.map HpA.hp).getD k default = (l.getD k default).hp := fun l => by
                        rw [List.getD_eq_getElem?_getD, List.getD_eq_getElem?_getD, List.getElem?_map]
                        cases l[k]? <;> rfl
                      rw [hg, hg] at hst
                      obtain ⟨x, hx⟩ : ∃ x, x = s.haps.getD k default := ⟨_, rfl⟩
                      obtain ⟨y, hy⟩ : ∃ y, y = t.haps.getD k default := ⟨_, rfl⟩
                      rw [← hx] at hR1 hst q1
                      rw [← hy] at hR2 hst q2
                      obtain ⟨xk, xn, xt, xA, xc, xl⟩ := x
                      obtain ⟨yk, yn, yt, yA, yc, yl⟩ := y
                      obtain ⟨c0, c1, c2, c3⟩ := hapC_cells hR1
                      obtain ⟨e0', e1', e2', e3'⟩ := hapC_cells hR2
                      have hsp : decide ((⟨xk, xn, xt, xA, xc, xl⟩ : HpA).hp = (⟨yk, yn, yt, yA, yc, yl⟩ : HpA).hp) = (decide (xk = yk) && (decide (xn = yn) && (decide (xt = yt) && decide (xl = yl)))) := hp_same _ _
                      rw [hsp] at hst
                      clear hsp
                      dsimp only at c0 c1 c2 c3 e0' e1' e2' e3' q1 q2
                      have hb1 : Below wr.heap.size wr (wr.alloc (.cells #[.int .i64 xk, .int .i64 xn, .int .i64 xt, .slice xA xl.length xc] 47)) := (Below.refl _ _).alloc (Nat.le_refl _) _
                      have hb2 : Below wr.heap.size wr ((wr.alloc (.cells #[.int .i64 xk, .int .i64 xn, .int .i64 xt, .slice xA xl.length xc] 47)).alloc (.cells #[.int .i64 yk, .int .i64 yn, .int .i64 yt, .slice yA yl.length yc] 47)) := hb1.alloc (by simp) _
                      have e0 := k_cell hb1 e0'
                      have e1 := k_cell hb1 e1'
                      have e2 := k_cell hb1 e2'
                      have e3 := k_cell hb1 e3'
                      have b0 := (sc_cells (k_later hb1 (hX.2 _ mu))).2.2.2.1
                      unfold Sl.v at b0
                      dsimp only at b0
                      rw [← HN.out.2.2.2.1, hA2] at b0
                      rw [hA1] at a0
                      have v1 := (q1.later hb2).src.convert (P := Try.prog) xc 30 5 9 Try.underlying30 Try.underlying5 Try.underlying9
                      have v2 := (q2.later hb2).src.convert (P := Try.prog) yc 30 5 9 Try.underlying30 Try.underlying5 Try.underlying9
                      dsimp only at v1 v2
                      have hbq := str_beq xl yl
                      have hbk : (xk == yk) = decide (xk = yk) := rfl
                      have hbn : (xn == yn) = decide (xn = yn) := rfl
                      have hbt : (xt == yt) = decide (xt = yt) := rfl
                      generalize decide (xl = yl) = el at *
                      generalize decide (xk = yk) = ek at *
                      generalize decide (xn = yn) = en at *
                      generalize decide (xt = yt) = et at *
                      obtain ⟨x9, hx9⟩ : ∃ x9 : ByteArray, x9 = ⟨xl.toArray⟩ := ⟨_, rfl⟩
                      obtain ⟨y9, hy9⟩ : ∃ y9 : ByteArray, y9 = ⟨yl.toArray⟩ := ⟨_, rfl⟩
                      rw [← hx9] at v1 hbq
                      rw [← hy9] at v2 hbq
                      have i1 : (0 : Int) ≤ (k : Int) := by omega
                      have i2 : (k : Int) < (V.h.n : Int) := by omega
                      have i3 := M.out
                      have HST := Lib.hid hst
                      have HX5 := Lib.hid (held_later hb2 hX)
                      clear hx hy hR1 hR2 hst hA1 hA2 hX hbX q1 q2 hg hb1 hb2 e0' e1' e2' e3' hx9 hy9
                      generalize hbb : (acc4 && decide ((s.haps.map HpA.hp).take k = (t.haps.map HpA.hp).take k)) = b at *
                      have HBB := Lib.hid hbb
                      clear hbb
                      cases b
                      case false =>
                        go_wp2
                        go_roundw
                        case rel => exact ⟨k + 1, by omega, by go_num, congrArg Value.bool (by rw [HST.out, ← Bool.and_assoc, HBB.out]; rfl), HX5.out⟩
                        case measure => simp [intOf]; omega
                      case true =>
                        cases ek
                        case false =>
                          go_wp2
                          go_roundw
                          case rel => exact ⟨k + 1, by omega, by go_num, congrArg Value.bool (by rw [HST.out, ← Bool.and_assoc, HBB.out]; rfl), HX5.out⟩
                          case measure => simp [intOf]; omega
                        case true =>
                          cases en
                          case false =>
                            go_wp2
                            go_roundw
                            case rel => exact ⟨k + 1, by omega, by go_num, congrArg Value.bool (by rw [HST.out, ← Bool.and_assoc, HBB.out]; rfl), HX5.out⟩
                            case measure => simp [intOf]; omega
                          case true =>
                            cases et
                            case false =>
                              go_wp2
                              go_roundw
                              case rel => exact ⟨k + 1, by omega, by go_num, congrArg Value.bool (by rw [HST.out, ← Bool.and_assoc, HBB.out]; rfl), HX5.out⟩
                              case measure => simp [intOf]; omega
                            case true =>
                              go_wp2
                              go_roundw
                              case rel => exact ⟨k + 1, by omega, by go_num, congrArg Value.bool (by rw [HST.out, ← Bool.and_assoc, HBB.out]; cases el <;> rfl), HX5.out⟩
                              case measure => simp [intOf]; omega
                    · obtain rfl : k = V.h.n := by omega
                      have hta := take_all (xs := s.haps.map HpA.hp) (ys := t.haps.map HpA.hp) (n := V.h.n) (by rw [List.length_map]; exact HLn.out.2.2.2.1.1) (by rw [List.length_map]; exact HLn.out.2.2.2.1.2)
                      rw [hta]
                      have hfin : (acc4 && decide (s.haps.map HpA.hp = t.haps.map HpA.hp)) = ans := by rw [HAN.out, HA4.out, HA3.out, HA2.out, HA1.out]
                      rw [hfin]
                      clear hta hfin
                      go_wp2
                      go_ret
                      exact ⟨rfl, HX3.out.1⟩
end Go.Proofs.Ytljcaigaofalbaa
