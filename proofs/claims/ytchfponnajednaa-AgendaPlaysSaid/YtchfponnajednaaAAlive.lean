/- The chapter's first example, as the laws ask it: by a contract. No condition. -/
import Derived.Test.YtchfponnajednaaAHold
import Derived.Deep.DeepCutAuto
namespace Go.Proofs.Ytchfponnajednaa
open Go.RowKit Go.Shelf

theorem later_at {P : Program} {f : FuncId} {args : Array Value} {w : World} {v : Value} (y : Later w) (h : Calls P f args y.at_ fun e w' => e = .returned v ∧ Below y.at_.heap.size y.at_ w') : Calls P f args y.at_ fun e w' => e = .returned v ∧ ∃ z : Later w, w' = z.at_ :=
  h.mono fun _ w' k => ⟨k.1, ⟨w', y.below.trans (k.2.mono y.below.size)⟩, rfl⟩

set_option maxHeartbeats 1000000 in
theorem at_any (t k : Int) (w : World) : Calls Try.prog 39 #[.int .i64 t, .int .i64 k] w fun e w' => e = .returned (evV ⟨t, k, 0, 0, 0⟩) ∧ Below w.heap.size w w' := by
  have HB := Lib.hid (fun cs => (Below.refl w.heap.size w).alloc (Nat.le_refl _) (.cells cs 36))
  go_enter Try.func39, Try.ntmps39
  go_wp2
  exact bodyPost_ret (v := .agg #[.int .i64 t, .int .i64 k, .int .i64 0, .int .i64 0, .int .i64 0]) (by simp [results, Try.results39, go_sem]) rfl ⟨rfl, HB.out _⟩

def e51 : Ev := ⟨5, 1, 0, 0, 0⟩
def e39 : Ev := ⟨3, 9, 0, 0, 0⟩
def e50 : Ev := ⟨5, 0, 0, 0, 0⟩
theorem put1 : putE [] e51 = 0 ∧ putN 0 [] e51 = 1 ∧ putL 0 [] e51 = [⟨e51, 0⟩] := by decide
theorem put2 : putE [⟨e51, 0⟩] e39 = 0 ∧ putN 1 [⟨e51, 0⟩] e39 = 2 ∧ putL 1 [⟨e51, 0⟩] e39 = [⟨e39, 1⟩, ⟨e51, 0⟩] := by decide
theorem put3 : putE [⟨e39, 1⟩, ⟨e51, 0⟩] e50 = 0 ∧ putN 2 [⟨e39, 1⟩, ⟨e51, 0⟩] e50 = 3 ∧ putL 2 [⟨e39, 1⟩, ⟨e51, 0⟩] e50 = [⟨e39, 1⟩, ⟨e50, 2⟩, ⟨e51, 0⟩] := by decide

/-- Blocks that are there, whatever an agenda does. -/
def AgH (w0 : World) (F : Nat → Prop) (a nx : Nat) (L : List En) (l : List (Nat × TypeId × Array Value)) (W : World) : Prop :=
  AgF F a nx L W ∧ Bnd F W ∧ Below w0.heap.size w0 W ∧ (∀ k, k < w0.heap.size → F k) ∧ ∀ x ∈ l, F x.1 ∧ Whole W x.1 x.2.1 x.2.2
section
variable {w0 W W' : World} {F : Nat → Prop} {a nx nx' : Nat} {L L' : List En} {l : List (Nat × TypeId × Array Value)}
theorem AgH.later (h : AgH w0 F a nx L l W) (hb : Below W.heap.size W W') : AgH w0 F a nx L l W' :=
  ⟨h.1.later hb, h.2.1.more hb.size, k_then hb h.2.2.1, h.2.2.2.1, fun x hx => ⟨(h.2.2.2.2 x hx).1, k_later hb (h.2.2.2.2 x hx).2⟩⟩
theorem AgH.turned (h : AgH w0 F a nx L l W) (h1 : AgF F a nx' L' W') (hk : KeptF F W W') : AgH w0 F a nx' L' l W' :=
  ⟨h1, h.2.1.more hk.size, ((Kept.of_below h.2.2.1 Empty).trans hk (fun i hi hn => hn (h.2.2.2.1 i hi))).below (fun _ _ h => h), h.2.2.2.1, fun x hx => ⟨(h.2.2.2.2 x hx).1, (h.2.2.2.2 x hx).2.kept hk (fun hn => hn (h.2.2.2.2 x hx).1)⟩⟩
theorem AgH.box (h : AgH w0 F a nx L l W) (t : TypeId) (cs : Array Value) : AgH w0 (Grow F W (W.alloc (.cells cs t))) a nx L (l ++ [(W.heap.size, t, cs)]) (W.alloc (.cells cs t)) := by
  have hb : Below W.heap.size W (W.alloc (.cells cs t)) := (Below.refl _ _).alloc (Nat.le_refl _) _
  refine ⟨h.1.new hb, h.2.1.new hb.size, k_then hb h.2.2.1, fun k hk => .inl (h.2.2.2.1 k hk), fun x hx => ?_⟩
  rcases List.mem_append.1 hx with hx | hx
  · exact ⟨.inl (h.2.2.2.2 x hx).1, k_later hb (h.2.2.2.2 x hx).2⟩
  · obtain rfl : x = (W.heap.size, t, cs) := by simpa using hx
    exact ⟨.inr ⟨Nat.le_refl _, by simp⟩, Whole.new W t cs⟩
end
/-- .. so said of some such blocks. -/
def AgX (w0 : World) (a nx : Nat) (L : List En) (l : List (Nat × TypeId × Array Value)) (W : World) : Prop := ∃ F, AgH w0 F a nx L l W
section
variable {w0 W W' : World} {a nx : Nat} {L : List En} {l : List (Nat × TypeId × Array Value)}
theorem AgX.later (h : AgX w0 a nx L l W) (hb : Below W.heap.size W W') : AgX w0 a nx L l W' := h.imp fun _ h => h.later hb
theorem AgX.box (h : AgX w0 a nx L l W) (t : TypeId) (cs : Array Value) : AgX w0 a nx L (l ++ [(W.heap.size, t, cs)]) (W.alloc (.cells cs t)) := by
  obtain ⟨F, h⟩ := h
  exact ⟨_, h.box t cs⟩
theorem AgX.below (h : AgX w0 a nx L l W) : Below w0.heap.size w0 W := by
  obtain ⟨F, h⟩ := h
  exact h.2.2.1
theorem AgX.whole (h : AgX w0 a nx L l W) : ∀ x ∈ l, Whole W x.1 x.2.1 x.2.2 := by
  obtain ⟨F, h⟩ := h
  exact fun x hx => (h.2.2.2.2 x hx).2
theorem put_x {x : Ev} (h : AgX w0 a nx L l W) (hnx : nx < 1000000000) :
    Calls Try.prog 16 #[.pointer (some ⟨a, 0, none⟩), evV x] W fun e W' => e = .returned (.int .i64 (putE L x)) ∧ AgX w0 a (putN nx L x) (putL nx L x) l W' := by
  obtain ⟨F, h⟩ := h
  exact (put_f h.1 h.2.1 hnx).mono fun e W' k => ⟨k.1, F, h.turned k.2.1 k.2.2⟩
theorem take_x (h : AgX w0 a nx L l W) (hl : L.length ≤ 1000000) :
    Calls Try.prog 17 #[.pointer (some ⟨a, 0, none⟩)] W fun e W' => e = .returned (headOf L) ∧ AgX w0 a nx L.tail l W' := by
  obtain ⟨F, h⟩ := h
  exact (take_f h.1 h.2.1 hl).mono fun e W' k => ⟨k.1, F, h.turned k.2.1 k.2.2⟩
theorem drop_x {kind node : Int} (h : AgX w0 a nx L l W) (hl : L.length ≤ 1000000) :
    Calls Try.prog 19 #[.pointer (some ⟨a, 0, none⟩), .int .i64 kind, .int .i64 node] W fun e W' => e = .returned (.int .i64 ((L.length : Int) - ((L.filter (keepB kind node)).length : Int))) ∧ AgX w0 a nx (L.filter (keepB kind node)) l W' := by
  obtain ⟨F, h⟩ := h
  exact (drop_f h.1 h.2.1 hl).mono fun e W' k => ⟨k.1, F, h.turned k.2.1 k.2.2⟩
theorem first_x (h : AgX w0 a nx L l W) : Calls Try.prog 11 #[.pointer (some ⟨a, 0, none⟩)] W fun e W' => e = .returned (headOf L) ∧ Below W.heap.size W W' := by
  obtain ⟨F, h⟩ := h
  exact first_f h.1
theorem len_x (h : AgX w0 a nx L l W) : Calls Try.prog 14 #[.pointer (some ⟨a, 0, none⟩)] W fun e W' => e = .returned (.int .i64 (L.length : Int)) ∧ Below W.heap.size W W' := by
  obtain ⟨F, h⟩ := h
  exact len_f h.1
theorem all_x (h : AgX w0 a nx L l W) (hl : L.length ≤ 1000000) : Calls Try.prog 13 #[.pointer (some ⟨a, 0, none⟩)] W (AllDone W L) := by
  obtain ⟨F, h⟩ := h
  exact all_f h.1 hl
end
theorem AgX.start (w : World) : AgX w w.heap.size 0 [] [] (w.alloc (.cells #[.pointer none] 27)) := by
  have hb : Below w.heap.size w (w.alloc (.cells #[.pointer none] 27)) := (Below.refl _ _).alloc (Nat.le_refl _) _
  exact ⟨fun k => k < w.heap.size, AgF.zero (Whole.new w _ _) (by omega), fun k hk => by simp; omega, hb, fun _ h => h, fun _ h => by cases h⟩
theorem five_later {W : World} {b : Nat} {t : TypeId} {a0 a1 a2 a3 a4 : Value} (h : Whole W b t #[a0, a1, a2, a3, a4]) (y : Later W) :
    y.at_.cell? ⟨b, 0, none⟩ = some a0 ∧ y.at_.cell? ⟨b, 1, none⟩ = some a1 ∧ y.at_.cell? ⟨b, 2, none⟩ = some a2 ∧ y.at_.cell? ⟨b, 3, none⟩ = some a3 ∧ y.at_.cell? ⟨b, 4, none⟩ = some a4 :=
  ⟨y.cell (h.cell 0), y.cell (h.cell 1), y.cell (h.cell 2), y.cell (h.cell 3), y.cell (h.cell 4)⟩
theorem ev_equal_self (x : Ev) (w : World) : (Op.equalIn 10000 36 (evV x) (evV x)).run Try.prog w = .ok true w := by rw [ev_equal, decide_eq_true rfl]
theorem ev_eql_self (x : Ev) (w : World) : (binOp .eql 36 (evV x) (evV x)).run Try.prog w = .ok (.bool true) w := by rw [ev_eql, decide_eq_true rfl]
theorem head_cons (x : En) (L : List En) : headOf (x :: L) = .tuple #[evV x.e, .bool true] := rfl
theorem head_nil : headOf [] = .tuple #[evV zeroEv, .bool false] := rfl

set_option maxRecDepth 100000 in
set_option maxHeartbeats 4000000 in
theorem alive_any (w : World) : Calls Try.prog 21 #[] w fun e w' => e = .returned (.bool true) ∧ Below w.heap.size w w' := by
  have HX0 := Lib.hid (AgX.start w)
  have ha := fun t k W => at_any t k W
  have HA := Lib.hid ha
  clear ha
  go_enter Try.func21, Try.ntmps21
  go_wp2_with fail
  refine (HA.out _ _ _).mono ?_
  rintro e w1 ⟨rfl, hb⟩
  have HX1 := Lib.hid (HX0.out.later hb)
  clear HX0 hb
  go_wp2_with fail
  have hp := put_x (x := e51) HX1.out (by omega)
  rw [put1.1, put1.2.1, put1.2.2] at hp
  have HP := Lib.hid hp
  clear hp
  refine HP.out.mono ?_
  rintro e w2 ⟨rfl, hx⟩
  have HX2 := Lib.hid hx
  clear HX1 HP hx
  go_wp2_with fail
  refine (HA.out _ _ _).mono ?_
  rintro e w3 ⟨rfl, hb⟩
  have HX3 := Lib.hid (HX2.out.later hb)
  clear HX2 hb
  go_wp2_with fail
  have hp := put_x (x := e39) HX3.out (by omega)
  rw [put2.1, put2.2.1, put2.2.2] at hp
  have HP := Lib.hid hp
  clear hp
  refine HP.out.mono ?_
  rintro e w4 ⟨rfl, hx⟩
  have HX4 := Lib.hid hx
  clear HX3 HP hx
  go_wp2_with fail
  refine (HA.out _ _ _).mono ?_
  rintro e w5 ⟨rfl, hb⟩
  have HX5 := Lib.hid (HX4.out.later hb)
  clear HX4 hb
  go_wp2_with fail
  have hp := put_x (x := e50) HX5.out (by omega)
  rw [put3.1, put3.2.1, put3.2.2] at hp
  have HP := Lib.hid hp
  clear hp
  refine HP.out.mono ?_
  rintro e w6 ⟨rfl, hx⟩
  have HX6 := Lib.hid hx
  clear HX5 HP hx
  go_wp2_with fail
  have hp := take_x HX6.out (by simp)
  rw [head_cons] at hp
  have HP := Lib.hid hp
  clear hp
  refine HP.out.mono ?_
  rintro e w7 ⟨rfl, hx⟩
  simp only [List.tail_cons] at hx
  have HX7 := Lib.hid (hx.box 36 e39.cells.toArray)
  clear HX6 HP hx
  unfold e39 Ev.cells at HX7
  unfold e39
  go_wp2_with fail
  have hp := take_x HX7.out (by simp)
  rw [head_cons] at hp
  have HP := Lib.hid hp
  clear hp
  refine HP.out.mono ?_
  rintro e w8 ⟨rfl, hx⟩
  simp only [List.tail_cons] at hx
  have HX8 := Lib.hid (hx.box 36 e50.cells.toArray)
  clear HX7 HP hx
  unfold e50 Ev.cells at HX8
  unfold e50
  go_wp2_with fail
  have hp := take_x HX8.out (by simp)
  rw [head_cons] at hp
  have HP := Lib.hid hp
  clear hp
  refine HP.out.mono ?_
  rintro e w9 ⟨rfl, hx⟩
  simp only [List.tail_cons] at hx
  have HX9 := Lib.hid (hx.box 36 e51.cells.toArray)
  clear HX8 HP hx
  unfold e51 Ev.cells at HX9
  unfold e51
  go_upto_region 6 with fail
  have hw := HX9.out.whole
  simp only [List.nil_append, List.cons_append] at hw
  have hx1 := hw _ (List.mem_cons_self ..)
  have hx2 := hw _ (List.mem_cons_of_mem _ (List.mem_cons_self ..))
  have hx3 := hw _ (List.mem_cons_of_mem _ (List.mem_cons_of_mem _ (List.mem_cons_self ..)))
  generalize w9.alloc (.cells #[.int .i64 5, .int .i64 1, .int .i64 0, .int .i64 0, .int .i64 0] 36) = W at *
  have f1 := five_later hx1
  have f2 := five_later hx2
  have f3 := five_later hx3
  have p0 := fun y => (f1 y).1
  have p1 := fun y => (f1 y).2.1
  have p2 := fun y => (f1 y).2.2.1
  have p3 := fun y => (f1 y).2.2.2.1
  have p4 := fun y => (f1 y).2.2.2.2
  have q0 := fun y => (f2 y).1
  have q1 := fun y => (f2 y).2.1
  have q2 := fun y => (f2 y).2.2.1
  have q3 := fun y => (f2 y).2.2.2.1
  have q4 := fun y => (f2 y).2.2.2.2
  have r0 := fun y => (f3 y).1
  have r1 := fun y => (f3 y).2.1
  have r2 := fun y => (f3 y).2.2.1
  have r3 := fun y => (f3 y).2.2.2.1
  have r4 := fun y => (f3 y).2.2.2.2
  dsimp only at p0 p1 p2 p3 p4 q0 q1 q2 q3 q4 r0 r1 r2 r3 r4
  clear hw hx1 hx2 hx3 f1 f2 f3
  have m1 := fun V => ev_equal_self ⟨3, 9, 0, 0, 0⟩ V
  have m2 := fun V => ev_equal_self ⟨5, 0, 0, 0, 0⟩ V
  have m3 := fun V => ev_equal_self ⟨5, 1, 0, 0, 0⟩ V
  have n1 := fun V => ev_eql_self ⟨3, 9, 0, 0, 0⟩ V
  have n2 := fun V => ev_eql_self ⟨5, 0, 0, 0, 0⟩ V
  have n3 := fun V => ev_eql_self ⟨5, 1, 0, 0, 0⟩ V
  refine wp_region_later (by kernel_rfl) (by kernel_rfl) ?_
  repeat (go_big_quiet_step (first
    | (go_at_call 39; exact later_of _ (HA.out _ _))
    | (go_at_call 14; exact later_at _ (len_x (HX9.out.later (Later.below _))))))
  refine wpQuiet_nil ?_
  intro _ hw'
  obtain ⟨y, hw''⟩ := hw'
  subst hw''
  go_wp2
  go_ret
  exact ⟨rfl, k_then y.below HX9.out.below⟩
end Go.Proofs.Ytchfponnajednaa
