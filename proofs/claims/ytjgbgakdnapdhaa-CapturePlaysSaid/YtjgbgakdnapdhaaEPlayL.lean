/- CapturePlays, its walk. No condition. -/
import Derived.Test.YtjgbgakdnapdhaaEDo
import Derived.IntWalk
namespace Go.Proofs.Ytjgbgakdnapdhaa
open Go.RowKit Go.Shelf

theorem longs_same {W : World} {A1 A2 : Option Addr} {n m c1 c2 : Nat} {L : List Int} (h1 : RSrc inC 1 W ⟨A1, n, c1⟩ L) (h2 : RSrc inC 1 W ⟨A2, m, c2⟩ L) : Calls Try.prog 17 #[.slice A1 n c1, .slice A2 m c2] W fun e w' => e = .returned (.bool true) ∧ Below W.heap.size W w' :=
  (longs_any W ⟨A1, n, c1⟩ ⟨A2, m, c2⟩ L L h1 h2).mono fun _ _ ⟨e, k⟩ => ⟨by rw [e, decide_eq_true (rfl : L = L)], k⟩
/-- A row in memory of its own: its cells may be written. -/
def RowIn (b : Nat) (W : World) (A : Option Addr) (n k : Nat) (t : TypeId) : Prop := 0 < n → ∃ g, A = some ⟨g, 0, none⟩ ∧ b ≤ g ∧ ∃ cur, Whole W g t cur ∧ ∀ j, j < n * k → ∃ u, cur[j]? = some u
/-- .. of numbers. -/
def IntsIn (b : Nat) (W : World) (A : Option Addr) (n : Nat) : Prop := 0 < n → ∃ g, A = some ⟨g, 0, none⟩ ∧ b ≤ g ∧ ∃ cur, Whole W g 2 cur ∧ ∀ j, j < n → ∃ x : Int, cur[j]? = some (.int .i64 x)
theorem own_at {b n k : Nat} {t : TypeId} {xs : List Value} {W : World} {A : Option Addr} {m c : Nat} (h : W.ownsRow b t k (.slice A m c) n xs) (hn : 0 < n) : ∃ g, A = some ⟨g, 0, none⟩ ∧ b ≤ g ∧ ∃ cur, Whole W g t cur ∧ ∀ (j : Nat) u, xs[j]? = some u → cur[j]? = some u := by
  rcases h.2 with ⟨e, h0⟩ | ⟨g, cap, cur, e, hb, hg, _⟩
  · omega
  · cases e
    refine ⟨g, rfl, hb, cur, hg, fun j u hu => ?_⟩
    have h1 := h.cells (g := g) rfl j u hu
    rw [plain_add, Nat.zero_add] at h1
    have h2 := (show Whole W g t cur from hg).cell j
    rw [h2] at h1
    exact h1
theorem new_devs {xs : List De} {w w' : World} {e : Ending} (h : NewRow deC 2 51 xs w e w') : ∃ A c, e = .returned (.slice A xs.length c) ∧ RSrc deC 2 w' ⟨A, xs.length, c⟩ xs ∧ RowIn w.heap.size w' A xs.length 2 51 ∧ Below w.heap.size w w' := by
  obtain ⟨v, rfl, hr, hb⟩ := h
  obtain ⟨⟨A, n, c⟩, rfl, hs, _⟩ := rsrc_of_own (cells := deC) (k := 2) (fun _ => rfl) rfl hr
  have hn : xs.length = n := hs.len
  subst hn
  refine ⟨A, c, rfl, hs, fun h0 => ?_, hb⟩
  obtain ⟨g, e, h1, cur, h2, h3⟩ := own_at hr h0
  refine ⟨g, e, h1, cur, h2, fun j hj => ?_⟩
  have hl : j < (xs.flatMap deC).length := by rw [flat_len (k := 2) (fun _ => rfl)]; exact hj
  exact ⟨_, h3 j _ (List.getElem?_eq_getElem hl)⟩
theorem new_ints {xs : List Int} {w w' : World} {e : Ending} (h : NewRow inC 1 2 xs w e w') : ∃ A c, e = .returned (.slice A xs.length c) ∧ RSrc inC 1 w' ⟨A, xs.length, c⟩ xs ∧ IntsIn w.heap.size w' A xs.length ∧ Below w.heap.size w w' := by
  obtain ⟨v, rfl, hr, hb⟩ := h
  obtain ⟨⟨A, n, c⟩, rfl, hs, _⟩ := rsrc_of_own (cells := inC) (k := 1) (fun _ => rfl) rfl hr
  have hn : xs.length = n := hs.len
  subst hn
  refine ⟨A, c, rfl, hs, fun h0 => ?_, hb⟩
  obtain ⟨g, e, h1, cur, h2, h3⟩ := own_at hr h0
  refine ⟨g, e, h1, cur, h2, fun j hj => ⟨xs[j], h3 j _ ?_⟩⟩
  have := flat_get (cells := inC) (k := 1) (fun _ => rfl) xs j xs[j] 0 (List.getElem?_eq_getElem hj) (by decide)
  rw [Nat.mul_one, Nat.add_zero] at this
  rw [this]
  rfl
theorem RowIn.later {b n k : Nat} {t : TypeId} {A : Option Addr} {W W' : World} (h : RowIn b W A n k t) (hb : Below W.heap.size W W') : RowIn b W' A n k t := fun h0 => by
  obtain ⟨g, e, h1, cur, h2, h3⟩ := h h0
  exact ⟨g, e, h1, cur, k_later hb h2, h3⟩
theorem IntsIn.later {b n : Nat} {A : Option Addr} {W W' : World} (h : IntsIn b W A n) (hb : Below W.heap.size W W') : IntsIn b W' A n := fun h0 => by
  obtain ⟨g, e, h1, cur, h2, h3⟩ := h h0
  exact ⟨g, e, h1, cur, k_later hb h2, h3⟩
theorem IntsIn.far {b n : Nat} {A : Option Addr} {W W' : World} {S : Nat → Prop} (h : IntsIn b W A n) (hk : Kept S W W') (hS : ∀ g cs, Whole W g 2 cs → ¬ S g) : IntsIn b W' A n := fun h0 => by
  obtain ⟨g, e, h1, cur, h2, h3⟩ := h h0
  exact ⟨g, e, h1, cur, h2.kept hk (hS g cur h2), h3⟩

theorem RowIn.low {b b' n k : Nat} {t : TypeId} {A : Option Addr} {W : World} (h : RowIn b W A n k t) (hb : b' ≤ b) : RowIn b' W A n k t := fun h0 => by
  obtain ⟨g, e, h1, h2⟩ := h h0
  exact ⟨g, e, by omega, h2⟩
theorem IntsIn.low {b b' n : Nat} {A : Option Addr} {W : World} (h : IntsIn b W A n) (hb : b' ≤ b) : IntsIn b' W A n := fun h0 => by
  obtain ⟨g, e, h1, h2⟩ := h h0
  exact ⟨g, e, by omega, h2⟩
/-- A play, and what was told of it. -/
structure TolE (w : World) (pp a rr : Nat) (v : Value) (D : List Oe) (b : Nat) (A : Option Addr) (z : Nat) (c : Nat) (L : List De) (B : Option Addr) (y : Nat) (d : Nat) (V : List Int) (W : World) : Prop where
  p : PlayE w pp a rr D v D W
  rA : RSrc deC 2 W ⟨A, z, c⟩ L
  iA : RowIn b W A z 2 51
  rV : RSrc inC 1 W ⟨B, y, d⟩ V
  iV : IntsIn b W B y
theorem TolE.later {w : World} {pp a rr : Nat} {v : Value} {D : List Oe} {b : Nat} {A : Option Addr} {z : Nat} {c : Nat} {L : List De} {B : Option Addr} {y : Nat} {d : Nat} {V : List Int} {W W' : World} (h : TolE w pp a rr v D b A z c L B y d V W) (hb : Below W.heap.size W W') : TolE w pp a rr v D b A z c L B y d V W' :=
  ⟨h.p.later hb, h.rA.later hb, h.iA.later hb, h.rV.later hb, h.iV.later hb⟩
theorem set_all {cur : Array Value} {m i : Nat} {x : Value} (h : ∀ j, j < m → ∃ u, cur[j]? = some u) : ∀ j, j < m → ∃ u, (cur.setIfInBounds i x)[j]? = some u := fun j hj => by
  obtain ⟨u, hu⟩ := h j hj
  rw [Array.getElem?_setIfInBounds]
  split
  · split
    · exact ⟨_, rfl⟩
    · rename_i e hn
      rw [Array.getElem?_eq_none_iff.2 (by omega)] at hu
      cases hu
  · exact ⟨u, hu⟩
theorem set_ints {cur : Array Value} {m i : Nat} {x : Int} (h : ∀ j, j < m → ∃ y : Int, cur[j]? = some (.int .i64 y)) : ∀ j, j < m → ∃ y : Int, (cur.setIfInBounds i (.int .i64 x))[j]? = some (.int .i64 y) := fun j hj => by
  obtain ⟨u, hu⟩ := h j hj
  rw [Array.getElem?_setIfInBounds]
  split
  · split
    · exact ⟨_, rfl⟩
    · rename_i e hn
      rw [Array.getElem?_eq_none_iff.2 (by omega)] at hu
      cases hu
  · exact ⟨u, hu⟩
/-- A block of another type is written. -/
theorem PlayE.wrote {w W : World} {pp a rr g : Nat} {v : Value} {C D : List Oe} {t : TypeId} {cs : Array Value} (h : PlayE w pp a rr C v D W) (hg : Whole W g t cs) (hb : w.heap.size ≤ g) (h1 : t ≠ 31) (h2 : t ≠ 35) (h3 : t ≠ 37) (h4 : t ≠ 65) {W' : World} (hk : Kept (fun i => i = g) W W') : PlayE w pp a rr C v D W' := by
  obtain ⟨e1, e2, e3, e4⟩ := h.of_type hg
  exact h.keep hk (fun e => e1 h1 e.symm) (fun e => e2 h2 e.symm) (fun e => e3 h3 e.symm) (fun i hi e => e4 h4 i hi e.symm) (fun i e => by have e : i = g := e; omega)

/-- What loops over the told rows leave. -/
structure OverE (w : World) (pp a rr : Nat) (v : Value) (D : List Oe) (A : Option Addr) (z : Nat) (B : Option Addr) (y : Nat) (W : World) : Prop where
  p : PlayE w pp a rr D v D W
  iA : RowIn w.heap.size W A z 2 51
  iV : IntsIn w.heap.size W B y
theorem over_dev {w : World} {pp a rr g : Nat} {v : Value} {D : List Oe} {z : Nat} {B : Option Addr} {y : Nat} {W : World} {cur : Array Value} {i : Nat} {x0 x1 : Value} (h : OverE w pp a rr v D (some ⟨g, 0, none⟩) z B y W) (hg : Whole W g 51 cur) (hb : w.heap.size ≤ g) (hc : ∀ j, j < z * 2 → ∃ u, cur[j]? = some u) :
    OverE w pp a rr v D (some ⟨g, 0, none⟩) z B y ((W.setCell ⟨g, i, none⟩ x0).setCell ⟨g, i + 1, none⟩ x1) := by
  have hk : Kept (fun i => i = g) W ((W.setCell ⟨g, i, none⟩ x0).setCell ⟨g, i + 1, none⟩ x1) := Kept.setCell (S := fun i => i = g) (Kept.setCell (S := fun i => i = g) (Kept.refl _ W) (p := ⟨g, i, none⟩) (.inl rfl) _) (p := ⟨g, i + 1, none⟩) (.inl rfl) _
  refine ⟨h.p.wrote hg hb (by decide) (by decide) (by decide) (by decide) hk, fun _ => ⟨g, rfl, hb, _, (hg.set i x0).set (i + 1) x1, set_all (set_all hc)⟩, h.iV.far hk (fun g' cs hg' e => ?_)⟩
  have e : g' = g := e
  exact typed_apart hg' hg (by decide) e
theorem over_int {w : World} {pp a rr g : Nat} {v : Value} {D : List Oe} {y : Nat} {W : World} {cur : Array Value} {i : Nat} {x : Int} (h : PlayE w pp a rr D v D W) (hg : Whole W g 2 cur) (hb : w.heap.size ≤ g) (hc : ∀ j, j < y → ∃ u : Int, cur[j]? = some (.int .i64 u)) :
    PlayE w pp a rr D v D (W.setCell ⟨g, i, none⟩ (.int .i64 x)) ∧ IntsIn w.heap.size (W.setCell ⟨g, i, none⟩ (.int .i64 x)) (some ⟨g, 0, none⟩) y := by
  have hk : Kept (fun i => i = g) W (W.setCell ⟨g, i, none⟩ (.int .i64 x)) := Kept.setCell (S := fun i => i = g) (Kept.refl _ W) (p := ⟨g, i, none⟩) (.inl rfl) _
  exact ⟨h.wrote hg hb (by decide) (by decide) (by decide) (by decide) hk, fun _ => ⟨g, rfl, hb, _, hg.set i _, set_ints hc⟩⟩
/-- A play, before anything was told. -/
structure OnlyP (w : World) (pp a rr : Nat) (v : Value) (D : List Oe) (W : World) : Prop where
  p : PlayE w pp a rr D v D W
theorem OnlyP.later {w : World} {pp a rr : Nat} {v : Value} {D : List Oe} {W W' : World} (h : OnlyP w pp a rr v D W) (hb : Below W.heap.size W W') : OnlyP w pp a rr v D W' := ⟨h.p.later hb⟩
set_option maxRecDepth 1000000 in
set_option maxHeartbeats 8000000 in
theorem capturePlays_walk (s : Sl) (os : List Oe) (own : Int) (w : World) (ho : RSrc oeC 4 w s os) : Calls Try.prog 3 #[s.v, .int .i64 own] w fun e w' => e = .returned (.bool true) ∧ Below w.heap.size w w' := by
  have hl := ho.len
  have hmx := Nat.le_trans ho.cap ho.max
  have HO := Lib.hid ho
  obtain ⟨A, N, c⟩ := s
  unfold Sl.v
  dsimp only at *
  clear ho
  by_cases hN : N ≤ 100
  · have h1 := law_new (Below.refl w.heap.size w)
    rw [capC_lit] at h1
    obtain ⟨w1, hw1⟩ : ∃ w1, w1 = w.alloc (.cells #[.int .i64 0, .bool false, .int .i64 0, .bool false, .int .i64 0, .bool false, .int .i64 0, .bool false, .int .i64 0, .bool false, .int .i64 0, .bool false, .int .i64 0, .bool false, .int .i64 0, .bool false, .int .i64 0, .bool false, .int .i64 0, .bool false, .int .i64 0, .bool false, .int .i64 0, .bool false, .int .i64 0, .bool false, .int .i64 0, .bool false, .int .i64 0, .bool false, .int .i64 0, .bool false, .int .i64 0, .bool false, .int .i64 0, .bool false, .int .i64 0, .bool false, .int .i64 0, .bool false, .int .i64 0, .bool false, .int .i64 0, .bool false, .int .i64 0, .bool false, .int .i64 0, .bool false, .int .i64 0, .bool false, .int .i64 0, .bool false, .int .i64 0, .bool false, .int .i64 0, .bool false, .int .i64 0, .bool false, .int .i64 0, .bool false, .int .i64 0, .bool false, .int .i64 0, .bool false] 31) := ⟨_, rfl⟩
    rw [← hw1] at h1
    have z1 : w1.heap.size = w.heap.size + 1 := by rw [hw1]; simp
    obtain ⟨w2, hw2⟩ : ∃ w2, w2 = w1.alloc (.cells #[.slice none 0 0] 35) := ⟨_, rfl⟩
    have h2b : Below w1.heap.size w1 w2 := by rw [hw2]; exact (Below.refl _ _).alloc (Nat.le_refl _) _
    have h2 : Whole w2 w1.heap.size 35 #[.slice none 0 0] := by rw [hw2]; exact Whole.new _ _ _
    have z2 : w2.heap.size = w1.heap.size + 1 := by rw [hw2]; simp
    obtain ⟨w3, hw3⟩ : ∃ w3, w3 = w2.alloc (.cells #[.pointer (some ⟨w.heap.size, 0, none⟩), .pointer (some ⟨w1.heap.size, 0, none⟩)] 37) := ⟨_, rfl⟩
    have h3b : Below w2.heap.size w2 w3 := by rw [hw3]; exact (Below.refl _ _).alloc (Nat.le_refl _) _
    have h3 : Whole w3 w2.heap.size 37 #[.pointer (some ⟨w.heap.size, 0, none⟩), .pointer (some ⟨w1.heap.size, 0, none⟩)] := by rw [hw3]; exact Whole.new _ _ _
    have hp : PlayE w w2.heap.size w.heap.size w1.heap.size [] (.slice none 0 0) [] w3 := ⟨by rw [look_nil]; exact (h1.later h2b).later h3b, ⟨k_later h3b h2, ⟨rfl, .inl ⟨rfl, rfl⟩⟩⟩, h3, by omega, by omega⟩
    have he3 : ((w.alloc (.cells #[.int .i64 0, .bool false, .int .i64 0, .bool false, .int .i64 0, .bool false, .int .i64 0, .bool false, .int .i64 0, .bool false, .int .i64 0, .bool false, .int .i64 0, .bool false, .int .i64 0, .bool false, .int .i64 0, .bool false, .int .i64 0, .bool false, .int .i64 0, .bool false, .int .i64 0, .bool false, .int .i64 0, .bool false, .int .i64 0, .bool false, .int .i64 0, .bool false, .int .i64 0, .bool false, .int .i64 0, .bool false, .int .i64 0, .bool false, .int .i64 0, .bool false, .int .i64 0, .bool false, .int .i64 0, .bool false, .int .i64 0, .bool false, .int .i64 0, .bool false, .int .i64 0, .bool false, .int .i64 0, .bool false, .int .i64 0, .bool false, .int .i64 0, .bool false, .int .i64 0, .bool false, .int .i64 0, .bool false, .int .i64 0, .bool false, .int .i64 0, .bool false, .int .i64 0, .bool false] 31)).alloc (.cells #[.slice none 0 0] 35)).alloc (.cells #[.pointer (some ⟨w.heap.size, 0, none⟩), .pointer (some ⟨w.heap.size + 1, 0, none⟩)] 37) = w3 := by rw [hw3, hw2, z1, hw1]
    have he2 : w.heap.size + 1 + 1 = w2.heap.size := by omega
    have HP0 := Lib.hid hp
    have HE := Lib.hid (And.intro he3 he2)
    clear h1 hw1 z1 hw2 h2b h2 z2 hw3 h3b h3 hp he3 he2
    go_enter Try.func3, Try.ntmps3
    go_upto_region 5 with fail
    rw [HE.out.1, HE.out.2]
    obtain ⟨pp, hpp⟩ : ∃ pp, pp = w2.heap.size := ⟨_, rfl⟩
    have hp1 := HP0.out
    rw [← hpp] at hp1
    rw [← hpp]
    have HP1 := Lib.hid hp1
    clear hp1 hpp HP0 HE
    generalize (Value.agg #[.int .i64 0, .bool false, .int .i64 0, .bool false, .int .i64 0, .bool false, .int .i64 0, .bool false, .int .i64 0, .bool false, .int .i64 0, .bool false, .int .i64 0, .bool false, .int .i64 0, .bool false, .int .i64 0, .bool false, .int .i64 0, .bool false, .int .i64 0, .bool false, .int .i64 0, .bool false, .int .i64 0, .bool false, .int .i64 0, .bool false, .int .i64 0, .bool false, .int .i64 0, .bool false, .int .i64 0, .bool false, .int .i64 0, .bool false, .int .i64 0, .bool false, .int .i64 0, .bool false, .int .i64 0, .bool false, .int .i64 0, .bool false, .int .i64 0, .bool false, .int .i64 0, .bool false, .int .i64 0, .bool false, .int .i64 0, .bool false, .int .i64 0, .bool false, .int .i64 0, .bool false, .int .i64 0, .bool false, .int .i64 0, .bool false, .int .i64 0, .bool false, .int .i64 0, .bool false]) = X18
    go_loopw [26] (fun iv wr => ∃ (k a rr : Nat) (v : Value) (D : List Oe), (k ≤ N ∧ D.length ≤ k ∧ GoodD D) ∧ iv = .int .i64 (k : Int) ∧ PlayE w pp a rr D v D wr) (fun iv _ => N - (intOf iv).toNat)
    case atStart => exact ⟨0, _, _, _, [], ⟨Nat.zero_le _, Nat.zero_le _, good_nil⟩, rfl, HP1.out⟩
    case round =>
      obtain ⟨k, a, rr, v, D, ⟨hk, hdk, hgd⟩, rfl, hW⟩ := hrel
      have HW := Lib.hid hW
      have HG := Lib.hid hgd
      by_cases hlt : k < N
      · obtain ⟨g, o, hA0, hA2⟩ := (HO.out.later hW.cap.below).get (i := k) hlt
        dsimp only at hA0
        obtain ⟨⟨ok, on, oc, ov⟩, hx⟩ : ∃ o, o = os.getD k default := ⟨_, rfl⟩
        rw [← hx] at hA2
        have hlat := fun W (hb : Below w.heap.size w W) => (HO.out.later hb).get (i := k) hlt
        rw [← hx] at hlat
        subst hA0
        obtain ⟨q0, q1, q2, q3⟩ := oeC_cells hA2
        have KL := Lib.hid (fun W (hb : Below w.heap.size w W) => (show W.cell? ⟨g, o + k * 4 + 1, none⟩ = some (.int .i64 on) from by
          obtain ⟨g2, o2, hB0, hB2⟩ := hlat W hb
          cases hB0
          exact (oeC_cells hB2).2.1))
        have e1 : (0 : Int) ≤ (k : Int) := by omega
        have e2 : (k : Int) < (N : Int) := by omega
        have HDO := Lib.hid (do_any w wr pp a rr v D ⟨ok, on, oc, ov⟩ hW hgd (by omega))
        clear hx hA2 hlat hW hgd
        go_upto_region 9 with (go_at_call 9; refine HDO.out.mono ?_; (rintro e w5 ⟨rfl, a5, rr5, v5, D5, h5, hg5, hl5⟩; have H5 := Lib.hid h5; have HG5 := Lib.hid (And.intro hg5 hl5); clear h5 hg5 hl5))
        clear HDO HW HG q0 q1 q2 q3
        have hlen : D5.length ≤ 1000 := by have := HG5.out.2; omega
        have HOF := Lib.hid (fun W (h : LawC w a5 (look D5) W) => law_of h on)
        have HRO := Lib.hid (fun W (h : PlayE w pp a5 rr5 D5 v5 D5 W) => refOf_any h.ref HG5.out.1 hlen on)
        have HLI := Lib.hid (fun W (h : PlayE w pp a5 rr5 D5 v5 D5 W) => (list_any (SrcE.of h.cap.cap)).mono fun _ _ k => new_devs k)
        have HVA := Lib.hid (fun W (h : PlayE w pp a5 rr5 D5 v5 D5 W) => (values_any h.cap.cap own).mono fun _ _ k => new_ints k)
        have HCO := Lib.hid (fun W (h : LawC w a5 (look D5) W) => law_count h)
        have HRL := Lib.hid (fun W (h : PlayE w pp a5 rr5 D5 v5 D5 W) => (refList_any h.ref HG5.out.1 hlen).mono fun _ _ k => new_devs k)
        have HRV := Lib.hid (fun W (h : PlayE w pp a5 rr5 D5 v5 D5 W) => (refValues_any h.ref HG5.out.1 hlen own).mono fun _ _ k => new_ints k)
        unfold ofV at HOF HRO
        have hLl : (listC (look D5)).length ≤ 16 := listTo_len _ 16
        have hLy : (valC (look D5) own).length ≤ 16 := vlTo_len (look D5) own 16
        obtain ⟨L, hL⟩ : ∃ L, L = listC (look D5) := ⟨_, rfl⟩
        obtain ⟨V, hV⟩ : ∃ V, V = valC (look D5) own := ⟨_, rfl⟩
        obtain ⟨dv, hdv⟩ : ∃ dv, dv = (ofC (look D5) on).getD 0 := ⟨_, rfl⟩
        obtain ⟨di, hdi⟩ : ∃ di, di = (ofC (look D5) on).isSome := ⟨_, rfl⟩
        rw [← hdv, ← hdi] at HOF HRO
        rw [← hL] at HLI HCO HRL hLl
        rw [← hV] at HVA HRV hLy
        obtain ⟨z, hz⟩ : ∃ z, z = L.length := ⟨_, rfl⟩
        obtain ⟨y, hy⟩ : ∃ y, y = V.length := ⟨_, rfl⟩
        rw [← hz] at HLI HCO HRL hLl
        rw [← hy] at HVA HRV hLy
        clear hL hV hdv hdi hz hy
        have HP := Lib.hid (show OnlyP w pp a5 rr5 v5 D5 w5.drew from ⟨H5.out.later (Below.refl _ _).drew⟩)
        clear H5
        go_region_held3 (fun W : World => W.cell? ⟨pp, 0, none⟩ = some (.pointer (some ⟨a5, 0, none⟩)) ∧ W.cell? ⟨g, o + k * 4 + 1, none⟩ = some (.int .i64 on)) (first | exact ⟨HP.out.p.play.cell 0, KL.out _ HP.out.p.cap.below⟩) (first
          | (go_at_call 10; refine (HOF.out _ HP.out.p.cap).mono ?_; (rintro e w6 ⟨rfl, _, hb⟩; have HPs := HP; clear HP; have HP := Lib.hid (HPs.out.later hb); clear HPs; clear hb)))
        have HPs := HP
        clear HP HOF
        have HP := Lib.hid (HPs.out.later (Below.refl _ _).drew)
        clear HPs
        go_upto_region 10 with fail
        go_region_held3 (fun W : World => W.cell? ⟨pp, 1, none⟩ = some (.pointer (some ⟨rr5, 0, none⟩)) ∧ W.cell? ⟨g, o + k * 4 + 1, none⟩ = some (.int .i64 on)) (first | exact ⟨HP.out.p.play.cell 1, KL.out _ HP.out.p.cap.below⟩) (first
          | (go_at_call 11; refine (HRO.out _ HP.out.p).mono ?_; (rintro e w7 ⟨rfl, hw7⟩; obtain rfl := hw7)))
        generalize w6.drew = w7 at *
        have HPs := HP
        clear HP HRO
        have HP := Lib.hid (HPs.out.later (Below.refl _ _).drew)
        clear HPs
        go_upto_region 11 with fail
        go_region_held3 (fun W : World => W.cell? ⟨pp, 0, none⟩ = some (.pointer (some ⟨a5, 0, none⟩))) (first | exact HP.out.p.play.cell 0) (first
          | (go_at_call 12; refine (HLI.out _ HP.out.p).mono ?_; (rintro e w8 ⟨A8, c8, rfl, hr, hi, hb⟩; have HR8 := Lib.hid (And.intro hr (hi.low HP.out.p.cap.below.size)); have HPs := HP; clear HP; have HP := Lib.hid (HPs.out.later hb); clear HPs; clear hb hr hi))
          | (go_at_call 13; refine (HVA.out _ HP.out.p).mono ?_; (rintro e w9 ⟨A9, c9, rfl, hr, hi, hb⟩; have HT := Lib.hid (show TolE w pp a5 rr5 v5 D5 w.heap.size A8 z c8 L A9 y c9 V w9 from ⟨HP.out.p.later hb, HR8.out.1.later hb, HR8.out.2.later hb, hr, hi.low HP.out.p.cap.below.size⟩); have HPs := HP; clear HP; have HP := Lib.hid (HPs.out.later hb); clear HPs; clear hb hr hi)))
        clear HLI HVA HP HR8
        have HP := Lib.hid (HT.out.later (Below.refl _ _).drew)
        clear HT
        have b1 : (dv != dv) = false := by simp
        have b2 : (di != di) = false := by simp
        have b3 : ((z : Int) != (z : Int)) = false := by simp
        go_upto_region 12 with fail
        go_region_held3 (fun W : World => W.cell? ⟨pp, 0, none⟩ = some (.pointer (some ⟨a5, 0, none⟩)) ∧ W.cell? ⟨pp, 1, none⟩ = some (.pointer (some ⟨rr5, 0, none⟩))) (first | exact ⟨HP.out.p.play.cell 0, HP.out.p.play.cell 1⟩) (first
          | (go_at_call 14; refine (HCO.out _ HP.out.p.cap).mono ?_; (rintro e w10 ⟨rfl, _, hb⟩; have HPs := HP; clear HP; have HP := Lib.hid (HPs.out.later hb); clear HPs; clear hb))
          | (go_at_call 15; refine (HRL.out _ HP.out.p).mono ?_; (rintro e w11 ⟨A11, c11, rfl, hr, _, hb⟩; have HPs := HP; clear HP; have HP := Lib.hid (HPs.out.later hb); clear HPs; have HRr := Lib.hid hr; clear hb hr))
          | (go_at_call 16; refine (devs_same HP.out.rA HRr.out).mono ?_; (rintro e w12 ⟨rfl, hb⟩; have HPs := HP; clear HP; have HP := Lib.hid (HPs.out.later hb); clear HPs; clear hb))
          | (go_at_call 18; refine (HRV.out _ HP.out.p).mono ?_; (rintro e w13 ⟨A13, c13, rfl, hr, _, hb⟩; have HPs := HP; clear HP; have HP := Lib.hid (HPs.out.later hb); clear HPs; have HRv := Lib.hid hr; clear hb hr))
          | (go_at_call 17; refine (longs_same HP.out.rV HRv.out).mono ?_; (rintro e w14 ⟨rfl, hb⟩; have HPs := HP; clear HP; have HP := Lib.hid (HPs.out.later hb); clear HPs; clear hb)))
        have HV := Lib.hid (show OverE w pp a5 rr5 v5 D5 A8 z A9 y w14 from ⟨HP.out.p, HP.out.iA, HP.out.iV⟩)
        clear HP HRr HRv HRL HRV HCO b1 b2 b3
        go_upto_region 15 with fail
        go_loopw [118] (fun iv wr => ∃ (j : Nat), j ≤ z ∧ iv = .int .i64 (j : Int) ∧ OverE w pp a5 rr5 v5 D5 A8 z A9 y wr) (fun iv _ => z - (intOf iv).toNat)
        case atStart => exact ⟨0, Nat.zero_le _, rfl, HV.out⟩
        case round =>
          obtain ⟨j, hj, rfl, hO⟩ := hrel
          have HOV := Lib.hid hO
          by_cases hlt2 : j < z
          · as_aux_lemma =>
            obtain ⟨g8, rfl, hb8, cur, hw8, hc8⟩ := hO.iA (by omega)
            have HS8 := Lib.hid (over_dev (i := j * 2) (x0 := .int .i64 99) (x1 := .int .i64 0) HOV.out hw8 hb8 hc8)
            obtain ⟨u0, hu0⟩ := hc8 (j * 2) (by omega)
            obtain ⟨u1, hu1⟩ := hc8 (j * 2 + 1) (by omega)
            have q0 : wr.cell? ⟨g8, j * 2, none⟩ = some u0 := by rw [hw8.cell]; exact hu0
            have q1 : wr.cell? ⟨g8, j * 2 + 1, none⟩ = some u1 := by rw [hw8.cell]; exact hu1
            have qf := hw8.frozen
            have e3 : (0 : Int) ≤ (j : Int) := by omega
            have e4 : (j : Int) < (z : Int) := by omega
            clear hO hw8 hb8 hc8 hu0 hu1
            go_wp2
            go_roundw
            case rel => exact ⟨j + 1, by omega, by go_num, HS8.out⟩
            case measure => simp [intOf]; omega
          · clear hO
            have HP2 := Lib.hid (And.intro HOV.out.p HOV.out.iV)
            clear HOV HV
            go_upto_region 20 with fail
            go_loopw [128] (fun iv wr => ∃ (i : Nat), i ≤ y ∧ iv = .int .i64 (i : Int) ∧ PlayE w pp a5 rr5 D5 v5 D5 wr ∧ IntsIn w.heap.size wr A9 y) (fun iv _ => y - (intOf iv).toNat)
            case atStart => exact ⟨0, Nat.zero_le _, rfl, HP2.out.1, HP2.out.2⟩
            case round =>
              obtain ⟨i, hi, rfl, hp3, hi3⟩ := hrel
              have HP3 := Lib.hid hp3
              by_cases hlt3 : i < y
              · as_aux_lemma =>
                obtain ⟨g9, rfl, hb9, cur, hw9, hc9⟩ := hi3 (by omega)
                obtain ⟨x9, hx9⟩ := hc9 i hlt3
                have HS9 := Lib.hid (fun x => over_int (i := i) (x := x) HP3.out hw9 hb9 hc9)
                have q0 : wr.cell? ⟨g9, i, none⟩ = some (.int .i64 x9) := by rw [hw9.cell]; exact hx9
                have qf := hw9.frozen
                have e3 : (0 : Int) ≤ (i : Int) := by omega
                have e4 : (i : Int) < (y : Int) := by omega
                clear hp3 hi3 hw9 hb9 hc9 hx9
                obtain ⟨x10, hx10⟩ : ∃ x10, x10 = IntKind.i64.wrap (x9 + 1) := ⟨_, rfl⟩
                have s1 : IntKind.i64.wrap (x9 + 1) = x10 := hx10.symm
                clear hx10
                go_wp2
                go_roundw
                case rel => exact ⟨i + 1, by omega, by go_num, (HS9.out _).1, (HS9.out _).2⟩
                case measure => simp [intOf]; omega
              · clear hp3 hi3
                go_wp2
                go_roundw
                case rel => exact ⟨k + 1, a5, rr5, v5, D5, ⟨by omega, by have := HG5.out.2; omega, HG5.out.1⟩, by go_num, HP3.out⟩
                case measure => simp [intOf]; omega
      · clear hgd
        have hlen : D.length ≤ 1000 := by omega
        have HCO := Lib.hid (fun W (h : LawC w a (look D) W) => law_count h)
        have HRL := Lib.hid (fun W (h : PlayE w pp a rr D v D W) => (refList_any h.ref HG.out hlen).mono fun _ _ k => new_devs k)
        obtain ⟨z, hz⟩ : ∃ z, z = (listC (look D)).length := ⟨_, rfl⟩
        have hLl : (listC (look D)).length ≤ 16 := listTo_len _ 16
        rw [← hz] at HCO HRL hLl
        have HP := Lib.hid (show OnlyP w pp a rr v D wr.drew from ⟨hW.later (Below.refl _ _).drew⟩)
        have b3 : ((z : Int) == (z : Int)) = true := by simp
        clear hz hW HW
        go_upto_region 25 with fail
        go_region_held3 (fun W : World => W.cell? ⟨pp, 0, none⟩ = some (.pointer (some ⟨a, 0, none⟩)) ∧ W.cell? ⟨pp, 1, none⟩ = some (.pointer (some ⟨rr, 0, none⟩))) (first | exact ⟨HP.out.p.play.cell 0, HP.out.p.play.cell 1⟩) (first
          | (go_at_call 14; refine (HCO.out _ HP.out.p.cap).mono ?_; (rintro e w10 ⟨rfl, _, hb⟩; have HPs := HP; clear HP; have HP := Lib.hid (HPs.out.later hb); clear HPs; clear hb))
          | (go_at_call 15; refine (HRL.out _ HP.out.p).mono ?_; (rintro e w11 ⟨A11, c11, rfl, hr, _, hb⟩; have HPs := HP; clear HP; have HP := Lib.hid (HPs.out.later hb); clear HPs; clear hb hr)))
        go_wp2
        go_ret
        exact ⟨rfl, HP.out.p.cap.below⟩
  · have hN2 : ¬ ((N : Int) ≤ 100) := by omega
    go_enter Try.func3, Try.ntmps3
    go_wp2
    go_ret
    exact ⟨rfl, Below.refl _ _⟩
end Go.Proofs.Ytjgbgakdnapdhaa
