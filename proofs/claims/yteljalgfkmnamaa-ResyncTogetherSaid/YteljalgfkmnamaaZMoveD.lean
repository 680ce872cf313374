/- MidpointMoved: values that are moved, and what follows of them; three rows of one's own. No condition. -/
import Derived.Test.YteljalgfkmnamaaZLawM
namespace Go.Proofs.Yteljalgfkmnamaa
open Go.RowKit Go.Shelf

/-- f's values, up to n. -/
def mapTo (f : Nat → Int) (n : Nat) : List Int := (List.range n).map f
theorem mapTo_len (f : Nat → Int) (n : Nat) : (mapTo f n).length = n := by simp [mapTo]
theorem mapTo_succ (f : Nat → Int) (n : Nat) : mapTo f (n + 1) = mapTo f n ++ [f n] := by unfold mapTo; rw [List.range_succ, List.map_append]; rfl
theorem mapTo_mem {f : Nat → Int} {n : Nat} {x : Int} (h : x ∈ mapTo f n) : ∃ i, i < n ∧ x = f i := by
  unfold mapTo at h
  obtain ⟨i, hi, rfl⟩ := List.mem_map.1 h
  exact ⟨i, List.mem_range.1 hi, rfl⟩
theorem mapTo_count {f g : Nat → Int} {p q : Int → Bool} : ∀ n, (∀ i, i < n → p (f i) = true → q (g i) = true) → (mapTo f n).countP p ≤ (mapTo g n).countP q
  | 0, _ => by simp [mapTo]
  | n + 1, h => by
    have ih := mapTo_count (f := f) (g := g) (p := p) (q := q) n (fun i hi => h i (by omega))
    rw [mapTo_succ, mapTo_succ, List.countP_append, List.countP_append, List.countP_singleton, List.countP_singleton]
    have := h n (by omega)
    by_cases hp : p (f n) = true
    · rw [if_pos hp, if_pos (this hp)]; omega
    · rw [if_neg hp]; omega
theorem mapTo_get {f : Nat → Int} {n i : Nat} (h : i < (mapTo f n).length) : (mapTo f n)[i] = f i := by simp [mapTo]
theorem mapTo_self {L : List Int} {n : Nat} (h : L.length = n) : mapTo (fun i => L.getD i 0) n = L := by
  apply List.ext_getElem (by rw [mapTo_len, h])
  intro i h1 h2
  rw [mapTo_get, getD_lt h2]
theorem mapTo_back {L : List Int} {n : Nat} (h : L.length = n) : mapTo (fun i => L.getD (n - 1 - i) 0) n = L.reverse := by
  apply List.ext_getElem (by rw [mapTo_len, List.length_reverse, h])
  intro i h1 h2
  have h3 := h1
  rw [mapTo_len] at h3
  rw [mapTo_get, List.getElem_reverse, getD_lt (by omega)]
  congr 1
  omega
theorem move_le {f g : Nat → Int} {n p : Nat} {d : Int} (hp : p < n) (h : ∀ i, i < n → g i ≤ f i + d) : (srt (mapTo g n)).getD p 0 ≤ (srt (mapTo f n)).getD p 0 + d := by
  have s1 := spot_srt (mapTo f n) (p := p) (by rw [mapTo_len]; exact hp)
  have s2 := spot_srt (mapTo g n) (p := p) (by rw [mapTo_len]; exact hp)
  generalize (srt (mapTo f n)).getD p 0 = u at *
  generalize (srt (mapTo g n)).getD p 0 = v at *
  rcases Int.lt_or_le (u + d) v with q | q
  · have k1 := up_less (mapTo g n) q
    have k2 : upN (mapTo f n) u ≤ upN (mapTo g n) (u + d) := mapTo_count n (fun i hi hx => by
      have := h i hi
      simp only [decide_eq_true_eq] at *
      omega)
    have k3 := s1.2
    have k4 := s2.1
    omega
  · exact q
theorem told_perm {l m : List Int} (h : l.Perm m) (k : Int) : errT l k = errT m k ∧ midT l k = midT m k := by
  have hv : okV l = okV m := by
    rw [Bool.eq_iff_iff, okV_iff, okV_iff]
    exact ⟨fun hx x hm => hx x (h.symm.subset hm), fun hx x hl => hx x (h.subset hl)⟩
  have hok : okM l k = okM m k := by unfold okM; rw [hv, h.length_eq]
  unfold errT midT midM loM hiM
  rw [hok, srt_same h, h.length_eq]
  exact ⟨rfl, rfl⟩
theorem told_map {f : Nat → Int} {n m : Nat} (hm : 2 * m + 1 ≤ n) (hv : ∀ i, i < n → -4294967296 ≤ f i ∧ f i ≤ 4294967296) :
    errT (mapTo f n) (m : Int) = 0 ∧ midT (mapTo f n) (m : Int) = ((srt (mapTo f n)).getD m 0 + (srt (mapTo f n)).getD (n - 1 - m) 0) / 2 := by
  have hok : okM (mapTo f n) (m : Int) = true := by
    unfold okM
    rw [okV_iff.2 (fun x hx => by obtain ⟨i, hi, rfl⟩ := mapTo_mem hx; exact hv i hi), okN_iff.2 ⟨m, rfl, by rw [mapTo_len]; exact hm⟩]
    rfl
  refine ⟨errT_ok hok, ?_⟩
  unfold midT midM loM hiM
  rw [if_pos hok, Int.toNat_natCast, mapTo_len]
/-- THE LAW's facts. -/
theorem moved_facts {L : List Int} {by_ : Nat → Int} {n m : Nat} {d : Int} (hL : L.length = n) (hm : 2 * m + 1 ≤ n) (hv : ∀ x ∈ L, -2147483648 < x ∧ x < 2147483648) (hd : 0 ≤ d ∧ d ≤ 65535) (hb : ∀ i, -d ≤ by_ i ∧ by_ i ≤ d) :
    errT L (m : Int) = 0 ∧ errT (mapTo (fun i => L.getD i 0 + by_ i) n) (m : Int) = 0 ∧ errT (mapTo (fun i => L.getD i 0 + d) n) (m : Int) = 0 ∧ errT (mapTo (fun i => L.getD (n - 1 - i) 0) n) (m : Int) = 0 ∧
      midT (mapTo (fun i => L.getD i 0 + by_ i) n) (m : Int) - midT L (m : Int) ≤ d ∧ midT L (m : Int) - midT (mapTo (fun i => L.getD i 0 + by_ i) n) (m : Int) ≤ d ∧
      midT (mapTo (fun i => L.getD i 0 + d) n) (m : Int) = midT L (m : Int) + d ∧ midT (mapTo (fun i => L.getD (n - 1 - i) 0) n) (m : Int) = midT L (m : Int) ∧ (-4294967296 ≤ midT L (m : Int) ∧ midT L (m : Int) ≤ 4294967296) ∧
      (-4294967296 ≤ midT (mapTo (fun i => L.getD i 0 + by_ i) n) (m : Int) ∧ midT (mapTo (fun i => L.getD i 0 + by_ i) n) (m : Int) ≤ 4294967296) := by
  have hx : ∀ i, i < n → -2147483648 < L.getD i 0 ∧ L.getD i 0 < 2147483648 := fun i hi => hv _ (getD_mem (by omega))
  obtain ⟨a1, a2⟩ := told_map (f := fun i => L.getD i 0) hm (fun i hi => by have := hx i hi; omega)
  obtain ⟨b1, b2⟩ := told_map (f := fun i => L.getD i 0 + by_ i) hm (fun i hi => by have := hx i hi; have := hb i; omega)
  obtain ⟨c1, c2⟩ := told_map (f := fun i => L.getD i 0 + d) hm (fun i hi => by have := hx i hi; omega)
  obtain ⟨k1, k2⟩ := told_perm (l := mapTo (fun i => L.getD (n - 1 - i) 0) n) (m := L) (by rw [mapTo_back hL]; exact List.reverse_perm L) (m : Int)
  have p1 := move_le (f := fun i => L.getD i 0) (g := fun i => L.getD i 0 + by_ i) (n := n) (p := m) (d := d) (by omega) (fun i _ => by have := hb i; omega)
  have p2 := move_le (g := fun i => L.getD i 0) (f := fun i => L.getD i 0 + by_ i) (n := n) (p := m) (d := d) (by omega) (fun i _ => by have := hb i; omega)
  have p3 := move_le (f := fun i => L.getD i 0) (g := fun i => L.getD i 0 + by_ i) (n := n) (p := n - 1 - m) (d := d) (by omega) (fun i _ => by have := hb i; omega)
  have p4 := move_le (g := fun i => L.getD i 0) (f := fun i => L.getD i 0 + by_ i) (n := n) (p := n - 1 - m) (d := d) (by omega) (fun i _ => by have := hb i; omega)
  have r1 := move_le (f := fun i => L.getD i 0) (g := fun i => L.getD i 0 + d) (n := n) (p := m) (d := d) (by omega) (fun i _ => by omega)
  have r2 := move_le (g := fun i => L.getD i 0) (f := fun i => L.getD i 0 + d) (n := n) (p := m) (d := -d) (by omega) (fun i _ => by omega)
  have r3 := move_le (f := fun i => L.getD i 0) (g := fun i => L.getD i 0 + d) (n := n) (p := n - 1 - m) (d := d) (by omega) (fun i _ => by omega)
  have r4 := move_le (g := fun i => L.getD i 0) (f := fun i => L.getD i 0 + d) (n := n) (p := n - 1 - m) (d := -d) (by omega) (fun i _ => by omega)
  have o1 : ∀ (f : Nat → Int) p, p < n → (srt (mapTo f n)).getD p 0 ∈ mapTo f n := fun f p hp => srt_mem (by rw [mapTo_len]; exact hp)
  have y1 := o1 (fun i => L.getD i 0) m (by omega)
  have y2 := o1 (fun i => L.getD i 0) (n - 1 - m) (by omega)
  rw [mapTo_self hL] at a1 a2 p1 p2 p3 p4 r1 r2 r3 r4 y1 y2
  have y3 := hv _ y1
  have y4 := hv _ y2
  rw [k1, k2, a1, a2, b1, b2, c1, c2]
  generalize (srt L).getD m 0 = x at *
  generalize (srt L).getD (n - 1 - m) 0 = y at *
  generalize (srt (mapTo (fun i => L.getD i 0 + by_ i) n)).getD m 0 = x' at *
  generalize (srt (mapTo (fun i => L.getD i 0 + by_ i) n)).getD (n - 1 - m) 0 = y' at *
  generalize (srt (mapTo (fun i => L.getD i 0 + d) n)).getD m 0 = x'' at *
  generalize (srt (mapTo (fun i => L.getD i 0 + d) n)).getD (n - 1 - m) 0 = y'' at *
  clear a1 a2 b1 b2 c1 c2 k1 k2 o1 y1 y2 hx hv hb
  refine ⟨rfl, rfl, rfl, rfl, by omega, by omega, by omega, rfl, ⟨by omega, by omega⟩, ⟨by omega, by omega⟩⟩

/-- Three rows of one's own, none over another. -/
structure Three (w0 : World) (b : Nat) (v1 v2 v3 : Value) (n1 n2 n3 : Nat) (L1 L2 L3 : List Int) (W : World) : Prop where
  r1 : W.ownsRow b 2 1 v1 n1 (L1.flatMap inC)
  r2 : W.ownsRow b 2 1 v2 n2 (L2.flatMap inC)
  r3 : W.ownsRow b 2 1 v3 n3 (L3.flatMap inC)
  a12 : ∀ g, v1.ownBlock = some g → v2.ownBlock ≠ some g
  a13 : ∀ g, v1.ownBlock = some g → v3.ownBlock ≠ some g
  a23 : ∀ g, v2.ownBlock = some g → v3.ownBlock ≠ some g
  below : Below w0.heap.size w0 W
  base : w0.heap.size ≤ b ∧ b ≤ W.heap.size
section
variable {w0 W : World} {b : Nat} {v1 v2 v3 : Value} {n1 n2 n3 : Nat} {L1 L2 L3 : List Int}
theorem Three.start (w0 : World) : Three w0 w0.heap.size (.slice none 0 0) (.slice none 0 0) (.slice none 0 0) 0 0 0 [] [] [] w0 :=
  ⟨⟨rfl, .inl ⟨rfl, rfl⟩⟩, ⟨rfl, .inl ⟨rfl, rfl⟩⟩, ⟨rfl, .inl ⟨rfl, rfl⟩⟩, (fun g h => by cases h), (fun g h => by cases h), (fun g h => by cases h), Below.refl _ _, Nat.le_refl _, Nat.le_refl _⟩
theorem Three.rot (h : Three w0 b v1 v2 v3 n1 n2 n3 L1 L2 L3 W) : Three w0 b v2 v3 v1 n2 n3 n1 L2 L3 L1 W :=
  ⟨h.r2, h.r3, h.r1, h.a23, fun g h1 h2 => h.a12 g h2 h1, fun g h1 h2 => h.a13 g h2 h1, h.below, h.base⟩
theorem Three.later {W' : World} (h : Three w0 b v1 v2 v3 n1 n2 n3 L1 L2 L3 W) (hb : Below W.heap.size W W') : Three w0 b v1 v2 v3 n1 n2 n3 L1 L2 L3 W' :=
  ⟨own_kept h.r1 (Kept.of_below hb Empty) (fun _ _ h => h), own_kept h.r2 (Kept.of_below hb Empty) (fun _ _ h => h), own_kept h.r3 (Kept.of_below hb Empty) (fun _ _ h => h), h.a12, h.a13, h.a23, k_then hb h.below, h.base.1, Nat.le_trans h.base.2 hb.size⟩
theorem Three.add {w' : World} {o : Obj} {v' : Value} {x : Int} (h : Three w0 b v1 v2 v3 n1 n2 n3 L1 L2 L3 W) (h1 : w'.ownsRow b 2 1 v' (n1 + 1) (L1.flatMap inC ++ inC x)) (h2 : (W.alloc o).grownBy w' v1.ownBlock) (h3 : v'.ownBlock = v1.ownBlock ∨ v'.ownBlock = some (W.alloc o).heap.size) :
    Three w0 b v' v2 v3 (n1 + 1) n2 n3 (L1 ++ [x]) L2 L3 w' := by
  have hz : (W.alloc o).heap.size = W.heap.size + 1 := by simp
  have hs := h2.size
  have hb2 := h.base.2
  have hk : Kept (fun i => v1.ownBlock = some i) W w' := ((Kept.refl _ W).alloc o).grown h2 (fun k hk => .inl hk)
  have lt : ∀ {v : Value} {n : Nat} {L : List Int}, W.ownsRow b 2 1 v n (L.flatMap inC) → ∀ g, v.ownBlock = some g → g < W.heap.size := fun hr g hg => by
    obtain ⟨_, cur, hh⟩ := own_typed hr hg
    exact (Array.getElem?_eq_some_iff.1 hh).1
  have ap : ∀ {v : Value} {n : Nat} {L : List Int}, W.ownsRow b 2 1 v n (L.flatMap inC) → (∀ g, v1.ownBlock = some g → v.ownBlock ≠ some g) → ∀ g, v'.ownBlock = some g → v.ownBlock ≠ some g := fun hr ha g hg e => by
    rcases h3 with e3 | e3
    · exact ha g (by rw [← e3]; exact hg) e
    · rw [e3] at hg
      have := lt hr g e
      have hg : (W.alloc o).heap.size = g := by simpa using hg
      omega
  refine ⟨?_, own_kept h.r2 hk (fun g hg e => h.a12 g e hg), own_kept h.r3 hk (fun g hg e => h.a13 g e hg), ap h.r2 h.a12, ap h.r3 h.a13, h.a23, below_on h.below hk (fun i hi => Nat.le_trans h.base.1 (own_typed h.r1 hi).1) h.below.size, h.base.1, by omega⟩
  rw [List.flatMap_append, List.flatMap_singleton]
  exact h1
end
end Go.Proofs.Yteljalgfkmnamaa
