/- Three Outs side by side; many calls one behind the other: plain facts. -/
import Derived.Test.YtnpjldolppikfaaWrite
namespace Go.Proofs.Ytnpjldolppikfaa
open Go.RowKit

/-- Three Outs that share no block, all of them new since w; all below w is as it was. -/
structure Trio (w : World) (bx by_ bz : Nat) (sx sy sz : Option (List UInt8)) (Sx Sy Sz : Nat → Prop) (W : World) : Prop where
  x : OutAt W Sx bx sx
  y : OutAt W Sy by_ sy
  z : OutAt W Sz bz sz
  xy : ∀ i, Sx i → ¬ Sy i
  xz : ∀ i, Sx i → ¬ Sz i
  yz : ∀ i, Sy i → ¬ Sz i
  nx : ∀ i, Sx i → w.heap.size ≤ i
  ny : ∀ i, Sy i → w.heap.size ≤ i
  nz : ∀ i, Sz i → w.heap.size ≤ i
  below : Below w.heap.size w W

section
variable {w W W' : World} {bx by_ bz : Nat} {sx sy sz s' : Option (List UInt8)} {Sx Sy Sz : Nat → Prop} {e : Ending}
theorem Trio.keep (h : Trio w bx by_ bz sx sy sz Sx Sy Sz W) (k : Kept Empty W W') : Trio w bx by_ bz sx sy sz Sx Sy Sz W' :=
  ⟨h.x.keep k (fun _ _ h => h), h.y.keep k (fun _ _ h => h), h.z.keep k (fun _ _ h => h), h.xy, h.xz, h.yz, h.nx, h.ny, h.nz, k.on h.below (fun _ h => h.elim) h.below.size⟩
theorem Trio.far {T : Nat → Prop} (h : Trio w bx by_ bz sx sy sz Sx Sy Sz W) (k : Kept T W W') (hx : ∀ i, Sx i → ¬ T i) (hy : ∀ i, Sy i → ¬ T i) (hz : ∀ i, Sz i → ¬ T i) (hn : ∀ i, T i → w.heap.size ≤ i) : Trio w bx by_ bz sx sy sz Sx Sy Sz W' :=
  ⟨h.x.keep k hx, h.y.keep k hy, h.z.keep k hz, h.xy, h.xz, h.yz, h.nx, h.ny, h.nz, k.on h.below hn h.below.size⟩
theorem Trio.turnX (h : Trio w bx by_ bz sx sy sz Sx Sy Sz W) (o : OutAt W' (Grow Sx W W') bx s') (k : Kept Sx W W') : Trio w bx by_ bz s' sy sz (Grow Sx W W') Sy Sz W' := by
  refine ⟨o, h.y.keep k (fun i hi hx => h.xy i hx hi), h.z.keep k (fun i hi hx => h.xz i hx hi), fun i hi hy => ?_, fun i hi hz => ?_, h.yz, Grow.on h.nx h.below.size, h.ny, h.nz, k.on h.below h.nx h.below.size⟩
  · have := h.y.lt i hy
    rcases hi with hi | hi
    · exact h.xy i hi hy
    · omega
  · have := h.z.lt i hz
    rcases hi with hi | hi
    · exact h.xz i hi hz
    · omega
theorem Trio.turnY (h : Trio w bx by_ bz sx sy sz Sx Sy Sz W) (o : OutAt W' (Grow Sy W W') by_ s') (k : Kept Sy W W') : Trio w bx by_ bz sx s' sz Sx (Grow Sy W W') Sz W' := by
  refine ⟨h.x.keep k (fun i hi hy => h.xy i hi hy), o, h.z.keep k (fun i hi hy => h.yz i hy hi), fun i hx hi => ?_, h.xz, fun i hi hz => ?_, h.nx, Grow.on h.ny h.below.size, h.nz, k.on h.below h.ny h.below.size⟩
  · have := h.x.lt i hx
    rcases hi with hi | hi
    · exact h.xy i hx hi
    · omega
  · have := h.z.lt i hz
    rcases hi with hi | hi
    · exact h.yz i hi hz
    · omega
theorem Trio.turnZ (h : Trio w bx by_ bz sx sy sz Sx Sy Sz W) (o : OutAt W' (Grow Sz W W') bz s') (k : Kept Sz W W') : Trio w bx by_ bz sx sy s' Sx Sy (Grow Sz W W') W' := by
  refine ⟨h.x.keep k (fun i hi hz => h.xz i hi hz), h.y.keep k (fun i hi hz => h.yz i hi hz), o, h.xy, fun i hx hi => ?_, fun i hy hi => ?_, h.nx, h.ny, Grow.on h.nz h.below.size, k.on h.below h.nz h.below.size⟩
  · have := h.x.lt i hx
    rcases hi with hi | hi
    · exact h.xz i hx hi
    · omega
  · have := h.y.lt i hy
    rcases hi with hi | hi
    · exact h.yz i hy hi
    · omega
end

/-- Calls one behind the other. -/
def writes (st : Option (List UInt8)) (xs : List OpD) : Option (List UInt8) := xs.foldl writeSt st
theorem writes_snoc (st : Option (List UInt8)) (xs : List OpD) (x : OpD) : writes st (xs ++ [x]) = writeSt (writes st xs) x := by simp [writes]

theorem writeSt_len (st : Option (List UInt8)) (x : OpD) : ((writeSt st x).getD []).length ≤ (st.getD []).length + 8 + x.b.length := by
  unfold writeSt
  split
  · unfold putSt
    split
    · rename_i hf
      have hn : x.n.toNat ≤ 8 := by
        simp [fitsW, isW] at hf
        omega
      cases st with
      | none => simp
      | some l => simp only [Option.map_some, Option.getD_some, List.length_append, beBytes_length]; omega
    · simp
  · split
    · cases st with
      | none => simp
      | some l => simp only [Option.map_some, Option.getD_some, List.length_append]; omega
    · omega
theorem writes_len (st : Option (List UInt8)) (xs : List OpD) : ((writes st xs).getD []).length ≤ (st.getD []).length + 8 * xs.length + opsSum xs := by
  rw [← List.reverse_reverse xs]
  generalize xs.reverse = ys
  induction ys with
  | nil => simp [writes, opsSum]
  | cons y ys ih =>
    rw [List.reverse_cons, writes_snoc, opsSum_snoc, List.length_append, List.length_singleton]
    have := writeSt_len (writes st ys.reverse) y
    omega
theorem opsSum_append_le (zs ys : List OpD) : opsSum zs ≤ opsSum (zs ++ ys) := by
  rw [← List.reverse_reverse ys]
  generalize ys.reverse = us
  induction us with
  | nil => simp
  | cons u us ih => rw [List.reverse_cons, ← List.append_assoc, opsSum_snoc]; omega
theorem opsSum_take (xs : List OpD) (j : Nat) : opsSum (xs.take j) ≤ opsSum xs := by
  have := opsSum_append_le (xs.take j) (xs.drop j)
  rwa [List.take_append_drop] at this

/-- What is written behind something is that, and what would be written alone. -/
theorem writes_bind (st : Option (List UInt8)) (xs : List OpD) : writes st xs = st.bind fun l => (writes (some []) xs).map (l ++ ·) := by
  rw [← List.reverse_reverse xs]
  generalize xs.reverse = ys
  induction ys with
  | nil => cases st <;> simp [writes]
  | cons y ys ih =>
    rw [List.reverse_cons, writes_snoc, writes_snoc, ih]
    cases st with
    | none =>
      simp only [Option.bind_none]
      unfold writeSt putSt
      split
      · split <;> rfl
      · split <;> rfl
    | some l =>
      simp only [Option.bind_some]
      cases writes (some []) ys.reverse with
      | none =>
        unfold writeSt putSt
        split
        · split <;> rfl
        · split <;> rfl
      | some m =>
        unfold writeSt putSt
        split
        · split
          · simp
          · rfl
        · split
          · simp
          · simp

end Go.Proofs.Ytnpjldolppikfaa
