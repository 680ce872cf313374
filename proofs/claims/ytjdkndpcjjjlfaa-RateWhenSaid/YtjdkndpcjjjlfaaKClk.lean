/- The doubt whether a clock may be: asked, and made; Check. No condition. -/
import Derived.Test.YtjdkndpcjjjlfaaKNear
namespace Go.Proofs.Ytjdkndpcjjjlfaa
open Go.RowKit Go.Shelf

def okK (n d o j : Int) : Bool := rateB n d && !(outB o 0 4294967296 || outB j (-4294967296) 4294967296)
theorem okK_ref (n d o j : Int) : (!rateB n d || (outB o 0 4294967296 || outB j (-4294967296) 4294967296)) = !okK n d o j := by
  unfold okK
  cases rateB n d <;> simp

set_option maxRecDepth 100000 in
set_option maxHeartbeats 2000000 in
theorem noClock2_any (n d o j : Int) (x g : Nat) (t : TypeId) (v : Value) (w : World) (hx : Whole w x t #[v]) (hv : Doubt Try.prog w v (!rateB n d)) (hg : Whole w g 25 #[.int .i64 n, .int .i64 d, .int .i64 o, .int .i64 j]) :
    Calls Try.prog 35 #[.pointer (some ⟨x, 0, none⟩), .pointer (some ⟨g, 0, none⟩)] w fun e w' => e = .returned (.bool (!okK n d o j)) ∧ Below w.heap.size w w' := by
  obtain ⟨c0, c1, c2, c3, cf⟩ := k_four hg
  obtain ⟨cx, cxf⟩ := k_one hx
  have HC := Lib.hid (fun W (hW : Below w.heap.size w W) => (⟨k_cell hW cx, k_cell hW c2, k_cell hW c3⟩ : W.cell? ⟨x, 0, none⟩ = some v ∧ W.cell? ⟨g, 2, none⟩ = some (.int .i64 o) ∧ W.cell? ⟨g, 3, none⟩ = some (.int .i64 j)))
  have HO := Lib.hid (okK_ref n d o j)
  have hb0 := Below.refl w.heap.size w
  generalize hr : rateB n d = br at *
  obtain ⟨fv, qv, hvo⟩ := hv.open
  subst hvo
  go_enter Try.func35, Try.ntmps35
  go_wp2
  go_region_held3 (fun w' => w'.cell? ⟨x, 0, none⟩ = some (.func (.func fv) #[] qv) ∧ w'.cell? ⟨g, 2, none⟩ = some (.int .i64 o) ∧ w'.cell? ⟨g, 3, none⟩ = some (.int .i64 j)) (first | exact HC.out _ kC | exact HC.out _ (kB.alloc kB.size _) | exact HC.out _ kB | exact HC.out _ kA | exact HC.out _ (below_drewN hb0 1)) (first
    | (go_at_call 26; refine (beyond_any o 0 4294967296 _).mono ?_; rintro e wA ⟨vA, rfl, dA, bA⟩; obtain ⟨fA, qA, hA⟩ := dA.open; subst hA; have kA : Below w.heap.size w wA := k_then bA (below_drewN hb0 1))
    | (go_at_call 26; refine (beyond_any j (-4294967296) 4294967296 _).mono ?_; rintro e wB ⟨vB, rfl, dB, bB⟩; obtain ⟨fB, qB, hB⟩ := dB.open; subst hB; have kB : Below w.heap.size w wB := k_then bB kA; have dA2 := dA.later bB)
    | (go_at_call 29; refine (refused3 _ _ _ (!br) (outB o 0 4294967296) (outB j (-4294967296) 4294967296) _ _ _ _ (Whole.new wB _ _) (hv.later (kB.alloc kB.size _)) (dA2.later ((Below.refl _ _).alloc (Nat.le_refl _) _)) (dB.later ((Below.refl _ _).alloc (Nat.le_refl _) _))).mono ?_; rintro e wC ⟨rfl, bC⟩; rw [HO.out]; have kC := k_then bC (kB.alloc kB.size _)))
  go_wp2
  go_ret
  exact ⟨by show Ending.returned (.bool (refE (!okK n d o j) != 0)) = _; rw [refE_ne], kC⟩

set_option maxHeartbeats 1000000 in
theorem noClock_any (n d o j : Int) (w : World) : Calls Try.prog 30 #[.agg #[.int .i64 n, .int .i64 d, .int .i64 o, .int .i64 j]] w fun e w' => ∃ v, e = .returned v ∧ Doubt Try.prog w' v (!okK n d o j) ∧ Below w.heap.size w w' := by
  have hmf : ∀ (fn : Fn) (first cap : Array Value) (w : World), (Instr.makeFunc fn first cap).run Try.prog w = .ok (.func fn first cap) w := fun _ _ _ _ => rfl
  go_enter Try.func30, Try.ntmps30
  go_wp2
  go_ret
  have b1 : Below w.heap.size w ((w.alloc (.cells #[.int .i64 n, .int .i64 d, .int .i64 o, .int .i64 j] 25)).alloc (.cells #[.func (.func 33) #[] #[.pointer (some ⟨w.heap.size, 0, none⟩)]] 42)) := ((Below.refl _ _).alloc (Nat.le_refl _) _).alloc (by simp) _
  have w1 := (Whole.new w 25 #[.int .i64 n, .int .i64 d, .int .i64 o, .int .i64 j]).alloc (.cells #[.func (.func 33) #[] #[.pointer (some ⟨w.heap.size, 0, none⟩)]] 42)
  have w2 := Whole.new (w.alloc (.cells #[.int .i64 n, .int .i64 d, .int .i64 o, .int .i64 j] 25)) 42 #[.func (.func 33) #[] #[.pointer (some ⟨w.heap.size, 0, none⟩)]]
  simp only [World.size_alloc] at w2
  exact ⟨_, rfl, ⟨_, _, rfl, enters_of Try.func35 (by kernel_rfl) rfl, fun W hW => noClock2_any n d o j _ _ _ _ W (k_later hW w2)
    ⟨_, _, rfl, enters_of Try.func33 (by kernel_rfl) rfl, fun V hV => noRate_any n d o j _ V (k_later hV (k_later hW w1))⟩ (k_later hW w1)⟩, b1⟩

set_option maxHeartbeats 1000000 in
theorem check_k (n d o j : Int) (w : World) : Calls Try.prog 16 #[.agg #[.int .i64 n, .int .i64 d, .int .i64 o, .int .i64 j]] w fun e w' => e = .returned (.int .i64 (refE (!okK n d o j))) ∧ Below w.heap.size w w' := by
  have hb : Below w.heap.size w (w.alloc (.cells #[.int .i64 n, .int .i64 d, .int .i64 o, .int .i64 j] 25)) := (Below.refl _ _).alloc (Nat.le_refl _) _
  go_enter Try.func16, Try.ntmps16
  go_wp2_with (first
    | (go_at_call 30; refine (noClock_any _ _ _ _ _).mono ?_; rintro e wA ⟨vA, rfl, dA, bA⟩; obtain ⟨fA, qA, hA⟩ := dA.open; subst hA; have kA := k_then bA hb)
    | (go_at_call 29; refine (refused1 _ _ _ _ _ _ (Whole.new wA _ _) (dA.later ((Below.refl _ _).alloc (Nat.le_refl _) _))).mono ?_; rintro e wC ⟨rfl, bC⟩; have kC := k_then bC (kA.alloc kA.size _)))
  go_ret
  exact ⟨rfl, kC⟩

end Go.Proofs.Ytjdkndpcjjjlfaa
