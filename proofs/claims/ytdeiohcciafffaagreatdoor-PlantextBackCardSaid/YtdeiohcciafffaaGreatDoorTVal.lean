/- A plan's number by its name, by a contract. No condition. -/
import Derived.Test.YtdeiohcciafffaaGreatDoorTFind
namespace Go.Proofs.YtdeiohcciafffaaGreatDoor
open Go.RowKit Go.Shelf

/-- The number of a name; 0, if there is none such. -/
def valI (x : Pl) (s : ByteArray) : Int := if placeB s < 16 then x.nth (placeB s) else 0
def valV (x : Pl) (s : ByteArray) : Value := .tuple #[.int .i64 (valI x s), .bool (decide (placeB s < 16))]

set_option maxHeartbeats 1000000 in
theorem Value_any (x : Pl) (s : ByteArray) (w : World) : Calls Tryz.prog 14 #[.agg x.cells, .string s] w fun e w' => e = .returned (valV x s) ∧ Below w.heap.size w w' := by
  have HN := Lib.hid (fun W => numbers_b W)
  have HF := Lib.hid (fun tb W h => find_any s tb W h)
  have HG := Lib.hid (fun b W h => get_any x b W h (k := placeB s))
  have HB := Lib.hid (Below.refl w.heap.size w)
  by_cases hp : placeB s < 16
  · have hen := get_enters hp
    have HV := Lib.hid (show valV x s = .tuple #[.int .i64 (x.nth (placeB s)), .bool true] by rw [valV, valI, if_pos hp, decide_eq_true hp])
    rw [foundC_lt hp, decide_eq_true hp] at HF
    have HX := Lib.hid (show ∀ W, Whole (W.alloc (.cells x.cells 23)) W.heap.size 23 x.cells from fun W => Whole.new W _ _)
    have HG1 := Lib.hid (fun b W h => HG.out b W h hp)
    clear HG
    rw [HV.out]
    clear HV
    generalize x.nth (placeB s) = y at *
    generalize getF (placeB s) = gf at *
    generalize setF (placeB s) = sf at *
    generalize nameB (placeB s) = nb at *
    go_enter Tryz.func14, Tryz.ntmps14
    go_wp2_with (first
      | (go_at_call 23; refine (HN.out _).mono ?_; rintro e w2 ⟨tb, rfl, hlt, hT, hb⟩; have HT := Lib.hid hT; have HB2 := Lib.hid hb; clear hb hT)
      | (go_at_call 37; refine (HF.out tb w2 HT.out).mono ?_; rintro e w3 ⟨rfl, hb3⟩; have HB3 := Lib.hid (k_then hb3 HB2.out); clear hb3))
    refine (HG1.out _ _ ((k_later HB3.out (HX.out w)).alloc _)).mono ?_
    rintro e w4 ⟨rfl, rfl⟩
    go_wp2
    refine bodyPost_ret (results_tmp2 rfl _ _ _) rfl ?_
    have h1 := k_then HB3.out (HB.out.alloc HB.out.size (.cells x.cells 23))
    exact ⟨rfl, h1.alloc h1.size _⟩
  · have HV := Lib.hid (show valV x s = .tuple #[.int .i64 0, .bool false] by rw [valV, valI, if_neg hp, decide_eq_false hp])
    rw [foundC, if_neg hp, decide_eq_false hp] at HF
    clear HG
    rw [HV.out]
    clear HV
    go_enter Tryz.func14, Tryz.ntmps14
    go_wp2_with (first
      | (go_at_call 23; refine (HN.out _).mono ?_; rintro e w2 ⟨tb, rfl, hlt, hT, hb⟩; have HT := Lib.hid hT; have HB2 := Lib.hid hb; clear hb hT)
      | (go_at_call 37; refine (HF.out tb w2 HT.out).mono ?_; rintro e w3 ⟨rfl, hb3⟩; have HB3 := Lib.hid (k_then hb3 HB2.out); clear hb3))
    refine bodyPost_ret (results_tmp2 rfl _ _ _) rfl ?_
    have h1 := k_then HB3.out (HB.out.alloc HB.out.size (.cells x.cells 23))
    exact ⟨rfl, h1.alloc h1.size _⟩

end Go.Proofs.YtdeiohcciafffaaGreatDoor
