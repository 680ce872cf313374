/- PlanNames, its walk. No condition. -/
import Derived.Test.YtilnaaljakjgoaaLTurn
namespace Go.Proofs.Ytilnaaljakjgoaa
open Go.RowKit Go.Shelf

set_option maxRecDepth 100000 in
set_option maxHeartbeats 16000000 in
theorem names_walk (w : World) : Calls Try.prog 5 #[] w fun e w' => e = .returned (.bool true) ∧ Below w.heap.size w w' := by
  have HS := Lib.hid (fun W => some_any W)
  have HA := Lib.hid (fun W => alive_any W)
  have hf := fun W => Fit_any someL W
  rw [some_fit] at hf
  have HF := Lib.hid hf
  have hc := fun W => Check_any leastS W
  rw [show chkL leastS = 0 from if_pos (fails_num (n := 0) (by decide))] at hc
  have HC1 := Lib.hid hc
  have hd := fun W => Check_any someL W
  rw [show chkL someL = 70 from if_neg (by rw [some_fails]; decide)] at hd
  have HC2 := Lib.hid hd
  have hr := fun W => Round_any zeroL W
  rw [show roundL zeroL = 0 from if_neg (by have := first_eq zeroL; have : firstI zeroL = 1 := by decide
                                            omega)] at hr
  have HR := Lib.hid (fun W => (show Calls Try.prog 14 #[.agg #[.int .i64 0, .int .i64 0, .int .i64 0, .int .i64 0, .int .i64 0, .int .i64 0, .int .i64 0, .int .i64 0, .int .i64 0, .int .i64 0, .int .i64 0, .int .i64 0, .int .i64 0, .int .i64 0, .int .i64 0, .int .i64 0]] W fun e w' => e = .returned (.int .i64 0) ∧ Below W.heap.size W w' from hr W))
  have HL := Lib.hid leastS.cellsL
  have HN := Lib.hid (fun (W : World) (g : Nat) (k : Whole W g 23 leastS.cells) => (show W.cell? ⟨g, 2, none⟩ = some (.int .i64 512) ∧ W.cell? ⟨g, 9, none⟩ = some (.int .i64 88) ∧ W.cell? ⟨g, 4, none⟩ = some (.int .i64 96) ∧ W.cell? ⟨g, 10, none⟩ = some (.int .i64 64) ∧ W.cell? ⟨g, 3, none⟩ = some (.int .i64 248) ∧ W.cell? ⟨g, 11, none⟩ = some (.int .i64 10416) ∧ W.cell? ⟨g, 15, none⟩ = some (.int .i64 81920) from ⟨k.cell 2, k.cell 9, k.cell 4, k.cell 10, k.cell 3, k.cell 11, k.cell 15⟩))
  have HK := Lib.hid (Below.refl w.heap.size w)
  have HT1 := Lib.hid (fun W => turned1 W)
  have HT2 := Lib.hid (fun W => turned2 W)
  have HT3 := Lib.hid (fun W => turned3 W)
  have HT4 := Lib.hid (fun W => turned4 W)
  have HT5 := Lib.hid (fun W => turned5 W)
  have HT6 := Lib.hid (fun W => turned6 W)
  have HT7 := Lib.hid (fun W => turned7 W)
  have HT8 := Lib.hid (fun W => turned8 W)
  have HT9 := Lib.hid (fun W => turned9 W)
  have HT10 := Lib.hid (fun W => turned10 W)
  have HT11 := Lib.hid (fun W => turned11 W)
  have HT12 := Lib.hid (fun W => turned12 W)
  have HT13 := Lib.hid (fun W => turned13 W)
  have HT14 := Lib.hid (fun W => turned14 W)
  have HT15 := Lib.hid (fun W => turned15 W)
  have HT16 := Lib.hid (fun W => turned16 W)
  have HT17 := Lib.hid (fun W => turned17 W)
  have HT18 := Lib.hid (fun W => turned18 W)
  have HT19 := Lib.hid (fun W => turned19 W)
  have HT20 := Lib.hid (fun W => turned20 W)
  clear hf hc hd hr
  generalize leastS.cells = cs at *
  go_enter Try.func5, Try.ntmps5
  go_wp2_with (first
    | (refine wpList_store_last (w := w2) rfl 23 _ _ rfl _ cs rfl rfl 23 _ rfl HL.out.plan HL.out.size.symm HL.out.one ?_; have HP := Lib.hid (Whole.new w2 23 cs); have HKs := HK; clear HK; have HK := Lib.hid (HKs.out.alloc HKs.out.size (.cells cs 23)); clear HKs; obtain ⟨n2, n9, n4, n10, n3, n11, n15⟩ := HN.out _ _ HP.out)
    | (refine wpList_load_want rfl 23 _ rfl w2.heap.size rfl 23 cs (0, 0) _ HP.out Try.underlying23 rfl HL.out.plan ?_)
    | (go_at_call 16; refine (HF.out _).mono ?_; rintro e w2 ⟨rfl, hb⟩; have HKs := HK; clear HK; have HK := Lib.hid (k_then hb HKs.out); clear HKs; clear hb)
    | (go_at_call 19; refine (HT1.out _).mono ?_; clear HT1; rintro e w3 ⟨rfl, hb⟩; clear n2 n9 n4 n10 n3 n11 n15; have HKs := HK; clear HK; have HK := Lib.hid (k_then hb HKs.out); clear HKs; have HPs := HP; clear HP; have HP := Lib.hid (k_later hb HPs.out); clear HPs hb)
    | (go_at_call 19; refine (HT2.out _).mono ?_; clear HT2; rintro e w3 ⟨rfl, hb⟩; have HKs := HK; clear HK; have HK := Lib.hid (k_then hb HKs.out); clear HKs; have HPs := HP; clear HP; have HP := Lib.hid (k_later hb HPs.out); clear HPs hb)
    | (go_at_call 19; refine (HT3.out _).mono ?_; clear HT3; rintro e w3 ⟨rfl, hb⟩; have HKs := HK; clear HK; have HK := Lib.hid (k_then hb HKs.out); clear HKs; have HPs := HP; clear HP; have HP := Lib.hid (k_later hb HPs.out); clear HPs hb)
    | (go_at_call 19; refine (HT4.out _).mono ?_; clear HT4; rintro e w3 ⟨rfl, hb⟩; have HKs := HK; clear HK; have HK := Lib.hid (k_then hb HKs.out); clear HKs; have HPs := HP; clear HP; have HP := Lib.hid (k_later hb HPs.out); clear HPs hb)
    | (go_at_call 19; refine (HT5.out _).mono ?_; clear HT5; rintro e w3 ⟨rfl, hb⟩; have HKs := HK; clear HK; have HK := Lib.hid (k_then hb HKs.out); clear HKs; have HPs := HP; clear HP; have HP := Lib.hid (k_later hb HPs.out); clear HPs hb)
    | (go_at_call 19; refine (HT6.out _).mono ?_; clear HT6; rintro e w3 ⟨rfl, hb⟩; have HKs := HK; clear HK; have HK := Lib.hid (k_then hb HKs.out); clear HKs; have HPs := HP; clear HP; have HP := Lib.hid (k_later hb HPs.out); clear HPs hb)
    | (go_at_call 19; refine (HT7.out _).mono ?_; clear HT7; rintro e w3 ⟨rfl, hb⟩; have HKs := HK; clear HK; have HK := Lib.hid (k_then hb HKs.out); clear HKs; have HPs := HP; clear HP; have HP := Lib.hid (k_later hb HPs.out); clear HPs hb)
    | (go_at_call 19; refine (HT8.out _).mono ?_; clear HT8; rintro e w3 ⟨rfl, hb⟩; have HKs := HK; clear HK; have HK := Lib.hid (k_then hb HKs.out); clear HKs; have HPs := HP; clear HP; have HP := Lib.hid (k_later hb HPs.out); clear HPs hb)
    | (go_at_call 19; refine (HT9.out _).mono ?_; clear HT9; rintro e w3 ⟨rfl, hb⟩; have HKs := HK; clear HK; have HK := Lib.hid (k_then hb HKs.out); clear HKs; have HPs := HP; clear HP; have HP := Lib.hid (k_later hb HPs.out); clear HPs hb)
    | (go_at_call 19; refine (HT10.out _).mono ?_; clear HT10; rintro e w3 ⟨rfl, hb⟩; have HKs := HK; clear HK; have HK := Lib.hid (k_then hb HKs.out); clear HKs; have HPs := HP; clear HP; have HP := Lib.hid (k_later hb HPs.out); clear HPs hb)
    | (go_at_call 19; refine (HT11.out _).mono ?_; clear HT11; rintro e w3 ⟨rfl, hb⟩; have HKs := HK; clear HK; have HK := Lib.hid (k_then hb HKs.out); clear HKs; have HPs := HP; clear HP; have HP := Lib.hid (k_later hb HPs.out); clear HPs hb)
    | (go_at_call 19; refine (HT12.out _).mono ?_; clear HT12; rintro e w3 ⟨rfl, hb⟩; have HKs := HK; clear HK; have HK := Lib.hid (k_then hb HKs.out); clear HKs; have HPs := HP; clear HP; have HP := Lib.hid (k_later hb HPs.out); clear HPs hb)
    | (go_at_call 19; refine (HT13.out _).mono ?_; clear HT13; rintro e w3 ⟨rfl, hb⟩; have HKs := HK; clear HK; have HK := Lib.hid (k_then hb HKs.out); clear HKs; have HPs := HP; clear HP; have HP := Lib.hid (k_later hb HPs.out); clear HPs hb)
    | (go_at_call 19; refine (HT14.out _).mono ?_; clear HT14; rintro e w3 ⟨rfl, hb⟩; have HKs := HK; clear HK; have HK := Lib.hid (k_then hb HKs.out); clear HKs; have HPs := HP; clear HP; have HP := Lib.hid (k_later hb HPs.out); clear HPs hb)
    | (go_at_call 19; refine (HT15.out _).mono ?_; clear HT15; rintro e w3 ⟨rfl, hb⟩; have HKs := HK; clear HK; have HK := Lib.hid (k_then hb HKs.out); clear HKs; have HPs := HP; clear HP; have HP := Lib.hid (k_later hb HPs.out); clear HPs hb)
    | (go_at_call 19; refine (HT16.out _).mono ?_; clear HT16; rintro e w3 ⟨rfl, hb⟩; have HKs := HK; clear HK; have HK := Lib.hid (k_then hb HKs.out); clear HKs; have HPs := HP; clear HP; have HP := Lib.hid (k_later hb HPs.out); clear HPs hb)
    | (go_at_call 19; refine (HT17.out _).mono ?_; clear HT17; rintro e w3 ⟨rfl, hb⟩; have HKs := HK; clear HK; have HK := Lib.hid (k_then hb HKs.out); clear HKs; have HPs := HP; clear HP; have HP := Lib.hid (k_later hb HPs.out); clear HPs hb)
    | (go_at_call 19; refine (HT18.out _).mono ?_; clear HT18; rintro e w3 ⟨rfl, hb⟩; have HKs := HK; clear HK; have HK := Lib.hid (k_then hb HKs.out); clear HKs; have HPs := HP; clear HP; have HP := Lib.hid (k_later hb HPs.out); clear HPs hb)
    | (go_at_call 19; refine (HT19.out _).mono ?_; clear HT19; rintro e w3 ⟨rfl, hb⟩; have HKs := HK; clear HK; have HK := Lib.hid (k_then hb HKs.out); clear HKs; have HPs := HP; clear HP; have HP := Lib.hid (k_later hb HPs.out); clear HPs hb)
    | (go_at_call 19; refine (HT20.out _).mono ?_; clear HT20; rintro e w3 ⟨rfl, hb⟩; have HKs := HK; clear HK; have HK := Lib.hid (k_then hb HKs.out); clear HKs; have HPs := HP; clear HP; have HP := Lib.hid (k_later hb HPs.out); clear HPs hb)
    | (go_at_call 40; refine (HA.out _).mono ?_; rintro e w3 ⟨rfl, hb⟩; have HKs := HK; clear HK; have HK := Lib.hid (k_then hb HKs.out); clear HKs; have HPs := HP; clear HP; have HP := Lib.hid (k_later hb HPs.out); clear HPs hb)
    | (go_at_call 12; refine (HC1.out _).mono ?_; clear HC1; rintro e w3 ⟨rfl, hb⟩; have HKs := HK; clear HK; have HK := Lib.hid (k_then hb HKs.out); clear HKs; have HPs := HP; clear HP; have HP := Lib.hid (k_later hb HPs.out); clear HPs hb)
    | (go_at_call 12; refine (HC2.out _).mono ?_; rintro e w3 ⟨rfl, hb⟩; have HKs := HK; clear HK; have HK := Lib.hid (k_then hb HKs.out); clear HKs; have HPs := HP; clear HP; have HP := Lib.hid (k_later hb HPs.out); clear HPs hb)
    | (go_at_call 14; refine (HR.out _).mono ?_; rintro e w3 ⟨rfl, hb⟩; have HKs := HK; clear HK; have HK := Lib.hid (k_then hb HKs.out); clear HKs; have HPs := HP; clear HP; have HP := Lib.hid (k_later hb HPs.out); clear HPs hb)
    | (go_at_call 18; refine (HS.out _).mono ?_; rintro e w1 ⟨rfl, hb⟩; have HKs := HK; clear HK; have HK := Lib.hid (k_then hb HKs.out); clear HKs; first | (have HPs := HP; clear HP; have HP := Lib.hid (k_later hb HPs.out); clear HPs hb) | clear hb))
  go_ret
  exact ⟨rfl, HK.out⟩

end Go.Proofs.Ytilnaaljakjgoaa
