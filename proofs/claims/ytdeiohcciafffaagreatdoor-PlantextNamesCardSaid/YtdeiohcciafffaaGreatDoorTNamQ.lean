/- PlantextNames: what it calls, by contracts. It asks that the table of tens reads as the library lays it, and that a variable of the library's holds some number. -/
import Derived.Test.YtdeiohcciafffaaGreatDoorTNamM
import Derived.Test.YtdeiohcciafffaaGreatDoorTBackM
import Derived.Test.YtdeiohcciafffaaGreatDoorTAlive
import Derived.Test.YtdeiohcciafffaaGreatDoorTReadsL
import Derived.Test.YtdeiohcciafffaaGreatDoorHeld
namespace Go.Proofs.YtdeiohcciafffaaGreatDoor
open Go.RowKit Go.Shelf

theorem txt_app (a b : List UInt8) : txt a ++ txt b = txt (a ++ b) := by apply ByteArray.ext; apply Array.ext'; simp
theorem planN_in : planN.In64 := fun k hk => by
  rw [planN_nth hk]
  have hv : valN k < 100 := by unfold valN; split <;> omega
  omega
abbrev tN : ByteArray := txt textN
theorem tN_size : tN.size = 157 := by rw [txt_size, lenN]
def replN : List UInt8 := Lib.replace textN [112, 105] [107] 1
theorem replN_err : errT replN = true := by kernel_rfl
theorem replN_line : lineNo replN = 10 := by kernel_rfl
theorem replN_len : replN.length = 156 := by kernel_rfl
theorem countN : Lib.countB tN ⟨#[112, 105]⟩ = 1 := by kernel_rfl
theorem repeatN : Lib.repeatL [35] 3843 = List.replicate 3843 35 := by kernel_rfl
abbrev rN : ByteArray := txt (List.replicate 3843 35)
theorem longB : tN ++ rN = txt longN := txt_app _ _
def planK : Pl := ⟨0, -3, 0, 0, 0, 0, 0, 0, 0, 0, 0, 0, 0, 0, 0, 0⟩
theorem planK_in : planK.In64 := fun k hk => case16 (p := fun k => -9223372036854775808 ≤ planK.nth k ∧ planK.nth k ≤ 9223372036854775807) (by decide) (by decide) (by decide) (by decide) (by decide) (by decide) (by decide) (by decide) (by decide) (by decide) (by decide) (by decide) (by decide) (by decide) (by decide) (by decide) k hk
def textK : List UInt8 := (List.range 16).flatMap fun k => nameL k ++ [32, 61, 32] ++ (if k = 1 then [45, 51] else [48]) ++ [10]
theorem itoa_zero : Lib.itoa 0 = [48] := by
  have h := itoa_small (n := 0) (by omega)
  exact h
theorem itoa_three : Lib.itoa (-3) = [45, 51] := by
  unfold Lib.itoa
  rw [if_pos (by omega)]
  show 45 :: Lib.decDigits 3 = _
  rw [Lib.decDigits_one (by omega)]
  rfl
theorem shownK : shownL planK = textK := by
  unfold shownL shownT textK
  rw [List.flatMap_def, List.flatMap_def]
  congr 1
  apply List.map_congr_left
  intro k hk
  have hk2 := List.mem_range.1 hk
  unfold lineL
  revert hk2
  exact fun hk2 => case16 (p := fun k => nameL k ++ [32, 61, 32] ++ Lib.itoa (planK.nth k) ++ [10] = nameL k ++ [32, 61, 32] ++ (if k = 1 then [45, 51] else [48]) ++ [10]) (by rw [show planK.nth 0 = 0 from rfl, itoa_zero]; rfl) (by rw [show planK.nth 1 = -3 from rfl, itoa_three]; rfl) (by rw [show planK.nth 2 = 0 from rfl, itoa_zero]; rfl) (by rw [show planK.nth 3 = 0 from rfl, itoa_zero]; rfl) (by rw [show planK.nth 4 = 0 from rfl, itoa_zero]; rfl) (by rw [show planK.nth 5 = 0 from rfl, itoa_zero]; rfl) (by rw [show planK.nth 6 = 0 from rfl, itoa_zero]; rfl) (by rw [show planK.nth 7 = 0 from rfl, itoa_zero]; rfl) (by rw [show planK.nth 8 = 0 from rfl, itoa_zero]; rfl) (by rw [show planK.nth 9 = 0 from rfl, itoa_zero]; rfl) (by rw [show planK.nth 10 = 0 from rfl, itoa_zero]; rfl) (by rw [show planK.nth 11 = 0 from rfl, itoa_zero]; rfl) (by rw [show planK.nth 12 = 0 from rfl, itoa_zero]; rfl) (by rw [show planK.nth 13 = 0 from rfl, itoa_zero]; rfl) (by rw [show planK.nth 14 = 0 from rfl, itoa_zero]; rfl) (by rw [show planK.nth 15 = 0 from rfl, itoa_zero]; rfl) k hk2
theorem textK_has : Lib.contains textK [107, 32, 61, 32, 45, 51, 10] = true := by kernel_rfl
theorem textK_len : textK.length ≤ 1000 := by have h : textK.length = 152 := by kernel_rfl
                                              omega
section
variable (q : Int) (W : World)
theorem nam_show (h : Tens W) : Calls Tryz.prog 6 #[.agg planN.cells] W fun e w' => e = .returned (.string tN) ∧ Below W.heap.size W w' := by
  have h := Show_any planN W planN_in h
  rw [shownN] at h
  exact h
theorem nam_showK (h : Tens W) : Calls Tryz.prog 6 #[.agg planK.cells] W fun e w' => e = .returned (.string (txt textK)) ∧ Below W.heap.size W w' := by
  have h := Show_any planK W planK_in h
  rw [shownK] at h
  exact h
theorem nam_has (h : Sized q W) : Calls Tryz.prog 16 #[.string (txt textK), .string ⟨#[107, 32, 61, 32, 45, 51, 10]⟩] W fun e w' => e = .returned (.bool true) ∧ w' = W := by
  have h := Tryz.strings_Contains (txt textK) ⟨#[107, 32, 61, 32, 45, 51, 10]⟩ q W (by have := textK_len; rw [txt_size]; omega) h
  rw [show Lib.contains (txt textK).data.toList (⟨#[107, 32, 61, 32, 45, 51, 10]⟩ : ByteArray).data.toList = true from textK_has] at h
  exact h
theorem nam_parse (h : Sized q W) : Calls Tryz.prog 7 #[.string tN] W fun e w' => e = .returned (.tuple #[.agg planN.cells, .int .i64 (lineNo textN : Nat), .int .i64 0]) ∧ Below W.heap.size W w' := by
  have h := Parse_any textN q W (by rw [lenN]; omega) h
  rw [parseV, errN, planN_read] at h
  exact h
theorem nam_load (h : Sized q W) : Calls Tryz.prog 8 #[.string tN] W fun e w' => e = .returned (.tuple #[.agg (loadP textN).cells, .int .i64 70]) ∧ Below W.heap.size W w' := by
  have h := Load_any textN q W (by rw [lenN]; omega) h
  rw [loadV, errN, loadN] at h
  simp only [Bool.false_eq_true, if_false] at h
  exact h
theorem nam_pre : Calls Tryz.prog 9 #[.string tN, .string ⟨#[110, 111, 100, 101, 115, 32, 61, 32, 52, 10, 107, 32, 61, 32, 49, 10, 115, 108, 111, 116, 32, 61, 32, 50, 10, 115, 101, 110, 100, 111, 102, 102, 32, 61, 32, 51, 10]⟩] W fun e w' => e = .returned (.bool true) ∧ w' = W := by
  have h := Tryz.strings_HasPrefix tN ⟨#[110, 111, 100, 101, 115, 32, 61, 32, 52, 10, 107, 32, 61, 32, 49, 10, 115, 108, 111, 116, 32, 61, 32, 50, 10, 115, 101, 110, 100, 111, 102, 102, 32, 61, 32, 51, 10]⟩ W
  rw [show Lib.hasPrefix tN.data.toList (⟨#[110, 111, 100, 101, 115, 32, 61, 32, 52, 10, 107, 32, 61, 32, 49, 10, 115, 108, 111, 116, 32, 61, 32, 50, 10, 115, 101, 110, 100, 111, 102, 102, 32, 61, 32, 51, 10]⟩ : ByteArray).data.toList = true by kernel_rfl] at h
  exact h
theorem nam_suf : Calls Tryz.prog 10 #[.string tN, .string ⟨#[112, 97, 121, 108, 111, 97, 100, 32, 61, 32, 49, 52, 10, 104, 111, 114, 105, 122, 111, 110, 32, 61, 32, 49, 53, 10]⟩] W fun e w' => e = .returned (.bool true) ∧ w' = W := by
  have h := Tryz.strings_HasSuffix tN ⟨#[112, 97, 121, 108, 111, 97, 100, 32, 61, 32, 49, 52, 10, 104, 111, 114, 105, 122, 111, 110, 32, 61, 32, 49, 53, 10]⟩ W (by rw [tN_size]; omega)
  rw [show Lib.hasSuffix tN.data.toList (⟨#[112, 97, 121, 108, 111, 97, 100, 32, 61, 32, 49, 52, 10, 104, 111, 114, 105, 122, 111, 110, 32, 61, 32, 49, 53, 10]⟩ : ByteArray).data.toList = true by kernel_rfl] at h
  exact h
theorem nam_repl (h : Sized q W) : Calls Tryz.prog 12 #[.string tN, .string ⟨#[112, 105]⟩, .string ⟨#[107]⟩, .int .i64 1] W fun e w' => e = .returned (.string (txt replN)) ∧ Below W.heap.size W w' :=
  Tryz.strings_Replace tN ⟨#[112, 105]⟩ ⟨#[107]⟩ 1 q W (by rw [tN_size]; omega) h (by decide) (by rw [tN_size, countN]; decide)
theorem nam_repeat : Calls Tryz.prog 13 #[.string ⟨#[35]⟩, .int .i64 3843] W fun e w' => e = .returned (.string rN) ∧ Below W.heap.size W w' := by
  have h := Tryz.strings_Repeat ⟨#[35]⟩ 3843 W (by omega) (by decide)
  rw [show ((3843 : Nat) : Int) = 3843 by omega] at h
  rw [show Lib.repeatL (⟨#[35]⟩ : ByteArray).data.toList 3843 = List.replicate 3843 35 from repeatN] at h
  exact h
theorem nam_long (h : Sized q W) : Calls Tryz.prog 7 #[.string (tN ++ rN)] W fun e w' => e = .returned (.tuple #[.agg planN.cells, .int .i64 (lineNo longN : Nat), .int .i64 0]) ∧ Below W.heap.size W w' := by
  have h := Parse_any longN q W (by rw [longN_len]; omega) h
  rw [parseV, longN_err, longN_plan, ← longB] at h
  exact h
theorem nam_over {l : List UInt8} (hl : 4000 < l.length) (h2 : l.length ≤ 1000000) (h : Sized q W) : Calls Tryz.prog 7 #[.string (txt l)] W fun e w' => e = .returned (.tuple #[.agg zeroP.cells, .int .i64 0, .int .i64 80]) ∧ Below W.heap.size W w' := by
  have h := Parse_any l q W h2 h
  rw [parseV, planT, (longer_err hl).1, (longer_err hl).2] at h
  exact h
theorem nam_over1 (h : Sized q W) : Calls Tryz.prog 7 #[.string (tN ++ rN ++ ⟨#[35]⟩)] W fun e w' => e = .returned (.tuple #[.agg zeroP.cells, .int .i64 0, .int .i64 80]) ∧ Below W.heap.size W w' := by
  rw [longB, show (⟨#[35]⟩ : ByteArray) = txt [35] from rfl, txt_app]
  exact nam_over q W (by rw [List.length_append, longN_len]; simp) (by rw [List.length_append, longN_len]; simp) h
theorem nam_over2 (h : Sized q W) : Calls Tryz.prog 7 #[.string (⟨#[120, 10]⟩ ++ (tN ++ rN))] W fun e w' => e = .returned (.tuple #[.agg zeroP.cells, .int .i64 0, .int .i64 80]) ∧ Below W.heap.size W w' := by
  rw [longB, show (⟨#[120, 10]⟩ : ByteArray) = txt [120, 10] from rfl, txt_app]
  exact nam_over q W (by rw [List.length_append, longN_len]; simp) (by rw [List.length_append, longN_len]; simp) h
theorem nam_val1 : Calls Tryz.prog 14 #[.agg planN.cells, .string ⟨#[112, 105]⟩] W fun e w' => e = .returned (.tuple #[.int .i64 9, .bool true]) ∧ Below W.heap.size W w' := by
  have h := Value_any planN ⟨#[112, 105]⟩ W
  rw [show valV planN ⟨#[112, 105]⟩ = .tuple #[.int .i64 9, .bool true] by kernel_rfl] at h
  exact h
theorem nam_val2 : Calls Tryz.prog 14 #[.agg planN.cells, .string ⟨#[80, 105]⟩] W fun e w' => e = .returned (.tuple #[.int .i64 0, .bool false]) ∧ Below W.heap.size W w' := by
  have h := Value_any planN ⟨#[80, 105]⟩ W
  rw [show valV planN ⟨#[80, 105]⟩ = .tuple #[.int .i64 0, .bool false] by kernel_rfl] at h
  exact h
theorem nam_says0 (h : Sized q W) : Calls Tryz.prog 11 #[.int .i64 10, .slice (some ⟨W.heap.size, 0, none⟩) 1 1] (W.alloc (.cells #[.string (txt replN)] 9)) fun e w' => e = .returned (.bool true) ∧ Below W.heap.size W w' := by
  have e : Lib.join ([txt replN].map (·.data.toList)) [10] = replN := by rw [List.map_cons, List.map_nil, Lib.join_one]
  exact said_new [txt replN] 10 q W (by decide) (by rw [e, replN_len]; omega) (by rw [e]; exact replN_err) (by rw [e]; exact replN_line) h
theorem nam_says1 (h : Sized q W) : Calls Tryz.prog 11 #[.int .i64 1, .slice (some ⟨W.heap.size, 0, none⟩) 1 1] (W.alloc (.cells #[.string ⟨#[61]⟩] 9)) fun e w' => e = .returned (.bool true) ∧ Below W.heap.size W w' :=
  said_new [⟨#[61]⟩] 1 q W (by decide) (by decide) (by kernel_rfl) (by kernel_rfl) h
theorem nam_says2 (h : Sized q W) : Calls Tryz.prog 11 #[.int .i64 1, .slice (some ⟨W.heap.size, 0, none⟩) 1 1] (W.alloc (.cells #[.string ⟨#[110, 111, 100, 101, 115, 32, 52]⟩] 9)) fun e w' => e = .returned (.bool true) ∧ Below W.heap.size W w' :=
  said_new [⟨#[110, 111, 100, 101, 115, 32, 52]⟩] 1 q W (by decide) (by decide) (by kernel_rfl) (by kernel_rfl) h
theorem nam_says3 (h : Sized q W) : Calls Tryz.prog 11 #[.int .i64 1, .slice (some ⟨W.heap.size, 0, none⟩) 1 1] (W.alloc (.cells #[.string ⟨#[110, 111, 100, 101, 115, 32, 61, 32, 45, 52]⟩] 9)) fun e w' => e = .returned (.bool true) ∧ Below W.heap.size W w' :=
  said_new [⟨#[110, 111, 100, 101, 115, 32, 61, 32, 45, 52]⟩] 1 q W (by decide) (by decide) (by kernel_rfl) (by kernel_rfl) h
theorem nam_says4 (h : Sized q W) : Calls Tryz.prog 11 #[.int .i64 1, .slice (some ⟨W.heap.size, 0, none⟩) 1 1] (W.alloc (.cells #[.string ⟨#[110, 111, 100, 101, 115, 32, 61, 32, 52, 32, 53]⟩] 9)) fun e w' => e = .returned (.bool true) ∧ Below W.heap.size W w' :=
  said_new [⟨#[110, 111, 100, 101, 115, 32, 61, 32, 52, 32, 53]⟩] 1 q W (by decide) (by decide) (by kernel_rfl) (by kernel_rfl) h
theorem nam_says5 (h : Sized q W) : Calls Tryz.prog 11 #[.int .i64 1, .slice (some ⟨W.heap.size, 0, none⟩) 1 1] (W.alloc (.cells #[.string ⟨#[110, 111, 100, 101, 115, 32, 61, 32]⟩] 9)) fun e w' => e = .returned (.bool true) ∧ Below W.heap.size W w' :=
  said_new [⟨#[110, 111, 100, 101, 115, 32, 61, 32]⟩] 1 q W (by decide) (by decide) (by kernel_rfl) (by kernel_rfl) h
theorem nam_says6 (h : Sized q W) : Calls Tryz.prog 11 #[.int .i64 1, .slice (some ⟨W.heap.size, 0, none⟩) 1 1] (W.alloc (.cells #[.string ⟨#[78, 111, 100, 101, 115, 32, 61, 32, 52]⟩] 9)) fun e w' => e = .returned (.bool true) ∧ Below W.heap.size W w' :=
  said_new [⟨#[78, 111, 100, 101, 115, 32, 61, 32, 52]⟩] 1 q W (by decide) (by decide) (by kernel_rfl) (by kernel_rfl) h
theorem nam_says7 (h : Sized q W) : Calls Tryz.prog 11 #[.int .i64 1, .slice (some ⟨W.heap.size, 0, none⟩) 1 1] (W.alloc (.cells #[.string ⟨#[110, 111, 100, 101, 115, 32, 61, 32, 49, 50, 51, 52, 53, 54, 55, 56, 57, 48, 49, 50, 51, 52, 53, 54]⟩] 9)) fun e w' => e = .returned (.bool true) ∧ Below W.heap.size W w' :=
  said_new [⟨#[110, 111, 100, 101, 115, 32, 61, 32, 49, 50, 51, 52, 53, 54, 55, 56, 57, 48, 49, 50, 51, 52, 53, 54]⟩] 1 q W (by decide) (by decide) (by kernel_rfl) (by kernel_rfl) h
theorem nam_says8 (h : Sized q W) : Calls Tryz.prog 11 #[.int .i64 0, .slice (some ⟨W.heap.size, 0, none⟩) 1 1] (W.alloc (.cells #[.string ⟨#[110, 111, 100, 101, 115, 32, 61, 32, 49, 50, 51, 52, 53, 54, 55, 56, 57, 48, 49, 50, 51, 52, 53]⟩] 9)) fun e w' => e = .returned (.bool true) ∧ Below W.heap.size W w' :=
  said_new [⟨#[110, 111, 100, 101, 115, 32, 61, 32, 49, 50, 51, 52, 53, 54, 55, 56, 57, 48, 49, 50, 51, 52, 53]⟩] 0 q W (by decide) (by decide) (by kernel_rfl) (by kernel_rfl) h
theorem nam_says9 (h : Sized q W) : Calls Tryz.prog 11 #[.int .i64 0, .slice (some ⟨W.heap.size, 0, none⟩) 1 1] (W.alloc (.cells #[.string ⟨#[9, 32, 110, 111, 100, 101, 115, 9, 61, 9, 48, 32, 9, 35, 32, 61, 32, 61]⟩] 9)) fun e w' => e = .returned (.bool true) ∧ Below W.heap.size W w' :=
  said_new [⟨#[9, 32, 110, 111, 100, 101, 115, 9, 61, 9, 48, 32, 9, 35, 32, 61, 32, 61]⟩] 0 q W (by decide) (by decide) (by kernel_rfl) (by kernel_rfl) h
theorem nam_says10 (h : Sized q W) : Calls Tryz.prog 11 #[.int .i64 2, .slice (some ⟨W.heap.size, 0, none⟩) 2 2] (W.alloc (.cells #[.string ⟨#[35, 32, 107, 32, 61, 32, 120]⟩, .string ⟨#[107, 32, 61, 32, 120]⟩] 9)) fun e w' => e = .returned (.bool true) ∧ Below W.heap.size W w' :=
  said_new [⟨#[35, 32, 107, 32, 61, 32, 120]⟩, ⟨#[107, 32, 61, 32, 120]⟩] 2 q W (by decide) (by decide) (by kernel_rfl) (by kernel_rfl) h
theorem nam_says11 (h : Sized q W) : Calls Tryz.prog 11 #[.int .i64 1, .slice (some ⟨W.heap.size, 0, none⟩) 1 1] (W.alloc (.cells #[.string ⟨#[110, 111, 100, 101, 115, 32, 61, 61, 32, 52]⟩] 9)) fun e w' => e = .returned (.bool true) ∧ Below W.heap.size W w' :=
  said_new [⟨#[110, 111, 100, 101, 115, 32, 61, 61, 32, 52]⟩] 1 q W (by decide) (by decide) (by kernel_rfl) (by kernel_rfl) h
theorem nam_says12 (h : Sized q W) : Calls Tryz.prog 11 #[.int .i64 1, .slice (some ⟨W.heap.size, 0, none⟩) 1 1] (W.alloc (.cells #[.string ⟨#[110, 111, 100, 101, 115, 32, 61, 32, 52, 13]⟩] 9)) fun e w' => e = .returned (.bool true) ∧ Below W.heap.size W w' :=
  said_new [⟨#[110, 111, 100, 101, 115, 32, 61, 32, 52, 13]⟩] 1 q W (by decide) (by decide) (by kernel_rfl) (by kernel_rfl) h
theorem nam_says13 (h : Sized q W) : Calls Tryz.prog 11 #[.int .i64 0, .slice (some ⟨W.heap.size, 0, none⟩) 3 3] (W.alloc (.cells #[.string ⟨#[35]⟩, .string ⟨#[32, 32]⟩, .string ⟨#[9]⟩] 9)) fun e w' => e = .returned (.bool true) ∧ Below W.heap.size W w' :=
  said_new [⟨#[35]⟩, ⟨#[32, 32]⟩, ⟨#[9]⟩] 0 q W (by decide) (by decide) (by kernel_rfl) (by kernel_rfl) h
end
end Go.Proofs.YtdeiohcciafffaaGreatDoor
