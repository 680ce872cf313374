/- A plan's text, by a contract: the program's. It asks that the table of tens reads as the library lays it. -/
import Derived.Test.YtdeiohcciafffaaGreatDoorTNamesP
import Derived.Test.YtdeiohcciafffaaGreatDoorTBuild
import Derived.Test.YtdeiohcciafffaaGreatDoorShelf
import Derived.Lib.ItoaLen
namespace Go.Proofs.YtdeiohcciafffaaGreatDoor
open Go.RowKit Go.Shelf

/-- The table of tens reads as the library lays it. -/
def Tens (w : World) : Prop := Lib.TabIs Tryz.prog w "internal/strconv.uint64pow10" .u64 Lib.pow10Tab
theorem tens_global : Tryz.prog.globalNamed "internal/strconv.uint64pow10" = some 3 := by kernel_rfl
theorem Tens.later {w w' : World} (h : Tens w) (hk : Below w.heap.size w w') : Tens w' := by
  unfold Tens Lib.TabIs World.var? at h ⊢
  rw [tens_global] at h ⊢
  simp only [Option.bind_some] at h ⊢
  have hlt : 3 < w.heap.size := by
    rcases Nat.lt_or_ge 3 w.heap.size with g | g
    · exact g
    · rw [Array.getElem?_eq_none g] at h
      simp at h
  rw [hk.block _ hlt]
  exact h

/-- A plan's lines, up to a place. -/
def lineL (x : Pl) (k : Nat) : List UInt8 := nameL k ++ [32, 61, 32] ++ Lib.itoa (x.nth k) ++ [10]
def shownT (x : Pl) (k : Nat) : List UInt8 := (List.range k).flatMap (lineL x)
def shownL (x : Pl) : List UInt8 := shownT x 16
theorem shownT_succ (x : Pl) (k : Nat) : shownT x (k + 1) = shownT x k ++ lineL x k := by
  rw [shownT, List.range_succ, List.flatMap_append]
  simp [shownT]
/-- All numbers are of 64 bits. -/
def Pl.In64 (x : Pl) : Prop := ∀ k, k < 16 → -9223372036854775808 ≤ x.nth k ∧ x.nth k ≤ 9223372036854775807
theorem nameL_le (k : Nat) : (nameL k).length ≤ 7 := by
  rcases Nat.lt_or_ge k 16 with h | h
  · revert h
    exact fun h => case16 (p := fun k => (nameL k).length ≤ 7) (by decide) (by decide) (by decide) (by decide) (by decide) (by decide) (by decide) (by decide) (by decide) (by decide) (by decide) (by decide) (by decide) (by decide) (by decide) (by decide) k h
  · rw [nameL, List.getD_eq_getElem?_getD, List.getElem?_eq_none h]
    exact Nat.zero_le _
theorem lineL_le {x : Pl} (h : x.In64) {k : Nat} (hk : k < 16) : (lineL x k).length ≤ 32 := by
  have h1 := Lib.itoa_length_le _ (h k hk).1 (h k hk).2
  have h2 := nameL_le k
  simp only [lineL, List.length_append, List.length_cons, List.length_nil]
  omega
theorem shownT_le {x : Pl} (h : x.In64) : ∀ k, k ≤ 16 → (shownT x k).length ≤ 32 * k
  | 0, _ => Nat.zero_le _
  | k + 1, hk => by
    have h1 := shownT_le h k (by omega)
    have h2 := lineL_le h (k := k) (by omega)
    rw [shownT_succ, List.length_append]
    omega

theorem own_later {w w' : World} {base : Nat} {e : TypeId} {size n : Nat} {v : Value} {xs : List Value} (h : w.ownsRow base e size v n xs) (hk : Below w.heap.size w w') : w'.ownsRow base e size v n xs :=
  h.kept (row := none) ⟨hk.os, hk.tape, hk.output, hk.size, fun k hk' _ => hk.block k hk'⟩ (by
    cases v.ownBlock
    · exact .inl rfl
    · exact .inr (by simp))
theorem Holds8.later {B b : Nat} {l : List UInt8} {w w' : World} (h : Holds8 B b l w) (hk : Below w.heap.size w w') : Holds8 B b l w' := by
  have one : ∀ p, Lib.BuilderAt tB tU B b p (bv l) w → Lib.BuilderAt tB tU B b p (bv l) w' := fun p ⟨h1, v, h2, h3, h4⟩ =>
    ⟨h1, v, (hk.block b (Array.getElem?_eq_some_iff.1 h2).1).trans h2, own_later h3 hk, h4⟩
  exact h.imp (one _) (one _)

/-- What Show's loop keeps: the Builder holds l, the table lies, and what was there ahead of the Builder. -/
structure ShowSt (w1 : World) (B tb : Nat) (l : List UInt8) (W : World) : Prop where
  at_ : B = w1.heap.size
  hold : Holds8 B B l W
  tab : Whole W tb 58 tabC
  below : Below w1.heap.size w1 W
section
variable {w1 W W' : World} {B tb : Nat} {l : List UInt8}
theorem ShowSt.later (h : ShowSt w1 B tb l W) (hk : Below W.heap.size W W') : ShowSt w1 B tb l W' :=
  ⟨h.at_, h.hold.later hk, k_later hk h.tab, h.below.trans (hk.mono h.below.size)⟩
theorem ShowSt.alloc (h : ShowSt w1 B tb l W) (o : Obj) : ShowSt w1 B tb l (W.alloc o) := h.later ((Below.refl _ W).alloc (Nat.le_refl _) o)
theorem ShowSt.size (h : ShowSt w1 B tb l W) : B ≤ W.heap.size := by rw [h.at_]; exact h.below.size
theorem ShowSt.write (h : ShowSt w1 B tb l W) (s : ByteArray) (hlen : l.length + s.size ≤ 140737488355328) :
    Calls Tryz.prog 24 #[.pointer (some ⟨B, 0, none⟩), .string s] W fun e W' => e = .returned (.tuple #[.int .i64 s.size, .nilIface]) ∧ ShowSt w1 B tb (l ++ s.data.toList) W' ∧ Spared tB tU W W' :=
  (WriteString_any _ _ l s W h.hold hlen h.size).mono fun _ _ ⟨he, hh, hb, hs⟩ => ⟨he, ⟨h.at_, hh, hs _ _ _ h.tab (by decide) (by decide), h.below.trans (h.at_ ▸ hb)⟩, hs⟩
theorem ShowSt.format (h : ShowSt w1 B tb l W) (ht : Tens w1) (n : Int) (h0 : -9223372036854775808 ≤ n) (h1 : n ≤ 9223372036854775807) :
    Calls Tryz.prog 25 #[.int .i64 n, .int .i64 10] W fun e W' => e = .returned (.string ⟨(Lib.itoa n).toArray⟩) ∧ ShowSt w1 B tb l W' ∧ Spared tB tU W W' :=
  (Tryz.strconv_FormatInt_10 n h0 h1 W (ht.later h.below)).mono fun _ W' ⟨he, k, os, hw⟩ => by
    have hb : Below W.heap.size W W' := by
      subst hw
      exact (below_drewN (Below.refl _ W) k).trans ⟨rfl, rfl, rfl, by simp, fun i hi => by
        have hi' : i < (W.drewN k).heap.size := hi
        exact Array.getElem?_append_left hi'⟩
    exact ⟨he, h.later hb, fun g t cs hW _ _ => k_later hb hW⟩
theorem ShowSt.string (h : ShowSt w1 B tb l W) :
    Calls Tryz.prog 26 #[.pointer (some ⟨B, 0, none⟩)] W fun e W' => e = .returned (.string ⟨l.toArray⟩) ∧ Below w1.heap.size w1 W' :=
  (Tryz.Builder_String_any _ _ l W h.hold h.size).mono fun _ _ ⟨he, hb⟩ => ⟨he, h.below.trans (h.at_ ▸ hb)⟩
end

set_option maxHeartbeats 2000000 in
theorem Show_any (x : Pl) (w : World) (hx : x.In64) (ht : Tens w) : Calls Tryz.prog 6 #[.agg x.cells] w fun e w' => e = .returned (.string ⟨(shownL x).toArray⟩) ∧ Below w.heap.size w w' := by
  have HN := Lib.hid (fun W => numbers_b W)
  have HB := Lib.hid ((Below.refl w.heap.size w).alloc (Nat.le_refl _) (.cells x.cells 23))
  have HP := Lib.hid (Whole.new w 23 x.cells)
  have HT := Lib.hid (ht.later HB.out)
  have HX := Lib.hid hx
  clear ht hx
  have hs := Lib.hid (show (w.alloc (.cells x.cells 23)).heap.size = w.heap.size + 1 by simp)
  have HF := Lib.hid (Lib.fresh_isBuilder tB tU (w.alloc (.cells x.cells 23)))
  have HD := Lib.hid ((Below.refl _ (w.alloc (.cells x.cells 23))).alloc (Nat.le_refl _) (.cells #[.pointer none, .slice none 0 0] tB))
  go_enter Tryz.func6, Tryz.ntmps6
  go_wp2_with (go_at_call 23; refine (HN.out _).mono ?_; rintro e w2 ⟨tb, rfl, hlt, hT, hb⟩; have HT2 := Lib.hid hT; have HB2 := Lib.hid hb; clear hb hT hlt)
  have HS := Lib.hid (show ShowSt (w.alloc (.cells x.cells 23)) (w.heap.size + 1) tb [] w2 from ⟨hs.out.symm, by
    have h2 := Holds8.later (l := []) HF.out HB2.out
    rwa [hs.out] at h2, HT2.out, HD.out.trans (HB2.out.mono HD.out.size)⟩)
  clear HF HD HT2 HB2 HN
  generalize w.alloc (.cells x.cells 23) = w1 at *
  go_loopw [8] (fun i V => ∃ k : Nat, k ≤ 16 ∧ i = .int .i64 (k : Int) ∧ ShowSt w1 (w.heap.size + 1) tb (shownT x k) V) (fun i _ => 16 - (intOf i).toNat)
  case atStart => exact ⟨0, Nat.zero_le _, rfl, HS.out⟩
  case round =>
    obtain ⟨k, hk, rfl, hst⟩ := hrel
    clear HS
    by_cases hlt : k < 16
    · obtain ⟨hc0, hc1, hc2⟩ := tab_cells hst.tab hlt
      have hen := get_enters hlt
      have HG := Lib.hid (fun b W h => get_any x b W h (k := k) hlt)
      obtain ⟨hx0, hx1⟩ := HX.out k hlt
      have hl0 := shownT_le HX.out k hk
      have hn0 := nameL_le k
      have hi0 := Lib.itoa_length_le _ hx0 hx1
      have hnz : (nameB k).size = (nameL k).length := by simp [nameB, ByteArray.size]
      have H1 := Lib.hid (show (shownT x k).length + (nameB k).size ≤ 140737488355328 by omega)
      have H2 := Lib.hid (show (shownT x k ++ (nameB k).data.toList).length + (⟨#[32, 61, 32]⟩ : ByteArray).size ≤ 140737488355328 by
        have : (⟨#[32, 61, 32]⟩ : ByteArray).size = 3 := rfl
        rw [List.length_append, this, show (nameB k).data.toList = nameL k by simp [nameB]]; omega)
      have H3 := Lib.hid (show (shownT x k ++ (nameB k).data.toList ++ (⟨#[32, 61, 32]⟩ : ByteArray).data.toList).length + (⟨(Lib.itoa (x.nth k)).toArray⟩ : ByteArray).size ≤ 140737488355328 by
        have : (⟨(Lib.itoa (x.nth k)).toArray⟩ : ByteArray).size = (Lib.itoa (x.nth k)).length := by simp [ByteArray.size]
        rw [List.length_append, List.length_append, this, show (nameB k).data.toList = nameL k by simp [nameB], show (⟨#[32, 61, 32]⟩ : ByteArray).data.toList.length = 3 from rfl]; omega)
      have H4 := Lib.hid (show (shownT x k ++ (nameB k).data.toList ++ (⟨#[32, 61, 32]⟩ : ByteArray).data.toList ++ (⟨(Lib.itoa (x.nth k)).toArray⟩ : ByteArray).data.toList).length + (⟨#[10]⟩ : ByteArray).size ≤ 140737488355328 by
        have : (⟨(Lib.itoa (x.nth k)).toArray⟩ : ByteArray).data.toList = Lib.itoa (x.nth k) := rfl
        have h1 : (⟨#[10]⟩ : ByteArray).size = 1 := rfl
        rw [List.length_append, List.length_append, List.length_append, this, h1, show (nameB k).data.toList = nameL k by simp [nameB], show (⟨#[32, 61, 32]⟩ : ByteArray).data.toList.length = 3 from rfl]; omega)
      have HE := Lib.hid (show shownT x k ++ (nameB k).data.toList ++ (⟨#[32, 61, 32]⟩ : ByteArray).data.toList ++ (⟨(Lib.itoa (x.nth k)).toArray⟩ : ByteArray).data.toList ++ (⟨#[10]⟩ : ByteArray).data.toList = shownT x (k + 1) by
        rw [shownT_succ, lineL, show (nameB k).data.toList = nameL k by simp [nameB]]
        simp [List.append_assoc])
      have HS := Lib.hid (hst.alloc (.cells #[.string (nameB k), .func (.func (getF k)) #[] #[], .func (.func (setF k)) #[] #[]] 58))
      have HXB := Lib.hid (Whole.new wr 58 #[.string (nameB k), .func (.func (getF k)) #[] #[], .func (.func (setF k)) #[] #[]])
      have hpl : ∀ W, ShowSt w1 (w.heap.size + 1) tb (shownT x k ++ (nameB k).data.toList ++ (⟨#[32, 61, 32]⟩ : ByteArray).data.toList) W → Whole W w.heap.size 23 x.cells := fun W h => k_later h.below HP.out
      have HPL := Lib.hid hpl
      have HFM := Lib.hid (fun l W (h : ShowSt w1 (w.heap.size + 1) tb l W) => h.format HT.out (x.nth k) hx0 hx1)
      clear hst hpl hl0 hn0 hi0 hx0 hx1 hnz
      generalize (⟨(Lib.itoa (x.nth k)).toArray⟩ : ByteArray) = it at *
      generalize shownT x k = l0 at *
      generalize x.nth k = y at *
      generalize getF k = gk at *
      generalize setF k = sk at *
      generalize nameB k = nk at *
      go_wp2_with (first
        | (go_at_call 24; refine (HS.out.write _ H1.out).mono ?_; clear H1; rintro e W2 ⟨rfl, h2, h3⟩; have HXB := Lib.hid (h3 _ _ _ HXB.out (by decide) (by decide)); have HS := Lib.hid h2; clear h2 h3)
        | (go_at_call 24; refine (HS.out.write _ H2.out).mono ?_; clear H2; rintro e W3 ⟨rfl, h2, h3⟩; have HXB := Lib.hid (h3 _ _ _ HXB.out (by decide) (by decide)); have HS := Lib.hid h2; clear h2 h3; have hcx : W3.cell? ⟨wr.heap.size, 1, none⟩ = some (.func (.func gk) #[] #[]) := HXB.out.cell 1)
        | (go_at_call 25; refine (HFM.out _ _ HS.out).mono ?_; clear HFM; rintro e W5 ⟨rfl, h2, h3⟩; have HS := Lib.hid h2; clear h2 h3)
        | (go_at_call 24; refine (HS.out.write _ H3.out).mono ?_; clear H3; rintro e W6 ⟨rfl, h2, h3⟩; have HS := Lib.hid h2; clear h2 h3)
        | (go_at_call 24; refine (HS.out.write _ H4.out).mono ?_; clear H4; rintro e W7 ⟨rfl, h2, h3⟩; have HS := Lib.hid h2; clear h2 h3)
        | (refine (HG.out _ _ (HPL.out _ HS.out)).mono ?_; clear HG; rintro e W4 ⟨rfl, rfl⟩))
      go_round
      case rel => exact ⟨k + 1, by omega, by go_num, by rw [← HE.out]; exact HS.out⟩
      case measure => simp [intOf]; omega
    · obtain rfl : k = 16 := by omega
      have HS := Lib.hid hst
      clear hst
      go_wp2_with (go_at_call 26; refine HS.out.string.mono ?_; rintro e W2 ⟨rfl, h2⟩; have HQ := Lib.hid h2; clear h2)
      go_ret
      exact ⟨rfl, k_then HQ.out HB.out⟩
end Go.Proofs.YtdeiohcciafffaaGreatDoor
