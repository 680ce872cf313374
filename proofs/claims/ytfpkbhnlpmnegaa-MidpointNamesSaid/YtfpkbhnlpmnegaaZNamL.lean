/- MidpointNames, its walk. No condition. -/
import Derived.Test.YtfpkbhnlpmnegaaZLawM
namespace Go.Proofs.Ytfpkbhnlpmnegaa
open Go.RowKit Go.Shelf

theorem srt_is {l m : List Int} (h : l.Perm m) (hs : m.Pairwise (· ≤ ·)) : srt l = m :=
  List.Perm.eq_of_pairwise (le := (· ≤ ·)) (fun a b _ _ h1 h2 => by omega) (srt_up l) hs ((srt_perm l).trans h)
/-- What is answered of written numbers. -/
theorem told_is {l m : List Int} {k : Nat} (h : l.Perm m) (hs : m.Pairwise (· ≤ ·)) (hk : 2 * k + 1 ≤ l.length) (hv : okV l = true) :
    errT l (k : Int) = 0 ∧ outT l (k : Int) = (m.drop k).take (l.length - 2 * k) ∧ sprT l (k : Int) = m.getD (l.length - 1 - k) 0 - m.getD k 0 ∧ midT l (k : Int) = (m.getD k 0 + m.getD (l.length - 1 - k) 0) / 2 := by
  have hok : okM l (k : Int) = true := by unfold okM; rw [hv, okN_iff.2 ⟨k, rfl, hk⟩]; rfl
  have e := srt_is h hs
  refine ⟨errT_ok hok, ?_, ?_, ?_⟩
  · unfold outT trimL
    rw [if_pos hok, Int.toNat_natCast, e]
  · unfold sprT sprM loM hiM
    rw [if_pos hok, Int.toNat_natCast, e]
  · unfold midT midM loM hiM
    rw [if_pos hok, Int.toNat_natCast, e]
theorem told_no {l : List Int} {k : Int} (h : okM l k = false) : errT l k = 140 ∧ outT l k = [] ∧ sprT l k = 0 ∧ midT l k = 0 := by
  unfold errT outT sprT midT
  rw [h]
  exact ⟨rfl, rfl, rfl, rfl⟩
section
variable {W : World} {fs : List Int} {n : Nat} {k : Int} {cs : Array Value}
theorem src_new (hnl : fs.length = n) (hf : n ≤ 1000) (hcs : (fs.flatMap inC).toArray = cs) : RSrc inC 1 (W.alloc (.cells cs 2)) ⟨some ⟨W.heap.size, 0, none⟩, n, n⟩ fs ∧ Below W.heap.size W (W.alloc (.cells cs 2)) := by
  subst hnl
  exact ⟨rsrc_whole (cells := inC) (k := 1) (t := 2) (fun _ => rfl) (by rw [hcs]; exact Whole.new _ _ _) (by omega), (Below.refl _ _).alloc (Nat.le_refl _) _⟩
theorem of_new (W : World) (a b : Int) (hnl : fs.length = n) (hf : n ≤ 1000) (hcs : (fs.flatMap inC).toArray = cs) (h1 : midT fs k = a) (h2 : errT fs k = b) :
    Calls Try.prog 11 #[.slice (some ⟨W.heap.size, 0, none⟩) n n, .int .i64 k] (W.alloc (.cells cs 2)) fun e w' => e = .returned (.tuple #[.int .i64 a, .int .i64 b]) ∧ Below W.heap.size W w' := by
  subst h1 h2
  obtain ⟨hs, hb⟩ := src_new (W := W) hnl hf hcs
  exact (Of_any _ _ fs k hs hf).mono fun _ _ ⟨e, k⟩ => ⟨e, k_then k hb⟩
theorem spread_new (W : World) (a b : Int) (hnl : fs.length = n) (hf : n ≤ 1000) (hcs : (fs.flatMap inC).toArray = cs) (h1 : sprT fs k = a) (h2 : errT fs k = b) :
    Calls Try.prog 13 #[.slice (some ⟨W.heap.size, 0, none⟩) n n, .int .i64 k] (W.alloc (.cells cs 2)) fun e w' => e = .returned (.tuple #[.int .i64 a, .int .i64 b]) ∧ Below W.heap.size W w' := by
  subst h1 h2
  obtain ⟨hs, hb⟩ := src_new (W := W) hnl hf hcs
  exact (Spread_any _ _ fs k hs hf).mono fun _ _ ⟨e, k⟩ => ⟨e, k_then k hb⟩
theorem trim_new (W : World) (m : List Int) (b : Int) (hnl : fs.length = n) (hf : n ≤ 1000) (hcs : (fs.flatMap inC).toArray = cs) (h1 : outT fs k = m) (h2 : errT fs k = b) :
    Calls Try.prog 9 #[.slice (some ⟨W.heap.size, 0, none⟩) n n, .int .i64 k] (W.alloc (.cells cs 2)) fun e w' => ∃ A c, e = .returned (.tuple #[.slice A m.length c, .int .i64 b]) ∧ RSrc inC 1 w' ⟨A, m.length, c⟩ m ∧ Below W.heap.size W w' := by
  subst h1 h2
  obtain ⟨hs, hb⟩ := src_new (W := W) hnl hf hcs
  exact (Trim_any _ _ fs k hs hf).mono fun _ _ h => by
    obtain ⟨A, c, e, h1, _, _, h2⟩ := trimD_src h
    exact ⟨A, c, e, h1, k_then h2 hb⟩
end

set_option maxRecDepth 100000 in
set_option maxHeartbeats 16000000 in
theorem midpointNames_walk (w : World) : Calls Try.prog 4 #[] w fun e w' => e = .returned (.bool true) ∧ Below w.heap.size w w' := by
  obtain ⟨Ae, Ao, As, Am⟩ := told_is (l := [3, 1, 2, 9, -50]) (m := [-50, 1, 2, 3, 9]) (k := 1) (by decide) (by decide) (by decide) (by decide)
  have HA := Lib.hid (fun W => trim_new (k := 1) W [1, 2, 3] 0 (n := 5) (fs := [3, 1, 2, 9, -50]) rfl (by decide) (cs := #[.int .i64 3, .int .i64 1, .int .i64 2, .int .i64 9, .int .i64 (-50)]) rfl (Ao.trans (by decide)) Ae)
  obtain ⟨Be, Bo, Bs, Bm⟩ := told_is (l := [3, 1, 2, 9, -50]) (m := [-50, 1, 2, 3, 9]) (k := 1) (by decide) (by decide) (by decide) (by decide)
  have HB := Lib.hid (fun W => spread_new (k := 1) W 2 0 (n := 5) (fs := [3, 1, 2, 9, -50]) rfl (by decide) (cs := #[.int .i64 3, .int .i64 1, .int .i64 2, .int .i64 9, .int .i64 (-50)]) rfl (Bs.trans (by decide)) Be)
  obtain ⟨Ce, Co, Cs, Cm⟩ := told_no (l := [1, 2]) (k := 1) (by decide)
  have HC := Lib.hid (fun W => of_new (k := 1) W 0 140 (n := 2) (fs := [1, 2]) rfl (by decide) (cs := #[.int .i64 1, .int .i64 2]) rfl Cm Ce)
  obtain ⟨De, Do, Ds, Dm⟩ := told_no (l := []) (k := 0) (by decide)
  have HD := Lib.hid (fun W => (show Calls Try.prog 11 #[.slice none 0 0, .int .i64 0] W fun e w' => e = .returned (.tuple #[.int .i64 0, .int .i64 140]) ∧ Below W.heap.size W w' from by have h := Of_any W nilS [] 0 (RSrc.nil W) (by decide); rw [Dm, De] at h; exact h))
  obtain ⟨Ee, Eo, Es, Em⟩ := told_no (l := [1]) (k := (-1)) (by decide)
  have HE := Lib.hid (fun W => trim_new (k := (-1)) W [] 140 (n := 1) (fs := [1]) rfl (by decide) (cs := #[.int .i64 1]) rfl Eo Ee)
  obtain ⟨Fe, Fo, Fs, Fm⟩ := told_no (l := [4294967297]) (k := 0) (by decide)
  have HF := Lib.hid (fun W => spread_new (k := 0) W 0 140 (n := 1) (fs := [4294967297]) rfl (by decide) (cs := #[.int .i64 4294967297]) rfl Fs Fe)
  obtain ⟨Ge, Go, Gs, Gm⟩ := told_no (l := [-4294967297]) (k := 0) (by decide)
  have HG := Lib.hid (fun W => of_new (k := 0) W 0 140 (n := 1) (fs := [-4294967297]) rfl (by decide) (cs := #[.int .i64 (-4294967297)]) rfl Gm Ge)
  obtain ⟨He, Ho, Hs, Hm⟩ := told_no (l := [1, 2, 3]) (k := 4611686018427387904) (by decide)
  have HH := Lib.hid (fun W => of_new (k := 4611686018427387904) W 0 140 (n := 3) (fs := [1, 2, 3]) rfl (by decide) (cs := #[.int .i64 1, .int .i64 2, .int .i64 3]) rfl Hm He)
  obtain ⟨Ie, Io, Is, Im⟩ := told_is (l := [4294967296, 4294967296]) (m := [4294967296, 4294967296]) (k := 0) (by decide) (by decide) (by decide) (by decide)
  have HI := Lib.hid (fun W => of_new (k := 0) W 4294967296 0 (n := 2) (fs := [4294967296, 4294967296]) rfl (by decide) (cs := #[.int .i64 4294967296, .int .i64 4294967296]) rfl (Im.trans (by decide)) Ie)
  obtain ⟨Je, Jm, -⟩ := told_lit (fs := [7]) (k := 0) (a := 7) (b := 7) (by decide) (by decide) ⟨by decide, by decide⟩ ⟨by decide, by decide⟩
  have HJ := Lib.hid (fun W => is_new (want := 7) (k := 0) (W := W) [7] 1 rfl (by decide) #[.int .i64 7] rfl Je Jm)
  obtain ⟨Ke, Km, -⟩ := told_lit (fs := [-1, 0]) (k := 0) (a := -1) (b := 0) (by decide) (by decide) ⟨by decide, by decide⟩ ⟨by decide, by decide⟩
  have HK := Lib.hid (fun W => is_new (want := -1) (k := 0) (W := W) [-1, 0] 2 rfl (by decide) #[.int .i64 (-1), .int .i64 0] rfl Ke Km)
  obtain ⟨Le, Lm, -⟩ := told_lit (fs := [-9, 9, 0, -9, 9]) (k := 2) (a := 0) (b := 0) (by decide) (by decide) ⟨by decide, by decide⟩ ⟨by decide, by decide⟩
  have HL := Lib.hid (fun W => is_new (want := 0) (k := 2) (W := W) [-9, 9, 0, -9, 9] 5 rfl (by decide) #[.int .i64 (-9), .int .i64 9, .int .i64 0, .int .i64 (-9), .int .i64 9] rfl Le Lm)
  have HAL := Lib.hid (fun W => alive_any W)
  have HLN := Lib.hid (fun (W : World) (A : Option Addr) (c : Nat) (h : RSrc inC 1 W ⟨A, 3, c⟩ [1, 2, 3]) => longs_new h [1, 2, 3] (by decide) #[.int .i64 1, .int .i64 2, .int .i64 3] rfl)
  clear Ae Ao As Am Be Bo Bs Bm Ce Co Cs Cm De Do Ds Dm Ee Eo Es Em Fe Fo Fs Fm Ge Go Gs Gm He Ho Hs Hm Ie Io Is Im Je Jm Ke Km Le Lm
  go_enter Try.func4, Try.ntmps4
  go_upto_region 10 with (first
    | (go_at_call 9; with_reducible refine (HA.out _).mono ?_; (rintro e w1 ⟨AA, cA, rfl, hr, hb⟩; have RA := Lib.hid hr; have KA := Lib.hid (hb); clear hb hr HA))
    | (go_at_call 13; with_reducible refine (HB.out _).mono ?_; (rintro e w2 ⟨rfl, hb⟩; have RB := Lib.hid (RA.out.later hb); have KB := Lib.hid (k_then hb KA.out); clear hb HB))
    | (go_at_call 11; with_reducible refine (HC.out _).mono ?_; (rintro e w3 ⟨rfl, hb⟩; have RC := Lib.hid (RB.out.later hb); have KC := Lib.hid (k_then hb KB.out); clear hb HC))
    | (go_at_call 11; with_reducible refine (HD.out _).mono ?_; (rintro e w4 ⟨rfl, hb⟩; have RD := Lib.hid (RC.out.later hb); have KD := Lib.hid (k_then hb KC.out); clear hb HD))
    | (go_at_call 9; with_reducible refine (HE.out _).mono ?_; (rintro e w5 ⟨AE, cE, rfl, hr, hb⟩; have RE := Lib.hid (RD.out.later hb); have KE := Lib.hid (k_then hb KD.out); clear hb hr HE))
    | (go_at_call 13; with_reducible refine (HF.out _).mono ?_; (rintro e w6 ⟨rfl, hb⟩; have RF := Lib.hid (RE.out.later hb); have KF := Lib.hid (k_then hb KE.out); clear hb HF))
    | (go_at_call 11; with_reducible refine (HG.out _).mono ?_; (rintro e w7 ⟨rfl, hb⟩; have RG := Lib.hid (RF.out.later hb); have KG := Lib.hid (k_then hb KF.out); clear hb HG))
    | (go_at_call 11; with_reducible refine (HH.out _).mono ?_; (rintro e w8 ⟨rfl, hb⟩; have RH := Lib.hid (RG.out.later hb); have KH := Lib.hid (k_then hb KG.out); clear hb HH))
    | (go_at_call 11; with_reducible refine (HI.out _).mono ?_; (rintro e w9 ⟨rfl, hb⟩; have RI := Lib.hid (RH.out.later hb); have KI := Lib.hid (k_then hb KH.out); clear hb HI)))
  simp only [List.append_eq, List.cons_append, List.nil_append]
  go_wp2_with (first
    | (go_at_call 16; refine (HAL.out _).mono ?_; (rintro e w10 ⟨rfl, hb⟩; have K10 := Lib.hid (k_then hb KI.out); have R10 := Lib.hid (RI.out.later hb); clear hb HAL))
    | (go_at_call 15; refine (HLN.out w10 AA cA R10.out).mono ?_; (rintro e w11 ⟨rfl, hb⟩; have K11 := Lib.hid (k_then hb K10.out); clear hb HLN))
    | (go_at_call 17; with_reducible refine (HJ.out _).mono ?_; (rintro e w12 ⟨rfl, hb⟩; have K12 := Lib.hid (k_then hb K11.out); clear hb HJ))
    | (go_at_call 17; with_reducible refine (HK.out _).mono ?_; (rintro e w13 ⟨rfl, hb⟩; have K13 := Lib.hid (k_then hb K12.out); clear hb HK))
    | (go_at_call 17; with_reducible refine (HL.out _).mono ?_; (rintro e w14 ⟨rfl, hb⟩; have K14 := Lib.hid (k_then hb K13.out); clear hb HL)))
  go_ret
  exact ⟨rfl, K14.out⟩
end Go.Proofs.Ytfpkbhnlpmnegaa
