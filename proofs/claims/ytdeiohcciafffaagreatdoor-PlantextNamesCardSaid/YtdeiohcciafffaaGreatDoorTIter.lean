/- The iterator that tells a text's lines with their numbers: by its contract. It asks what a variable of the library's holds: some number. -/
import Derived.Test.YtdeiohcciafffaaGreatDoorTRange
import Derived.Test.YtdeiohcciafffaaGreatDoorTSay
namespace Go.Proofs.YtdeiohcciafffaaGreatDoor
open Go.RowKit Go.Shelf
attribute [local go_sem] Oper.semAt_some

set_option maxHeartbeats 1000000 in
theorem lines_in (n : Nat) (s : ByteArray) (w : World) :
    CallsIn Fence.wide n Tryz.prog 76 #[.string s] w fun e w' => e = .returned (.func (.func 93) #[] #[.pointer (some ⟨w.heap.size, 0, none⟩)]) ∧ w' = w.alloc (.cells #[.string s] 9) := by
  have hmf : ∀ (fn : Fn) (first cap : Array Value) (w : World), (Instr.makeFunc fn first cap).run Tryz.prog w = .ok (.func fn first cap) w := fun _ _ _ _ => rfl
  refine callsIn_of_wp Tryz.func76 rfl trivial ?_ rfl
  simp only [Tryz.ntmps76, List.size_toArray, List.length_cons, List.length_nil, Nat.reduceAdd, Nat.reduceSub, Array.replicate_succ, Array.replicate_zero, List.push_toArray, List.append_toArray, List.nil_append, List.cons_append]
  gi_wp2
  go_ret
  exact ⟨rfl, rfl⟩

/-- What a round is handed: the line's number, and the line. -/
abbrev encT (l : List UInt8) (k : Nat) : Array Value := #[.int .i64 (k : Int), .string (txt ((linesT l).getD (k - 1) []))]

theorem lines_step {l : List UInt8} {k : Nat} {rest : List UInt8} (hd : (linesT l).drop k = linesT rest) (hk : k < (linesT l).length) :
    (linesT l).getD k [] = aheadL 10 rest ∧ (rest.contains 10 = true → k + 1 < (linesT l).length ∧ (linesT l).drop (k + 1) = linesT (behindL 10 rest)) ∧ (rest.contains 10 = false → k + 1 = (linesT l).length) := by
  have e := List.drop_eq_getElem_cons hk
  rw [hd] at e
  have hg : (linesT l).getD k [] = (linesT l)[k] := by rw [List.getD_eq_getElem?_getD, List.getElem?_eq_getElem hk]; rfl
  cases hc : rest.contains 10
  · rw [linesT_last hc] at e
    have h1 := (List.cons.inj e).1
    have h2 := (List.cons.inj e).2
    refine ⟨by rw [hg, ← h1, (ahead_all hc).1], fun h => by simp at h, fun _ => ?_⟩
    have := congrArg List.length h2
    rw [List.length_drop] at this
    simp at this
    omega
  · rw [linesT_more hc] at e
    have h1 := (List.cons.inj e).1
    have h2 := (List.cons.inj e).2
    refine ⟨by rw [hg, ← h1], fun _ => ⟨?_, h2.symm⟩, fun h => by simp at h⟩
    have := congrArg List.length h2
    rw [List.length_drop] at this
    have h3 : 0 < (linesT (behindL 10 rest)).length := List.length_pos_iff.2 (linesT_ne _)
    omega

set_option maxRecDepth 100000 in
set_option maxHeartbeats 4000000 in
theorem lineRounds_any (m : Nat) (hm : 1 ≤ m) (b : Nat) (l : List UInt8) (q : Int) (w : World) (hb : b < w.heap.size) (hl : l.length ≤ 4000000) (hc : w.cell? ⟨b, 0, none⟩ = some (.string (txt l))) :
    Rounds8 m Tryz.prog 93 #[.pointer (some ⟨b, 0, none⟩)] (encT l) (linesT l).length (Sized q) w := fun lp J Jx W hW hJ hKp hY h0 => by
  have hc1 : W.cell? ⟨b, 0, none⟩ = some (.string (txt l)) := (hW.cell (p := ⟨b, 0, none⟩) hb).trans hc
  have HY := Lib.hid hY
  have HJ := Lib.hid hJ
  have HKP := Lib.hid hKp
  clear hY hW hc hb hJ hKp
  refine callsIn_of_wp Tryz.func93 rfl trivial ?_ rfl
  simp only [Tryz.ntmps93, List.size_toArray, List.length_cons, List.length_nil, Nat.reduceAdd, Nat.reduceSub, Array.replicate_succ, Array.replicate_zero, List.push_toArray, List.append_toArray, List.nil_append, List.cons_append]
  obtain ⟨tl, htl⟩ : ∃ tl, tl = txt l := ⟨_, rfl⟩
  rw [← htl] at hc1
  have HTL := Lib.hid htl
  have hll := linesT_len l
  clear htl
  gi_wp2
  gi_loopw [3, 4, 5] (fun a o i wr => ∃ (k : Nat) (rest : List UInt8) (more : Bool), k ≤ (linesT l).length ∧ rest.length ≤ l.length ∧ i = .int .i64 ((k : Int) + 1) ∧ a = .string (txt rest) ∧ o = .bool more ∧ J k wr ∧
    (more = true → k < (linesT l).length ∧ (linesT l).drop k = linesT rest) ∧ (more = false → k = (linesT l).length)) (fun _ _ i _ => (linesT l).length + 1 - (intOf i).toNat)
  case atStart => exact ⟨0, l, true, by omega, by omega, rfl, by rw [HTL.out], rfl, h0, fun _ => ⟨List.length_pos_iff.2 (linesT_ne l), rfl⟩, fun h => by cases h⟩
  case round =>
    obtain ⟨k, rest, more, hk, hr, rfl, rfl, rfl, hJk, hyes, hno⟩ := hrel
    cases more
    · have hkM := hno rfl
      have HJK := Lib.hid hJk
      have HM := Lib.hid hkM
      clear hJk hyes hno hkM
      gi_wp2
      go_end0
      exact ⟨⟨_, rfl⟩, .inl (HM.out ▸ HJK.out)⟩
    · obtain ⟨hlt, hdrop⟩ := hyes rfl
      obtain ⟨hg, hmore, hlast⟩ := lines_step hdrop hlt
      obtain ⟨rs, hrs⟩ : ∃ rs, rs = txt rest := ⟨_, rfl⟩
      have hz : rs.size = rest.length := by rw [hrs]; exact txt_size _
      have hrl : rs.data.toList = rest := by rw [hrs]
      have hcut := fun W h => cut_any rs 10 q W (by omega) h
      rw [hrl] at hcut
      have HC := Lib.hid hcut
      have HG := Lib.hid hg
      have HMO := Lib.hid hmore
      have HLA := Lib.hid hlast
      have hbl := behind_le 10 rest
      have HJK := Lib.hid hJk
      have em : (((k + 1 : Nat)) : Int) = (k : Int) + 1 := by omega
      clear hyes hno hdrop hg hmore hlast hcut hrl hz hJk
      rw [← hrs]
      clear hrs
      obtain ⟨ah, hah⟩ : ∃ ah, ah = txt (aheadL 10 rest) := ⟨_, rfl⟩
      have hah' := hah
      unfold txt at hah'
      rw [← hah'] at HC
      have HAH := Lib.hid hah
      clear hah hah'
      generalize hbo : rest.contains 10 = bo at *
      have HBO := Lib.hid hbo
      clear hbo
      gi_wp2_with (refine ⟨trivial, ?_⟩; gi_at_call 21; refine (callsIn_wide.2 (HC.out _ (HKP.out _ _ HJK.out))).mono ?_; rintro e w2 ⟨rfl, n2, rfl⟩; have hJ2 := HJ.out _ _ _ (below_drewN (Below.refl _ wr) n2) HJK.out; have HJ2 := Lib.hid hJ2; obtain ⟨fn, tmps, assign, body, hy, hR⟩ := HY.out k _ hlt hJ2; clear hJ2; rw [encT, em, Nat.add_sub_cancel, HG.out, ← HAH.out] at hy)
      refine hR.mono ?_
      rintro e W3 (⟨rfl, hJ3, _⟩ | ⟨rfl, hJx3⟩)
      · clear hR hy
        gi_wp2
        go_roundw
        case rel => exact ⟨k + 1, behindL 10 rest, bo, by omega, by omega, by go_num, rfl, rfl, hJ3, HMO.out, HLA.out⟩
        case measure => simp [intOf]; omega
      · clear hR hy
        gi_wp2
        refine bodyPost_ret (results_none rfl _ _ _) rfl ?_
        exact ⟨⟨_, rfl⟩, .inr ⟨k + 1, by omega, by omega, hJx3⟩⟩
end Go.Proofs.YtdeiohcciafffaaGreatDoor
