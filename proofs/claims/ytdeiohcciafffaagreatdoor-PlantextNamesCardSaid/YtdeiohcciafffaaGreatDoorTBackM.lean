/- A line that says a name and a number's digits, with blanks and a remark: what is read of it. No condition. -/
import Derived.Test.YtdeiohcciafffaaGreatDoorTAddM
namespace Go.Proofs.YtdeiohcciafffaaGreatDoor
open Go.RowKit Go.Shelf

theorem digit_toNat {i : Nat} (h : i < 10) : (UInt8.ofNat (48 + i)).toNat = 48 + i := by simp [UInt8.toNat_ofNat]; omega
theorem dec_ne (u : Nat) : Lib.decDigits u ≠ [] := by
  unfold Lib.decDigits
  split <;> simp
theorem dec_value : ∀ (u : Nat), digitsV (Lib.decDigits u) = u
  | u => by
    unfold Lib.decDigits
    split
    · rename_i h
      show 10 * 0 + ((UInt8.ofNat (48 + _)).toNat - 48) = _
      rw [digit_toNat h]
      omega
    · have ih := dec_value (u / 10)
      rw [digitsV_snoc, ih, digit_toNat (Nat.mod_lt _ (by omega))]
      omega
theorem dec_len : ∀ (n u : Nat), 0 < n → u < 10 ^ n → (Lib.decDigits u).length ≤ n
  | 0, _, h, _ => absurd h (by omega)
  | n + 1, u, _, hu => by
    unfold Lib.decDigits
    split
    · simp
    · rw [List.length_append, List.length_singleton]
      have h1 : u / 10 < 10 ^ n := by rw [Nat.pow_succ] at hu; omega
      have h0 : 0 < n := by
        rcases Nat.eq_zero_or_pos n with rfl | h
        · rw [Nat.pow_zero] at h1; omega
        · exact h
      have := dec_len n (u / 10) h0 h1
      omega
theorem dec_head : ∀ (u : Nat), 0 < u → (Lib.decDigits u).head? ≠ some 48
  | u, h0 => by
    unfold Lib.decDigits
    split
    · rename_i h
      rw [List.head?_cons]
      intro e
      have e2 := congrArg UInt8.toNat (Option.some.inj e)
      rw [digit_toNat h] at e2
      have : (48 : UInt8).toNat = 48 := rfl
      omega
    · have ih := dec_head (u / 10) (by omega)
      cases hd : Lib.decDigits (u / 10) with
      | nil => exact absurd hd (dec_ne _)
      | cons b r =>
        rw [hd] at ih
        simpa using ih
theorem whole_dec {u : Nat} (h : u < 1000000000000000) : wholeT (Lib.decDigits u) = some u := by
  have h1 := dec_len 15 u (by omega) (by simpa using h)
  have hall : (Lib.decDigits u).all digitB = true := List.all_eq_true.2 fun d hd => dec_digits u d hd
  rw [wholeT, if_neg, if_pos hall, dec_value]
  rintro (h2 | h2 | ⟨h2, h3⟩)
  · exact dec_ne u h2
  · omega
  · rcases Nat.eq_zero_or_pos u with rfl | h0
    · have : (Lib.decDigits 0).length = 1 := by unfold Lib.decDigits; rfl
      omega
    · exact dec_head u h0 h2

theorem drop_blanks {p : List UInt8} (hp : ∀ b ∈ p, blanksL.contains b = true) (l : List UInt8) : (p ++ l).dropWhile (blanksL.contains ·) = l.dropWhile (blanksL.contains ·) := by
  induction p with
  | nil => rfl
  | cons b r ih =>
    rw [List.cons_append, List.dropWhile_cons, if_pos (hp b (by simp)), ih fun c hc => hp c (by simp [hc])]
theorem left_blanks {p : List UInt8} (hp : ∀ b ∈ p, blanksL.contains b = true) {l : List UInt8} (hl : ∀ b, l.head? = some b → blanksL.contains b = false) : Lib.trimLeftS (p ++ l) blanksL = l :=
  (drop_blanks hp l).trans (left_same hl)
theorem right_blanks {t : List UInt8} (ht : ∀ b ∈ t, blanksL.contains b = true) {l : List UInt8} (hl : ∀ b, l.getLast? = some b → blanksL.contains b = false) : Lib.trimRightS (l ++ t) blanksL = l := by
  have h := drop_blanks (p := t.reverse) (fun b hb => ht b (List.mem_reverse.1 hb)) l.reverse
  have h2 : Lib.trimRightS l blanksL = l := right_same hl
  unfold Lib.trimRightS at h2 ⊢
  rw [List.reverse_append, h, h2]
theorem both_blanks {p t : List UInt8} (hp : ∀ b ∈ p, blanksL.contains b = true) (ht : ∀ b ∈ t, blanksL.contains b = true) {l : List UInt8} (h1 : ∀ b, l.head? = some b → blanksL.contains b = false) (h2 : ∀ b, l.getLast? = some b → blanksL.contains b = false) : Lib.trimS (p ++ l ++ t) blanksL = l := by
  rw [Lib.trimS]
  cases hl : l with
  | nil =>
    have : Lib.trimRightS (p ++ [] ++ t) blanksL = [] := by
      have h := right_blanks (t := p ++ t) (l := []) (fun b hb => (List.mem_append.1 hb).elim (hp b) (ht b)) (fun b hb => by simp at hb)
      simpa using h
    rw [this]
    rfl
  | cons c r =>
    rw [← hl]
    have hg : ∀ b, (p ++ l).getLast? = some b → blanksL.contains b = false := by
      intro b hb
      rw [suffix_last (List.suffix_append p l) (by rw [hl]; simp)] at hb
      exact h2 b hb
    rw [right_blanks ht hg, left_blanks hp h1]
/-- A name's letters: none a blank, an equals sign, or a remark's. -/
theorem name_signs {k : Nat} (hk : k < 16) : (nameL k).all (fun d => decide (97 ≤ d.toNat)) = true ∧ nameL k ≠ [] := by
  revert hk
  exact fun hk => case16 (p := fun k => (nameL k).all (fun d => decide (97 ≤ d.toNat)) = true ∧ nameL k ≠ []) (by decide) (by decide) (by decide) (by decide) (by decide) (by decide) (by decide) (by decide) (by decide) (by decide) (by decide) (by decide) (by decide) (by decide) (by decide) (by decide) k hk
theorem ahead_of {c : UInt8} {p : List UInt8} (h : p.contains c = false) (r : List UInt8) : aheadL c (p ++ c :: r) = p ∧ behindL c (p ++ c :: r) = r := by
  induction p with
  | nil => simp [aheadL, behindL]
  | cons b t ih =>
    rw [List.contains_cons] at h
    have h1 : (c == b) = false := by cases hb : (c == b) <;> simp [hb] at h ⊢
    have h2 : t.contains c = false := by rw [h1] at h; simpa using h
    have h3 : (b != c) = true := by
      have : b ≠ c := by rintro rfl; simp at h1
      simpa using this
    obtain ⟨i1, i2⟩ := ih h2
    unfold aheadL at i1 ⊢
    unfold behindL at i2 ⊢
    rw [List.cons_append, List.takeWhile_cons, List.dropWhile_cons, h3]
    simp only [if_true]
    exact ⟨by rw [i1], i2⟩
/-- What counts of a line says a name and a number. -/
theorem say_core {k u : Nat} (hk : k < 16) (hu : u < 1000000000000000) {m1 m2 : List UInt8} (h1 : ∀ b ∈ m1, blanksL.contains b = true) (h2 : ∀ b ∈ m2, blanksL.contains b = true) :
    sayT (nameL k ++ m1 ++ 61 :: (m2 ++ Lib.decDigits u)) = some (k, u) := by
  obtain ⟨ha, hne⟩ := name_signs hk
  rw [List.all_eq_true] at ha
  have hblank : ∀ b ∈ nameL k, blanksL.contains b = false := by
    intro b hb
    have h97 : 97 ≤ b.toNat := of_decide_eq_true (ha b hb)
    rw [blank_bool]
    simp
    omega
  have h61 : (nameL k ++ m1).contains 61 = false := by
    simp only [List.contains_eq_mem, List.mem_append, decide_eq_false_iff_not]
    rintro (h | h)
    · have h97 : 97 ≤ (61 : UInt8).toNat := of_decide_eq_true (ha 61 h)
      revert h97; decide
    · have := h1 61 h
      revert this; decide
  obtain ⟨e1, e2⟩ := ahead_of h61 (m2 ++ Lib.decDigits u)
  have en : nameOf (nameL k ++ m1 ++ 61 :: (m2 ++ Lib.decDigits u)) = nameL k := by
    rw [nameOf, e1]
    exact right_blanks h1 fun b hb => hblank b (List.mem_of_getLast? hb)
  have er : restOf (nameL k ++ m1 ++ 61 :: (m2 ++ Lib.decDigits u)) = Lib.decDigits u := by
    rw [restOf, e2]
    refine left_blanks h2 fun b hb => ?_
    have hd := dec_digits u b (List.mem_of_head? hb)
    have h48 : 48 ≤ b.toNat ∧ b.toNat ≤ 57 := of_decide_eq_true hd
    rw [blank_bool]
    simp
    omega
  rw [sayT, en, er, placeL_nameL hk, if_pos hk, whole_dec hu]
  rfl
end Go.Proofs.YtdeiohcciafffaaGreatDoor

/- Lines that say names, each once: what is read of them all. No condition. -/
namespace Go.Proofs.YtdeiohcciafffaaGreatDoor
open Go.RowKit Go.Shelf

/-- A whole line: blanks, what counts, blanks, and a remark behind it or nothing. -/
theorem line_said {k u : Nat} (hk : k < 16) (hu : u < 1000000000000000) {p m1 m2 t : List UInt8} (hp : ∀ b ∈ p, blanksL.contains b = true) (h1 : ∀ b ∈ m1, blanksL.contains b = true) (h2 : ∀ b ∈ m2, blanksL.contains b = true) (ht : ∀ b ∈ t, blanksL.contains b = true)
    {s : List UInt8} (hs : s = [] ∨ ∃ r, s = 35 :: r) : lineT (p ++ (nameL k ++ m1 ++ 61 :: (m2 ++ Lib.decDigits u)) ++ t ++ s) = .at_ k u := by
  obtain ⟨ha, hne⟩ := name_signs hk
  rw [List.all_eq_true] at ha
  have hcore : ∀ b ∈ nameL k ++ m1 ++ 61 :: (m2 ++ Lib.decDigits u), b ≠ 35 := by
    intro b hb
    rintro rfl
    simp only [List.mem_append, List.mem_cons] at hb
    rcases hb with (hb | hb) | hb | hb | hb
    · have h97 : 97 ≤ (35 : UInt8).toNat := of_decide_eq_true (ha 35 hb)
      revert h97; decide
    · have := h1 35 hb
      revert this; decide
    · revert hb; decide
    · have := h2 35 hb
      revert this; decide
    · have := dec_digits u 35 hb
      revert this; decide
  have hno : (p ++ (nameL k ++ m1 ++ 61 :: (m2 ++ Lib.decDigits u)) ++ t).contains 35 = false := by
    rw [List.contains_eq_mem, decide_eq_false_iff_not]
    intro h
    rw [List.mem_append, List.mem_append] at h
    rcases h with (h | h) | h
    · have := hp 35 h
      revert this; decide
    · exact hcore 35 h rfl
    · have := ht 35 h
      revert this; decide
  have hah : aheadL 35 (p ++ (nameL k ++ m1 ++ 61 :: (m2 ++ Lib.decDigits u)) ++ t ++ s) = p ++ (nameL k ++ m1 ++ 61 :: (m2 ++ Lib.decDigits u)) ++ t := by
    rcases hs with rfl | ⟨r, rfl⟩
    · rw [List.append_nil, (ahead_all hno).1]
    · exact (ahead_of hno r).1
  have hc : countT (p ++ (nameL k ++ m1 ++ 61 :: (m2 ++ Lib.decDigits u)) ++ t ++ s) = nameL k ++ m1 ++ 61 :: (m2 ++ Lib.decDigits u) := by
    rw [countT, hah]
    refine both_blanks hp ht (fun b hb => ?_) (fun b hb => ?_)
    · cases hn : nameL k with
      | nil => exact absurd hn hne
      | cons a r =>
        rw [hn] at hb
        have e : a = b := by simpa using hb
        have h97 : 97 ≤ b.toNat := of_decide_eq_true (ha b (by rw [hn, e]; simp))
        rw [blank_bool]
        simp
        omega
    · have hsuf : Lib.decDigits u <:+ nameL k ++ m1 ++ 61 :: (m2 ++ Lib.decDigits u) := ⟨nameL k ++ m1 ++ 61 :: m2, by simp⟩
      rw [suffix_last hsuf (dec_ne u)] at hb
      have hd := dec_digits u b (List.mem_of_getLast? hb)
      have h48 : 48 ≤ b.toNat ∧ b.toNat ≤ 57 := of_decide_eq_true hd
      rw [blank_bool]
      simp
      omega
  have hcn : nameL k ++ m1 ++ 61 :: (m2 ++ Lib.decDigits u) ≠ [] := by simp
  rw [lineT, hc, if_neg hcn, say_core hk hu h1 h2]
/-- What lines say, in order. -/
def saysL (ls : List (List UInt8)) : List (Nat × Nat) := ls.filterMap fun l => match lineT l with
  | .at_ k n => some (k, n)
  | _ => none
def putL (s : St8) (ps : List (Nat × Nat)) : St8 := ps.foldl (fun s p => s.put p.1 p.2) s
theorem put_other {s : St8} {k n j : Nat} (h : j ≠ k) : s.put k n j = s j := by simp [St8.put, h]
/-- No line wrong, no name said twice: all is read. -/
theorem scan_all : ∀ (ls : List (List UInt8)) (k : Nat) (s : St8), (∀ l ∈ ls, lineT l ≠ .wrong) → ((saysL ls).map (·.1)).Nodup → (∀ p ∈ saysL ls, s p.1 = none) → scanT ls k s = (0, putL s (saysL ls))
  | [], _, _, _, _, _ => rfl
  | l :: r, k, s, hw, hn, hs => by
    have hw' : ∀ l ∈ r, lineT l ≠ .wrong := fun x hx => hw x (by simp [hx])
    have hl := hw l (by simp)
    unfold scanT
    cases ho : lineT l with
    | nothing =>
      have e : saysL (l :: r) = saysL r := by simp [saysL, ho]
      rw [e] at hn hs ⊢
      exact scan_all r (k + 1) s hw' hn hs
    | wrong => exact absurd ho hl
    | at_ p n =>
      have e : saysL (l :: r) = (p, n) :: saysL r := by simp [saysL, ho]
      rw [e] at hn hs ⊢
      have h0 : s p = none := hs (p, n) (by simp)
      rw [List.map_cons, List.nodup_cons] at hn
      simp only [h0, Option.isSome_none, Bool.false_eq_true, if_false]
      exact scan_all r (k + 1) (s.put p n) hw' hn.2 fun x hx => by
        have hne : x.1 ≠ p := fun e2 => hn.1 (by rw [← e2]; exact List.mem_map.2 ⟨x, hx, rfl⟩)
        rw [put_other hne]
        exact hs x (by simp [hx])
/-- A name said a second time: its line is the wrong one. -/
theorem scan_twice : ∀ (ls : List (List UInt8)) (l : List UInt8) (q n : Nat) (rest : List (List UInt8)) (k : Nat) (s : St8), (∀ l ∈ ls, lineT l ≠ .wrong) → ((saysL ls).map (·.1)).Nodup → (∀ p ∈ saysL ls, s p.1 = none) → lineT l = .at_ q n → (putL s (saysL ls) q).isSome = true →
    (scanT (ls ++ l :: rest) k s).1 = k + ls.length
  | [], l, q, n, rest, k, s, _, _, _, hl, hq => by
    have hq' : (s q).isSome = true := hq
    rw [List.nil_append, scanT, hl]
    simp [hq']
  | x :: r, l, q, n, rest, k, s, hw, hn, hs, hl, hq => by
    have hw' : ∀ l ∈ r, lineT l ≠ .wrong := fun y hy => hw y (by simp [hy])
    have hx := hw x (by simp)
    have ek : k + 1 + r.length = k + (x :: r).length := by simp; omega
    rw [List.cons_append]
    unfold scanT
    cases ho : lineT x with
    | nothing =>
      have e : saysL (x :: r) = saysL r := by simp [saysL, ho]
      rw [e] at hn hs hq
      rw [← ek]
      exact scan_twice r l q n rest (k + 1) s hw' hn hs hl hq
    | wrong => exact absurd ho hx
    | at_ p m =>
      have e : saysL (x :: r) = (p, m) :: saysL r := by simp [saysL, ho]
      rw [e] at hn hs hq
      have h0 : s p = none := hs (p, m) (by simp)
      rw [List.map_cons, List.nodup_cons] at hn
      simp only [h0, Option.isSome_none, Bool.false_eq_true, if_false]
      rw [← ek]
      exact scan_twice r l q n rest (k + 1) (s.put p m) hw' hn.2 (fun y hy => by
        have hne : y.1 ≠ p := fun e2 => hn.1 (by rw [← e2]; exact List.mem_map.2 ⟨y, hy, rfl⟩)
        rw [put_other hne]
        exact hs y (by simp [hy])) hl hq
theorem putL_miss : ∀ (ps : List (Nat × Nat)) (s : St8) (j : Nat), j ∉ ps.map (·.1) → putL s ps j = s j
  | [], _, _, _ => rfl
  | p :: r, s, j, h => by
    rw [List.map_cons, List.mem_cons, not_or] at h
    exact (putL_miss r (s.put p.1 p.2) j h.2).trans (put_other h.1)
theorem putL_hit : ∀ (ps : List (Nat × Nat)) (s : St8) (j n : Nat), (ps.map (·.1)).Nodup → (j, n) ∈ ps → putL s ps j = some n
  | [], _, _, _, _, h => by simp at h
  | p :: r, s, j, n, hn, h => by
    rw [List.map_cons, List.nodup_cons] at hn
    rcases List.mem_cons.1 h with rfl | h
    · exact (putL_miss r _ j hn.1).trans (by simp [St8.put])
    · exact putL_hit r (s.put p.1 p.2) j n hn.2 h
end Go.Proofs.YtdeiohcciafffaaGreatDoor

/- Texts of lines that say a plan's names, in any order, with remarks between, one left out, one twice: what is read of them. No condition. -/
namespace Go.Proofs.YtdeiohcciafffaaGreatDoor
open Go.RowKit Go.Shelf

/-- A plan's numbers: 0 or more, of fifteen digits. -/
def Small (x : Pl) : Prop := ∀ k, k < 16 → 0 ≤ x.nth k ∧ x.nth k < 1000000000000000
def decN (x : Pl) (k : Nat) : List UInt8 := Lib.decDigits (x.nth k).toNat
theorem body_dec {x : Pl} (hx : Small x) {k : Nat} (hk : k < 16) : bodyL x k = nameL k ++ [32, 61, 32] ++ decN x k := by
  have h := hx k hk
  unfold bodyL Lib.itoa decN
  rw [if_neg (by omega)]
theorem dec_le {x : Pl} (hx : Small x) {k : Nat} (hk : k < 16) : (decN x k).length ≤ 15 := by
  have h := hx k hk
  exact dec_len 15 _ (by omega) (by omega)
theorem body_says {x : Pl} (hx : Small x) {k : Nat} (hk : k < 16) : lineT (bodyL x k) = .at_ k (x.nth k).toNat := by
  have hb := hx k hk
  have h := line_said hk (u := (x.nth k).toNat) (by omega) (p := []) (m1 := [32]) (m2 := [32]) (t := []) (by simp) (by decide) (by decide) (by simp) (s := []) (.inl rfl)
  rw [body_dec hx hk, decN]
  simpa using h
/-- A remark, a line with blanks and a remark, and nothing. -/
def moreL (x : Pl) (r : List UInt8) (k : Nat) : List (List UInt8) := [35 :: r, 32 :: 9 :: (nameL k ++ 61 :: (decN x k ++ 32 :: 35 :: r)), []]
theorem hash_nothing (r : List UInt8) : lineT (35 :: r) = .nothing := by
  have h : countT (35 :: r) = [] := by
    have e : aheadL 35 (35 :: r) = [] := by simp [aheadL]
    rw [countT, e]
    decide
  unfold lineT
  rw [if_pos h]
theorem none_nothing : lineT [] = .nothing := by
  have h : countT [] = [] := by decide
  unfold lineT
  rw [if_pos h]
theorem mid_says {x : Pl} (hx : Small x) (r : List UInt8) {k : Nat} (hk : k < 16) : lineT (32 :: 9 :: (nameL k ++ 61 :: (decN x k ++ 32 :: 35 :: r))) = .at_ k (x.nth k).toNat := by
  have hb := hx k hk
  have h := line_said hk (u := (x.nth k).toNat) (by omega) (p := [32, 9]) (m1 := []) (m2 := []) (t := [32]) (by decide) (by simp) (by simp) (by decide) (s := 35 :: r) (.inr ⟨r, rfl⟩)
  unfold decN
  simpa using h
theorem says_app (a b : List (List UInt8)) : saysL (a ++ b) = saysL a ++ saysL b := List.filterMap_append
abbrev toldL (x : Pl) (ks : List Nat) : List (Nat × Nat) := ks.map fun k => (k, (x.nth k).toNat)
theorem told_keys (x : Pl) (ks : List Nat) : (toldL x ks).map (·.1) = ks := by
  rw [toldL, List.map_map]
  exact List.map_id _
theorem says_bodies {x : Pl} (hx : Small x) : ∀ (ks : List Nat), (∀ k ∈ ks, k < 16) → saysL (ks.map (bodyL x)) = toldL x ks ∧ ∀ l ∈ ks.map (bodyL x), lineT l ≠ .wrong
  | [], _ => ⟨rfl, by simp⟩
  | k :: r, h => by
    obtain ⟨i1, i2⟩ := says_bodies hx r fun j hj => h j (by simp [hj])
    have hk : k < 16 := h k (by simp)
    have hb := body_says hx hk
    refine ⟨?_, ?_⟩
    · have e : saysL ((k :: r).map (bodyL x)) = (k, (x.nth k).toNat) :: saysL (r.map (bodyL x)) := by simp [saysL, hb]
      rw [e, i1]
      rfl
    · intro l hl
      rcases List.mem_cons.1 hl with rfl | hl
      · rw [hb]; simp
      · exact i2 l hl
theorem says_more {x : Pl} (hx : Small x) (rm : List UInt8) : ∀ (ks : List Nat), (∀ k ∈ ks, k < 16) → saysL (ks.flatMap (moreL x rm)) = toldL x ks ∧ ∀ l ∈ ks.flatMap (moreL x rm), lineT l ≠ .wrong
  | [], _ => ⟨rfl, by simp⟩
  | k :: r, h => by
    obtain ⟨i1, i2⟩ := says_more hx rm r fun j hj => h j (by simp [hj])
    have hk : k < 16 := h k (by simp)
    have hb := mid_says hx rm hk
    have h0 := hash_nothing rm
    rw [List.flatMap_cons]
    refine ⟨?_, ?_⟩
    · rw [says_app, i1]
      have e : saysL (moreL x rm k) = [(k, (x.nth k).toNat)] := by simp [saysL, moreL, hb, h0, none_nothing]
      rw [e]
      rfl
    · intro l hl
      rcases List.mem_append.1 hl with hl | hl
      · unfold moreL at hl
        simp only [List.mem_cons, List.not_mem_nil, or_false] at hl
        rcases hl with rfl | rfl | rfl
        · rw [h0]; simp
        · rw [hb]; simp
        · rw [none_nothing]; simp
      · exact i2 l hl

theorem join_sum : ∀ (r : List (List UInt8)), (Lib.join r [10]).length ≤ (r.map fun y => y.length + 1).sum
  | [] => by simp [Lib.join]
  | y :: r => by
    have tail : ∀ (r : List (List UInt8)), (Lib.joinTail [10] r).length = (r.map fun y => y.length + 1).sum := by
      intro r
      simp [Lib.joinTail, List.length_flatten, Function.comp_def]
    rw [Lib.join_cons, List.length_append, tail]
    simp
theorem sum_few (c : Nat) : ∀ (r : List (List UInt8)), (∀ y ∈ r, y.length ≤ c) → (r.map fun y => y.length + 1).sum ≤ (c + 1) * r.length
  | [], _ => by simp
  | y :: r, h => by
    have ih := sum_few c r fun z hz => h z (by simp [hz])
    have h1 := h y (by simp)
    simp only [List.map_cons, List.sum_cons, List.length_cons, Nat.mul_add, Nat.mul_one]
    omega
theorem join_few {c : Nat} {r : List (List UInt8)} (h : ∀ y ∈ r, y.length ≤ c) : (Lib.join r [10]).length ≤ (c + 1) * r.length := Nat.le_trans (join_sum r) (sum_few c r h)

theorem read_lines {L : List (List UInt8)} (h0 : L ≠ []) (hno : ∀ y ∈ L, y.contains 10 = false) : linesT (Lib.join L [10]) = L := by
  cases L with
  | nil => exact absurd rfl h0
  | cons y r => exact lines_join y r hno
theorem planL_self (x : Pl) : planL (fun k => x.nth k) = x := by cases x; rfl
theorem planL_same {f g : Nat → Int} (h : ∀ k, k < 16 → f k = g k) : planL f = planL g := by
  unfold planL
  rw [h 0 (by omega), h 1 (by omega), h 2 (by omega), h 3 (by omega), h 4 (by omega), h 5 (by omega), h 6 (by omega), h 7 (by omega), h 8 (by omega), h 9 (by omega), h 10 (by omega), h 11 (by omega), h 12 (by omega), h 13 (by omega), h 14 (by omega), h 15 (by omega)]

section
variable {x : Pl} {π : List Nat}

/-- All sixteen said, each once. -/
theorem read_all (hx : Small x) (hp : π.Perm (List.range 16)) {L : List (List UInt8)} (h0 : L ≠ []) (hno : ∀ y ∈ L, y.contains 10 = false) (hl : (Lib.join L [10]).length ≤ 4000)
    (hs : saysL L = toldL x π) (hw : ∀ l ∈ L, lineT l ≠ .wrong) : errT (Lib.join L [10]) = false ∧ planT (Lib.join L [10]) = x ∧ lineNo (Lib.join L [10]) = 0 := by
  have hnd : π.Nodup := hp.nodup_iff.2 List.nodup_range
  have hsc := scan_all L 1 St8.start hw (by rw [hs, told_keys]; exact hnd) (fun _ _ => rfl)
  rw [hs] at hsc
  have hit : ∀ k, k < 16 → putL St8.start (toldL x π) k = some (x.nth k).toNat := by
    intro k hk
    refine putL_hit _ _ _ _ (by rw [told_keys]; exact hnd) ?_
    exact List.mem_map.2 ⟨k, hp.mem_iff.2 (List.mem_range.2 hk), rfl⟩
  have hc : (putL St8.start (toldL x π)).count = 16 := by
    unfold St8.count
    rw [List.filter_eq_self.2 (fun k hk => by rw [hit k (List.mem_range.1 hk)]; rfl)]
    simp
  have he : errT (Lib.join L [10]) = false := by
    unfold errT
    rw [read_lines h0 hno, hsc, hc, decide_eq_false (by omega)]
    rfl
  refine ⟨he, ?_, ?_⟩
  · unfold planT
    rw [he, if_neg (by simp), read_lines h0 hno, hsc]
    unfold St8.plan
    refine (planL_same (g := fun k => x.nth k) fun k hk => ?_).trans (planL_self x)
    show (((putL St8.start (toldL x π) k).getD 0 : Nat) : Int) = x.nth k
    rw [hit k hk]
    have := hx k hk
    simp
    omega
  · unfold lineNo
    rw [if_neg (by omega), read_lines h0 hno, hsc]
/-- One left out. -/
theorem read_less (hnd : π.Nodup) {j : Nat} (hj : j < 16) (hnot : j ∉ π) {L : List (List UInt8)} (h0 : L ≠ []) (hno : ∀ y ∈ L, y.contains 10 = false) (hl : (Lib.join L [10]).length ≤ 4000)
    (hs : saysL L = toldL x π) (hw : ∀ l ∈ L, lineT l ≠ .wrong) : errT (Lib.join L [10]) = true ∧ lineNo (Lib.join L [10]) = 0 := by
  have hsc := scan_all L 1 St8.start hw (by rw [hs, told_keys]; exact hnd) (fun _ _ => rfl)
  rw [hs] at hsc
  have hc : (putL St8.start (toldL x π)).count ≠ 16 := by
    intro h
    have h1 := count_all h j hj
    rw [putL_miss _ _ _ (by rw [told_keys]; exact hnot)] at h1
    exact absurd h1 (by simp [St8.start])
  refine ⟨?_, ?_⟩
  · unfold errT
    rw [read_lines h0 hno, hsc, decide_eq_true hc, Bool.or_true]
  · unfold lineNo
    rw [if_neg (by omega), read_lines h0 hno, hsc]
/-- One said twice, behind all. -/
theorem read_twice (hx : Small x) (hp : π.Perm (List.range 16)) {q : Nat} (hq : q < 16) (hl : (Lib.join (π.map (bodyL x) ++ [[], bodyL x q]) [10]).length ≤ 4000) :
    errT (Lib.join (π.map (bodyL x) ++ [[], bodyL x q]) [10]) = true ∧ lineNo (Lib.join (π.map (bodyL x) ++ [[], bodyL x q]) [10]) = 18 := by
  have hnd : π.Nodup := hp.nodup_iff.2 List.nodup_range
  have hlt : ∀ k ∈ π, k < 16 := fun k hk => List.mem_range.1 (hp.mem_iff.1 hk)
  obtain ⟨s1, s2⟩ := says_bodies hx π hlt
  have hno : ∀ y ∈ π.map (bodyL x) ++ [[], bodyL x q], y.contains 10 = false := by
    intro y hy
    rcases List.mem_append.1 hy with hy | hy
    · obtain ⟨k, hk, rfl⟩ := List.mem_map.1 hy
      exact body_no x (hlt k hk)
    · simp only [List.mem_cons, List.not_mem_nil, or_false] at hy
      rcases hy with rfl | rfl
      · rfl
      · exact body_no x hq
  have hsay : saysL (π.map (bodyL x) ++ [[]]) = toldL x π := by
    rw [says_app, s1]
    have e : saysL [([] : List UInt8)] = [] := by simp [saysL, none_nothing]
    rw [e, List.append_nil]
  have hw : ∀ l ∈ π.map (bodyL x) ++ [[]], lineT l ≠ .wrong := by
    intro l hl
    rcases List.mem_append.1 hl with hl | hl
    · exact s2 l hl
    · rw [List.mem_singleton.1 hl, none_nothing]; simp
  have h := scan_twice (π.map (bodyL x) ++ [[]]) (bodyL x q) q (x.nth q).toNat [] 1 St8.start hw (by rw [hsay, told_keys]; exact hnd) (fun _ _ => rfl) (body_says hx hq) (by
    rw [hsay, putL_hit _ _ q (x.nth q).toNat (by rw [told_keys]; exact hnd) (List.mem_map.2 ⟨q, hp.mem_iff.2 (List.mem_range.2 hq), rfl⟩)]
    rfl)
  have e : π.map (bodyL x) ++ [[]] ++ [bodyL x q] = π.map (bodyL x) ++ [[], bodyL x q] := by simp
  have hlen : π.length = 16 := by rw [hp.length_eq]; simp
  rw [e] at h
  have h18 : (scanT (π.map (bodyL x) ++ [[], bodyL x q]) 1 St8.start).1 = 18 := by rw [h]; simp [hlen]
  have hr := read_lines (L := π.map (bodyL x) ++ [[], bodyL x q]) (by simp) hno
  refine ⟨?_, ?_⟩
  · unfold errT
    rw [hr, h18]
    simp
  · unfold lineNo
    rw [if_neg (by omega), hr, h18]

/-- A line left out of lines in any order: they say all but one. -/
theorem less_keys (hnd : π.Nodup) {k : Nat} (hk : k < π.length) : (π.take k ++ π.drop (k + 1)).Nodup ∧ π[k] ∉ π.take k ++ π.drop (k + 1) := by
  have e : π.take k ++ π[k] :: π.drop (k + 1) = π := by rw [← List.drop_eq_getElem_cons hk, List.take_append_drop]
  have h : (π[k] :: (π.take k ++ π.drop (k + 1))).Nodup := (List.perm_middle.nodup_iff).1 (e.symm ▸ hnd)
  rw [List.nodup_cons] at h
  exact ⟨h.2, h.1⟩
end

/-- What is shown, less its last line feed. -/
theorem join_snoc : ∀ (a : List (List UInt8)) (_ : a ≠ []) (x : List UInt8), Lib.join (a ++ [x]) [10] = Lib.join a [10] ++ 10 :: x := by
  intro a h x
  cases a with
  | nil => exact absurd rfl h
  | cons y r =>
    rw [List.cons_append, Lib.join_cons, Lib.join_cons]
    simp [Lib.joinTail]
abbrev bodies (x : Pl) : List (List UInt8) := (List.range 16).map (bodyL x)
theorem shown_join (x : Pl) : shownL x = Lib.join (bodies x) [10] ++ [10] := by
  have h := join_lines (shownL x)
  rw [shown_lines, join_snoc _ (by simp)] at h
  exact h.symm
theorem bodies_lines (x : Pl) : linesT (Lib.join (bodies x) [10]) = bodies x := read_lines (by simp) fun y hy => by
  obtain ⟨k, hk, rfl⟩ := List.mem_map.1 hy
  exact body_no x (List.mem_range.1 hk)
/-- A line, cut at an equals sign between blanks. -/
theorem cut_at {p : List UInt8} (h : p.contains 32 = false) (r : List UInt8) : Lib.cut (p ++ [32, 61, 32] ++ r) [32, 61, 32] = (p, r, true) := by
  have hi : Lib.index (p ++ [32, 61, 32] ++ r) [32, 61, 32] = p.length := by
    refine Lib.index_first (by simp) ?_ ?_
    · simp [Lib.occAt]
    · intro j hj
      have hc : p[j] ≠ 32 := by
        intro e
        rw [List.contains_eq_mem, decide_eq_false_iff_not] at h
        exact h (e ▸ List.getElem_mem hj)
      have hd : (p ++ [32, 61, 32] ++ r).drop j = p[j] :: (p.drop (j + 1) ++ [32, 61, 32] ++ r) := by
        rw [List.append_assoc, List.drop_append_of_le_length (by omega), List.drop_eq_getElem_cons hj, List.cons_append, List.append_assoc]
      unfold Lib.occAt
      rw [hd, List.isPrefixOf, beq_eq_false_iff_ne.2 (Ne.symm hc), Bool.false_and]
  unfold Lib.cut
  rw [hi, if_pos (by omega)]
  simp
theorem name_no32 {k : Nat} (hk : k < 16) : (nameL k).contains 32 = false := by
  revert hk
  exact fun hk => case16 (p := fun k => (nameL k).contains 32 = false) (by decide) (by decide) (by decide) (by decide) (by decide) (by decide) (by decide) (by decide) (by decide) (by decide) (by decide) (by decide) (by decide) (by decide) (by decide) (by decide) k hk
theorem body_cut {x : Pl} (hx : Small x) {k : Nat} (hk : k < 16) : Lib.cut (bodyL x k) [32, 61, 32] = (nameL k, decN x k, true) := by
  rw [body_dec hx hk]
  exact cut_at (name_no32 hk) _
end Go.Proofs.YtdeiohcciafffaaGreatDoor
