/- The events of AgendaNames, and what they come to. No condition. -/
import Derived.Test.YtchfponnajednaaALOrdD
import Derived.Test.YtchfponnajednaaANilC
namespace Go.Proofs.Ytchfponnajednaa
open Go.RowKit Go.Shelf

def badL : List Ev := [⟨-1, 0, 0, 0, 0⟩, ⟨4294967297, 0, 0, 0, 0⟩, ⟨0, -1, 0, 0, 0⟩, ⟨0, 0, -1, 0, 0⟩, ⟨0, 0, 0, -1, 0⟩]
def goodL : List Ev := [⟨4294967296, 0, 0, 0, 9⟩, ⟨2, 1, 0, 0, 8⟩, ⟨2, 0, 1, 0, 6⟩, ⟨2, 0, 0, 1, 5⟩, ⟨2, 0, 0, 0, 3⟩, ⟨2, 0, 0, 0, 4⟩, ⟨2, 0, 1, 3, 7⟩, ⟨0, 0, 0, 0, 2⟩]
theorem bad_no : ∀ k, k < 5 → okB (badL.getD k default) = false := by decide
theorem good_yes : ∀ k, k < 8 → okB (goodL.getD k default) = true := by decide
def fullL : List En := [⟨⟨0, 0, 0, 0, 2⟩, 7⟩, ⟨⟨2, 0, 0, 0, 3⟩, 4⟩, ⟨⟨2, 0, 0, 0, 4⟩, 5⟩, ⟨⟨2, 0, 0, 1, 5⟩, 3⟩, ⟨⟨2, 0, 1, 0, 6⟩, 2⟩, ⟨⟨2, 0, 1, 3, 7⟩, 6⟩, ⟨⟨2, 1, 0, 0, 8⟩, 1⟩, ⟨⟨4294967296, 0, 0, 0, 9⟩, 0⟩]
theorem fill_good : fillL goodL = fullL := by decide +kernel
theorem fill_goodN : fillN goodL = 8 := by decide +kernel
theorem full_v : ∀ k, k < 8 → ((fullL.map En.e).getD k default).v = (k : Int) + 2 := by decide
def lessL : List En := [⟨⟨0, 0, 0, 0, 2⟩, 7⟩, ⟨⟨2, 0, 0, 0, 3⟩, 4⟩, ⟨⟨2, 0, 0, 0, 4⟩, 5⟩, ⟨⟨2, 0, 0, 1, 5⟩, 3⟩, ⟨⟨2, 1, 0, 0, 8⟩, 1⟩, ⟨⟨4294967296, 0, 0, 0, 9⟩, 0⟩]
theorem drop_one : fullL.filter (keepB 0 1) = lessL := by decide
theorem drop_two : lessL.filter (keepB 7 7) = lessL := by decide
def lastL : List En := [⟨⟨4294967296, 0, 0, 0, 9⟩, 0⟩]
theorem upto_two : UpTo 2 lessL 5 := ⟨by decide, by decide, fun _ => by decide⟩
theorem drop_five : lessL.drop 5 = lastL := rfl
theorem upto_none : UpTo 2 lastL 0 := ⟨by decide, by decide, fun _ => by decide⟩
theorem put_k {k : Nat} {L : List En} (hk : k < 65536) (hl : L.length = k) : putB L ⟨(k : Int), 0, 0, 0, 0⟩ = true := by
  have h1 : okB ⟨(k : Int), 0, 0, 0, 0⟩ = true := decide_eq_true ⟨by show (0 : Int) ≤ (k : Int); omega, by show (k : Int) ≤ 4294967296; omega, Int.le_refl _, Int.le_refl _, Int.le_refl _⟩
  unfold putB
  rw [h1, Bool.true_and, decide_eq_true_eq]
  omega
theorem put_z {L : List En} (hl : L.length < 65536) : putB L zeroEv = true := by
  have h1 : okB zeroEv = true := by decide
  unfold putB
  rw [h1, Bool.true_and, decide_eq_true_eq]
  omega
section
variable {w0 W W' : World} {a nx b ny : Nat} {L M : List En} {Q : World → Prop} {A : Option Addr} {n c : Nat} {es : List Ev}
theorem drop_h2 {kind node : Int} (h : HoldQ (fun F V => Ag2 F a nx L b ny M V) w0 Q W) (hl : L.length ≤ 1000000) :
    Calls Try.prog 19 #[.pointer (some ⟨a, 0, none⟩), .int .i64 kind, .int .i64 node] W fun e W' => e = .returned (.int .i64 ((L.length : Int) - ((L.filter (keepB kind node)).length : Int))) ∧ HoldQ (fun F V => Ag2 F a nx (L.filter (keepB kind node)) b ny M V) w0 Q W' :=
  h.op fun _ hB hG => hG.step hB fun _ hB' hG' => drop_f hG' hB' hl
theorem len_h (h : HoldQ (fun F V => AgF F a nx L V) w0 Q W) : Calls Try.prog 14 #[.pointer (some ⟨a, 0, none⟩)] W fun e W' => e = .returned (.int .i64 (L.length : Int)) ∧ Below W.heap.size W W' := by
  obtain ⟨F, h, _⟩ := h
  exact len_f h
theorem first_h (h : HoldQ (fun F V => AgF F a nx L V) w0 Q W) : Calls Try.prog 11 #[.pointer (some ⟨a, 0, none⟩)] W fun e W' => e = .returned (headOf L) ∧ Below W.heap.size W W' := by
  obtain ⟨F, h, _⟩ := h
  exact first_f h
theorem take_h (h : HoldQ (fun F V => AgF F a nx L V) w0 Q W) (hl : L.length ≤ 1000000) :
    Calls Try.prog 17 #[.pointer (some ⟨a, 0, none⟩)] W fun e W' => e = .returned (headOf L) ∧ HoldQ (fun F V => AgF F a nx L.tail V) w0 Q W' :=
  h.op fun _ hB hG => take_f hG hB hl
theorem put_h {x : Ev} (h : HoldQ (fun F V => AgF F a nx L V) w0 Q W) (hnx : nx < 1000000000) :
    Calls Try.prog 16 #[.pointer (some ⟨a, 0, none⟩), evV x] W fun e W' => e = .returned (.int .i64 (putE L x)) ∧ HoldQ (fun F V => AgF F a (putN nx L x) (putL nx L x) V) w0 Q W' :=
  h.op fun _ hB hG => put_f hG hB hnx
theorem HoldQ.lit {St : (Nat → Prop) → World → Prop} (hS : IsSt St) (h : HoldQ St w0 Q W) (cs : Array Value) (n : Nat) (es : List Ev) (he : cs.toList = flatV es) (hn : cs.size = n * 5) (hm : n ≤ 1000000) :
    HoldR St w0 Q (some ⟨W.heap.size, 0, none⟩) n n es (W.alloc (.cells cs 36)) :=
  h.row hS ((Below.refl _ _).alloc (Nat.le_refl _) _) (by
    have := World.ownsRow_lit (base := 0) (e := 36) (size := 5) W cs n (Nat.zero_le _) (by simp only [maxLen]; omega) hn
    rw [he] at this
    exact this) (fun k hk => by obtain ⟨ad, e, rfl⟩ := hk; injection e with e; subst e; exact Nat.le_refl _)
theorem HoldQ.start (w : World) : HoldQ (fun F V => AgF F w.heap.size 0 [] V) w (fun _ => True) (newAg w) := (show AgQ w w.heap.size 0 [] (fun _ => True) (newAg w) from AgQ.start w)
end
end Go.Proofs.Ytchfponnajednaa
