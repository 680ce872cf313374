/- A bus as a plan, sendings and two times; what its calls make of it, and answer. Plain; no condition. -/
import Derived.Test.YtmplidgafdobkaaUMem
import Derived.Test.YtmplidgafdobkaaLCode
namespace Go.Proofs.Ytmplidgafdobkaa
open Go.RowKit

/-- A sending as the program keeps it: a sender, a time, bytes, the fates of both channels (no bytes and no fates, where it did not pass). -/
structure Sd where
  f : Int
  t : Int
  raw : List UInt8
  l0 : List Fa
  l1 : List Fa
instance : Inhabited Sd := ⟨⟨0, 0, [], [], []⟩⟩
/-- A log: a plan, sendings, when the last one came, and from when on one passes. -/
structure Lg where
  p : Pl
  L : List Sd
  last : Int
  opens : Int

def hasB (g : Lg) (n : Int) : Bool := decide (0 ≤ n) && decide (n < g.p.nodes)
def comeB (g : Lg) (t : Int) : Bool := decide (g.last ≤ t) && decide (t ≤ 4294967296)
def passB (g : Lg) (t : Int) : Bool := decide (g.opens ≤ t)
def fateB (p : Pl) (f : Fa) : Bool := decide (p.dmin ≤ f.d) && decide (f.d ≤ p.dmax)
def fatesB (p : Pl) (l : List Fa) : Bool := decide ((l.length : Int) ≤ 2 * p.nodes) && l.all (fateB p)
def okB (g : Lg) (f t : Int) (fa : List Fa) : Bool := hasB g f && comeB g t && fatesB g.p fa

/-- The fate of a frame on channel c at node n. -/
def fateL (p : Pl) (told : List Fa) (f : Int) (c n : Nat) : Fa :=
  ⟨(told.getD (c * p.nodes.toNat + n) ⟨p.dmin, false, false⟩).d, (told.getD (c * p.nodes.toNat + n) ⟨p.dmin, false, false⟩).lost || decide ((n : Int) = f), (told.getD (c * p.nodes.toNat + n) ⟨p.dmin, false, false⟩).cut⟩
def spreadL (p : Pl) (told : List Fa) (f : Int) (c : Nat) : List Fa := (List.range p.nodes.toNat).map (fateL p told f c)
/-- The sending that is kept. -/
def keptS (g : Lg) (f t : Int) (raw : List UInt8) (fa : List Fa) : Sd := if passB g t then ⟨f, t, raw, spreadL g.p fa f 0, spreadL g.p fa f 1⟩ else ⟨f, t, [], [], []⟩
def addG (g : Lg) (s : Sd) (passed : Bool) : Lg := ⟨g.p, g.L ++ [s], s.t, if passed then s.t + g.p.slot / 2 else g.opens⟩
def sendG (g : Lg) (f t : Int) (raw : List UInt8) (fa : List Fa) : Lg := if okB g f t fa then addG g (keptS g f t raw fa) (passB g t) else g
/-- What Send answers. -/
def sendV (g : Lg) (f t : Int) (fa : List Fa) : Value := if okB g f t fa then .tuple #[.int .i64 (g.L.length : Int), .bool (passB g t), .int .i64 0] else .tuple #[.int .i64 0, .bool false, .int .i64 120]

def idB (g : Lg) (id : Int) : Bool := decide (0 ≤ id) && decide (id < (g.L.length : Int))
def sdG (g : Lg) (id : Int) : Sd := g.L.getD id.toNat default
/-- Where a frame is there, of the first k nodes of channel c. -/
def dueTo (c t : Int) (l : List Fa) (k : Nat) : List Du := (List.range k).filterMap fun i => if (l.getD i default).lost then none else some ⟨(i : Int), c, t + (l.getD i default).d⟩
def dueS (p : Pl) (s : Sd) : List Du := dueTo 0 (s.t + p.air) s.l0 s.l0.length ++ dueTo 1 (s.t + p.air) s.l1 s.l1.length
def dueG (g : Lg) (id : Int) : List Du := if idB g id then dueS g.p (sdG g id) else []

def Sd.ch (s : Sd) (c : Int) : List Fa := if c = 0 then s.l0 else s.l1
/-- Is there such a node, on such a channel, in a sending's fates? -/
def inS (s : Sd) (n c : Int) : Bool := !(decide (c < 0) || decide (2 ≤ c) || decide (n < 0) || decide (((s.ch c).length : Int) ≤ n))
def faS (s : Sd) (n c : Int) : Fa := if inS s n c then (s.ch c).getD n.toNat default else default
def thereS (s : Sd) (n c : Int) : Bool := inS s n c && !(faS s n c).lost
/-- Does a node send while a frame is there that began then? -/
def sendsG (g : Lg) (n b : Int) : Bool := g.L.any fun s => decide (s.f = n) && (decide (b - g.p.air + 1 ≤ s.t) && decide (s.t ≤ b + g.p.air - 1))
def heardS (s : Sd) (cut : Bool) : List UInt8 := if cut then s.raw.take (s.raw.length - 1) else s.raw
def isG (g : Lg) (id n c : Int) : Bool := idB g id && (thereS (sdG g id) n c && !sendsG g n ((sdG g id).t + (faS (sdG g id) n c).d))
def freeG (g : Lg) (t : Int) : Bool := comeB g t && passB g t

/-- What is so of each bus that was made. -/
structure OkG (g : Lg) : Prop where
  plan : failsL g.p 11 = 0
  last : 0 ≤ g.last ∧ g.last ≤ 4294967296
  opens : 0 ≤ g.opens ∧ g.opens ≤ 4300000000
  order : g.L.Pairwise (fun a b => a.t ≤ b.t)
  up : ∀ s ∈ g.L, 0 ≤ s.t ∧ s.t ≤ g.last
  fates : ∀ s ∈ g.L, ∀ c, ∀ f ∈ s.ch c, g.p.dmin ≤ f.d ∧ f.d ≤ g.p.dmax
  long : ∀ s ∈ g.L, ∀ c, s.ch c = [] ∨ ((s.ch c).length : Int) = g.p.nodes
  raws : ∀ s ∈ g.L, s.raw.length ≤ 1000000

/-- A plan's bounds. -/
structure PlanU (p : Pl) : Prop where
  n1 : 4 ≤ p.nodes
  n2 : p.nodes ≤ 16
  a1 : 1 ≤ p.air
  a2 : p.air ≤ 1048576
  d1 : 0 ≤ p.dmin
  d2 : p.dmin ≤ p.dmax
  d3 : p.dmax ≤ 1048576
  s1 : 2 * (p.dmax + p.air) + 8 ≤ p.slot
  s2 : p.slot ≤ 1048576
theorem planU_of {p : Pl} (h : failsL p 11 = 0) : PlanU p := by
  have T := tick_fails (by omega) (Nat.le_refl 11) h
  have hh := failsL_first p (last := 11) (by omega)
  rw [h] at hh
  rcases hh with ⟨_, k⟩ | ⟨k, _⟩
  · have k4 : 2 * (aL p + gL p) + eL p ≤ p.pi ∧ p.pi ≤ 1048576 := k 4 (by omega) (by omega)
    have k5 : p.pi + eL p ≤ p.window ∧ p.window ≤ 1048576 := k 5 (by omega) (by omega)
    have k6 : aL p + 2 * gL p + 2 * eL p ≤ p.cap ∧ p.cap ≤ 1048576 := k 6 (by omega) (by omega)
    have k7 : p.window + p.cap + p.pi ≤ p.sendOff ∧ p.sendOff ≤ 1048576 := k 7 (by omega) (by omega)
    have k8 : p.sendOff + p.window + 2 * (p.dmax + p.air) + p.cap + p.pi + 8 ≤ p.slot := k 8 (by omega) (by omega)
    have hb := num_bounds T
    have ha : aL p = 2 * (eL p + gL p) := rfl
    exact ⟨T.n1, T.n2, T.a1, T.a2, T.d1, T.d2, T.d3, by omega, T.s2⟩
  · omega

/-- A sending, and where its bytes and fates lie. -/
structure SdA where
  rw : Sl
  f0 : Sl
  f1 : Sl
  s : Sd
instance : Inhabited SdA := ⟨⟨nilS, nilS, nilS, default⟩⟩
def sdC (a : SdA) : List Value := [.int .i64 a.s.f, .int .i64 a.s.t, a.rw.v, a.f0.v, a.f1.v]
structure SdAt (w : World) (a : SdA) : Prop where
  raw : RSrc u8C 1 w a.rw a.s.raw
  r0 : RSrc faC 3 w a.f0 a.s.l0
  r1 : RSrc faC 3 w a.f1 a.s.l1
/-- None of a sending's blocks are S's. -/
def SlOff (S : Nat → Prop) (s : Sl) : Prop := ∀ ad, s.A = some ad → 0 < s.n → ¬ S ad.block
def SdOff (S : Nat → Prop) (a : SdA) : Prop := SlOff S a.rw ∧ SlOff S a.f0 ∧ SlOff S a.f1
theorem SdAt.kept {w w' : World} {a : SdA} {S : Nat → Prop} (h : SdAt w a) (hk : Kept S w w') (ho : SdOff S a) : SdAt w' a := ⟨h.raw.kept hk ho.1, h.r0.kept hk ho.2.1, h.r1.kept hk ho.2.2⟩
theorem SdAt.later {w w' : World} {a : SdA} (h : SdAt w a) (hb : Below w.heap.size w w') : SdAt w' a := ⟨h.raw.later hb, h.r0.later hb, h.r1.later hb⟩
/-- A log's cells. -/
def lgC (p : Pl) (v : Value) (last opens : Int) : Array Value := #[.int .i64 p.nodes, .int .i64 p.kk, .int .i64 p.slot, .int .i64 p.sendOff, .int .i64 p.window, .int .i64 p.air, .int .i64 p.dmin, .int .i64 p.dmax,
  .int .i64 p.rho, .int .i64 p.pi, .int .i64 p.cap, .int .i64 p.delta, .int .i64 p.queue, .int .i64 p.burst, .int .i64 p.payload, .int .i64 p.horizon, v, .int .i64 last, .int .i64 opens]

/-- Block b is a bus: its log at block l, with these sendings in the row v; S are the blocks that a sending may turn. -/
structure BusAt (w : World) (S : Nat → Prop) (b l : Nat) (v : Value) (As : List SdA) (g : Lg) : Prop where
  bus : Whole w b 60 #[.pointer (some ⟨l, 0, none⟩)]
  log : Whole w l 72 (lgC g.p v g.last g.opens)
  row : w.ownsRow 0 78 5 v As.length (As.flatMap sdC)
  sds : As.map (·.s) = g.L
  src : ∀ a ∈ As, SdAt w a ∧ SdOff S a
  sb : ¬ S b
  sl : S l
  sv : ∀ k, v.ownBlock = some k → S k
  sS : ∀ k, S k → k < w.heap.size
theorem BusAt.kept {w w' : World} {S T : Nat → Prop} {b l : Nat} {v : Value} {As : List SdA} {g : Lg} (h : BusAt w S b l v As g) (hk : Kept T w w') (hb : ¬ T b) (hS : ∀ k, S k → ¬ T k) (ha : ∀ a ∈ As, SdOff T a) : BusAt w' S b l v As g :=
  ⟨h.bus.kept hk hb, h.log.kept hk (hS _ h.sl), own_kept h.row hk (fun k e => hS k (h.sv k e)), h.sds, fun a i => ⟨(h.src a i).1.kept hk (ha a i), (h.src a i).2⟩, h.sb, h.sl, h.sv, fun k e => Nat.lt_of_lt_of_le (h.sS k e) hk.size⟩
theorem BusAt.later {w w' : World} {S : Nat → Prop} {b l : Nat} {v : Value} {As : List SdA} {g : Lg} (h : BusAt w S b l v As g) (hb : Below w.heap.size w w') : BusAt w' S b l v As g :=
  h.kept (Kept.of_below hb Empty) (fun e => e) (fun _ _ e => e) (fun _ _ => ⟨fun _ _ _ e => e, fun _ _ _ e => e, fun _ _ _ e => e⟩)
/-- A log's cells, one by one. -/
theorem log_cells {w : World} {l : Nat} {t : TypeId} {p : Pl} {v : Value} {last opens : Int} (h : Whole w l t (lgC p v last opens)) :
    (w.cell? ⟨l, 0, none⟩ = some (.int .i64 p.nodes) ∧ w.cell? ⟨l, 2, none⟩ = some (.int .i64 p.slot) ∧ w.cell? ⟨l, 5, none⟩ = some (.int .i64 p.air) ∧ w.cell? ⟨l, 6, none⟩ = some (.int .i64 p.dmin) ∧ w.cell? ⟨l, 7, none⟩ = some (.int .i64 p.dmax)) ∧
    (w.cell? ⟨l, 16, none⟩ = some v ∧ w.cell? ⟨l, 17, none⟩ = some (.int .i64 last) ∧ w.cell? ⟨l, 18, none⟩ = some (.int .i64 opens)) ∧ ∀ i, w.frozen? ⟨l, i, none⟩ = false :=
  ⟨⟨h.cell 0, h.cell 2, h.cell 5, h.cell 6, h.cell 7⟩, ⟨h.cell 16, h.cell 17, h.cell 18⟩, h.frozen⟩
end Go.Proofs.Ytmplidgafdobkaa
