/-
  A packet in memory, and as bytes; what is told of bytes as a packet.
-/
import Derived.Test.YtcflaklnafggmaaVat
import Derived.Test.YtcflaklnafggmaaDat
import Derived.Test.YtcflaklnafggmaaRep
import Derived.Test.YtcflaklnafggmaaSea
namespace Go.Proofs.Ytcflaklnafggmaa
open Go.RowKit Go.Deep

/-- A packet: its Kind; Data (Seq, Stamp, Frame, Symbol, a Body of n bytes x); Report (Top, Lost, Got, Burst, Jitter); Frame; Need. -/
structure Pk where
  k : Int
  s : Nat
  t : Nat
  f : Nat
  y : Nat
  n : Nat
  x : Nat → Nat
  T : Nat
  l : Nat
  g : Nat
  u : Nat
  j : Nat
  F : Nat
  d : Nat
/-- Its cells, the Body at r, with room for c. -/
def Pk.vals (p : Pk) (r : Option Addr) (c : Nat) : Nat → Value
  | 0 => .int .i64 p.k
  | 1 => .int .u16 (p.s : Int)
  | 2 => .int .u16 (p.t : Int)
  | 3 => .int .u32 (p.f : Int)
  | 4 => .int .u16 (p.y : Int)
  | 5 => .slice r p.n c
  | 6 => .int .u64 (p.T : Int)
  | 7 => .int .u32 (p.l : Int)
  | 8 => .int .u32 (p.g : Int)
  | 9 => .int .u16 (p.u : Int)
  | 10 => .int .u16 (p.j : Int)
  | 11 => .int .u32 (p.F : Int)
  | _ => .int .u16 (p.d : Int)
theorem Pk.noByte (p : Pk) (r : Option Addr) (c : Nat) : ∀ i, i < 13 → notByte (p.vals r c i) := by
  intro i hi z
  match i, hi with
  | 0, _ => exact fun e => nomatch e
  | 1, _ => exact fun e => nomatch e
  | 2, _ => exact fun e => nomatch e
  | 3, _ => exact fun e => nomatch e
  | 4, _ => exact fun e => nomatch e
  | 5, _ => exact fun e => nomatch e
  | 6, _ => exact fun e => nomatch e
  | 7, _ => exact fun e => nomatch e
  | 8, _ => exact fun e => nomatch e
  | 9, _ => exact fun e => nomatch e
  | 10, _ => exact fun e => nomatch e
  | 11, _ => exact fun e => nomatch e
  | 12, _ => exact fun e => nomatch e
def PkAt (w : World) (B : Nat) (p : Pk) (r : Option Addr) (c : Nat) : Prop := VAt w B 13 (p.vals r c)
theorem PkAt.vat {w : World} {B : Nat} {p : Pk} {r : Option Addr} {c : Nat} (h : PkAt w B p r c) : VAt w B 13 (p.vals r c) := h
theorem PkAt.cell {w : World} {B : Nat} {p : Pk} {r : Option Addr} {c : Nat} (h : PkAt w B p r c) (i : Nat) (hi : i < 13) : w.cell? ⟨B, i, none⟩ = some (p.vals r c i) := VAt.cell h i hi
theorem PkAt.frz {w : World} {B : Nat} {p : Pk} {r : Option Addr} {c : Nat} (h : PkAt w B p r c) (i : Nat) : w.frozen? ⟨B, i, none⟩ = false := VAt.frz h i
theorem PkAt.lt {w : World} {B : Nat} {p : Pk} {r : Option Addr} {c : Nat} (h : PkAt w B p r c) : B < w.heap.size := VAt.lt h (by decide)
theorem PkAt.grew {w w' : World} {B : Nat} {p : Pk} {r : Option Addr} {c : Nat} (h : PkAt w B p r c) (hb : Below w.heap.size w w') : PkAt w' B p r c := VAt.grew h hb
theorem PkAt.other {w : World} {B R i : Nat} {p : Pk} {r : Option Addr} {c : Nat} (h : PkAt w B p r c) (v : Value) (hne : R ≠ B) : PkAt (w.setCell ⟨R, i, none⟩ v) B p r c := VAt.other h v hne
theorem PkAt.made (w : World) (U : TypeId) (p : Pk) (r : Option Addr) (c : Nat) : PkAt (w.alloc (.cells #[.int .i64 p.k, .int .u16 (p.s : Int), .int .u16 (p.t : Int), .int .u32 (p.f : Int), .int .u16 (p.y : Int), .slice r p.n c, .int .u64 (p.T : Int), .int .u32 (p.l : Int), .int .u32 (p.g : Int), .int .u16 (p.u : Int), .int .u16 (p.j : Int), .int .u32 (p.F : Int), .int .u16 (p.d : Int)] U)) w.heap.size p r c :=
  VAt.made fun i hi => match i, hi with
  | 0, _ => rfl
  | 1, _ => rfl
  | 2, _ => rfl
  | 3, _ => rfl
  | 4, _ => rfl
  | 5, _ => rfl
  | 6, _ => rfl
  | 7, _ => rfl
  | 8, _ => rfl
  | 9, _ => rfl
  | 10, _ => rfl
  | 11, _ => rfl
  | 12, _ => rfl
/-- A run of its cells is written. -/
theorem PkAt.run {w : World} {B : Nat} {p q : Pk} {r r' : Option Addr} {c c' : Nat} (h : PkAt w B p r c) (i : Nat) (us : List Value) (hl : i + us.length ≤ 13) (e : ∀ j, j < 13 → laidV (p.vals r c) i us j = q.vals r' c' j) : PkAt (puts w B i us) B q r' c' :=
  (VAt.puts us i h hl).congr e
/-- All of it is written. -/
theorem PkAt.write {w : World} {B : Nat} {p : Pk} {r : Option Addr} {c : Nat} (h : PkAt w B p r c) (q : Pk) (r' : Option Addr) (c' : Nat) : PkAt (puts w B 0 [.int .i64 q.k, .int .u16 (q.s : Int), .int .u16 (q.t : Int), .int .u32 (q.f : Int), .int .u16 (q.y : Int), .slice r' q.n c', .int .u64 (q.T : Int), .int .u32 (q.l : Int), .int .u32 (q.g : Int), .int .u16 (q.u : Int), .int .u16 (q.j : Int), .int .u32 (q.F : Int), .int .u16 (q.d : Int)]) B q r' c' :=
  h.run 0 _ (Nat.le_refl 13) fun j hj => match j, hj with
  | 0, _ => rfl
  | 1, _ => rfl
  | 2, _ => rfl
  | 3, _ => rfl
  | 4, _ => rfl
  | 5, _ => rfl
  | 6, _ => rfl
  | 7, _ => rfl
  | 8, _ => rfl
  | 9, _ => rfl
  | 10, _ => rfl
  | 11, _ => rfl
  | 12, _ => rfl
structure Pk.Ok (p : Pk) : Prop where
  ls : p.s < 65536
  lt : p.t < 65536
  lf : p.f < 4294967296
  ly : p.y < 65536
  lT : p.T < 18446744073709551616
  ll : p.l < 4294967296
  lg : p.g < 4294967296
  lu : p.u < 65536
  lj : p.j < 65536
  lF : p.F < 4294967296
  ld : p.d < 65536
  lx : ∀ i, i < p.n → p.x i < 256
def Pk.zero : Pk := ⟨0, 0, 0, 0, 0, 0, fun _ => 0, 0, 0, 0, 0, 0, 0, 0⟩
def pKind (k : Int) : Pk := ⟨k, 0, 0, 0, 0, 0, fun _ => 0, 0, 0, 0, 0, 0, 0, 0⟩
def pData (s t f y n : Nat) (x : Nat → Nat) : Pk := ⟨1, s, t, f, y, n, x, 0, 0, 0, 0, 0, 0, 0⟩
def pRep (T l g u j : Nat) : Pk := ⟨2, 0, 0, 0, 0, 0, fun _ => 0, T, l, g, u, j, 0, 0⟩
def pNack (F d : Nat) : Pk := ⟨3, 0, 0, 0, 0, 0, fun _ => 0, 0, 0, 0, 0, 0, F, d⟩
def pGone (F : Nat) : Pk := ⟨4, 0, 0, 0, 0, 0, fun _ => 0, 0, 0, 0, 0, 0, F, 0⟩

/-- What stands behind its Kind: how many bytes, which, and the error. -/
def bN (p : Pk) : Nat := if p.k = 1 then 10 + p.n else if p.k = 2 then 20 else if p.k = 3 then 6 else 4
def bX (p : Pk) : Nat → Nat := if p.k = 1 then laid p.s p.t p.f p.y p.x else if p.k = 2 then repLaid p.T p.l p.g p.u p.j else if p.k = 3 then nackLaid p.F p.d else goneLaid p.F
def bE (p : Pk) : Nat := if p.k = 1 then putE p.n else if p.k = 2 then 0 else if p.k = 3 then 0 else if p.k = 4 then 0 else 1
theorem b_data {p : Pk} (h : p.k = 1) : bN p = 10 + p.n ∧ bX p = laid p.s p.t p.f p.y p.x ∧ bE p = putE p.n := by unfold bN bX bE; rw [if_pos h, if_pos h, if_pos h]; exact ⟨rfl, rfl, rfl⟩
theorem b_rep {p : Pk} (h : p.k = 2) : bN p = 20 ∧ bX p = repLaid p.T p.l p.g p.u p.j ∧ bE p = 0 := by
  have h1 : ¬ p.k = 1 := by rw [h]; decide
  unfold bN bX bE; rw [if_neg h1, if_neg h1, if_neg h1, if_pos h, if_pos h, if_pos h]; exact ⟨rfl, rfl, rfl⟩
theorem b_nack {p : Pk} (h : p.k = 3) : bN p = 6 ∧ bX p = nackLaid p.F p.d ∧ bE p = 0 := by
  have h1 : ¬ p.k = 1 := by rw [h]; decide
  have h2 : ¬ p.k = 2 := by rw [h]; decide
  unfold bN bX bE; rw [if_neg h1, if_neg h1, if_neg h1, if_neg h2, if_neg h2, if_neg h2, if_pos h, if_pos h, if_pos h]; exact ⟨rfl, rfl, rfl⟩
theorem b_gone {p : Pk} (h : p.k = 4) : bN p = 4 ∧ bX p = goneLaid p.F ∧ bE p = 0 := by
  have h1 : ¬ p.k = 1 := by rw [h]; decide
  have h2 : ¬ p.k = 2 := by rw [h]; decide
  have h3 : ¬ p.k = 3 := by rw [h]; decide
  unfold bN bX bE; rw [if_neg h1, if_neg h1, if_neg h1, if_neg h2, if_neg h2, if_neg h2, if_neg h3, if_neg h3, if_neg h3, if_pos h]; exact ⟨rfl, rfl, rfl⟩
theorem b_other {p : Pk} (h : ¬ (1 ≤ p.k ∧ p.k ≤ 4)) : bE p = 1 := by
  unfold bE; rw [if_neg (by omega), if_neg (by omega), if_neg (by omega), if_neg (by omega)]
def wire (k : Nat) (z : Nat → Nat) : Nat → Nat := cat (fun _ => k) z 1
theorem wire_zero (k : Nat) (z : Nat → Nat) : wire k z 0 = k := rfl
theorem wire_succ (k : Nat) (z : Nat → Nat) (i : Nat) : wire k z (1 + i) = z i := by unfold wire cat; rw [if_neg (by omega), Nat.add_sub_cancel_left]
theorem wire_lt {k n : Nat} {z : Nat → Nat} (hk : k < 256) (hz : ∀ i, i < n → z i < 256) (i : Nat) (hi : i < 1 + n) : wire k z i < 256 := by
  unfold wire cat
  split
  · exact hk
  · exact hz _ (by omega)
theorem bX_lt {p : Pk} (h : p.Ok) (i : Nat) (hi : i < bN p) : bX p i < 256 := by
  unfold bN at hi
  unfold bX
  split at hi
  · rw [if_pos (by assumption)]; exact laid_lt h.lx i hi
  · rw [if_neg (by assumption)]
    split at hi
    · rw [if_pos (by assumption)]; exact repLaid_lt _ _ _ _ _ i hi
    · rw [if_neg (by assumption)]
      split at hi
      · rw [if_pos (by assumption)]; exact nackLaid_lt _ _ i hi
      · rw [if_neg (by assumption)]; exact goneLaid_lt _ i
/-- What it is put as. -/
def ptX (p : Pk) : Nat → Nat := Crc.seald (wire p.k.toNat (bX p)) (1 + bN p)
def ptN (p : Pk) : Nat := if bE p = 0 then 1 + bN p + 4 else 0
theorem ptN_yes {p : Pk} (h : bE p = 0) : ptN p = 1 + bN p + 4 := if_pos h
theorem ptN_no {p : Pk} (h : bE p ≠ 0) : ptN p = 0 := if_neg h
theorem PutIs.nothing {w w' : World} {z : Nat → Nat} {E : Nat} (h : Below w.heap.size w w') : PutIs w 0 z E (.returned (.tuple #[.slice none 0 0, .int .i64 (E : Int)])) w' :=
  ⟨none, 0, rfl, Nat.le_refl _, fun h => absurd h (by omega), nil_bytes _ _, h⟩

/-- A packet, its Body in new memory, and the error E, were answered. -/
def PkIs (w : World) (q : Pk) (E : Nat) (e : Ending) (w' : World) : Prop :=
  ∃ r c, e = .returned (.tuple #[.agg #[.int .i64 q.k, .int .u16 (q.s : Int), .int .u16 (q.t : Int), .int .u32 (q.f : Int), .int .u16 (q.y : Int), .slice r q.n c, .int .u64 (q.T : Int), .int .u32 (q.l : Int), .int .u32 (q.g : Int), .int .u16 (q.u : Int), .int .u16 (q.j : Int), .int .u32 (q.F : Int), .int .u16 (q.d : Int)], .int .i64 (E : Int)]) ∧ q.n ≤ c ∧ (0 < q.n → ∃ g, r = some ⟨g, 0, none⟩ ∧ w.heap.size ≤ g) ∧ BytesAt w' r q.n q.x ∧ Below w.heap.size w w'
theorem PkIs.no {w w' : World} {E : Nat} (h : Below w.heap.size w w') : PkIs w Pk.zero E (.returned (.tuple #[.agg #[.int .i64 0, .int .u16 0, .int .u16 0, .int .u32 0, .int .u16 0, .slice none 0 0, .int .u64 0, .int .u32 0, .int .u32 0, .int .u16 0, .int .u16 0, .int .u32 0, .int .u16 0], .int .i64 (E : Int)])) w' :=
  ⟨none, 0, rfl, Nat.le_refl _, fun h => absurd h (by decide), nil_bytes _ _, h⟩
/-- What m bytes y behind the Kind k are. -/
def inP (k m : Nat) (y : Nat → Nat) : Option Pk :=
  if k = 1 then (if tkB m then some (pData (Crc.numTo y 2) (Crc.numTo (fun i => y (2 + i)) 2) (Crc.numTo (fun i => y (4 + i)) 4) (Crc.numTo (fun i => y (8 + i)) 2) (m - 10) (fun i => y (10 + i))) else none)
  else if k = 2 then (if m = 20 then some (pRep (Crc.numTo y 8) (Crc.numTo (fun i => y (8 + i)) 4) (Crc.numTo (fun i => y (12 + i)) 4) (Crc.numTo (fun i => y (16 + i)) 2) (Crc.numTo (fun i => y (18 + i)) 2)) else none)
  else if k = 3 then (if m = 6 then some (pNack (Crc.numTo y 4) (Crc.numTo (fun i => y (4 + i)) 2)) else none)
  else if k = 4 then (if m = 4 then some (pGone (Crc.numTo y 4)) else none)
  else none
theorem inP_data {m : Nat} {y : Nat → Nat} (h : tkB m = true) : inP 1 m y = some (pData (Crc.numTo y 2) (Crc.numTo (fun i => y (2 + i)) 2) (Crc.numTo (fun i => y (4 + i)) 4) (Crc.numTo (fun i => y (8 + i)) 2) (m - 10) (fun i => y (10 + i))) := by
  unfold inP; rw [if_pos rfl, if_pos h]
theorem inP_data_no {m : Nat} {y : Nat → Nat} (h : tkB m = false) : inP 1 m y = none := by
  unfold inP; rw [if_pos rfl, if_neg (by rw [h]; decide)]
theorem inP_rep (y : Nat → Nat) : inP 2 20 y = some (pRep (Crc.numTo y 8) (Crc.numTo (fun i => y (8 + i)) 4) (Crc.numTo (fun i => y (12 + i)) 4) (Crc.numTo (fun i => y (16 + i)) 2) (Crc.numTo (fun i => y (18 + i)) 2)) := rfl
theorem inP_rep_no {m : Nat} {y : Nat → Nat} (h : m ≠ 20) : inP 2 m y = none := by
  unfold inP; rw [if_neg (by decide), if_pos rfl, if_neg h]
theorem inP_nack (y : Nat → Nat) : inP 3 6 y = some (pNack (Crc.numTo y 4) (Crc.numTo (fun i => y (4 + i)) 2)) := rfl
theorem inP_nack_no {m : Nat} {y : Nat → Nat} (h : m ≠ 6) : inP 3 m y = none := by
  unfold inP; rw [if_neg (by decide), if_neg (by decide), if_pos rfl, if_neg h]
theorem inP_gone (y : Nat → Nat) : inP 4 4 y = some (pGone (Crc.numTo y 4)) := rfl
theorem inP_gone_no {m : Nat} {y : Nat → Nat} (h : m ≠ 4) : inP 4 m y = none := by
  unfold inP; rw [if_neg (by decide), if_neg (by decide), if_neg (by decide), if_pos rfl, if_neg h]
theorem inP_kind {k m : Nat} {y : Nat → Nat} (h : ¬ (1 ≤ k ∧ k ≤ 4)) : inP k m y = none := by
  unfold inP; rw [if_neg (by omega), if_neg (by omega), if_neg (by omega), if_neg (by omega)]
/-- What L bytes x are taken as, and the error. -/
def tkP (L : Nat) (x : Nat → Nat) : Option Pk := if 0 < opN x L then inP (x 0) (opN x L - 1) (fun i => x (1 + i)) else none
def pkOf : Option Pk → Pk
  | some q => q
  | none => Pk.zero
def erOf : Option Pk → Nat
  | some _ => 0
  | none => 2
def tkErr (L : Nat) (x : Nat → Nat) : Nat := if opB x L then erOf (tkP L x) else 3
def TkIs (w : World) (L : Nat) (x : Nat → Nat) (e : Ending) (w' : World) : Prop := PkIs w (pkOf (tkP L x)) (tkErr L x) e w'
theorem tk_shut {L : Nat} {x : Nat → Nat} (h : opB x L = false) : tkP L x = none ∧ tkErr L x = 3 := by
  have h0 : opN x L = 0 := by unfold opN; rw [h]; rfl
  refine ⟨?_, ?_⟩
  · unfold tkP; rw [h0, if_neg (by decide)]
  · unfold tkErr; rw [h]; rfl
theorem tk_open {L : Nat} {x : Nat → Nat} (h : opB x L = true) : tkErr L x = erOf (tkP L x) := by unfold tkErr; rw [h]; rfl
theorem tk_bare {L : Nat} {x : Nat → Nat} (h0 : opN x L = 0) : tkP L x = none := by unfold tkP; rw [h0, if_neg (by decide)]
theorem tk_in {L m : Nat} {x : Nat → Nat} (h0 : opN x L = m + 1) : tkP L x = inP (x 0) m (fun i => x (1 + i)) := by unfold tkP; rw [h0, if_pos (by omega), Nat.add_sub_cancel]
theorem TkIs.shut {w w' : World} {L : Nat} {x : Nat → Nat} (h : opB x L = false) (hb : Below w.heap.size w w') : TkIs w L x (.returned (.tuple #[.agg #[.int .i64 0, .int .u16 0, .int .u16 0, .int .u32 0, .int .u16 0, .slice none 0 0, .int .u64 0, .int .u32 0, .int .u32 0, .int .u16 0, .int .u16 0, .int .u32 0, .int .u16 0], .int .i64 3])) w' := by
  unfold TkIs
  rw [(tk_shut h).1, (tk_shut h).2]
  exact PkIs.no hb
theorem TkIs.form {w w' : World} {L : Nat} {x : Nat → Nat} (h : opB x L = true) (h0 : tkP L x = none) (hb : Below w.heap.size w w') : TkIs w L x (.returned (.tuple #[.agg #[.int .i64 0, .int .u16 0, .int .u16 0, .int .u32 0, .int .u16 0, .slice none 0 0, .int .u64 0, .int .u32 0, .int .u32 0, .int .u16 0, .int .u16 0, .int .u32 0, .int .u16 0], .int .i64 2])) w' := by
  unfold TkIs
  rw [tk_open h, h0]
  exact PkIs.no hb
theorem TkIs.yes {w w' : World} {L c : Nat} {x : Nat → Nat} {q : Pk} {r : Option Addr} (h : opB x L = true) (h0 : tkP L x = some q) (hc : q.n ≤ c) (hg : 0 < q.n → ∃ g, r = some ⟨g, 0, none⟩ ∧ w.heap.size ≤ g) (hB : BytesAt w' r q.n q.x) (hb : Below w.heap.size w w') :
    TkIs w L x (.returned (.tuple #[.agg #[.int .i64 q.k, .int .u16 (q.s : Int), .int .u16 (q.t : Int), .int .u32 (q.f : Int), .int .u16 (q.y : Int), .slice r q.n c, .int .u64 (q.T : Int), .int .u32 (q.l : Int), .int .u32 (q.g : Int), .int .u16 (q.u : Int), .int .u16 (q.j : Int), .int .u32 (q.F : Int), .int .u16 (q.d : Int)], .int .i64 0])) w' := by
  unfold TkIs
  rw [tk_open h, h0]
  exact ⟨r, c, rfl, hc, hg, hB, hb⟩
end Go.Proofs.Ytcflaklnafggmaa
