/-
  A packet that package packet puts has its Kind's size and comes back as its Kind has it; with a byte turned it is told as turned; and what is cut off is told so too, where it does not open: the call returns true, whatever the packet is, of whichever of the four Kinds, wherever and however it is turned and cut (bodies of 1 to 64 bytes are looked at; no condition).
-/
import Derived.Test.YtcflaklnafggmaaRows
import Derived.WalkKit
import Derived.ProofKit
import Derived.OpenShut
import Derived.ShutString
import Derived.ChangeOld
import Derived.Below
import Derived.Carry
import Derived.Test.YtcflaklnafggmaaOpn
import Derived.Test.YtcflaklnafggmaaOpp
import Derived.Test.YtcflaklnafggmaaPbg
import Derived.Test.YtcflaklnafggmaaRse
import Derived.Test.YtcflaklnafggmaaPsm
import Derived.Test.YtcflaklnafggmaaTrn
namespace Go.Proofs.Ytcflaklnafggmaa.packetBack
open Go.ChangeShapes Go.WideShapes Go.ChangeAt Go.RowKit
open Go.ChangeMaps (open_string shut_string)
set_option linter.unusedVariables false

theorem own : ownKnob Try.prog.godebug = none := by kernel_rfl
theorem laidOut : laidOutB Try.prog = true := by kernel_rfl

open Go.Deep

/-- The packet, of another Kind. -/
def kd (p : Pk) (k : Int) : Pk := ⟨k, p.s, p.t, p.f, p.y, p.n, p.x, p.T, p.l, p.g, p.u, p.j, p.F, p.d⟩
theorem kd_ok {p : Pk} (o : p.Ok) (k : Int) : (kd p k).Ok := ⟨o.ls, o.lt, o.lf, o.ly, o.lT, o.ll, o.lg, o.lu, o.lj, o.lF, o.ld, o.lx⟩
theorem kd_err {p : Pk} (K : Nat) (h1 : 1 ≤ p.n) (h2 : p.n ≤ 64) (k1 : 1 ≤ K) (k2 : K ≤ 4) : bE (kd p K) = 0 := by
  match K, k1, k2 with
  | 1, _, _ => exact (b_data rfl).2.2.trans (put_fit (fit_yes h1 h2)).2
  | 2, _, _ => exact (b_rep rfl).2.2
  | 3, _, _ => exact (b_nack rfl).2.2
  | 4, _, _ => exact (b_gone rfl).2.2
theorem flip_none (x : Nat → Nat) (j : Nat) : flip x j 0 = x := by
  funext i
  unfold flip
  split
  · subst_vars; exact Nat.xor_zero _
  · rfl
theorem err_back {p : Pk} (o : p.Ok) (h : bE p = 0) : tkErr (ptN p) (ptX p) = 0 := by
  obtain ⟨q, hq, -⟩ := pt_take o h
  have hb : opB (ptX p) (ptN p) = true := by rw [ptN_yes h]; exact (pt_open o h).1
  rw [tk_open hb, hq]; rfl
/-- The error of what is put with one byte turned. -/
theorem err_flip {p : Pk} (o : p.Ok) (h : bE p = 0) (j v : Nat) (hj : j < ptN p) (hv : v < 256) :
    ((tkErr (ptN p) (flip (ptX p) j v) : Int) == 0) = ((v : Int) == 0) ∧ ((tkErr (ptN p) (flip (ptX p) j v) : Int) == 3) = !((v : Int) == 0) := by
  by_cases e : v = 0
  · subst e
    rw [flip_none, err_back o h]; exact ⟨rfl, rfl⟩
  · have hk := bE_kind h
    have hB : opB (flip (ptX p) j v) (ptN p) = false := by
      rw [ptN_yes h] at hj ⊢
      exact (flipped (fun i hi => wire_lt (by omega) (fun i hi => bX_lt o i hi) i hi) hj hv).trans (decide_eq_false e)
    rw [(tk_shut hB).2]
    have : ((v : Int) == 0) = false := by simp; omega
    rw [this]; exact ⟨rfl, rfl⟩
/-- .. and of any bytes, held against whether they open. -/
theorem err_open (L : Nat) (x : Nat → Nat) : ((tkErr L x : Int) == 3) = !(opB x L) := by
  cases h : opB x L with
  | false => rw [(tk_shut h).2]; rfl
  | true =>
    rw [tk_open h]
    cases tkP L x <;> rfl
theorem put_1 {p : Pk} (o : p.Ok) (r : Option Addr) (c : Nat) (w : World) (hx : BytesAt w r p.n p.x) : Calls Try.prog 9 #[.agg #[.int .i64 1, .int .u16 (p.s : Int), .int .u16 (p.t : Int), .int .u32 (p.f : Int), .int .u16 (p.y : Int), .slice r p.n c, .int .u64 (p.T : Int), .int .u32 (p.l : Int), .int .u32 (p.g : Int), .int .u16 (p.u : Int), .int .u16 (p.j : Int), .int .u32 (p.F : Int), .int .u16 (p.d : Int)]] w fun e w' => PutIs w (ptN (kd p 1)) (ptX (kd p 1)) (bE (kd p 1)) e w' :=
  packput_any (kd p 1) r c w (kd_ok o 1) hx
theorem back_1 {p : Pk} {w w' : World} {e : Ending} (h : PkIs w (bare (kd p 1)) 0 e w') : ∃ r c, e = .returned (.tuple #[.agg #[.int .i64 1, .int .u16 (p.s : Int), .int .u16 (p.t : Int), .int .u32 (p.f : Int), .int .u16 (p.y : Int), .slice r p.n c, .int .u64 0, .int .u32 0, .int .u32 0, .int .u16 0, .int .u16 0, .int .u32 0, .int .u16 0], .int .i64 0]) ∧ BytesAt w' r (bare (kd p 1)).n (bare (kd p 1)).x ∧ Below w.heap.size w w' := by
  obtain ⟨r, c, rfl, -, -, h3, h4⟩ := h
  exact ⟨r, c, rfl, h3, h4⟩
theorem alike_1 {p : Pk} (r r' : Option Addr) (c c' : Nat) (w : World) (h : BytesAt w r (bare (kd p 1)).n (bare (kd p 1)).x) (h' : BytesAt w r' (bare (kd p 1)).n (bare (kd p 1)).x) :
    Calls Try.prog 14 #[.agg #[.int .i64 1, .int .u16 (p.s : Int), .int .u16 (p.t : Int), .int .u32 (p.f : Int), .int .u16 (p.y : Int), .slice r p.n c, .int .u64 0, .int .u32 0, .int .u32 0, .int .u16 0, .int .u16 0, .int .u32 0, .int .u16 0], .agg #[.int .i64 1, .int .u16 (p.s : Int), .int .u16 (p.t : Int), .int .u32 (p.f : Int), .int .u16 (p.y : Int), .slice r' p.n c', .int .u64 0, .int .u32 0, .int .u32 0, .int .u16 0, .int .u16 0, .int .u32 0, .int .u16 0]] w fun e w' => e = .returned (.bool true) ∧ Below w.heap.size w w' :=
  psame_any (bare (kd p 1)) r r' c c' w h h'
theorem put_2 {p : Pk} (o : p.Ok) (r : Option Addr) (c : Nat) (w : World) (hx : BytesAt w r p.n p.x) : Calls Try.prog 9 #[.agg #[.int .i64 2, .int .u16 (p.s : Int), .int .u16 (p.t : Int), .int .u32 (p.f : Int), .int .u16 (p.y : Int), .slice r p.n c, .int .u64 (p.T : Int), .int .u32 (p.l : Int), .int .u32 (p.g : Int), .int .u16 (p.u : Int), .int .u16 (p.j : Int), .int .u32 (p.F : Int), .int .u16 (p.d : Int)]] w fun e w' => PutIs w (ptN (kd p 2)) (ptX (kd p 2)) (bE (kd p 2)) e w' :=
  packput_any (kd p 2) r c w (kd_ok o 2) hx
theorem back_2 {p : Pk} {w w' : World} {e : Ending} (h : PkIs w (bare (kd p 2)) 0 e w') : ∃ r c, e = .returned (.tuple #[.agg #[.int .i64 2, .int .u16 0, .int .u16 0, .int .u32 0, .int .u16 0, .slice r 0 c, .int .u64 (p.T : Int), .int .u32 (p.l : Int), .int .u32 (p.g : Int), .int .u16 (p.u : Int), .int .u16 (p.j : Int), .int .u32 0, .int .u16 0], .int .i64 0]) ∧ BytesAt w' r (bare (kd p 2)).n (bare (kd p 2)).x ∧ Below w.heap.size w w' := by
  obtain ⟨r, c, rfl, -, -, h3, h4⟩ := h
  exact ⟨r, c, rfl, h3, h4⟩
theorem alike_2 {p : Pk} (r r' : Option Addr) (c c' : Nat) (w : World) (h : BytesAt w r (bare (kd p 2)).n (bare (kd p 2)).x) (h' : BytesAt w r' (bare (kd p 2)).n (bare (kd p 2)).x) :
    Calls Try.prog 14 #[.agg #[.int .i64 2, .int .u16 0, .int .u16 0, .int .u32 0, .int .u16 0, .slice r 0 c, .int .u64 (p.T : Int), .int .u32 (p.l : Int), .int .u32 (p.g : Int), .int .u16 (p.u : Int), .int .u16 (p.j : Int), .int .u32 0, .int .u16 0], .agg #[.int .i64 2, .int .u16 0, .int .u16 0, .int .u32 0, .int .u16 0, .slice r' 0 c', .int .u64 (p.T : Int), .int .u32 (p.l : Int), .int .u32 (p.g : Int), .int .u16 (p.u : Int), .int .u16 (p.j : Int), .int .u32 0, .int .u16 0]] w fun e w' => e = .returned (.bool true) ∧ Below w.heap.size w w' :=
  psame_any (bare (kd p 2)) r r' c c' w h h'
theorem put_3 {p : Pk} (o : p.Ok) (r : Option Addr) (c : Nat) (w : World) (hx : BytesAt w r p.n p.x) : Calls Try.prog 9 #[.agg #[.int .i64 3, .int .u16 (p.s : Int), .int .u16 (p.t : Int), .int .u32 (p.f : Int), .int .u16 (p.y : Int), .slice r p.n c, .int .u64 (p.T : Int), .int .u32 (p.l : Int), .int .u32 (p.g : Int), .int .u16 (p.u : Int), .int .u16 (p.j : Int), .int .u32 (p.F : Int), .int .u16 (p.d : Int)]] w fun e w' => PutIs w (ptN (kd p 3)) (ptX (kd p 3)) (bE (kd p 3)) e w' :=
  packput_any (kd p 3) r c w (kd_ok o 3) hx
theorem back_3 {p : Pk} {w w' : World} {e : Ending} (h : PkIs w (bare (kd p 3)) 0 e w') : ∃ r c, e = .returned (.tuple #[.agg #[.int .i64 3, .int .u16 0, .int .u16 0, .int .u32 0, .int .u16 0, .slice r 0 c, .int .u64 0, .int .u32 0, .int .u32 0, .int .u16 0, .int .u16 0, .int .u32 (p.F : Int), .int .u16 (p.d : Int)], .int .i64 0]) ∧ BytesAt w' r (bare (kd p 3)).n (bare (kd p 3)).x ∧ Below w.heap.size w w' := by
  obtain ⟨r, c, rfl, -, -, h3, h4⟩ := h
  exact ⟨r, c, rfl, h3, h4⟩
theorem alike_3 {p : Pk} (r r' : Option Addr) (c c' : Nat) (w : World) (h : BytesAt w r (bare (kd p 3)).n (bare (kd p 3)).x) (h' : BytesAt w r' (bare (kd p 3)).n (bare (kd p 3)).x) :
    Calls Try.prog 14 #[.agg #[.int .i64 3, .int .u16 0, .int .u16 0, .int .u32 0, .int .u16 0, .slice r 0 c, .int .u64 0, .int .u32 0, .int .u32 0, .int .u16 0, .int .u16 0, .int .u32 (p.F : Int), .int .u16 (p.d : Int)], .agg #[.int .i64 3, .int .u16 0, .int .u16 0, .int .u32 0, .int .u16 0, .slice r' 0 c', .int .u64 0, .int .u32 0, .int .u32 0, .int .u16 0, .int .u16 0, .int .u32 (p.F : Int), .int .u16 (p.d : Int)]] w fun e w' => e = .returned (.bool true) ∧ Below w.heap.size w w' :=
  psame_any (bare (kd p 3)) r r' c c' w h h'
theorem put_4 {p : Pk} (o : p.Ok) (r : Option Addr) (c : Nat) (w : World) (hx : BytesAt w r p.n p.x) : Calls Try.prog 9 #[.agg #[.int .i64 4, .int .u16 (p.s : Int), .int .u16 (p.t : Int), .int .u32 (p.f : Int), .int .u16 (p.y : Int), .slice r p.n c, .int .u64 (p.T : Int), .int .u32 (p.l : Int), .int .u32 (p.g : Int), .int .u16 (p.u : Int), .int .u16 (p.j : Int), .int .u32 (p.F : Int), .int .u16 (p.d : Int)]] w fun e w' => PutIs w (ptN (kd p 4)) (ptX (kd p 4)) (bE (kd p 4)) e w' :=
  packput_any (kd p 4) r c w (kd_ok o 4) hx
theorem back_4 {p : Pk} {w w' : World} {e : Ending} (h : PkIs w (bare (kd p 4)) 0 e w') : ∃ r c, e = .returned (.tuple #[.agg #[.int .i64 4, .int .u16 0, .int .u16 0, .int .u32 0, .int .u16 0, .slice r 0 c, .int .u64 0, .int .u32 0, .int .u32 0, .int .u16 0, .int .u16 0, .int .u32 (p.F : Int), .int .u16 0], .int .i64 0]) ∧ BytesAt w' r (bare (kd p 4)).n (bare (kd p 4)).x ∧ Below w.heap.size w w' := by
  obtain ⟨r, c, rfl, -, -, h3, h4⟩ := h
  exact ⟨r, c, rfl, h3, h4⟩
theorem alike_4 {p : Pk} (r r' : Option Addr) (c c' : Nat) (w : World) (h : BytesAt w r (bare (kd p 4)).n (bare (kd p 4)).x) (h' : BytesAt w r' (bare (kd p 4)).n (bare (kd p 4)).x) :
    Calls Try.prog 14 #[.agg #[.int .i64 4, .int .u16 0, .int .u16 0, .int .u32 0, .int .u16 0, .slice r 0 c, .int .u64 0, .int .u32 0, .int .u32 0, .int .u16 0, .int .u16 0, .int .u32 (p.F : Int), .int .u16 0], .agg #[.int .i64 4, .int .u16 0, .int .u16 0, .int .u32 0, .int .u16 0, .slice r' 0 c', .int .u64 0, .int .u32 0, .int .u32 0, .int .u16 0, .int .u16 0, .int .u32 (p.F : Int), .int .u16 0]] w fun e w' => e = .returned (.bool true) ∧ Below w.heap.size w w' :=
  psame_any (bare (kd p 4)) r r' c c' w h h'

set_option maxRecDepth 100000 in
set_option maxHeartbeats 4000000 in
theorem core_1 (p : Pk) (r : Option Addr) (c kind pos v : Nat) (w : World) (o : p.Ok) (hx : BytesAt w r p.n p.x) (n1 : 1 ≤ p.n) (n2 : p.n ≤ 64) (hk : kind % 4 = 0) (hp : pos < 65536) (hv : v < 256) :
    Calls Try.prog 4 #[.agg #[.int .i64 p.k, .int .u16 (p.s : Int), .int .u16 (p.t : Int), .int .u32 (p.f : Int), .int .u16 (p.y : Int), .slice r p.n c, .int .u64 (p.T : Int), .int .u32 (p.l : Int), .int .u32 (p.g : Int), .int .u16 (p.u : Int), .int .u16 (p.j : Int), .int .u32 (p.F : Int), .int .u16 (p.d : Int)], .int .u8 (kind : Int), .int .u16 (pos : Int), .int .u8 (v : Int)] w fun e w' => e = .returned (.bool true) ∧ Below w.heap.size w w' := by
  have e0 : Hid (bE (kd p 1) = 0) := kd_err 1 n1 n2 (by decide) (by decide)
  have eL : Hid (ptN (kd p 1) = p.n + 15) := by show _ = _; rw [ptN_yes e0.out]; exact (congrArg (fun t => 1 + t + 4) (b_data rfl).1).trans (by show 1 + (10 + p.n) + 4 = _; omega)
  have HX : Hid (BytesAt w r p.n p.x) := hx
  have i0 : decide ((p.n : Int) < 1) = false := by simp; omega
  have i1 : decide ((64 : Int) < (p.n : Int)) = false := by simp; omega
  have i2 : (kind : Int) % 4 = 0 := by omega
  have D1 := PkAt.made w 31 p r c
  have b1 : Below w.heap.size w (w.alloc (.cells #[.int .i64 p.k, .int .u16 (p.s : Int), .int .u16 (p.t : Int), .int .u32 (p.f : Int), .int .u16 (p.y : Int), .slice r p.n c, .int .u64 (p.T : Int), .int .u32 (p.l : Int), .int .u32 (p.g : Int), .int .u16 (p.u : Int), .int .u16 (p.j : Int), .int .u32 (p.F : Int), .int .u16 (p.d : Int)] 31)) := (Below.refl _ _).alloc (Nat.le_refl _) _
  clear hx hk
  go_enter Try.func4, Try.ntmps4
  go_wp2_with fail
  generalize (w.alloc (.cells #[.int .i64 p.k, .int .u16 (p.s : Int), .int .u16 (p.t : Int), .int .u32 (p.f : Int), .int .u16 (p.y : Int), .slice r p.n c, .int .u64 (p.T : Int), .int .u32 (p.l : Int), .int .u32 (p.g : Int), .int .u16 (p.u : Int), .int .u16 (p.j : Int), .int .u32 (p.F : Int), .int .u16 (p.d : Int)] 31)) = w1 at *
  refine (begun11 _).mono ?_
  rintro e w2 ⟨rfl, d2⟩
  have D2 := D1.grew d2
  have b2 := b1.trans (d2.mono b1.size)
  have q5 : w2.cell? ⟨w.heap.size, 5, none⟩ = some (.slice r p.n c) := D2.cell 5 (by decide)
  have q0 : w2.cell? ⟨w.heap.size, 0, none⟩ = some (.int .i64 p.k) := D2.cell 0 (by decide)
  have z0 := D2.frz 0
  have D3 : PkAt (w2.setCell ⟨w.heap.size, 0, none⟩ (.int .i64 1)) w.heap.size (kd p 1) r c := D2.run 0 [.int .i64 1] (Nat.le_of_ble_eq_true rfl) fun j hj => match j, hj with
    | 0, _ => rfl
    | 1, _ => rfl
    | 2, _ => rfl
    | 3, _ => rfl
    | 4, _ => rfl
    | 5, _ => rfl
    | 6, _ => rfl
    | 7, _ => rfl
    | 8, _ => rfl
    | 9, _ => rfl
    | 10, _ => rfl
    | 11, _ => rfl
    | 12, _ => rfl
  have b3 : Below w.heap.size w (w2.setCell ⟨w.heap.size, 0, none⟩ (.int .i64 1)) := b2.setCell (p := ⟨w.heap.size, 0, none⟩) (Nat.le_refl _) _
  have s3 : (w2.setCell ⟨w.heap.size, 0, none⟩ (.int .i64 1)).heap.size = w2.heap.size := by simp [World.setCell]
  have a4 : Below (w2.setCell ⟨w.heap.size, 0, none⟩ (.int .i64 1)).heap.size (w2.setCell ⟨w.heap.size, 0, none⟩ (.int .i64 1)) ((w2.setCell ⟨w.heap.size, 0, none⟩ (.int .i64 1)).alloc (.cells #[.int .i64 1, .int .u16 0, .int .u16 0, .int .u32 0, .int .u16 0, .slice none 0 0, .int .u64 0, .int .u32 0, .int .u32 0, .int .u16 0, .int .u16 0, .int .u32 0, .int .u16 0] 31)) := (Below.refl _ _).alloc (Nat.le_refl _) _
  have HD : Hid (PkAt ((w2.setCell ⟨w.heap.size, 0, none⟩ (.int .i64 1)).alloc (.cells #[.int .i64 1, .int .u16 0, .int .u16 0, .int .u32 0, .int .u16 0, .slice none 0 0, .int .u64 0, .int .u32 0, .int .u32 0, .int .u16 0, .int .u16 0, .int .u32 0, .int .u16 0] 31)) w.heap.size (kd p 1) r c) := D3.grew a4
  have HW : Hid (PkAt ((w2.setCell ⟨w.heap.size, 0, none⟩ (.int .i64 1)).alloc (.cells #[.int .i64 1, .int .u16 0, .int .u16 0, .int .u32 0, .int .u16 0, .slice none 0 0, .int .u64 0, .int .u32 0, .int .u32 0, .int .u16 0, .int .u16 0, .int .u32 0, .int .u16 0] 31)) w2.heap.size (pKind 1) none 0) := by
    have := PkAt.made (w2.setCell ⟨w.heap.size, 0, none⟩ (.int .i64 1)) 31 (pKind 1) none 0
    rwa [s3] at this
  have Hb : Hid (Below w.heap.size w ((w2.setCell ⟨w.heap.size, 0, none⟩ (.int .i64 1)).alloc (.cells #[.int .i64 1, .int .u16 0, .int .u16 0, .int .u32 0, .int .u16 0, .slice none 0 0, .int .u64 0, .int .u32 0, .int .u32 0, .int .u16 0, .int .u16 0, .int .u32 0, .int .u16 0] 31))) := b3.trans (a4.mono b3.size)
  have HG : Hid (w.heap.size < w2.heap.size) := D2.lt
  clear D1 b1 d2 D2 b2 a4
  clear D3 b3 s3
  have h0 : ((w2.setCell ⟨w.heap.size, 0, none⟩ (.int .i64 1)).alloc (.cells #[.int .i64 1, .int .u16 0, .int .u16 0, .int .u32 0, .int .u16 0, .slice none 0 0, .int .u64 0, .int .u32 0, .int .u32 0, .int .u16 0, .int .u16 0, .int .u32 0, .int .u16 0] 31)).cell? ⟨w.heap.size, 0, none⟩ = some (.int .i64 1) := HD.out.cell 0 (by decide)
  go_wp2_with fail
  clear h0 q0 q5 z0 i0 i1
  generalize ((w2.setCell ⟨w.heap.size, 0, none⟩ (.int .i64 1)).alloc (.cells #[.int .i64 1, .int .u16 0, .int .u16 0, .int .u32 0, .int .u16 0, .slice none 0 0, .int .u64 0, .int .u32 0, .int .u32 0, .int .u16 0, .int .u16 0, .int .u32 0, .int .u16 0] 31)) = w4 at *
  refine wp_region_held (S := fun w' => PkAt w' w.heap.size (kd p 1) r c) (by kernel_rfl) ?_
  change wpAnyH _ _ _ _ _ _ _ _ w4.drew
  have a5 : Below w4.heap.size w4 w4.drew := (Below.refl _ _).drew
  have hr := HD.out.grew a5
  have W5 := HW.out.grew a5
  have b5 : Below w.heap.size w w4.drew := Hb.out.drew
  clear HD HW Hb a5
  generalize w4.drew = w5 at *
  refine wpAnyH_take (i := 0) (v := .pointer (some ⟨w.heap.size, 1, none⟩)) rfl (by kernel_rfl) (by kernel_rfl) (by kernel_rfl) (fun _ _ _ h => h) (Yields.yieldsIf (Or.inl ⟨by kernel_rfl, fun _ => by go_simp⟩)) hr ?_
  refine wpAnyH_take (i := 1) (v := .agg #[.int .u16 (p.s : Int), .int .u16 (p.t : Int), .int .u32 (p.f : Int), .int .u16 (p.y : Int), .slice r p.n c]) rfl (by kernel_rfl) (by kernel_rfl) (by kernel_rfl) (fun _ _ _ h => h) (Or.inl ⟨by kernel_rfl, fun W hW => by have g1 : W.cell? ⟨w.heap.size, 1, none⟩ = some (.int .u16 (p.s : Int)) := hW.cell 1 (by decide); have g2 : W.cell? ⟨w.heap.size, 2, none⟩ = some (.int .u16 (p.t : Int)) := hW.cell 2 (by decide); have g3 : W.cell? ⟨w.heap.size, 3, none⟩ = some (.int .u32 (p.f : Int)) := hW.cell 3 (by decide); have g4 : W.cell? ⟨w.heap.size, 4, none⟩ = some (.int .u16 (p.y : Int)) := hW.cell 4 (by decide); have g5 : W.cell? ⟨w.heap.size, 5, none⟩ = some (.slice r p.n c) := hW.cell 5 (by decide); go_simp⟩) hr ?_
  refine wpAnyH_take (i := 2) (v := .pointer (some ⟨w.heap.size, 1, none⟩)) rfl (by kernel_rfl) (by kernel_rfl) (by kernel_rfl) (fun _ _ _ h => h) (Yields.yieldsIf (Or.inl ⟨by kernel_rfl, fun _ => by go_simp⟩)) hr ?_
  refine wpAnyH_take (i := 3) (v := .pointer (some ⟨w.heap.size, 5, none⟩)) rfl (by kernel_rfl) (by kernel_rfl) (by kernel_rfl) (fun _ _ _ h => h) (Yields.yieldsIf (Or.inl ⟨by kernel_rfl, fun _ => by go_simp⟩)) hr ?_
  refine wpAnyH_take (i := 4) (v := .slice r p.n c) rfl (by kernel_rfl) (by kernel_rfl) (by kernel_rfl) (fun _ _ _ h => h) (Or.inl ⟨by kernel_rfl, fun W hW => by have g5 : W.cell? ⟨w.heap.size, 5, none⟩ = some (.slice r p.n c) := hW.cell 5 (by decide); go_simp⟩) hr ?_
  refine wpAnyH_take (i := 5) (v := .int .i64 (p.n : Int)) rfl (by kernel_rfl) (by kernel_rfl) (by kernel_rfl) (fun _ _ _ h => h) (Yields.yieldsIf (Or.inl ⟨by kernel_rfl, fun _ => by kernel_rfl⟩)) hr ?_
  refine wpAnyH_take (i := 7) (v := .pointer (some ⟨w2.heap.size, 1, none⟩)) rfl (by kernel_rfl) (by kernel_rfl) (by kernel_rfl) (fun _ _ _ h => h) (Yields.yieldsIf (Or.inl ⟨by kernel_rfl, fun _ => by go_simp⟩)) hr ?_
  refine wpAnyH_ready (rs := [6]) (by kernel_rfl) (by simp) ?_
  refine AllReadyH.cons rfl (fun K2 hK2 => ?_) AllReadyH.nil
  go_simp
  refine Calls.mono (psize_any (p.n : Int) w5 (by omega) (by omega)) ?_
  rintro e w6 ⟨rfl, hw⟩
  have hw := hw.symm
  subst hw
  refine hK2.out _ _ hr (fun hr => ?_)
  clear hK2 K2
  have g1 : w5.cell? ⟨w2.heap.size, 1, none⟩ = some (.int .u16 0) := W5.cell 1 (by decide)
  have g2 : w5.cell? ⟨w2.heap.size, 2, none⟩ = some (.int .u16 0) := W5.cell 2 (by decide)
  have g3 : w5.cell? ⟨w2.heap.size, 3, none⟩ = some (.int .u32 0) := W5.cell 3 (by decide)
  have g4 : w5.cell? ⟨w2.heap.size, 4, none⟩ = some (.int .u16 0) := W5.cell 4 (by decide)
  have g5 : w5.cell? ⟨w2.heap.size, 5, none⟩ = some (.slice none 0 0) := W5.cell 5 (by decide)
  have y1 := W5.frz 1
  have y2 := W5.frz 2
  have y3 := W5.frz 3
  have y4 := W5.frz 4
  have y5 := W5.frz 5
  refine wpAnyH_ready (rs := [8]) (by kernel_rfl) (by simp) ?_
  refine AllReadyH.cons rfl (fun K2 hK2 => ?_) AllReadyH.nil
  go_simp
  refine hK2.out _ _ (VAt.putsOther (Nat.ne_of_gt HG.out) [.int .u16 (p.s : Int), .int .u16 (p.t : Int), .int .u32 (p.f : Int), .int .u16 (p.y : Int), .slice r p.n c] 1 hr) (fun hr => ?_)
  clear hK2 K2 g1 g2 g3 g4 g5 y1 y2 y3 y4 y5
  have HW5 : Hid (PkAt (((((w5.setCell ⟨w2.heap.size, 1, none⟩ (.int .u16 (p.s : Int))).setCell ⟨w2.heap.size, 2, none⟩ (.int .u16 (p.t : Int))).setCell ⟨w2.heap.size, 3, none⟩ (.int .u32 (p.f : Int))).setCell ⟨w2.heap.size, 4, none⟩ (.int .u16 (p.y : Int))).setCell ⟨w2.heap.size, 5, none⟩ (.slice r p.n c)) w2.heap.size (bare (kd p 1)) r c) := W5.run 1 [.int .u16 (p.s : Int), .int .u16 (p.t : Int), .int .u32 (p.f : Int), .int .u16 (p.y : Int), .slice r p.n c] (Nat.le_of_ble_eq_true rfl) fun j hj => match j, hj with
    | 0, _ => rfl
    | 1, _ => rfl
    | 2, _ => rfl
    | 3, _ => rfl
    | 4, _ => rfl
    | 5, _ => rfl
    | 6, _ => rfl
    | 7, _ => rfl
    | 8, _ => rfl
    | 9, _ => rfl
    | 10, _ => rfl
    | 11, _ => rfl
    | 12, _ => rfl
  have HD5 : Hid (PkAt (((((w5.setCell ⟨w2.heap.size, 1, none⟩ (.int .u16 (p.s : Int))).setCell ⟨w2.heap.size, 2, none⟩ (.int .u16 (p.t : Int))).setCell ⟨w2.heap.size, 3, none⟩ (.int .u32 (p.f : Int))).setCell ⟨w2.heap.size, 4, none⟩ (.int .u16 (p.y : Int))).setCell ⟨w2.heap.size, 5, none⟩ (.slice r p.n c)) w.heap.size (kd p 1) r c) := hr
  have Hb5 : Hid (Below w.heap.size w (((((w5.setCell ⟨w2.heap.size, 1, none⟩ (.int .u16 (p.s : Int))).setCell ⟨w2.heap.size, 2, none⟩ (.int .u16 (p.t : Int))).setCell ⟨w2.heap.size, 3, none⟩ (.int .u32 (p.f : Int))).setCell ⟨w2.heap.size, 4, none⟩ (.int .u16 (p.y : Int))).setCell ⟨w2.heap.size, 5, none⟩ (.slice r p.n c))) := puts_below (Nat.le_of_lt HG.out) [.int .u16 (p.s : Int), .int .u16 (p.t : Int), .int .u32 (p.f : Int), .int .u16 (p.y : Int), .slice r p.n c] 1 b5
  clear W5 b5
  generalize (((((w5.setCell ⟨w2.heap.size, 1, none⟩ (.int .u16 (p.s : Int))).setCell ⟨w2.heap.size, 2, none⟩ (.int .u16 (p.t : Int))).setCell ⟨w2.heap.size, 3, none⟩ (.int .u32 (p.f : Int))).setCell ⟨w2.heap.size, 4, none⟩ (.int .u16 (p.y : Int))).setCell ⟨w2.heap.size, 5, none⟩ (.slice r p.n c)) = w6 at *
  refine wpAnyH_take (i := 9) (v := .int .i64 ((p.n : Int) + 15)) rfl (by kernel_rfl) (by kernel_rfl) (by kernel_rfl) (fun _ _ _ h => h) (Yields.yieldsIf (Or.inl ⟨by kernel_rfl, fun _ => by kernel_rfl⟩)) hr ?_
  refine wpAnyH_done (by kernel_rfl) ?_ _
  clear hr
  have h1 : w6.cell? ⟨w.heap.size, 1, none⟩ = some (.int .u16 (p.s : Int)) := HD5.out.cell 1 (by decide)
  have h2 : w6.cell? ⟨w.heap.size, 2, none⟩ = some (.int .u16 (p.t : Int)) := HD5.out.cell 2 (by decide)
  have h3 : w6.cell? ⟨w.heap.size, 3, none⟩ = some (.int .u32 (p.f : Int)) := HD5.out.cell 3 (by decide)
  have h4 : w6.cell? ⟨w.heap.size, 4, none⟩ = some (.int .u16 (p.y : Int)) := HD5.out.cell 4 (by decide)
  have h5 : w6.cell? ⟨w.heap.size, 5, none⟩ = some (.slice r p.n c) := HD5.out.cell 5 (by decide)
  have h6 : w6.cell? ⟨w.heap.size, 6, none⟩ = some (.int .u64 (p.T : Int)) := HD5.out.cell 6 (by decide)
  have h7 : w6.cell? ⟨w.heap.size, 7, none⟩ = some (.int .u32 (p.l : Int)) := HD5.out.cell 7 (by decide)
  have h8 : w6.cell? ⟨w.heap.size, 8, none⟩ = some (.int .u32 (p.g : Int)) := HD5.out.cell 8 (by decide)
  have h9 : w6.cell? ⟨w.heap.size, 9, none⟩ = some (.int .u16 (p.u : Int)) := HD5.out.cell 9 (by decide)
  have h10 : w6.cell? ⟨w.heap.size, 10, none⟩ = some (.int .u16 (p.j : Int)) := HD5.out.cell 10 (by decide)
  have h11 : w6.cell? ⟨w.heap.size, 11, none⟩ = some (.int .u32 (p.F : Int)) := HD5.out.cell 11 (by decide)
  have h12 : w6.cell? ⟨w.heap.size, 12, none⟩ = some (.int .u16 (p.d : Int)) := HD5.out.cell 12 (by decide)
  have h0 : w6.cell? ⟨w.heap.size, 0, none⟩ = some (.int .i64 1) := HD5.out.cell 0 (by decide)
  go_wp2_with fail
  clear h0 h1 h2 h3 h4 h5 h6 h7 h8 h9 h10 h11 h12
  generalize w2.heap.size = G at *
  clear i2 HD5
  have HO := kd_ok o 1
  obtain ⟨L, hL⟩ : ∃ L, L = ptN (kd p 1) := ⟨_, rfl⟩
  have lL : L = p.n + 15 := hL.trans eL.out
  refine (put_1 o r c w6 (HX.out.grew Hb5.out)).mono ?_
  rw [← hL, e0.out]
  rintro e w7 ⟨r7, c7, rfl, k7, -, B7, d7⟩
  have W7 := HW5.out.grew d7
  have b7 := Hb5.out.trans (d7.mono Hb5.out.size)
  have HB7 : Hid (BytesAt w7 r7 L (ptX (kd p 1))) := B7
  have Hk7 : Hid (L ≤ c7) := k7
  have lL2 : 9 ≤ L ∧ L ≤ 79 := by omega
  have iL : ((L : Int) != ((p.n : Int) + 15)) = false := by rw [lL]; simp
  have HLp : Hid (L = ptN (kd p 1)) := hL
  clear HW5 Hb5 d7 B7 k7 lL eL hL
  go_wp2_with fail
  clear iL
  refine (packtake_any r7 L c7 _ w7 HB7.out Hk7.out (by omega)).mono ?_
  intro e w8 h8
  rw [HLp.out] at h8
  obtain ⟨r8, c8, rfl, Q8, d8⟩ := back_1 (tk_back HO e0.out h8)
  have a9 : Below w8.heap.size w8 (w8.alloc (.cells #[.int .i64 1, .int .u16 (p.s : Int), .int .u16 (p.t : Int), .int .u32 (p.f : Int), .int .u16 (p.y : Int), .slice r8 p.n c8, .int .u64 0, .int .u32 0, .int .u32 0, .int .u16 0, .int .u16 0, .int .u32 0, .int .u16 0] 31)) := (Below.refl _ _).alloc (Nat.le_refl _) _
  have W9 : Hid _ := (W7.grew d8).grew a9
  have R9 : Hid (BytesAt (w8.alloc (.cells #[.int .i64 1, .int .u16 (p.s : Int), .int .u16 (p.t : Int), .int .u32 (p.f : Int), .int .u16 (p.y : Int), .slice r8 p.n c8, .int .u64 0, .int .u32 0, .int .u32 0, .int .u16 0, .int .u16 0, .int .u32 0, .int .u16 0] 31)) r7 L (ptX (kd p 1))) := (HB7.out.grew d8).grew a9
  have Q9 : Hid _ := Q8.grew a9
  have A9 : Hid (PkAt (w8.alloc (.cells #[.int .i64 1, .int .u16 (p.s : Int), .int .u16 (p.t : Int), .int .u32 (p.f : Int), .int .u16 (p.y : Int), .slice r8 p.n c8, .int .u64 0, .int .u32 0, .int .u32 0, .int .u16 0, .int .u16 0, .int .u32 0, .int .u16 0] 31)) w8.heap.size (bare (kd p 1)) r8 c8) := PkAt.made w8 31 (bare (kd p 1)) r8 c8
  have b8 := b7.trans (d8.mono b7.size)
  have b9 : Hid (Below w.heap.size w (w8.alloc (.cells #[.int .i64 1, .int .u16 (p.s : Int), .int .u16 (p.t : Int), .int .u32 (p.f : Int), .int .u16 (p.y : Int), .slice r8 p.n c8, .int .u64 0, .int .u32 0, .int .u32 0, .int .u16 0, .int .u16 0, .int .u32 0, .int .u16 0] 31))) := b8.trans (a9.mono b8.size)
  have lj : pos % L < L := Nat.mod_lt _ (by omega)
  have lx : ∀ i, i < L → ptX (kd p 1) i < 256 := HB7.out.lt
  have bb3 : Below (w8.alloc (.cells #[.int .i64 1, .int .u16 (p.s : Int), .int .u16 (p.t : Int), .int .u32 (p.f : Int), .int .u16 (p.y : Int), .slice r8 p.n c8, .int .u64 0, .int .u32 0, .int .u32 0, .int .u16 0, .int .u16 0, .int .u32 0, .int .u16 0] 31)).heap.size (w8.alloc (.cells #[.int .i64 1, .int .u16 (p.s : Int), .int .u16 (p.t : Int), .int .u32 (p.f : Int), .int .u16 (p.y : Int), .slice r8 p.n c8, .int .u64 0, .int .u32 0, .int .u32 0, .int .u16 0, .int .u16 0, .int .u32 0, .int .u16 0] 31)) ((w8.alloc (.cells #[.int .i64 1, .int .u16 (p.s : Int), .int .u16 (p.t : Int), .int .u32 (p.f : Int), .int .u16 (p.y : Int), .slice r8 p.n c8, .int .u64 0, .int .u32 0, .int .u32 0, .int .u16 0, .int .u16 0, .int .u32 0, .int .u16 0] 31)).alloc (.cells #[] 5)) := (Below.refl _ _).alloc (Nat.le_refl _) _
  obtain ⟨c4, w4', happ, hc4, B4, d4, -, F4⟩ := clone_own ⟨(w8.alloc (.cells #[.int .i64 1, .int .u16 (p.s : Int), .int .u16 (p.t : Int), .int .u32 (p.f : Int), .int .u16 (p.y : Int), .slice r8 p.n c8, .int .u64 0, .int .u32 0, .int .u32 0, .int .u16 0, .int .u16 0, .int .u32 0, .int .u16 0] 31)).heap.size, 0, none⟩ 24 _ L c7 _ _ (R9.out.grew bb3) (by omega) (by omega)
  have bb4 := bb3.trans (d4.mono bb3.size)
  rw [show ((w8.alloc (.cells #[.int .i64 1, .int .u16 (p.s : Int), .int .u16 (p.t : Int), .int .u32 (p.f : Int), .int .u16 (p.y : Int), .slice r8 p.n c8, .int .u64 0, .int .u32 0, .int .u32 0, .int .u16 0, .int .u16 0, .int .u32 0, .int .u16 0] 31)).alloc (.cells #[] 5)).heap.size = w8.heap.size + 1 + 1 by simp] at happ B4 F4
  rw [show (w8.alloc (.cells #[.int .i64 1, .int .u16 (p.s : Int), .int .u16 (p.t : Int), .int .u32 (p.f : Int), .int .u16 (p.y : Int), .slice r8 p.n c8, .int .u64 0, .int .u32 0, .int .u32 0, .int .u16 0, .int .u16 0, .int .u32 0, .int .u16 0] 31)).heap.size = w8.heap.size + 1 by simp] at happ bb4
  clear h8 d8 a9 b7 b8 W7 HB7 Q8 bb3 d4
  have c5 := bytes_cell B4 (pos % L) lj
  rw [Nat.zero_add] at c5
  have f5 := F4 (pos % L)
  have e5 := u8_xor_nat (ptX (kd p 1) (pos % L)) v (lx _ lj) hv
  have HT : Hid (BytesAt (w4'.setCell ⟨w8.heap.size + 1 + 1, pos % L, none⟩ (.int .u8 ((ptX (kd p 1) (pos % L) ^^^ v : Nat) : Int))) (some ⟨w8.heap.size + 1 + 1, 0, none⟩) L (flip (ptX (kd p 1)) (pos % L) v)) := flip_bytes B4 lj hv
  have HBB : Hid (Below (w8.alloc (.cells #[.int .i64 1, .int .u16 (p.s : Int), .int .u16 (p.t : Int), .int .u32 (p.f : Int), .int .u16 (p.y : Int), .slice r8 p.n c8, .int .u64 0, .int .u32 0, .int .u32 0, .int .u16 0, .int .u16 0, .int .u32 0, .int .u16 0] 31)).heap.size (w8.alloc (.cells #[.int .i64 1, .int .u16 (p.s : Int), .int .u16 (p.t : Int), .int .u32 (p.f : Int), .int .u16 (p.y : Int), .slice r8 p.n c8, .int .u64 0, .int .u32 0, .int .u32 0, .int .u16 0, .int .u16 0, .int .u32 0, .int .u16 0] 31)) (w4'.setCell ⟨w8.heap.size + 1 + 1, pos % L, none⟩ (.int .u8 ((ptX (kd p 1) (pos % L) ^^^ v : Nat) : Int)))) := by
    show Below _ _ _
    rw [show (w8.alloc (.cells #[.int .i64 1, .int .u16 (p.s : Int), .int .u16 (p.t : Int), .int .u32 (p.f : Int), .int .u16 (p.y : Int), .slice r8 p.n c8, .int .u64 0, .int .u32 0, .int .u32 0, .int .u16 0, .int .u16 0, .int .u32 0, .int .u16 0] 31)).heap.size = w8.heap.size + 1 by simp]
    exact bb4.setCell (p := ⟨w8.heap.size + 1 + 1, pos % L, none⟩) (Nat.le_succ _) _
  obtain ⟨q7, E7, HT7, F1, F2⟩ : ∃ q E, Hid (∀ w e w', TkIs w L (flip (ptX (kd p 1)) (pos % L) v) e w' → PkIs w q E e w') ∧ ((E : Int) == 0) = ((v : Int) == 0) ∧ ((E : Int) == 3) = !((v : Int) == 0) := by
    have h := err_flip HO e0.out (pos % L) v (by rw [← HLp.out]; exact lj) hv
    rw [← HLp.out] at h
    exact ⟨_, _, fun _ _ _ h => h, h⟩
  obtain ⟨q9, E9, HT9, F3⟩ : ∃ q E, Hid (∀ w e w', TkIs w (pos % L) (ptX (kd p 1)) e w' → PkIs w q E e w') ∧ ((E : Int) == 3) = !(opB (ptX (kd p 1)) (pos % L)) := ⟨_, _, fun _ _ _ h => h, err_open _ _⟩
  generalize ptX (kd p 1) (pos % L) ^^^ v = sv' at *
  generalize ptX (kd p 1) (pos % L) = sv at *
  have HC4 : Hid (L ≤ c4) := hc4
  have lj0 : 0 ≤ (pos : Int) % (L : Int) := Int.emod_nonneg _ (by omega)
  have lj' : (pos : Int) % (L : Int) < (L : Int) := Int.emod_lt_of_pos _ (by omega)
  have F1 : Hid (((E7 : Int) == 0) = ((v : Int) == 0)) := F1
  have F2 : Hid (((E7 : Int) == 3) = !((v : Int) == 0)) := F2
  have F3 : Hid (((E9 : Int) == 3) = !(opB (ptX (kd p 1)) (pos % L))) := F3
  clear B4 F4 bb4 hc4 lx
  go_wp2_with (at_builtin; refine Go.Lib.wpList_append_run _ rfl (.tmp 91) (.tmp 92) 24 24 rfl _ _ rfl rfl _ _ happ ?_)
  clear happ c5 f5 e5
  generalize w4'.setCell ⟨w8.heap.size + 1 + 1, pos % L, none⟩ (.int .u8 (sv' : Int)) = w10 at *
  generalize (w8.alloc (.cells #[.int .i64 1, .int .u16 (p.s : Int), .int .u16 (p.t : Int), .int .u32 (p.f : Int), .int .u16 (p.y : Int), .slice r8 p.n c8, .int .u64 0, .int .u32 0, .int .u32 0, .int .u16 0, .int .u16 0, .int .u32 0, .int .u16 0] 31)) = w9 at *
  have W10 := W9.out.grew HBB.out
  have R10 := R9.out.grew HBB.out
  have Q10 := Q9.out.grew HBB.out
  have A10 := A9.out.grew HBB.out
  have b10 := b9.out.trans (HBB.out.mono b9.out.size)
  generalize w8.heap.size = G8 at *
  clear W9 R9 Q9 A9 b9 HBB
  refine (packtake_any (some ⟨G8 + 1 + 1, 0, none⟩) L c4 _ w10 HT.out HC4.out (by omega)).mono ?_
  intro e w11 h
  obtain ⟨r11, c11, rfl, -, -, -, d⟩ := HT7.out _ _ _ h
  have a12 : Below w11.heap.size w11 (w11.alloc (.cells #[.int .i64 q7.k, .int .u16 (q7.s : Int), .int .u16 (q7.t : Int), .int .u32 (q7.f : Int), .int .u16 (q7.y : Int), .slice r11 q7.n c11, .int .u64 (q7.T : Int), .int .u32 (q7.l : Int), .int .u32 (q7.g : Int), .int .u16 (q7.u : Int), .int .u16 (q7.j : Int), .int .u32 (q7.F : Int), .int .u16 (q7.d : Int)] 31)) := (Below.refl _ _).alloc (Nat.le_refl _) _
  have W12 : Hid _ := (W10.grew d).grew a12
  have R12 : Hid _ := (R10.grew d).grew a12
  have Q12 : Hid _ := (Q10.grew d).grew a12
  have A12 : Hid _ := (A10.grew d).grew a12
  have b11 := b10.trans (d.mono b10.size)
  have b12 : Hid (Below w.heap.size w (w11.alloc (.cells #[.int .i64 q7.k, .int .u16 (q7.s : Int), .int .u16 (q7.t : Int), .int .u32 (q7.f : Int), .int .u16 (q7.y : Int), .slice r11 q7.n c11, .int .u64 (q7.T : Int), .int .u32 (q7.l : Int), .int .u32 (q7.g : Int), .int .u16 (q7.u : Int), .int .u16 (q7.j : Int), .int .u32 (q7.F : Int), .int .u16 (q7.d : Int)] 31))) := b11.trans (a12.mono b11.size)
  have hst : ∀ W, (Instr.slice 24 (.slice r7 L c7) none (some (.int .i64 ((pos : Int) % (L : Int)))) none).run Try.prog W = .ok (.slice r7 (pos % L) c7) W := by
    have h7 := Hk7.out
    intro W
    have := slice_to r7 L c7 (pos % L) W (by omega)
    rwa [Int.natCast_emod] at this
  clear h d a12 b11 W10 R10 Q10 A10 b10 HT HT7 HC4
  go_wp2_with fail
  clear hst lj0 lj'
  generalize (w11.alloc (.cells #[.int .i64 q7.k, .int .u16 (q7.s : Int), .int .u16 (q7.t : Int), .int .u32 (q7.f : Int), .int .u16 (q7.y : Int), .slice r11 q7.n c11, .int .u64 (q7.T : Int), .int .u32 (q7.l : Int), .int .u32 (q7.g : Int), .int .u16 (q7.u : Int), .int .u16 (q7.j : Int), .int .u32 (q7.F : Int), .int .u16 (q7.d : Int)] 31)) = w12 at *
  have R12 := R12.out
  have lj2 : pos % L ≤ c7 := by have := Hk7.out; omega
  refine (ropen_any r7 (pos % L) c7 _ w12 (R12.take (by omega)) lj2 (by omega)).mono ?_
  have F3 := F3.out
  generalize opB (ptX (kd p 1)) (pos % L) = ob at *
  generalize opN (ptX (kd p 1)) (pos % L) = on at *
  rintro e w13 ⟨r13, c13, rfl, -, -, -, -, d13⟩
  have F3 : Hid (((E9 : Int) == 3) = !ob) := F3
  have W13 := W12.out.grew d13
  have R13 := R12.grew d13
  have Q13 := Q12.out.grew d13
  have A13 := A12.out.grew d13
  have b13 := b12.out.trans (d13.mono b12.out.size)
  clear W12 R12 Q12 A12 b12 d13
  go_wp2_with fail
  refine (packtake_any r7 (pos % L) c7 _ w13 (R13.take (by omega)) lj2 (by omega)).mono ?_
  intro e w14 h
  obtain ⟨r14, c14, rfl, -, -, -, d⟩ := HT9.out _ _ _ h
  have a15 : Below w14.heap.size w14 (w14.alloc (.cells #[.int .i64 q9.k, .int .u16 (q9.s : Int), .int .u16 (q9.t : Int), .int .u32 (q9.f : Int), .int .u16 (q9.y : Int), .slice r14 q9.n c14, .int .u64 (q9.T : Int), .int .u32 (q9.l : Int), .int .u32 (q9.g : Int), .int .u16 (q9.u : Int), .int .u16 (q9.j : Int), .int .u32 (q9.F : Int), .int .u16 (q9.d : Int)] 31)) := (Below.refl _ _).alloc (Nat.le_refl _) _
  have W15 : Hid _ := (W13.grew d).grew a15
  have Q15 : Hid _ := (Q13.grew d).grew a15
  have A15 : Hid _ := (A13.grew d).grew a15
  have b14 := b13.trans (d.mono b13.size)
  have b15 : Hid (Below w.heap.size w (w14.alloc (.cells #[.int .i64 q9.k, .int .u16 (q9.s : Int), .int .u16 (q9.t : Int), .int .u32 (q9.f : Int), .int .u16 (q9.y : Int), .slice r14 q9.n c14, .int .u64 (q9.T : Int), .int .u32 (q9.l : Int), .int .u32 (q9.g : Int), .int .u16 (q9.u : Int), .int .u16 (q9.j : Int), .int .u32 (q9.F : Int), .int .u16 (q9.d : Int)] 31))) := b14.trans (a15.mono b14.size)
  have g0 : (w14.alloc (.cells #[.int .i64 q9.k, .int .u16 (q9.s : Int), .int .u16 (q9.t : Int), .int .u32 (q9.f : Int), .int .u16 (q9.y : Int), .slice r14 q9.n c14, .int .u64 (q9.T : Int), .int .u32 (q9.l : Int), .int .u32 (q9.g : Int), .int .u16 (q9.u : Int), .int .u16 (q9.j : Int), .int .u32 (q9.F : Int), .int .u16 (q9.d : Int)] 31)).cell? ⟨G8, 0, none⟩ = some (.int .i64 1) := A15.out.cell 0 (by decide)
  have g1 : (w14.alloc (.cells #[.int .i64 q9.k, .int .u16 (q9.s : Int), .int .u16 (q9.t : Int), .int .u32 (q9.f : Int), .int .u16 (q9.y : Int), .slice r14 q9.n c14, .int .u64 (q9.T : Int), .int .u32 (q9.l : Int), .int .u32 (q9.g : Int), .int .u16 (q9.u : Int), .int .u16 (q9.j : Int), .int .u32 (q9.F : Int), .int .u16 (q9.d : Int)] 31)).cell? ⟨G8, 1, none⟩ = some (.int .u16 (p.s : Int)) := A15.out.cell 1 (by decide)
  have g2 : (w14.alloc (.cells #[.int .i64 q9.k, .int .u16 (q9.s : Int), .int .u16 (q9.t : Int), .int .u32 (q9.f : Int), .int .u16 (q9.y : Int), .slice r14 q9.n c14, .int .u64 (q9.T : Int), .int .u32 (q9.l : Int), .int .u32 (q9.g : Int), .int .u16 (q9.u : Int), .int .u16 (q9.j : Int), .int .u32 (q9.F : Int), .int .u16 (q9.d : Int)] 31)).cell? ⟨G8, 2, none⟩ = some (.int .u16 (p.t : Int)) := A15.out.cell 2 (by decide)
  have g3 : (w14.alloc (.cells #[.int .i64 q9.k, .int .u16 (q9.s : Int), .int .u16 (q9.t : Int), .int .u32 (q9.f : Int), .int .u16 (q9.y : Int), .slice r14 q9.n c14, .int .u64 (q9.T : Int), .int .u32 (q9.l : Int), .int .u32 (q9.g : Int), .int .u16 (q9.u : Int), .int .u16 (q9.j : Int), .int .u32 (q9.F : Int), .int .u16 (q9.d : Int)] 31)).cell? ⟨G8, 3, none⟩ = some (.int .u32 (p.f : Int)) := A15.out.cell 3 (by decide)
  have g4 : (w14.alloc (.cells #[.int .i64 q9.k, .int .u16 (q9.s : Int), .int .u16 (q9.t : Int), .int .u32 (q9.f : Int), .int .u16 (q9.y : Int), .slice r14 q9.n c14, .int .u64 (q9.T : Int), .int .u32 (q9.l : Int), .int .u32 (q9.g : Int), .int .u16 (q9.u : Int), .int .u16 (q9.j : Int), .int .u32 (q9.F : Int), .int .u16 (q9.d : Int)] 31)).cell? ⟨G8, 4, none⟩ = some (.int .u16 (p.y : Int)) := A15.out.cell 4 (by decide)
  have g5 : (w14.alloc (.cells #[.int .i64 q9.k, .int .u16 (q9.s : Int), .int .u16 (q9.t : Int), .int .u32 (q9.f : Int), .int .u16 (q9.y : Int), .slice r14 q9.n c14, .int .u64 (q9.T : Int), .int .u32 (q9.l : Int), .int .u32 (q9.g : Int), .int .u16 (q9.u : Int), .int .u16 (q9.j : Int), .int .u32 (q9.F : Int), .int .u16 (q9.d : Int)] 31)).cell? ⟨G8, 5, none⟩ = some (.slice r8 p.n c8) := A15.out.cell 5 (by decide)
  have g6 : (w14.alloc (.cells #[.int .i64 q9.k, .int .u16 (q9.s : Int), .int .u16 (q9.t : Int), .int .u32 (q9.f : Int), .int .u16 (q9.y : Int), .slice r14 q9.n c14, .int .u64 (q9.T : Int), .int .u32 (q9.l : Int), .int .u32 (q9.g : Int), .int .u16 (q9.u : Int), .int .u16 (q9.j : Int), .int .u32 (q9.F : Int), .int .u16 (q9.d : Int)] 31)).cell? ⟨G8, 6, none⟩ = some (.int .u64 0) := A15.out.cell 6 (by decide)
  have g7 : (w14.alloc (.cells #[.int .i64 q9.k, .int .u16 (q9.s : Int), .int .u16 (q9.t : Int), .int .u32 (q9.f : Int), .int .u16 (q9.y : Int), .slice r14 q9.n c14, .int .u64 (q9.T : Int), .int .u32 (q9.l : Int), .int .u32 (q9.g : Int), .int .u16 (q9.u : Int), .int .u16 (q9.j : Int), .int .u32 (q9.F : Int), .int .u16 (q9.d : Int)] 31)).cell? ⟨G8, 7, none⟩ = some (.int .u32 0) := A15.out.cell 7 (by decide)
  have g8 : (w14.alloc (.cells #[.int .i64 q9.k, .int .u16 (q9.s : Int), .int .u16 (q9.t : Int), .int .u32 (q9.f : Int), .int .u16 (q9.y : Int), .slice r14 q9.n c14, .int .u64 (q9.T : Int), .int .u32 (q9.l : Int), .int .u32 (q9.g : Int), .int .u16 (q9.u : Int), .int .u16 (q9.j : Int), .int .u32 (q9.F : Int), .int .u16 (q9.d : Int)] 31)).cell? ⟨G8, 8, none⟩ = some (.int .u32 0) := A15.out.cell 8 (by decide)
  have g9 : (w14.alloc (.cells #[.int .i64 q9.k, .int .u16 (q9.s : Int), .int .u16 (q9.t : Int), .int .u32 (q9.f : Int), .int .u16 (q9.y : Int), .slice r14 q9.n c14, .int .u64 (q9.T : Int), .int .u32 (q9.l : Int), .int .u32 (q9.g : Int), .int .u16 (q9.u : Int), .int .u16 (q9.j : Int), .int .u32 (q9.F : Int), .int .u16 (q9.d : Int)] 31)).cell? ⟨G8, 9, none⟩ = some (.int .u16 0) := A15.out.cell 9 (by decide)
  have g10 : (w14.alloc (.cells #[.int .i64 q9.k, .int .u16 (q9.s : Int), .int .u16 (q9.t : Int), .int .u32 (q9.f : Int), .int .u16 (q9.y : Int), .slice r14 q9.n c14, .int .u64 (q9.T : Int), .int .u32 (q9.l : Int), .int .u32 (q9.g : Int), .int .u16 (q9.u : Int), .int .u16 (q9.j : Int), .int .u32 (q9.F : Int), .int .u16 (q9.d : Int)] 31)).cell? ⟨G8, 10, none⟩ = some (.int .u16 0) := A15.out.cell 10 (by decide)
  have g11 : (w14.alloc (.cells #[.int .i64 q9.k, .int .u16 (q9.s : Int), .int .u16 (q9.t : Int), .int .u32 (q9.f : Int), .int .u16 (q9.y : Int), .slice r14 q9.n c14, .int .u64 (q9.T : Int), .int .u32 (q9.l : Int), .int .u32 (q9.g : Int), .int .u16 (q9.u : Int), .int .u16 (q9.j : Int), .int .u32 (q9.F : Int), .int .u16 (q9.d : Int)] 31)).cell? ⟨G8, 11, none⟩ = some (.int .u32 0) := A15.out.cell 11 (by decide)
  have g12 : (w14.alloc (.cells #[.int .i64 q9.k, .int .u16 (q9.s : Int), .int .u16 (q9.t : Int), .int .u32 (q9.f : Int), .int .u16 (q9.y : Int), .slice r14 q9.n c14, .int .u64 (q9.T : Int), .int .u32 (q9.l : Int), .int .u32 (q9.g : Int), .int .u16 (q9.u : Int), .int .u16 (q9.j : Int), .int .u32 (q9.F : Int), .int .u16 (q9.d : Int)] 31)).cell? ⟨G8, 12, none⟩ = some (.int .u16 0) := A15.out.cell 12 (by decide)
  have h0 : (w14.alloc (.cells #[.int .i64 q9.k, .int .u16 (q9.s : Int), .int .u16 (q9.t : Int), .int .u32 (q9.f : Int), .int .u16 (q9.y : Int), .slice r14 q9.n c14, .int .u64 (q9.T : Int), .int .u32 (q9.l : Int), .int .u32 (q9.g : Int), .int .u16 (q9.u : Int), .int .u16 (q9.j : Int), .int .u32 (q9.F : Int), .int .u16 (q9.d : Int)] 31)).cell? ⟨G, 0, none⟩ = some (.int .i64 1) := W15.out.cell 0 (by decide)
  have h1 : (w14.alloc (.cells #[.int .i64 q9.k, .int .u16 (q9.s : Int), .int .u16 (q9.t : Int), .int .u32 (q9.f : Int), .int .u16 (q9.y : Int), .slice r14 q9.n c14, .int .u64 (q9.T : Int), .int .u32 (q9.l : Int), .int .u32 (q9.g : Int), .int .u16 (q9.u : Int), .int .u16 (q9.j : Int), .int .u32 (q9.F : Int), .int .u16 (q9.d : Int)] 31)).cell? ⟨G, 1, none⟩ = some (.int .u16 (p.s : Int)) := W15.out.cell 1 (by decide)
  have h2 : (w14.alloc (.cells #[.int .i64 q9.k, .int .u16 (q9.s : Int), .int .u16 (q9.t : Int), .int .u32 (q9.f : Int), .int .u16 (q9.y : Int), .slice r14 q9.n c14, .int .u64 (q9.T : Int), .int .u32 (q9.l : Int), .int .u32 (q9.g : Int), .int .u16 (q9.u : Int), .int .u16 (q9.j : Int), .int .u32 (q9.F : Int), .int .u16 (q9.d : Int)] 31)).cell? ⟨G, 2, none⟩ = some (.int .u16 (p.t : Int)) := W15.out.cell 2 (by decide)
  have h3 : (w14.alloc (.cells #[.int .i64 q9.k, .int .u16 (q9.s : Int), .int .u16 (q9.t : Int), .int .u32 (q9.f : Int), .int .u16 (q9.y : Int), .slice r14 q9.n c14, .int .u64 (q9.T : Int), .int .u32 (q9.l : Int), .int .u32 (q9.g : Int), .int .u16 (q9.u : Int), .int .u16 (q9.j : Int), .int .u32 (q9.F : Int), .int .u16 (q9.d : Int)] 31)).cell? ⟨G, 3, none⟩ = some (.int .u32 (p.f : Int)) := W15.out.cell 3 (by decide)
  have h4 : (w14.alloc (.cells #[.int .i64 q9.k, .int .u16 (q9.s : Int), .int .u16 (q9.t : Int), .int .u32 (q9.f : Int), .int .u16 (q9.y : Int), .slice r14 q9.n c14, .int .u64 (q9.T : Int), .int .u32 (q9.l : Int), .int .u32 (q9.g : Int), .int .u16 (q9.u : Int), .int .u16 (q9.j : Int), .int .u32 (q9.F : Int), .int .u16 (q9.d : Int)] 31)).cell? ⟨G, 4, none⟩ = some (.int .u16 (p.y : Int)) := W15.out.cell 4 (by decide)
  have h5 : (w14.alloc (.cells #[.int .i64 q9.k, .int .u16 (q9.s : Int), .int .u16 (q9.t : Int), .int .u32 (q9.f : Int), .int .u16 (q9.y : Int), .slice r14 q9.n c14, .int .u64 (q9.T : Int), .int .u32 (q9.l : Int), .int .u32 (q9.g : Int), .int .u16 (q9.u : Int), .int .u16 (q9.j : Int), .int .u32 (q9.F : Int), .int .u16 (q9.d : Int)] 31)).cell? ⟨G, 5, none⟩ = some (.slice r p.n c) := W15.out.cell 5 (by decide)
  have h6 : (w14.alloc (.cells #[.int .i64 q9.k, .int .u16 (q9.s : Int), .int .u16 (q9.t : Int), .int .u32 (q9.f : Int), .int .u16 (q9.y : Int), .slice r14 q9.n c14, .int .u64 (q9.T : Int), .int .u32 (q9.l : Int), .int .u32 (q9.g : Int), .int .u16 (q9.u : Int), .int .u16 (q9.j : Int), .int .u32 (q9.F : Int), .int .u16 (q9.d : Int)] 31)).cell? ⟨G, 6, none⟩ = some (.int .u64 0) := W15.out.cell 6 (by decide)
  have h7 : (w14.alloc (.cells #[.int .i64 q9.k, .int .u16 (q9.s : Int), .int .u16 (q9.t : Int), .int .u32 (q9.f : Int), .int .u16 (q9.y : Int), .slice r14 q9.n c14, .int .u64 (q9.T : Int), .int .u32 (q9.l : Int), .int .u32 (q9.g : Int), .int .u16 (q9.u : Int), .int .u16 (q9.j : Int), .int .u32 (q9.F : Int), .int .u16 (q9.d : Int)] 31)).cell? ⟨G, 7, none⟩ = some (.int .u32 0) := W15.out.cell 7 (by decide)
  have h8 : (w14.alloc (.cells #[.int .i64 q9.k, .int .u16 (q9.s : Int), .int .u16 (q9.t : Int), .int .u32 (q9.f : Int), .int .u16 (q9.y : Int), .slice r14 q9.n c14, .int .u64 (q9.T : Int), .int .u32 (q9.l : Int), .int .u32 (q9.g : Int), .int .u16 (q9.u : Int), .int .u16 (q9.j : Int), .int .u32 (q9.F : Int), .int .u16 (q9.d : Int)] 31)).cell? ⟨G, 8, none⟩ = some (.int .u32 0) := W15.out.cell 8 (by decide)
  have h9 : (w14.alloc (.cells #[.int .i64 q9.k, .int .u16 (q9.s : Int), .int .u16 (q9.t : Int), .int .u32 (q9.f : Int), .int .u16 (q9.y : Int), .slice r14 q9.n c14, .int .u64 (q9.T : Int), .int .u32 (q9.l : Int), .int .u32 (q9.g : Int), .int .u16 (q9.u : Int), .int .u16 (q9.j : Int), .int .u32 (q9.F : Int), .int .u16 (q9.d : Int)] 31)).cell? ⟨G, 9, none⟩ = some (.int .u16 0) := W15.out.cell 9 (by decide)
  have h10 : (w14.alloc (.cells #[.int .i64 q9.k, .int .u16 (q9.s : Int), .int .u16 (q9.t : Int), .int .u32 (q9.f : Int), .int .u16 (q9.y : Int), .slice r14 q9.n c14, .int .u64 (q9.T : Int), .int .u32 (q9.l : Int), .int .u32 (q9.g : Int), .int .u16 (q9.u : Int), .int .u16 (q9.j : Int), .int .u32 (q9.F : Int), .int .u16 (q9.d : Int)] 31)).cell? ⟨G, 10, none⟩ = some (.int .u16 0) := W15.out.cell 10 (by decide)
  have h11 : (w14.alloc (.cells #[.int .i64 q9.k, .int .u16 (q9.s : Int), .int .u16 (q9.t : Int), .int .u32 (q9.f : Int), .int .u16 (q9.y : Int), .slice r14 q9.n c14, .int .u64 (q9.T : Int), .int .u32 (q9.l : Int), .int .u32 (q9.g : Int), .int .u16 (q9.u : Int), .int .u16 (q9.j : Int), .int .u32 (q9.F : Int), .int .u16 (q9.d : Int)] 31)).cell? ⟨G, 11, none⟩ = some (.int .u32 0) := W15.out.cell 11 (by decide)
  have h12 : (w14.alloc (.cells #[.int .i64 q9.k, .int .u16 (q9.s : Int), .int .u16 (q9.t : Int), .int .u32 (q9.f : Int), .int .u16 (q9.y : Int), .slice r14 q9.n c14, .int .u64 (q9.T : Int), .int .u32 (q9.l : Int), .int .u32 (q9.g : Int), .int .u16 (q9.u : Int), .int .u16 (q9.j : Int), .int .u32 (q9.F : Int), .int .u16 (q9.d : Int)] 31)).cell? ⟨G, 12, none⟩ = some (.int .u16 0) := W15.out.cell 12 (by decide)
  clear h d a15 b14 W13 R13 Q13 A13 b13 HT9 Hk7 lj2
  go_wp2_with fail
  generalize (w14.alloc (.cells #[.int .i64 q9.k, .int .u16 (q9.s : Int), .int .u16 (q9.t : Int), .int .u32 (q9.f : Int), .int .u16 (q9.y : Int), .slice r14 q9.n c14, .int .u64 (q9.T : Int), .int .u32 (q9.l : Int), .int .u32 (q9.g : Int), .int .u16 (q9.u : Int), .int .u16 (q9.j : Int), .int .u32 (q9.F : Int), .int .u16 (q9.d : Int)] 31)) = w15 at *
  clear g0 g1 g2 g3 g4 g5 g6 g7 g8 g9 g10 g11 g12 h0 h1 h2 h3 h4 h5 h6 h7 h8 h9 h10 h11 h12 A15 W15
  refine (alike_1 r8 r c8 c w15 Q15.out (HX.out.grew b15.out)).mono ?_
  rintro e w16 ⟨rfl, d⟩
  have HB : Hid (Below w.heap.size w w16) := b15.out.trans (d.mono b15.out.size)
  have F1 := F1.out
  have F2 := F2.out
  have F3 := F3.out
  clear d b15 Q15
  generalize hv0 : ((v : Int) == 0) = v0 at *
  cases v0 <;> cases ob
  all_goals
    go_wp2
    go_ret
    exact ⟨rfl, HB.out⟩

set_option maxRecDepth 100000 in
set_option maxHeartbeats 4000000 in
theorem core_2 (p : Pk) (r : Option Addr) (c kind pos v : Nat) (w : World) (o : p.Ok) (hx : BytesAt w r p.n p.x) (n1 : 1 ≤ p.n) (n2 : p.n ≤ 64) (hk : kind % 4 = 1) (hp : pos < 65536) (hv : v < 256) :
    Calls Try.prog 4 #[.agg #[.int .i64 p.k, .int .u16 (p.s : Int), .int .u16 (p.t : Int), .int .u32 (p.f : Int), .int .u16 (p.y : Int), .slice r p.n c, .int .u64 (p.T : Int), .int .u32 (p.l : Int), .int .u32 (p.g : Int), .int .u16 (p.u : Int), .int .u16 (p.j : Int), .int .u32 (p.F : Int), .int .u16 (p.d : Int)], .int .u8 (kind : Int), .int .u16 (pos : Int), .int .u8 (v : Int)] w fun e w' => e = .returned (.bool true) ∧ Below w.heap.size w w' := by
  have e0 : Hid (bE (kd p 2) = 0) := kd_err 2 n1 n2 (by decide) (by decide)
  have eL : Hid (ptN (kd p 2) = 25) := by show _ = _; rw [ptN_yes e0.out]; exact (congrArg (fun t => 1 + t + 4) (b_rep rfl).1).trans (by rfl)
  have HX : Hid (BytesAt w r p.n p.x) := hx
  have i0 : decide ((p.n : Int) < 1) = false := by simp; omega
  have i1 : decide ((64 : Int) < (p.n : Int)) = false := by simp; omega
  have i2 : (kind : Int) % 4 = 1 := by omega
  have D1 := PkAt.made w 31 p r c
  have b1 : Below w.heap.size w (w.alloc (.cells #[.int .i64 p.k, .int .u16 (p.s : Int), .int .u16 (p.t : Int), .int .u32 (p.f : Int), .int .u16 (p.y : Int), .slice r p.n c, .int .u64 (p.T : Int), .int .u32 (p.l : Int), .int .u32 (p.g : Int), .int .u16 (p.u : Int), .int .u16 (p.j : Int), .int .u32 (p.F : Int), .int .u16 (p.d : Int)] 31)) := (Below.refl _ _).alloc (Nat.le_refl _) _
  clear hx hk
  go_enter Try.func4, Try.ntmps4
  go_wp2_with fail
  generalize (w.alloc (.cells #[.int .i64 p.k, .int .u16 (p.s : Int), .int .u16 (p.t : Int), .int .u32 (p.f : Int), .int .u16 (p.y : Int), .slice r p.n c, .int .u64 (p.T : Int), .int .u32 (p.l : Int), .int .u32 (p.g : Int), .int .u16 (p.u : Int), .int .u16 (p.j : Int), .int .u32 (p.F : Int), .int .u16 (p.d : Int)] 31)) = w1 at *
  refine (begun11 _).mono ?_
  rintro e w2 ⟨rfl, d2⟩
  have D2 := D1.grew d2
  have b2 := b1.trans (d2.mono b1.size)
  have q5 : w2.cell? ⟨w.heap.size, 5, none⟩ = some (.slice r p.n c) := D2.cell 5 (by decide)
  have q0 : w2.cell? ⟨w.heap.size, 0, none⟩ = some (.int .i64 p.k) := D2.cell 0 (by decide)
  have z0 := D2.frz 0
  have D3 : PkAt (w2.setCell ⟨w.heap.size, 0, none⟩ (.int .i64 2)) w.heap.size (kd p 2) r c := D2.run 0 [.int .i64 2] (Nat.le_of_ble_eq_true rfl) fun j hj => match j, hj with
    | 0, _ => rfl
    | 1, _ => rfl
    | 2, _ => rfl
    | 3, _ => rfl
    | 4, _ => rfl
    | 5, _ => rfl
    | 6, _ => rfl
    | 7, _ => rfl
    | 8, _ => rfl
    | 9, _ => rfl
    | 10, _ => rfl
    | 11, _ => rfl
    | 12, _ => rfl
  have b3 : Below w.heap.size w (w2.setCell ⟨w.heap.size, 0, none⟩ (.int .i64 2)) := b2.setCell (p := ⟨w.heap.size, 0, none⟩) (Nat.le_refl _) _
  have s3 : (w2.setCell ⟨w.heap.size, 0, none⟩ (.int .i64 2)).heap.size = w2.heap.size := by simp [World.setCell]
  have a4 : Below (w2.setCell ⟨w.heap.size, 0, none⟩ (.int .i64 2)).heap.size (w2.setCell ⟨w.heap.size, 0, none⟩ (.int .i64 2)) ((w2.setCell ⟨w.heap.size, 0, none⟩ (.int .i64 2)).alloc (.cells #[.int .i64 2, .int .u16 0, .int .u16 0, .int .u32 0, .int .u16 0, .slice none 0 0, .int .u64 0, .int .u32 0, .int .u32 0, .int .u16 0, .int .u16 0, .int .u32 0, .int .u16 0] 31)) := (Below.refl _ _).alloc (Nat.le_refl _) _
  have HD : Hid (PkAt ((w2.setCell ⟨w.heap.size, 0, none⟩ (.int .i64 2)).alloc (.cells #[.int .i64 2, .int .u16 0, .int .u16 0, .int .u32 0, .int .u16 0, .slice none 0 0, .int .u64 0, .int .u32 0, .int .u32 0, .int .u16 0, .int .u16 0, .int .u32 0, .int .u16 0] 31)) w.heap.size (kd p 2) r c) := D3.grew a4
  have HW : Hid (PkAt ((w2.setCell ⟨w.heap.size, 0, none⟩ (.int .i64 2)).alloc (.cells #[.int .i64 2, .int .u16 0, .int .u16 0, .int .u32 0, .int .u16 0, .slice none 0 0, .int .u64 0, .int .u32 0, .int .u32 0, .int .u16 0, .int .u16 0, .int .u32 0, .int .u16 0] 31)) w2.heap.size (pKind 2) none 0) := by
    have := PkAt.made (w2.setCell ⟨w.heap.size, 0, none⟩ (.int .i64 2)) 31 (pKind 2) none 0
    rwa [s3] at this
  have Hb : Hid (Below w.heap.size w ((w2.setCell ⟨w.heap.size, 0, none⟩ (.int .i64 2)).alloc (.cells #[.int .i64 2, .int .u16 0, .int .u16 0, .int .u32 0, .int .u16 0, .slice none 0 0, .int .u64 0, .int .u32 0, .int .u32 0, .int .u16 0, .int .u16 0, .int .u32 0, .int .u16 0] 31))) := b3.trans (a4.mono b3.size)
  have HG : Hid (w.heap.size < w2.heap.size) := D2.lt
  clear D1 b1 d2 D2 b2 a4
  have h6 : ((w2.setCell ⟨w.heap.size, 0, none⟩ (.int .i64 2)).alloc (.cells #[.int .i64 2, .int .u16 0, .int .u16 0, .int .u32 0, .int .u16 0, .slice none 0 0, .int .u64 0, .int .u32 0, .int .u32 0, .int .u16 0, .int .u16 0, .int .u32 0, .int .u16 0] 31)).cell? ⟨w.heap.size, 6, none⟩ = some (.int .u64 (p.T : Int)) := HD.out.cell 6 (by decide)
  have h7 : ((w2.setCell ⟨w.heap.size, 0, none⟩ (.int .i64 2)).alloc (.cells #[.int .i64 2, .int .u16 0, .int .u16 0, .int .u32 0, .int .u16 0, .slice none 0 0, .int .u64 0, .int .u32 0, .int .u32 0, .int .u16 0, .int .u16 0, .int .u32 0, .int .u16 0] 31)).cell? ⟨w.heap.size, 7, none⟩ = some (.int .u32 (p.l : Int)) := HD.out.cell 7 (by decide)
  have h8 : ((w2.setCell ⟨w.heap.size, 0, none⟩ (.int .i64 2)).alloc (.cells #[.int .i64 2, .int .u16 0, .int .u16 0, .int .u32 0, .int .u16 0, .slice none 0 0, .int .u64 0, .int .u32 0, .int .u32 0, .int .u16 0, .int .u16 0, .int .u32 0, .int .u16 0] 31)).cell? ⟨w.heap.size, 8, none⟩ = some (.int .u32 (p.g : Int)) := HD.out.cell 8 (by decide)
  have h9 : ((w2.setCell ⟨w.heap.size, 0, none⟩ (.int .i64 2)).alloc (.cells #[.int .i64 2, .int .u16 0, .int .u16 0, .int .u32 0, .int .u16 0, .slice none 0 0, .int .u64 0, .int .u32 0, .int .u32 0, .int .u16 0, .int .u16 0, .int .u32 0, .int .u16 0] 31)).cell? ⟨w.heap.size, 9, none⟩ = some (.int .u16 (p.u : Int)) := HD.out.cell 9 (by decide)
  have h10 : ((w2.setCell ⟨w.heap.size, 0, none⟩ (.int .i64 2)).alloc (.cells #[.int .i64 2, .int .u16 0, .int .u16 0, .int .u32 0, .int .u16 0, .slice none 0 0, .int .u64 0, .int .u32 0, .int .u32 0, .int .u16 0, .int .u16 0, .int .u32 0, .int .u16 0] 31)).cell? ⟨w.heap.size, 10, none⟩ = some (.int .u16 (p.j : Int)) := HD.out.cell 10 (by decide)
  have HW5 : Hid (PkAt ((w2.setCell ⟨w.heap.size, 0, none⟩ (.int .i64 2)).alloc (.cells #[.int .i64 2, .int .u16 0, .int .u16 0, .int .u32 0, .int .u16 0, .slice none 0 0, .int .u64 (p.T : Int), .int .u32 (p.l : Int), .int .u32 (p.g : Int), .int .u16 (p.u : Int), .int .u16 (p.j : Int), .int .u32 0, .int .u16 0] 31)) w2.heap.size (bare (kd p 2)) none 0) := by
    have := PkAt.made (w2.setCell ⟨w.heap.size, 0, none⟩ (.int .i64 2)) 31 (bare (kd p 2)) none 0
    rwa [s3] at this
  have a5 : Below (w2.setCell ⟨w.heap.size, 0, none⟩ (.int .i64 2)).heap.size (w2.setCell ⟨w.heap.size, 0, none⟩ (.int .i64 2)) ((w2.setCell ⟨w.heap.size, 0, none⟩ (.int .i64 2)).alloc (.cells #[.int .i64 2, .int .u16 0, .int .u16 0, .int .u32 0, .int .u16 0, .slice none 0 0, .int .u64 (p.T : Int), .int .u32 (p.l : Int), .int .u32 (p.g : Int), .int .u16 (p.u : Int), .int .u16 (p.j : Int), .int .u32 0, .int .u16 0] 31)) := (Below.refl _ _).alloc (Nat.le_refl _) _
  have HD5 : Hid (PkAt ((w2.setCell ⟨w.heap.size, 0, none⟩ (.int .i64 2)).alloc (.cells #[.int .i64 2, .int .u16 0, .int .u16 0, .int .u32 0, .int .u16 0, .slice none 0 0, .int .u64 (p.T : Int), .int .u32 (p.l : Int), .int .u32 (p.g : Int), .int .u16 (p.u : Int), .int .u16 (p.j : Int), .int .u32 0, .int .u16 0] 31)) w.heap.size (kd p 2) r c) := D3.grew a5
  have Hb5 : Hid (Below w.heap.size w ((w2.setCell ⟨w.heap.size, 0, none⟩ (.int .i64 2)).alloc (.cells #[.int .i64 2, .int .u16 0, .int .u16 0, .int .u32 0, .int .u16 0, .slice none 0 0, .int .u64 (p.T : Int), .int .u32 (p.l : Int), .int .u32 (p.g : Int), .int .u16 (p.u : Int), .int .u16 (p.j : Int), .int .u32 0, .int .u16 0] 31))) := b3.trans (a5.mono b3.size)
  have g1 : ((w2.setCell ⟨w.heap.size, 0, none⟩ (.int .i64 2)).alloc (.cells #[.int .i64 2, .int .u16 0, .int .u16 0, .int .u32 0, .int .u16 0, .slice none 0 0, .int .u64 (p.T : Int), .int .u32 (p.l : Int), .int .u32 (p.g : Int), .int .u16 (p.u : Int), .int .u16 (p.j : Int), .int .u32 0, .int .u16 0] 31)).cell? ⟨w.heap.size, 1, none⟩ = some (.int .u16 (p.s : Int)) := HD5.out.cell 1 (by decide)
  have g2 : ((w2.setCell ⟨w.heap.size, 0, none⟩ (.int .i64 2)).alloc (.cells #[.int .i64 2, .int .u16 0, .int .u16 0, .int .u32 0, .int .u16 0, .slice none 0 0, .int .u64 (p.T : Int), .int .u32 (p.l : Int), .int .u32 (p.g : Int), .int .u16 (p.u : Int), .int .u16 (p.j : Int), .int .u32 0, .int .u16 0] 31)).cell? ⟨w.heap.size, 2, none⟩ = some (.int .u16 (p.t : Int)) := HD5.out.cell 2 (by decide)
  have g3 : ((w2.setCell ⟨w.heap.size, 0, none⟩ (.int .i64 2)).alloc (.cells #[.int .i64 2, .int .u16 0, .int .u16 0, .int .u32 0, .int .u16 0, .slice none 0 0, .int .u64 (p.T : Int), .int .u32 (p.l : Int), .int .u32 (p.g : Int), .int .u16 (p.u : Int), .int .u16 (p.j : Int), .int .u32 0, .int .u16 0] 31)).cell? ⟨w.heap.size, 3, none⟩ = some (.int .u32 (p.f : Int)) := HD5.out.cell 3 (by decide)
  have g4 : ((w2.setCell ⟨w.heap.size, 0, none⟩ (.int .i64 2)).alloc (.cells #[.int .i64 2, .int .u16 0, .int .u16 0, .int .u32 0, .int .u16 0, .slice none 0 0, .int .u64 (p.T : Int), .int .u32 (p.l : Int), .int .u32 (p.g : Int), .int .u16 (p.u : Int), .int .u16 (p.j : Int), .int .u32 0, .int .u16 0] 31)).cell? ⟨w.heap.size, 4, none⟩ = some (.int .u16 (p.y : Int)) := HD5.out.cell 4 (by decide)
  have g5 : ((w2.setCell ⟨w.heap.size, 0, none⟩ (.int .i64 2)).alloc (.cells #[.int .i64 2, .int .u16 0, .int .u16 0, .int .u32 0, .int .u16 0, .slice none 0 0, .int .u64 (p.T : Int), .int .u32 (p.l : Int), .int .u32 (p.g : Int), .int .u16 (p.u : Int), .int .u16 (p.j : Int), .int .u32 0, .int .u16 0] 31)).cell? ⟨w.heap.size, 5, none⟩ = some (.slice r p.n c) := HD5.out.cell 5 (by decide)
  have g6 : ((w2.setCell ⟨w.heap.size, 0, none⟩ (.int .i64 2)).alloc (.cells #[.int .i64 2, .int .u16 0, .int .u16 0, .int .u32 0, .int .u16 0, .slice none 0 0, .int .u64 (p.T : Int), .int .u32 (p.l : Int), .int .u32 (p.g : Int), .int .u16 (p.u : Int), .int .u16 (p.j : Int), .int .u32 0, .int .u16 0] 31)).cell? ⟨w.heap.size, 6, none⟩ = some (.int .u64 (p.T : Int)) := HD5.out.cell 6 (by decide)
  have g7 : ((w2.setCell ⟨w.heap.size, 0, none⟩ (.int .i64 2)).alloc (.cells #[.int .i64 2, .int .u16 0, .int .u16 0, .int .u32 0, .int .u16 0, .slice none 0 0, .int .u64 (p.T : Int), .int .u32 (p.l : Int), .int .u32 (p.g : Int), .int .u16 (p.u : Int), .int .u16 (p.j : Int), .int .u32 0, .int .u16 0] 31)).cell? ⟨w.heap.size, 7, none⟩ = some (.int .u32 (p.l : Int)) := HD5.out.cell 7 (by decide)
  have g8 : ((w2.setCell ⟨w.heap.size, 0, none⟩ (.int .i64 2)).alloc (.cells #[.int .i64 2, .int .u16 0, .int .u16 0, .int .u32 0, .int .u16 0, .slice none 0 0, .int .u64 (p.T : Int), .int .u32 (p.l : Int), .int .u32 (p.g : Int), .int .u16 (p.u : Int), .int .u16 (p.j : Int), .int .u32 0, .int .u16 0] 31)).cell? ⟨w.heap.size, 8, none⟩ = some (.int .u32 (p.g : Int)) := HD5.out.cell 8 (by decide)
  have g9 : ((w2.setCell ⟨w.heap.size, 0, none⟩ (.int .i64 2)).alloc (.cells #[.int .i64 2, .int .u16 0, .int .u16 0, .int .u32 0, .int .u16 0, .slice none 0 0, .int .u64 (p.T : Int), .int .u32 (p.l : Int), .int .u32 (p.g : Int), .int .u16 (p.u : Int), .int .u16 (p.j : Int), .int .u32 0, .int .u16 0] 31)).cell? ⟨w.heap.size, 9, none⟩ = some (.int .u16 (p.u : Int)) := HD5.out.cell 9 (by decide)
  have g10 : ((w2.setCell ⟨w.heap.size, 0, none⟩ (.int .i64 2)).alloc (.cells #[.int .i64 2, .int .u16 0, .int .u16 0, .int .u32 0, .int .u16 0, .slice none 0 0, .int .u64 (p.T : Int), .int .u32 (p.l : Int), .int .u32 (p.g : Int), .int .u16 (p.u : Int), .int .u16 (p.j : Int), .int .u32 0, .int .u16 0] 31)).cell? ⟨w.heap.size, 10, none⟩ = some (.int .u16 (p.j : Int)) := HD5.out.cell 10 (by decide)
  have g11 : ((w2.setCell ⟨w.heap.size, 0, none⟩ (.int .i64 2)).alloc (.cells #[.int .i64 2, .int .u16 0, .int .u16 0, .int .u32 0, .int .u16 0, .slice none 0 0, .int .u64 (p.T : Int), .int .u32 (p.l : Int), .int .u32 (p.g : Int), .int .u16 (p.u : Int), .int .u16 (p.j : Int), .int .u32 0, .int .u16 0] 31)).cell? ⟨w.heap.size, 11, none⟩ = some (.int .u32 (p.F : Int)) := HD5.out.cell 11 (by decide)
  have g12 : ((w2.setCell ⟨w.heap.size, 0, none⟩ (.int .i64 2)).alloc (.cells #[.int .i64 2, .int .u16 0, .int .u16 0, .int .u32 0, .int .u16 0, .slice none 0 0, .int .u64 (p.T : Int), .int .u32 (p.l : Int), .int .u32 (p.g : Int), .int .u16 (p.u : Int), .int .u16 (p.j : Int), .int .u32 0, .int .u16 0] 31)).cell? ⟨w.heap.size, 12, none⟩ = some (.int .u16 (p.d : Int)) := HD5.out.cell 12 (by decide)
  have g0 : ((w2.setCell ⟨w.heap.size, 0, none⟩ (.int .i64 2)).alloc (.cells #[.int .i64 2, .int .u16 0, .int .u16 0, .int .u32 0, .int .u16 0, .slice none 0 0, .int .u64 (p.T : Int), .int .u32 (p.l : Int), .int .u32 (p.g : Int), .int .u16 (p.u : Int), .int .u16 (p.j : Int), .int .u32 0, .int .u16 0] 31)).cell? ⟨w.heap.size, 0, none⟩ = some (.int .i64 2) := HD5.out.cell 0 (by decide)
  have h0 : ((w2.setCell ⟨w.heap.size, 0, none⟩ (.int .i64 2)).alloc (.cells #[.int .i64 2, .int .u16 0, .int .u16 0, .int .u32 0, .int .u16 0, .slice none 0 0, .int .u64 0, .int .u32 0, .int .u32 0, .int .u16 0, .int .u16 0, .int .u32 0, .int .u16 0] 31)).cell? ⟨w.heap.size, 0, none⟩ = some (.int .i64 2) := HD.out.cell 0 (by decide)
  clear HD HW Hb D3 b3 s3 a5
  go_wp2_with fail
  generalize ((w2.setCell ⟨w.heap.size, 0, none⟩ (.int .i64 2)).alloc (.cells #[.int .i64 2, .int .u16 0, .int .u16 0, .int .u32 0, .int .u16 0, .slice none 0 0, .int .u64 (p.T : Int), .int .u32 (p.l : Int), .int .u32 (p.g : Int), .int .u16 (p.u : Int), .int .u16 (p.j : Int), .int .u32 0, .int .u16 0] 31)) = w5 at *
  clear g0 g1 g2 g3 g4 g5 g6 g7 g8 g9 g10 g11 g12 h6 h7 h8 h9 h10 h0 q0 q5 z0 i0 i1
  generalize w2.heap.size = G at *
  clear i2 HD5
  have HO := kd_ok o 2
  obtain ⟨L, hL⟩ : ∃ L, L = ptN (kd p 2) := ⟨_, rfl⟩
  have lL : L = 25 := hL.trans eL.out
  refine (put_2 o r c w5 (HX.out.grew Hb5.out)).mono ?_
  rw [← hL, e0.out]
  rintro e w7 ⟨r7, c7, rfl, k7, -, B7, d7⟩
  have W7 := HW5.out.grew d7
  have b7 := Hb5.out.trans (d7.mono Hb5.out.size)
  have HB7 : Hid (BytesAt w7 r7 L (ptX (kd p 2))) := B7
  have Hk7 : Hid (L ≤ c7) := k7
  have lL2 : 9 ≤ L ∧ L ≤ 79 := by omega
  have iL : ((L : Int) != 25) = false := by rw [lL]; simp
  have HLp : Hid (L = ptN (kd p 2)) := hL
  clear HW5 Hb5 d7 B7 k7 lL eL hL
  go_wp2_with fail
  clear iL
  refine (packtake_any r7 L c7 _ w7 HB7.out Hk7.out (by omega)).mono ?_
  intro e w8 h8
  rw [HLp.out] at h8
  obtain ⟨r8, c8, rfl, Q8, d8⟩ := back_2 (tk_back HO e0.out h8)
  have a9 : Below w8.heap.size w8 (w8.alloc (.cells #[.int .i64 2, .int .u16 0, .int .u16 0, .int .u32 0, .int .u16 0, .slice r8 0 c8, .int .u64 (p.T : Int), .int .u32 (p.l : Int), .int .u32 (p.g : Int), .int .u16 (p.u : Int), .int .u16 (p.j : Int), .int .u32 0, .int .u16 0] 31)) := (Below.refl _ _).alloc (Nat.le_refl _) _
  have W9 : Hid _ := (W7.grew d8).grew a9
  have R9 : Hid (BytesAt (w8.alloc (.cells #[.int .i64 2, .int .u16 0, .int .u16 0, .int .u32 0, .int .u16 0, .slice r8 0 c8, .int .u64 (p.T : Int), .int .u32 (p.l : Int), .int .u32 (p.g : Int), .int .u16 (p.u : Int), .int .u16 (p.j : Int), .int .u32 0, .int .u16 0] 31)) r7 L (ptX (kd p 2))) := (HB7.out.grew d8).grew a9
  have Q9 : Hid _ := Q8.grew a9
  have A9 : Hid (PkAt (w8.alloc (.cells #[.int .i64 2, .int .u16 0, .int .u16 0, .int .u32 0, .int .u16 0, .slice r8 0 c8, .int .u64 (p.T : Int), .int .u32 (p.l : Int), .int .u32 (p.g : Int), .int .u16 (p.u : Int), .int .u16 (p.j : Int), .int .u32 0, .int .u16 0] 31)) w8.heap.size (bare (kd p 2)) r8 c8) := PkAt.made w8 31 (bare (kd p 2)) r8 c8
  have b8 := b7.trans (d8.mono b7.size)
  have b9 : Hid (Below w.heap.size w (w8.alloc (.cells #[.int .i64 2, .int .u16 0, .int .u16 0, .int .u32 0, .int .u16 0, .slice r8 0 c8, .int .u64 (p.T : Int), .int .u32 (p.l : Int), .int .u32 (p.g : Int), .int .u16 (p.u : Int), .int .u16 (p.j : Int), .int .u32 0, .int .u16 0] 31))) := b8.trans (a9.mono b8.size)
  have lj : pos % L < L := Nat.mod_lt _ (by omega)
  have lx : ∀ i, i < L → ptX (kd p 2) i < 256 := HB7.out.lt
  have bb3 : Below (w8.alloc (.cells #[.int .i64 2, .int .u16 0, .int .u16 0, .int .u32 0, .int .u16 0, .slice r8 0 c8, .int .u64 (p.T : Int), .int .u32 (p.l : Int), .int .u32 (p.g : Int), .int .u16 (p.u : Int), .int .u16 (p.j : Int), .int .u32 0, .int .u16 0] 31)).heap.size (w8.alloc (.cells #[.int .i64 2, .int .u16 0, .int .u16 0, .int .u32 0, .int .u16 0, .slice r8 0 c8, .int .u64 (p.T : Int), .int .u32 (p.l : Int), .int .u32 (p.g : Int), .int .u16 (p.u : Int), .int .u16 (p.j : Int), .int .u32 0, .int .u16 0] 31)) ((w8.alloc (.cells #[.int .i64 2, .int .u16 0, .int .u16 0, .int .u32 0, .int .u16 0, .slice r8 0 c8, .int .u64 (p.T : Int), .int .u32 (p.l : Int), .int .u32 (p.g : Int), .int .u16 (p.u : Int), .int .u16 (p.j : Int), .int .u32 0, .int .u16 0] 31)).alloc (.cells #[] 5)) := (Below.refl _ _).alloc (Nat.le_refl _) _
  obtain ⟨c4, w4', happ, hc4, B4, d4, -, F4⟩ := clone_own ⟨(w8.alloc (.cells #[.int .i64 2, .int .u16 0, .int .u16 0, .int .u32 0, .int .u16 0, .slice r8 0 c8, .int .u64 (p.T : Int), .int .u32 (p.l : Int), .int .u32 (p.g : Int), .int .u16 (p.u : Int), .int .u16 (p.j : Int), .int .u32 0, .int .u16 0] 31)).heap.size, 0, none⟩ 24 _ L c7 _ _ (R9.out.grew bb3) (by omega) (by omega)
  have bb4 := bb3.trans (d4.mono bb3.size)
  rw [show ((w8.alloc (.cells #[.int .i64 2, .int .u16 0, .int .u16 0, .int .u32 0, .int .u16 0, .slice r8 0 c8, .int .u64 (p.T : Int), .int .u32 (p.l : Int), .int .u32 (p.g : Int), .int .u16 (p.u : Int), .int .u16 (p.j : Int), .int .u32 0, .int .u16 0] 31)).alloc (.cells #[] 5)).heap.size = w8.heap.size + 1 + 1 by simp] at happ B4 F4
  rw [show (w8.alloc (.cells #[.int .i64 2, .int .u16 0, .int .u16 0, .int .u32 0, .int .u16 0, .slice r8 0 c8, .int .u64 (p.T : Int), .int .u32 (p.l : Int), .int .u32 (p.g : Int), .int .u16 (p.u : Int), .int .u16 (p.j : Int), .int .u32 0, .int .u16 0] 31)).heap.size = w8.heap.size + 1 by simp] at happ bb4
  clear h8 d8 a9 b7 b8 W7 HB7 Q8 bb3 d4
  have c5 := bytes_cell B4 (pos % L) lj
  rw [Nat.zero_add] at c5
  have f5 := F4 (pos % L)
  have e5 := u8_xor_nat (ptX (kd p 2) (pos % L)) v (lx _ lj) hv
  have HT : Hid (BytesAt (w4'.setCell ⟨w8.heap.size + 1 + 1, pos % L, none⟩ (.int .u8 ((ptX (kd p 2) (pos % L) ^^^ v : Nat) : Int))) (some ⟨w8.heap.size + 1 + 1, 0, none⟩) L (flip (ptX (kd p 2)) (pos % L) v)) := flip_bytes B4 lj hv
  have HBB : Hid (Below (w8.alloc (.cells #[.int .i64 2, .int .u16 0, .int .u16 0, .int .u32 0, .int .u16 0, .slice r8 0 c8, .int .u64 (p.T : Int), .int .u32 (p.l : Int), .int .u32 (p.g : Int), .int .u16 (p.u : Int), .int .u16 (p.j : Int), .int .u32 0, .int .u16 0] 31)).heap.size (w8.alloc (.cells #[.int .i64 2, .int .u16 0, .int .u16 0, .int .u32 0, .int .u16 0, .slice r8 0 c8, .int .u64 (p.T : Int), .int .u32 (p.l : Int), .int .u32 (p.g : Int), .int .u16 (p.u : Int), .int .u16 (p.j : Int), .int .u32 0, .int .u16 0] 31)) (w4'.setCell ⟨w8.heap.size + 1 + 1, pos % L, none⟩ (.int .u8 ((ptX (kd p 2) (pos % L) ^^^ v : Nat) : Int)))) := by
    show Below _ _ _
    rw [show (w8.alloc (.cells #[.int .i64 2, .int .u16 0, .int .u16 0, .int .u32 0, .int .u16 0, .slice r8 0 c8, .int .u64 (p.T : Int), .int .u32 (p.l : Int), .int .u32 (p.g : Int), .int .u16 (p.u : Int), .int .u16 (p.j : Int), .int .u32 0, .int .u16 0] 31)).heap.size = w8.heap.size + 1 by simp]
    exact bb4.setCell (p := ⟨w8.heap.size + 1 + 1, pos % L, none⟩) (Nat.le_succ _) _
  obtain ⟨q7, E7, HT7, F1, F2⟩ : ∃ q E, Hid (∀ w e w', TkIs w L (flip (ptX (kd p 2)) (pos % L) v) e w' → PkIs w q E e w') ∧ ((E : Int) == 0) = ((v : Int) == 0) ∧ ((E : Int) == 3) = !((v : Int) == 0) := by
    have h := err_flip HO e0.out (pos % L) v (by rw [← HLp.out]; exact lj) hv
    rw [← HLp.out] at h
    exact ⟨_, _, fun _ _ _ h => h, h⟩
  obtain ⟨q9, E9, HT9, F3⟩ : ∃ q E, Hid (∀ w e w', TkIs w (pos % L) (ptX (kd p 2)) e w' → PkIs w q E e w') ∧ ((E : Int) == 3) = !(opB (ptX (kd p 2)) (pos % L)) := ⟨_, _, fun _ _ _ h => h, err_open _ _⟩
  generalize ptX (kd p 2) (pos % L) ^^^ v = sv' at *
  generalize ptX (kd p 2) (pos % L) = sv at *
  have HC4 : Hid (L ≤ c4) := hc4
  have lj0 : 0 ≤ (pos : Int) % (L : Int) := Int.emod_nonneg _ (by omega)
  have lj' : (pos : Int) % (L : Int) < (L : Int) := Int.emod_lt_of_pos _ (by omega)
  have F1 : Hid (((E7 : Int) == 0) = ((v : Int) == 0)) := F1
  have F2 : Hid (((E7 : Int) == 3) = !((v : Int) == 0)) := F2
  have F3 : Hid (((E9 : Int) == 3) = !(opB (ptX (kd p 2)) (pos % L))) := F3
  clear B4 F4 bb4 hc4 lx
  go_wp2_with (at_builtin; refine Go.Lib.wpList_append_run _ rfl (.tmp 91) (.tmp 92) 24 24 rfl _ _ rfl rfl _ _ happ ?_)
  clear happ c5 f5 e5
  generalize w4'.setCell ⟨w8.heap.size + 1 + 1, pos % L, none⟩ (.int .u8 (sv' : Int)) = w10 at *
  generalize (w8.alloc (.cells #[.int .i64 2, .int .u16 0, .int .u16 0, .int .u32 0, .int .u16 0, .slice r8 0 c8, .int .u64 (p.T : Int), .int .u32 (p.l : Int), .int .u32 (p.g : Int), .int .u16 (p.u : Int), .int .u16 (p.j : Int), .int .u32 0, .int .u16 0] 31)) = w9 at *
  have W10 := W9.out.grew HBB.out
  have R10 := R9.out.grew HBB.out
  have Q10 := Q9.out.grew HBB.out
  have A10 := A9.out.grew HBB.out
  have b10 := b9.out.trans (HBB.out.mono b9.out.size)
  generalize w8.heap.size = G8 at *
  clear W9 R9 Q9 A9 b9 HBB
  refine (packtake_any (some ⟨G8 + 1 + 1, 0, none⟩) L c4 _ w10 HT.out HC4.out (by omega)).mono ?_
  intro e w11 h
  obtain ⟨r11, c11, rfl, -, -, -, d⟩ := HT7.out _ _ _ h
  have a12 : Below w11.heap.size w11 (w11.alloc (.cells #[.int .i64 q7.k, .int .u16 (q7.s : Int), .int .u16 (q7.t : Int), .int .u32 (q7.f : Int), .int .u16 (q7.y : Int), .slice r11 q7.n c11, .int .u64 (q7.T : Int), .int .u32 (q7.l : Int), .int .u32 (q7.g : Int), .int .u16 (q7.u : Int), .int .u16 (q7.j : Int), .int .u32 (q7.F : Int), .int .u16 (q7.d : Int)] 31)) := (Below.refl _ _).alloc (Nat.le_refl _) _
  have W12 : Hid _ := (W10.grew d).grew a12
  have R12 : Hid _ := (R10.grew d).grew a12
  have Q12 : Hid _ := (Q10.grew d).grew a12
  have A12 : Hid _ := (A10.grew d).grew a12
  have b11 := b10.trans (d.mono b10.size)
  have b12 : Hid (Below w.heap.size w (w11.alloc (.cells #[.int .i64 q7.k, .int .u16 (q7.s : Int), .int .u16 (q7.t : Int), .int .u32 (q7.f : Int), .int .u16 (q7.y : Int), .slice r11 q7.n c11, .int .u64 (q7.T : Int), .int .u32 (q7.l : Int), .int .u32 (q7.g : Int), .int .u16 (q7.u : Int), .int .u16 (q7.j : Int), .int .u32 (q7.F : Int), .int .u16 (q7.d : Int)] 31))) := b11.trans (a12.mono b11.size)
  have hst : ∀ W, (Instr.slice 24 (.slice r7 L c7) none (some (.int .i64 ((pos : Int) % (L : Int)))) none).run Try.prog W = .ok (.slice r7 (pos % L) c7) W := by
    have h7 := Hk7.out
    intro W
    have := slice_to r7 L c7 (pos % L) W (by omega)
    rwa [Int.natCast_emod] at this
  clear h d a12 b11 W10 R10 Q10 A10 b10 HT HT7 HC4
  go_wp2_with fail
  clear hst lj0 lj'
  generalize (w11.alloc (.cells #[.int .i64 q7.k, .int .u16 (q7.s : Int), .int .u16 (q7.t : Int), .int .u32 (q7.f : Int), .int .u16 (q7.y : Int), .slice r11 q7.n c11, .int .u64 (q7.T : Int), .int .u32 (q7.l : Int), .int .u32 (q7.g : Int), .int .u16 (q7.u : Int), .int .u16 (q7.j : Int), .int .u32 (q7.F : Int), .int .u16 (q7.d : Int)] 31)) = w12 at *
  have R12 := R12.out
  have lj2 : pos % L ≤ c7 := by have := Hk7.out; omega
  refine (ropen_any r7 (pos % L) c7 _ w12 (R12.take (by omega)) lj2 (by omega)).mono ?_
  have F3 := F3.out
  generalize opB (ptX (kd p 2)) (pos % L) = ob at *
  generalize opN (ptX (kd p 2)) (pos % L) = on at *
  rintro e w13 ⟨r13, c13, rfl, -, -, -, -, d13⟩
  have F3 : Hid (((E9 : Int) == 3) = !ob) := F3
  have W13 := W12.out.grew d13
  have R13 := R12.grew d13
  have Q13 := Q12.out.grew d13
  have A13 := A12.out.grew d13
  have b13 := b12.out.trans (d13.mono b12.out.size)
  clear W12 R12 Q12 A12 b12 d13
  go_wp2_with fail
  refine (packtake_any r7 (pos % L) c7 _ w13 (R13.take (by omega)) lj2 (by omega)).mono ?_
  intro e w14 h
  obtain ⟨r14, c14, rfl, -, -, -, d⟩ := HT9.out _ _ _ h
  have a15 : Below w14.heap.size w14 (w14.alloc (.cells #[.int .i64 q9.k, .int .u16 (q9.s : Int), .int .u16 (q9.t : Int), .int .u32 (q9.f : Int), .int .u16 (q9.y : Int), .slice r14 q9.n c14, .int .u64 (q9.T : Int), .int .u32 (q9.l : Int), .int .u32 (q9.g : Int), .int .u16 (q9.u : Int), .int .u16 (q9.j : Int), .int .u32 (q9.F : Int), .int .u16 (q9.d : Int)] 31)) := (Below.refl _ _).alloc (Nat.le_refl _) _
  have W15 : Hid _ := (W13.grew d).grew a15
  have Q15 : Hid _ := (Q13.grew d).grew a15
  have A15 : Hid _ := (A13.grew d).grew a15
  have b14 := b13.trans (d.mono b13.size)
  have b15 : Hid (Below w.heap.size w (w14.alloc (.cells #[.int .i64 q9.k, .int .u16 (q9.s : Int), .int .u16 (q9.t : Int), .int .u32 (q9.f : Int), .int .u16 (q9.y : Int), .slice r14 q9.n c14, .int .u64 (q9.T : Int), .int .u32 (q9.l : Int), .int .u32 (q9.g : Int), .int .u16 (q9.u : Int), .int .u16 (q9.j : Int), .int .u32 (q9.F : Int), .int .u16 (q9.d : Int)] 31))) := b14.trans (a15.mono b14.size)
  have g0 : (w14.alloc (.cells #[.int .i64 q9.k, .int .u16 (q9.s : Int), .int .u16 (q9.t : Int), .int .u32 (q9.f : Int), .int .u16 (q9.y : Int), .slice r14 q9.n c14, .int .u64 (q9.T : Int), .int .u32 (q9.l : Int), .int .u32 (q9.g : Int), .int .u16 (q9.u : Int), .int .u16 (q9.j : Int), .int .u32 (q9.F : Int), .int .u16 (q9.d : Int)] 31)).cell? ⟨G8, 0, none⟩ = some (.int .i64 2) := A15.out.cell 0 (by decide)
  have g1 : (w14.alloc (.cells #[.int .i64 q9.k, .int .u16 (q9.s : Int), .int .u16 (q9.t : Int), .int .u32 (q9.f : Int), .int .u16 (q9.y : Int), .slice r14 q9.n c14, .int .u64 (q9.T : Int), .int .u32 (q9.l : Int), .int .u32 (q9.g : Int), .int .u16 (q9.u : Int), .int .u16 (q9.j : Int), .int .u32 (q9.F : Int), .int .u16 (q9.d : Int)] 31)).cell? ⟨G8, 1, none⟩ = some (.int .u16 0) := A15.out.cell 1 (by decide)
  have g2 : (w14.alloc (.cells #[.int .i64 q9.k, .int .u16 (q9.s : Int), .int .u16 (q9.t : Int), .int .u32 (q9.f : Int), .int .u16 (q9.y : Int), .slice r14 q9.n c14, .int .u64 (q9.T : Int), .int .u32 (q9.l : Int), .int .u32 (q9.g : Int), .int .u16 (q9.u : Int), .int .u16 (q9.j : Int), .int .u32 (q9.F : Int), .int .u16 (q9.d : Int)] 31)).cell? ⟨G8, 2, none⟩ = some (.int .u16 0) := A15.out.cell 2 (by decide)
  have g3 : (w14.alloc (.cells #[.int .i64 q9.k, .int .u16 (q9.s : Int), .int .u16 (q9.t : Int), .int .u32 (q9.f : Int), .int .u16 (q9.y : Int), .slice r14 q9.n c14, .int .u64 (q9.T : Int), .int .u32 (q9.l : Int), .int .u32 (q9.g : Int), .int .u16 (q9.u : Int), .int .u16 (q9.j : Int), .int .u32 (q9.F : Int), .int .u16 (q9.d : Int)] 31)).cell? ⟨G8, 3, none⟩ = some (.int .u32 0) := A15.out.cell 3 (by decide)
  have g4 : (w14.alloc (.cells #[.int .i64 q9.k, .int .u16 (q9.s : Int), .int .u16 (q9.t : Int), .int .u32 (q9.f : Int), .int .u16 (q9.y : Int), .slice r14 q9.n c14, .int .u64 (q9.T : Int), .int .u32 (q9.l : Int), .int .u32 (q9.g : Int), .int .u16 (q9.u : Int), .int .u16 (q9.j : Int), .int .u32 (q9.F : Int), .int .u16 (q9.d : Int)] 31)).cell? ⟨G8, 4, none⟩ = some (.int .u16 0) := A15.out.cell 4 (by decide)
  have g5 : (w14.alloc (.cells #[.int .i64 q9.k, .int .u16 (q9.s : Int), .int .u16 (q9.t : Int), .int .u32 (q9.f : Int), .int .u16 (q9.y : Int), .slice r14 q9.n c14, .int .u64 (q9.T : Int), .int .u32 (q9.l : Int), .int .u32 (q9.g : Int), .int .u16 (q9.u : Int), .int .u16 (q9.j : Int), .int .u32 (q9.F : Int), .int .u16 (q9.d : Int)] 31)).cell? ⟨G8, 5, none⟩ = some (.slice r8 0 c8) := A15.out.cell 5 (by decide)
  have g6 : (w14.alloc (.cells #[.int .i64 q9.k, .int .u16 (q9.s : Int), .int .u16 (q9.t : Int), .int .u32 (q9.f : Int), .int .u16 (q9.y : Int), .slice r14 q9.n c14, .int .u64 (q9.T : Int), .int .u32 (q9.l : Int), .int .u32 (q9.g : Int), .int .u16 (q9.u : Int), .int .u16 (q9.j : Int), .int .u32 (q9.F : Int), .int .u16 (q9.d : Int)] 31)).cell? ⟨G8, 6, none⟩ = some (.int .u64 (p.T : Int)) := A15.out.cell 6 (by decide)
  have g7 : (w14.alloc (.cells #[.int .i64 q9.k, .int .u16 (q9.s : Int), .int .u16 (q9.t : Int), .int .u32 (q9.f : Int), .int .u16 (q9.y : Int), .slice r14 q9.n c14, .int .u64 (q9.T : Int), .int .u32 (q9.l : Int), .int .u32 (q9.g : Int), .int .u16 (q9.u : Int), .int .u16 (q9.j : Int), .int .u32 (q9.F : Int), .int .u16 (q9.d : Int)] 31)).cell? ⟨G8, 7, none⟩ = some (.int .u32 (p.l : Int)) := A15.out.cell 7 (by decide)
  have g8 : (w14.alloc (.cells #[.int .i64 q9.k, .int .u16 (q9.s : Int), .int .u16 (q9.t : Int), .int .u32 (q9.f : Int), .int .u16 (q9.y : Int), .slice r14 q9.n c14, .int .u64 (q9.T : Int), .int .u32 (q9.l : Int), .int .u32 (q9.g : Int), .int .u16 (q9.u : Int), .int .u16 (q9.j : Int), .int .u32 (q9.F : Int), .int .u16 (q9.d : Int)] 31)).cell? ⟨G8, 8, none⟩ = some (.int .u32 (p.g : Int)) := A15.out.cell 8 (by decide)
  have g9 : (w14.alloc (.cells #[.int .i64 q9.k, .int .u16 (q9.s : Int), .int .u16 (q9.t : Int), .int .u32 (q9.f : Int), .int .u16 (q9.y : Int), .slice r14 q9.n c14, .int .u64 (q9.T : Int), .int .u32 (q9.l : Int), .int .u32 (q9.g : Int), .int .u16 (q9.u : Int), .int .u16 (q9.j : Int), .int .u32 (q9.F : Int), .int .u16 (q9.d : Int)] 31)).cell? ⟨G8, 9, none⟩ = some (.int .u16 (p.u : Int)) := A15.out.cell 9 (by decide)
  have g10 : (w14.alloc (.cells #[.int .i64 q9.k, .int .u16 (q9.s : Int), .int .u16 (q9.t : Int), .int .u32 (q9.f : Int), .int .u16 (q9.y : Int), .slice r14 q9.n c14, .int .u64 (q9.T : Int), .int .u32 (q9.l : Int), .int .u32 (q9.g : Int), .int .u16 (q9.u : Int), .int .u16 (q9.j : Int), .int .u32 (q9.F : Int), .int .u16 (q9.d : Int)] 31)).cell? ⟨G8, 10, none⟩ = some (.int .u16 (p.j : Int)) := A15.out.cell 10 (by decide)
  have g11 : (w14.alloc (.cells #[.int .i64 q9.k, .int .u16 (q9.s : Int), .int .u16 (q9.t : Int), .int .u32 (q9.f : Int), .int .u16 (q9.y : Int), .slice r14 q9.n c14, .int .u64 (q9.T : Int), .int .u32 (q9.l : Int), .int .u32 (q9.g : Int), .int .u16 (q9.u : Int), .int .u16 (q9.j : Int), .int .u32 (q9.F : Int), .int .u16 (q9.d : Int)] 31)).cell? ⟨G8, 11, none⟩ = some (.int .u32 0) := A15.out.cell 11 (by decide)
  have g12 : (w14.alloc (.cells #[.int .i64 q9.k, .int .u16 (q9.s : Int), .int .u16 (q9.t : Int), .int .u32 (q9.f : Int), .int .u16 (q9.y : Int), .slice r14 q9.n c14, .int .u64 (q9.T : Int), .int .u32 (q9.l : Int), .int .u32 (q9.g : Int), .int .u16 (q9.u : Int), .int .u16 (q9.j : Int), .int .u32 (q9.F : Int), .int .u16 (q9.d : Int)] 31)).cell? ⟨G8, 12, none⟩ = some (.int .u16 0) := A15.out.cell 12 (by decide)
  have h0 : (w14.alloc (.cells #[.int .i64 q9.k, .int .u16 (q9.s : Int), .int .u16 (q9.t : Int), .int .u32 (q9.f : Int), .int .u16 (q9.y : Int), .slice r14 q9.n c14, .int .u64 (q9.T : Int), .int .u32 (q9.l : Int), .int .u32 (q9.g : Int), .int .u16 (q9.u : Int), .int .u16 (q9.j : Int), .int .u32 (q9.F : Int), .int .u16 (q9.d : Int)] 31)).cell? ⟨G, 0, none⟩ = some (.int .i64 2) := W15.out.cell 0 (by decide)
  have h1 : (w14.alloc (.cells #[.int .i64 q9.k, .int .u16 (q9.s : Int), .int .u16 (q9.t : Int), .int .u32 (q9.f : Int), .int .u16 (q9.y : Int), .slice r14 q9.n c14, .int .u64 (q9.T : Int), .int .u32 (q9.l : Int), .int .u32 (q9.g : Int), .int .u16 (q9.u : Int), .int .u16 (q9.j : Int), .int .u32 (q9.F : Int), .int .u16 (q9.d : Int)] 31)).cell? ⟨G, 1, none⟩ = some (.int .u16 0) := W15.out.cell 1 (by decide)
  have h2 : (w14.alloc (.cells #[.int .i64 q9.k, .int .u16 (q9.s : Int), .int .u16 (q9.t : Int), .int .u32 (q9.f : Int), .int .u16 (q9.y : Int), .slice r14 q9.n c14, .int .u64 (q9.T : Int), .int .u32 (q9.l : Int), .int .u32 (q9.g : Int), .int .u16 (q9.u : Int), .int .u16 (q9.j : Int), .int .u32 (q9.F : Int), .int .u16 (q9.d : Int)] 31)).cell? ⟨G, 2, none⟩ = some (.int .u16 0) := W15.out.cell 2 (by decide)
  have h3 : (w14.alloc (.cells #[.int .i64 q9.k, .int .u16 (q9.s : Int), .int .u16 (q9.t : Int), .int .u32 (q9.f : Int), .int .u16 (q9.y : Int), .slice r14 q9.n c14, .int .u64 (q9.T : Int), .int .u32 (q9.l : Int), .int .u32 (q9.g : Int), .int .u16 (q9.u : Int), .int .u16 (q9.j : Int), .int .u32 (q9.F : Int), .int .u16 (q9.d : Int)] 31)).cell? ⟨G, 3, none⟩ = some (.int .u32 0) := W15.out.cell 3 (by decide)
  have h4 : (w14.alloc (.cells #[.int .i64 q9.k, .int .u16 (q9.s : Int), .int .u16 (q9.t : Int), .int .u32 (q9.f : Int), .int .u16 (q9.y : Int), .slice r14 q9.n c14, .int .u64 (q9.T : Int), .int .u32 (q9.l : Int), .int .u32 (q9.g : Int), .int .u16 (q9.u : Int), .int .u16 (q9.j : Int), .int .u32 (q9.F : Int), .int .u16 (q9.d : Int)] 31)).cell? ⟨G, 4, none⟩ = some (.int .u16 0) := W15.out.cell 4 (by decide)
  have h5 : (w14.alloc (.cells #[.int .i64 q9.k, .int .u16 (q9.s : Int), .int .u16 (q9.t : Int), .int .u32 (q9.f : Int), .int .u16 (q9.y : Int), .slice r14 q9.n c14, .int .u64 (q9.T : Int), .int .u32 (q9.l : Int), .int .u32 (q9.g : Int), .int .u16 (q9.u : Int), .int .u16 (q9.j : Int), .int .u32 (q9.F : Int), .int .u16 (q9.d : Int)] 31)).cell? ⟨G, 5, none⟩ = some (.slice none 0 0) := W15.out.cell 5 (by decide)
  have h6 : (w14.alloc (.cells #[.int .i64 q9.k, .int .u16 (q9.s : Int), .int .u16 (q9.t : Int), .int .u32 (q9.f : Int), .int .u16 (q9.y : Int), .slice r14 q9.n c14, .int .u64 (q9.T : Int), .int .u32 (q9.l : Int), .int .u32 (q9.g : Int), .int .u16 (q9.u : Int), .int .u16 (q9.j : Int), .int .u32 (q9.F : Int), .int .u16 (q9.d : Int)] 31)).cell? ⟨G, 6, none⟩ = some (.int .u64 (p.T : Int)) := W15.out.cell 6 (by decide)
  have h7 : (w14.alloc (.cells #[.int .i64 q9.k, .int .u16 (q9.s : Int), .int .u16 (q9.t : Int), .int .u32 (q9.f : Int), .int .u16 (q9.y : Int), .slice r14 q9.n c14, .int .u64 (q9.T : Int), .int .u32 (q9.l : Int), .int .u32 (q9.g : Int), .int .u16 (q9.u : Int), .int .u16 (q9.j : Int), .int .u32 (q9.F : Int), .int .u16 (q9.d : Int)] 31)).cell? ⟨G, 7, none⟩ = some (.int .u32 (p.l : Int)) := W15.out.cell 7 (by decide)
  have h8 : (w14.alloc (.cells #[.int .i64 q9.k, .int .u16 (q9.s : Int), .int .u16 (q9.t : Int), .int .u32 (q9.f : Int), .int .u16 (q9.y : Int), .slice r14 q9.n c14, .int .u64 (q9.T : Int), .int .u32 (q9.l : Int), .int .u32 (q9.g : Int), .int .u16 (q9.u : Int), .int .u16 (q9.j : Int), .int .u32 (q9.F : Int), .int .u16 (q9.d : Int)] 31)).cell? ⟨G, 8, none⟩ = some (.int .u32 (p.g : Int)) := W15.out.cell 8 (by decide)
  have h9 : (w14.alloc (.cells #[.int .i64 q9.k, .int .u16 (q9.s : Int), .int .u16 (q9.t : Int), .int .u32 (q9.f : Int), .int .u16 (q9.y : Int), .slice r14 q9.n c14, .int .u64 (q9.T : Int), .int .u32 (q9.l : Int), .int .u32 (q9.g : Int), .int .u16 (q9.u : Int), .int .u16 (q9.j : Int), .int .u32 (q9.F : Int), .int .u16 (q9.d : Int)] 31)).cell? ⟨G, 9, none⟩ = some (.int .u16 (p.u : Int)) := W15.out.cell 9 (by decide)
  have h10 : (w14.alloc (.cells #[.int .i64 q9.k, .int .u16 (q9.s : Int), .int .u16 (q9.t : Int), .int .u32 (q9.f : Int), .int .u16 (q9.y : Int), .slice r14 q9.n c14, .int .u64 (q9.T : Int), .int .u32 (q9.l : Int), .int .u32 (q9.g : Int), .int .u16 (q9.u : Int), .int .u16 (q9.j : Int), .int .u32 (q9.F : Int), .int .u16 (q9.d : Int)] 31)).cell? ⟨G, 10, none⟩ = some (.int .u16 (p.j : Int)) := W15.out.cell 10 (by decide)
  have h11 : (w14.alloc (.cells #[.int .i64 q9.k, .int .u16 (q9.s : Int), .int .u16 (q9.t : Int), .int .u32 (q9.f : Int), .int .u16 (q9.y : Int), .slice r14 q9.n c14, .int .u64 (q9.T : Int), .int .u32 (q9.l : Int), .int .u32 (q9.g : Int), .int .u16 (q9.u : Int), .int .u16 (q9.j : Int), .int .u32 (q9.F : Int), .int .u16 (q9.d : Int)] 31)).cell? ⟨G, 11, none⟩ = some (.int .u32 0) := W15.out.cell 11 (by decide)
  have h12 : (w14.alloc (.cells #[.int .i64 q9.k, .int .u16 (q9.s : Int), .int .u16 (q9.t : Int), .int .u32 (q9.f : Int), .int .u16 (q9.y : Int), .slice r14 q9.n c14, .int .u64 (q9.T : Int), .int .u32 (q9.l : Int), .int .u32 (q9.g : Int), .int .u16 (q9.u : Int), .int .u16 (q9.j : Int), .int .u32 (q9.F : Int), .int .u16 (q9.d : Int)] 31)).cell? ⟨G, 12, none⟩ = some (.int .u16 0) := W15.out.cell 12 (by decide)
  clear h d a15 b14 W13 R13 Q13 A13 b13 HT9 Hk7 lj2
  go_wp2_with fail
  generalize (w14.alloc (.cells #[.int .i64 q9.k, .int .u16 (q9.s : Int), .int .u16 (q9.t : Int), .int .u32 (q9.f : Int), .int .u16 (q9.y : Int), .slice r14 q9.n c14, .int .u64 (q9.T : Int), .int .u32 (q9.l : Int), .int .u32 (q9.g : Int), .int .u16 (q9.u : Int), .int .u16 (q9.j : Int), .int .u32 (q9.F : Int), .int .u16 (q9.d : Int)] 31)) = w15 at *
  clear g0 g1 g2 g3 g4 g5 g6 g7 g8 g9 g10 g11 g12 h0 h1 h2 h3 h4 h5 h6 h7 h8 h9 h10 h11 h12 A15 W15
  refine (alike_2 r8 none c8 0 w15 Q15.out (nil_bytes _ _)).mono ?_
  rintro e w16 ⟨rfl, d⟩
  have HB : Hid (Below w.heap.size w w16) := b15.out.trans (d.mono b15.out.size)
  have F1 := F1.out
  have F2 := F2.out
  have F3 := F3.out
  clear d b15 Q15
  generalize hv0 : ((v : Int) == 0) = v0 at *
  cases v0 <;> cases ob
  all_goals
    go_wp2
    go_ret
    exact ⟨rfl, HB.out⟩

set_option maxRecDepth 100000 in
set_option maxHeartbeats 4000000 in
theorem core_3 (p : Pk) (r : Option Addr) (c kind pos v : Nat) (w : World) (o : p.Ok) (hx : BytesAt w r p.n p.x) (n1 : 1 ≤ p.n) (n2 : p.n ≤ 64) (hk : kind % 4 = 2) (hp : pos < 65536) (hv : v < 256) :
    Calls Try.prog 4 #[.agg #[.int .i64 p.k, .int .u16 (p.s : Int), .int .u16 (p.t : Int), .int .u32 (p.f : Int), .int .u16 (p.y : Int), .slice r p.n c, .int .u64 (p.T : Int), .int .u32 (p.l : Int), .int .u32 (p.g : Int), .int .u16 (p.u : Int), .int .u16 (p.j : Int), .int .u32 (p.F : Int), .int .u16 (p.d : Int)], .int .u8 (kind : Int), .int .u16 (pos : Int), .int .u8 (v : Int)] w fun e w' => e = .returned (.bool true) ∧ Below w.heap.size w w' := by
  have e0 : Hid (bE (kd p 3) = 0) := kd_err 3 n1 n2 (by decide) (by decide)
  have eL : Hid (ptN (kd p 3) = 11) := by show _ = _; rw [ptN_yes e0.out]; exact (congrArg (fun t => 1 + t + 4) (b_nack rfl).1).trans (by rfl)
  have HX : Hid (BytesAt w r p.n p.x) := hx
  have i0 : decide ((p.n : Int) < 1) = false := by simp; omega
  have i1 : decide ((64 : Int) < (p.n : Int)) = false := by simp; omega
  have i2 : (kind : Int) % 4 = 2 := by omega
  have D1 := PkAt.made w 31 p r c
  have b1 : Below w.heap.size w (w.alloc (.cells #[.int .i64 p.k, .int .u16 (p.s : Int), .int .u16 (p.t : Int), .int .u32 (p.f : Int), .int .u16 (p.y : Int), .slice r p.n c, .int .u64 (p.T : Int), .int .u32 (p.l : Int), .int .u32 (p.g : Int), .int .u16 (p.u : Int), .int .u16 (p.j : Int), .int .u32 (p.F : Int), .int .u16 (p.d : Int)] 31)) := (Below.refl _ _).alloc (Nat.le_refl _) _
  clear hx hk
  go_enter Try.func4, Try.ntmps4
  go_wp2_with fail
  generalize (w.alloc (.cells #[.int .i64 p.k, .int .u16 (p.s : Int), .int .u16 (p.t : Int), .int .u32 (p.f : Int), .int .u16 (p.y : Int), .slice r p.n c, .int .u64 (p.T : Int), .int .u32 (p.l : Int), .int .u32 (p.g : Int), .int .u16 (p.u : Int), .int .u16 (p.j : Int), .int .u32 (p.F : Int), .int .u16 (p.d : Int)] 31)) = w1 at *
  refine (begun11 _).mono ?_
  rintro e w2 ⟨rfl, d2⟩
  have D2 := D1.grew d2
  have b2 := b1.trans (d2.mono b1.size)
  have q5 : w2.cell? ⟨w.heap.size, 5, none⟩ = some (.slice r p.n c) := D2.cell 5 (by decide)
  have q0 : w2.cell? ⟨w.heap.size, 0, none⟩ = some (.int .i64 p.k) := D2.cell 0 (by decide)
  have z0 := D2.frz 0
  have D3 : PkAt (w2.setCell ⟨w.heap.size, 0, none⟩ (.int .i64 3)) w.heap.size (kd p 3) r c := D2.run 0 [.int .i64 3] (Nat.le_of_ble_eq_true rfl) fun j hj => match j, hj with
    | 0, _ => rfl
    | 1, _ => rfl
    | 2, _ => rfl
    | 3, _ => rfl
    | 4, _ => rfl
    | 5, _ => rfl
    | 6, _ => rfl
    | 7, _ => rfl
    | 8, _ => rfl
    | 9, _ => rfl
    | 10, _ => rfl
    | 11, _ => rfl
    | 12, _ => rfl
  have b3 : Below w.heap.size w (w2.setCell ⟨w.heap.size, 0, none⟩ (.int .i64 3)) := b2.setCell (p := ⟨w.heap.size, 0, none⟩) (Nat.le_refl _) _
  have s3 : (w2.setCell ⟨w.heap.size, 0, none⟩ (.int .i64 3)).heap.size = w2.heap.size := by simp [World.setCell]
  have a4 : Below (w2.setCell ⟨w.heap.size, 0, none⟩ (.int .i64 3)).heap.size (w2.setCell ⟨w.heap.size, 0, none⟩ (.int .i64 3)) ((w2.setCell ⟨w.heap.size, 0, none⟩ (.int .i64 3)).alloc (.cells #[.int .i64 3, .int .u16 0, .int .u16 0, .int .u32 0, .int .u16 0, .slice none 0 0, .int .u64 0, .int .u32 0, .int .u32 0, .int .u16 0, .int .u16 0, .int .u32 0, .int .u16 0] 31)) := (Below.refl _ _).alloc (Nat.le_refl _) _
  have HD : Hid (PkAt ((w2.setCell ⟨w.heap.size, 0, none⟩ (.int .i64 3)).alloc (.cells #[.int .i64 3, .int .u16 0, .int .u16 0, .int .u32 0, .int .u16 0, .slice none 0 0, .int .u64 0, .int .u32 0, .int .u32 0, .int .u16 0, .int .u16 0, .int .u32 0, .int .u16 0] 31)) w.heap.size (kd p 3) r c) := D3.grew a4
  have HW : Hid (PkAt ((w2.setCell ⟨w.heap.size, 0, none⟩ (.int .i64 3)).alloc (.cells #[.int .i64 3, .int .u16 0, .int .u16 0, .int .u32 0, .int .u16 0, .slice none 0 0, .int .u64 0, .int .u32 0, .int .u32 0, .int .u16 0, .int .u16 0, .int .u32 0, .int .u16 0] 31)) w2.heap.size (pKind 3) none 0) := by
    have := PkAt.made (w2.setCell ⟨w.heap.size, 0, none⟩ (.int .i64 3)) 31 (pKind 3) none 0
    rwa [s3] at this
  have Hb : Hid (Below w.heap.size w ((w2.setCell ⟨w.heap.size, 0, none⟩ (.int .i64 3)).alloc (.cells #[.int .i64 3, .int .u16 0, .int .u16 0, .int .u32 0, .int .u16 0, .slice none 0 0, .int .u64 0, .int .u32 0, .int .u32 0, .int .u16 0, .int .u16 0, .int .u32 0, .int .u16 0] 31))) := b3.trans (a4.mono b3.size)
  have HG : Hid (w.heap.size < w2.heap.size) := D2.lt
  clear D1 b1 d2 D2 b2 a4
  clear D3 b3 s3
  have h0 : ((w2.setCell ⟨w.heap.size, 0, none⟩ (.int .i64 3)).alloc (.cells #[.int .i64 3, .int .u16 0, .int .u16 0, .int .u32 0, .int .u16 0, .slice none 0 0, .int .u64 0, .int .u32 0, .int .u32 0, .int .u16 0, .int .u16 0, .int .u32 0, .int .u16 0] 31)).cell? ⟨w.heap.size, 0, none⟩ = some (.int .i64 3) := HD.out.cell 0 (by decide)
  go_wp2_with fail
  clear h0 q0 q5 z0 i0 i1
  generalize ((w2.setCell ⟨w.heap.size, 0, none⟩ (.int .i64 3)).alloc (.cells #[.int .i64 3, .int .u16 0, .int .u16 0, .int .u32 0, .int .u16 0, .slice none 0 0, .int .u64 0, .int .u32 0, .int .u32 0, .int .u16 0, .int .u16 0, .int .u32 0, .int .u16 0] 31)) = w4 at *
  refine wp_region_held (S := fun w' => PkAt w' w.heap.size (kd p 3) r c) (by kernel_rfl) ?_
  change wpAnyH _ _ _ _ _ _ _ _ w4.drew
  have a5 : Below w4.heap.size w4 w4.drew := (Below.refl _ _).drew
  have hr := HD.out.grew a5
  have W5 := HW.out.grew a5
  have b5 : Below w.heap.size w w4.drew := Hb.out.drew
  clear HD HW Hb a5
  generalize w4.drew = w5 at *
  refine wpAnyH_take (i := 0) (v := .pointer (some ⟨w.heap.size, 11, none⟩)) rfl (by kernel_rfl) (by kernel_rfl) (by kernel_rfl) (fun _ _ _ h => h) (Yields.yieldsIf (Or.inl ⟨by kernel_rfl, fun _ => by go_simp⟩)) hr ?_
  refine wpAnyH_take (i := 1) (v := .int .u32 (p.F : Int)) rfl (by kernel_rfl) (by kernel_rfl) (by kernel_rfl) (fun _ _ _ h => h) (Or.inl ⟨by kernel_rfl, fun W hW => by have g11 : W.cell? ⟨w.heap.size, 11, none⟩ = some (.int .u32 (p.F : Int)) := hW.cell 11 (by decide); go_simp⟩) hr ?_
  refine wpAnyH_take (i := 2) (v := .pointer (some ⟨w.heap.size, 12, none⟩)) rfl (by kernel_rfl) (by kernel_rfl) (by kernel_rfl) (fun _ _ _ h => h) (Yields.yieldsIf (Or.inl ⟨by kernel_rfl, fun _ => by go_simp⟩)) hr ?_
  refine wpAnyH_take (i := 3) (v := .int .u16 (p.d : Int)) rfl (by kernel_rfl) (by kernel_rfl) (by kernel_rfl) (fun _ _ _ h => h) (Or.inl ⟨by kernel_rfl, fun W hW => by have g12 : W.cell? ⟨w.heap.size, 12, none⟩ = some (.int .u16 (p.d : Int)) := hW.cell 12 (by decide); go_simp⟩) hr ?_
  refine wpAnyH_take (i := 4) (v := .pointer (some ⟨w2.heap.size, 11, none⟩)) rfl (by kernel_rfl) (by kernel_rfl) (by kernel_rfl) (fun _ _ _ h => h) (Yields.yieldsIf (Or.inl ⟨by kernel_rfl, fun _ => by go_simp⟩)) hr ?_
  have g11 : w5.cell? ⟨w2.heap.size, 11, none⟩ = some (.int .u32 0) := W5.cell 11 (by decide)
  have y11 := W5.frz 11
  refine wpAnyH_ready (rs := [5]) (by kernel_rfl) (by simp) ?_
  refine AllReadyH.cons rfl (fun K2 hK2 => ?_) AllReadyH.nil
  go_simp
  refine hK2.out _ _ (PkAt.other hr _ (Nat.ne_of_gt HG.out)) (fun hr => ?_)
  clear hK2 K2
  refine wpAnyH_take (i := 6) (v := .pointer (some ⟨w2.heap.size, 12, none⟩)) rfl (by kernel_rfl) (by kernel_rfl) (by kernel_rfl) (fun _ _ _ h => h) (Yields.yieldsIf (Or.inl ⟨by kernel_rfl, fun _ => by go_simp⟩)) hr ?_
  have g12 : (w5.setCell ⟨w2.heap.size, 11, none⟩ (.int .u32 (p.F : Int))).cell? ⟨w2.heap.size, 12, none⟩ = some (.int .u16 0) := (VAt.set W5 11 (.int .u32 (p.F : Int)) (by decide)).cell 12 (by decide)
  have y12 : (w5.setCell ⟨w2.heap.size, 11, none⟩ (.int .u32 (p.F : Int))).frozen? ⟨w2.heap.size, 12, none⟩ = false := (VAt.set W5 11 (.int .u32 (p.F : Int)) (by decide)).frz 12
  refine wpAnyH_ready (rs := [7]) (by kernel_rfl) (by simp) ?_
  refine AllReadyH.cons rfl (fun K2 hK2 => ?_) AllReadyH.nil
  go_simp
  refine hK2.out _ _ (PkAt.other hr _ (Nat.ne_of_gt HG.out)) (fun hr => ?_)
  clear hK2 K2 g11 y11 g12 y12
  have HW5 : Hid (PkAt ((w5.setCell ⟨w2.heap.size, 11, none⟩ (.int .u32 (p.F : Int))).setCell ⟨w2.heap.size, 12, none⟩ (.int .u16 (p.d : Int))) w2.heap.size (bare (kd p 3)) none 0) := W5.run 11 [.int .u32 (p.F : Int), .int .u16 (p.d : Int)] (Nat.le_of_ble_eq_true rfl) fun j hj => match j, hj with
    | 0, _ => rfl
    | 1, _ => rfl
    | 2, _ => rfl
    | 3, _ => rfl
    | 4, _ => rfl
    | 5, _ => rfl
    | 6, _ => rfl
    | 7, _ => rfl
    | 8, _ => rfl
    | 9, _ => rfl
    | 10, _ => rfl
    | 11, _ => rfl
    | 12, _ => rfl
  have HD5 : Hid (PkAt ((w5.setCell ⟨w2.heap.size, 11, none⟩ (.int .u32 (p.F : Int))).setCell ⟨w2.heap.size, 12, none⟩ (.int .u16 (p.d : Int))) w.heap.size (kd p 3) r c) := hr
  have Hb5 : Hid (Below w.heap.size w ((w5.setCell ⟨w2.heap.size, 11, none⟩ (.int .u32 (p.F : Int))).setCell ⟨w2.heap.size, 12, none⟩ (.int .u16 (p.d : Int)))) := puts_below (Nat.le_of_lt HG.out) [.int .u32 (p.F : Int), .int .u16 (p.d : Int)] 11 b5
  clear W5 b5
  generalize ((w5.setCell ⟨w2.heap.size, 11, none⟩ (.int .u32 (p.F : Int))).setCell ⟨w2.heap.size, 12, none⟩ (.int .u16 (p.d : Int))) = w6 at *
  refine wpAnyH_take (i := 8) (v := .int .i64 11) rfl (by kernel_rfl) (by kernel_rfl) (by kernel_rfl) (fun _ _ _ h => h) (Yields.yieldsIf (Or.inl ⟨by kernel_rfl, fun _ => by kernel_rfl⟩)) hr ?_
  refine wpAnyH_done (by kernel_rfl) ?_ _
  clear hr
  have h1 : w6.cell? ⟨w.heap.size, 1, none⟩ = some (.int .u16 (p.s : Int)) := HD5.out.cell 1 (by decide)
  have h2 : w6.cell? ⟨w.heap.size, 2, none⟩ = some (.int .u16 (p.t : Int)) := HD5.out.cell 2 (by decide)
  have h3 : w6.cell? ⟨w.heap.size, 3, none⟩ = some (.int .u32 (p.f : Int)) := HD5.out.cell 3 (by decide)
  have h4 : w6.cell? ⟨w.heap.size, 4, none⟩ = some (.int .u16 (p.y : Int)) := HD5.out.cell 4 (by decide)
  have h5 : w6.cell? ⟨w.heap.size, 5, none⟩ = some (.slice r p.n c) := HD5.out.cell 5 (by decide)
  have h6 : w6.cell? ⟨w.heap.size, 6, none⟩ = some (.int .u64 (p.T : Int)) := HD5.out.cell 6 (by decide)
  have h7 : w6.cell? ⟨w.heap.size, 7, none⟩ = some (.int .u32 (p.l : Int)) := HD5.out.cell 7 (by decide)
  have h8 : w6.cell? ⟨w.heap.size, 8, none⟩ = some (.int .u32 (p.g : Int)) := HD5.out.cell 8 (by decide)
  have h9 : w6.cell? ⟨w.heap.size, 9, none⟩ = some (.int .u16 (p.u : Int)) := HD5.out.cell 9 (by decide)
  have h10 : w6.cell? ⟨w.heap.size, 10, none⟩ = some (.int .u16 (p.j : Int)) := HD5.out.cell 10 (by decide)
  have h11 : w6.cell? ⟨w.heap.size, 11, none⟩ = some (.int .u32 (p.F : Int)) := HD5.out.cell 11 (by decide)
  have h12 : w6.cell? ⟨w.heap.size, 12, none⟩ = some (.int .u16 (p.d : Int)) := HD5.out.cell 12 (by decide)
  have h0 : w6.cell? ⟨w.heap.size, 0, none⟩ = some (.int .i64 3) := HD5.out.cell 0 (by decide)
  go_wp2_with fail
  clear h0 h1 h2 h3 h4 h5 h6 h7 h8 h9 h10 h11 h12
  generalize w2.heap.size = G at *
  clear i2 HD5
  have HO := kd_ok o 3
  obtain ⟨L, hL⟩ : ∃ L, L = ptN (kd p 3) := ⟨_, rfl⟩
  have lL : L = 11 := hL.trans eL.out
  refine (put_3 o r c w6 (HX.out.grew Hb5.out)).mono ?_
  rw [← hL, e0.out]
  rintro e w7 ⟨r7, c7, rfl, k7, -, B7, d7⟩
  have W7 := HW5.out.grew d7
  have b7 := Hb5.out.trans (d7.mono Hb5.out.size)
  have HB7 : Hid (BytesAt w7 r7 L (ptX (kd p 3))) := B7
  have Hk7 : Hid (L ≤ c7) := k7
  have lL2 : 9 ≤ L ∧ L ≤ 79 := by omega
  have iL : ((L : Int) != 11) = false := by rw [lL]; simp
  have HLp : Hid (L = ptN (kd p 3)) := hL
  clear HW5 Hb5 d7 B7 k7 lL eL hL
  go_wp2_with fail
  clear iL
  refine (packtake_any r7 L c7 _ w7 HB7.out Hk7.out (by omega)).mono ?_
  intro e w8 h8
  rw [HLp.out] at h8
  obtain ⟨r8, c8, rfl, Q8, d8⟩ := back_3 (tk_back HO e0.out h8)
  have a9 : Below w8.heap.size w8 (w8.alloc (.cells #[.int .i64 3, .int .u16 0, .int .u16 0, .int .u32 0, .int .u16 0, .slice r8 0 c8, .int .u64 0, .int .u32 0, .int .u32 0, .int .u16 0, .int .u16 0, .int .u32 (p.F : Int), .int .u16 (p.d : Int)] 31)) := (Below.refl _ _).alloc (Nat.le_refl _) _
  have W9 : Hid _ := (W7.grew d8).grew a9
  have R9 : Hid (BytesAt (w8.alloc (.cells #[.int .i64 3, .int .u16 0, .int .u16 0, .int .u32 0, .int .u16 0, .slice r8 0 c8, .int .u64 0, .int .u32 0, .int .u32 0, .int .u16 0, .int .u16 0, .int .u32 (p.F : Int), .int .u16 (p.d : Int)] 31)) r7 L (ptX (kd p 3))) := (HB7.out.grew d8).grew a9
  have Q9 : Hid _ := Q8.grew a9
  have A9 : Hid (PkAt (w8.alloc (.cells #[.int .i64 3, .int .u16 0, .int .u16 0, .int .u32 0, .int .u16 0, .slice r8 0 c8, .int .u64 0, .int .u32 0, .int .u32 0, .int .u16 0, .int .u16 0, .int .u32 (p.F : Int), .int .u16 (p.d : Int)] 31)) w8.heap.size (bare (kd p 3)) r8 c8) := PkAt.made w8 31 (bare (kd p 3)) r8 c8
  have b8 := b7.trans (d8.mono b7.size)
  have b9 : Hid (Below w.heap.size w (w8.alloc (.cells #[.int .i64 3, .int .u16 0, .int .u16 0, .int .u32 0, .int .u16 0, .slice r8 0 c8, .int .u64 0, .int .u32 0, .int .u32 0, .int .u16 0, .int .u16 0, .int .u32 (p.F : Int), .int .u16 (p.d : Int)] 31))) := b8.trans (a9.mono b8.size)
  have lj : pos % L < L := Nat.mod_lt _ (by omega)
  have lx : ∀ i, i < L → ptX (kd p 3) i < 256 := HB7.out.lt
  have bb3 : Below (w8.alloc (.cells #[.int .i64 3, .int .u16 0, .int .u16 0, .int .u32 0, .int .u16 0, .slice r8 0 c8, .int .u64 0, .int .u32 0, .int .u32 0, .int .u16 0, .int .u16 0, .int .u32 (p.F : Int), .int .u16 (p.d : Int)] 31)).heap.size (w8.alloc (.cells #[.int .i64 3, .int .u16 0, .int .u16 0, .int .u32 0, .int .u16 0, .slice r8 0 c8, .int .u64 0, .int .u32 0, .int .u32 0, .int .u16 0, .int .u16 0, .int .u32 (p.F : Int), .int .u16 (p.d : Int)] 31)) ((w8.alloc (.cells #[.int .i64 3, .int .u16 0, .int .u16 0, .int .u32 0, .int .u16 0, .slice r8 0 c8, .int .u64 0, .int .u32 0, .int .u32 0, .int .u16 0, .int .u16 0, .int .u32 (p.F : Int), .int .u16 (p.d : Int)] 31)).alloc (.cells #[] 5)) := (Below.refl _ _).alloc (Nat.le_refl _) _
  obtain ⟨c4, w4', happ, hc4, B4, d4, -, F4⟩ := clone_own ⟨(w8.alloc (.cells #[.int .i64 3, .int .u16 0, .int .u16 0, .int .u32 0, .int .u16 0, .slice r8 0 c8, .int .u64 0, .int .u32 0, .int .u32 0, .int .u16 0, .int .u16 0, .int .u32 (p.F : Int), .int .u16 (p.d : Int)] 31)).heap.size, 0, none⟩ 24 _ L c7 _ _ (R9.out.grew bb3) (by omega) (by omega)
  have bb4 := bb3.trans (d4.mono bb3.size)
  rw [show ((w8.alloc (.cells #[.int .i64 3, .int .u16 0, .int .u16 0, .int .u32 0, .int .u16 0, .slice r8 0 c8, .int .u64 0, .int .u32 0, .int .u32 0, .int .u16 0, .int .u16 0, .int .u32 (p.F : Int), .int .u16 (p.d : Int)] 31)).alloc (.cells #[] 5)).heap.size = w8.heap.size + 1 + 1 by simp] at happ B4 F4
  rw [show (w8.alloc (.cells #[.int .i64 3, .int .u16 0, .int .u16 0, .int .u32 0, .int .u16 0, .slice r8 0 c8, .int .u64 0, .int .u32 0, .int .u32 0, .int .u16 0, .int .u16 0, .int .u32 (p.F : Int), .int .u16 (p.d : Int)] 31)).heap.size = w8.heap.size + 1 by simp] at happ bb4
  clear h8 d8 a9 b7 b8 W7 HB7 Q8 bb3 d4
  have c5 := bytes_cell B4 (pos % L) lj
  rw [Nat.zero_add] at c5
  have f5 := F4 (pos % L)
  have e5 := u8_xor_nat (ptX (kd p 3) (pos % L)) v (lx _ lj) hv
  have HT : Hid (BytesAt (w4'.setCell ⟨w8.heap.size + 1 + 1, pos % L, none⟩ (.int .u8 ((ptX (kd p 3) (pos % L) ^^^ v : Nat) : Int))) (some ⟨w8.heap.size + 1 + 1, 0, none⟩) L (flip (ptX (kd p 3)) (pos % L) v)) := flip_bytes B4 lj hv
  have HBB : Hid (Below (w8.alloc (.cells #[.int .i64 3, .int .u16 0, .int .u16 0, .int .u32 0, .int .u16 0, .slice r8 0 c8, .int .u64 0, .int .u32 0, .int .u32 0, .int .u16 0, .int .u16 0, .int .u32 (p.F : Int), .int .u16 (p.d : Int)] 31)).heap.size (w8.alloc (.cells #[.int .i64 3, .int .u16 0, .int .u16 0, .int .u32 0, .int .u16 0, .slice r8 0 c8, .int .u64 0, .int .u32 0, .int .u32 0, .int .u16 0, .int .u16 0, .int .u32 (p.F : Int), .int .u16 (p.d : Int)] 31)) (w4'.setCell ⟨w8.heap.size + 1 + 1, pos % L, none⟩ (.int .u8 ((ptX (kd p 3) (pos % L) ^^^ v : Nat) : Int)))) := by
    show Below _ _ _
    rw [show (w8.alloc (.cells #[.int .i64 3, .int .u16 0, .int .u16 0, .int .u32 0, .int .u16 0, .slice r8 0 c8, .int .u64 0, .int .u32 0, .int .u32 0, .int .u16 0, .int .u16 0, .int .u32 (p.F : Int), .int .u16 (p.d : Int)] 31)).heap.size = w8.heap.size + 1 by simp]
    exact bb4.setCell (p := ⟨w8.heap.size + 1 + 1, pos % L, none⟩) (Nat.le_succ _) _
  obtain ⟨q7, E7, HT7, F1, F2⟩ : ∃ q E, Hid (∀ w e w', TkIs w L (flip (ptX (kd p 3)) (pos % L) v) e w' → PkIs w q E e w') ∧ ((E : Int) == 0) = ((v : Int) == 0) ∧ ((E : Int) == 3) = !((v : Int) == 0) := by
    have h := err_flip HO e0.out (pos % L) v (by rw [← HLp.out]; exact lj) hv
    rw [← HLp.out] at h
    exact ⟨_, _, fun _ _ _ h => h, h⟩
  obtain ⟨q9, E9, HT9, F3⟩ : ∃ q E, Hid (∀ w e w', TkIs w (pos % L) (ptX (kd p 3)) e w' → PkIs w q E e w') ∧ ((E : Int) == 3) = !(opB (ptX (kd p 3)) (pos % L)) := ⟨_, _, fun _ _ _ h => h, err_open _ _⟩
  generalize ptX (kd p 3) (pos % L) ^^^ v = sv' at *
  generalize ptX (kd p 3) (pos % L) = sv at *
  have HC4 : Hid (L ≤ c4) := hc4
  have lj0 : 0 ≤ (pos : Int) % (L : Int) := Int.emod_nonneg _ (by omega)
  have lj' : (pos : Int) % (L : Int) < (L : Int) := Int.emod_lt_of_pos _ (by omega)
  have F1 : Hid (((E7 : Int) == 0) = ((v : Int) == 0)) := F1
  have F2 : Hid (((E7 : Int) == 3) = !((v : Int) == 0)) := F2
  have F3 : Hid (((E9 : Int) == 3) = !(opB (ptX (kd p 3)) (pos % L))) := F3
  clear B4 F4 bb4 hc4 lx
  go_wp2_with (at_builtin; refine Go.Lib.wpList_append_run _ rfl (.tmp 91) (.tmp 92) 24 24 rfl _ _ rfl rfl _ _ happ ?_)
  clear happ c5 f5 e5
  generalize w4'.setCell ⟨w8.heap.size + 1 + 1, pos % L, none⟩ (.int .u8 (sv' : Int)) = w10 at *
  generalize (w8.alloc (.cells #[.int .i64 3, .int .u16 0, .int .u16 0, .int .u32 0, .int .u16 0, .slice r8 0 c8, .int .u64 0, .int .u32 0, .int .u32 0, .int .u16 0, .int .u16 0, .int .u32 (p.F : Int), .int .u16 (p.d : Int)] 31)) = w9 at *
  have W10 := W9.out.grew HBB.out
  have R10 := R9.out.grew HBB.out
  have Q10 := Q9.out.grew HBB.out
  have A10 := A9.out.grew HBB.out
  have b10 := b9.out.trans (HBB.out.mono b9.out.size)
  generalize w8.heap.size = G8 at *
  clear W9 R9 Q9 A9 b9 HBB
  refine (packtake_any (some ⟨G8 + 1 + 1, 0, none⟩) L c4 _ w10 HT.out HC4.out (by omega)).mono ?_
  intro e w11 h
  obtain ⟨r11, c11, rfl, -, -, -, d⟩ := HT7.out _ _ _ h
  have a12 : Below w11.heap.size w11 (w11.alloc (.cells #[.int .i64 q7.k, .int .u16 (q7.s : Int), .int .u16 (q7.t : Int), .int .u32 (q7.f : Int), .int .u16 (q7.y : Int), .slice r11 q7.n c11, .int .u64 (q7.T : Int), .int .u32 (q7.l : Int), .int .u32 (q7.g : Int), .int .u16 (q7.u : Int), .int .u16 (q7.j : Int), .int .u32 (q7.F : Int), .int .u16 (q7.d : Int)] 31)) := (Below.refl _ _).alloc (Nat.le_refl _) _
  have W12 : Hid _ := (W10.grew d).grew a12
  have R12 : Hid _ := (R10.grew d).grew a12
  have Q12 : Hid _ := (Q10.grew d).grew a12
  have A12 : Hid _ := (A10.grew d).grew a12
  have b11 := b10.trans (d.mono b10.size)
  have b12 : Hid (Below w.heap.size w (w11.alloc (.cells #[.int .i64 q7.k, .int .u16 (q7.s : Int), .int .u16 (q7.t : Int), .int .u32 (q7.f : Int), .int .u16 (q7.y : Int), .slice r11 q7.n c11, .int .u64 (q7.T : Int), .int .u32 (q7.l : Int), .int .u32 (q7.g : Int), .int .u16 (q7.u : Int), .int .u16 (q7.j : Int), .int .u32 (q7.F : Int), .int .u16 (q7.d : Int)] 31))) := b11.trans (a12.mono b11.size)
  have hst : ∀ W, (Instr.slice 24 (.slice r7 L c7) none (some (.int .i64 ((pos : Int) % (L : Int)))) none).run Try.prog W = .ok (.slice r7 (pos % L) c7) W := by
    have h7 := Hk7.out
    intro W
    have := slice_to r7 L c7 (pos % L) W (by omega)
    rwa [Int.natCast_emod] at this
  clear h d a12 b11 W10 R10 Q10 A10 b10 HT HT7 HC4
  go_wp2_with fail
  clear hst lj0 lj'
  generalize (w11.alloc (.cells #[.int .i64 q7.k, .int .u16 (q7.s : Int), .int .u16 (q7.t : Int), .int .u32 (q7.f : Int), .int .u16 (q7.y : Int), .slice r11 q7.n c11, .int .u64 (q7.T : Int), .int .u32 (q7.l : Int), .int .u32 (q7.g : Int), .int .u16 (q7.u : Int), .int .u16 (q7.j : Int), .int .u32 (q7.F : Int), .int .u16 (q7.d : Int)] 31)) = w12 at *
  have R12 := R12.out
  have lj2 : pos % L ≤ c7 := by have := Hk7.out; omega
  refine (ropen_any r7 (pos % L) c7 _ w12 (R12.take (by omega)) lj2 (by omega)).mono ?_
  have F3 := F3.out
  generalize opB (ptX (kd p 3)) (pos % L) = ob at *
  generalize opN (ptX (kd p 3)) (pos % L) = on at *
  rintro e w13 ⟨r13, c13, rfl, -, -, -, -, d13⟩
  have F3 : Hid (((E9 : Int) == 3) = !ob) := F3
  have W13 := W12.out.grew d13
  have R13 := R12.grew d13
  have Q13 := Q12.out.grew d13
  have A13 := A12.out.grew d13
  have b13 := b12.out.trans (d13.mono b12.out.size)
  clear W12 R12 Q12 A12 b12 d13
  go_wp2_with fail
  refine (packtake_any r7 (pos % L) c7 _ w13 (R13.take (by omega)) lj2 (by omega)).mono ?_
  intro e w14 h
  obtain ⟨r14, c14, rfl, -, -, -, d⟩ := HT9.out _ _ _ h
  have a15 : Below w14.heap.size w14 (w14.alloc (.cells #[.int .i64 q9.k, .int .u16 (q9.s : Int), .int .u16 (q9.t : Int), .int .u32 (q9.f : Int), .int .u16 (q9.y : Int), .slice r14 q9.n c14, .int .u64 (q9.T : Int), .int .u32 (q9.l : Int), .int .u32 (q9.g : Int), .int .u16 (q9.u : Int), .int .u16 (q9.j : Int), .int .u32 (q9.F : Int), .int .u16 (q9.d : Int)] 31)) := (Below.refl _ _).alloc (Nat.le_refl _) _
  have W15 : Hid _ := (W13.grew d).grew a15
  have Q15 : Hid _ := (Q13.grew d).grew a15
  have A15 : Hid _ := (A13.grew d).grew a15
  have b14 := b13.trans (d.mono b13.size)
  have b15 : Hid (Below w.heap.size w (w14.alloc (.cells #[.int .i64 q9.k, .int .u16 (q9.s : Int), .int .u16 (q9.t : Int), .int .u32 (q9.f : Int), .int .u16 (q9.y : Int), .slice r14 q9.n c14, .int .u64 (q9.T : Int), .int .u32 (q9.l : Int), .int .u32 (q9.g : Int), .int .u16 (q9.u : Int), .int .u16 (q9.j : Int), .int .u32 (q9.F : Int), .int .u16 (q9.d : Int)] 31))) := b14.trans (a15.mono b14.size)
  have g0 : (w14.alloc (.cells #[.int .i64 q9.k, .int .u16 (q9.s : Int), .int .u16 (q9.t : Int), .int .u32 (q9.f : Int), .int .u16 (q9.y : Int), .slice r14 q9.n c14, .int .u64 (q9.T : Int), .int .u32 (q9.l : Int), .int .u32 (q9.g : Int), .int .u16 (q9.u : Int), .int .u16 (q9.j : Int), .int .u32 (q9.F : Int), .int .u16 (q9.d : Int)] 31)).cell? ⟨G8, 0, none⟩ = some (.int .i64 3) := A15.out.cell 0 (by decide)
  have g1 : (w14.alloc (.cells #[.int .i64 q9.k, .int .u16 (q9.s : Int), .int .u16 (q9.t : Int), .int .u32 (q9.f : Int), .int .u16 (q9.y : Int), .slice r14 q9.n c14, .int .u64 (q9.T : Int), .int .u32 (q9.l : Int), .int .u32 (q9.g : Int), .int .u16 (q9.u : Int), .int .u16 (q9.j : Int), .int .u32 (q9.F : Int), .int .u16 (q9.d : Int)] 31)).cell? ⟨G8, 1, none⟩ = some (.int .u16 0) := A15.out.cell 1 (by decide)
  have g2 : (w14.alloc (.cells #[.int .i64 q9.k, .int .u16 (q9.s : Int), .int .u16 (q9.t : Int), .int .u32 (q9.f : Int), .int .u16 (q9.y : Int), .slice r14 q9.n c14, .int .u64 (q9.T : Int), .int .u32 (q9.l : Int), .int .u32 (q9.g : Int), .int .u16 (q9.u : Int), .int .u16 (q9.j : Int), .int .u32 (q9.F : Int), .int .u16 (q9.d : Int)] 31)).cell? ⟨G8, 2, none⟩ = some (.int .u16 0) := A15.out.cell 2 (by decide)
  have g3 : (w14.alloc (.cells #[.int .i64 q9.k, .int .u16 (q9.s : Int), .int .u16 (q9.t : Int), .int .u32 (q9.f : Int), .int .u16 (q9.y : Int), .slice r14 q9.n c14, .int .u64 (q9.T : Int), .int .u32 (q9.l : Int), .int .u32 (q9.g : Int), .int .u16 (q9.u : Int), .int .u16 (q9.j : Int), .int .u32 (q9.F : Int), .int .u16 (q9.d : Int)] 31)).cell? ⟨G8, 3, none⟩ = some (.int .u32 0) := A15.out.cell 3 (by decide)
  have g4 : (w14.alloc (.cells #[.int .i64 q9.k, .int .u16 (q9.s : Int), .int .u16 (q9.t : Int), .int .u32 (q9.f : Int), .int .u16 (q9.y : Int), .slice r14 q9.n c14, .int .u64 (q9.T : Int), .int .u32 (q9.l : Int), .int .u32 (q9.g : Int), .int .u16 (q9.u : Int), .int .u16 (q9.j : Int), .int .u32 (q9.F : Int), .int .u16 (q9.d : Int)] 31)).cell? ⟨G8, 4, none⟩ = some (.int .u16 0) := A15.out.cell 4 (by decide)
  have g5 : (w14.alloc (.cells #[.int .i64 q9.k, .int .u16 (q9.s : Int), .int .u16 (q9.t : Int), .int .u32 (q9.f : Int), .int .u16 (q9.y : Int), .slice r14 q9.n c14, .int .u64 (q9.T : Int), .int .u32 (q9.l : Int), .int .u32 (q9.g : Int), .int .u16 (q9.u : Int), .int .u16 (q9.j : Int), .int .u32 (q9.F : Int), .int .u16 (q9.d : Int)] 31)).cell? ⟨G8, 5, none⟩ = some (.slice r8 0 c8) := A15.out.cell 5 (by decide)
  have g6 : (w14.alloc (.cells #[.int .i64 q9.k, .int .u16 (q9.s : Int), .int .u16 (q9.t : Int), .int .u32 (q9.f : Int), .int .u16 (q9.y : Int), .slice r14 q9.n c14, .int .u64 (q9.T : Int), .int .u32 (q9.l : Int), .int .u32 (q9.g : Int), .int .u16 (q9.u : Int), .int .u16 (q9.j : Int), .int .u32 (q9.F : Int), .int .u16 (q9.d : Int)] 31)).cell? ⟨G8, 6, none⟩ = some (.int .u64 0) := A15.out.cell 6 (by decide)
  have g7 : (w14.alloc (.cells #[.int .i64 q9.k, .int .u16 (q9.s : Int), .int .u16 (q9.t : Int), .int .u32 (q9.f : Int), .int .u16 (q9.y : Int), .slice r14 q9.n c14, .int .u64 (q9.T : Int), .int .u32 (q9.l : Int), .int .u32 (q9.g : Int), .int .u16 (q9.u : Int), .int .u16 (q9.j : Int), .int .u32 (q9.F : Int), .int .u16 (q9.d : Int)] 31)).cell? ⟨G8, 7, none⟩ = some (.int .u32 0) := A15.out.cell 7 (by decide)
  have g8 : (w14.alloc (.cells #[.int .i64 q9.k, .int .u16 (q9.s : Int), .int .u16 (q9.t : Int), .int .u32 (q9.f : Int), .int .u16 (q9.y : Int), .slice r14 q9.n c14, .int .u64 (q9.T : Int), .int .u32 (q9.l : Int), .int .u32 (q9.g : Int), .int .u16 (q9.u : Int), .int .u16 (q9.j : Int), .int .u32 (q9.F : Int), .int .u16 (q9.d : Int)] 31)).cell? ⟨G8, 8, none⟩ = some (.int .u32 0) := A15.out.cell 8 (by decide)
  have g9 : (w14.alloc (.cells #[.int .i64 q9.k, .int .u16 (q9.s : Int), .int .u16 (q9.t : Int), .int .u32 (q9.f : Int), .int .u16 (q9.y : Int), .slice r14 q9.n c14, .int .u64 (q9.T : Int), .int .u32 (q9.l : Int), .int .u32 (q9.g : Int), .int .u16 (q9.u : Int), .int .u16 (q9.j : Int), .int .u32 (q9.F : Int), .int .u16 (q9.d : Int)] 31)).cell? ⟨G8, 9, none⟩ = some (.int .u16 0) := A15.out.cell 9 (by decide)
  have g10 : (w14.alloc (.cells #[.int .i64 q9.k, .int .u16 (q9.s : Int), .int .u16 (q9.t : Int), .int .u32 (q9.f : Int), .int .u16 (q9.y : Int), .slice r14 q9.n c14, .int .u64 (q9.T : Int), .int .u32 (q9.l : Int), .int .u32 (q9.g : Int), .int .u16 (q9.u : Int), .int .u16 (q9.j : Int), .int .u32 (q9.F : Int), .int .u16 (q9.d : Int)] 31)).cell? ⟨G8, 10, none⟩ = some (.int .u16 0) := A15.out.cell 10 (by decide)
  have g11 : (w14.alloc (.cells #[.int .i64 q9.k, .int .u16 (q9.s : Int), .int .u16 (q9.t : Int), .int .u32 (q9.f : Int), .int .u16 (q9.y : Int), .slice r14 q9.n c14, .int .u64 (q9.T : Int), .int .u32 (q9.l : Int), .int .u32 (q9.g : Int), .int .u16 (q9.u : Int), .int .u16 (q9.j : Int), .int .u32 (q9.F : Int), .int .u16 (q9.d : Int)] 31)).cell? ⟨G8, 11, none⟩ = some (.int .u32 (p.F : Int)) := A15.out.cell 11 (by decide)
  have g12 : (w14.alloc (.cells #[.int .i64 q9.k, .int .u16 (q9.s : Int), .int .u16 (q9.t : Int), .int .u32 (q9.f : Int), .int .u16 (q9.y : Int), .slice r14 q9.n c14, .int .u64 (q9.T : Int), .int .u32 (q9.l : Int), .int .u32 (q9.g : Int), .int .u16 (q9.u : Int), .int .u16 (q9.j : Int), .int .u32 (q9.F : Int), .int .u16 (q9.d : Int)] 31)).cell? ⟨G8, 12, none⟩ = some (.int .u16 (p.d : Int)) := A15.out.cell 12 (by decide)
  have h0 : (w14.alloc (.cells #[.int .i64 q9.k, .int .u16 (q9.s : Int), .int .u16 (q9.t : Int), .int .u32 (q9.f : Int), .int .u16 (q9.y : Int), .slice r14 q9.n c14, .int .u64 (q9.T : Int), .int .u32 (q9.l : Int), .int .u32 (q9.g : Int), .int .u16 (q9.u : Int), .int .u16 (q9.j : Int), .int .u32 (q9.F : Int), .int .u16 (q9.d : Int)] 31)).cell? ⟨G, 0, none⟩ = some (.int .i64 3) := W15.out.cell 0 (by decide)
  have h1 : (w14.alloc (.cells #[.int .i64 q9.k, .int .u16 (q9.s : Int), .int .u16 (q9.t : Int), .int .u32 (q9.f : Int), .int .u16 (q9.y : Int), .slice r14 q9.n c14, .int .u64 (q9.T : Int), .int .u32 (q9.l : Int), .int .u32 (q9.g : Int), .int .u16 (q9.u : Int), .int .u16 (q9.j : Int), .int .u32 (q9.F : Int), .int .u16 (q9.d : Int)] 31)).cell? ⟨G, 1, none⟩ = some (.int .u16 0) := W15.out.cell 1 (by decide)
  have h2 : (w14.alloc (.cells #[.int .i64 q9.k, .int .u16 (q9.s : Int), .int .u16 (q9.t : Int), .int .u32 (q9.f : Int), .int .u16 (q9.y : Int), .slice r14 q9.n c14, .int .u64 (q9.T : Int), .int .u32 (q9.l : Int), .int .u32 (q9.g : Int), .int .u16 (q9.u : Int), .int .u16 (q9.j : Int), .int .u32 (q9.F : Int), .int .u16 (q9.d : Int)] 31)).cell? ⟨G, 2, none⟩ = some (.int .u16 0) := W15.out.cell 2 (by decide)
  have h3 : (w14.alloc (.cells #[.int .i64 q9.k, .int .u16 (q9.s : Int), .int .u16 (q9.t : Int), .int .u32 (q9.f : Int), .int .u16 (q9.y : Int), .slice r14 q9.n c14, .int .u64 (q9.T : Int), .int .u32 (q9.l : Int), .int .u32 (q9.g : Int), .int .u16 (q9.u : Int), .int .u16 (q9.j : Int), .int .u32 (q9.F : Int), .int .u16 (q9.d : Int)] 31)).cell? ⟨G, 3, none⟩ = some (.int .u32 0) := W15.out.cell 3 (by decide)
  have h4 : (w14.alloc (.cells #[.int .i64 q9.k, .int .u16 (q9.s : Int), .int .u16 (q9.t : Int), .int .u32 (q9.f : Int), .int .u16 (q9.y : Int), .slice r14 q9.n c14, .int .u64 (q9.T : Int), .int .u32 (q9.l : Int), .int .u32 (q9.g : Int), .int .u16 (q9.u : Int), .int .u16 (q9.j : Int), .int .u32 (q9.F : Int), .int .u16 (q9.d : Int)] 31)).cell? ⟨G, 4, none⟩ = some (.int .u16 0) := W15.out.cell 4 (by decide)
  have h5 : (w14.alloc (.cells #[.int .i64 q9.k, .int .u16 (q9.s : Int), .int .u16 (q9.t : Int), .int .u32 (q9.f : Int), .int .u16 (q9.y : Int), .slice r14 q9.n c14, .int .u64 (q9.T : Int), .int .u32 (q9.l : Int), .int .u32 (q9.g : Int), .int .u16 (q9.u : Int), .int .u16 (q9.j : Int), .int .u32 (q9.F : Int), .int .u16 (q9.d : Int)] 31)).cell? ⟨G, 5, none⟩ = some (.slice none 0 0) := W15.out.cell 5 (by decide)
  have h6 : (w14.alloc (.cells #[.int .i64 q9.k, .int .u16 (q9.s : Int), .int .u16 (q9.t : Int), .int .u32 (q9.f : Int), .int .u16 (q9.y : Int), .slice r14 q9.n c14, .int .u64 (q9.T : Int), .int .u32 (q9.l : Int), .int .u32 (q9.g : Int), .int .u16 (q9.u : Int), .int .u16 (q9.j : Int), .int .u32 (q9.F : Int), .int .u16 (q9.d : Int)] 31)).cell? ⟨G, 6, none⟩ = some (.int .u64 0) := W15.out.cell 6 (by decide)
  have h7 : (w14.alloc (.cells #[.int .i64 q9.k, .int .u16 (q9.s : Int), .int .u16 (q9.t : Int), .int .u32 (q9.f : Int), .int .u16 (q9.y : Int), .slice r14 q9.n c14, .int .u64 (q9.T : Int), .int .u32 (q9.l : Int), .int .u32 (q9.g : Int), .int .u16 (q9.u : Int), .int .u16 (q9.j : Int), .int .u32 (q9.F : Int), .int .u16 (q9.d : Int)] 31)).cell? ⟨G, 7, none⟩ = some (.int .u32 0) := W15.out.cell 7 (by decide)
  have h8 : (w14.alloc (.cells #[.int .i64 q9.k, .int .u16 (q9.s : Int), .int .u16 (q9.t : Int), .int .u32 (q9.f : Int), .int .u16 (q9.y : Int), .slice r14 q9.n c14, .int .u64 (q9.T : Int), .int .u32 (q9.l : Int), .int .u32 (q9.g : Int), .int .u16 (q9.u : Int), .int .u16 (q9.j : Int), .int .u32 (q9.F : Int), .int .u16 (q9.d : Int)] 31)).cell? ⟨G, 8, none⟩ = some (.int .u32 0) := W15.out.cell 8 (by decide)
  have h9 : (w14.alloc (.cells #[.int .i64 q9.k, .int .u16 (q9.s : Int), .int .u16 (q9.t : Int), .int .u32 (q9.f : Int), .int .u16 (q9.y : Int), .slice r14 q9.n c14, .int .u64 (q9.T : Int), .int .u32 (q9.l : Int), .int .u32 (q9.g : Int), .int .u16 (q9.u : Int), .int .u16 (q9.j : Int), .int .u32 (q9.F : Int), .int .u16 (q9.d : Int)] 31)).cell? ⟨G, 9, none⟩ = some (.int .u16 0) := W15.out.cell 9 (by decide)
  have h10 : (w14.alloc (.cells #[.int .i64 q9.k, .int .u16 (q9.s : Int), .int .u16 (q9.t : Int), .int .u32 (q9.f : Int), .int .u16 (q9.y : Int), .slice r14 q9.n c14, .int .u64 (q9.T : Int), .int .u32 (q9.l : Int), .int .u32 (q9.g : Int), .int .u16 (q9.u : Int), .int .u16 (q9.j : Int), .int .u32 (q9.F : Int), .int .u16 (q9.d : Int)] 31)).cell? ⟨G, 10, none⟩ = some (.int .u16 0) := W15.out.cell 10 (by decide)
  have h11 : (w14.alloc (.cells #[.int .i64 q9.k, .int .u16 (q9.s : Int), .int .u16 (q9.t : Int), .int .u32 (q9.f : Int), .int .u16 (q9.y : Int), .slice r14 q9.n c14, .int .u64 (q9.T : Int), .int .u32 (q9.l : Int), .int .u32 (q9.g : Int), .int .u16 (q9.u : Int), .int .u16 (q9.j : Int), .int .u32 (q9.F : Int), .int .u16 (q9.d : Int)] 31)).cell? ⟨G, 11, none⟩ = some (.int .u32 (p.F : Int)) := W15.out.cell 11 (by decide)
  have h12 : (w14.alloc (.cells #[.int .i64 q9.k, .int .u16 (q9.s : Int), .int .u16 (q9.t : Int), .int .u32 (q9.f : Int), .int .u16 (q9.y : Int), .slice r14 q9.n c14, .int .u64 (q9.T : Int), .int .u32 (q9.l : Int), .int .u32 (q9.g : Int), .int .u16 (q9.u : Int), .int .u16 (q9.j : Int), .int .u32 (q9.F : Int), .int .u16 (q9.d : Int)] 31)).cell? ⟨G, 12, none⟩ = some (.int .u16 (p.d : Int)) := W15.out.cell 12 (by decide)
  clear h d a15 b14 W13 R13 Q13 A13 b13 HT9 Hk7 lj2
  go_wp2_with fail
  generalize (w14.alloc (.cells #[.int .i64 q9.k, .int .u16 (q9.s : Int), .int .u16 (q9.t : Int), .int .u32 (q9.f : Int), .int .u16 (q9.y : Int), .slice r14 q9.n c14, .int .u64 (q9.T : Int), .int .u32 (q9.l : Int), .int .u32 (q9.g : Int), .int .u16 (q9.u : Int), .int .u16 (q9.j : Int), .int .u32 (q9.F : Int), .int .u16 (q9.d : Int)] 31)) = w15 at *
  clear g0 g1 g2 g3 g4 g5 g6 g7 g8 g9 g10 g11 g12 h0 h1 h2 h3 h4 h5 h6 h7 h8 h9 h10 h11 h12 A15 W15
  refine (alike_3 r8 none c8 0 w15 Q15.out (nil_bytes _ _)).mono ?_
  rintro e w16 ⟨rfl, d⟩
  have HB : Hid (Below w.heap.size w w16) := b15.out.trans (d.mono b15.out.size)
  have F1 := F1.out
  have F2 := F2.out
  have F3 := F3.out
  clear d b15 Q15
  generalize hv0 : ((v : Int) == 0) = v0 at *
  cases v0 <;> cases ob
  all_goals
    go_wp2
    go_ret
    exact ⟨rfl, HB.out⟩

set_option maxRecDepth 100000 in
set_option maxHeartbeats 4000000 in
theorem core_4 (p : Pk) (r : Option Addr) (c kind pos v : Nat) (w : World) (o : p.Ok) (hx : BytesAt w r p.n p.x) (n1 : 1 ≤ p.n) (n2 : p.n ≤ 64) (hk : kind % 4 = 3) (hp : pos < 65536) (hv : v < 256) :
    Calls Try.prog 4 #[.agg #[.int .i64 p.k, .int .u16 (p.s : Int), .int .u16 (p.t : Int), .int .u32 (p.f : Int), .int .u16 (p.y : Int), .slice r p.n c, .int .u64 (p.T : Int), .int .u32 (p.l : Int), .int .u32 (p.g : Int), .int .u16 (p.u : Int), .int .u16 (p.j : Int), .int .u32 (p.F : Int), .int .u16 (p.d : Int)], .int .u8 (kind : Int), .int .u16 (pos : Int), .int .u8 (v : Int)] w fun e w' => e = .returned (.bool true) ∧ Below w.heap.size w w' := by
  have e0 : Hid (bE (kd p 4) = 0) := kd_err 4 n1 n2 (by decide) (by decide)
  have eL : Hid (ptN (kd p 4) = 9) := by show _ = _; rw [ptN_yes e0.out]; exact (congrArg (fun t => 1 + t + 4) (b_gone rfl).1).trans (by rfl)
  have HX : Hid (BytesAt w r p.n p.x) := hx
  have i0 : decide ((p.n : Int) < 1) = false := by simp; omega
  have i1 : decide ((64 : Int) < (p.n : Int)) = false := by simp; omega
  have i2 : (kind : Int) % 4 = 3 := by omega
  have D1 := PkAt.made w 31 p r c
  have b1 : Below w.heap.size w (w.alloc (.cells #[.int .i64 p.k, .int .u16 (p.s : Int), .int .u16 (p.t : Int), .int .u32 (p.f : Int), .int .u16 (p.y : Int), .slice r p.n c, .int .u64 (p.T : Int), .int .u32 (p.l : Int), .int .u32 (p.g : Int), .int .u16 (p.u : Int), .int .u16 (p.j : Int), .int .u32 (p.F : Int), .int .u16 (p.d : Int)] 31)) := (Below.refl _ _).alloc (Nat.le_refl _) _
  clear hx hk
  go_enter Try.func4, Try.ntmps4
  go_wp2_with fail
  generalize (w.alloc (.cells #[.int .i64 p.k, .int .u16 (p.s : Int), .int .u16 (p.t : Int), .int .u32 (p.f : Int), .int .u16 (p.y : Int), .slice r p.n c, .int .u64 (p.T : Int), .int .u32 (p.l : Int), .int .u32 (p.g : Int), .int .u16 (p.u : Int), .int .u16 (p.j : Int), .int .u32 (p.F : Int), .int .u16 (p.d : Int)] 31)) = w1 at *
  refine (begun11 _).mono ?_
  rintro e w2 ⟨rfl, d2⟩
  have D2 := D1.grew d2
  have b2 := b1.trans (d2.mono b1.size)
  have q5 : w2.cell? ⟨w.heap.size, 5, none⟩ = some (.slice r p.n c) := D2.cell 5 (by decide)
  have q0 : w2.cell? ⟨w.heap.size, 0, none⟩ = some (.int .i64 p.k) := D2.cell 0 (by decide)
  have z0 := D2.frz 0
  have D3 : PkAt (w2.setCell ⟨w.heap.size, 0, none⟩ (.int .i64 4)) w.heap.size (kd p 4) r c := D2.run 0 [.int .i64 4] (Nat.le_of_ble_eq_true rfl) fun j hj => match j, hj with
    | 0, _ => rfl
    | 1, _ => rfl
    | 2, _ => rfl
    | 3, _ => rfl
    | 4, _ => rfl
    | 5, _ => rfl
    | 6, _ => rfl
    | 7, _ => rfl
    | 8, _ => rfl
    | 9, _ => rfl
    | 10, _ => rfl
    | 11, _ => rfl
    | 12, _ => rfl
  have b3 : Below w.heap.size w (w2.setCell ⟨w.heap.size, 0, none⟩ (.int .i64 4)) := b2.setCell (p := ⟨w.heap.size, 0, none⟩) (Nat.le_refl _) _
  have s3 : (w2.setCell ⟨w.heap.size, 0, none⟩ (.int .i64 4)).heap.size = w2.heap.size := by simp [World.setCell]
  have a4 : Below (w2.setCell ⟨w.heap.size, 0, none⟩ (.int .i64 4)).heap.size (w2.setCell ⟨w.heap.size, 0, none⟩ (.int .i64 4)) ((w2.setCell ⟨w.heap.size, 0, none⟩ (.int .i64 4)).alloc (.cells #[.int .i64 4, .int .u16 0, .int .u16 0, .int .u32 0, .int .u16 0, .slice none 0 0, .int .u64 0, .int .u32 0, .int .u32 0, .int .u16 0, .int .u16 0, .int .u32 0, .int .u16 0] 31)) := (Below.refl _ _).alloc (Nat.le_refl _) _
  have HD : Hid (PkAt ((w2.setCell ⟨w.heap.size, 0, none⟩ (.int .i64 4)).alloc (.cells #[.int .i64 4, .int .u16 0, .int .u16 0, .int .u32 0, .int .u16 0, .slice none 0 0, .int .u64 0, .int .u32 0, .int .u32 0, .int .u16 0, .int .u16 0, .int .u32 0, .int .u16 0] 31)) w.heap.size (kd p 4) r c) := D3.grew a4
  have HW : Hid (PkAt ((w2.setCell ⟨w.heap.size, 0, none⟩ (.int .i64 4)).alloc (.cells #[.int .i64 4, .int .u16 0, .int .u16 0, .int .u32 0, .int .u16 0, .slice none 0 0, .int .u64 0, .int .u32 0, .int .u32 0, .int .u16 0, .int .u16 0, .int .u32 0, .int .u16 0] 31)) w2.heap.size (pKind 4) none 0) := by
    have := PkAt.made (w2.setCell ⟨w.heap.size, 0, none⟩ (.int .i64 4)) 31 (pKind 4) none 0
    rwa [s3] at this
  have Hb : Hid (Below w.heap.size w ((w2.setCell ⟨w.heap.size, 0, none⟩ (.int .i64 4)).alloc (.cells #[.int .i64 4, .int .u16 0, .int .u16 0, .int .u32 0, .int .u16 0, .slice none 0 0, .int .u64 0, .int .u32 0, .int .u32 0, .int .u16 0, .int .u16 0, .int .u32 0, .int .u16 0] 31))) := b3.trans (a4.mono b3.size)
  have HG : Hid (w.heap.size < w2.heap.size) := D2.lt
  clear D1 b1 d2 D2 b2 a4
  have h11 : ((w2.setCell ⟨w.heap.size, 0, none⟩ (.int .i64 4)).alloc (.cells #[.int .i64 4, .int .u16 0, .int .u16 0, .int .u32 0, .int .u16 0, .slice none 0 0, .int .u64 0, .int .u32 0, .int .u32 0, .int .u16 0, .int .u16 0, .int .u32 0, .int .u16 0] 31)).cell? ⟨w.heap.size, 11, none⟩ = some (.int .u32 (p.F : Int)) := HD.out.cell 11 (by decide)
  have HW5 : Hid (PkAt ((w2.setCell ⟨w.heap.size, 0, none⟩ (.int .i64 4)).alloc (.cells #[.int .i64 4, .int .u16 0, .int .u16 0, .int .u32 0, .int .u16 0, .slice none 0 0, .int .u64 0, .int .u32 0, .int .u32 0, .int .u16 0, .int .u16 0, .int .u32 (p.F : Int), .int .u16 0] 31)) w2.heap.size (bare (kd p 4)) none 0) := by
    have := PkAt.made (w2.setCell ⟨w.heap.size, 0, none⟩ (.int .i64 4)) 31 (bare (kd p 4)) none 0
    rwa [s3] at this
  have a5 : Below (w2.setCell ⟨w.heap.size, 0, none⟩ (.int .i64 4)).heap.size (w2.setCell ⟨w.heap.size, 0, none⟩ (.int .i64 4)) ((w2.setCell ⟨w.heap.size, 0, none⟩ (.int .i64 4)).alloc (.cells #[.int .i64 4, .int .u16 0, .int .u16 0, .int .u32 0, .int .u16 0, .slice none 0 0, .int .u64 0, .int .u32 0, .int .u32 0, .int .u16 0, .int .u16 0, .int .u32 (p.F : Int), .int .u16 0] 31)) := (Below.refl _ _).alloc (Nat.le_refl _) _
  have HD5 : Hid (PkAt ((w2.setCell ⟨w.heap.size, 0, none⟩ (.int .i64 4)).alloc (.cells #[.int .i64 4, .int .u16 0, .int .u16 0, .int .u32 0, .int .u16 0, .slice none 0 0, .int .u64 0, .int .u32 0, .int .u32 0, .int .u16 0, .int .u16 0, .int .u32 (p.F : Int), .int .u16 0] 31)) w.heap.size (kd p 4) r c) := D3.grew a5
  have Hb5 : Hid (Below w.heap.size w ((w2.setCell ⟨w.heap.size, 0, none⟩ (.int .i64 4)).alloc (.cells #[.int .i64 4, .int .u16 0, .int .u16 0, .int .u32 0, .int .u16 0, .slice none 0 0, .int .u64 0, .int .u32 0, .int .u32 0, .int .u16 0, .int .u16 0, .int .u32 (p.F : Int), .int .u16 0] 31))) := b3.trans (a5.mono b3.size)
  have g1 : ((w2.setCell ⟨w.heap.size, 0, none⟩ (.int .i64 4)).alloc (.cells #[.int .i64 4, .int .u16 0, .int .u16 0, .int .u32 0, .int .u16 0, .slice none 0 0, .int .u64 0, .int .u32 0, .int .u32 0, .int .u16 0, .int .u16 0, .int .u32 (p.F : Int), .int .u16 0] 31)).cell? ⟨w.heap.size, 1, none⟩ = some (.int .u16 (p.s : Int)) := HD5.out.cell 1 (by decide)
  have g2 : ((w2.setCell ⟨w.heap.size, 0, none⟩ (.int .i64 4)).alloc (.cells #[.int .i64 4, .int .u16 0, .int .u16 0, .int .u32 0, .int .u16 0, .slice none 0 0, .int .u64 0, .int .u32 0, .int .u32 0, .int .u16 0, .int .u16 0, .int .u32 (p.F : Int), .int .u16 0] 31)).cell? ⟨w.heap.size, 2, none⟩ = some (.int .u16 (p.t : Int)) := HD5.out.cell 2 (by decide)
  have g3 : ((w2.setCell ⟨w.heap.size, 0, none⟩ (.int .i64 4)).alloc (.cells #[.int .i64 4, .int .u16 0, .int .u16 0, .int .u32 0, .int .u16 0, .slice none 0 0, .int .u64 0, .int .u32 0, .int .u32 0, .int .u16 0, .int .u16 0, .int .u32 (p.F : Int), .int .u16 0] 31)).cell? ⟨w.heap.size, 3, none⟩ = some (.int .u32 (p.f : Int)) := HD5.out.cell 3 (by decide)
  have g4 : ((w2.setCell ⟨w.heap.size, 0, none⟩ (.int .i64 4)).alloc (.cells #[.int .i64 4, .int .u16 0, .int .u16 0, .int .u32 0, .int .u16 0, .slice none 0 0, .int .u64 0, .int .u32 0, .int .u32 0, .int .u16 0, .int .u16 0, .int .u32 (p.F : Int), .int .u16 0] 31)).cell? ⟨w.heap.size, 4, none⟩ = some (.int .u16 (p.y : Int)) := HD5.out.cell 4 (by decide)
  have g5 : ((w2.setCell ⟨w.heap.size, 0, none⟩ (.int .i64 4)).alloc (.cells #[.int .i64 4, .int .u16 0, .int .u16 0, .int .u32 0, .int .u16 0, .slice none 0 0, .int .u64 0, .int .u32 0, .int .u32 0, .int .u16 0, .int .u16 0, .int .u32 (p.F : Int), .int .u16 0] 31)).cell? ⟨w.heap.size, 5, none⟩ = some (.slice r p.n c) := HD5.out.cell 5 (by decide)
  have g6 : ((w2.setCell ⟨w.heap.size, 0, none⟩ (.int .i64 4)).alloc (.cells #[.int .i64 4, .int .u16 0, .int .u16 0, .int .u32 0, .int .u16 0, .slice none 0 0, .int .u64 0, .int .u32 0, .int .u32 0, .int .u16 0, .int .u16 0, .int .u32 (p.F : Int), .int .u16 0] 31)).cell? ⟨w.heap.size, 6, none⟩ = some (.int .u64 (p.T : Int)) := HD5.out.cell 6 (by decide)
  have g7 : ((w2.setCell ⟨w.heap.size, 0, none⟩ (.int .i64 4)).alloc (.cells #[.int .i64 4, .int .u16 0, .int .u16 0, .int .u32 0, .int .u16 0, .slice none 0 0, .int .u64 0, .int .u32 0, .int .u32 0, .int .u16 0, .int .u16 0, .int .u32 (p.F : Int), .int .u16 0] 31)).cell? ⟨w.heap.size, 7, none⟩ = some (.int .u32 (p.l : Int)) := HD5.out.cell 7 (by decide)
  have g8 : ((w2.setCell ⟨w.heap.size, 0, none⟩ (.int .i64 4)).alloc (.cells #[.int .i64 4, .int .u16 0, .int .u16 0, .int .u32 0, .int .u16 0, .slice none 0 0, .int .u64 0, .int .u32 0, .int .u32 0, .int .u16 0, .int .u16 0, .int .u32 (p.F : Int), .int .u16 0] 31)).cell? ⟨w.heap.size, 8, none⟩ = some (.int .u32 (p.g : Int)) := HD5.out.cell 8 (by decide)
  have g9 : ((w2.setCell ⟨w.heap.size, 0, none⟩ (.int .i64 4)).alloc (.cells #[.int .i64 4, .int .u16 0, .int .u16 0, .int .u32 0, .int .u16 0, .slice none 0 0, .int .u64 0, .int .u32 0, .int .u32 0, .int .u16 0, .int .u16 0, .int .u32 (p.F : Int), .int .u16 0] 31)).cell? ⟨w.heap.size, 9, none⟩ = some (.int .u16 (p.u : Int)) := HD5.out.cell 9 (by decide)
  have g10 : ((w2.setCell ⟨w.heap.size, 0, none⟩ (.int .i64 4)).alloc (.cells #[.int .i64 4, .int .u16 0, .int .u16 0, .int .u32 0, .int .u16 0, .slice none 0 0, .int .u64 0, .int .u32 0, .int .u32 0, .int .u16 0, .int .u16 0, .int .u32 (p.F : Int), .int .u16 0] 31)).cell? ⟨w.heap.size, 10, none⟩ = some (.int .u16 (p.j : Int)) := HD5.out.cell 10 (by decide)
  have g11 : ((w2.setCell ⟨w.heap.size, 0, none⟩ (.int .i64 4)).alloc (.cells #[.int .i64 4, .int .u16 0, .int .u16 0, .int .u32 0, .int .u16 0, .slice none 0 0, .int .u64 0, .int .u32 0, .int .u32 0, .int .u16 0, .int .u16 0, .int .u32 (p.F : Int), .int .u16 0] 31)).cell? ⟨w.heap.size, 11, none⟩ = some (.int .u32 (p.F : Int)) := HD5.out.cell 11 (by decide)
  have g12 : ((w2.setCell ⟨w.heap.size, 0, none⟩ (.int .i64 4)).alloc (.cells #[.int .i64 4, .int .u16 0, .int .u16 0, .int .u32 0, .int .u16 0, .slice none 0 0, .int .u64 0, .int .u32 0, .int .u32 0, .int .u16 0, .int .u16 0, .int .u32 (p.F : Int), .int .u16 0] 31)).cell? ⟨w.heap.size, 12, none⟩ = some (.int .u16 (p.d : Int)) := HD5.out.cell 12 (by decide)
  have g0 : ((w2.setCell ⟨w.heap.size, 0, none⟩ (.int .i64 4)).alloc (.cells #[.int .i64 4, .int .u16 0, .int .u16 0, .int .u32 0, .int .u16 0, .slice none 0 0, .int .u64 0, .int .u32 0, .int .u32 0, .int .u16 0, .int .u16 0, .int .u32 (p.F : Int), .int .u16 0] 31)).cell? ⟨w.heap.size, 0, none⟩ = some (.int .i64 4) := HD5.out.cell 0 (by decide)
  have h0 : ((w2.setCell ⟨w.heap.size, 0, none⟩ (.int .i64 4)).alloc (.cells #[.int .i64 4, .int .u16 0, .int .u16 0, .int .u32 0, .int .u16 0, .slice none 0 0, .int .u64 0, .int .u32 0, .int .u32 0, .int .u16 0, .int .u16 0, .int .u32 0, .int .u16 0] 31)).cell? ⟨w.heap.size, 0, none⟩ = some (.int .i64 4) := HD.out.cell 0 (by decide)
  clear HD HW Hb D3 b3 s3 a5
  go_wp2_with fail
  generalize ((w2.setCell ⟨w.heap.size, 0, none⟩ (.int .i64 4)).alloc (.cells #[.int .i64 4, .int .u16 0, .int .u16 0, .int .u32 0, .int .u16 0, .slice none 0 0, .int .u64 0, .int .u32 0, .int .u32 0, .int .u16 0, .int .u16 0, .int .u32 (p.F : Int), .int .u16 0] 31)) = w5 at *
  clear g0 g1 g2 g3 g4 g5 g6 g7 g8 g9 g10 g11 g12 h11 h0 q0 q5 z0 i0 i1
  generalize w2.heap.size = G at *
  clear i2 HD5
  have HO := kd_ok o 4
  obtain ⟨L, hL⟩ : ∃ L, L = ptN (kd p 4) := ⟨_, rfl⟩
  have lL : L = 9 := hL.trans eL.out
  refine (put_4 o r c w5 (HX.out.grew Hb5.out)).mono ?_
  rw [← hL, e0.out]
  rintro e w7 ⟨r7, c7, rfl, k7, -, B7, d7⟩
  have W7 := HW5.out.grew d7
  have b7 := Hb5.out.trans (d7.mono Hb5.out.size)
  have HB7 : Hid (BytesAt w7 r7 L (ptX (kd p 4))) := B7
  have Hk7 : Hid (L ≤ c7) := k7
  have lL2 : 9 ≤ L ∧ L ≤ 79 := by omega
  have iL : ((L : Int) != 9) = false := by rw [lL]; simp
  have HLp : Hid (L = ptN (kd p 4)) := hL
  clear HW5 Hb5 d7 B7 k7 lL eL hL
  go_wp2_with fail
  clear iL
  refine (packtake_any r7 L c7 _ w7 HB7.out Hk7.out (by omega)).mono ?_
  intro e w8 h8
  rw [HLp.out] at h8
  obtain ⟨r8, c8, rfl, Q8, d8⟩ := back_4 (tk_back HO e0.out h8)
  have a9 : Below w8.heap.size w8 (w8.alloc (.cells #[.int .i64 4, .int .u16 0, .int .u16 0, .int .u32 0, .int .u16 0, .slice r8 0 c8, .int .u64 0, .int .u32 0, .int .u32 0, .int .u16 0, .int .u16 0, .int .u32 (p.F : Int), .int .u16 0] 31)) := (Below.refl _ _).alloc (Nat.le_refl _) _
  have W9 : Hid _ := (W7.grew d8).grew a9
  have R9 : Hid (BytesAt (w8.alloc (.cells #[.int .i64 4, .int .u16 0, .int .u16 0, .int .u32 0, .int .u16 0, .slice r8 0 c8, .int .u64 0, .int .u32 0, .int .u32 0, .int .u16 0, .int .u16 0, .int .u32 (p.F : Int), .int .u16 0] 31)) r7 L (ptX (kd p 4))) := (HB7.out.grew d8).grew a9
  have Q9 : Hid _ := Q8.grew a9
  have A9 : Hid (PkAt (w8.alloc (.cells #[.int .i64 4, .int .u16 0, .int .u16 0, .int .u32 0, .int .u16 0, .slice r8 0 c8, .int .u64 0, .int .u32 0, .int .u32 0, .int .u16 0, .int .u16 0, .int .u32 (p.F : Int), .int .u16 0] 31)) w8.heap.size (bare (kd p 4)) r8 c8) := PkAt.made w8 31 (bare (kd p 4)) r8 c8
  have b8 := b7.trans (d8.mono b7.size)
  have b9 : Hid (Below w.heap.size w (w8.alloc (.cells #[.int .i64 4, .int .u16 0, .int .u16 0, .int .u32 0, .int .u16 0, .slice r8 0 c8, .int .u64 0, .int .u32 0, .int .u32 0, .int .u16 0, .int .u16 0, .int .u32 (p.F : Int), .int .u16 0] 31))) := b8.trans (a9.mono b8.size)
  have lj : pos % L < L := Nat.mod_lt _ (by omega)
  have lx : ∀ i, i < L → ptX (kd p 4) i < 256 := HB7.out.lt
  have bb3 : Below (w8.alloc (.cells #[.int .i64 4, .int .u16 0, .int .u16 0, .int .u32 0, .int .u16 0, .slice r8 0 c8, .int .u64 0, .int .u32 0, .int .u32 0, .int .u16 0, .int .u16 0, .int .u32 (p.F : Int), .int .u16 0] 31)).heap.size (w8.alloc (.cells #[.int .i64 4, .int .u16 0, .int .u16 0, .int .u32 0, .int .u16 0, .slice r8 0 c8, .int .u64 0, .int .u32 0, .int .u32 0, .int .u16 0, .int .u16 0, .int .u32 (p.F : Int), .int .u16 0] 31)) ((w8.alloc (.cells #[.int .i64 4, .int .u16 0, .int .u16 0, .int .u32 0, .int .u16 0, .slice r8 0 c8, .int .u64 0, .int .u32 0, .int .u32 0, .int .u16 0, .int .u16 0, .int .u32 (p.F : Int), .int .u16 0] 31)).alloc (.cells #[] 5)) := (Below.refl _ _).alloc (Nat.le_refl _) _
  obtain ⟨c4, w4', happ, hc4, B4, d4, -, F4⟩ := clone_own ⟨(w8.alloc (.cells #[.int .i64 4, .int .u16 0, .int .u16 0, .int .u32 0, .int .u16 0, .slice r8 0 c8, .int .u64 0, .int .u32 0, .int .u32 0, .int .u16 0, .int .u16 0, .int .u32 (p.F : Int), .int .u16 0] 31)).heap.size, 0, none⟩ 24 _ L c7 _ _ (R9.out.grew bb3) (by omega) (by omega)
  have bb4 := bb3.trans (d4.mono bb3.size)
  rw [show ((w8.alloc (.cells #[.int .i64 4, .int .u16 0, .int .u16 0, .int .u32 0, .int .u16 0, .slice r8 0 c8, .int .u64 0, .int .u32 0, .int .u32 0, .int .u16 0, .int .u16 0, .int .u32 (p.F : Int), .int .u16 0] 31)).alloc (.cells #[] 5)).heap.size = w8.heap.size + 1 + 1 by simp] at happ B4 F4
  rw [show (w8.alloc (.cells #[.int .i64 4, .int .u16 0, .int .u16 0, .int .u32 0, .int .u16 0, .slice r8 0 c8, .int .u64 0, .int .u32 0, .int .u32 0, .int .u16 0, .int .u16 0, .int .u32 (p.F : Int), .int .u16 0] 31)).heap.size = w8.heap.size + 1 by simp] at happ bb4
  clear h8 d8 a9 b7 b8 W7 HB7 Q8 bb3 d4
  have c5 := bytes_cell B4 (pos % L) lj
  rw [Nat.zero_add] at c5
  have f5 := F4 (pos % L)
  have e5 := u8_xor_nat (ptX (kd p 4) (pos % L)) v (lx _ lj) hv
  have HT : Hid (BytesAt (w4'.setCell ⟨w8.heap.size + 1 + 1, pos % L, none⟩ (.int .u8 ((ptX (kd p 4) (pos % L) ^^^ v : Nat) : Int))) (some ⟨w8.heap.size + 1 + 1, 0, none⟩) L (flip (ptX (kd p 4)) (pos % L) v)) := flip_bytes B4 lj hv
  have HBB : Hid (Below (w8.alloc (.cells #[.int .i64 4, .int .u16 0, .int .u16 0, .int .u32 0, .int .u16 0, .slice r8 0 c8, .int .u64 0, .int .u32 0, .int .u32 0, .int .u16 0, .int .u16 0, .int .u32 (p.F : Int), .int .u16 0] 31)).heap.size (w8.alloc (.cells #[.int .i64 4, .int .u16 0, .int .u16 0, .int .u32 0, .int .u16 0, .slice r8 0 c8, .int .u64 0, .int .u32 0, .int .u32 0, .int .u16 0, .int .u16 0, .int .u32 (p.F : Int), .int .u16 0] 31)) (w4'.setCell ⟨w8.heap.size + 1 + 1, pos % L, none⟩ (.int .u8 ((ptX (kd p 4) (pos % L) ^^^ v : Nat) : Int)))) := by
    show Below _ _ _
    rw [show (w8.alloc (.cells #[.int .i64 4, .int .u16 0, .int .u16 0, .int .u32 0, .int .u16 0, .slice r8 0 c8, .int .u64 0, .int .u32 0, .int .u32 0, .int .u16 0, .int .u16 0, .int .u32 (p.F : Int), .int .u16 0] 31)).heap.size = w8.heap.size + 1 by simp]
    exact bb4.setCell (p := ⟨w8.heap.size + 1 + 1, pos % L, none⟩) (Nat.le_succ _) _
  obtain ⟨q7, E7, HT7, F1, F2⟩ : ∃ q E, Hid (∀ w e w', TkIs w L (flip (ptX (kd p 4)) (pos % L) v) e w' → PkIs w q E e w') ∧ ((E : Int) == 0) = ((v : Int) == 0) ∧ ((E : Int) == 3) = !((v : Int) == 0) := by
    have h := err_flip HO e0.out (pos % L) v (by rw [← HLp.out]; exact lj) hv
    rw [← HLp.out] at h
    exact ⟨_, _, fun _ _ _ h => h, h⟩
  obtain ⟨q9, E9, HT9, F3⟩ : ∃ q E, Hid (∀ w e w', TkIs w (pos % L) (ptX (kd p 4)) e w' → PkIs w q E e w') ∧ ((E : Int) == 3) = !(opB (ptX (kd p 4)) (pos % L)) := ⟨_, _, fun _ _ _ h => h, err_open _ _⟩
  generalize ptX (kd p 4) (pos % L) ^^^ v = sv' at *
  generalize ptX (kd p 4) (pos % L) = sv at *
  have HC4 : Hid (L ≤ c4) := hc4
  have lj0 : 0 ≤ (pos : Int) % (L : Int) := Int.emod_nonneg _ (by omega)
  have lj' : (pos : Int) % (L : Int) < (L : Int) := Int.emod_lt_of_pos _ (by omega)
  have F1 : Hid (((E7 : Int) == 0) = ((v : Int) == 0)) := F1
  have F2 : Hid (((E7 : Int) == 3) = !((v : Int) == 0)) := F2
  have F3 : Hid (((E9 : Int) == 3) = !(opB (ptX (kd p 4)) (pos % L))) := F3
  clear B4 F4 bb4 hc4 lx
  go_wp2_with (at_builtin; refine Go.Lib.wpList_append_run _ rfl (.tmp 91) (.tmp 92) 24 24 rfl _ _ rfl rfl _ _ happ ?_)
  clear happ c5 f5 e5
  generalize w4'.setCell ⟨w8.heap.size + 1 + 1, pos % L, none⟩ (.int .u8 (sv' : Int)) = w10 at *
  generalize (w8.alloc (.cells #[.int .i64 4, .int .u16 0, .int .u16 0, .int .u32 0, .int .u16 0, .slice r8 0 c8, .int .u64 0, .int .u32 0, .int .u32 0, .int .u16 0, .int .u16 0, .int .u32 (p.F : Int), .int .u16 0] 31)) = w9 at *
  have W10 := W9.out.grew HBB.out
  have R10 := R9.out.grew HBB.out
  have Q10 := Q9.out.grew HBB.out
  have A10 := A9.out.grew HBB.out
  have b10 := b9.out.trans (HBB.out.mono b9.out.size)
  generalize w8.heap.size = G8 at *
  clear W9 R9 Q9 A9 b9 HBB
  refine (packtake_any (some ⟨G8 + 1 + 1, 0, none⟩) L c4 _ w10 HT.out HC4.out (by omega)).mono ?_
  intro e w11 h
  obtain ⟨r11, c11, rfl, -, -, -, d⟩ := HT7.out _ _ _ h
  have a12 : Below w11.heap.size w11 (w11.alloc (.cells #[.int .i64 q7.k, .int .u16 (q7.s : Int), .int .u16 (q7.t : Int), .int .u32 (q7.f : Int), .int .u16 (q7.y : Int), .slice r11 q7.n c11, .int .u64 (q7.T : Int), .int .u32 (q7.l : Int), .int .u32 (q7.g : Int), .int .u16 (q7.u : Int), .int .u16 (q7.j : Int), .int .u32 (q7.F : Int), .int .u16 (q7.d : Int)] 31)) := (Below.refl _ _).alloc (Nat.le_refl _) _
  have W12 : Hid _ := (W10.grew d).grew a12
  have R12 : Hid _ := (R10.grew d).grew a12
  have Q12 : Hid _ := (Q10.grew d).grew a12
  have A12 : Hid _ := (A10.grew d).grew a12
  have b11 := b10.trans (d.mono b10.size)
  have b12 : Hid (Below w.heap.size w (w11.alloc (.cells #[.int .i64 q7.k, .int .u16 (q7.s : Int), .int .u16 (q7.t : Int), .int .u32 (q7.f : Int), .int .u16 (q7.y : Int), .slice r11 q7.n c11, .int .u64 (q7.T : Int), .int .u32 (q7.l : Int), .int .u32 (q7.g : Int), .int .u16 (q7.u : Int), .int .u16 (q7.j : Int), .int .u32 (q7.F : Int), .int .u16 (q7.d : Int)] 31))) := b11.trans (a12.mono b11.size)
  have hst : ∀ W, (Instr.slice 24 (.slice r7 L c7) none (some (.int .i64 ((pos : Int) % (L : Int)))) none).run Try.prog W = .ok (.slice r7 (pos % L) c7) W := by
    have h7 := Hk7.out
    intro W
    have := slice_to r7 L c7 (pos % L) W (by omega)
    rwa [Int.natCast_emod] at this
  clear h d a12 b11 W10 R10 Q10 A10 b10 HT HT7 HC4
  go_wp2_with fail
  clear hst lj0 lj'
  generalize (w11.alloc (.cells #[.int .i64 q7.k, .int .u16 (q7.s : Int), .int .u16 (q7.t : Int), .int .u32 (q7.f : Int), .int .u16 (q7.y : Int), .slice r11 q7.n c11, .int .u64 (q7.T : Int), .int .u32 (q7.l : Int), .int .u32 (q7.g : Int), .int .u16 (q7.u : Int), .int .u16 (q7.j : Int), .int .u32 (q7.F : Int), .int .u16 (q7.d : Int)] 31)) = w12 at *
  have R12 := R12.out
  have lj2 : pos % L ≤ c7 := by have := Hk7.out; omega
  refine (ropen_any r7 (pos % L) c7 _ w12 (R12.take (by omega)) lj2 (by omega)).mono ?_
  have F3 := F3.out
  generalize opB (ptX (kd p 4)) (pos % L) = ob at *
  generalize opN (ptX (kd p 4)) (pos % L) = on at *
  rintro e w13 ⟨r13, c13, rfl, -, -, -, -, d13⟩
  have F3 : Hid (((E9 : Int) == 3) = !ob) := F3
  have W13 := W12.out.grew d13
  have R13 := R12.grew d13
  have Q13 := Q12.out.grew d13
  have A13 := A12.out.grew d13
  have b13 := b12.out.trans (d13.mono b12.out.size)
  clear W12 R12 Q12 A12 b12 d13
  go_wp2_with fail
  refine (packtake_any r7 (pos % L) c7 _ w13 (R13.take (by omega)) lj2 (by omega)).mono ?_
  intro e w14 h
  obtain ⟨r14, c14, rfl, -, -, -, d⟩ := HT9.out _ _ _ h
  have a15 : Below w14.heap.size w14 (w14.alloc (.cells #[.int .i64 q9.k, .int .u16 (q9.s : Int), .int .u16 (q9.t : Int), .int .u32 (q9.f : Int), .int .u16 (q9.y : Int), .slice r14 q9.n c14, .int .u64 (q9.T : Int), .int .u32 (q9.l : Int), .int .u32 (q9.g : Int), .int .u16 (q9.u : Int), .int .u16 (q9.j : Int), .int .u32 (q9.F : Int), .int .u16 (q9.d : Int)] 31)) := (Below.refl _ _).alloc (Nat.le_refl _) _
  have W15 : Hid _ := (W13.grew d).grew a15
  have Q15 : Hid _ := (Q13.grew d).grew a15
  have A15 : Hid _ := (A13.grew d).grew a15
  have b14 := b13.trans (d.mono b13.size)
  have b15 : Hid (Below w.heap.size w (w14.alloc (.cells #[.int .i64 q9.k, .int .u16 (q9.s : Int), .int .u16 (q9.t : Int), .int .u32 (q9.f : Int), .int .u16 (q9.y : Int), .slice r14 q9.n c14, .int .u64 (q9.T : Int), .int .u32 (q9.l : Int), .int .u32 (q9.g : Int), .int .u16 (q9.u : Int), .int .u16 (q9.j : Int), .int .u32 (q9.F : Int), .int .u16 (q9.d : Int)] 31))) := b14.trans (a15.mono b14.size)
  have g0 : (w14.alloc (.cells #[.int .i64 q9.k, .int .u16 (q9.s : Int), .int .u16 (q9.t : Int), .int .u32 (q9.f : Int), .int .u16 (q9.y : Int), .slice r14 q9.n c14, .int .u64 (q9.T : Int), .int .u32 (q9.l : Int), .int .u32 (q9.g : Int), .int .u16 (q9.u : Int), .int .u16 (q9.j : Int), .int .u32 (q9.F : Int), .int .u16 (q9.d : Int)] 31)).cell? ⟨G8, 0, none⟩ = some (.int .i64 4) := A15.out.cell 0 (by decide)
  have g1 : (w14.alloc (.cells #[.int .i64 q9.k, .int .u16 (q9.s : Int), .int .u16 (q9.t : Int), .int .u32 (q9.f : Int), .int .u16 (q9.y : Int), .slice r14 q9.n c14, .int .u64 (q9.T : Int), .int .u32 (q9.l : Int), .int .u32 (q9.g : Int), .int .u16 (q9.u : Int), .int .u16 (q9.j : Int), .int .u32 (q9.F : Int), .int .u16 (q9.d : Int)] 31)).cell? ⟨G8, 1, none⟩ = some (.int .u16 0) := A15.out.cell 1 (by decide)
  have g2 : (w14.alloc (.cells #[.int .i64 q9.k, .int .u16 (q9.s : Int), .int .u16 (q9.t : Int), .int .u32 (q9.f : Int), .int .u16 (q9.y : Int), .slice r14 q9.n c14, .int .u64 (q9.T : Int), .int .u32 (q9.l : Int), .int .u32 (q9.g : Int), .int .u16 (q9.u : Int), .int .u16 (q9.j : Int), .int .u32 (q9.F : Int), .int .u16 (q9.d : Int)] 31)).cell? ⟨G8, 2, none⟩ = some (.int .u16 0) := A15.out.cell 2 (by decide)
  have g3 : (w14.alloc (.cells #[.int .i64 q9.k, .int .u16 (q9.s : Int), .int .u16 (q9.t : Int), .int .u32 (q9.f : Int), .int .u16 (q9.y : Int), .slice r14 q9.n c14, .int .u64 (q9.T : Int), .int .u32 (q9.l : Int), .int .u32 (q9.g : Int), .int .u16 (q9.u : Int), .int .u16 (q9.j : Int), .int .u32 (q9.F : Int), .int .u16 (q9.d : Int)] 31)).cell? ⟨G8, 3, none⟩ = some (.int .u32 0) := A15.out.cell 3 (by decide)
  have g4 : (w14.alloc (.cells #[.int .i64 q9.k, .int .u16 (q9.s : Int), .int .u16 (q9.t : Int), .int .u32 (q9.f : Int), .int .u16 (q9.y : Int), .slice r14 q9.n c14, .int .u64 (q9.T : Int), .int .u32 (q9.l : Int), .int .u32 (q9.g : Int), .int .u16 (q9.u : Int), .int .u16 (q9.j : Int), .int .u32 (q9.F : Int), .int .u16 (q9.d : Int)] 31)).cell? ⟨G8, 4, none⟩ = some (.int .u16 0) := A15.out.cell 4 (by decide)
  have g5 : (w14.alloc (.cells #[.int .i64 q9.k, .int .u16 (q9.s : Int), .int .u16 (q9.t : Int), .int .u32 (q9.f : Int), .int .u16 (q9.y : Int), .slice r14 q9.n c14, .int .u64 (q9.T : Int), .int .u32 (q9.l : Int), .int .u32 (q9.g : Int), .int .u16 (q9.u : Int), .int .u16 (q9.j : Int), .int .u32 (q9.F : Int), .int .u16 (q9.d : Int)] 31)).cell? ⟨G8, 5, none⟩ = some (.slice r8 0 c8) := A15.out.cell 5 (by decide)
  have g6 : (w14.alloc (.cells #[.int .i64 q9.k, .int .u16 (q9.s : Int), .int .u16 (q9.t : Int), .int .u32 (q9.f : Int), .int .u16 (q9.y : Int), .slice r14 q9.n c14, .int .u64 (q9.T : Int), .int .u32 (q9.l : Int), .int .u32 (q9.g : Int), .int .u16 (q9.u : Int), .int .u16 (q9.j : Int), .int .u32 (q9.F : Int), .int .u16 (q9.d : Int)] 31)).cell? ⟨G8, 6, none⟩ = some (.int .u64 0) := A15.out.cell 6 (by decide)
  have g7 : (w14.alloc (.cells #[.int .i64 q9.k, .int .u16 (q9.s : Int), .int .u16 (q9.t : Int), .int .u32 (q9.f : Int), .int .u16 (q9.y : Int), .slice r14 q9.n c14, .int .u64 (q9.T : Int), .int .u32 (q9.l : Int), .int .u32 (q9.g : Int), .int .u16 (q9.u : Int), .int .u16 (q9.j : Int), .int .u32 (q9.F : Int), .int .u16 (q9.d : Int)] 31)).cell? ⟨G8, 7, none⟩ = some (.int .u32 0) := A15.out.cell 7 (by decide)
  have g8 : (w14.alloc (.cells #[.int .i64 q9.k, .int .u16 (q9.s : Int), .int .u16 (q9.t : Int), .int .u32 (q9.f : Int), .int .u16 (q9.y : Int), .slice r14 q9.n c14, .int .u64 (q9.T : Int), .int .u32 (q9.l : Int), .int .u32 (q9.g : Int), .int .u16 (q9.u : Int), .int .u16 (q9.j : Int), .int .u32 (q9.F : Int), .int .u16 (q9.d : Int)] 31)).cell? ⟨G8, 8, none⟩ = some (.int .u32 0) := A15.out.cell 8 (by decide)
  have g9 : (w14.alloc (.cells #[.int .i64 q9.k, .int .u16 (q9.s : Int), .int .u16 (q9.t : Int), .int .u32 (q9.f : Int), .int .u16 (q9.y : Int), .slice r14 q9.n c14, .int .u64 (q9.T : Int), .int .u32 (q9.l : Int), .int .u32 (q9.g : Int), .int .u16 (q9.u : Int), .int .u16 (q9.j : Int), .int .u32 (q9.F : Int), .int .u16 (q9.d : Int)] 31)).cell? ⟨G8, 9, none⟩ = some (.int .u16 0) := A15.out.cell 9 (by decide)
  have g10 : (w14.alloc (.cells #[.int .i64 q9.k, .int .u16 (q9.s : Int), .int .u16 (q9.t : Int), .int .u32 (q9.f : Int), .int .u16 (q9.y : Int), .slice r14 q9.n c14, .int .u64 (q9.T : Int), .int .u32 (q9.l : Int), .int .u32 (q9.g : Int), .int .u16 (q9.u : Int), .int .u16 (q9.j : Int), .int .u32 (q9.F : Int), .int .u16 (q9.d : Int)] 31)).cell? ⟨G8, 10, none⟩ = some (.int .u16 0) := A15.out.cell 10 (by decide)
  have g11 : (w14.alloc (.cells #[.int .i64 q9.k, .int .u16 (q9.s : Int), .int .u16 (q9.t : Int), .int .u32 (q9.f : Int), .int .u16 (q9.y : Int), .slice r14 q9.n c14, .int .u64 (q9.T : Int), .int .u32 (q9.l : Int), .int .u32 (q9.g : Int), .int .u16 (q9.u : Int), .int .u16 (q9.j : Int), .int .u32 (q9.F : Int), .int .u16 (q9.d : Int)] 31)).cell? ⟨G8, 11, none⟩ = some (.int .u32 (p.F : Int)) := A15.out.cell 11 (by decide)
  have g12 : (w14.alloc (.cells #[.int .i64 q9.k, .int .u16 (q9.s : Int), .int .u16 (q9.t : Int), .int .u32 (q9.f : Int), .int .u16 (q9.y : Int), .slice r14 q9.n c14, .int .u64 (q9.T : Int), .int .u32 (q9.l : Int), .int .u32 (q9.g : Int), .int .u16 (q9.u : Int), .int .u16 (q9.j : Int), .int .u32 (q9.F : Int), .int .u16 (q9.d : Int)] 31)).cell? ⟨G8, 12, none⟩ = some (.int .u16 0) := A15.out.cell 12 (by decide)
  have h0 : (w14.alloc (.cells #[.int .i64 q9.k, .int .u16 (q9.s : Int), .int .u16 (q9.t : Int), .int .u32 (q9.f : Int), .int .u16 (q9.y : Int), .slice r14 q9.n c14, .int .u64 (q9.T : Int), .int .u32 (q9.l : Int), .int .u32 (q9.g : Int), .int .u16 (q9.u : Int), .int .u16 (q9.j : Int), .int .u32 (q9.F : Int), .int .u16 (q9.d : Int)] 31)).cell? ⟨G, 0, none⟩ = some (.int .i64 4) := W15.out.cell 0 (by decide)
  have h1 : (w14.alloc (.cells #[.int .i64 q9.k, .int .u16 (q9.s : Int), .int .u16 (q9.t : Int), .int .u32 (q9.f : Int), .int .u16 (q9.y : Int), .slice r14 q9.n c14, .int .u64 (q9.T : Int), .int .u32 (q9.l : Int), .int .u32 (q9.g : Int), .int .u16 (q9.u : Int), .int .u16 (q9.j : Int), .int .u32 (q9.F : Int), .int .u16 (q9.d : Int)] 31)).cell? ⟨G, 1, none⟩ = some (.int .u16 0) := W15.out.cell 1 (by decide)
  have h2 : (w14.alloc (.cells #[.int .i64 q9.k, .int .u16 (q9.s : Int), .int .u16 (q9.t : Int), .int .u32 (q9.f : Int), .int .u16 (q9.y : Int), .slice r14 q9.n c14, .int .u64 (q9.T : Int), .int .u32 (q9.l : Int), .int .u32 (q9.g : Int), .int .u16 (q9.u : Int), .int .u16 (q9.j : Int), .int .u32 (q9.F : Int), .int .u16 (q9.d : Int)] 31)).cell? ⟨G, 2, none⟩ = some (.int .u16 0) := W15.out.cell 2 (by decide)
  have h3 : (w14.alloc (.cells #[.int .i64 q9.k, .int .u16 (q9.s : Int), .int .u16 (q9.t : Int), .int .u32 (q9.f : Int), .int .u16 (q9.y : Int), .slice r14 q9.n c14, .int .u64 (q9.T : Int), .int .u32 (q9.l : Int), .int .u32 (q9.g : Int), .int .u16 (q9.u : Int), .int .u16 (q9.j : Int), .int .u32 (q9.F : Int), .int .u16 (q9.d : Int)] 31)).cell? ⟨G, 3, none⟩ = some (.int .u32 0) := W15.out.cell 3 (by decide)
  have h4 : (w14.alloc (.cells #[.int .i64 q9.k, .int .u16 (q9.s : Int), .int .u16 (q9.t : Int), .int .u32 (q9.f : Int), .int .u16 (q9.y : Int), .slice r14 q9.n c14, .int .u64 (q9.T : Int), .int .u32 (q9.l : Int), .int .u32 (q9.g : Int), .int .u16 (q9.u : Int), .int .u16 (q9.j : Int), .int .u32 (q9.F : Int), .int .u16 (q9.d : Int)] 31)).cell? ⟨G, 4, none⟩ = some (.int .u16 0) := W15.out.cell 4 (by decide)
  have h5 : (w14.alloc (.cells #[.int .i64 q9.k, .int .u16 (q9.s : Int), .int .u16 (q9.t : Int), .int .u32 (q9.f : Int), .int .u16 (q9.y : Int), .slice r14 q9.n c14, .int .u64 (q9.T : Int), .int .u32 (q9.l : Int), .int .u32 (q9.g : Int), .int .u16 (q9.u : Int), .int .u16 (q9.j : Int), .int .u32 (q9.F : Int), .int .u16 (q9.d : Int)] 31)).cell? ⟨G, 5, none⟩ = some (.slice none 0 0) := W15.out.cell 5 (by decide)
  have h6 : (w14.alloc (.cells #[.int .i64 q9.k, .int .u16 (q9.s : Int), .int .u16 (q9.t : Int), .int .u32 (q9.f : Int), .int .u16 (q9.y : Int), .slice r14 q9.n c14, .int .u64 (q9.T : Int), .int .u32 (q9.l : Int), .int .u32 (q9.g : Int), .int .u16 (q9.u : Int), .int .u16 (q9.j : Int), .int .u32 (q9.F : Int), .int .u16 (q9.d : Int)] 31)).cell? ⟨G, 6, none⟩ = some (.int .u64 0) := W15.out.cell 6 (by decide)
  have h7 : (w14.alloc (.cells #[.int .i64 q9.k, .int .u16 (q9.s : Int), .int .u16 (q9.t : Int), .int .u32 (q9.f : Int), .int .u16 (q9.y : Int), .slice r14 q9.n c14, .int .u64 (q9.T : Int), .int .u32 (q9.l : Int), .int .u32 (q9.g : Int), .int .u16 (q9.u : Int), .int .u16 (q9.j : Int), .int .u32 (q9.F : Int), .int .u16 (q9.d : Int)] 31)).cell? ⟨G, 7, none⟩ = some (.int .u32 0) := W15.out.cell 7 (by decide)
  have h8 : (w14.alloc (.cells #[.int .i64 q9.k, .int .u16 (q9.s : Int), .int .u16 (q9.t : Int), .int .u32 (q9.f : Int), .int .u16 (q9.y : Int), .slice r14 q9.n c14, .int .u64 (q9.T : Int), .int .u32 (q9.l : Int), .int .u32 (q9.g : Int), .int .u16 (q9.u : Int), .int .u16 (q9.j : Int), .int .u32 (q9.F : Int), .int .u16 (q9.d : Int)] 31)).cell? ⟨G, 8, none⟩ = some (.int .u32 0) := W15.out.cell 8 (by decide)
  have h9 : (w14.alloc (.cells #[.int .i64 q9.k, .int .u16 (q9.s : Int), .int .u16 (q9.t : Int), .int .u32 (q9.f : Int), .int .u16 (q9.y : Int), .slice r14 q9.n c14, .int .u64 (q9.T : Int), .int .u32 (q9.l : Int), .int .u32 (q9.g : Int), .int .u16 (q9.u : Int), .int .u16 (q9.j : Int), .int .u32 (q9.F : Int), .int .u16 (q9.d : Int)] 31)).cell? ⟨G, 9, none⟩ = some (.int .u16 0) := W15.out.cell 9 (by decide)
  have h10 : (w14.alloc (.cells #[.int .i64 q9.k, .int .u16 (q9.s : Int), .int .u16 (q9.t : Int), .int .u32 (q9.f : Int), .int .u16 (q9.y : Int), .slice r14 q9.n c14, .int .u64 (q9.T : Int), .int .u32 (q9.l : Int), .int .u32 (q9.g : Int), .int .u16 (q9.u : Int), .int .u16 (q9.j : Int), .int .u32 (q9.F : Int), .int .u16 (q9.d : Int)] 31)).cell? ⟨G, 10, none⟩ = some (.int .u16 0) := W15.out.cell 10 (by decide)
  have h11 : (w14.alloc (.cells #[.int .i64 q9.k, .int .u16 (q9.s : Int), .int .u16 (q9.t : Int), .int .u32 (q9.f : Int), .int .u16 (q9.y : Int), .slice r14 q9.n c14, .int .u64 (q9.T : Int), .int .u32 (q9.l : Int), .int .u32 (q9.g : Int), .int .u16 (q9.u : Int), .int .u16 (q9.j : Int), .int .u32 (q9.F : Int), .int .u16 (q9.d : Int)] 31)).cell? ⟨G, 11, none⟩ = some (.int .u32 (p.F : Int)) := W15.out.cell 11 (by decide)
  have h12 : (w14.alloc (.cells #[.int .i64 q9.k, .int .u16 (q9.s : Int), .int .u16 (q9.t : Int), .int .u32 (q9.f : Int), .int .u16 (q9.y : Int), .slice r14 q9.n c14, .int .u64 (q9.T : Int), .int .u32 (q9.l : Int), .int .u32 (q9.g : Int), .int .u16 (q9.u : Int), .int .u16 (q9.j : Int), .int .u32 (q9.F : Int), .int .u16 (q9.d : Int)] 31)).cell? ⟨G, 12, none⟩ = some (.int .u16 0) := W15.out.cell 12 (by decide)
  clear h d a15 b14 W13 R13 Q13 A13 b13 HT9 Hk7 lj2
  go_wp2_with fail
  generalize (w14.alloc (.cells #[.int .i64 q9.k, .int .u16 (q9.s : Int), .int .u16 (q9.t : Int), .int .u32 (q9.f : Int), .int .u16 (q9.y : Int), .slice r14 q9.n c14, .int .u64 (q9.T : Int), .int .u32 (q9.l : Int), .int .u32 (q9.g : Int), .int .u16 (q9.u : Int), .int .u16 (q9.j : Int), .int .u32 (q9.F : Int), .int .u16 (q9.d : Int)] 31)) = w15 at *
  clear g0 g1 g2 g3 g4 g5 g6 g7 g8 g9 g10 g11 g12 h0 h1 h2 h3 h4 h5 h6 h7 h8 h9 h10 h11 h12 A15 W15
  refine (alike_4 r8 none c8 0 w15 Q15.out (nil_bytes _ _)).mono ?_
  rintro e w16 ⟨rfl, d⟩
  have HB : Hid (Below w.heap.size w w16) := b15.out.trans (d.mono b15.out.size)
  have F1 := F1.out
  have F2 := F2.out
  have F3 := F3.out
  clear d b15 Q15
  generalize hv0 : ((v : Int) == 0) = v0 at *
  cases v0 <;> cases ob
  all_goals
    go_wp2
    go_ret
    exact ⟨rfl, HB.out⟩

set_option maxRecDepth 100000 in
set_option maxHeartbeats 1000000 in
theorem long (p : Pk) (r : Option Addr) (c kind pos v : Nat) (w : World) (h : ¬ (1 ≤ p.n ∧ p.n ≤ 64)) :
    Calls Try.prog 4 #[.agg #[.int .i64 p.k, .int .u16 (p.s : Int), .int .u16 (p.t : Int), .int .u32 (p.f : Int), .int .u16 (p.y : Int), .slice r p.n c, .int .u64 (p.T : Int), .int .u32 (p.l : Int), .int .u32 (p.g : Int), .int .u16 (p.u : Int), .int .u16 (p.j : Int), .int .u32 (p.F : Int), .int .u16 (p.d : Int)], .int .u8 (kind : Int), .int .u16 (pos : Int), .int .u8 (v : Int)] w fun e w' => e = .returned (.bool true) ∧ Below w.heap.size w w' := by
  have D1 := PkAt.made w 31 p r c
  have b1 : Below w.heap.size w (w.alloc (.cells #[.int .i64 p.k, .int .u16 (p.s : Int), .int .u16 (p.t : Int), .int .u32 (p.f : Int), .int .u16 (p.y : Int), .slice r p.n c, .int .u64 (p.T : Int), .int .u32 (p.l : Int), .int .u32 (p.g : Int), .int .u16 (p.u : Int), .int .u16 (p.j : Int), .int .u32 (p.F : Int), .int .u16 (p.d : Int)] 31)) := (Below.refl _ _).alloc (Nat.le_refl _) _
  go_enter Try.func4, Try.ntmps4
  go_wp2_with fail
  generalize (w.alloc (.cells #[.int .i64 p.k, .int .u16 (p.s : Int), .int .u16 (p.t : Int), .int .u32 (p.f : Int), .int .u16 (p.y : Int), .slice r p.n c, .int .u64 (p.T : Int), .int .u32 (p.l : Int), .int .u32 (p.g : Int), .int .u16 (p.u : Int), .int .u16 (p.j : Int), .int .u32 (p.F : Int), .int .u16 (p.d : Int)] 31)) = w1 at *
  refine (begun11 _).mono ?_
  rintro e w2 ⟨rfl, d2⟩
  have q5 : w2.cell? ⟨w.heap.size, 5, none⟩ = some (.slice r p.n c) := (D1.grew d2).cell 5 (by decide)
  have HB : Hid (Below w.heap.size w w2) := b1.trans (d2.mono b1.size)
  clear b1 d2 D1
  by_cases hn : 1 ≤ p.n
  · have i0 : decide ((p.n : Int) < 1) = false := by simp; omega
    have i1 : (64 : Int) < (p.n : Int) := by omega
    clear h hn
    go_wp2
    go_ret
    exact ⟨rfl, HB.out⟩
  · have i0 : (p.n : Int) < 1 := by omega
    clear h hn
    go_wp2
    go_ret
    exact ⟨rfl, HB.out⟩

theorem walk (p : Pk) (r : Option Addr) (c : Nat) (a1 a2 a3 : Int) (w : World) (h0 : p.Ok ∧ (-9223372036854775808 ≤ p.k ∧ p.k ≤ 9223372036854775807) ∧ BytesAt w r p.n p.x ∧ p.n ≤ c ∧ c ≤ maxLen) (h1 : (Lit.int .u8 a1).wf = true) (h2 : (Lit.int .u16 a2).wf = true) (h3 : (Lit.int .u8 a3).wf = true) :
    Calls Try.prog 4 #[.agg #[.int .i64 p.k, .int .u16 (p.s : Int), .int .u16 (p.t : Int), .int .u32 (p.f : Int), .int .u16 (p.y : Int), .slice r p.n c, .int .u64 (p.T : Int), .int .u32 (p.l : Int), .int .u32 (p.g : Int), .int .u16 (p.u : Int), .int .u16 (p.j : Int), .int .u32 (p.F : Int), .int .u16 (p.d : Int)], .int .u8 a1, .int .u16 a2, .int .u8 a3] w fun e w' => e = .returned (.bool true) ∧ Below w.heap.size w w' := by
  have k1 := bounds_u8 h1
  have k2 := bounds_u16 h2
  have k3 := bounds_u8 h3
  obtain ⟨kind, rfl⟩ : ∃ n : Nat, a1 = n := ⟨a1.toNat, by omega⟩
  obtain ⟨pos, rfl⟩ : ∃ n : Nat, a2 = n := ⟨a2.toNat, by omega⟩
  obtain ⟨v, rfl⟩ : ∃ n : Nat, a3 = n := ⟨a3.toNat, by omega⟩
  by_cases h : 1 ≤ p.n ∧ p.n ≤ 64
  · have hk : kind % 4 = 0 ∨ kind % 4 = 1 ∨ kind % 4 = 2 ∨ kind % 4 = 3 := by omega
    rcases hk with hk | hk | hk | hk
    · exact core_1 p r c kind pos v w h0.1 h0.2.2.1 h.1 h.2 hk (by omega) (by omega)
    · exact core_2 p r c kind pos v w h0.1 h0.2.2.1 h.1 h.2 hk (by omega) (by omega)
    · exact core_3 p r c kind pos v w h0.1 h0.2.2.1 h.1 h.2 hk (by omega) (by omega)
    · exact core_4 p r c kind pos v w h0.1 h0.2.2.1 h.1 h.2 hk (by omega) (by omega)
  · exact long p r c kind pos v w h

set_option maxRecDepth 100000 in
theorem lifted (os : Os) (started : os.Started) (H : Type) (enc : TypeId × Value → H) :
    ReturnsInHanded {} Try.checked os 4 .any (Rows.packetBackSpec.pre6 enc Try.prog Try.f4 Rows.packetBackRow.domain false) (Rows.packetBackSpec.post enc Try.prog Try.f4 false true false false) := by
  refine returnsInHanded_of_change (C := Try.checked) own started (by kernel_rfl) Try.func4
    (ChangeSpec.witness6 (enc := enc) (C := Try.checked) false ⟨#[], #[.agg #[.int .i64 0, .int .u16 0, .int .u16 0, .int .u32 0, .int .u16 0, .slice none 0 0, .int .u64 0, .int .u32 0, .int .u32 0, .int .u16 0, .int .u16 0, .int .u32 0, .int .u16 0], .int .u8 0, .int .u16 0, .int .u8 0], []⟩ 8 (by kernel_rfl) (by kernel_rfl) (by kernel_rfl) (by kernel_rfl)) ?_
  intro W base args ds gs before hval0 hW hcnd _
  have hval : ∀ (j : Nat) t v, Try.f4.params[j]? = some t → args[j]? = some v → Value.okWide Try.prog W .any base t v := hval0
  have hW' := hW
  obtain ⟨p, q, hA0, hV, rfl, hfz, hnd⟩ := hW
  have hA : DataW.TrodAll enc Try.prog W 0 (fun _ => true) true Try.f4.params.toList args.toList ds p := hA0
  rw [Try.params4] at hA hval
  obtain ⟨v0, vs0, d0, ds0, p0, q0, hargs, rfl, rfl, h0, r0⟩ := trodAll_cons hA
  obtain ⟨v1, vs1, d1, ds1, p1, q1, rfl, rfl, rfl, h1, r1⟩ := trodAll_cons r0
  obtain ⟨v2, vs2, d2, ds2, p2, q2, rfl, rfl, rfl, h2, r2⟩ := trodAll_cons r1
  obtain ⟨v3, vs3, d3, ds3, p3, q3, rfl, rfl, rfl, h3, r3⟩ := trodAll_cons r2
  obtain ⟨rfl, rfl, rfl⟩ := trodAll_nil r3
  obtain rfl : args = #[v0, v1, v2, v3] := by cases args; simp_all
  obtain ⟨rfl, rfl⟩ := trodVars_none hV
  have k0 := h0
  have lt0 : ∀ x ∈ p0, x.block < W.heap.size := by obtain ⟨m, hm⟩ := k0; exact DataW.trod_lt m _ _ _ hm
  obtain ⟨P0, R0, C0, rfl, w0⟩ := open_packet (hval 0 31 v0 rfl rfl) h0
  obtain ⟨a1, rfl, rfl, rfl, w1⟩ := open_int Try.underlying5 (hval 1 5 v1 rfl rfl) h1
  obtain ⟨a2, rfl, rfl, rfl, w2⟩ := open_int Try.underlying22 (hval 2 22 v2 rfl rfl) h2
  obtain ⟨a3, rfl, rfl, rfl, w3⟩ := open_int Try.underlying5 (hval 3 5 v3 rfl rfl) h3
  clear hA0 hval0
  refine (walk P0 R0 C0 a1 a2 a3 W w0 w1 w2 w3).mono fun e W' ⟨he, bel⟩ => ?_
  subst he
  exact ⟨_, rfl, _, _, _, [], _, [], hW', trodAll_mk1 (shut_bool Try.underlying4 _), (trodAll_cons_mk (Below.trod laidOut (by kernel_rfl) (of_decide_eq_true (by kernel_rfl)) k0 bel lt0) (trodAll_cons_mk (shut_int Try.underlying5 w1) (trodAll_cons_mk (shut_int Try.underlying22 w2) (trodAll_cons_mk (shut_int Try.underlying5 w3) trodAll_mk0)))), rfl, bel.frame _, fun h => by cases h⟩

theorem over : Rows.packetBackRow.holds Try.pinned (OpenSpec.ofChange Rows.packetBackSpec) :=
  OpenClaim.holds_of_wide 4 Try.f4 rfl rfl rfl rfl rfl rfl rfl ⟨rfl, rfl, rfl, rfl, rfl⟩ rfl rfl rfl rfl rfl (by kernel_rfl) Try.func4 (by kernel_rfl)
    (of_decide_eq_true (by kernel_rfl)) (by unfold Func.isWrapper; first | (rw [if_pos (by decide +kernel)]; kernel_rfl) | (rw [if_neg (by decide +kernel)]; exact ⟨rfl, rfl⟩))
    (fun os started H enc _ => lifted os started H enc)

theorem proved : Rows.PacketBackSaid := over
end Go.Proofs.Ytcflaklnafggmaa.packetBack
namespace Go.Proofs.Ytcflaklnafggmaa
theorem packetBack_holds : Rows.PacketBackSaid := packetBack.proved
#print axioms packetBack_holds
end Go.Proofs.Ytcflaklnafggmaa
