/-
  Whatever bytes are, package packet takes them as a packet or as none, with one of two errors and nothing beside it, and a packet that is taken is put as those bytes: the call returns true, whatever the bytes are, sealed or not (at most 90 bytes are looked at; no condition).
-/
import Derived.Test.YtcflaklnafggmaaRows
import Derived.WalkKit
import Derived.ProofKit
import Derived.OpenShut
import Derived.ShutString
import Derived.ChangeOld
import Derived.Below
import Derived.Carry
import Derived.Test.YtcflaklnafggmaaOpn
import Derived.Test.YtcflaklnafggmaaPbg
import Derived.Test.YtcflaklnafggmaaRse
import Derived.Test.YtcflaklnafggmaaPsm
namespace Go.Proofs.Ytcflaklnafggmaa.packetNone
open Go.ChangeShapes Go.WideShapes Go.ChangeAt Go.RowKit
open Go.ChangeMaps (open_string shut_string)
set_option linter.unusedVariables false

theorem own : ownKnob Try.prog.godebug = none := by kernel_rfl
theorem laidOut : laidOutB Try.prog = true := by kernel_rfl

open Go.Deep

theorem psame_zero (r r' : Option Addr) (c c' : Nat) (w : World) :
    Calls Try.prog 14 #[.agg #[.int .i64 0, .int .u16 0, .int .u16 0, .int .u32 0, .int .u16 0, .slice r 0 c, .int .u64 0, .int .u32 0, .int .u32 0, .int .u16 0, .int .u16 0, .int .u32 0, .int .u16 0], .agg #[.int .i64 0, .int .u16 0, .int .u16 0, .int .u32 0, .int .u16 0, .slice r' 0 c', .int .u64 0, .int .u32 0, .int .u32 0, .int .u16 0, .int .u16 0, .int .u32 0, .int .u16 0]] w fun e w' => e = .returned (.bool true) ∧ Below w.heap.size w w' :=
  psame_any Pk.zero r r' c c' w ⟨fun h => absurd h (by decide), fun i hi => absurd hi (Nat.not_lt_zero i)⟩ ⟨fun h => absurd h (by decide), fun i hi => absurd hi (Nat.not_lt_zero i)⟩

set_option maxRecDepth 100000 in
set_option maxHeartbeats 2000000 in
theorem core_bare (a : Option Addr) (n c : Nat) (x : Nat → Nat) (w : World) (hx : BytesAt w a n x) (hc2 : n ≤ c) (hn : n ≤ 90) :
    Calls Try.prog 5 #[.slice a n c, .bool false] w fun e w' => e = .returned (.bool true) ∧ Below w.heap.size w w' := by
  have i1 : decide ((90 : Int) < (n : Int)) = false := by simp; omega
  go_enter Try.func5, Try.ntmps5
  go_wp2_with fail
  refine (begun11 _).mono ?_
  rintro e w2 ⟨rfl, b2⟩
  have B2 := hx.grew b2
  clear hx
  go_wp2_with fail
  refine (packtake_any a n c x w2 B2 hc2 (by omega)).mono ?_
  intro e w3 h3
  rcases hB : opB x n with _ | _
  · skip
    obtain ⟨r3, c3, rfl, d3⟩ := PkIs.nought (TkIs.none h3 hB)
    have a4 : Below w3.heap.size w3 (w3.alloc (.cells #[.int .i64 0, .int .u16 0, .int .u16 0, .int .u32 0, .int .u16 0, .slice r3 0 c3, .int .u64 0, .int .u32 0, .int .u32 0, .int .u16 0, .int .u16 0, .int .u32 0, .int .u16 0] 31)) := (Below.refl _ _).alloc (Nat.le_refl _) _
    have b3 := b2.trans (d3.mono b2.size)
    have b4 : Hid (Below w.heap.size w (w3.alloc (.cells #[.int .i64 0, .int .u16 0, .int .u16 0, .int .u32 0, .int .u16 0, .slice r3 0 c3, .int .u64 0, .int .u32 0, .int .u32 0, .int .u16 0, .int .u16 0, .int .u32 0, .int .u16 0] 31))) := b3.trans (a4.mono b3.size)
    clear h3 d3 a4 b3 b2 B2
    go_wp2_with fail
    generalize (w3.alloc (.cells #[.int .i64 0, .int .u16 0, .int .u16 0, .int .u32 0, .int .u16 0, .slice r3 0 c3, .int .u64 0, .int .u32 0, .int .u32 0, .int .u16 0, .int .u16 0, .int .u32 0, .int .u16 0] 31)) = w4 at *
    refine (psame_zero r3 none c3 0 w4).mono ?_
    rintro e w5 ⟨rfl, d5⟩
    have HB : Hid (Below w.heap.size w w5) := b4.out.trans (d5.mono b4.out.size)
    clear b4 d5
    go_wp2
    go_ret
    exact ⟨rfl, HB.out⟩
  rcases hT : tkP n x with _ | q
  · have h3 : PkIs w2 Pk.zero 2 e w3 := by
      have h3 : PkIs w2 (pkOf (tkP n x)) (tkErr n x) e w3 := h3
      rwa [tk_open hB, hT] at h3
    obtain ⟨r3, c3, rfl, d3⟩ := PkIs.nought h3
    have a4 : Below w3.heap.size w3 (w3.alloc (.cells #[.int .i64 0, .int .u16 0, .int .u16 0, .int .u32 0, .int .u16 0, .slice r3 0 c3, .int .u64 0, .int .u32 0, .int .u32 0, .int .u16 0, .int .u16 0, .int .u32 0, .int .u16 0] 31)) := (Below.refl _ _).alloc (Nat.le_refl _) _
    have b3 := b2.trans (d3.mono b2.size)
    have b4 : Hid (Below w.heap.size w (w3.alloc (.cells #[.int .i64 0, .int .u16 0, .int .u16 0, .int .u32 0, .int .u16 0, .slice r3 0 c3, .int .u64 0, .int .u32 0, .int .u32 0, .int .u16 0, .int .u16 0, .int .u32 0, .int .u16 0] 31))) := b3.trans (a4.mono b3.size)
    clear h3 d3 a4 b3 b2 B2
    go_wp2_with fail
    generalize (w3.alloc (.cells #[.int .i64 0, .int .u16 0, .int .u16 0, .int .u32 0, .int .u16 0, .slice r3 0 c3, .int .u64 0, .int .u32 0, .int .u32 0, .int .u16 0, .int .u16 0, .int .u32 0, .int .u16 0] 31)) = w4 at *
    refine (psame_zero r3 none c3 0 w4).mono ?_
    rintro e w5 ⟨rfl, d5⟩
    have HB : Hid (Below w.heap.size w w5) := b4.out.trans (d5.mono b4.out.size)
    clear b4 d5
    go_wp2
    go_ret
    exact ⟨rfl, HB.out⟩
  · have h3 : PkIs w2 q 0 e w3 := by
      have h3 : PkIs w2 (pkOf (tkP n x)) (tkErr n x) e w3 := h3
      rwa [tk_open hB, hT] at h3
    obtain ⟨r3, c3, rfl, -, -, Q3, d3⟩ := h3
    obtain ⟨o, e1, e2, e3⟩ := tk_put B2.lt hT
    have a4 : Below w3.heap.size w3 (w3.alloc (.cells #[.int .i64 q.k, .int .u16 (q.s : Int), .int .u16 (q.t : Int), .int .u32 (q.f : Int), .int .u16 (q.y : Int), .slice r3 q.n c3, .int .u64 (q.T : Int), .int .u32 (q.l : Int), .int .u32 (q.g : Int), .int .u16 (q.u : Int), .int .u16 (q.j : Int), .int .u32 (q.F : Int), .int .u16 (q.d : Int)] 31)) := (Below.refl _ _).alloc (Nat.le_refl _) _
    have b3 := b2.trans (d3.mono b2.size)
    have b4 : Hid (Below w.heap.size w (w3.alloc (.cells #[.int .i64 q.k, .int .u16 (q.s : Int), .int .u16 (q.t : Int), .int .u32 (q.f : Int), .int .u16 (q.y : Int), .slice r3 q.n c3, .int .u64 (q.T : Int), .int .u32 (q.l : Int), .int .u32 (q.g : Int), .int .u16 (q.u : Int), .int .u16 (q.j : Int), .int .u32 (q.F : Int), .int .u16 (q.d : Int)] 31))) := b3.trans (a4.mono b3.size)
    have B4 : Hid (BytesAt (w3.alloc (.cells #[.int .i64 q.k, .int .u16 (q.s : Int), .int .u16 (q.t : Int), .int .u32 (q.f : Int), .int .u16 (q.y : Int), .slice r3 q.n c3, .int .u64 (q.T : Int), .int .u32 (q.l : Int), .int .u32 (q.g : Int), .int .u16 (q.u : Int), .int .u16 (q.j : Int), .int .u32 (q.F : Int), .int .u16 (q.d : Int)] 31)) a (n) x) := (B2.grew d3).grew a4
    have Q4 : Hid (BytesAt (w3.alloc (.cells #[.int .i64 q.k, .int .u16 (q.s : Int), .int .u16 (q.t : Int), .int .u32 (q.f : Int), .int .u16 (q.y : Int), .slice r3 q.n c3, .int .u64 (q.T : Int), .int .u32 (q.l : Int), .int .u32 (q.g : Int), .int .u16 (q.u : Int), .int .u16 (q.j : Int), .int .u32 (q.F : Int), .int .u16 (q.d : Int)] 31)) r3 q.n q.x) := Q3.grew a4
    have HP : Hid (∀ w e w', PutIs w (ptN q) (ptX q) (bE q) e w' → PutIs w (n) (ptX q) 0 e w') := by
      show ∀ w e w', _
      rw [e1, e2]
      exact fun _ _ _ h => h
    have HE : Hid (strOf (n) (ptX q) = strOf (n) x) := strOf_congr e3
    clear d3 a4 b3 b2 B2 Q3 e1 e2 e3
    go_wp2_with fail
    generalize (w3.alloc (.cells #[.int .i64 q.k, .int .u16 (q.s : Int), .int .u16 (q.t : Int), .int .u32 (q.f : Int), .int .u16 (q.y : Int), .slice r3 q.n c3, .int .u64 (q.T : Int), .int .u32 (q.l : Int), .int .u32 (q.g : Int), .int .u16 (q.u : Int), .int .u16 (q.j : Int), .int .u32 (q.F : Int), .int .u16 (q.d : Int)] 31)) = w4 at *
    refine (packput_any q r3 c3 w4 o Q4.out).mono ?_
    intro e w5 h5
    obtain ⟨r5, c5, rfl, -, -, P5, d5⟩ := HP.out _ _ _ h5
    have x1 := conv_bytes r5 (n) c5 _ _ P5
    have x2 := conv_bytes a (n) c _ _ (B4.out.grew d5)
    rw [HE.out] at x1
    have HB : Hid (Below w.heap.size w w5) := b4.out.trans (d5.mono b4.out.size)
    clear h5 d5 P5 b4 B4 Q4 HP HE hB hT o
    go_wp2
    go_ret
    exact ⟨rfl, HB.out⟩

set_option maxRecDepth 100000 in
set_option maxHeartbeats 2000000 in
theorem core_sealed (a : Option Addr) (n c : Nat) (x : Nat → Nat) (w : World) (hx : BytesAt w a n x) (hn : n ≤ 90) :
    Calls Try.prog 5 #[.slice a n c, .bool true] w fun e w' => e = .returned (.bool true) ∧ Below w.heap.size w w' := by
  have i1 : decide ((90 : Int) < (n : Int)) = false := by simp; omega
  go_enter Try.func5, Try.ntmps5
  go_wp2_with fail
  refine (begun11 _).mono ?_
  rintro e w1 ⟨rfl, b1⟩
  have B1 := hx.grew b1
  clear hx
  go_wp2_with fail
  refine (rseal_any a n c x w1 B1 (by omega)).mono ?_
  rintro e w2 ⟨g2, c2, rfl, -, hc2, B2, d2⟩
  have b2 := b1.trans (d2.mono b1.size)
  clear b1 d2 B1
  obtain ⟨m, hm⟩ : ∃ m, m = n + 4 := ⟨_, rfl⟩
  obtain ⟨z, hz⟩ : ∃ z, z = Crc.seald x n := ⟨_, rfl⟩
  rw [← hm] at B2 hc2 ⊢
  rw [← hz] at B2
  have lm : m ≤ 94 := by omega
  clear hm hz i1 hn
  go_wp2_with fail
  refine (packtake_any (some ⟨g2, 0, none⟩) m c2 z w2 B2 hc2 (by omega)).mono ?_
  intro e w3 h3
  rcases hB : opB z m with _ | _
  · skip
    obtain ⟨r3, c3, rfl, d3⟩ := PkIs.nought (TkIs.none h3 hB)
    have a4 : Below w3.heap.size w3 (w3.alloc (.cells #[.int .i64 0, .int .u16 0, .int .u16 0, .int .u32 0, .int .u16 0, .slice r3 0 c3, .int .u64 0, .int .u32 0, .int .u32 0, .int .u16 0, .int .u16 0, .int .u32 0, .int .u16 0] 31)) := (Below.refl _ _).alloc (Nat.le_refl _) _
    have b3 := b2.trans (d3.mono b2.size)
    have b4 : Hid (Below w.heap.size w (w3.alloc (.cells #[.int .i64 0, .int .u16 0, .int .u16 0, .int .u32 0, .int .u16 0, .slice r3 0 c3, .int .u64 0, .int .u32 0, .int .u32 0, .int .u16 0, .int .u16 0, .int .u32 0, .int .u16 0] 31))) := b3.trans (a4.mono b3.size)
    clear h3 d3 a4 b3 b2 B2
    go_wp2_with fail
    generalize (w3.alloc (.cells #[.int .i64 0, .int .u16 0, .int .u16 0, .int .u32 0, .int .u16 0, .slice r3 0 c3, .int .u64 0, .int .u32 0, .int .u32 0, .int .u16 0, .int .u16 0, .int .u32 0, .int .u16 0] 31)) = w4 at *
    refine (psame_zero r3 none c3 0 w4).mono ?_
    rintro e w5 ⟨rfl, d5⟩
    have HB : Hid (Below w.heap.size w w5) := b4.out.trans (d5.mono b4.out.size)
    clear b4 d5
    go_wp2
    go_ret
    exact ⟨rfl, HB.out⟩
  rcases hT : tkP m z with _ | q
  · have h3 : PkIs w2 Pk.zero 2 e w3 := by
      have h3 : PkIs w2 (pkOf (tkP m z)) (tkErr m z) e w3 := h3
      rwa [tk_open hB, hT] at h3
    obtain ⟨r3, c3, rfl, d3⟩ := PkIs.nought h3
    have a4 : Below w3.heap.size w3 (w3.alloc (.cells #[.int .i64 0, .int .u16 0, .int .u16 0, .int .u32 0, .int .u16 0, .slice r3 0 c3, .int .u64 0, .int .u32 0, .int .u32 0, .int .u16 0, .int .u16 0, .int .u32 0, .int .u16 0] 31)) := (Below.refl _ _).alloc (Nat.le_refl _) _
    have b3 := b2.trans (d3.mono b2.size)
    have b4 : Hid (Below w.heap.size w (w3.alloc (.cells #[.int .i64 0, .int .u16 0, .int .u16 0, .int .u32 0, .int .u16 0, .slice r3 0 c3, .int .u64 0, .int .u32 0, .int .u32 0, .int .u16 0, .int .u16 0, .int .u32 0, .int .u16 0] 31))) := b3.trans (a4.mono b3.size)
    clear h3 d3 a4 b3 b2 B2
    go_wp2_with fail
    generalize (w3.alloc (.cells #[.int .i64 0, .int .u16 0, .int .u16 0, .int .u32 0, .int .u16 0, .slice r3 0 c3, .int .u64 0, .int .u32 0, .int .u32 0, .int .u16 0, .int .u16 0, .int .u32 0, .int .u16 0] 31)) = w4 at *
    refine (psame_zero r3 none c3 0 w4).mono ?_
    rintro e w5 ⟨rfl, d5⟩
    have HB : Hid (Below w.heap.size w w5) := b4.out.trans (d5.mono b4.out.size)
    clear b4 d5
    go_wp2
    go_ret
    exact ⟨rfl, HB.out⟩
  · have h3 : PkIs w2 q 0 e w3 := by
      have h3 : PkIs w2 (pkOf (tkP m z)) (tkErr m z) e w3 := h3
      rwa [tk_open hB, hT] at h3
    obtain ⟨r3, c3, rfl, -, -, Q3, d3⟩ := h3
    obtain ⟨o, e1, e2, e3⟩ := tk_put B2.lt hT
    have a4 : Below w3.heap.size w3 (w3.alloc (.cells #[.int .i64 q.k, .int .u16 (q.s : Int), .int .u16 (q.t : Int), .int .u32 (q.f : Int), .int .u16 (q.y : Int), .slice r3 q.n c3, .int .u64 (q.T : Int), .int .u32 (q.l : Int), .int .u32 (q.g : Int), .int .u16 (q.u : Int), .int .u16 (q.j : Int), .int .u32 (q.F : Int), .int .u16 (q.d : Int)] 31)) := (Below.refl _ _).alloc (Nat.le_refl _) _
    have b3 := b2.trans (d3.mono b2.size)
    have b4 : Hid (Below w.heap.size w (w3.alloc (.cells #[.int .i64 q.k, .int .u16 (q.s : Int), .int .u16 (q.t : Int), .int .u32 (q.f : Int), .int .u16 (q.y : Int), .slice r3 q.n c3, .int .u64 (q.T : Int), .int .u32 (q.l : Int), .int .u32 (q.g : Int), .int .u16 (q.u : Int), .int .u16 (q.j : Int), .int .u32 (q.F : Int), .int .u16 (q.d : Int)] 31))) := b3.trans (a4.mono b3.size)
    have B4 : Hid (BytesAt (w3.alloc (.cells #[.int .i64 q.k, .int .u16 (q.s : Int), .int .u16 (q.t : Int), .int .u32 (q.f : Int), .int .u16 (q.y : Int), .slice r3 q.n c3, .int .u64 (q.T : Int), .int .u32 (q.l : Int), .int .u32 (q.g : Int), .int .u16 (q.u : Int), .int .u16 (q.j : Int), .int .u32 (q.F : Int), .int .u16 (q.d : Int)] 31)) (some ⟨g2, 0, none⟩) (m) z) := (B2.grew d3).grew a4
    have Q4 : Hid (BytesAt (w3.alloc (.cells #[.int .i64 q.k, .int .u16 (q.s : Int), .int .u16 (q.t : Int), .int .u32 (q.f : Int), .int .u16 (q.y : Int), .slice r3 q.n c3, .int .u64 (q.T : Int), .int .u32 (q.l : Int), .int .u32 (q.g : Int), .int .u16 (q.u : Int), .int .u16 (q.j : Int), .int .u32 (q.F : Int), .int .u16 (q.d : Int)] 31)) r3 q.n q.x) := Q3.grew a4
    have HP : Hid (∀ w e w', PutIs w (ptN q) (ptX q) (bE q) e w' → PutIs w (m) (ptX q) 0 e w') := by
      show ∀ w e w', _
      rw [e1, e2]
      exact fun _ _ _ h => h
    have HE : Hid (strOf (m) (ptX q) = strOf (m) z) := strOf_congr e3
    clear d3 a4 b3 b2 B2 Q3 e1 e2 e3
    go_wp2_with fail
    generalize (w3.alloc (.cells #[.int .i64 q.k, .int .u16 (q.s : Int), .int .u16 (q.t : Int), .int .u32 (q.f : Int), .int .u16 (q.y : Int), .slice r3 q.n c3, .int .u64 (q.T : Int), .int .u32 (q.l : Int), .int .u32 (q.g : Int), .int .u16 (q.u : Int), .int .u16 (q.j : Int), .int .u32 (q.F : Int), .int .u16 (q.d : Int)] 31)) = w4 at *
    refine (packput_any q r3 c3 w4 o Q4.out).mono ?_
    intro e w5 h5
    obtain ⟨r5, c5, rfl, -, -, P5, d5⟩ := HP.out _ _ _ h5
    have x1 := conv_bytes r5 (m) c5 _ _ P5
    have x2 := conv_bytes (some ⟨g2, 0, none⟩) (m) c2 _ _ (B4.out.grew d5)
    rw [HE.out] at x1
    have HB : Hid (Below w.heap.size w w5) := b4.out.trans (d5.mono b4.out.size)
    clear h5 d5 P5 b4 B4 Q4 HP HE hB hT o
    go_wp2
    go_ret
    exact ⟨rfl, HB.out⟩

set_option maxRecDepth 100000 in
theorem long (a : Option Addr) (n c : Nat) (v : Bool) (w : World) (hn : ¬ n ≤ 90) :
    Calls Try.prog 5 #[.slice a n c, .bool v] w fun e w' => e = .returned (.bool true) ∧ Below w.heap.size w w' := by
  have i1 : (90 : Int) < (n : Int) := by omega
  go_enter Try.func5, Try.ntmps5
  go_wp2_with fail
  refine (begun11 _).mono ?_
  rintro e w2 ⟨rfl, b2⟩
  have HB : Hid (Below w.heap.size w w2) := b2
  clear b2 hn
  go_wp2
  go_ret
  exact ⟨rfl, HB.out⟩

theorem walk (a : Option Addr) (n c : Nat) (x : Nat → Nat) (v : Bool) (w : World) (h : BytesAt w a n x ∧ n ≤ c ∧ c ≤ maxLen) :
    Calls Try.prog 5 #[.slice a n c, .bool v] w fun e w' => e = .returned (.bool true) ∧ Below w.heap.size w w' := by
  by_cases hn : n ≤ 90
  · cases v with
    | false => exact core_bare a n c x w h.1 h.2.1 hn
    | true => exact core_sealed a n c x w h.1 hn
  · exact long a n c v w hn

set_option maxRecDepth 100000 in
theorem lifted (os : Os) (started : os.Started) (H : Type) (enc : TypeId × Value → H) :
    ReturnsInHanded {} Try.checked os 5 .any (Rows.packetNoneSpec.pre6 enc Try.prog Try.f5 Rows.packetNoneRow.domain false) (Rows.packetNoneSpec.post enc Try.prog Try.f5 false true false false) := by
  refine returnsInHanded_of_change (C := Try.checked) own started (by kernel_rfl) Try.func5
    (ChangeSpec.witness6 (enc := enc) (C := Try.checked) false ⟨#[], #[.slice none 0 0, .bool false], []⟩ 8 (by kernel_rfl) (by kernel_rfl) (by kernel_rfl) (by kernel_rfl)) ?_
  intro W base args ds gs before hval0 hW hcnd _
  have hval : ∀ (j : Nat) t v, Try.f5.params[j]? = some t → args[j]? = some v → Value.okWide Try.prog W .any base t v := hval0
  have hW' := hW
  obtain ⟨p, q, hA0, hV, rfl, hfz, hnd⟩ := hW
  have hA : DataW.TrodAll enc Try.prog W 0 (fun _ => true) true Try.f5.params.toList args.toList ds p := hA0
  rw [Try.params5] at hA hval
  obtain ⟨v0, vs0, d0, ds0, p0, q0, hargs, rfl, rfl, h0, r0⟩ := trodAll_cons hA
  obtain ⟨v1, vs1, d1, ds1, p1, q1, rfl, rfl, rfl, h1, r1⟩ := trodAll_cons r0
  obtain ⟨rfl, rfl, rfl⟩ := trodAll_nil r1
  obtain rfl : args = #[v0, v1] := by cases args; simp_all
  obtain ⟨rfl, rfl⟩ := trodVars_none hV
  obtain ⟨a0, len0, cap0, rfl⟩ := okWide_slice Try.underlying24 (hval 0 24 v0 rfl rfl)
  have k0 := h0
  have lt0 : ∀ x ∈ p0, x.block < W.heap.size := by obtain ⟨m, hm⟩ := k0; exact DataW.trod_lt m _ _ _ hm
  obtain ⟨x0, w0⟩ : ∃ x, BytesAt W a0 len0 x ∧ len0 ≤ cap0 ∧ cap0 ≤ maxLen := open_bytes Try.underlying24 Try.underlying5 (by kernel_rfl) h0
  obtain ⟨a1, rfl, rfl, rfl⟩ := open_bool Try.underlying4 (hval 1 4 v1 rfl rfl) h1
  clear hA0 hval0
  refine (walk a0 len0 cap0 x0 a1 W w0).mono fun e W' ⟨he, bel⟩ => ?_
  subst he
  exact ⟨_, rfl, _, _, _, [], _, [], hW', trodAll_mk1 (shut_bool Try.underlying4 _), (trodAll_cons_mk (Below.trod laidOut (by kernel_rfl) (of_decide_eq_true (by kernel_rfl)) k0 bel lt0) (trodAll_cons_mk (shut_bool Try.underlying4 _) trodAll_mk0)), rfl, bel.frame _, fun h => by cases h⟩

theorem over : Rows.packetNoneRow.holds Try.pinned (OpenSpec.ofChange Rows.packetNoneSpec) :=
  OpenClaim.holds_of_wide 5 Try.f5 rfl rfl rfl rfl rfl rfl rfl ⟨rfl, rfl, rfl, rfl, rfl⟩ rfl rfl rfl rfl rfl (by kernel_rfl) Try.func5 (by kernel_rfl)
    (of_decide_eq_true (by kernel_rfl)) (by unfold Func.isWrapper; first | (rw [if_pos (by decide +kernel)]; kernel_rfl) | (rw [if_neg (by decide +kernel)]; exact ⟨rfl, rfl⟩))
    (fun os started H enc _ => lifted os started H enc)

theorem proved : Rows.PacketNoneSaid := over
end Go.Proofs.Ytcflaklnafggmaa.packetNone
namespace Go.Proofs.Ytcflaklnafggmaa
theorem packetNone_holds : Rows.PacketNoneSaid := packetNone.proved
#print axioms packetNone_holds
end Go.Proofs.Ytcflaklnafggmaa
