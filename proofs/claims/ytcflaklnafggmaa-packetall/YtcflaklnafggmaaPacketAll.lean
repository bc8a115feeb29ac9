/-
  Which bytes package packet puts packets as, which packets it takes bytes as, sealed or not, and its sizes are the document's, and what it is lent stays whole: the call returns true, whatever the packet, the bytes and the number are (bodies and bytes of at most 100 bytes and numbers up to 2^40 are looked at; no condition).
-/
import Derived.Test.YtcflaklnafggmaaRows
import Derived.WalkKit
import Derived.ProofKit
import Derived.OpenShut
import Derived.ShutString
import Derived.ChangeOld
import Derived.Below
import Derived.Carry
import Derived.Test.YtcflaklnafggmaaOpn
import Derived.Test.YtcflaklnafggmaaOpp
import Derived.Test.YtcflaklnafggmaaPbg
import Derived.Test.YtcflaklnafggmaaRpp
import Derived.Test.YtcflaklnafggmaaRpt
import Derived.Test.YtcflaklnafggmaaPsm
import Derived.Test.YtcflaklnafggmaaLen
namespace Go.Proofs.Ytcflaklnafggmaa.packetAll
open Go.ChangeShapes Go.WideShapes Go.ChangeAt Go.RowKit
open Go.ChangeMaps (open_string shut_string)
set_option linter.unusedVariables false

theorem own : ownKnob Try.prog.godebug = none := by kernel_rfl
theorem laidOut : laidOutB Try.prog = true := by kernel_rfl

open Go.Deep

theorem lent_bytes {w : World} {L n : Nat} {x : Nat → Nat} (h : BytesAt w (some ⟨L, 0, none⟩) (n + 5) (lentOf x n)) : BytesAt w (some ⟨L, 0, none⟩) n x :=
  (h.take (by omega)).congr fun i hi => by unfold lentOf; rw [if_pos hi]


set_option maxRecDepth 100000 in
set_option maxHeartbeats 4000000 in
theorem core (p : Pk) (r : Option Addr) (c : Nat) (a : Option Addr) (m cc : Nat) (z : Nat → Nat) (n : Int) (w : World) (o : p.Ok) (hx : BytesAt w r p.n p.x) (hz : BytesAt w a m z) (hc : m ≤ cc) (hn : p.n ≤ 100) (hm : m ≤ 100) (l1 : -9223372036854775808 ≤ n) (l2 : n ≤ 1099511627776) :
    Calls Try.prog 3 #[.agg #[.int .i64 p.k, .int .u16 (p.s : Int), .int .u16 (p.t : Int), .int .u32 (p.f : Int), .int .u16 (p.y : Int), .slice r p.n c, .int .u64 (p.T : Int), .int .u32 (p.l : Int), .int .u32 (p.g : Int), .int .u16 (p.u : Int), .int .u16 (p.j : Int), .int .u32 (p.F : Int), .int .u16 (p.d : Int)], .slice a m cc, .int .i64 n] w fun e w' => e = .returned (.bool true) ∧ Below w.heap.size w w' := by
  obtain ⟨q, E, HT⟩ : ∃ q E, Hid (∀ w e w', TkIs w m z e w' → PkIs w q E e w') := ⟨_, _, fun _ _ _ h => h⟩
  obtain ⟨q', E', HT'⟩ : ∃ q' E', Hid (∀ w e w', TkIs w (m + 4) (Crc.seald z m) e w' → PkIs w q' E' e w') := ⟨_, _, fun _ _ _ h => h⟩
  obtain ⟨pk, pZ, pE, HP⟩ : ∃ pk pZ pE, Hid (∀ w e w', PutIs w (ptN p) (ptX p) (bE p) e w' → PutIs w pk pZ pE e w') := ⟨_, _, _, fun _ _ _ h => h⟩
  have HX : Hid (BytesAt w r p.n p.x) := hx
  have HZ : Hid (BytesAt w a m z) := hz
  have i0 : decide ((100 : Int) < (p.n : Int)) = false := by simp; omega
  have i1 : decide ((100 : Int) < (m : Int)) = false := by simp; omega
  have i2 : decide ((1099511627776 : Int) < n) = false := by simp; omega
  have D1 := PkAt.made w 31 p r c
  have b1 : Below w.heap.size w (w.alloc (.cells #[.int .i64 p.k, .int .u16 (p.s : Int), .int .u16 (p.t : Int), .int .u32 (p.f : Int), .int .u16 (p.y : Int), .slice r p.n c, .int .u64 (p.T : Int), .int .u32 (p.l : Int), .int .u32 (p.g : Int), .int .u16 (p.u : Int), .int .u16 (p.j : Int), .int .u32 (p.F : Int), .int .u16 (p.d : Int)] 31)) := (Below.refl _ _).alloc (Nat.le_refl _) _
  clear hx hz
  go_enter Try.func3, Try.ntmps3
  go_wp2_with fail
  generalize (w.alloc (.cells #[.int .i64 p.k, .int .u16 (p.s : Int), .int .u16 (p.t : Int), .int .u32 (p.f : Int), .int .u16 (p.y : Int), .slice r p.n c, .int .u64 (p.T : Int), .int .u32 (p.l : Int), .int .u32 (p.g : Int), .int .u16 (p.u : Int), .int .u16 (p.j : Int), .int .u32 (p.F : Int), .int .u16 (p.d : Int)] 31)) = w1 at *
  refine (begun11 _).mono ?_
  rintro e w2 ⟨rfl, d2⟩
  have D2 := D1.grew d2
  have b2 := b1.trans (d2.mono b1.size)
  clear D1 b1
  have q5 : w2.cell? ⟨w.heap.size, 5, none⟩ = some (.slice r p.n c) := D2.cell 5 (by decide)
  clear d2
  go_wp2_with fail
  clear q5 i0 i1 i2
  refine (lent_any a m cc z w2 (HZ.out.grew b2) (by omega)).mono ?_
  rintro e w3 ⟨rfl, L3, d3, -⟩
  have D3 := D2.grew d3
  have b3 := b2.trans (d3.mono b2.size)
  clear D2 b2
  clear d3
  generalize w2.heap.size = G at *
  have q0 : w3.cell? ⟨w.heap.size, 0, none⟩ = some (.int .i64 p.k) := D3.cell 0 (by decide)
  have q1 : w3.cell? ⟨w.heap.size, 1, none⟩ = some (.int .u16 (p.s : Int)) := D3.cell 1 (by decide)
  have q2 : w3.cell? ⟨w.heap.size, 2, none⟩ = some (.int .u16 (p.t : Int)) := D3.cell 2 (by decide)
  have q3 : w3.cell? ⟨w.heap.size, 3, none⟩ = some (.int .u32 (p.f : Int)) := D3.cell 3 (by decide)
  have q4 : w3.cell? ⟨w.heap.size, 4, none⟩ = some (.int .u16 (p.y : Int)) := D3.cell 4 (by decide)
  have q5 : w3.cell? ⟨w.heap.size, 5, none⟩ = some (.slice r p.n c) := D3.cell 5 (by decide)
  have q6 : w3.cell? ⟨w.heap.size, 6, none⟩ = some (.int .u64 (p.T : Int)) := D3.cell 6 (by decide)
  have q7 : w3.cell? ⟨w.heap.size, 7, none⟩ = some (.int .u32 (p.l : Int)) := D3.cell 7 (by decide)
  have q8 : w3.cell? ⟨w.heap.size, 8, none⟩ = some (.int .u32 (p.g : Int)) := D3.cell 8 (by decide)
  have q9 : w3.cell? ⟨w.heap.size, 9, none⟩ = some (.int .u16 (p.u : Int)) := D3.cell 9 (by decide)
  have q10 : w3.cell? ⟨w.heap.size, 10, none⟩ = some (.int .u16 (p.j : Int)) := D3.cell 10 (by decide)
  have q11 : w3.cell? ⟨w.heap.size, 11, none⟩ = some (.int .u32 (p.F : Int)) := D3.cell 11 (by decide)
  have q12 : w3.cell? ⟨w.heap.size, 12, none⟩ = some (.int .u16 (p.d : Int)) := D3.cell 12 (by decide)
  go_wp2_with fail
  clear q0 q1 q2 q3 q4 q5 q6 q7 q8 q9 q10 q11 q12
  refine (packput_any p r c w3 o (HX.out.grew b3)).mono ?_
  intro e w4 h4
  obtain ⟨r4, c4, rfl, -, -, P4, d4⟩ := HP.out _ _ _ h4
  have D4 := D3.grew d4
  have L4 := L3.grew d4
  have b4 := b3.trans (d4.mono b3.size)
  clear D3 L3 b3
  clear d4 h4
  have q0 : w4.cell? ⟨w.heap.size, 0, none⟩ = some (.int .i64 p.k) := D4.cell 0 (by decide)
  have q1 : w4.cell? ⟨w.heap.size, 1, none⟩ = some (.int .u16 (p.s : Int)) := D4.cell 1 (by decide)
  have q2 : w4.cell? ⟨w.heap.size, 2, none⟩ = some (.int .u16 (p.t : Int)) := D4.cell 2 (by decide)
  have q3 : w4.cell? ⟨w.heap.size, 3, none⟩ = some (.int .u32 (p.f : Int)) := D4.cell 3 (by decide)
  have q4 : w4.cell? ⟨w.heap.size, 4, none⟩ = some (.int .u16 (p.y : Int)) := D4.cell 4 (by decide)
  have q5 : w4.cell? ⟨w.heap.size, 5, none⟩ = some (.slice r p.n c) := D4.cell 5 (by decide)
  have q6 : w4.cell? ⟨w.heap.size, 6, none⟩ = some (.int .u64 (p.T : Int)) := D4.cell 6 (by decide)
  have q7 : w4.cell? ⟨w.heap.size, 7, none⟩ = some (.int .u32 (p.l : Int)) := D4.cell 7 (by decide)
  have q8 : w4.cell? ⟨w.heap.size, 8, none⟩ = some (.int .u32 (p.g : Int)) := D4.cell 8 (by decide)
  have q9 : w4.cell? ⟨w.heap.size, 9, none⟩ = some (.int .u16 (p.u : Int)) := D4.cell 9 (by decide)
  have q10 : w4.cell? ⟨w.heap.size, 10, none⟩ = some (.int .u16 (p.j : Int)) := D4.cell 10 (by decide)
  have q11 : w4.cell? ⟨w.heap.size, 11, none⟩ = some (.int .u32 (p.F : Int)) := D4.cell 11 (by decide)
  have q12 : w4.cell? ⟨w.heap.size, 12, none⟩ = some (.int .u16 (p.d : Int)) := D4.cell 12 (by decide)
  go_wp2_with fail
  clear q0 q1 q2 q3 q4 q5 q6 q7 q8 q9 q10 q11 q12
  refine (rpack_any p r c w4 o (HX.out.grew b4)).mono ?_
  intro e w5 h5
  obtain ⟨r5, c5, rfl, -, -, R5, d5⟩ := HP.out _ _ _ h5
  clear D4
  have L5 := L4.grew d5
  have P5 := P4.grew d5
  have b5 := b4.trans (d5.mono b4.size)
  clear L4 P4 b4
  clear d5 h5 HP
  go_wp2_with fail
  refine (packtake_any (some ⟨G, 0, none⟩) m (m + 5) z w5 (lent_bytes L5) (by omega) (by omega)).mono ?_
  intro e w6 h
  obtain ⟨r6, c6, rfl, -, -, T6, d⟩ := HT.out _ _ _ h
  have L6 := L5.grew d
  have P6 := P5.grew d
  have R6 := R5.grew d
  have b6 := b5.trans (d.mono b5.size)
  clear L5 P5 R5 b5
  have a7 : Below w6.heap.size w6 (w6.alloc (.cells #[.int .i64 q.k, .int .u16 (q.s : Int), .int .u16 (q.t : Int), .int .u32 (q.f : Int), .int .u16 (q.y : Int), .slice r6 q.n c6, .int .u64 (q.T : Int), .int .u32 (q.l : Int), .int .u32 (q.g : Int), .int .u16 (q.u : Int), .int .u16 (q.j : Int), .int .u32 (q.F : Int), .int .u16 (q.d : Int)] 31)) := (Below.refl _ _).alloc (Nat.le_refl _) _
  have A7 := PkAt.made w6 31 q r6 c6
  have L7 := L6.grew a7
  have P7 := P6.grew a7
  have R7 := R6.grew a7
  have T7 := T6.grew a7
  have b7 := b6.trans (a7.mono b6.size)
  clear L6 P6 R6 T6 b6
  have HL : Hid _ := L7
  have HP : Hid _ := P7
  have HR : Hid _ := R7
  have HT : Hid _ := T7
  have HA : Hid _ := A7
  have Hb : Hid _ := b7
  clear d h a7 b7 L7 P7 R7 T7 A7
  go_wp2_with fail
  generalize (w6.alloc (.cells #[.int .i64 q.k, .int .u16 (q.s : Int), .int .u16 (q.t : Int), .int .u32 (q.f : Int), .int .u16 (q.y : Int), .slice r6 q.n c6, .int .u64 (q.T : Int), .int .u32 (q.l : Int), .int .u32 (q.g : Int), .int .u16 (q.u : Int), .int .u16 (q.j : Int), .int .u32 (q.F : Int), .int .u16 (q.d : Int)] 31)) = w7 at *
  generalize w6.heap.size = G1 at *
  have L7 := HL.out
  have P7 := HP.out
  have R7 := HR.out
  have T7 := HT.out
  have A7 := HA.out
  have b7 := Hb.out
  clear Hb HL HP HR HT HA
  refine (rpt_any a m cc z w7 (HZ.out.grew b7) hc (by omega)).mono ?_
  intro e w8 h
  obtain ⟨r8, c8, rfl, -, -, S8, d⟩ := HT.out _ _ _ h
  have L8 := L7.grew d
  have P8 := P7.grew d
  have R8 := R7.grew d
  have T8 := T7.grew d
  have A8 := A7.grew d
  have b8 := b7.trans (d.mono b7.size)
  clear L7 P7 R7 T7 A7 b7
  have a9 : Below w8.heap.size w8 (w8.alloc (.cells #[.int .i64 q.k, .int .u16 (q.s : Int), .int .u16 (q.t : Int), .int .u32 (q.f : Int), .int .u16 (q.y : Int), .slice r8 q.n c8, .int .u64 (q.T : Int), .int .u32 (q.l : Int), .int .u32 (q.g : Int), .int .u16 (q.u : Int), .int .u16 (q.j : Int), .int .u32 (q.F : Int), .int .u16 (q.d : Int)] 31)) := (Below.refl _ _).alloc (Nat.le_refl _) _
  have B9 := PkAt.made w8 31 q r8 c8
  have L9 := L8.grew a9
  have P9 := P8.grew a9
  have R9 := R8.grew a9
  have T9 := T8.grew a9
  have A9 := A8.grew a9
  have S9 := S8.grew a9
  have b9 := b8.trans (a9.mono b8.size)
  clear L8 P8 R8 T8 A8 S8 b8
  have HL : Hid _ := L9
  have HP : Hid _ := P9
  have HR : Hid _ := R9
  have HT : Hid _ := T9
  have HA : Hid _ := A9
  have HS : Hid _ := S9
  have HB : Hid _ := B9
  have Hb : Hid _ := b9
  clear d h a9 b9 L9 P9 R9 T9 A9 S9 B9
  go_wp2_with fail
  generalize (w8.alloc (.cells #[.int .i64 q.k, .int .u16 (q.s : Int), .int .u16 (q.t : Int), .int .u32 (q.f : Int), .int .u16 (q.y : Int), .slice r8 q.n c8, .int .u64 (q.T : Int), .int .u32 (q.l : Int), .int .u32 (q.g : Int), .int .u16 (q.u : Int), .int .u16 (q.j : Int), .int .u32 (q.F : Int), .int .u16 (q.d : Int)] 31)) = w9 at *
  generalize w8.heap.size = G2 at *
  have L9 := HL.out
  have P9 := HP.out
  have R9 := HR.out
  have T9 := HT.out
  have A9 := HA.out
  have S9 := HS.out
  have B9 := HB.out
  have b9 := Hb.out
  clear Hb HL HP HR HT HA HS HB
  refine (rseal_any a m cc z w9 (HZ.out.grew b9) (by omega)).mono ?_
  rintro e w10 ⟨g10, c10, rfl, -, k10, y10, d⟩
  have L10 := L9.grew d
  have P10 := P9.grew d
  have R10 := R9.grew d
  have T10 := T9.grew d
  have A10 := A9.grew d
  have S10 := S9.grew d
  have B10 := B9.grew d
  have b10 := b9.trans (d.mono b9.size)
  clear L9 P9 R9 T9 A9 S9 B9 b9
  clear d
  go_wp2_with fail
  refine (packtake_any (some ⟨g10, 0, none⟩) (m + 4) c10 _ w10 y10 k10 (by omega)).mono ?_
  intro e w11 h
  obtain ⟨r11, c11, rfl, -, -, V11, d⟩ := HT'.out _ _ _ h
  have L11 := L10.grew d
  have P11 := P10.grew d
  have R11 := R10.grew d
  have T11 := T10.grew d
  have A11 := A10.grew d
  have S11 := S10.grew d
  have B11 := B10.grew d
  have b11 := b10.trans (d.mono b10.size)
  clear L10 P10 R10 T10 A10 S10 B10 b10
  have a12 : Below w11.heap.size w11 (w11.alloc (.cells #[.int .i64 q'.k, .int .u16 (q'.s : Int), .int .u16 (q'.t : Int), .int .u32 (q'.f : Int), .int .u16 (q'.y : Int), .slice r11 q'.n c11, .int .u64 (q'.T : Int), .int .u32 (q'.l : Int), .int .u32 (q'.g : Int), .int .u16 (q'.u : Int), .int .u16 (q'.j : Int), .int .u32 (q'.F : Int), .int .u16 (q'.d : Int)] 31)) := (Below.refl _ _).alloc (Nat.le_refl _) _
  have X12 := PkAt.made w11 31 q' r11 c11
  have L12 := L11.grew a12
  have P12 := P11.grew a12
  have R12 := R11.grew a12
  have T12 := T11.grew a12
  have A12 := A11.grew a12
  have S12 := S11.grew a12
  have B12 := B11.grew a12
  have V12 := V11.grew a12
  have b12 := b11.trans (a12.mono b11.size)
  clear L11 P11 R11 T11 A11 S11 B11 V11 b11
  have HL : Hid _ := L12
  have HP : Hid _ := P12
  have HR : Hid _ := R12
  have HT : Hid _ := T12
  have HA : Hid _ := A12
  have HS : Hid _ := S12
  have HB : Hid _ := B12
  have HV : Hid _ := V12
  have HX : Hid _ := X12
  have Hb : Hid _ := b12
  clear d h a12 b12 L12 P12 R12 T12 A12 S12 B12 V12 X12
  clear y10 k10
  go_wp2_with fail
  generalize (w11.alloc (.cells #[.int .i64 q'.k, .int .u16 (q'.s : Int), .int .u16 (q'.t : Int), .int .u32 (q'.f : Int), .int .u16 (q'.y : Int), .slice r11 q'.n c11, .int .u64 (q'.T : Int), .int .u32 (q'.l : Int), .int .u32 (q'.g : Int), .int .u16 (q'.u : Int), .int .u16 (q'.j : Int), .int .u32 (q'.F : Int), .int .u16 (q'.d : Int)] 31)) = w12 at *
  generalize w11.heap.size = G3 at *
  have L12 := HL.out
  have P12 := HP.out
  have R12 := HR.out
  have T12 := HT.out
  have A12 := HA.out
  have S12 := HS.out
  have B12 := HB.out
  have V12 := HV.out
  have X12 := HX.out
  have b12 := Hb.out
  clear Hb HL HP HR HT HA HS HB HV HX
  refine (rseal_any a m cc z w12 (HZ.out.grew b12) (by omega)).mono ?_
  rintro e w13 ⟨g13, c13, rfl, -, k13, y13, d⟩
  have L13 := L12.grew d
  have P13 := P12.grew d
  have R13 := R12.grew d
  have T13 := T12.grew d
  have A13 := A12.grew d
  have S13 := S12.grew d
  have B13 := B12.grew d
  have V13 := V12.grew d
  have X13 := X12.grew d
  have b13 := b12.trans (d.mono b12.size)
  clear L12 P12 R12 T12 A12 S12 B12 V12 X12 b12
  clear d
  go_wp2_with fail
  refine (rpt_any (some ⟨g13, 0, none⟩) (m + 4) c13 _ w13 y13 k13 (by omega)).mono ?_
  intro e w14 h
  obtain ⟨r14, c14, rfl, -, -, W14, d⟩ := HT'.out _ _ _ h
  have L14 := L13.grew d
  have P14 := P13.grew d
  have R14 := R13.grew d
  have T14 := T13.grew d
  have A14 := A13.grew d
  have S14 := S13.grew d
  have B14 := B13.grew d
  have V14 := V13.grew d
  have X14 := X13.grew d
  have b14 := b13.trans (d.mono b13.size)
  clear L13 P13 R13 T13 A13 S13 B13 V13 X13 b13
  have a15 : Below w14.heap.size w14 (w14.alloc (.cells #[.int .i64 q'.k, .int .u16 (q'.s : Int), .int .u16 (q'.t : Int), .int .u32 (q'.f : Int), .int .u16 (q'.y : Int), .slice r14 q'.n c14, .int .u64 (q'.T : Int), .int .u32 (q'.l : Int), .int .u32 (q'.g : Int), .int .u16 (q'.u : Int), .int .u16 (q'.j : Int), .int .u32 (q'.F : Int), .int .u16 (q'.d : Int)] 31)) := (Below.refl _ _).alloc (Nat.le_refl _) _
  have Y15 := PkAt.made w14 31 q' r14 c14
  have L15 := L14.grew a15
  have P15 := P14.grew a15
  have R15 := R14.grew a15
  have T15 := T14.grew a15
  have A15 := A14.grew a15
  have S15 := S14.grew a15
  have B15 := B14.grew a15
  have V15 := V14.grew a15
  have X15 := X14.grew a15
  have W15 := W14.grew a15
  have b15 := b14.trans (a15.mono b14.size)
  clear L14 P14 R14 T14 A14 S14 B14 V14 X14 W14 b14
  have HL : Hid _ := L15
  have HP : Hid _ := P15
  have HR : Hid _ := R15
  have HT : Hid _ := T15
  have HA : Hid _ := A15
  have HS : Hid _ := S15
  have HB : Hid _ := B15
  have HV : Hid _ := V15
  have HX : Hid _ := X15
  have HW : Hid _ := W15
  have HY : Hid _ := Y15
  have Hb : Hid _ := b15
  clear d h a15 b15 L15 P15 R15 T15 A15 S15 B15 V15 X15 W15 Y15
  clear y13 k13
  have e1 := conv_bytes r4 pk c4 pZ _ HP.out
  have e2 := conv_bytes r5 pk c5 pZ _ HR.out
  have g0 : (w14.alloc (.cells #[.int .i64 q'.k, .int .u16 (q'.s : Int), .int .u16 (q'.t : Int), .int .u32 (q'.f : Int), .int .u16 (q'.y : Int), .slice r14 q'.n c14, .int .u64 (q'.T : Int), .int .u32 (q'.l : Int), .int .u32 (q'.g : Int), .int .u16 (q'.u : Int), .int .u16 (q'.j : Int), .int .u32 (q'.F : Int), .int .u16 (q'.d : Int)] 31)).cell? ⟨G1, 0, none⟩ = some (.int .i64 q.k) := HA.out.cell 0 (by decide)
  have g1 : (w14.alloc (.cells #[.int .i64 q'.k, .int .u16 (q'.s : Int), .int .u16 (q'.t : Int), .int .u32 (q'.f : Int), .int .u16 (q'.y : Int), .slice r14 q'.n c14, .int .u64 (q'.T : Int), .int .u32 (q'.l : Int), .int .u32 (q'.g : Int), .int .u16 (q'.u : Int), .int .u16 (q'.j : Int), .int .u32 (q'.F : Int), .int .u16 (q'.d : Int)] 31)).cell? ⟨G1, 1, none⟩ = some (.int .u16 (q.s : Int)) := HA.out.cell 1 (by decide)
  have g2 : (w14.alloc (.cells #[.int .i64 q'.k, .int .u16 (q'.s : Int), .int .u16 (q'.t : Int), .int .u32 (q'.f : Int), .int .u16 (q'.y : Int), .slice r14 q'.n c14, .int .u64 (q'.T : Int), .int .u32 (q'.l : Int), .int .u32 (q'.g : Int), .int .u16 (q'.u : Int), .int .u16 (q'.j : Int), .int .u32 (q'.F : Int), .int .u16 (q'.d : Int)] 31)).cell? ⟨G1, 2, none⟩ = some (.int .u16 (q.t : Int)) := HA.out.cell 2 (by decide)
  have g3 : (w14.alloc (.cells #[.int .i64 q'.k, .int .u16 (q'.s : Int), .int .u16 (q'.t : Int), .int .u32 (q'.f : Int), .int .u16 (q'.y : Int), .slice r14 q'.n c14, .int .u64 (q'.T : Int), .int .u32 (q'.l : Int), .int .u32 (q'.g : Int), .int .u16 (q'.u : Int), .int .u16 (q'.j : Int), .int .u32 (q'.F : Int), .int .u16 (q'.d : Int)] 31)).cell? ⟨G1, 3, none⟩ = some (.int .u32 (q.f : Int)) := HA.out.cell 3 (by decide)
  have g4 : (w14.alloc (.cells #[.int .i64 q'.k, .int .u16 (q'.s : Int), .int .u16 (q'.t : Int), .int .u32 (q'.f : Int), .int .u16 (q'.y : Int), .slice r14 q'.n c14, .int .u64 (q'.T : Int), .int .u32 (q'.l : Int), .int .u32 (q'.g : Int), .int .u16 (q'.u : Int), .int .u16 (q'.j : Int), .int .u32 (q'.F : Int), .int .u16 (q'.d : Int)] 31)).cell? ⟨G1, 4, none⟩ = some (.int .u16 (q.y : Int)) := HA.out.cell 4 (by decide)
  have g5 : (w14.alloc (.cells #[.int .i64 q'.k, .int .u16 (q'.s : Int), .int .u16 (q'.t : Int), .int .u32 (q'.f : Int), .int .u16 (q'.y : Int), .slice r14 q'.n c14, .int .u64 (q'.T : Int), .int .u32 (q'.l : Int), .int .u32 (q'.g : Int), .int .u16 (q'.u : Int), .int .u16 (q'.j : Int), .int .u32 (q'.F : Int), .int .u16 (q'.d : Int)] 31)).cell? ⟨G1, 5, none⟩ = some (.slice r6 q.n c6) := HA.out.cell 5 (by decide)
  have g6 : (w14.alloc (.cells #[.int .i64 q'.k, .int .u16 (q'.s : Int), .int .u16 (q'.t : Int), .int .u32 (q'.f : Int), .int .u16 (q'.y : Int), .slice r14 q'.n c14, .int .u64 (q'.T : Int), .int .u32 (q'.l : Int), .int .u32 (q'.g : Int), .int .u16 (q'.u : Int), .int .u16 (q'.j : Int), .int .u32 (q'.F : Int), .int .u16 (q'.d : Int)] 31)).cell? ⟨G1, 6, none⟩ = some (.int .u64 (q.T : Int)) := HA.out.cell 6 (by decide)
  have g7 : (w14.alloc (.cells #[.int .i64 q'.k, .int .u16 (q'.s : Int), .int .u16 (q'.t : Int), .int .u32 (q'.f : Int), .int .u16 (q'.y : Int), .slice r14 q'.n c14, .int .u64 (q'.T : Int), .int .u32 (q'.l : Int), .int .u32 (q'.g : Int), .int .u16 (q'.u : Int), .int .u16 (q'.j : Int), .int .u32 (q'.F : Int), .int .u16 (q'.d : Int)] 31)).cell? ⟨G1, 7, none⟩ = some (.int .u32 (q.l : Int)) := HA.out.cell 7 (by decide)
  have g8 : (w14.alloc (.cells #[.int .i64 q'.k, .int .u16 (q'.s : Int), .int .u16 (q'.t : Int), .int .u32 (q'.f : Int), .int .u16 (q'.y : Int), .slice r14 q'.n c14, .int .u64 (q'.T : Int), .int .u32 (q'.l : Int), .int .u32 (q'.g : Int), .int .u16 (q'.u : Int), .int .u16 (q'.j : Int), .int .u32 (q'.F : Int), .int .u16 (q'.d : Int)] 31)).cell? ⟨G1, 8, none⟩ = some (.int .u32 (q.g : Int)) := HA.out.cell 8 (by decide)
  have g9 : (w14.alloc (.cells #[.int .i64 q'.k, .int .u16 (q'.s : Int), .int .u16 (q'.t : Int), .int .u32 (q'.f : Int), .int .u16 (q'.y : Int), .slice r14 q'.n c14, .int .u64 (q'.T : Int), .int .u32 (q'.l : Int), .int .u32 (q'.g : Int), .int .u16 (q'.u : Int), .int .u16 (q'.j : Int), .int .u32 (q'.F : Int), .int .u16 (q'.d : Int)] 31)).cell? ⟨G1, 9, none⟩ = some (.int .u16 (q.u : Int)) := HA.out.cell 9 (by decide)
  have g10 : (w14.alloc (.cells #[.int .i64 q'.k, .int .u16 (q'.s : Int), .int .u16 (q'.t : Int), .int .u32 (q'.f : Int), .int .u16 (q'.y : Int), .slice r14 q'.n c14, .int .u64 (q'.T : Int), .int .u32 (q'.l : Int), .int .u32 (q'.g : Int), .int .u16 (q'.u : Int), .int .u16 (q'.j : Int), .int .u32 (q'.F : Int), .int .u16 (q'.d : Int)] 31)).cell? ⟨G1, 10, none⟩ = some (.int .u16 (q.j : Int)) := HA.out.cell 10 (by decide)
  have g11 : (w14.alloc (.cells #[.int .i64 q'.k, .int .u16 (q'.s : Int), .int .u16 (q'.t : Int), .int .u32 (q'.f : Int), .int .u16 (q'.y : Int), .slice r14 q'.n c14, .int .u64 (q'.T : Int), .int .u32 (q'.l : Int), .int .u32 (q'.g : Int), .int .u16 (q'.u : Int), .int .u16 (q'.j : Int), .int .u32 (q'.F : Int), .int .u16 (q'.d : Int)] 31)).cell? ⟨G1, 11, none⟩ = some (.int .u32 (q.F : Int)) := HA.out.cell 11 (by decide)
  have g12 : (w14.alloc (.cells #[.int .i64 q'.k, .int .u16 (q'.s : Int), .int .u16 (q'.t : Int), .int .u32 (q'.f : Int), .int .u16 (q'.y : Int), .slice r14 q'.n c14, .int .u64 (q'.T : Int), .int .u32 (q'.l : Int), .int .u32 (q'.g : Int), .int .u16 (q'.u : Int), .int .u16 (q'.j : Int), .int .u32 (q'.F : Int), .int .u16 (q'.d : Int)] 31)).cell? ⟨G1, 12, none⟩ = some (.int .u16 (q.d : Int)) := HA.out.cell 12 (by decide)
  have h0 : (w14.alloc (.cells #[.int .i64 q'.k, .int .u16 (q'.s : Int), .int .u16 (q'.t : Int), .int .u32 (q'.f : Int), .int .u16 (q'.y : Int), .slice r14 q'.n c14, .int .u64 (q'.T : Int), .int .u32 (q'.l : Int), .int .u32 (q'.g : Int), .int .u16 (q'.u : Int), .int .u16 (q'.j : Int), .int .u32 (q'.F : Int), .int .u16 (q'.d : Int)] 31)).cell? ⟨G2, 0, none⟩ = some (.int .i64 q.k) := HB.out.cell 0 (by decide)
  have h1 : (w14.alloc (.cells #[.int .i64 q'.k, .int .u16 (q'.s : Int), .int .u16 (q'.t : Int), .int .u32 (q'.f : Int), .int .u16 (q'.y : Int), .slice r14 q'.n c14, .int .u64 (q'.T : Int), .int .u32 (q'.l : Int), .int .u32 (q'.g : Int), .int .u16 (q'.u : Int), .int .u16 (q'.j : Int), .int .u32 (q'.F : Int), .int .u16 (q'.d : Int)] 31)).cell? ⟨G2, 1, none⟩ = some (.int .u16 (q.s : Int)) := HB.out.cell 1 (by decide)
  have h2 : (w14.alloc (.cells #[.int .i64 q'.k, .int .u16 (q'.s : Int), .int .u16 (q'.t : Int), .int .u32 (q'.f : Int), .int .u16 (q'.y : Int), .slice r14 q'.n c14, .int .u64 (q'.T : Int), .int .u32 (q'.l : Int), .int .u32 (q'.g : Int), .int .u16 (q'.u : Int), .int .u16 (q'.j : Int), .int .u32 (q'.F : Int), .int .u16 (q'.d : Int)] 31)).cell? ⟨G2, 2, none⟩ = some (.int .u16 (q.t : Int)) := HB.out.cell 2 (by decide)
  have h3 : (w14.alloc (.cells #[.int .i64 q'.k, .int .u16 (q'.s : Int), .int .u16 (q'.t : Int), .int .u32 (q'.f : Int), .int .u16 (q'.y : Int), .slice r14 q'.n c14, .int .u64 (q'.T : Int), .int .u32 (q'.l : Int), .int .u32 (q'.g : Int), .int .u16 (q'.u : Int), .int .u16 (q'.j : Int), .int .u32 (q'.F : Int), .int .u16 (q'.d : Int)] 31)).cell? ⟨G2, 3, none⟩ = some (.int .u32 (q.f : Int)) := HB.out.cell 3 (by decide)
  have h4 : (w14.alloc (.cells #[.int .i64 q'.k, .int .u16 (q'.s : Int), .int .u16 (q'.t : Int), .int .u32 (q'.f : Int), .int .u16 (q'.y : Int), .slice r14 q'.n c14, .int .u64 (q'.T : Int), .int .u32 (q'.l : Int), .int .u32 (q'.g : Int), .int .u16 (q'.u : Int), .int .u16 (q'.j : Int), .int .u32 (q'.F : Int), .int .u16 (q'.d : Int)] 31)).cell? ⟨G2, 4, none⟩ = some (.int .u16 (q.y : Int)) := HB.out.cell 4 (by decide)
  have h5 : (w14.alloc (.cells #[.int .i64 q'.k, .int .u16 (q'.s : Int), .int .u16 (q'.t : Int), .int .u32 (q'.f : Int), .int .u16 (q'.y : Int), .slice r14 q'.n c14, .int .u64 (q'.T : Int), .int .u32 (q'.l : Int), .int .u32 (q'.g : Int), .int .u16 (q'.u : Int), .int .u16 (q'.j : Int), .int .u32 (q'.F : Int), .int .u16 (q'.d : Int)] 31)).cell? ⟨G2, 5, none⟩ = some (.slice r8 q.n c8) := HB.out.cell 5 (by decide)
  have h6 : (w14.alloc (.cells #[.int .i64 q'.k, .int .u16 (q'.s : Int), .int .u16 (q'.t : Int), .int .u32 (q'.f : Int), .int .u16 (q'.y : Int), .slice r14 q'.n c14, .int .u64 (q'.T : Int), .int .u32 (q'.l : Int), .int .u32 (q'.g : Int), .int .u16 (q'.u : Int), .int .u16 (q'.j : Int), .int .u32 (q'.F : Int), .int .u16 (q'.d : Int)] 31)).cell? ⟨G2, 6, none⟩ = some (.int .u64 (q.T : Int)) := HB.out.cell 6 (by decide)
  have h7 : (w14.alloc (.cells #[.int .i64 q'.k, .int .u16 (q'.s : Int), .int .u16 (q'.t : Int), .int .u32 (q'.f : Int), .int .u16 (q'.y : Int), .slice r14 q'.n c14, .int .u64 (q'.T : Int), .int .u32 (q'.l : Int), .int .u32 (q'.g : Int), .int .u16 (q'.u : Int), .int .u16 (q'.j : Int), .int .u32 (q'.F : Int), .int .u16 (q'.d : Int)] 31)).cell? ⟨G2, 7, none⟩ = some (.int .u32 (q.l : Int)) := HB.out.cell 7 (by decide)
  have h8 : (w14.alloc (.cells #[.int .i64 q'.k, .int .u16 (q'.s : Int), .int .u16 (q'.t : Int), .int .u32 (q'.f : Int), .int .u16 (q'.y : Int), .slice r14 q'.n c14, .int .u64 (q'.T : Int), .int .u32 (q'.l : Int), .int .u32 (q'.g : Int), .int .u16 (q'.u : Int), .int .u16 (q'.j : Int), .int .u32 (q'.F : Int), .int .u16 (q'.d : Int)] 31)).cell? ⟨G2, 8, none⟩ = some (.int .u32 (q.g : Int)) := HB.out.cell 8 (by decide)
  have h9 : (w14.alloc (.cells #[.int .i64 q'.k, .int .u16 (q'.s : Int), .int .u16 (q'.t : Int), .int .u32 (q'.f : Int), .int .u16 (q'.y : Int), .slice r14 q'.n c14, .int .u64 (q'.T : Int), .int .u32 (q'.l : Int), .int .u32 (q'.g : Int), .int .u16 (q'.u : Int), .int .u16 (q'.j : Int), .int .u32 (q'.F : Int), .int .u16 (q'.d : Int)] 31)).cell? ⟨G2, 9, none⟩ = some (.int .u16 (q.u : Int)) := HB.out.cell 9 (by decide)
  have h10 : (w14.alloc (.cells #[.int .i64 q'.k, .int .u16 (q'.s : Int), .int .u16 (q'.t : Int), .int .u32 (q'.f : Int), .int .u16 (q'.y : Int), .slice r14 q'.n c14, .int .u64 (q'.T : Int), .int .u32 (q'.l : Int), .int .u32 (q'.g : Int), .int .u16 (q'.u : Int), .int .u16 (q'.j : Int), .int .u32 (q'.F : Int), .int .u16 (q'.d : Int)] 31)).cell? ⟨G2, 10, none⟩ = some (.int .u16 (q.j : Int)) := HB.out.cell 10 (by decide)
  have h11 : (w14.alloc (.cells #[.int .i64 q'.k, .int .u16 (q'.s : Int), .int .u16 (q'.t : Int), .int .u32 (q'.f : Int), .int .u16 (q'.y : Int), .slice r14 q'.n c14, .int .u64 (q'.T : Int), .int .u32 (q'.l : Int), .int .u32 (q'.g : Int), .int .u16 (q'.u : Int), .int .u16 (q'.j : Int), .int .u32 (q'.F : Int), .int .u16 (q'.d : Int)] 31)).cell? ⟨G2, 11, none⟩ = some (.int .u32 (q.F : Int)) := HB.out.cell 11 (by decide)
  have h12 : (w14.alloc (.cells #[.int .i64 q'.k, .int .u16 (q'.s : Int), .int .u16 (q'.t : Int), .int .u32 (q'.f : Int), .int .u16 (q'.y : Int), .slice r14 q'.n c14, .int .u64 (q'.T : Int), .int .u32 (q'.l : Int), .int .u32 (q'.g : Int), .int .u16 (q'.u : Int), .int .u16 (q'.j : Int), .int .u32 (q'.F : Int), .int .u16 (q'.d : Int)] 31)).cell? ⟨G2, 12, none⟩ = some (.int .u16 (q.d : Int)) := HB.out.cell 12 (by decide)
  go_wp2_with fail
  generalize (w14.alloc (.cells #[.int .i64 q'.k, .int .u16 (q'.s : Int), .int .u16 (q'.t : Int), .int .u32 (q'.f : Int), .int .u16 (q'.y : Int), .slice r14 q'.n c14, .int .u64 (q'.T : Int), .int .u32 (q'.l : Int), .int .u32 (q'.g : Int), .int .u16 (q'.u : Int), .int .u16 (q'.j : Int), .int .u32 (q'.F : Int), .int .u16 (q'.d : Int)] 31)) = w15 at *
  generalize w14.heap.size = G4 at *
  have L15 := HL.out
  have P15 := HP.out
  have R15 := HR.out
  have T15 := HT.out
  have A15 := HA.out
  have S15 := HS.out
  have B15 := HB.out
  have V15 := HV.out
  have X15 := HX.out
  have W15 := HW.out
  have Y15 := HY.out
  have b15 := Hb.out
  clear Hb HL HP HR HT HA HS HB HV HX HW HY e1 e2 g0 g1 g2 g3 g4 g5 g6 g7 g8 g9 g10 g11 g12 h0 h1 h2 h3 h4 h5 h6 h7 h8 h9 h10 h11 h12 P15 R15 A15 B15
  refine (psame_any q r6 r8 c6 c8 w15 T15 S15).mono ?_
  rintro e w16 ⟨rfl, d⟩
  clear T15 S15
  have L16 := L15.grew d
  have V16 := V15.grew d
  have X16 := X15.grew d
  have W16 := W15.grew d
  have Y16 := Y15.grew d
  have b16 := b15.trans (d.mono b15.size)
  clear L15 V15 X15 W15 Y15 b15
  clear d
  have g0 : w16.cell? ⟨G3, 0, none⟩ = some (.int .i64 q'.k) := X16.cell 0 (by decide)
  have g1 : w16.cell? ⟨G3, 1, none⟩ = some (.int .u16 (q'.s : Int)) := X16.cell 1 (by decide)
  have g2 : w16.cell? ⟨G3, 2, none⟩ = some (.int .u16 (q'.t : Int)) := X16.cell 2 (by decide)
  have g3 : w16.cell? ⟨G3, 3, none⟩ = some (.int .u32 (q'.f : Int)) := X16.cell 3 (by decide)
  have g4 : w16.cell? ⟨G3, 4, none⟩ = some (.int .u16 (q'.y : Int)) := X16.cell 4 (by decide)
  have g5 : w16.cell? ⟨G3, 5, none⟩ = some (.slice r11 q'.n c11) := X16.cell 5 (by decide)
  have g6 : w16.cell? ⟨G3, 6, none⟩ = some (.int .u64 (q'.T : Int)) := X16.cell 6 (by decide)
  have g7 : w16.cell? ⟨G3, 7, none⟩ = some (.int .u32 (q'.l : Int)) := X16.cell 7 (by decide)
  have g8 : w16.cell? ⟨G3, 8, none⟩ = some (.int .u32 (q'.g : Int)) := X16.cell 8 (by decide)
  have g9 : w16.cell? ⟨G3, 9, none⟩ = some (.int .u16 (q'.u : Int)) := X16.cell 9 (by decide)
  have g10 : w16.cell? ⟨G3, 10, none⟩ = some (.int .u16 (q'.j : Int)) := X16.cell 10 (by decide)
  have g11 : w16.cell? ⟨G3, 11, none⟩ = some (.int .u32 (q'.F : Int)) := X16.cell 11 (by decide)
  have g12 : w16.cell? ⟨G3, 12, none⟩ = some (.int .u16 (q'.d : Int)) := X16.cell 12 (by decide)
  have h0 : w16.cell? ⟨G4, 0, none⟩ = some (.int .i64 q'.k) := Y16.cell 0 (by decide)
  have h1 : w16.cell? ⟨G4, 1, none⟩ = some (.int .u16 (q'.s : Int)) := Y16.cell 1 (by decide)
  have h2 : w16.cell? ⟨G4, 2, none⟩ = some (.int .u16 (q'.t : Int)) := Y16.cell 2 (by decide)
  have h3 : w16.cell? ⟨G4, 3, none⟩ = some (.int .u32 (q'.f : Int)) := Y16.cell 3 (by decide)
  have h4 : w16.cell? ⟨G4, 4, none⟩ = some (.int .u16 (q'.y : Int)) := Y16.cell 4 (by decide)
  have h5 : w16.cell? ⟨G4, 5, none⟩ = some (.slice r14 q'.n c14) := Y16.cell 5 (by decide)
  have h6 : w16.cell? ⟨G4, 6, none⟩ = some (.int .u64 (q'.T : Int)) := Y16.cell 6 (by decide)
  have h7 : w16.cell? ⟨G4, 7, none⟩ = some (.int .u32 (q'.l : Int)) := Y16.cell 7 (by decide)
  have h8 : w16.cell? ⟨G4, 8, none⟩ = some (.int .u32 (q'.g : Int)) := Y16.cell 8 (by decide)
  have h9 : w16.cell? ⟨G4, 9, none⟩ = some (.int .u16 (q'.u : Int)) := Y16.cell 9 (by decide)
  have h10 : w16.cell? ⟨G4, 10, none⟩ = some (.int .u16 (q'.j : Int)) := Y16.cell 10 (by decide)
  have h11 : w16.cell? ⟨G4, 11, none⟩ = some (.int .u32 (q'.F : Int)) := Y16.cell 11 (by decide)
  have h12 : w16.cell? ⟨G4, 12, none⟩ = some (.int .u16 (q'.d : Int)) := Y16.cell 12 (by decide)
  have V16 : Hid _ := V16
  have W16 : Hid _ := W16
  have L16 : Hid _ := L16
  have b16 : Hid _ := b16
  clear X16 Y16
  go_wp2_with fail
  clear g0 g1 g2 g3 g4 g5 g6 g7 g8 g9 g10 g11 g12 h0 h1 h2 h3 h4 h5 h6 h7 h8 h9 h10 h11 h12
  refine (psame_any q' r11 r14 c11 c14 w16 V16.out W16.out).mono ?_
  rintro e w17 ⟨rfl, d⟩
  have L17 : Hid _ := L16.out.grew d
  have b17 : Hid (Below w.heap.size w w17) := b16.out.trans (d.mono b16.out.size)
  clear d V16 W16 L16 b16
  go_wp2_with fail
  refine (whole_any a G m cc z w17 L17.out (HZ.out.grew b17.out) (by omega)).mono ?_
  rintro e w18 ⟨rfl, hw⟩
  have hw := hw.symm
  subst hw
  have e15 : IntKind.i64.wrap (n + 15) = n + 15 := by rw [IntKind.wrap_i64]; omega
  go_wp2_with fail
  refine (psize_any n w17 l1 l2).mono ?_
  rintro e w18 ⟨rfl, hw⟩
  have hw := hw.symm
  subst hw
  go_wp2
  go_ret
  exact ⟨rfl, b17.out⟩

set_option maxRecDepth 100000 in
set_option maxHeartbeats 1000000 in
theorem long (p : Pk) (r : Option Addr) (c : Nat) (a : Option Addr) (m cc : Nat) (n : Int) (w : World) (h : ¬ (p.n ≤ 100 ∧ m ≤ 100 ∧ n ≤ 1099511627776)) :
    Calls Try.prog 3 #[.agg #[.int .i64 p.k, .int .u16 (p.s : Int), .int .u16 (p.t : Int), .int .u32 (p.f : Int), .int .u16 (p.y : Int), .slice r p.n c, .int .u64 (p.T : Int), .int .u32 (p.l : Int), .int .u32 (p.g : Int), .int .u16 (p.u : Int), .int .u16 (p.j : Int), .int .u32 (p.F : Int), .int .u16 (p.d : Int)], .slice a m cc, .int .i64 n] w fun e w' => e = .returned (.bool true) ∧ Below w.heap.size w w' := by
  have D1 := PkAt.made w 31 p r c
  have b1 : Below w.heap.size w (w.alloc (.cells #[.int .i64 p.k, .int .u16 (p.s : Int), .int .u16 (p.t : Int), .int .u32 (p.f : Int), .int .u16 (p.y : Int), .slice r p.n c, .int .u64 (p.T : Int), .int .u32 (p.l : Int), .int .u32 (p.g : Int), .int .u16 (p.u : Int), .int .u16 (p.j : Int), .int .u32 (p.F : Int), .int .u16 (p.d : Int)] 31)) := (Below.refl _ _).alloc (Nat.le_refl _) _
  go_enter Try.func3, Try.ntmps3
  go_wp2_with fail
  generalize (w.alloc (.cells #[.int .i64 p.k, .int .u16 (p.s : Int), .int .u16 (p.t : Int), .int .u32 (p.f : Int), .int .u16 (p.y : Int), .slice r p.n c, .int .u64 (p.T : Int), .int .u32 (p.l : Int), .int .u32 (p.g : Int), .int .u16 (p.u : Int), .int .u16 (p.j : Int), .int .u32 (p.F : Int), .int .u16 (p.d : Int)] 31)) = w1 at *
  refine (begun11 _).mono ?_
  rintro e w2 ⟨rfl, d2⟩
  have q5 : w2.cell? ⟨w.heap.size, 5, none⟩ = some (.slice r p.n c) := (D1.grew d2).cell 5 (by decide)
  have HB : Hid (Below w.heap.size w w2) := b1.trans (d2.mono b1.size)
  clear b1 d2 D1
  by_cases hn : p.n ≤ 100
  · have i0 : decide ((100 : Int) < (p.n : Int)) = false := by simp; omega
    by_cases hm : m ≤ 100
    · have i1 : decide ((100 : Int) < (m : Int)) = false := by simp; omega
      have i2 : (1099511627776 : Int) < n := by omega
      clear h hn hm
      go_wp2
      go_ret
      exact ⟨rfl, HB.out⟩
    · have i1 : (100 : Int) < (m : Int) := by omega
      clear h hn hm
      go_wp2
      go_ret
      exact ⟨rfl, HB.out⟩
  · have i0 : (100 : Int) < (p.n : Int) := by omega
    clear h hn
    go_wp2
    go_ret
    exact ⟨rfl, HB.out⟩

theorem walk (p : Pk) (r : Option Addr) (c : Nat) (a : Option Addr) (m cc : Nat) (z : Nat → Nat) (n : Int) (w : World) (h0 : p.Ok ∧ (-9223372036854775808 ≤ p.k ∧ p.k ≤ 9223372036854775807) ∧ BytesAt w r p.n p.x ∧ p.n ≤ c ∧ c ≤ maxLen) (h1 : BytesAt w a m z ∧ m ≤ cc ∧ cc ≤ maxLen) (h2 : (Lit.int .i64 n).wf = true) :
    Calls Try.prog 3 #[.agg #[.int .i64 p.k, .int .u16 (p.s : Int), .int .u16 (p.t : Int), .int .u32 (p.f : Int), .int .u16 (p.y : Int), .slice r p.n c, .int .u64 (p.T : Int), .int .u32 (p.l : Int), .int .u32 (p.g : Int), .int .u16 (p.u : Int), .int .u16 (p.j : Int), .int .u32 (p.F : Int), .int .u16 (p.d : Int)], .slice a m cc, .int .i64 n] w fun e w' => e = .returned (.bool true) ∧ Below w.heap.size w w' := by
  have k := bounds_i64 h2
  by_cases h : p.n ≤ 100 ∧ m ≤ 100 ∧ n ≤ 1099511627776
  · exact core p r c a m cc z n w h0.1 h0.2.2.1 h1.1 h1.2.1 h.1 h.2.1 (by omega) h.2.2
  · exact long p r c a m cc n w h

set_option maxRecDepth 100000 in
theorem lifted (os : Os) (started : os.Started) (H : Type) (enc : TypeId × Value → H) :
    ReturnsInHanded {} Try.checked os 3 .any (Rows.packetAllSpec.pre6 enc Try.prog Try.f3 Rows.packetAllRow.domain false) (Rows.packetAllSpec.post enc Try.prog Try.f3 false true false false) := by
  refine returnsInHanded_of_change (C := Try.checked) own started (by kernel_rfl) Try.func3
    (ChangeSpec.witness6 (enc := enc) (C := Try.checked) false ⟨#[], #[.agg #[.int .i64 0, .int .u16 0, .int .u16 0, .int .u32 0, .int .u16 0, .slice none 0 0, .int .u64 0, .int .u32 0, .int .u32 0, .int .u16 0, .int .u16 0, .int .u32 0, .int .u16 0], .slice none 0 0, .int .i64 0], []⟩ 8 (by kernel_rfl) (by kernel_rfl) (by kernel_rfl) (by kernel_rfl)) ?_
  intro W base args ds gs before hval0 hW hcnd _
  have hval : ∀ (j : Nat) t v, Try.f3.params[j]? = some t → args[j]? = some v → Value.okWide Try.prog W .any base t v := hval0
  have hW' := hW
  obtain ⟨p, q, hA0, hV, rfl, hfz, hnd⟩ := hW
  have hA : DataW.TrodAll enc Try.prog W 0 (fun _ => true) true Try.f3.params.toList args.toList ds p := hA0
  rw [Try.params3] at hA hval
  obtain ⟨v0, vs0, d0, ds0, p0, q0, hargs, rfl, rfl, h0, r0⟩ := trodAll_cons hA
  obtain ⟨v1, vs1, d1, ds1, p1, q1, rfl, rfl, rfl, h1, r1⟩ := trodAll_cons r0
  obtain ⟨v2, vs2, d2, ds2, p2, q2, rfl, rfl, rfl, h2, r2⟩ := trodAll_cons r1
  obtain ⟨rfl, rfl, rfl⟩ := trodAll_nil r2
  obtain rfl : args = #[v0, v1, v2] := by cases args; simp_all
  obtain ⟨rfl, rfl⟩ := trodVars_none hV
  have k0 := h0
  have lt0 : ∀ x ∈ p0, x.block < W.heap.size := by obtain ⟨m, hm⟩ := k0; exact DataW.trod_lt m _ _ _ hm
  obtain ⟨P0, R0, C0, rfl, w0⟩ := open_packet (hval 0 31 v0 rfl rfl) h0
  obtain ⟨a1, len1, cap1, rfl⟩ := okWide_slice Try.underlying24 (hval 1 24 v1 rfl rfl)
  have k1 := h1
  have lt1 : ∀ x ∈ p1, x.block < W.heap.size := by obtain ⟨m, hm⟩ := k1; exact DataW.trod_lt m _ _ _ hm
  obtain ⟨x1, w1⟩ : ∃ x, BytesAt W a1 len1 x ∧ len1 ≤ cap1 ∧ cap1 ≤ maxLen := open_bytes Try.underlying24 Try.underlying5 (by kernel_rfl) h1
  obtain ⟨a2, rfl, rfl, rfl, w2⟩ := open_int Try.underlying3 (hval 2 3 v2 rfl rfl) h2
  clear hA0 hval0
  refine (walk P0 R0 C0 a1 len1 cap1 x1 a2 W w0 w1 w2).mono fun e W' ⟨he, bel⟩ => ?_
  subst he
  exact ⟨_, rfl, _, _, _, [], _, [], hW', trodAll_mk1 (shut_bool Try.underlying4 _), (trodAll_cons_mk (Below.trod laidOut (by kernel_rfl) (of_decide_eq_true (by kernel_rfl)) k0 bel lt0) (trodAll_cons_mk (Below.trod laidOut (by kernel_rfl) (of_decide_eq_true (by kernel_rfl)) k1 bel lt1) (trodAll_cons_mk (shut_int Try.underlying3 w2) trodAll_mk0))), rfl, bel.frame _, fun h => by cases h⟩

theorem over : Rows.packetAllRow.holds Try.pinned (OpenSpec.ofChange Rows.packetAllSpec) :=
  OpenClaim.holds_of_wide 3 Try.f3 rfl rfl rfl rfl rfl rfl rfl ⟨rfl, rfl, rfl, rfl, rfl⟩ rfl rfl rfl rfl rfl (by kernel_rfl) Try.func3 (by kernel_rfl)
    (of_decide_eq_true (by kernel_rfl)) (by unfold Func.isWrapper; first | (rw [if_pos (by decide +kernel)]; kernel_rfl) | (rw [if_neg (by decide +kernel)]; exact ⟨rfl, rfl⟩))
    (fun os started H enc _ => lifted os started H enc)

theorem proved : Rows.PacketAllSaid := over
end Go.Proofs.Ytcflaklnafggmaa.packetAll
namespace Go.Proofs.Ytcflaklnafggmaa
theorem packetAll_holds : Rows.PacketAllSaid := packetAll.proved
#print axioms packetAll_holds
end Go.Proofs.Ytcflaklnafggmaa
