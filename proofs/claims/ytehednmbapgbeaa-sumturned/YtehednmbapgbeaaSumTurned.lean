/-
  Sealed bytes open as they were, and with a byte, or one bit, turned they do not open: the call returns true, whatever the bytes are, wherever and however they are turned (at most 80 bytes are looked at; no condition).
-/
import Derived.Test.YtehednmbapgbeaaRows
import Derived.WalkKit
import Derived.ProofKit
import Derived.OpenShut
import Derived.ShutString
import Derived.ChangeOld
import Derived.Below
import Derived.Test.YtehednmbapgbeaaSbg
namespace Go.Proofs.Ytehednmbapgbeaa.sumTurned
open Go.ChangeShapes Go.WideShapes Go.ChangeAt Go.RowKit
open Go.ChangeMaps (open_string shut_string)
set_option linter.unusedVariables false

theorem own : ownKnob Try.prog.godebug = none := by kernel_rfl
theorem laidOut : laidOutB Try.prog = true := by kernel_rfl

/-- WHAT THE WALK IS TOLD OF A SLICE OF INTEGERS THAT CAME IN: it is nil; or it leads to a row of 'cap' cells, the numbers 'zs' (the first 'len' are its elements, the rest its spare room), each fitting its kind. -/
def IsRow (k : IntKind) (w : World) (a : Option Addr) (len cap : Nat) (zs : List Int) : Prop :=
  (a = none ∧ len = 0 ∧ cap = 0 ∧ zs = []) ∨
  ∃ x, a = some x ∧ len ≤ cap ∧ cap ≤ maxLen ∧ zs.length = cap ∧ (∀ i, i < zs.length → w.cell? (x.add i) = some (.int k (zs.getD i 0))) ∧ ∀ n ∈ zs, (Lit.int k n).wf = true

open Go.Deep

/-- append([]byte{}, s...), s of one byte or more: a new row, that may be written. -/
theorem clone_own (b0 : Addr) (ty : TypeId) (r : Option Addr) (n c : Nat) (x : Nat → Nat) (W : World) (hx : BytesAt W r n x) (h0 : 0 < n) (hn : n ≤ 1000000) :
    ∃ cap W', (Builtin.append_ #[22, 22] ty #[.slice (some b0) 0 0, .slice r n c]).run Try.prog W = .ok (.slice (some ⟨W.heap.size, 0, none⟩) n cap) W' ∧ n ≤ cap ∧ BytesAt W' (some ⟨W.heap.size, 0, none⟩) n x ∧ Below W.heap.size W W' ∧ W'.heap.size = W.heap.size + 1 ∧ ∀ i, W'.frozen? ⟨W.heap.size, i, none⟩ = false := by
  obtain ⟨i0, hi, hz0, hz1, hz2⟩ := info_parts Try.infoByte
  obtain ⟨b, o, rfl⟩ := bytes_some hx h0
  have hr := run_append_grow (P := Try.prog) W 22 ty 5 i0 (.int .u8 0) Try.underlying22 hi hz0 b0 0 0 [] (by simp) (by intro j v hj; simp at hj) ⟨b, o, none⟩ n c (cellsAt x 0 n) (by rw [cellsAt_len, hz1, Nat.mul_one])
    (fun j v hj => by
      obtain ⟨hjn, rfl⟩ := cellsAt_get _ _ _ _ _ hj
      rw [Addr.add_mid, Nat.zero_add]
      exact bytes_cell hx j hjn) (by omega) (by omega) (growslice_fits (by omega) (by rw [hz2]; omega))
  simp only [Nat.zero_add] at hr
  refine ⟨_, _, hr, ?_, ⟨fun _ => ⟨W.heap.size, 0, rfl, fun i hi => ?_⟩, hx.lt⟩, (Below.refl _ W).drew.alloc (Nat.le_refl _) _, by simp, fun i => ?_⟩
  · exact grownCap_ge _ _ _ _
  · rw [Nat.zero_add, show (⟨W.heap.size, i, none⟩ : Addr) = ⟨W.drew.heap.size, i, none⟩ from rfl, World.cell?_alloc_at _ _ _ _ rfl]
    have hl : i < (cellsAt x 0 n).length := by rw [cellsAt_len]; exact hi
    simp only [Array.empty_append]
    rw [Array.getElem?_append_left (by simpa using hl)]
    simp [cellsAt, hi]
  · exact frozen_of_row _ W.drew.heap.size i _ 5 (heap_alloc_new W.drew _)

/-- The bytes x, the one at j turned by v. -/
def turn (x : Nat → Nat) (j v i : Nat) : Nat := if i = j then x j ^^^ v else x i
theorem turn_lt {x : Nat → Nat} {n j v : Nat} (hj : j < n) (hx : ∀ i, i < n → x i < 256) (hv : v < 256) (i : Nat) (hi : i < n) : turn x j v i < 256 := by
  unfold turn
  split
  · exact Nat.xor_lt_two_pow (n := 8) (hx j hj) hv
  · exact hx i hi
theorem turn_bytes {w : World} {g n j v : Nat} {x : Nat → Nat} (h : BytesAt w (some ⟨g, 0, none⟩) n x) (hj : j < n) (hv : v < 256) : BytesAt (w.setCell ⟨g, j, none⟩ (.int .u8 ((x j ^^^ v : Nat) : Int))) (some ⟨g, 0, none⟩) n (turn x j v) := by
  refine ⟨fun _ => ⟨g, 0, rfl, fun i hi => ?_⟩, turn_lt hj h.lt hv⟩
  have hc := bytes_cell h i hi
  have hcj := bytes_cell h j hj
  rw [Nat.zero_add] at hc hcj ⊢
  unfold turn
  by_cases e : i = j
  · subst e; rw [if_pos rfl, World.cell?_setCell_same _ _ _ hcj]
  · rw [if_neg e, World.cell?_setCell_other _ _ _ _ (fun h => e (Addr.mk.inj h).2.1.symm)]; exact hc
theorem turned {x : Nat → Nat} {n j v : Nat} (hx : ∀ i, i < n → x i < 256) (hj : j < n + 4) (hv : v < 256) : opB (turn (Crc.seald x n) j v) (n + 4) = decide (v = 0) := by
  have ls := Crc.seal_lt hx
  by_cases h : v = 0
  · subst h
    have e : ∀ i, turn (Crc.seald x n) j 0 i = Crc.seald x n i := fun i => by
      unfold turn
      split
      · subst_vars; exact Nat.xor_zero _
      · rfl
    have : Crc.ok (turn (Crc.seald x n) j 0) n := (Crc.ok_congr fun i _ => e i).2 (Crc.ok_seal hx)
    rw [(op_yes this).1]; rfl
  · have : ¬ Crc.ok (turn (Crc.seald x n) j v) n := Crc.ok_turned hj (fun i _ => ls i) (turn_lt hj (fun i _ => ls i) hv) (fun i _ hne => by unfold turn; rw [if_neg hne]) (fun e => by
      unfold turn at e
      rw [if_pos rfl] at e
      exact h (Crc.xor_right (a := v) (b := 0) (c := Crc.seald x n j) (by rw [Nat.xor_zero]; exact e.symm))) (Crc.ok_seal hx)
    rw [(op_no this).1]; simp [h]

theorem bit_lt (k : Nat) : 2 ^ (k % 8) < 256 ∧ 2 ^ (k % 8) ≠ 0 :=
  ⟨Nat.lt_of_lt_of_le (Nat.pow_lt_pow_right (by decide) (Nat.mod_lt k (by decide))) (by decide), Nat.ne_of_gt (Nat.pow_pos (by decide))⟩
theorem bit_int (k : Nat) : (2 : Int) ^ (k % 8) % 256 = ((2 ^ (k % 8) : Nat) : Int) := by
  have h := (bit_lt k).1
  rw [show (2 : Int) ^ (k % 8) = ((2 ^ (k % 8) : Nat) : Int) by rw [Int.natCast_pow]; rfl]
  generalize 2 ^ (k % 8) = u at *
  omega

set_option maxRecDepth 100000 in
set_option maxHeartbeats 1000000 in
theorem core (a0 : Option Addr) (n cap0 : Nat) (x : Nat → Nat) (pos v : Nat) (w : World) (hx : BytesAt w a0 n x) (hn : n ≤ 80) (hp : pos < 65536) (hv : v < 256) :
    Calls Try.prog 4 #[.slice a0 n cap0, .int .u16 (pos : Int), .int .u8 (v : Int)] w fun e w' => e = .returned (.bool true) ∧ Below w.heap.size w w' := by
  have HX : Hid (BytesAt w a0 n x) := hx
  have i80 : ¬ ((80 : Int) < (n : Int)) := by omega
  clear hx
  go_enter Try.func4, Try.ntmps4
  go_wp2_with fail
  refine (begun7 _).mono ?_
  rintro e w0 ⟨rfl, b0⟩
  go_wp2_with fail
  refine (seal_any a0 n cap0 x _ (HX.out.below b0 (Nat.le_refl _)) (by omega)).mono ?_
  rintro e w1 ⟨rfl, R1, d1⟩
  have lx := HX.out.lt
  have B1 := seal_bytes R1 lx
  have b1 := b0.trans (d1.mono b0.size)
  have l0 := b0.size
  clear b0 d1 R1
  generalize w0.heap.size = G at *
  go_wp2_with fail
  refine (seal_open _ n (n + 4) x _ B1 lx (Nat.le_refl _) (by omega)).mono ?_
  rintro e w2 ⟨r2, c2, rfl, -, -, -, X2, d2⟩
  have HX2 : Hid (BytesAt w2 r2 n x) := X2
  have HS2 : Hid (BytesAt w2 (some ⟨G, 0, none⟩) (n + 4) (Crc.seald x n)) := B1.grew d2
  have HB2 : Hid (Below w.heap.size w w2) := b1.trans (d2.mono b1.size)
  have ls := Crc.seal_lt lx
  have lj : pos % (n + 4) < n + 4 := Nat.mod_lt _ (by omega)
  clear b1 d2 B1 X2 l0
  have bb3 : Below w2.heap.size w2 (w2.alloc (.cells #[] 5)) := (Below.refl _ w2).alloc (Nat.le_refl _) _
  obtain ⟨c4, w4, happ, hc4, B4, d4, -, F4⟩ := clone_own ⟨w2.heap.size, 0, none⟩ 22 _ (n + 4) (n + 4) _ _ (HS2.out.grew bb3) (by omega) (by omega)
  have bb4 := bb3.trans (d4.mono bb3.size)
  rw [show (w2.alloc (.cells #[] 5)).heap.size = w2.heap.size + 1 by simp] at happ B4 F4
  have c5 := bytes_cell B4 (pos % (n + 4)) lj
  rw [Nat.zero_add] at c5
  have f5 := F4 (pos % (n + 4))
  have e5 := u8_xor_nat (Crc.seald x n (pos % (n + 4))) v (ls _) hv
  have HT : Hid (BytesAt (w4.setCell ⟨w2.heap.size + 1, pos % (n + 4), none⟩ (.int .u8 ((Crc.seald x n (pos % (n + 4)) ^^^ v : Nat) : Int))) (some ⟨w2.heap.size + 1, 0, none⟩) (n + 4) (turn (Crc.seald x n) (pos % (n + 4)) v)) := turn_bytes B4 lj hv
  have bb5 : Below w2.heap.size w2 (w4.setCell ⟨w2.heap.size + 1, pos % (n + 4), none⟩ (.int .u8 ((Crc.seald x n (pos % (n + 4)) ^^^ v : Nat) : Int))) := bb4.setCell (Nat.le_succ _) _
  generalize Crc.seald x n (pos % (n + 4)) ^^^ v = sv' at *
  generalize Crc.seald x n (pos % (n + 4)) = sv at *
  have HBB : Hid (Below w2.heap.size w2 (w4.setCell ⟨w2.heap.size + 1, pos % (n + 4), none⟩ (.int .u8 (sv' : Int)))) := bb5
  have HC4 : Hid (n + 4 ≤ c4) := hc4
  have lj0 : 0 ≤ (pos : Int) % ((n : Int) + 4) := Int.emod_nonneg _ (by omega)
  have lj' : (pos : Int) % ((n : Int) + 4) < (n : Int) + 4 := Int.emod_lt_of_pos _ (by omega)
  clear bb3 d4 B4 F4 bb4 bb5 hc4
  go_wp2_with (at_builtin; refine Go.Lib.wpList_append_run _ rfl (.tmp 35) (.tmp 36) 22 22 rfl _ _ rfl rfl _ _ happ ?_)
  generalize w4.setCell ⟨w2.heap.size + 1, pos % (n + 4), none⟩ (.int .u8 (sv' : Int)) = w5 at *
  clear happ c5 f5 e5 lj' lj0
  refine (open_any _ (n + 4) c4 _ w5 HT.out HC4.out (by omega)).mono ?_
  rw [turned lx lj hv]
  rintro e w6 ⟨r6, c6, rfl, -, -, -, -, d6⟩
  have bb6 := HBB.out.trans (d6.mono HBB.out.size)
  generalize opN (turn (Crc.seald x n) (pos % (n + 4)) v) (n + 4) = n6 at *
  clear HT HBB d6 HC4 lj
  have bb7 : Below w2.heap.size w2 (w6.alloc (.cells #[] 5)) := bb6.alloc bb6.size _
  obtain ⟨c8, w8, happ, hc8, B8, d8, -, F8⟩ := clone_own ⟨w6.heap.size, 0, none⟩ 22 _ (n + 4) (n + 4) _ _ (HS2.out.below bb7 (Nat.le_refl _)) (by omega) (by omega)
  have bb8 := bb7.trans (d8.mono bb7.size)
  rw [show (w6.alloc (.cells #[] 5)).heap.size = w6.heap.size + 1 by simp] at happ B8 F8
  go_wp2_with (at_builtin; refine Go.Lib.wpList_append_run _ rfl (.tmp 54) (.tmp 55) 22 22 rfl _ _ rfl rfl _ _ happ ?_)
  clear happ
  obtain ⟨k, hk⟩ : ∃ k, k = pos % (8 * (n + 4)) := ⟨_, rfl⟩
  have lk : k < 8 * (n + 4) := by rw [hk]; exact Nat.mod_lt _ (by omega)
  have ek : (pos : Int) % (8 * ((n : Int) + 4)) = (k : Int) := by rw [hk, Int.natCast_emod]; rfl
  rw [ek]
  clear ek hk
  have c9 := bytes_cell B8 (k / 8) (by omega)
  rw [Nat.zero_add] at c9
  have f9 := F8 (k / 8)
  have lq : (k : Int) / 8 < (n : Int) + 4 := by omega
  have e9 : bits .xor .u8 (Crc.seald x n (k / 8) : Int) ((2 : Int) ^ (k % 8) % 256) = ((Crc.seald x n (k / 8) ^^^ 2 ^ (k % 8) : Nat) : Int) := by rw [bit_int]; exact u8_xor_nat _ _ (ls _) (bit_lt k).1
  have HT : Hid (BytesAt (w8.setCell ⟨w6.heap.size + 1, k / 8, none⟩ (.int .u8 ((Crc.seald x n (k / 8) ^^^ 2 ^ (k % 8) : Nat) : Int))).drew (some ⟨w6.heap.size + 1, 0, none⟩) (n + 4) (turn (Crc.seald x n) (k / 8) (2 ^ (k % 8)))) := (turn_bytes B8 (by omega) (bit_lt k).1).grew (Below.refl _ _).drew
  have HBB : Hid (Below w2.heap.size w2 (w8.setCell ⟨w6.heap.size + 1, k / 8, none⟩ (.int .u8 ((Crc.seald x n (k / 8) ^^^ 2 ^ (k % 8) : Nat) : Int))).drew) := (bb8.setCell (Nat.le_succ_of_le bb6.size) _).drew
  have HC8 : Hid (n + 4 ≤ c8) := hc8
  have HQ : Hid (opB (turn (Crc.seald x n) (k / 8) (2 ^ (k % 8))) (n + 4) = false) := by
    show _ = _
    rw [turned lx (by omega) (bit_lt k).1]
    exact decide_eq_false (bit_lt k).2
  generalize Crc.seald x n (k / 8) ^^^ 2 ^ (k % 8) = tv' at *
  generalize Crc.seald x n (k / 8) = tv at *
  clear B8 F8 d8 bb8 bb6 bb7 hc8
  go_region
  generalize (w8.setCell ⟨w6.heap.size + 1, k / 8, none⟩ (.int .u8 (tv' : Int))).drew = w9 at *
  clear c9 f9 e9 lq
  go_wp2_with fail
  refine (open_any _ (n + 4) c8 _ w9 HT.out HC8.out (by omega)).mono ?_
  rw [HQ.out]
  rintro e w10 ⟨r10, c10, rfl, -, -, -, -, d10⟩
  have bb10 := HBB.out.trans (d10.mono HBB.out.size)
  generalize opN (turn (Crc.seald x n) (k / 8) (2 ^ (k % 8))) (n + 4) = n10 at *
  have e1 := conv_bytes _ n c2 _ _ (HX2.out.below bb10 (Nat.le_refl _))
  have HB : Hid (Below w.heap.size w w10) := HB2.out.trans (bb10.mono HB2.out.size)
  have e2 := conv_bytes _ n cap0 _ _ (HX.out.below HB.out (Nat.le_refl _))
  have i3 : (decide (v = 0) == ((v : Int) == 0)) = true := by
    by_cases h : v = 0
    · subst h; rfl
    · simp [h]
  clear HT HBB HC8 HQ d10 bb10 HX2 HS2 HB2 HX lx ls lk
  go_wp2
  go_ret
  exact ⟨rfl, HB.out⟩

set_option maxRecDepth 100000 in
theorem long (a0 : Option Addr) (n cap0 : Nat) (pos v : Int) (w : World) (hn : 80 < n) :
    Calls Try.prog 4 #[.slice a0 n cap0, .int .u16 pos, .int .u8 v] w fun e w' => e = .returned (.bool true) ∧ Below w.heap.size w w' := by
  have i80 : (80 : Int) < (n : Int) := by omega
  go_enter Try.func4, Try.ntmps4
  go_wp2_with fail
  refine (begun7 _).mono ?_
  rintro e w0 ⟨rfl, b0⟩
  have HB : Hid (Below w.heap.size w w0) := b0
  clear b0
  go_wp2
  go_ret
  exact ⟨rfl, HB.out⟩

theorem walk (a0 : Option Addr) (len0 cap0 : Nat) (z0 : List Int) (a1 a2 : Int) (w : World) (w0 : IsRow .u8 w a0 len0 cap0 z0) (w1 : (Lit.int .u16 a1).wf = true) (w2 : (Lit.int .u8 a2).wf = true) :
    Calls Try.prog 4 #[.slice a0 len0 cap0, .int .u16 a1, .int .u8 a2] w fun e w' => e = .returned (.bool true) ∧ Below w.heap.size w w' := by
  have r0 : Came w a0 len0 cap0 z0 := w0
  obtain ⟨h0, k0, m0⟩ := r0.bytes
  by_cases hn : len0 ≤ 80
  · have b1 := bounds_u16 w1
    obtain ⟨p, rfl⟩ : ∃ n : Nat, a1 = n := ⟨a1.toNat, by omega⟩
    obtain ⟨v, rfl, hv⟩ := int_nat a2 (by have := bounds_u8 w2; omega)
    exact core a0 len0 cap0 _ p v w h0 hn (by omega) hv
  · exact long a0 len0 cap0 a1 a2 w (by omega)

/-! ### THE ROW's STEP: WRITTEN OUT: LEAVE IT -/
set_option maxRecDepth 100000 in
theorem lifted (os : Os) (started : os.Started) (H : Type) (enc : TypeId × Value → H) :
    ReturnsInHanded {} Try.checked os 4 .any (Rows.sumTurnedSpec.pre6 enc Try.prog Try.f4 Rows.sumTurnedRow.domain false) (Rows.sumTurnedSpec.post enc Try.prog Try.f4 false true false false) := by
  refine returnsInHanded_of_change (C := Try.checked) own started (by kernel_rfl) Try.func4
    (ChangeSpec.witness6 (enc := enc) (C := Try.checked) false ⟨#[], #[.slice none 0 0, .int .u16 0, .int .u8 0], []⟩ 8 (by kernel_rfl) (by kernel_rfl) (by kernel_rfl) (by kernel_rfl)) ?_
  intro W base args ds gs before hval0 hW hcnd _
  have hval : ∀ (j : Nat) t v, Try.f4.params[j]? = some t → args[j]? = some v → Value.okWide Try.prog W .any base t v := hval0
  have hW' := hW
  obtain ⟨p, q, hA0, hV, rfl, hfz, hnd⟩ := hW
  have hA : DataW.TrodAll enc Try.prog W 0 (fun _ => true) true Try.f4.params.toList args.toList ds p := hA0
  rw [Try.params4] at hA hval
  obtain ⟨v0, vs0, d0, ds0, p0, q0, hargs, rfl, rfl, h0, r0⟩ := trodAll_cons hA
  obtain ⟨v1, vs1, d1, ds1, p1, q1, rfl, rfl, rfl, h1, r1⟩ := trodAll_cons r0
  obtain ⟨v2, vs2, d2, ds2, p2, q2, rfl, rfl, rfl, h2, r2⟩ := trodAll_cons r1
  obtain ⟨rfl, rfl, rfl⟩ := trodAll_nil r2
  obtain rfl : args = #[v0, v1, v2] := by cases args; simp_all
  obtain ⟨rfl, rfl⟩ := trodVars_none hV
  obtain ⟨a0, len0, cap0, rfl⟩ := okWide_slice Try.underlying22 (hval 0 22 v0 rfl rfl)
  have k0 := h0
  have lt0 : ∀ x ∈ p0, x.block < W.heap.size := by obtain ⟨m, hm⟩ := k0; exact DataW.trod_lt m _ _ _ hm
  obtain ⟨z0, w0⟩ : ∃ zs, IsRow .u8 W a0 len0 cap0 zs := by
    obtain ⟨fuel, hf⟩ := h0
    rcases open_ints Try.underlying22 Try.underlying5 (by kernel_rfl) hf with ⟨hcs, _⟩ | ⟨x, l, c, zs, hcs, _, hl, hm, hz, _, hcell, hwz⟩
    · simp [Value.cells] at hcs
      obtain ⟨rfl, rfl, rfl⟩ := hcs
      exact ⟨[], .inl ⟨rfl, rfl, rfl, rfl⟩⟩
    · simp [Value.cells] at hcs
      obtain ⟨rfl, rfl, rfl⟩ := hcs
      exact ⟨zs, .inr ⟨_, rfl, hl, hm, by simpa using hz, hcell, hwz⟩⟩
  obtain ⟨a1, rfl, rfl, rfl, w1⟩ := open_int Try.underlying30 (hval 1 30 v1 rfl rfl) h1
  obtain ⟨a2, rfl, rfl, rfl, w2⟩ := open_int Try.underlying5 (hval 2 5 v2 rfl rfl) h2
  clear hA0 hval0
  refine (walk a0 len0 cap0 z0 a1 a2 W w0 w1 w2).mono fun e W' ⟨he, bel⟩ => ?_
  subst he
  exact ⟨_, rfl, _, _, _, [], _, [], hW', trodAll_mk1 (shut_bool Try.underlying4 _), (trodAll_cons_mk (Below.trod laidOut (by kernel_rfl) (of_decide_eq_true (by kernel_rfl)) k0 bel lt0) (trodAll_cons_mk (shut_int Try.underlying30 w1) (trodAll_cons_mk (shut_int Try.underlying5 w2) trodAll_mk0))), rfl, bel.frame _, fun h => by cases h⟩

theorem over : Rows.sumTurnedRow.holds Try.pinned (OpenSpec.ofChange Rows.sumTurnedSpec) :=
  OpenClaim.holds_of_wide 4 Try.f4 rfl rfl rfl rfl rfl rfl rfl ⟨rfl, rfl, rfl, rfl, rfl⟩ rfl rfl rfl rfl rfl (by kernel_rfl) Try.func4 (by kernel_rfl)
    (of_decide_eq_true (by kernel_rfl)) (by unfold Func.isWrapper; first | (rw [if_pos (by decide +kernel)]; kernel_rfl) | (rw [if_neg (by decide +kernel)]; exact ⟨rfl, rfl⟩))
    (fun os started H enc _ => lifted os started H enc)

theorem proved : Rows.SumTurnedSaid := over
end Go.Proofs.Ytehednmbapgbeaa.sumTurned
namespace Go.Proofs.Ytehednmbapgbeaa
theorem sumTurned_holds : Rows.SumTurnedSaid := sumTurned.proved
#print axioms sumTurned_holds
end Go.Proofs.Ytehednmbapgbeaa
