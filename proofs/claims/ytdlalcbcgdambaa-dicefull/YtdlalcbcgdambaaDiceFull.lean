/-
  Package dice's rows are the same at each call, and the 64 more rows have the rank that the document's have: the call returns true for every frame and every byte (no condition).
-/
import Derived.Test.YtdlalcbcgdambaaRows
import Derived.WalkKit
import Derived.ProofKit
import Derived.OpenShut
import Derived.ShutString
import Derived.Test.YtdlalcbcgdambaaDrw
import Derived.Test.YtdlalcbcgdambaaRad
import Derived.ChangeOld
import Derived.Below
namespace Go.Proofs.Ytdlalcbcgdambaa.diceFull
open Go.ChangeShapes Go.WideShapes Go.ChangeAt Go.RowKit
open Go.ChangeMaps (open_string shut_string)
set_option linter.unusedVariables false      -- a walk need not use every 'w<i>' (that an integer argument fits its kind)

theorem own : ownKnob Try.prog.godebug = none := by kernel_rfl

open Go.Deep

/-- A symbol's row, and a nought behind it. -/
def vrow (f s k t : Nat) : Nat := if t < k then Dice.rowOf f s k t else 0
theorem vrow_byt (f s k : Nat) : Byt (vrow f s k) := fun t => by
  unfold vrow
  split
  · exact Dice.rowOf_lt _ _ _ _
  · decide
theorem vrow_rest (f s k : Nat) : (fun t => vrow f s k (k + t)) = fun _ => 0 := by
  funext t
  unfold vrow
  rw [if_neg (by omega)]
theorem vrow_bytes {w : World} {a : Option Addr} {f s k : Nat} (h : BytesAt w a k (Dice.rowOf f s k)) : BytesAt w a k (vrow f s k) := by
  have e : ∀ i, i < k → vrow f s k i = Dice.rowOf f s k i := fun i hi => if_pos hi
  refine ⟨fun hk => ?_, fun i hi => by rw [e i hi]; exact h.lt i hi⟩
  obtain ⟨b, o, e1, hc⟩ := h.cells hk
  exact ⟨b, o, e1, fun i hi => by rw [e i hi]; exact hc i hi⟩

/-- What a Basis holds: how many rows, which lead where, and the rows as they came. -/
structure Stt where
  d : Nat
  S : Nat → Option (Nat → Nat)
  V : Nat → Nat → Nat
/-- One row more. -/
def Stt.next (q : Stt) (k : Nat) (v : Nat → Nat) : Stt := if (addOf q.S k v).1 = true then ⟨q.d + 1, (addOf q.S k v).2, more q.V q.d v⟩ else q
/-- Behind n of the rows. -/
def stt (f k : Nat) : Nat → Stt
  | 0 => ⟨0, fun _ => none, fun _ _ => 0⟩
  | n + 1 => (stt f k n).next k (vrow f (k + n) k)
theorem stt_inv (f k n : Nat) : PInv k (stt f k n).d (stt f k n).S (stt f k n).V := by
  induction n with
  | zero => exact PInv.empty k _
  | succ n ih =>
    show PInv k ((stt f k n).next k _).d ((stt f k n).next k _).S ((stt f k n).next k _).V
    unfold Stt.next
    rcases ih.step (vrow_byt f (k + n) k) with ⟨e, -⟩ | ⟨S', e, h, -⟩
    · rw [e, if_neg (fun g => nomatch g)]; exact ih
    · rw [e, if_pos rfl]; exact h
theorem stt_le (f k n : Nat) : (stt f k n).d ≤ k := by
  rw [← (stt_inv f k n).rk]
  exact rankTo_le _ _
/-- Add, told by what the Basis holds. -/
theorem stt_add {w w' : World} {D R f k n : Nat} {e : Ending} (h : RAdded w D R k 1 (stt f k n).d (stt f k n).V (vrow f (k + n) k) e w') :
    (∃ b : Bool, e = .returned (.bool b)) ∧ RefAt w' D R k 1 (stt f k (n + 1)).d (stt f k (n + 1)).V ∧ Kept D w w' := by
  obtain ⟨m, Vr, T, st, hh, hk⟩ := h
  show _ ∧ RefAt w' D R k 1 ((stt f k n).next k _).d ((stt f k n).next k _).V ∧ _
  unfold Stt.next
  rcases (stt_inv f k n).step (vrow_byt f (k + n) k) with ⟨ea, hn⟩ | ⟨S', ea, -, hn⟩
  · have := hn m Vr T st
    rw [ea, if_neg (fun g => nomatch g)]
    rcases hh with ⟨-, rfl, hr⟩ | ⟨hlt, -⟩
    · exact ⟨⟨_, rfl⟩, hr, hk⟩
    · omega
  · have := hn m Vr T st
    rw [ea, if_pos rfl]
    rcases hh with ⟨hle, -⟩ | ⟨-, rfl, hr⟩
    · omega
    · exact ⟨⟨_, rfl⟩, hr, hk⟩

/-- The call of Add with a row that was made, and a nought. -/
theorem add_row {w : World} {D f k n c r : Nat} (h : RefAt w D 0 k 1 (stt f k n).d (stt f k n).V) (hB : BytesAt w (some ⟨r, 0, none⟩) k (Dice.rowOf f (k + n) k)) (k1 : 1 ≤ k) (k2 : k ≤ 32) :
    Calls Try.prog 11 #[.pointer (some ⟨D, 0, none⟩), .slice (some ⟨r, 0, none⟩) k c, .slice (some ⟨w.heap.size, 0, none⟩) 1 1] (w.alloc (.cells #[.int .u8 0] 5)) fun e w' =>
      (∃ b : Bool, e = .returned (.bool b)) ∧ RefAt w' D 0 k 1 (stt f k (n + 1)).d (stt f k (n + 1)).V ∧ Kept D w w' := by
  have b1 : Below w.heap.size w (w.alloc (.cells #[.int .u8 0] 5)) := (Below.refl _ _).alloc (Nat.le_refl _) _
  have B2 : BytesAt (w.alloc (.cells #[.int .u8 0] 5)) (some ⟨w.heap.size, 0, none⟩) 1 (fun t => vrow f (k + n) k (k + t)) := by
    rw [vrow_rest]
    exact bytes_one _ _ 0 (by decide) (by rw [World.cell?_alloc_at _ _ _ _ rfl]; rfl)
  have hl := stt_le f k n
  refine (radd_yes D 0 k 1 (stt f k n).d c 1 (stt f k n).V (vrow f (k + n) k) _ _ _ (h.grew b1) (vrow_bytes (hB.grew b1)) B2 (fun t ht => (stt_inv f k n).byt t ht) (vrow_byt _ _ _) k1 k2 (by decide) (by decide) (by omega) (by simp)).mono ?_
  intro e w' ha
  obtain ⟨h1, h2, h3⟩ := stt_add ha
  exact ⟨h1, h2, (Kept.of_below b1).trans h3⟩

set_option maxRecDepth 100000 in
set_option maxHeartbeats 1000000 in
theorem core (f n k : Nat) (w : World) (hf : f < 4294967296) (hn : n < 256) (hk : k = 1 + n % 12) :
    Calls Try.prog 6 #[.int .u32 (f : Int), .int .u8 (n : Int)] w fun e w' => e = .returned (.bool true) ∧ Below w.heap.size w w' := by
  have k1 : 1 ≤ k := by omega
  have k2 : k ≤ 12 := by omega
  have E0 : Hid (1 + (n : Int) % 12 = (k : Int)) := by show 1 + (n : Int) % 12 = (k : Int); omega
  go_enter Try.func6, Try.ntmps6
  go_wp2_with fail
  refine (begun3 _).mono ?_
  rintro e w0 ⟨rfl, b0⟩
  go_wp2_with fail
  rw [E0.out]
  clear E0 hk
  refine (rnew_yes k 1 0 _ k1 (by omega) (by decide) (by decide)).mono ?_
  rintro e w1 ⟨D, rfl, hD, RD, b1⟩
  have hD1 : w.heap.size ≤ D := Nat.le_trans b0.size hD
  have b1 := b0.trans (b1.mono b0.size)
  clear b0 hD
  go_wp2_with fail
  go_loopw [8] (fun i wr => ∃ s : Nat, k ≤ s ∧ s ≤ k + 64 ∧ i = .int .i64 s ∧ RefAt wr D 0 k 1 (stt f k (s - k)).d (stt f k (s - k)).V ∧ Below w.heap.size w wr) (fun i _ => (k + 64 - intOf i).toNat)
  case atStart => exact ⟨k, Nat.le_refl _, by omega, rfl, by rw [Nat.sub_self]; exact RD, b1⟩
  case round =>
    clear RD b1
    obtain ⟨s, s1, s2, rfl, R, b⟩ := hrel
    by_cases hs : s < k + 64
    · have i1 : (s : Int) < (k : Int) + 64 := by omega
      go_wp2_with fail
      refine (drow_yes f s k _ hf k1 (by omega) hs).mono ?_
      rintro e w2 ⟨r2, rfl, -, B2, b2⟩
      have R2 := R.grew b2
      have b2 := b.trans (b2.mono b.size)
      clear R b
      go_wp2_with fail
      refine (drow_yes f s k _ hf k1 (by omega) hs).mono ?_
      rintro e w3 ⟨r3, rfl, -, B3, b3⟩
      have R3 : Hid (RefAt w3 D 0 k 1 (stt f k (s - k)).d (stt f k (s - k)).V) := R2.grew b3
      have B2 := B2.grew b3
      have HB : Hid (Below w.heap.size w w3) := b2.trans (b3.mono b2.size)
      have e1 : (convert 24 9 (.slice (some ⟨r2, 0, none⟩) k k)).run Try.prog w3 = .ok (.string (strOf k (Dice.rowOf f s k))) w3 := conv_bytes _ k k _ _ B2
      have e2 : (convert 24 9 (.slice (some ⟨r3, 0, none⟩) k k)).run Try.prog w3 = .ok (.string (strOf k (Dice.rowOf f s k))) w3 := conv_bytes _ k k _ _ B3
      have HA : Hid _ := add_row (c := k) R3.out (by rw [show k + (s - k) = s by omega]; exact B2) k1 (by omega)
      clear R2 b2 B2 B3 b3
      generalize strOf k (Dice.rowOf f s k) = str at *
      go_wp2_with fail
      refine Calls.mono (Hid.out HA) ?_
      rintro e w4 ⟨⟨bb, rfl⟩, R4, K4⟩
      rw [show s - k + 1 = s + 1 - k by omega] at R4
      have H4 : Hid (RefAt w4 D 0 k 1 (stt f k (s + 1 - k)).d (stt f k (s + 1 - k)).V ∧ Below w.heap.size w w4) := ⟨R4, HB.out.trans (K4.below hD1 HB.out.size)⟩
      clear R3 HB HA R4 K4 e1 e2
      go_wp2
      go_roundw
      case rel => exact ⟨s + 1, by omega, by omega, by go_num, H4.out.1, H4.out.2⟩
      case measure => simp [intOf]; omega
    · have hse : s = k + 64 := by omega
      subst hse
      rw [show k + 64 - k = 64 by omega] at R
      obtain ⟨va, p1, p2, -⟩ := R.rows
      obtain ⟨ra, ca, rfl⟩ := p2.form
      have hDl : D < wr.heap.size := cell_lt p1
      have HB : Hid (Below w.heap.size w wr) := b
      clear hs s1 s2 R p2 b
      generalize wr = wo at *
      go_wp2_with fail
      refine (rnew_yes k 1 0 _ k1 (by omega) (by decide) (by decide)).mono ?_
      rintro e w5 ⟨E, rfl, hE, RE, b5⟩
      have hE1 : w.heap.size ≤ E := Nat.le_trans HB.out.size hE
      have hDE : D ≠ E := by omega
      have p5 : w5.cell? ⟨D, 2, none⟩ = some (.slice ra (stt f k 64).d ca) := (b5.cell (p := ⟨D, 2, none⟩) hDl).trans p1
      have b5 := HB.out.trans (b5.mono HB.out.size)
      clear HB hE p1 hDl
      go_wp2_with fail
      go_loopw [15] (fun i wr => ∃ s : Nat, k ≤ s ∧ s ≤ k + 64 ∧ i = .int .i64 s ∧ RefAt wr E 0 k 1 (stt f k (s - k)).d (stt f k (s - k)).V ∧ wr.cell? ⟨D, 2, none⟩ = some (.slice ra (stt f k 64).d ca) ∧ Below w.heap.size w wr) (fun i _ => (k + 64 - intOf i).toNat)
      case atStart => exact ⟨k, Nat.le_refl _, by omega, rfl, by rw [Nat.sub_self]; exact RE, p5, b5⟩
      case round =>
        clear RE b5 p5
        obtain ⟨s, s1, s2, rfl, R, p, b⟩ := hrel
        by_cases hs : s < k + 64
        · have i1 : (s : Int) < (k : Int) + 64 := by omega
          have HP : Hid (wr.cell? ⟨D, 2, none⟩ = some (.slice ra (stt f k 64).d ca)) := p
          clear p
          go_wp2_with fail
          refine (rrow_yes f s k _ hf k1 (by omega) hs).mono ?_
          rintro e w6 ⟨r6, rfl, -, B6, b6⟩
          have HA : Hid _ := add_row (c := k) (R.grew b6) (by rw [show k + (s - k) = s by omega]; exact B6) k1 (by omega)
          have P6 : Hid (w6.cell? ⟨D, 2, none⟩ = some (.slice ra (stt f k 64).d ca)) := (b6.cell (p := ⟨D, 2, none⟩) (cell_lt HP.out)).trans HP.out
          have HB : Hid (Below w.heap.size w w6) := b.trans (b6.mono b.size)
          clear R b B6 b6 HP
          go_wp2_with fail
          refine Calls.mono (Hid.out HA) ?_
          rintro e w7 ⟨⟨bb, rfl⟩, R7, K7⟩
          rw [show s - k + 1 = s + 1 - k by omega] at R7
          have H7 : Hid (RefAt w7 E 0 k 1 (stt f k (s + 1 - k)).d (stt f k (s + 1 - k)).V ∧ w7.cell? ⟨D, 2, none⟩ = some (.slice ra (stt f k 64).d ca) ∧ Below w.heap.size w w7) := ⟨R7, K7.cell P6.out hDE, HB.out.trans (K7.below hE1 HB.out.size)⟩
          clear HB HA R7 K7 P6
          go_wp2
          go_roundw
          case rel => exact ⟨s + 1, by omega, by omega, by go_num, H7.out.1, H7.out.2.1, H7.out.2.2⟩
          case measure => simp [intOf]; omega
        · have hse : s = k + 64 := by omega
          subst hse
          rw [show k + 64 - k = 64 by omega] at R
          obtain ⟨vb, q1, q2, -⟩ := R.rows
          obtain ⟨rb, cb, rfl⟩ := q2.form
          have HB : Hid (Below w.heap.size w wr) := b
          have hd : (stt f k 64).d ≤ 32 := Nat.le_trans (stt_le f k 64) (by omega)
          generalize (stt f k 64).d = d at *
          clear hs s1 s2 R q2 b
          go_wp2_with fail
          go_quiet (fail)
          go_wp2
          go_ret
          exact ⟨rfl, HB.out.trans (below_drews nq)⟩

theorem walk (a0 : Int) (a1 : Int) (w0 : (Lit.int .u32 a0).wf = true) (w1 : (Lit.int .u8 a1).wf = true) (w : World) :
    Calls Try.prog 6 #[.int .u32 a0, .int .u8 a1] w fun e w' => e = .returned (.bool true) ∧ Below w.heap.size w w' := by
  have b0 := bounds_u32 w0
  have b1 := bounds_u8 w1
  clear w0 w1
  obtain ⟨f, rfl⟩ : ∃ n : Nat, a0 = n := ⟨a0.toNat, by omega⟩
  obtain ⟨n, rfl⟩ : ∃ n : Nat, a1 = n := ⟨a1.toNat, by omega⟩
  exact core f n _ w (by omega) (by omega) rfl

/-! ### THE ROW's STEP: WRITTEN OUT: LEAVE IT -/
set_option maxRecDepth 100000 in
theorem lifted (os : Os) (started : os.Started) (H : Type) (enc : TypeId × Value → H) :
    ReturnsInHanded {} Try.checked os 6 .any (Rows.diceFullSpec.pre6 enc Try.prog Try.f6 Rows.diceFullRow.domain false) (Rows.diceFullSpec.post enc Try.prog Try.f6 false true false false) := by
  refine returnsInHanded_of_change (C := Try.checked) own started (by kernel_rfl) Try.func6
    (ChangeSpec.witness6 (enc := enc) (C := Try.checked) false ⟨#[], #[.int .u32 0, .int .u8 0], []⟩ 8 (by kernel_rfl) (by kernel_rfl) (by kernel_rfl) (by kernel_rfl)) ?_
  intro W base args ds gs before hval0 hW hcnd _
  have hval : ∀ (j : Nat) t v, Try.f6.params[j]? = some t → args[j]? = some v → Value.okWide Try.prog W .any base t v := hval0
  have hW' := hW
  obtain ⟨p, q, hA0, hV, rfl, hfz, hnd⟩ := hW
  have hA : DataW.TrodAll enc Try.prog W 0 (fun _ => true) true Try.f6.params.toList args.toList ds p := hA0
  rw [Try.params6] at hA hval
  obtain ⟨v0, vs0, d0, ds0, p0, q0, hargs, rfl, rfl, h0, r0⟩ := trodAll_cons hA
  obtain ⟨v1, vs1, d1, ds1, p1, q1, rfl, rfl, rfl, h1, r1⟩ := trodAll_cons r0
  obtain ⟨rfl, rfl, rfl⟩ := trodAll_nil r1
  obtain rfl : args = #[v0, v1] := by cases args; simp_all
  obtain ⟨rfl, rfl⟩ := trodVars_none hV
  obtain ⟨a0, rfl, rfl, rfl, w0⟩ := open_int Try.underlying22 (hval 0 22 v0 rfl rfl) h0
  obtain ⟨a1, rfl, rfl, rfl, w1⟩ := open_int Try.underlying5 (hval 1 5 v1 rfl rfl) h1
  clear hA0 hval0
  simp only [List.append_nil] at hW'
  refine (walk a0 a1 w0 w1 W).mono fun e W' ⟨he, hg⟩ => ?_
  subst he
  exact ⟨_, rfl, _, _, _, [], [], [], hW', (trodAll_cons_mk (shut_bool Try.underlying4 _) trodAll_mk0), (trodAll_cons_mk (shut_int Try.underlying22 w0) (trodAll_cons_mk (shut_int Try.underlying5 w1) trodAll_mk0)), rfl, hg.frame _, fun h => by cases h⟩

theorem over : Rows.diceFullRow.holds Try.pinned (OpenSpec.ofChange Rows.diceFullSpec) :=
  OpenClaim.holds_of_wide 6 Try.f6 rfl rfl rfl rfl rfl rfl rfl ⟨rfl, rfl, rfl, rfl, rfl⟩ rfl rfl rfl rfl rfl (by kernel_rfl) Try.func6 (by kernel_rfl)
    (of_decide_eq_true (by kernel_rfl)) (by unfold Func.isWrapper; first | (rw [if_pos (by decide +kernel)]; kernel_rfl) | (rw [if_neg (by decide +kernel)]; exact ⟨rfl, rfl⟩))
    (fun os started H enc _ => lifted os started H enc)

theorem proved : Rows.DiceFullSaid :=
  over
end Go.Proofs.Ytdlalcbcgdambaa.diceFull
namespace Go.Proofs.Ytdlalcbcgdambaa
theorem diceFull_holds : Rows.DiceFullSaid := diceFull.proved
#print axioms diceFull_holds
end Go.Proofs.Ytdlalcbcgdambaa
