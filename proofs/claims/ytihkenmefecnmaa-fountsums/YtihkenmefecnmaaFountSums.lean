/-
  Of what is unlike in two texts the symbols are what is unlike in theirs: the call returns true for every frame, all bytes and every byte (no condition).
-/
import Derived.Test.YtihkenmefecnmaaRows
import Derived.WalkKit
import Derived.ProofKit
import Derived.OpenShut
import Derived.ShutString
import Derived.ChangeOld
import Derived.Below
import Derived.Test.YtihkenmefecnmaaFbg
import Derived.Test.YtihkenmefecnmaaFma
namespace Go.Proofs.Ytihkenmefecnmaa.fountSums
open Go.ChangeShapes Go.WideShapes Go.ChangeAt Go.RowKit
open Go.ChangeMaps (open_string shut_string)
set_option linter.unusedVariables false

theorem own : ownKnob Try.prog.godebug = none := by kernel_rfl
theorem laidOut : laidOutB Try.prog = true := by kernel_rfl

/-- WHAT THE WALK IS TOLD OF A SLICE OF INTEGERS THAT CAME IN: it is nil; or it leads to a row of 'cap' cells, the numbers 'zs' (the first 'len' are its elements, the rest its spare room), each fitting its kind. -/
def IsRow (k : IntKind) (w : World) (a : Option Addr) (len cap : Nat) (zs : List Int) : Prop :=
  (a = none ∧ len = 0 ∧ cap = 0 ∧ zs = []) ∨
  ∃ x, a = some x ∧ len ≤ cap ∧ cap ≤ maxLen ∧ zs.length = cap ∧ (∀ i, i < zs.length → w.cell? (x.add i) = some (.int k (zs.getD i 0))) ∧ ∀ n ∈ zs, (Lit.int k n).wf = true

open Go.Deep

theorem min3 (ts : Array TypeId) (t : TypeId) (x y z N : Int) (w : World) (h : min (min x y) z = N) : (Builtin.min_ ts t #[.int .i64 x, .int .i64 y, .int .i64 z]).run Try.prog w = .ok (.int .i64 N) w := by
  subst h
  simp [Builtin.min_, Builtin.min2]
  repeat' split
  all_goals omega

/-- The first k places of what is unlike in two rows. -/
def xorTo (x y : Nat → Nat) (k i : Nat) : Nat := if i < k then x i ^^^ y i else 0
theorem xorTo_step {w : World} {B t K k : Nat} {x y : Nat → Nat} (h : w.rowIs B t K (byteAt (xorTo x y k))) : (w.setCell ⟨B, k, none⟩ (.int .u8 ((x k ^^^ y k : Nat) : Int))).rowIs B t K (byteAt (xorTo x y (k + 1))) := by
  refine (h.set k _).congr fun i _ => ?_
  unfold byteAt xorTo
  by_cases e : i = k
  · subst e; simp
  · by_cases g : i < k
    · simp [e, g, show i < k + 1 by omega]
    · simp [e, g, show ¬ i < k + 1 by omega]

set_option maxRecDepth 100000 in
set_option maxHeartbeats 400000 in
theorem none' (f : Int) (a0 a1 : Option Addr) (l0 c0 l1 c1 z : Nat) (w : World) (h : l0 = 0 ∨ l1 = 0) (hz : z < 256) :
    Calls Try.prog 5 #[.int .u32 f, .slice a0 l0 c0, .slice a1 l1 c1, .int .u8 (z : Int)] w fun e w' => e = .returned (.bool true) ∧ Below w.heap.size w w' := by
  have hmin := fun ts t w => min3 ts t (l0 : Int) (l1 : Int) 60 0 w (by omega)
  go_enter Try.func5, Try.ntmps5
  go_wp2_with fail
  refine (begun5 _).mono ?_
  rintro e w0 ⟨rfl, b0⟩
  have HB : Hid (Below w.heap.size w w0) := b0
  clear b0 h
  go_wp2
  go_ret
  exact ⟨rfl, HB.out⟩

set_option maxRecDepth 100000 in
set_option maxHeartbeats 2000000 in
theorem core (f : Nat) (a0 a1 : Option Addr) (l0 c0 l1 c1 z N k : Nat) (x y : Nat → Nat) (w : World) (hx : BytesAt w a0 l0 x) (hy : BytesAt w a1 l1 y) (k0 : l0 ≤ c0) (k1 : l1 ≤ c1) (hf : f < 4294967296) (hz : z < 256) (n1 : 1 ≤ N) (hN : N = min (min l0 l1) 60) (hk : k = cntOf N 5) :
    Calls Try.prog 5 #[.int .u32 (f : Int), .slice a0 l0 c0, .slice a1 l1 c1, .int .u8 (z : Int)] w fun e w' => e = .returned (.bool true) ∧ Below w.heap.size w w' := by
  have n60 : N ≤ 60 := by omega
  have hmin := fun ts t w => min3 ts t (l0 : Int) (l1 : Int) 60 (N : Int) w (by omega)
  have hs0 := fun w => slice_to a0 l0 c0 N w (by omega)
  have hs1 := fun w => slice_to a1 l1 c1 N w (by omega)
  have HX : Hid (BytesAt w a0 N x) := hx.take (by omega)
  have HY : Hid (BytesAt w a1 N y) := hy.take (by omega)
  have lx := HX.out.lt
  have ly := HY.out.lt
  have g0 : N ≤ c0 := by omega
  have g1 : N ≤ c1 := by omega
  have i0 : ((N : Int) == 0) = false := by simp; omega
  have HL : Hid (N ≤ l0 ∧ N ≤ l1) := ⟨by omega, by omega⟩
  have HK : Hid (k = cntOf N 5) := hk
  have hmk := run_make_row' (P := Try.prog) 23 5 (.int .u8 0) 1 Try.underlying23 Try.infoByte rfl .i64 .i64 N (by omega) (by omega)
  clear hN hx hy hk k0 k1
  go_enter Try.func5, Try.ntmps5
  go_wp2_with fail
  refine (begun5 _).mono ?_
  rintro e w0 ⟨rfl, b0⟩
  have HB0 : Hid (Below w.heap.size w w0) := b0
  clear b0
  go_wp2_with fail
  clear hmk hmin
  go_loopw [11] (fun i wr => ∃ j : Nat, j ≤ N ∧ i = .int .i64 j ∧ wr.rowIs w0.heap.size 5 N (byteAt (xorTo x y j)) ∧ Below w0.heap.size w0 wr) (fun i _ => N - (intOf i).toNat)
  case atStart => exact ⟨0, Nat.zero_le _, rfl, (World.rowIs_made w0 _ N _).congr fun i _ => by unfold byteAt xorTo; rw [if_neg (by omega)]; rfl, (Below.refl _ _).alloc (Nat.le_refl _) _⟩
  case round =>
    obtain ⟨j, hj, rfl, hrow, hb⟩ := hrel
    have HR : Hid (wr.rowIs w0.heap.size 5 N (byteAt (xorTo x y j))) := hrow
    have HB : Hid (Below w0.heap.size w0 wr) := hb
    have HW : Hid (Below w.heap.size w wr) := HB0.out.trans (hb.mono HB0.out.size)
    clear hrow hb
    by_cases hjN : j < N
    · have i1 : (j : Int) < (N : Int) := by omega
      have X1 := HX.out.below HW.out (Nat.le_refl _)
      have Y1 := HY.out.below HW.out (Nat.le_refl _)
      obtain ⟨b1, o1, rfl⟩ := bytes_some X1 (by omega)
      obtain ⟨b2, o2, rfl⟩ := bytes_some Y1 (by omega)
      have c1 := bytes_cell X1 j hjN
      have c2 := bytes_cell Y1 j hjN
      have c3 := HR.out.cell hjN
      have f3 := HR.out.frozen j
      have i2 : (j : Int) < (l0 : Int) := by have := HL.out.1; omega
      have i3 : (j : Int) < (l1 : Int) := by have := HL.out.2; omega
      have hxx : bits .xor .u8 (x j : Int) (y j : Int) = ((x j ^^^ y j : Nat) : Int) := u8_xor_nat _ _ (lx j hjN) (ly j hjN)
      have HR2 : Hid ((wr.setCell ⟨w0.heap.size, j, none⟩ (.int .u8 ((x j ^^^ y j : Nat) : Int))).rowIs w0.heap.size 5 N (byteAt (xorTo x y (j + 1)))) := xorTo_step HR.out
      have HB2 : Hid (Below w0.heap.size w0 (wr.setCell ⟨w0.heap.size, j, none⟩ (.int .u8 ((x j ^^^ y j : Nat) : Int)))) := HB.out.setCell (Nat.le_refl _) _
      clear X1 Y1 HR HB HW lx ly hs0 hs1
      generalize x j ^^^ y j = v at *
      generalize x j = v1 at *
      generalize y j = v2 at *
      go_wp2_with fail
      go_region
      go_wp2
      go_roundw
      case rel => exact ⟨j + 1, by omega, by go_num, HR2.out, HB2.out.trans (below_drews 1)⟩
      case measure => simp [intOf]; omega
    · obtain rfl : j = N := by omega
      clear hjN hj
      have Z1 : BytesAt wr (some ⟨w0.heap.size, 0, none⟩) j (xorTo x y j) := row_bytes' HR.out (fun _ _ => rfl) (fun i hi => by unfold xorTo; rw [if_pos hi]; exact Gf.xor_lt _ _ (lx i hi) (ly i hi))
      have HZ : Hid (∀ i, symOf f x j 5 (z % 70) i ^^^ symOf f y j 5 (z % 70) i = symOf f (xorTo x y j) j 5 (z % 70) i) := fun i => symOf_xor _ _ _ _ _ _ _ _ (fun _ _ => Dice.rowOf_lt _ _ _ _) lx ly (fun l hl => if_pos hl)
      have E0 : Hid ((z : Int) % 70 = ((z % 70 : Nat) : Int)) := by show _ = _; omega
      clear lx ly HR HB
      go_wp2_with fail
      refine (new_any _).mono ?_
      rintro e w1 ⟨rfl, b1, F1, -⟩
      have B1 := HW.out.trans (b1.mono HW.out.size)
      have X1 := HX.out.below B1 (Nat.le_refl _)
      have Y1 := HY.out.below B1 (Nat.le_refl _)
      have Z1 := Z1.grew b1
      clear HX HY HW HB0 b1
      generalize wr.heap.size = p at *
      generalize w0.heap.size = g at *
      by_cases hid : z % 70 < k + 64
      · go_wp2_with fail
        refine (symbol_is p f (z % 70) _ a0 j c0 5 k x _ (by omega) F1 X1 g0 hf (by decide) (by decide) n1 (by omega) HK.out hid).mono ?_
        rintro e w2 ⟨r1, rfl, -, R1, b2⟩
        have B2 := B1.trans (b2.mono B1.size)
        have F2 := F1.below b2 F1.lt
        have Y2 := Y1.grew b2
        have Z2 := Z1.grew b2
        clear B1 F1 Y1 Z1 X1 b2
        go_wp2_with fail
        refine (symbol_is p f (z % 70) _ a1 j c1 5 k y _ (by omega) F2 Y2 g1 hf (by decide) (by decide) n1 (by omega) HK.out hid).mono ?_
        rintro e w3 ⟨r2, rfl, -, R2, b3⟩
        have B3 := B2.trans (b3.mono B2.size)
        have F3 := F2.below b3 F2.lt
        have Z3 := Z2.grew b3
        have R1 := R1.grew b3
        clear B2 F2 Y2 Z2 b3
        go_wp2_with fail
        refine (symbol_is p f (z % 70) _ (some ⟨g, 0, none⟩) j j 5 k (xorTo x y j) _ (by omega) F3 Z3 (Nat.le_refl _) hf (by decide) (by decide) n1 (by omega) HK.out hid).mono ?_
        rintro e w4 ⟨r3, rfl, -, R3, b4⟩
        have HB4 : Hid (Below w.heap.size w w4) := B3.trans (b4.mono B3.size)
        have HR1 : Hid (BytesAt w4 (some ⟨r1, 0, none⟩) 5 (symOf f x j 5 (z % 70))) := R1.grew b4
        have HR2 : Hid (BytesAt w4 (some ⟨r2, 0, none⟩) 5 (symOf f y j 5 (z % 70))) := R2.grew b4
        have HR3 : Hid (BytesAt w4 (some ⟨r3, 0, none⟩) 5 (symOf f (xorTo x y j) j 5 (z % 70))) := R3
        clear B3 F3 Z3 R1 R2 R3 b4 hs0 hs1 E0 hid
        generalize symOf f x j 5 (z % 70) = s1 at *
        generalize symOf f y j 5 (z % 70) = s2 at *
        generalize symOf f (xorTo x y j) j 5 (z % 70) = s3 at *
        go_wp2_with fail
        go_loopw [19] (fun i wi => ∃ t : Nat, t ≤ 5 ∧ i = .int .i64 t ∧ Same w4 wi) (fun i _ => 5 - (intOf i).toNat)
        case atStart => exact ⟨0, Nat.zero_le _, rfl, Same.refl _⟩
        case round =>
          obtain ⟨t, ht, rfl, hq⟩ := hrel
          by_cases ht5 : t < 5
          · have i1 : (t : Int) < 5 := by omega
            have c1 := bytes_cell (hq.bytes HR1.out) t ht5
            have c2 := bytes_cell (hq.bytes HR2.out) t ht5
            have c3 := bytes_cell (hq.bytes HR3.out) t ht5
            rw [Nat.zero_add] at c1 c2 c3
            have hxx : bits .xor .u8 (s1 t : Int) (s2 t : Int) = ((s3 t : Nat) : Int) := by rw [u8_xor_nat _ _ (HR1.out.lt t ht5) (HR2.out.lt t ht5), HZ.out t]
            have HQ : Hid (Same w4 wr) := hq
            clear hq HZ
            generalize s1 t = v1 at *
            generalize s2 t = v2 at *
            generalize s3 t = v3 at *
            go_wp2_with fail
            go_region
            go_wp2
            go_roundw
            case rel => exact ⟨t + 1, by omega, by go_num, HQ.out.trans ⟨1, rfl⟩⟩
            case measure => simp [intOf]; omega
          · obtain rfl : t = 5 := by omega
            have HB5 : Hid (Below w.heap.size w wr) := HB4.out.trans (hq.below _)
            clear hq ht5 ht
            go_wp2
            go_ret
            exact ⟨rfl, HB5.out⟩
      · go_wp2_with fail
        refine (symbol_dice p f _ a0 j c0 5 k x _ F1 X1 g0 (by decide) (by decide) n1 (by omega) HK.out (by omega)).mono ?_
        rintro e w2 ⟨rfl, b2⟩
        have B2 := B1.trans (b2.mono B1.size)
        have F2 := F1.below b2 F1.lt
        have Y2 := Y1.grew b2
        have Z2 := Z1.grew b2
        clear B1 F1 Y1 Z1 X1 b2
        go_wp2_with fail
        refine (symbol_dice p f _ a1 j c1 5 k y _ F2 Y2 g1 (by decide) (by decide) n1 (by omega) HK.out (by omega)).mono ?_
        rintro e w3 ⟨rfl, b3⟩
        have B3 := B2.trans (b3.mono B2.size)
        have F3 := F2.below b3 F2.lt
        have Z3 := Z2.grew b3
        clear B2 F2 Y2 Z2 b3
        go_wp2_with fail
        refine (symbol_dice p f _ (some ⟨g, 0, none⟩) j j 5 k (xorTo x y j) _ F3 Z3 (Nat.le_refl _) (by decide) (by decide) n1 (by omega) HK.out (by omega)).mono ?_
        rintro e w4 ⟨rfl, b4⟩
        have HB4 : Hid (Below w.heap.size w w4) := B3.trans (b4.mono B3.size)
        clear B3 F3 Z3 b4 hs0 hs1 E0 hid HZ
        go_wp2_with fail
        go_loopw [19] (fun i wi => i = .int .i64 0 ∧ wi = w4) (fun i _ => 0)
        case atStart => exact ⟨rfl, rfl⟩
        case round =>
          obtain ⟨rfl, hq⟩ := hrel
          subst wr
          go_wp2
          go_ret
          exact ⟨rfl, HB4.out⟩

theorem walk (a0 : Int) (a1 : Option Addr) (len1 cap1 : Nat) (z1 : List Int) (a2 : Option Addr) (len2 cap2 : Nat) (z2 : List Int) (a3 : Int) (w : World) (w0 : (Lit.int .u32 a0).wf = true) (w1 : IsRow .u8 w a1 len1 cap1 z1) (w2 : IsRow .u8 w a2 len2 cap2 z2) (w3 : (Lit.int .u8 a3).wf = true) :
    Calls Try.prog 5 #[.int .u32 a0, .slice a1 len1 cap1, .slice a2 len2 cap2, .int .u8 a3] w fun e w' => e = .returned (.bool true) ∧ Below w.heap.size w w' := by
  have b0 := bounds_u32 w0
  obtain ⟨f, rfl⟩ : ∃ n : Nat, a0 = n := ⟨a0.toNat, by omega⟩
  obtain ⟨z, rfl, hz⟩ := int_nat a3 (by have := bounds_u8 w3; omega)
  have r1 : Came w a1 len1 cap1 z1 := w1
  have r2 : Came w a2 len2 cap2 z2 := w2
  obtain ⟨h1, k1, m1⟩ := r1.bytes
  obtain ⟨h2, k2, m2⟩ := r2.bytes
  by_cases hl : 1 ≤ len1 ∧ 1 ≤ len2
  · exact core f a1 a2 len1 cap1 len2 cap2 z _ _ _ _ w h1 h2 k1 k2 (by omega) hz (by omega) rfl rfl
  · exact none' f a1 a2 len1 cap1 len2 cap2 z w (by omega) hz

/-! ### THE ROW's STEP: WRITTEN OUT: LEAVE IT -/
set_option maxRecDepth 100000 in
theorem lifted (os : Os) (started : os.Started) (H : Type) (enc : TypeId × Value → H) :
    ReturnsInHanded {} Try.checked os 5 .any (Rows.fountSumsSpec.pre6 enc Try.prog Try.f5 Rows.fountSumsRow.domain false) (Rows.fountSumsSpec.post enc Try.prog Try.f5 false true false false) := by
  refine returnsInHanded_of_change (C := Try.checked) own started (by kernel_rfl) Try.func5
    (ChangeSpec.witness6 (enc := enc) (C := Try.checked) false ⟨#[], #[.int .u32 0, .slice none 0 0, .slice none 0 0, .int .u8 0], []⟩ 8 (by kernel_rfl) (by kernel_rfl) (by kernel_rfl) (by kernel_rfl)) ?_
  intro W base args ds gs before hval0 hW hcnd _
  have hval : ∀ (j : Nat) t v, Try.f5.params[j]? = some t → args[j]? = some v → Value.okWide Try.prog W .any base t v := hval0
  have hW' := hW
  obtain ⟨p, q, hA0, hV, rfl, hfz, hnd⟩ := hW
  have hA : DataW.TrodAll enc Try.prog W 0 (fun _ => true) true Try.f5.params.toList args.toList ds p := hA0
  rw [Try.params5] at hA hval
  obtain ⟨v0, vs0, d0, ds0, p0, q0, hargs, rfl, rfl, h0, r0⟩ := trodAll_cons hA
  obtain ⟨v1, vs1, d1, ds1, p1, q1, rfl, rfl, rfl, h1, r1⟩ := trodAll_cons r0
  obtain ⟨v2, vs2, d2, ds2, p2, q2, rfl, rfl, rfl, h2, r2⟩ := trodAll_cons r1
  obtain ⟨v3, vs3, d3, ds3, p3, q3, rfl, rfl, rfl, h3, r3⟩ := trodAll_cons r2
  obtain ⟨rfl, rfl, rfl⟩ := trodAll_nil r3
  obtain rfl : args = #[v0, v1, v2, v3] := by cases args; simp_all
  obtain ⟨rfl, rfl⟩ := trodVars_none hV
  obtain ⟨a0, rfl, rfl, rfl, w0⟩ := open_int Try.underlying22 (hval 0 22 v0 rfl rfl) h0
  obtain ⟨a1, len1, cap1, rfl⟩ := okWide_slice Try.underlying23 (hval 1 23 v1 rfl rfl)
  have k1 := h1
  have lt1 : ∀ x ∈ p1, x.block < W.heap.size := by obtain ⟨m, hm⟩ := k1; exact DataW.trod_lt m _ _ _ hm
  obtain ⟨z1, w1⟩ : ∃ zs, IsRow .u8 W a1 len1 cap1 zs := by
    obtain ⟨fuel, hf⟩ := h1
    rcases open_ints Try.underlying23 Try.underlying5 (by kernel_rfl) hf with ⟨hcs, _⟩ | ⟨x, l, c, zs, hcs, _, hl, hm, hz, _, hcell, hwz⟩
    · simp [Value.cells] at hcs
      obtain ⟨rfl, rfl, rfl⟩ := hcs
      exact ⟨[], .inl ⟨rfl, rfl, rfl, rfl⟩⟩
    · simp [Value.cells] at hcs
      obtain ⟨rfl, rfl, rfl⟩ := hcs
      exact ⟨zs, .inr ⟨_, rfl, hl, hm, by simpa using hz, hcell, hwz⟩⟩
  obtain ⟨a2, len2, cap2, rfl⟩ := okWide_slice Try.underlying23 (hval 2 23 v2 rfl rfl)
  have k2 := h2
  have lt2 : ∀ x ∈ p2, x.block < W.heap.size := by obtain ⟨m, hm⟩ := k2; exact DataW.trod_lt m _ _ _ hm
  obtain ⟨z2, w2⟩ : ∃ zs, IsRow .u8 W a2 len2 cap2 zs := by
    obtain ⟨fuel, hf⟩ := h2
    rcases open_ints Try.underlying23 Try.underlying5 (by kernel_rfl) hf with ⟨hcs, _⟩ | ⟨x, l, c, zs, hcs, _, hl, hm, hz, _, hcell, hwz⟩
    · simp [Value.cells] at hcs
      obtain ⟨rfl, rfl, rfl⟩ := hcs
      exact ⟨[], .inl ⟨rfl, rfl, rfl, rfl⟩⟩
    · simp [Value.cells] at hcs
      obtain ⟨rfl, rfl, rfl⟩ := hcs
      exact ⟨zs, .inr ⟨_, rfl, hl, hm, by simpa using hz, hcell, hwz⟩⟩
  obtain ⟨a3, rfl, rfl, rfl, w3⟩ := open_int Try.underlying5 (hval 3 5 v3 rfl rfl) h3
  clear hA0 hval0
  refine (walk a0 a1 len1 cap1 z1 a2 len2 cap2 z2 a3 W w0 w1 w2 w3).mono fun e W' ⟨he, bel⟩ => ?_
  subst he
  exact ⟨_, rfl, _, _, _, [], _, [], hW', trodAll_mk1 (shut_bool Try.underlying4 _), (trodAll_cons_mk (shut_int Try.underlying22 w0) (trodAll_cons_mk (Below.trod laidOut (by kernel_rfl) (of_decide_eq_true (by kernel_rfl)) k1 bel lt1) (trodAll_cons_mk (Below.trod laidOut (by kernel_rfl) (of_decide_eq_true (by kernel_rfl)) k2 bel lt2) (trodAll_cons_mk (shut_int Try.underlying5 w3) trodAll_mk0)))), rfl, bel.frame _, fun h => by cases h⟩

theorem over : Rows.fountSumsRow.holds Try.pinned (OpenSpec.ofChange Rows.fountSumsSpec) :=
  OpenClaim.holds_of_wide 5 Try.f5 rfl rfl rfl rfl rfl rfl rfl ⟨rfl, rfl, rfl, rfl, rfl⟩ rfl rfl rfl rfl rfl (by kernel_rfl) Try.func5 (by kernel_rfl)
    (of_decide_eq_true (by kernel_rfl)) (by unfold Func.isWrapper; first | (rw [if_pos (by decide +kernel)]; kernel_rfl) | (rw [if_neg (by decide +kernel)]; exact ⟨rfl, rfl⟩))
    (fun os started H enc _ => lifted os started H enc)

theorem proved : Rows.FountSumsSaid := over
end Go.Proofs.Ytihkenmefecnmaa.fountSums
namespace Go.Proofs.Ytihkenmefecnmaa
theorem fountSums_holds : Rows.FountSumsSaid := fountSums.proved
#print axioms fountSums_holds
end Go.Proofs.Ytihkenmefecnmaa
