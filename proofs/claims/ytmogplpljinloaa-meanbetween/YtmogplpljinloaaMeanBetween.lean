/-
  What is lost on the whole lies between what was looked at, and comes near to what is looked at for long: the call returns true, whatever the looks are (at most 20 looks, then 120 times the same; no condition).
-/
import Derived.Test.YtmogplpljinloaaRows
import Derived.WalkKit
import Derived.ProofKit
import Derived.OpenShut
import Derived.ShutString
import Derived.ChangeOld
import Derived.Below
import Derived.Test.YtmogplpljinloaaMn2
import Derived.Test.YtmogplpljinloaaNms
import Derived.Deep.RegionHeld
import Derived.Deep.RegionHeld3
namespace Go.Proofs.Ytmogplpljinloaa.meanBetween
open Go.ChangeShapes Go.WideShapes Go.ChangeAt Go.RowKit
open Go.ChangeMaps (open_string shut_string)
set_option linter.unusedVariables false

theorem own : ownKnob Try.prog.godebug = none := by kernel_rfl
theorem laidOut : laidOutB Try.prog = true := by kernel_rfl

/-- WHAT THE WALK IS TOLD OF A SLICE OF INTEGERS THAT CAME IN: it is nil; or it leads to a row of 'cap' cells, the numbers 'zs' (the first 'len' are its elements, the rest its spare room), each fitting its kind. -/
def IsRow (k : IntKind) (w : World) (a : Option Addr) (len cap : Nat) (zs : List Int) : Prop :=
  (a = none ∧ len = 0 ∧ cap = 0 ∧ zs = []) ∨
  ∃ x, a = some x ∧ len ≤ cap ∧ cap ≤ maxLen ∧ zs.length = cap ∧ (∀ i, i < zs.length → w.cell? (x.add i) = some (.int k (zs.getD i 0))) ∧ ∀ n ∈ zs, (Lit.int k n).wf = true

open Go.Deep

/-- What the numbers of one look come to where they are of 16 bits. -/
theorem look16 {l g : Nat} (hl : l < 65536) (hg : g < 65536) :
    ∃ P S Q : Nat, S = l + g ∧ Q = Mn.look l g ∧ Q ≤ 65536 ∧ IntKind.u32.wrap (l : Int) = l ∧ IntKind.u32.wrap (g : Int) = g ∧ IntKind.i64.wrap (l : Int) = l ∧ IntKind.i64.wrap (g : Int) = g ∧ (l : Int) * 65536 = (P : Int) ∧ IntKind.i64.wrap (P : Int) = P ∧ (l : Int) + (g : Int) = (S : Int) ∧ IntKind.i64.wrap (S : Int) = S ∧ (P : Int).tdiv (S : Int) = Q ∧ (P : Int) / (S : Int) = Q ∧ IntKind.i64.wrap (Q : Int) = Q := by
  have hq := Mn.look_le l g
  have hd : ((l * 65536 : Nat) : Int) / ((l + g : Nat) : Int) = (Mn.look l g : Int) := (Int.natCast_ediv _ _).symm
  refine ⟨l * 65536, _, _, rfl, rfl, hq, ?_, ?_, ?_, ?_, by omega, ?_, by omega, ?_, ?_, hd, ?_⟩
  · simp [IntKind.wrap, IntKind.bits, IntKind.signed]; omega
  · simp [IntKind.wrap, IntKind.bits, IntKind.signed]; omega
  · simp [IntKind.wrap, IntKind.bits, IntKind.signed]; omega
  · simp [IntKind.wrap, IntKind.bits, IntKind.signed]; omega
  · simp only [IntKind.wrap, IntKind.bits, IntKind.signed]; simp; omega
  · simp only [IntKind.wrap, IntKind.bits, IntKind.signed]; simp; omega
  · rw [Int.tdiv_eq_ediv_of_nonneg (by omega)]; exact hd
  · simp [IntKind.wrap, IntKind.bits, IntKind.signed]; omega
theorem max_two (ts : Array TypeId) (t : TypeId) (x y z : Nat) (w : World) (h : max x y = z) : (Builtin.max_ ts t #[.int .i64 (x : Int), .int .i64 (y : Int)]).run Try.prog w = .ok (.int .i64 (z : Int)) w := by
  subst h
  simp [Builtin.max_, Builtin.max2]
  split <;> omega
theorem min_two (ts : Array TypeId) (t : TypeId) (x y z : Nat) (w : World) (h : min x y = z) : (Builtin.min_ ts t #[.int .i64 (x : Int), .int .i64 (y : Int)]).run Try.prog w = .ok (.int .i64 (z : Int)) w := by
  subst h
  simp [Builtin.min_, Builtin.min2]
  split <;> omega
/-- Both are nought, or the first is not, or only the second is not. -/
theorem ways (p q : Nat) : ((p : Int) == 0) = true ∧ ((q : Int) == 0) = true ∧ p + q = 0 ∨ ((p : Int) == 0) = false ∧ Hid (0 < p + q) ∨ ((p : Int) == 0) = true ∧ ((q : Int) == 0) = false ∧ Hid (0 < p + q) := by
  by_cases hp : p = 0
  · by_cases hq : q = 0
    · exact Or.inl ⟨by simp; omega, by simp; omega, by omega⟩
    · exact Or.inr (Or.inr ⟨by simp; omega, by simp; omega, (by omega : 0 < p + q)⟩)
  · exact Or.inr (Or.inl ⟨by simp; omega, (by omega : 0 < p + q)⟩)
/-- The value v lies between lo and hi, if there was a look at all. -/
def Lies (t : Bool) (v lo hi : Nat) : Prop := t = true → lo ≤ v ∧ v ≤ hi
theorem lies_next {t : Bool} {v lo hi l g : Nat} (h : Lies t v lo hi) (h0 : 0 < l + g) :
    min lo (Mn.look l g) ≤ Mn.val t v l g ∧ Mn.val t v l g ≤ max hi (Mn.look l g) := by
  cases t
  · rw [Mn.val_first h0]
    omega
  · rw [Mn.val_next h0]
    obtain ⟨h1, h2⟩ := h rfl
    omega
/-- How far the value may be from the look behind i looks of the same. -/
def gap : Nat → Nat
  | 0 => 65536
  | i + 1 => (7 * gap i + 7) / 8
set_option maxRecDepth 100000 in
theorem gap_end : gap 120 < 8 := by decide
/-- The value v is no further than that from L. -/
def Near (i v L : Nat) : Prop := v ≤ L + gap i ∧ L ≤ v + gap i
theorem near_next {i v l g : Nat} (t : Bool) (h : Near i v (Mn.look l g)) (h0 : 0 < l + g) : Near (i + 1) (Mn.val t v l g) (Mn.look l g) := by
  obtain ⟨h1, h2⟩ := h
  unfold Near
  rw [show gap (i + 1) = (7 * gap i + 7) / 8 from rfl]
  cases t
  · rw [Mn.val_first h0]
    omega
  · rw [Mn.val_next h0]
    omega

set_option maxRecDepth 100000 in
set_option maxHeartbeats 400000 in
theorem long (a0 a1 : Option Addr) (n m ca cb : Nat) (v2 v3 : Value) (w : World) (hn : 20 < n ∨ m < n) :
    Calls Try.prog 4 #[.slice a0 n ca, .slice a1 m cb, v2, v3] w fun e w' => e = .returned (.bool true) ∧ Below w.heap.size w w' := by
  by_cases h20 : 20 < n
  · have i20 : (20 : Int) < (n : Int) := by omega
    go_enter Try.func4, Try.ntmps4
    go_wp2_with fail
    refine (begun17 _).mono ?_
    rintro e w0 ⟨rfl, b0⟩
    go_wp2
    go_ret
    exact ⟨rfl, b0⟩
  · have i20 : decide ((20 : Int) < (n : Int)) = false := by simp; omega
    have imn : (m : Int) < (n : Int) := by omega
    go_enter Try.func4, Try.ntmps4
    go_wp2_with fail
    refine (begun17 _).mono ?_
    rintro e w0 ⟨rfl, b0⟩
    go_wp2
    go_ret
    exact ⟨rfl, b0⟩

set_option maxRecDepth 100000 in
set_option maxHeartbeats 2000000 in
theorem core (a0 a1 : Option Addr) (n m ca cb A B : Nat) (x y : Nat → Nat) (w : World) (hx : NumsAt .u16 w a0 n (fun i => (x i : Int))) (hy : NumsAt .u16 w a1 m (fun i => (y i : Int))) (hn : n ≤ 20) (hm : n ≤ m) (hrx : ∀ i, x i < 65536) (hry : ∀ i, y i < 65536) (hA : A < 65536) (hB : B < 65536) :
    Calls Try.prog 4 #[.slice a0 n ca, .slice a1 m cb, .int .u16 (A : Int), .int .u16 (B : Int)] w fun e w' => e = .returned (.bool true) ∧ Below w.heap.size w w' := by
  have HX : Hid (NumsAt .u16 w a0 n (fun i => (x i : Int))) := hx
  have HY : Hid (NumsAt .u16 w a1 m (fun i => (y i : Int))) := hy
  have HR : Hid ((∀ i, x i < 65536) ∧ ∀ i, y i < 65536) := ⟨hrx, hry⟩
  have i20 : decide ((20 : Int) < (n : Int)) = false := by simp; omega
  have imn : decide ((m : Int) < (n : Int)) = false := by simp; omega
  clear hx hy hrx hry
  go_enter Try.func4, Try.ntmps4
  go_wp2_with fail
  refine (begun17 _).mono ?_
  rintro e w0 ⟨rfl, b0⟩
  go_wp2_with fail
  refine (mean_new _).mono ?_
  rintro e w1 ⟨rfl, M1, d1, -⟩
  have HM : Hid (MnAt w1 w0.heap.size false 0) := M1
  have HB : Hid (Below w.heap.size w w1) := b0.trans (d1.mono b0.size)
  have h0 := b0.size
  clear b0 d1 M1
  go_wp2_with fail
  generalize w0.heap.size = G at *
  go_loopw [10, 11, 12] (fun s10 s11 s12 wr => ∃ (j v lo hi : Nat) (t : Bool), j ≤ n ∧ s10 = .int .i64 lo ∧ s11 = .int .i64 hi ∧ s12 = .int .i64 j ∧ v ≤ 65536 ∧ Hid (Lies t v lo hi) ∧ Hid (MnAt wr G t v) ∧ Hid (Below w.heap.size w wr)) (fun _ _ i _ => n - (intOf i).toNat)
  case atStart =>
    have HL : Hid (Lies false 0 65536 0) := fun h => absurd h (by decide)
    exact ⟨0, 0, 65536, 0, false, Nat.zero_le _, rfl, rfl, rfl, by omega, HL, HM, HB⟩
  case round =>
    clear HM HB
    obtain ⟨j, v, lo, hi, t, hj, rfl, rfl, rfl, hv, HL, HM, HB⟩ := hrel
    by_cases hjn : j < n
    · have i1 : (j : Int) < (n : Int) := by omega
      have i2 : (j : Int) < (m : Int) := by omega
      obtain ⟨ba, oa, rfl, hca⟩ := HX.out (by omega)
      obtain ⟨bb, ob, rfl, hcb⟩ := HY.out (by omega)
      have la := cell_lt (hca j hjn)
      have lb := cell_lt (hcb j (by omega))
      have c1 : wr.cell? ⟨ba, oa + j, none⟩ = some (.int .u16 (x j : Int)) := (HB.out.cell (p := ⟨ba, oa + j, none⟩) la).trans (hca j hjn)
      have c2 : wr.cell? ⟨bb, ob + j, none⟩ = some (.int .u16 (y j : Int)) := (HB.out.cell (p := ⟨bb, ob + j, none⟩) lb).trans (hcb j (by omega))
      have HN : Hid (ba ≠ G ∧ bb ≠ G) := ⟨by omega, by omega⟩
      obtain ⟨P, S, Q, hS, hQ, hq, u1, u2, e1, e2, e3, e4, e5, e6, e7, e8, e9⟩ := look16 (HR.out.1 j) (HR.out.2 j)
      have HXY : Hid (x j < 65536 ∧ y j < 65536) := ⟨HR.out.1 j, HR.out.2 j⟩
      clear hca hcb la lb
      generalize x j = p at *
      generalize y j = q at *
      have HQ : Hid (S = p + q ∧ Q = Mn.look p q) := ⟨hS, hQ⟩
      clear hS hQ
      go_wp2_with fail
      refine wp_region_held (S := fun W => W.cell? ⟨ba, oa + j, none⟩ = some (.int .u16 (p : Int)) ∧ W.cell? ⟨bb, ob + j, none⟩ = some (.int .u16 (q : Int))) (by kernel_rfl) ?_
      change wpAnyH _ _ _ _ _ _ _ _ wr.drew
      have hr : wr.drew.cell? ⟨ba, oa + j, none⟩ = some (.int .u16 (p : Int)) ∧ wr.drew.cell? ⟨bb, ob + j, none⟩ = some (.int .u16 (q : Int)) := ⟨c1, c2⟩
      have HM : Hid (MnAt wr.drew G t v) := HM.out.same ⟨1, rfl⟩
      have HB : Hid (Below w.heap.size w wr.drew) := HB.out.drew
      clear c1 c2
      generalize wr.drew = w5 at *
      refine wpAnyH_take (i := 0) (v := .pointer (some ⟨G, 0, none⟩)) rfl (by kernel_rfl) (by kernel_rfl) (by kernel_rfl) (fun _ _ _ h => h) (Yields.yieldsIf (Or.inl ⟨by kernel_rfl, fun _ => by kernel_rfl⟩)) hr ?_
      refine wpAnyH_take (i := 1) (v := .slice (some ⟨ba, oa, none⟩) n ca) rfl (by kernel_rfl) (by kernel_rfl) (by kernel_rfl) (fun _ _ _ h => h) (Yields.yieldsIf (Or.inl ⟨by kernel_rfl, fun _ => by kernel_rfl⟩)) hr ?_
      refine wpAnyH_take (i := 2) (v := .int .i64 (j : Int)) rfl (by kernel_rfl) (by kernel_rfl) (by kernel_rfl) (fun _ _ _ h => h) (Yields.yieldsIf (Or.inl ⟨by kernel_rfl, fun _ => by kernel_rfl⟩)) hr ?_
      refine wpAnyH_take (i := 3) (v := .pointer (some ⟨ba, oa + j, none⟩)) rfl (by kernel_rfl) (by kernel_rfl) (by kernel_rfl) (fun _ _ _ h => h) (Yields.yieldsIf (Or.inl ⟨by kernel_rfl, fun _ => by go_simp⟩)) hr ?_
      refine wpAnyH_take (i := 4) (v := .int .u16 (p : Int)) rfl (by kernel_rfl) (by kernel_rfl) (by kernel_rfl) (fun _ _ _ h => h) (Or.inl ⟨by kernel_rfl, fun W hW => by have g := hW.1; go_simp⟩) hr ?_
      refine wpAnyH_take (i := 5) (v := .int .u32 (p : Int)) rfl (by kernel_rfl) (by kernel_rfl) (by kernel_rfl) (fun _ _ _ h => h) (Yields.yieldsIf (Or.inl ⟨by kernel_rfl, fun _ => by go_simp⟩)) hr ?_
      refine wpAnyH_take (i := 6) (v := .slice (some ⟨bb, ob, none⟩) m cb) rfl (by kernel_rfl) (by kernel_rfl) (by kernel_rfl) (fun _ _ _ h => h) (Yields.yieldsIf (Or.inl ⟨by kernel_rfl, fun _ => by kernel_rfl⟩)) hr ?_
      refine wpAnyH_take (i := 7) (v := .int .i64 (j : Int)) rfl (by kernel_rfl) (by kernel_rfl) (by kernel_rfl) (fun _ _ _ h => h) (Yields.yieldsIf (Or.inl ⟨by kernel_rfl, fun _ => by kernel_rfl⟩)) hr ?_
      refine wpAnyH_take (i := 8) (v := .pointer (some ⟨bb, ob + j, none⟩)) rfl (by kernel_rfl) (by kernel_rfl) (by kernel_rfl) (fun _ _ _ h => h) (Yields.yieldsIf (Or.inl ⟨by kernel_rfl, fun _ => by go_simp⟩)) hr ?_
      refine wpAnyH_take (i := 9) (v := .int .u16 (q : Int)) rfl (by kernel_rfl) (by kernel_rfl) (by kernel_rfl) (fun _ _ _ h => h) (Or.inl ⟨by kernel_rfl, fun W hW => by have g := hW.2; go_simp⟩) hr ?_
      refine wpAnyH_take (i := 10) (v := .int .u32 (q : Int)) rfl (by kernel_rfl) (by kernel_rfl) (by kernel_rfl) (fun _ _ _ h => h) (Yields.yieldsIf (Or.inl ⟨by kernel_rfl, fun _ => by go_simp⟩)) hr ?_
      refine wpAnyH_ready (rs := [11]) (by kernel_rfl) (by simp) ?_
      refine AllReadyH.cons rfl (fun K2 hK2 => ?_) AllReadyH.nil
      go_simp
      refine (madd_any G v p q t w5 HM.out hv (by have := HXY.out; omega) (by have := HXY.out; omega)).mono ?_
      rintro e w6 ⟨rfl, M6, k6, -⟩
      refine hK2.out _ _ ⟨k6.cell hr.1 HN.out.1, k6.cell hr.2 HN.out.2⟩ (fun hr => ?_)
      clear hK2 K2
      refine wpAnyH_done (by kernel_rfl) ?_ _
      have HM6 : Hid (MnAt w6 G (Mn.any t p q) (Mn.val t v p q)) := M6
      have HB6 : Hid (Below w.heap.size w w6) := HB.out.trans (k6.below h0 HB.out.size)
      have HU : Hid (Mn.val t v p q ≤ 65536) := Mn.val_le hv t p q
      obtain ⟨c1, c2⟩ := hr
      clear HM HB M6 k6 hv
      rcases ways p q with ⟨z1, z2, hz⟩ | ⟨z1, HS⟩ | ⟨z1, z2, HS⟩
      · rw [Mn.any_none hz, Mn.val_none hz] at HM6
        rw [Mn.val_none hz] at HU
        clear hz
        go_wp2
        go_roundw
        case rel => exact ⟨j + 1, v, lo, hi, t, by omega, rfl, rfl, by go_num, HU.out, HL, HM6, HB6⟩
        case measure => simp [intOf]; omega
      · have hS0 : ¬ S = 0 := by have := HQ.out.1; have := HS.out; omega
        have HV : Hid (Lies true (Mn.val t v p q) (min lo Q) (max hi Q)) := fun _ => by
          rw [HQ.out.2]
          exact lies_next HL.out HS.out
        rw [Mn.any_some HS.out] at HM6
        generalize Mn.val t v p q = u at *
        obtain ⟨lo', hlo⟩ : ∃ z, min lo Q = z := ⟨_, rfl⟩
        obtain ⟨hi', hhi⟩ : ∃ z, max hi Q = z := ⟨_, rfl⟩
        have r1 := fun ts ty W => min_two ts ty lo Q lo' W hlo
        have r2 := fun ts ty W => max_two ts ty hi Q hi' W hhi
        rw [hlo, hhi] at HV
        obtain ⟨v1, v2⟩ := HV.out rfl
        have v3 : decide ((u : Int) < (lo' : Int)) = false := by simp; omega
        have v4 : decide ((hi' : Int) < (u : Int)) = false := by simp; omega
        have v5 : decide (u < lo') = false := by simp; omega
        have v6 : decide (hi' < u) = false := by simp; omega
        clear hlo hhi v1 v2 HL HXY HN
        go_wp2_with fail
        go_quiet (fail)
        go_wp2_with fail
        refine (mval_any G u true _ (HM6.out.same ⟨_, rfl⟩) HU.out).mono ?_
        rintro e w8 ⟨rfl, rfl⟩
        go_wp2_with fail
        refine (mval_any G u true _ (HM6.out.same ⟨_, rfl⟩) HU.out).mono ?_
        rintro e w9 ⟨rfl, rfl⟩
        go_wp2
        go_roundw
        case rel => exact ⟨j + 1, u, lo', hi', true, by omega, rfl, rfl, by go_num, HU.out, HV, HM6.out.same ⟨_, rfl⟩, HB6.out.trans (below_drews _)⟩
        case measure => simp [intOf]; omega
      · have hS0 : ¬ S = 0 := by have := HQ.out.1; have := HS.out; omega
        have HV : Hid (Lies true (Mn.val t v p q) (min lo Q) (max hi Q)) := fun _ => by
          rw [HQ.out.2]
          exact lies_next HL.out HS.out
        rw [Mn.any_some HS.out] at HM6
        generalize Mn.val t v p q = u at *
        obtain ⟨lo', hlo⟩ : ∃ z, min lo Q = z := ⟨_, rfl⟩
        obtain ⟨hi', hhi⟩ : ∃ z, max hi Q = z := ⟨_, rfl⟩
        have r1 := fun ts ty W => min_two ts ty lo Q lo' W hlo
        have r2 := fun ts ty W => max_two ts ty hi Q hi' W hhi
        rw [hlo, hhi] at HV
        obtain ⟨v1, v2⟩ := HV.out rfl
        have v3 : decide ((u : Int) < (lo' : Int)) = false := by simp; omega
        have v4 : decide ((hi' : Int) < (u : Int)) = false := by simp; omega
        have v5 : decide (u < lo') = false := by simp; omega
        have v6 : decide (hi' < u) = false := by simp; omega
        clear hlo hhi v1 v2 HL HXY HN
        go_wp2_with fail
        go_quiet (fail)
        go_wp2_with fail
        refine (mval_any G u true _ (HM6.out.same ⟨_, rfl⟩) HU.out).mono ?_
        rintro e w8 ⟨rfl, rfl⟩
        go_wp2_with fail
        refine (mval_any G u true _ (HM6.out.same ⟨_, rfl⟩) HU.out).mono ?_
        rintro e w9 ⟨rfl, rfl⟩
        go_wp2
        go_roundw
        case rel => exact ⟨j + 1, u, lo', hi', true, by omega, rfl, rfl, by go_num, HU.out, HV, HM6.out.same ⟨_, rfl⟩, HB6.out.trans (below_drews _)⟩
        case measure => simp [intOf]; omega
    · obtain rfl : j = n := by omega
      obtain ⟨P, S, Q, hS, hQ, hq, u1, u2, e1, e2, e3, e4, e5, e6, e7, e8, e9⟩ := look16 hA hB
      have HQ : Hid (S = A + B ∧ Q = Mn.look A B) := ⟨hS, hQ⟩
      have HAB : Hid (A < 65536 ∧ B < 65536) := ⟨hA, hB⟩
      have HN0 : Hid (Near 0 v Q) := by
        show _ ∧ _
        rw [show gap 0 = 65536 from rfl]
        omega
      clear HL hj hjn hS hQ hA hB
      rcases ways A B with ⟨z1, z2, -⟩ | ⟨z1, HS⟩ | ⟨z1, z2, HS⟩
      · go_wp2
        go_ret
        exact ⟨rfl, HB.out⟩
      · have hS0 : ¬ S = 0 := by have := HQ.out.1; have := HS.out; omega
        have HV0 : Hid (v ≤ 65536) := hv
        clear hv
        go_wp2_with fail
        go_loopw [15] (fun s15 wq => ∃ (i v : Nat) (t : Bool), i ≤ 120 ∧ s15 = .int .i64 i ∧ Hid (v ≤ 65536) ∧ Hid (Near i v Q) ∧ Hid (MnAt wq G t v) ∧ Hid (Below w.heap.size w wq)) (fun i _ => 120 - (intOf i).toNat)
        case atStart => exact ⟨0, v, t, by omega, rfl, HV0, HN0, HM, HB⟩
        case round =>
          clear HN0 HM HB HV0 v t
          obtain ⟨i, v, t, hi, rfl, HV, HN, HM, HB⟩ := hrel
          by_cases hi2 : i < 120
          · have i3 : (i : Int) < 120 := by omega
            go_wp2_with fail
            refine (madd_any G v A B t _ HM.out HV.out (by have := HAB.out; omega) (by have := HAB.out; omega)).mono ?_
            rintro e w2 ⟨rfl, M2, k2, -⟩
            have HM2 : Hid (MnAt w2 G (Mn.any t A B) (Mn.val t v A B)) := M2
            have HB2 : Hid (Below w.heap.size w w2) := HB.out.trans (k2.below h0 HB.out.size)
            have HV2 : Hid (Mn.val t v A B ≤ 65536) := Mn.val_le HV.out t A B
            have HN2 : Hid (Near (i + 1) (Mn.val t v A B) Q) := by
              have := HN.out
              rw [HQ.out.2] at this ⊢
              exact near_next t this HS.out
            clear M2 k2 HM HB HV HN
            generalize Mn.val t v A B = u at *
            generalize Mn.any t A B = t' at *
            go_wp2
            go_roundw
            case rel => exact ⟨i + 1, u, t', by omega, by go_num, HV2, HN2, HM2, HB2⟩
            case measure => simp [intOf]; omega
          · obtain rfl : i = 120 := by omega
            have HD : Hid ((v : Int) - (Q : Int) < 8 ∧ -8 < (v : Int) - (Q : Int)) := by
              show _ ∧ _
              have := gap_end
              obtain ⟨g1, g2⟩ := HN.out
              omega
            clear hi hi2 HN
            go_wp2_with fail
            refine (mval_any G v t _ HM.out HV.out).mono ?_
            rintro e w3 ⟨rfl, rfl⟩
            obtain ⟨D, hD⟩ : ∃ D, (v : Int) - (Q : Int) = D := ⟨_, rfl⟩
            rw [hD] at HD
            obtain ⟨d1, d2⟩ := HD.out
            have d3 : IntKind.i64.wrap D = D := by simp [IntKind.wrap, IntKind.bits, IntKind.signed]; omega
            have d4 : decide (-8 < D) = true := by simp; omega
            have d5 : decide (D < 8) = true := by simp; omega
            go_wp2
            go_ret
            exact ⟨rfl, HB.out⟩
      · have hS0 : ¬ S = 0 := by have := HQ.out.1; have := HS.out; omega
        have HV0 : Hid (v ≤ 65536) := hv
        clear hv
        go_wp2_with fail
        go_loopw [15] (fun s15 wq => ∃ (i v : Nat) (t : Bool), i ≤ 120 ∧ s15 = .int .i64 i ∧ Hid (v ≤ 65536) ∧ Hid (Near i v Q) ∧ Hid (MnAt wq G t v) ∧ Hid (Below w.heap.size w wq)) (fun i _ => 120 - (intOf i).toNat)
        case atStart => exact ⟨0, v, t, by omega, rfl, HV0, HN0, HM, HB⟩
        case round =>
          clear HN0 HM HB HV0 v t
          obtain ⟨i, v, t, hi, rfl, HV, HN, HM, HB⟩ := hrel
          by_cases hi2 : i < 120
          · have i3 : (i : Int) < 120 := by omega
            go_wp2_with fail
            refine (madd_any G v A B t _ HM.out HV.out (by have := HAB.out; omega) (by have := HAB.out; omega)).mono ?_
            rintro e w2 ⟨rfl, M2, k2, -⟩
            have HM2 : Hid (MnAt w2 G (Mn.any t A B) (Mn.val t v A B)) := M2
            have HB2 : Hid (Below w.heap.size w w2) := HB.out.trans (k2.below h0 HB.out.size)
            have HV2 : Hid (Mn.val t v A B ≤ 65536) := Mn.val_le HV.out t A B
            have HN2 : Hid (Near (i + 1) (Mn.val t v A B) Q) := by
              have := HN.out
              rw [HQ.out.2] at this ⊢
              exact near_next t this HS.out
            clear M2 k2 HM HB HV HN
            generalize Mn.val t v A B = u at *
            generalize Mn.any t A B = t' at *
            go_wp2
            go_roundw
            case rel => exact ⟨i + 1, u, t', by omega, by go_num, HV2, HN2, HM2, HB2⟩
            case measure => simp [intOf]; omega
          · obtain rfl : i = 120 := by omega
            have HD : Hid ((v : Int) - (Q : Int) < 8 ∧ -8 < (v : Int) - (Q : Int)) := by
              show _ ∧ _
              have := gap_end
              obtain ⟨g1, g2⟩ := HN.out
              omega
            clear hi hi2 HN
            go_wp2_with fail
            refine (mval_any G v t _ HM.out HV.out).mono ?_
            rintro e w3 ⟨rfl, rfl⟩
            obtain ⟨D, hD⟩ : ∃ D, (v : Int) - (Q : Int) = D := ⟨_, rfl⟩
            rw [hD] at HD
            obtain ⟨d1, d2⟩ := HD.out
            have d3 : IntKind.i64.wrap D = D := by simp [IntKind.wrap, IntKind.bits, IntKind.signed]; omega
            have d4 : decide (-8 < D) = true := by simp; omega
            have d5 : decide (D < 8) = true := by simp; omega
            go_wp2
            go_ret
            exact ⟨rfl, HB.out⟩
theorem walk (a0 : Option Addr) (len0 cap0 : Nat) (z0 : List Int) (a1 : Option Addr) (len1 cap1 : Nat) (z1 : List Int) (a2 : Int) (a3 : Int) (w : World) (w0 : IsRow .u16 w a0 len0 cap0 z0) (w1 : IsRow .u16 w a1 len1 cap1 z1) (w2 : (Lit.int .u16 a2).wf = true) (w3 : (Lit.int .u16 a3).wf = true) :
    Calls Try.prog 4 #[.slice a0 len0 cap0, .slice a1 len1 cap1, .int .u16 a2, .int .u16 a3] w fun e w' => e = .returned (.bool true) ∧ Below w.heap.size w w' := by
  have r0 : CameAs .u16 w a0 len0 cap0 z0 := w0
  have r1 : CameAs .u16 w a1 len1 cap1 z1 := w1
  obtain ⟨h0, k0⟩ := r0.nums
  obtain ⟨h1, k1⟩ := r1.nums
  by_cases hn : len0 ≤ 20 ∧ len0 ≤ len1
  · have b2 := bounds_u16 w2
    have b3 := bounds_u16 w3
    obtain ⟨A, rfl⟩ : ∃ n : Nat, a2 = n := ⟨a2.toNat, by omega⟩
    obtain ⟨B, rfl⟩ : ∃ n : Nat, a3 = n := ⟨a3.toNat, by omega⟩
    have g0 : NumsAt .u16 w a0 len0 (fun i => ((z0[i]?.getD 0).toNat : Int)) := fun h => by
      obtain ⟨b', o', e, hc⟩ := h0 h
      exact ⟨b', o', e, fun i hi => by rw [hc i hi]; show _ = some (Value.int .u16 ((z0[i]?.getD 0).toNat : Int)); rw [Int.toNat_of_nonneg (range_u16 k0 i).1]⟩
    have g1 : NumsAt .u16 w a1 len1 (fun i => ((z1[i]?.getD 0).toNat : Int)) := fun h => by
      obtain ⟨b', o', e, hc⟩ := h1 h
      exact ⟨b', o', e, fun i hi => by rw [hc i hi]; show _ = some (Value.int .u16 ((z1[i]?.getD 0).toNat : Int)); rw [Int.toNat_of_nonneg (range_u16 k1 i).1]⟩
    exact core a0 a1 len0 len1 cap0 cap1 A B _ _ w g0 g1 hn.1 hn.2 (fun i => by have := range_u16 k0 i; omega) (fun i => by have := range_u16 k1 i; omega) (by omega) (by omega)
  · exact long a0 a1 len0 len1 cap0 cap1 _ _ w (by omega)

/-! ### THE ROW's STEP: WRITTEN OUT: LEAVE IT -/
set_option maxRecDepth 100000 in
theorem lifted (os : Os) (started : os.Started) (H : Type) (enc : TypeId × Value → H) :
    ReturnsInHanded {} Try.checked os 4 .any (Rows.meanBetweenSpec.pre6 enc Try.prog Try.f4 Rows.meanBetweenRow.domain false) (Rows.meanBetweenSpec.post enc Try.prog Try.f4 false true false false) := by
  refine returnsInHanded_of_change (C := Try.checked) own started (by kernel_rfl) Try.func4
    (ChangeSpec.witness6 (enc := enc) (C := Try.checked) false ⟨#[], #[.slice none 0 0, .slice none 0 0, .int .u16 0, .int .u16 0], []⟩ 8 (by kernel_rfl) (by kernel_rfl) (by kernel_rfl) (by kernel_rfl)) ?_
  intro W base args ds gs before hval0 hW hcnd _
  have hval : ∀ (j : Nat) t v, Try.f4.params[j]? = some t → args[j]? = some v → Value.okWide Try.prog W .any base t v := hval0
  have hW' := hW
  obtain ⟨p, q, hA0, hV, rfl, hfz, hnd⟩ := hW
  have hA : DataW.TrodAll enc Try.prog W 0 (fun _ => true) true Try.f4.params.toList args.toList ds p := hA0
  rw [Try.params4] at hA hval
  obtain ⟨v0, vs0, d0, ds0, p0, q0, hargs, rfl, rfl, h0, r0⟩ := trodAll_cons hA
  obtain ⟨v1, vs1, d1, ds1, p1, q1, rfl, rfl, rfl, h1, r1⟩ := trodAll_cons r0
  obtain ⟨v2, vs2, d2, ds2, p2, q2, rfl, rfl, rfl, h2, r2⟩ := trodAll_cons r1
  obtain ⟨v3, vs3, d3, ds3, p3, q3, rfl, rfl, rfl, h3, r3⟩ := trodAll_cons r2
  obtain ⟨rfl, rfl, rfl⟩ := trodAll_nil r3
  obtain rfl : args = #[v0, v1, v2, v3] := by cases args; simp_all
  obtain ⟨rfl, rfl⟩ := trodVars_none hV
  obtain ⟨a0, len0, cap0, rfl⟩ := okWide_slice Try.underlying33 (hval 0 33 v0 rfl rfl)
  have k0 := h0
  have lt0 : ∀ x ∈ p0, x.block < W.heap.size := by obtain ⟨m, hm⟩ := k0; exact DataW.trod_lt m _ _ _ hm
  obtain ⟨z0, w0⟩ : ∃ zs, IsRow .u16 W a0 len0 cap0 zs := by
    obtain ⟨fuel, hf⟩ := h0
    rcases open_ints Try.underlying33 Try.underlying34 (by kernel_rfl) hf with ⟨hcs, _⟩ | ⟨x, l, c, zs, hcs, _, hl, hm, hz, _, hcell, hwz⟩
    · simp [Value.cells] at hcs
      obtain ⟨rfl, rfl, rfl⟩ := hcs
      exact ⟨[], .inl ⟨rfl, rfl, rfl, rfl⟩⟩
    · simp [Value.cells] at hcs
      obtain ⟨rfl, rfl, rfl⟩ := hcs
      exact ⟨zs, .inr ⟨_, rfl, hl, hm, by simpa using hz, hcell, hwz⟩⟩
  obtain ⟨a1, len1, cap1, rfl⟩ := okWide_slice Try.underlying33 (hval 1 33 v1 rfl rfl)
  have k1 := h1
  have lt1 : ∀ x ∈ p1, x.block < W.heap.size := by obtain ⟨m, hm⟩ := k1; exact DataW.trod_lt m _ _ _ hm
  obtain ⟨z1, w1⟩ : ∃ zs, IsRow .u16 W a1 len1 cap1 zs := by
    obtain ⟨fuel, hf⟩ := h1
    rcases open_ints Try.underlying33 Try.underlying34 (by kernel_rfl) hf with ⟨hcs, _⟩ | ⟨x, l, c, zs, hcs, _, hl, hm, hz, _, hcell, hwz⟩
    · simp [Value.cells] at hcs
      obtain ⟨rfl, rfl, rfl⟩ := hcs
      exact ⟨[], .inl ⟨rfl, rfl, rfl, rfl⟩⟩
    · simp [Value.cells] at hcs
      obtain ⟨rfl, rfl, rfl⟩ := hcs
      exact ⟨zs, .inr ⟨_, rfl, hl, hm, by simpa using hz, hcell, hwz⟩⟩
  obtain ⟨a2, rfl, rfl, rfl, w2⟩ := open_int Try.underlying34 (hval 2 34 v2 rfl rfl) h2
  obtain ⟨a3, rfl, rfl, rfl, w3⟩ := open_int Try.underlying34 (hval 3 34 v3 rfl rfl) h3
  clear hA0 hval0
  refine (walk a0 len0 cap0 z0 a1 len1 cap1 z1 a2 a3 W w0 w1 w2 w3).mono fun e W' ⟨he, bel⟩ => ?_
  subst he
  exact ⟨_, rfl, _, _, _, [], _, [], hW', trodAll_mk1 (shut_bool Try.underlying4 _), (trodAll_cons_mk (Below.trod laidOut (by kernel_rfl) (of_decide_eq_true (by kernel_rfl)) k0 bel lt0) (trodAll_cons_mk (Below.trod laidOut (by kernel_rfl) (of_decide_eq_true (by kernel_rfl)) k1 bel lt1) (trodAll_cons_mk (shut_int Try.underlying34 w2) (trodAll_cons_mk (shut_int Try.underlying34 w3) trodAll_mk0)))), rfl, bel.frame _, fun h => by cases h⟩

theorem over : Rows.meanBetweenRow.holds Try.pinned (OpenSpec.ofChange Rows.meanBetweenSpec) :=
  OpenClaim.holds_of_wide 4 Try.f4 rfl rfl rfl rfl rfl rfl rfl ⟨rfl, rfl, rfl, rfl, rfl⟩ rfl rfl rfl rfl rfl (by kernel_rfl) Try.func4 (by kernel_rfl)
    (of_decide_eq_true (by kernel_rfl)) (by unfold Func.isWrapper; first | (rw [if_pos (by decide +kernel)]; kernel_rfl) | (rw [if_neg (by decide +kernel)]; exact ⟨rfl, rfl⟩))
    (fun os started H enc _ => lifted os started H enc)

theorem proved : Rows.MeanBetweenSaid := over
end Go.Proofs.Ytmogplpljinloaa.meanBetween
namespace Go.Proofs.Ytmogplpljinloaa
theorem meanBetween_holds : Rows.MeanBetweenSaid := meanBetween.proved
#print axioms meanBetween_holds
end Go.Proofs.Ytmogplpljinloaa
