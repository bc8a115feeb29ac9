/-
  Package fount has the symbols that the document's function has, none without a field, and leaves what it was lent as it was: the call returns true for every frame, all bytes and numbers (no condition).
-/
import Derived.Test.YtihkenmefecnmaaRows
import Derived.WalkKit
import Derived.ProofKit
import Derived.OpenShut
import Derived.ShutString
import Derived.ChangeOld
import Derived.Below
import Derived.Test.YtihkenmefecnmaaFre
import Derived.Test.YtihkenmefecnmaaFbg
import Derived.Test.YtihkenmefecnmaaLen
namespace Go.Proofs.Ytihkenmefecnmaa.fountAll
open Go.ChangeShapes Go.WideShapes Go.ChangeAt Go.RowKit
open Go.ChangeMaps (open_string shut_string)
set_option linter.unusedVariables false

theorem own : ownKnob Try.prog.godebug = none := by kernel_rfl
theorem laidOut : laidOutB Try.prog = true := by kernel_rfl

/-- WHAT THE WALK IS TOLD OF A SLICE OF INTEGERS THAT CAME IN: it is nil; or it leads to a row of 'cap' cells, the numbers 'zs' (the first 'len' are its elements, the rest its spare room), each fitting its kind. -/
def IsRow (k : IntKind) (w : World) (a : Option Addr) (len cap : Nat) (zs : List Int) : Prop :=
  (a = none ∧ len = 0 ∧ cap = 0 ∧ zs = []) ∨
  ∃ x, a = some x ∧ len ≤ cap ∧ cap ≤ maxLen ∧ zs.length = cap ∧ (∀ i, i < zs.length → w.cell? (x.add i) = some (.int k (zs.getD i 0))) ∧ ∀ n ∈ zs, (Lit.int k n).wf = true

open Go.Deep

/-- The symbols that are asked for. -/
def idAt (id : Int) : Nat → Int
  | 0 => id
  | 1 => 0
  | 2 => 1
  | 3 => 5
  | _ => 40

set_option maxRecDepth 100000 in
set_option maxHeartbeats 400000 in
theorem long (f : Int) (a : Option Addr) (n c : Nat) (size id : Int) (w : World) (h : 200 < n) :
    Calls Try.prog 3 #[.int .u32 f, .slice a n c, .int .i64 size, .int .i64 id] w fun e w' => e = .returned (.bool true) ∧ Below w.heap.size w w' := by
  go_enter Try.func3, Try.ntmps3
  go_wp2_with fail
  refine (begun5 _).mono ?_
  rintro e w0 ⟨rfl, b0⟩
  have HB : Hid (Below w.heap.size w w0) := b0
  have h2 : decide (200 < (n : Int)) = true := by simp; omega
  clear b0 h
  go_wp2
  go_ret
  exact ⟨rfl, HB.out⟩

set_option maxRecDepth 100000 in
set_option maxHeartbeats 1000000 in
theorem core (f : Nat) (a : Option Addr) (n c : Nat) (size id : Int) (x : Nat → Nat) (w : World) (hx : BytesAt w a n x) (hc : n ≤ c) (hf : f < 4294967296) (hn : n ≤ 200) :
    Calls Try.prog 3 #[.int .u32 (f : Int), .slice a n c, .int .i64 size, .int .i64 id] w fun e w' => e = .returned (.bool true) ∧ Below w.heap.size w w' := by
  have h3 : decide (200 < (n : Int)) = false := by simp; omega
  have HX : Hid (BytesAt w a n x) := hx
  clear hx
  go_enter Try.func3, Try.ntmps3
  go_wp2_with fail
  refine (begun5 _).mono ?_
  rintro e w0 ⟨rfl, b0⟩
  go_wp2_with fail
  refine (new_any _).mono ?_
  rintro e w1 ⟨rfl, b1, F1, -⟩
  have B1 := b0.trans (b1.mono b0.size)
  have X1 := HX.out.below B1 (Nat.le_refl _)
  generalize w0.heap.size = p at *
  clear b0 b1 HX
  go_wp2_with fail
  refine (lent_any a n c x _ X1 (by omega)).mono ?_
  rintro e w2 ⟨rfl, N2, b2, -⟩
  have HF2 : Hid (FieldAt w2 p) := F1.below b2 F1.lt
  have HX2 : Hid (BytesAt w2 a n x) := X1.grew b2
  have HB2 : Hid (Below w.heap.size w w2) := B1.trans (b2.mono B1.size)
  have HN2 : Hid (BytesAt w2 (some ⟨w1.heap.size, 0, none⟩) (n + 5) (lentOf x n)) := N2
  clear F1 X1 B1 N2 b2
  generalize w1.heap.size = q at *
  have HI : Hid (∀ j, j < 5 → (w2.alloc (.cells #[.int .i64 id, .int .i64 0, .int .i64 1, .int .i64 5, .int .i64 40] 3)).cell? ⟨w2.heap.size, j, none⟩ = some (.int .i64 (idAt id j))) := fun j hj => by
    rw [World.cell?_alloc_at _ _ _ _ rfl]
    rcases j with _ | _ | _ | _ | _ | j
    · rfl
    · rfl
    · rfl
    · rfl
    · rfl
    · omega
  have b3 : Below w2.heap.size w2 (w2.alloc (.cells #[.int .i64 id, .int .i64 0, .int .i64 1, .int .i64 5, .int .i64 40] 3)) := (Below.refl _ _).alloc (Nat.le_refl _) _
  have s3 : (w2.alloc (.cells #[.int .i64 id, .int .i64 0, .int .i64 1, .int .i64 5, .int .i64 40] 3)).heap.size = w2.heap.size + 1 := by simp
  have HF3 : Hid (FieldAt (w2.alloc (.cells #[.int .i64 id, .int .i64 0, .int .i64 1, .int .i64 5, .int .i64 40] 3)) p) := HF2.out.below b3 HF2.out.lt
  have HX3 : Hid (BytesAt (w2.alloc (.cells #[.int .i64 id, .int .i64 0, .int .i64 1, .int .i64 5, .int .i64 40] 3)) a n x) := HX2.out.grew b3
  have HN3 : Hid (BytesAt (w2.alloc (.cells #[.int .i64 id, .int .i64 0, .int .i64 1, .int .i64 5, .int .i64 40] 3)) (some ⟨q, 0, none⟩) (n + 5) (lentOf x n)) := HN2.out.grew b3
  have HB3 : Hid (Below w.heap.size w (w2.alloc (.cells #[.int .i64 id, .int .i64 0, .int .i64 1, .int .i64 5, .int .i64 40] 3))) := HB2.out.trans (b3.mono HB2.out.size)
  have HS3 : Hid ((w2.alloc (.cells #[.int .i64 id, .int .i64 0, .int .i64 1, .int .i64 5, .int .i64 40] 3)).heap.size = w2.heap.size + 1) := s3
  clear HF2 HX2 HB2 HN2 b3 s3
  go_wp2_with fail
  generalize w2.heap.size = g at *
  generalize (w2.alloc (.cells #[.int .i64 id, .int .i64 0, .int .i64 1, .int .i64 5, .int .i64 40] 3)) = w3 at *
  go_loopw [12] (fun i wr => ∃ j : Nat, j ≤ 5 ∧ i = .int .i64 j ∧ Below w3.heap.size w3 wr) (fun i _ => 5 - (intOf i).toNat)
  case atStart => exact ⟨0, Nat.zero_le _, rfl, Below.refl _ _⟩
  case round =>
    obtain ⟨j, hj, rfl, hb⟩ := hrel
    have HR : Hid (Below w3.heap.size w3 wr) := hb
    clear hb
    by_cases hj5 : j < 5
    · have j1 : (j : Int) < 5 := by omega
      have c1 : wr.cell? ⟨g, j, none⟩ = some (.int .i64 (idAt id j)) := (HR.out.cell (p := ⟨g, j, none⟩) (by have := HS3.out; show g < w3.heap.size; omega)).trans (HI.out j hj5)
      obtain ⟨S, ok, hA, hD⟩ := symbol_both f (idAt id j) size n x hf
      have HA : Hid (∀ p a c w y, FieldAt w p → BytesAt w a n y → n ≤ c → (∀ i, i < n → y i = x i) → Calls Try.prog 10 #[.pointer (some ⟨p, 0, none⟩), .int .u32 (f : Int), .slice a n c, .int .i64 size, .int .i64 (idAt id j)] w fun e w' => SayAns w S ok e w') := hA
      have HD : Hid (∀ a c w, BytesAt w a n x → Calls Try.prog 11 #[.int .u32 (f : Int), .slice a n c, .int .i64 size, .int .i64 (idAt id j)] w fun e w' => SayAns w S ok e w') := hD
      clear hA hD
      have HC : Hid (wr.cell? ⟨g, j, none⟩ = some (.int .i64 (idAt id j))) := c1
      generalize idAt id j = z at *
      go_wp2_with fail
      refine (HA.out p _ _ _ _ (HF3.out.below HR.out HF3.out.lt) ((HN3.out.below HR.out (Nat.le_refl _)).take (m := n) (by omega)) (by omega) (fun i hi => if_pos hi)).mono ?_
      rintro e w4 ⟨r1, n1, d1, x1, rfl, X1, E1, b4⟩
      have HR4 : Hid (Below w3.heap.size w3 w4) := HR.out.trans (b4.mono HR.out.size)
      have c2 : w4.cell? ⟨g, j, none⟩ = some (.int .i64 z) := (b4.cell (p := ⟨g, j, none⟩) (cell_lt HC.out)).trans HC.out
      clear c1 HA
      go_wp2_with fail
      refine (HD.out _ _ _ (HX3.out.below HR4.out (Nat.le_refl _))).mono ?_
      rintro e w5 ⟨r2, n2, d2, x2, rfl, X2, E2, b5⟩
      have HR5 : Hid (Below w3.heap.size w3 w5) := HR4.out.trans (b5.mono HR4.out.size)
      have e1 : (convert 23 9 (.slice r1 n1 d1)).run Try.prog w5 = .ok (.string S) w5 := by rw [← E1]; exact conv_bytes _ _ _ _ _ (X1.grew b5)
      have e2 : (convert 23 9 (.slice r2 n2 d2)).run Try.prog w5 = .ok (.string S) w5 := by rw [← E2]; exact conv_bytes _ _ _ _ _ X2
      clear c2 HD HC X1 X2 E1 E2 b4 b5 HR HR4
      go_wp2
      go_roundw
      case rel => exact ⟨j + 1, by omega, by go_num, HR5.out⟩
      case measure => simp [intOf]; omega
    · obtain rfl : j = 5 := by omega
      clear hj5 hj HI
      go_wp2_with fail
      refine (symbol_nil _ _ _ _ _).mono ?_
      rintro e w4 ⟨rfl, b4⟩
      have HR4 : Hid (Below w3.heap.size w3 w4) := HR.out.trans (b4.mono HR.out.size)
      clear b4 HR
      go_wp2_with fail
      refine (whole_any a q n c x _ (HN3.out.below HR4.out (Nat.le_refl _)) (HX3.out.below HR4.out (Nat.le_refl _)) (by omega)).mono ?_
      rintro e w5 ⟨rfl, hw⟩
      subst hw
      have HB5 : Hid (Below w.heap.size w w5) := HB3.out.trans (HR4.out.mono HB3.out.size)
      go_wp2
      go_ret
      exact ⟨rfl, HB5.out⟩

theorem walk (a0 : Int) (a1 : Option Addr) (len1 cap1 : Nat) (z1 : List Int) (a2 : Int) (a3 : Int) (w : World) (w0 : (Lit.int .u32 a0).wf = true) (w1 : IsRow .u8 w a1 len1 cap1 z1) (_w2 : (Lit.int .i64 a2).wf = true) (_w3 : (Lit.int .i64 a3).wf = true) :
    Calls Try.prog 3 #[.int .u32 a0, .slice a1 len1 cap1, .int .i64 a2, .int .i64 a3] w fun e w' => e = .returned (.bool true) ∧ Below w.heap.size w w' := by
  have b0 := bounds_u32 w0
  obtain ⟨f, rfl⟩ : ∃ n : Nat, a0 = n := ⟨a0.toNat, by omega⟩
  have r1 : Came w a1 len1 cap1 z1 := w1
  obtain ⟨h1, k1, m1⟩ := r1.bytes
  by_cases hl : 200 < len1
  · exact long f a1 len1 cap1 a2 a3 w hl
  · exact core f a1 len1 cap1 a2 a3 _ w h1 k1 (by omega) (by omega)

/-! ### THE ROW's STEP: WRITTEN OUT: LEAVE IT -/
set_option maxRecDepth 100000 in
theorem lifted (os : Os) (started : os.Started) (H : Type) (enc : TypeId × Value → H) :
    ReturnsInHanded {} Try.checked os 3 .any (Rows.fountAllSpec.pre6 enc Try.prog Try.f3 Rows.fountAllRow.domain false) (Rows.fountAllSpec.post enc Try.prog Try.f3 false true false false) := by
  refine returnsInHanded_of_change (C := Try.checked) own started (by kernel_rfl) Try.func3
    (ChangeSpec.witness6 (enc := enc) (C := Try.checked) false ⟨#[], #[.int .u32 0, .slice none 0 0, .int .i64 0, .int .i64 0], []⟩ 8 (by kernel_rfl) (by kernel_rfl) (by kernel_rfl) (by kernel_rfl)) ?_
  intro W base args ds gs before hval0 hW hcnd _
  have hval : ∀ (j : Nat) t v, Try.f3.params[j]? = some t → args[j]? = some v → Value.okWide Try.prog W .any base t v := hval0
  have hW' := hW
  obtain ⟨p, q, hA0, hV, rfl, hfz, hnd⟩ := hW
  have hA : DataW.TrodAll enc Try.prog W 0 (fun _ => true) true Try.f3.params.toList args.toList ds p := hA0
  rw [Try.params3] at hA hval
  obtain ⟨v0, vs0, d0, ds0, p0, q0, hargs, rfl, rfl, h0, r0⟩ := trodAll_cons hA
  obtain ⟨v1, vs1, d1, ds1, p1, q1, rfl, rfl, rfl, h1, r1⟩ := trodAll_cons r0
  obtain ⟨v2, vs2, d2, ds2, p2, q2, rfl, rfl, rfl, h2, r2⟩ := trodAll_cons r1
  obtain ⟨v3, vs3, d3, ds3, p3, q3, rfl, rfl, rfl, h3, r3⟩ := trodAll_cons r2
  obtain ⟨rfl, rfl, rfl⟩ := trodAll_nil r3
  obtain rfl : args = #[v0, v1, v2, v3] := by cases args; simp_all
  obtain ⟨rfl, rfl⟩ := trodVars_none hV
  obtain ⟨a0, rfl, rfl, rfl, w0⟩ := open_int Try.underlying22 (hval 0 22 v0 rfl rfl) h0
  obtain ⟨a1, len1, cap1, rfl⟩ := okWide_slice Try.underlying23 (hval 1 23 v1 rfl rfl)
  have k1 := h1
  have lt1 : ∀ x ∈ p1, x.block < W.heap.size := by obtain ⟨m, hm⟩ := k1; exact DataW.trod_lt m _ _ _ hm
  obtain ⟨z1, w1⟩ : ∃ zs, IsRow .u8 W a1 len1 cap1 zs := by
    obtain ⟨fuel, hf⟩ := h1
    rcases open_ints Try.underlying23 Try.underlying5 (by kernel_rfl) hf with ⟨hcs, _⟩ | ⟨x, l, c, zs, hcs, _, hl, hm, hz, _, hcell, hwz⟩
    · simp [Value.cells] at hcs
      obtain ⟨rfl, rfl, rfl⟩ := hcs
      exact ⟨[], .inl ⟨rfl, rfl, rfl, rfl⟩⟩
    · simp [Value.cells] at hcs
      obtain ⟨rfl, rfl, rfl⟩ := hcs
      exact ⟨zs, .inr ⟨_, rfl, hl, hm, by simpa using hz, hcell, hwz⟩⟩
  obtain ⟨a2, rfl, rfl, rfl, w2⟩ := open_int Try.underlying3 (hval 2 3 v2 rfl rfl) h2
  obtain ⟨a3, rfl, rfl, rfl, w3⟩ := open_int Try.underlying3 (hval 3 3 v3 rfl rfl) h3
  clear hA0 hval0
  refine (walk a0 a1 len1 cap1 z1 a2 a3 W w0 w1 w2 w3).mono fun e W' ⟨he, bel⟩ => ?_
  subst he
  exact ⟨_, rfl, _, _, _, [], _, [], hW', trodAll_mk1 (shut_bool Try.underlying4 _), (trodAll_cons_mk (shut_int Try.underlying22 w0) (trodAll_cons_mk (Below.trod laidOut (by kernel_rfl) (of_decide_eq_true (by kernel_rfl)) k1 bel lt1) (trodAll_cons_mk (shut_int Try.underlying3 w2) (trodAll_cons_mk (shut_int Try.underlying3 w3) trodAll_mk0)))), rfl, bel.frame _, fun h => by cases h⟩

theorem over : Rows.fountAllRow.holds Try.pinned (OpenSpec.ofChange Rows.fountAllSpec) :=
  OpenClaim.holds_of_wide 3 Try.f3 rfl rfl rfl rfl rfl rfl rfl ⟨rfl, rfl, rfl, rfl, rfl⟩ rfl rfl rfl rfl rfl (by kernel_rfl) Try.func3 (by kernel_rfl)
    (of_decide_eq_true (by kernel_rfl)) (by unfold Func.isWrapper; first | (rw [if_pos (by decide +kernel)]; kernel_rfl) | (rw [if_neg (by decide +kernel)]; exact ⟨rfl, rfl⟩))
    (fun os started H enc _ => lifted os started H enc)

theorem proved : Rows.FountAllSaid := over
end Go.Proofs.Ytihkenmefecnmaa.fountAll
namespace Go.Proofs.Ytihkenmefecnmaa
theorem fountAll_holds : Rows.FountAllSaid := fountAll.proved
#print axioms fountAll_holds
end Go.Proofs.Ytihkenmefecnmaa
