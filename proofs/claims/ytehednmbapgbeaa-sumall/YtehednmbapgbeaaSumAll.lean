/-
  Package sum's sums, what it seals and what it opens are the document's, and what it is lent stays whole: the call returns true, whatever the bytes are (at most 80 bytes of each are looked at; no condition).
-/
import Derived.Test.YtehednmbapgbeaaRows
import Derived.WalkKit
import Derived.ProofKit
import Derived.OpenShut
import Derived.ShutString
import Derived.ChangeOld
import Derived.Below
import Derived.Test.YtehednmbapgbeaaRse
import Derived.Test.YtehednmbapgbeaaSbg
import Derived.Test.YtehednmbapgbeaaLen
namespace Go.Proofs.Ytehednmbapgbeaa.sumAll
open Go.ChangeShapes Go.WideShapes Go.ChangeAt Go.RowKit
open Go.ChangeMaps (open_string shut_string)
set_option linter.unusedVariables false

theorem own : ownKnob Try.prog.godebug = none := by kernel_rfl
theorem laidOut : laidOutB Try.prog = true := by kernel_rfl

/-- WHAT THE WALK IS TOLD OF A SLICE OF INTEGERS THAT CAME IN: it is nil; or it leads to a row of 'cap' cells, the numbers 'zs' (the first 'len' are its elements, the rest its spare room), each fitting its kind. -/
def IsRow (k : IntKind) (w : World) (a : Option Addr) (len cap : Nat) (zs : List Int) : Prop :=
  (a = none ∧ len = 0 ∧ cap = 0 ∧ zs = []) ∨
  ∃ x, a = some x ∧ len ≤ cap ∧ cap ≤ maxLen ∧ zs.length = cap ∧ (∀ i, i < zs.length → w.cell? (x.add i) = some (.int k (zs.getD i 0))) ∧ ∀ n ∈ zs, (Lit.int k n).wf = true

open Go.Deep

/-- What stands as it is while the last line is worked out. -/
structure Held (a : Option Addr) (n : Nat) (x : Nat → Nat) (L : Nat) (r r' : Option Addr) (k : Nat) (z : Nat → Nat) (w : World) : Prop where
  came : BytesAt w a n x
  lent : BytesAt w (some ⟨L, 0, none⟩) (n + 5) (lentOf x n)
  ours : BytesAt w r k z
  docs : BytesAt w r' k z
theorem Held.grew {a : Option Addr} {n : Nat} {x : Nat → Nat} {L : Nat} {r r' : Option Addr} {k : Nat} {z : Nat → Nat} {w w' : World} (h : Held a n x L r r' k z w) (hb : Below w.heap.size w w') : Held a n x L r r' k z w' :=
  ⟨h.came.grew hb, h.lent.grew hb, h.ours.grew hb, h.docs.grew hb⟩
theorem wpAnyH_mono {P : Program} {md : Region.Mode} {ops : Array Oper} {Q : Exit → Act → World → Prop} {S S' : World → Prop} (h : ∀ w, S' w → S w) : ∀ (fuel : Nat) (listed : Array Bool) (a : Act) (w : World), wpAnyH P md ops Q S' fuel listed a w → wpAnyH P md ops Q S fuel listed a w
  | 0, _, _, _, hh => hh
  | fuel + 1, _, _, _, hh => ⟨hh.1, fun i hi => wpOp_mono (fun a' w' h' => ⟨h _ h'.1, wpAnyH_mono h fuel _ a' w' h'.2⟩) (hh.2 i hi)⟩
theorem lent_bytes {w : World} {L n : Nat} {x : Nat → Nat} (h : BytesAt w (some ⟨L, 0, none⟩) (n + 5) (lentOf x n)) : BytesAt w (some ⟨L, 0, none⟩) n x :=
  (h.take (by omega)).congr fun i hi => by unfold lentOf; rw [if_pos hi]

set_option maxRecDepth 100000 in
set_option maxHeartbeats 2000000 in
theorem core (a0 : Option Addr) (n cap0 : Nat) (x : Nat → Nat) (a1 : Option Addr) (m cap1 : Nat) (y : Nat → Nat) (w : World) (hx : BytesAt w a0 n x) (hy : BytesAt w a1 m y) (hc : m ≤ cap1) (hn : n ≤ 80) (hm : m ≤ 80) :
    Calls Try.prog 3 #[.slice a0 n cap0, .slice a1 m cap1] w fun e w' => e = .returned (.bool true) ∧ Below w.heap.size w w' := by
  have HX : Hid (BytesAt w a0 n x) := hx
  have HY : Hid (BytesAt w a1 m y) := hy
  have i0 : decide ((80 : Int) < (n : Int)) = false := by simp; omega
  have i1 : decide ((80 : Int) < (m : Int)) = false := by simp; omega
  clear hx hy
  go_enter Try.func3, Try.ntmps3
  go_wp2_with fail
  refine (begun7 _).mono ?_
  rintro e w0 ⟨rfl, b0⟩
  go_wp2_with fail
  refine (lent_any a0 n cap0 x w0 (HX.out.grew b0) (by omega)).mono ?_
  rintro e w1 ⟨rfl, L1, d1, -⟩
  have b1 := b0.trans (d1.mono b0.size)
  clear b0 d1
  generalize w0.heap.size = L at *
  go_wp2_with fail
  refine (open_any a1 m cap1 y w1 (HY.out.grew b1) hc (by omega)).mono ?_
  rintro e w2 ⟨r, c2, rfl, -, -, -, X2, d2⟩
  have L2 := L1.grew d2
  have b2 := b1.trans (d2.mono b1.size)
  clear b1 d2 L1
  go_wp2_with fail
  refine (ropen_any a1 m cap1 y w2 (HY.out.grew b2) hc (by omega)).mono ?_
  rintro e w3 ⟨r', c3, rfl, -, -, -, X3, d3⟩
  have b3 : Hid (Below w.heap.size w w3) := b2.trans (d3.mono b2.size)
  have hr : Held a0 n x L r r' (opN y m) y w3 := ⟨HX.out.grew b3.out, L2.grew d3, X2.grew d3, X3⟩
  clear b2 d3 L2 X2 X3 HX HY
  generalize opN y m = k at *
  generalize opB y m = q at *
  go_wp2_with fail
  refine wp_region_held (S := Held a0 n x L r r' k y) (by kernel_rfl) ?_
  change wpAnyH _ _ _ _ _ _ _ _ w3.drew
  have hr : Held a0 n x L r r' k y w3.drew := hr.grew (Below.refl _ _).drew
  have b3 : Hid (Below w.heap.size w w3.drew) := b3.out.drew
  generalize w3.drew = w3 at *
  refine wpAnyH_take (i := 0) (v := .slice (some ⟨L, 0, none⟩) n (n + 5)) rfl (by kernel_rfl) (by kernel_rfl) (by kernel_rfl) (fun _ _ _ h => h) (Yields.yieldsIf (Or.inl ⟨by kernel_rfl, fun _ => by kernel_rfl⟩)) hr ?_
  refine wpAnyH_take (i := 2) (v := .slice a0 n cap0) rfl (by kernel_rfl) (by kernel_rfl) (by kernel_rfl) (fun _ _ _ h => h) (Yields.yieldsIf (Or.inl ⟨by kernel_rfl, fun _ => by kernel_rfl⟩)) hr ?_
  refine wpAnyH_ready (rs := [1]) (by kernel_rfl) (by simp) ?_
  refine AllReadyH.cons rfl (fun K2 hK2 => ?_) AllReadyH.nil
  go_simp
  refine Calls.mono (sum_any _ n (n + 5) x w3 (lent_bytes hr.lent) (by omega)) ?_
  rintro e w4 ⟨rfl, d4⟩
  have b4 : Hid (Below w.heap.size w w4) := b3.out.trans (d4.mono b3.out.size)
  have hr := hr.grew d4
  refine hK2.out _ _ hr (fun hr => ?_)
  clear hK2 K2 d4 b3
  refine wpAnyH_ready (rs := [3]) (by kernel_rfl) (by simp) ?_
  refine AllReadyH.cons rfl (fun K2 hK2 => ?_) AllReadyH.nil
  go_simp
  refine Calls.mono (rsum_any a0 n cap0 x w4 hr.came (by omega)) ?_
  rintro e w5 ⟨rfl, rfl⟩
  refine hK2.out _ _ hr (fun hr => ?_)
  clear hK2 K2
  refine wpAnyH_take (i := 4) (v := .bool true) rfl (by kernel_rfl) (by kernel_rfl) (by kernel_rfl) (fun _ _ _ h => h) (Yields.yieldsIf (Or.inl ⟨by kernel_rfl, fun _ => by go_simp⟩)) hr ?_
  refine wpAnyH_take (i := 5) (v := .bool true) rfl (by kernel_rfl) (by kernel_rfl) (by kernel_rfl) (fun _ _ _ h => h) (Yields.yieldsIf (Or.inl ⟨by kernel_rfl, fun _ => by kernel_rfl⟩)) hr ?_
  refine wpAnyH_take (i := 6) (v := .slice (some ⟨L, 0, none⟩) n (n + 5)) rfl (by kernel_rfl) (by kernel_rfl) (by kernel_rfl) (fun _ _ _ h => h) (Yields.yieldsIf (Or.inl ⟨by kernel_rfl, fun _ => by kernel_rfl⟩)) hr ?_
  refine wpAnyH_take (i := 9) (v := .slice a0 n cap0) rfl (by kernel_rfl) (by kernel_rfl) (by kernel_rfl) (fun _ _ _ h => h) (Yields.yieldsIf (Or.inl ⟨by kernel_rfl, fun _ => by kernel_rfl⟩)) hr ?_
  refine wpAnyH_ready (rs := [7]) (by kernel_rfl) (by simp) ?_
  refine AllReadyH.cons rfl (fun K2 hK2 => ?_) AllReadyH.nil
  go_simp
  refine Calls.mono (seal_any _ n (n + 5) x w5 (lent_bytes hr.lent) (by omega)) ?_
  rintro e w6 ⟨rfl, R6, d6⟩
  have B6 := seal_bytes R6 hr.came.lt
  have b6 : Hid (Below w.heap.size w w6) := b4.out.trans (d6.mono b4.out.size)
  have hr := hr.grew d6
  refine hK2.out _ _ hr (fun hr => ?_)
  generalize w5.heap.size = G at *
  refine wpAnyH_mono (S' := fun w' => Held a0 n x L r r' k y w' ∧ BytesAt w' (some ⟨G, 0, none⟩) (n + 4) (Crc.seald x n)) (fun _ h => h.1) _ _ _ _ ?_
  have hr : Held a0 n x L r r' k y w6 ∧ BytesAt w6 (some ⟨G, 0, none⟩) (n + 4) (Crc.seald x n) := ⟨hr, B6⟩
  clear hK2 K2 d6 b4 R6 B6
  refine wpAnyH_take (i := 8) (v := .string (strOf (n + 4) (Crc.seald x n))) rfl (by kernel_rfl) (by kernel_rfl) (by kernel_rfl) (fun _ _ _ h => h) (Or.inl ⟨by kernel_rfl, fun W hW => by have g := conv_bytes _ (n + 4) (n + 4) _ W hW.2; go_simp⟩) hr ?_
  refine wpAnyH_ready (rs := [10]) (by kernel_rfl) (by simp) ?_
  refine AllReadyH.cons rfl (fun K2 hK2 => ?_) AllReadyH.nil
  go_simp
  refine Calls.mono (rseal_any a0 n cap0 x w6 hr.1.came (by omega)) ?_
  rintro e w7 ⟨G', c7, rfl, -, -, B7, d7⟩
  have b7 : Hid (Below w.heap.size w w7) := b6.out.trans (d7.mono b6.out.size)
  have hr : Held a0 n x L r r' k y w7 ∧ BytesAt w7 (some ⟨G, 0, none⟩) (n + 4) (Crc.seald x n) := ⟨hr.1.grew d7, hr.2.grew d7⟩
  refine hK2.out _ _ hr (fun hr => ?_)
  refine wpAnyH_mono (S' := fun w' => (Held a0 n x L r r' k y w' ∧ BytesAt w' (some ⟨G, 0, none⟩) (n + 4) (Crc.seald x n)) ∧ BytesAt w' (some ⟨G', 0, none⟩) (n + 4) (Crc.seald x n)) (fun _ h => h.1) _ _ _ _ ?_
  have hr : (Held a0 n x L r r' k y w7 ∧ BytesAt w7 (some ⟨G, 0, none⟩) (n + 4) (Crc.seald x n)) ∧ BytesAt w7 (some ⟨G', 0, none⟩) (n + 4) (Crc.seald x n) := ⟨hr, B7⟩
  clear hK2 K2 d7 b6 B7
  refine wpAnyH_take (i := 11) (v := .string (strOf (n + 4) (Crc.seald x n))) rfl (by kernel_rfl) (by kernel_rfl) (by kernel_rfl) (fun _ _ _ h => h) (Or.inl ⟨by kernel_rfl, fun W hW => by have g := conv_bytes _ (n + 4) c7 _ W hW.2; go_simp⟩) hr ?_
  refine wpAnyH_take (i := 12) (v := .bool true) rfl (by kernel_rfl) (by kernel_rfl) (by kernel_rfl) (fun _ _ _ h => h) (Yields.yieldsIf (Or.inl ⟨by kernel_rfl, fun _ => by go_simp⟩)) hr ?_
  refine wpAnyH_take (i := 13) (v := .bool true) rfl (by kernel_rfl) (by kernel_rfl) (by kernel_rfl) (fun _ _ _ h => h) (Yields.yieldsIf (Or.inl ⟨by kernel_rfl, fun _ => by kernel_rfl⟩)) hr ?_
  refine wpAnyH_take (i := 14) (v := .bool true) rfl (by kernel_rfl) (by kernel_rfl) (by kernel_rfl) (fun _ _ _ h => h) (Yields.yieldsIf (Or.inl ⟨by kernel_rfl, fun _ => by kernel_rfl⟩)) hr ?_
  refine wpAnyH_take (i := 15) (v := .slice r k c2) rfl (by kernel_rfl) (by kernel_rfl) (by kernel_rfl) (fun _ _ _ h => h) (Yields.yieldsIf (Or.inl ⟨by kernel_rfl, fun _ => by kernel_rfl⟩)) hr ?_
  refine wpAnyH_take (i := 16) (v := .string (strOf k y)) rfl (by kernel_rfl) (by kernel_rfl) (by kernel_rfl) (fun _ _ _ h => h) (Or.inl ⟨by kernel_rfl, fun W hW => by have g := conv_bytes _ k c2 _ W hW.1.1.ours; go_simp⟩) hr ?_
  refine wpAnyH_take (i := 17) (v := .slice r' k c3) rfl (by kernel_rfl) (by kernel_rfl) (by kernel_rfl) (fun _ _ _ h => h) (Yields.yieldsIf (Or.inl ⟨by kernel_rfl, fun _ => by kernel_rfl⟩)) hr ?_
  refine wpAnyH_take (i := 18) (v := .string (strOf k y)) rfl (by kernel_rfl) (by kernel_rfl) (by kernel_rfl) (fun _ _ _ h => h) (Or.inl ⟨by kernel_rfl, fun W hW => by have g := conv_bytes _ k c3 _ W hW.1.1.docs; go_simp⟩) hr ?_
  refine wpAnyH_take (i := 19) (v := .bool true) rfl (by kernel_rfl) (by kernel_rfl) (by kernel_rfl) (fun _ _ _ h => h) (Yields.yieldsIf (Or.inl ⟨by kernel_rfl, fun _ => by go_simp⟩)) hr ?_
  refine wpAnyH_take (i := 20) (v := .bool true) rfl (by kernel_rfl) (by kernel_rfl) (by kernel_rfl) (fun _ _ _ h => h) (Yields.yieldsIf (Or.inl ⟨by kernel_rfl, fun _ => by kernel_rfl⟩)) hr ?_
  refine wpAnyH_take (i := 21) (v := .bool true) rfl (by kernel_rfl) (by kernel_rfl) (by kernel_rfl) (fun _ _ _ h => h) (Yields.yieldsIf (Or.inl ⟨by kernel_rfl, fun _ => by kernel_rfl⟩)) hr ?_
  refine wpAnyH_take (i := 22) (v := .bool q) rfl (by kernel_rfl) (by kernel_rfl) (by kernel_rfl) (fun _ _ _ h => h) (Yields.yieldsIf (Or.inl ⟨by kernel_rfl, fun _ => by kernel_rfl⟩)) hr ?_
  refine wpAnyH_take (i := 23) (v := .bool q) rfl (by kernel_rfl) (by kernel_rfl) (by kernel_rfl) (fun _ _ _ h => h) (Yields.yieldsIf (Or.inl ⟨by kernel_rfl, fun _ => by kernel_rfl⟩)) hr ?_
  refine wpAnyH_take (i := 24) (v := .bool true) rfl (by kernel_rfl) (by kernel_rfl) (by kernel_rfl) (fun _ _ _ h => h) (Yields.yieldsIf (Or.inl ⟨by kernel_rfl, fun _ => by go_simp⟩)) hr ?_
  refine wpAnyH_take (i := 25) (v := .bool true) rfl (by kernel_rfl) (by kernel_rfl) (by kernel_rfl) (fun _ _ _ h => h) (Yields.yieldsIf (Or.inl ⟨by kernel_rfl, fun _ => by kernel_rfl⟩)) hr ?_
  refine wpAnyH_take (i := 26) (v := .bool true) rfl (by kernel_rfl) (by kernel_rfl) (by kernel_rfl) (fun _ _ _ h => h) (Yields.yieldsIf (Or.inl ⟨by kernel_rfl, fun _ => by kernel_rfl⟩)) hr ?_
  refine wpAnyH_take (i := 27) (v := .slice (some ⟨L, 0, none⟩) n (n + 5)) rfl (by kernel_rfl) (by kernel_rfl) (by kernel_rfl) (fun _ _ _ h => h) (Yields.yieldsIf (Or.inl ⟨by kernel_rfl, fun _ => by kernel_rfl⟩)) hr ?_
  refine wpAnyH_take (i := 28) (v := .slice a0 n cap0) rfl (by kernel_rfl) (by kernel_rfl) (by kernel_rfl) (fun _ _ _ h => h) (Yields.yieldsIf (Or.inl ⟨by kernel_rfl, fun _ => by kernel_rfl⟩)) hr ?_
  refine wpAnyH_ready (rs := [29]) (by kernel_rfl) (by simp) ?_
  refine AllReadyH.cons rfl (fun K2 hK2 => ?_) AllReadyH.nil
  go_simp
  refine Calls.mono (whole_any a0 L n cap0 x w7 hr.1.1.lent hr.1.1.came (by omega)) ?_
  rintro e w8 ⟨rfl, rfl⟩
  refine hK2.out _ _ hr (fun hr => ?_)
  clear hK2 K2
  refine wpAnyH_take (i := 30) (v := .bool true) rfl (by kernel_rfl) (by kernel_rfl) (by kernel_rfl) (fun _ _ _ h => h) (Yields.yieldsIf (Or.inl ⟨by kernel_rfl, fun _ => by kernel_rfl⟩)) hr ?_
  refine wpAnyH_ready (rs := [31]) (by kernel_rfl) (by simp) ?_
  refine AllReadyH.cons rfl (fun K2 hK2 => ?_) AllReadyH.nil
  go_simp
  refine hK2.out _ _ hr (fun hr => ?_)
  clear hK2 K2
  refine wpAnyH_done (by kernel_rfl) ?_ _
  clear hr
  go_wp2
  go_ret
  exact ⟨rfl, b7.out⟩

set_option maxRecDepth 100000 in
theorem long (a0 : Option Addr) (n cap0 : Nat) (a1 : Option Addr) (m cap1 : Nat) (w : World) (h : 80 < n ∨ 80 < m) :
    Calls Try.prog 3 #[.slice a0 n cap0, .slice a1 m cap1] w fun e w' => e = .returned (.bool true) ∧ Below w.heap.size w w' := by
  by_cases hn : 80 < n
  · have i0 : decide ((80 : Int) < (n : Int)) = true := by simp; omega
    go_enter Try.func3, Try.ntmps3
    go_wp2_with fail
    refine (begun7 _).mono ?_
    rintro e w0 ⟨rfl, b0⟩
    have HB : Hid (Below w.heap.size w w0) := b0
    clear b0 h hn
    go_wp2
    go_ret
    exact ⟨rfl, HB.out⟩
  · have i0 : decide ((80 : Int) < (n : Int)) = false := by simp; omega
    have i1 : decide ((80 : Int) < (m : Int)) = true := by simp; omega
    go_enter Try.func3, Try.ntmps3
    go_wp2_with fail
    refine (begun7 _).mono ?_
    rintro e w0 ⟨rfl, b0⟩
    have HB : Hid (Below w.heap.size w w0) := b0
    clear b0 h hn
    go_wp2
    go_ret
    exact ⟨rfl, HB.out⟩

theorem walk (a0 : Option Addr) (len0 cap0 : Nat) (z0 : List Int) (a1 : Option Addr) (len1 cap1 : Nat) (z1 : List Int) (w : World) (w0 : IsRow .u8 w a0 len0 cap0 z0) (w1 : IsRow .u8 w a1 len1 cap1 z1) :
    Calls Try.prog 3 #[.slice a0 len0 cap0, .slice a1 len1 cap1] w fun e w' => e = .returned (.bool true) ∧ Below w.heap.size w w' := by
  have r0 : Came w a0 len0 cap0 z0 := w0
  have r1 : Came w a1 len1 cap1 z1 := w1
  obtain ⟨h0, k0, m0⟩ := r0.bytes
  obtain ⟨h1, k1, m1⟩ := r1.bytes
  by_cases h : len0 ≤ 80 ∧ len1 ≤ 80
  · exact core a0 len0 cap0 _ a1 len1 cap1 _ w h0 h1 k1 h.1 h.2
  · exact long a0 len0 cap0 a1 len1 cap1 w (by omega)

/-! ### THE ROW's STEP: WRITTEN OUT: LEAVE IT -/
set_option maxRecDepth 100000 in
theorem lifted (os : Os) (started : os.Started) (H : Type) (enc : TypeId × Value → H) :
    ReturnsInHanded {} Try.checked os 3 .any (Rows.sumAllSpec.pre6 enc Try.prog Try.f3 Rows.sumAllRow.domain false) (Rows.sumAllSpec.post enc Try.prog Try.f3 false true false false) := by
  refine returnsInHanded_of_change (C := Try.checked) own started (by kernel_rfl) Try.func3
    (ChangeSpec.witness6 (enc := enc) (C := Try.checked) false ⟨#[], #[.slice none 0 0, .slice none 0 0], []⟩ 8 (by kernel_rfl) (by kernel_rfl) (by kernel_rfl) (by kernel_rfl)) ?_
  intro W base args ds gs before hval0 hW hcnd _
  have hval : ∀ (j : Nat) t v, Try.f3.params[j]? = some t → args[j]? = some v → Value.okWide Try.prog W .any base t v := hval0
  have hW' := hW
  obtain ⟨p, q, hA0, hV, rfl, hfz, hnd⟩ := hW
  have hA : DataW.TrodAll enc Try.prog W 0 (fun _ => true) true Try.f3.params.toList args.toList ds p := hA0
  rw [Try.params3] at hA hval
  obtain ⟨v0, vs0, d0, ds0, p0, q0, hargs, rfl, rfl, h0, r0⟩ := trodAll_cons hA
  obtain ⟨v1, vs1, d1, ds1, p1, q1, rfl, rfl, rfl, h1, r1⟩ := trodAll_cons r0
  obtain ⟨rfl, rfl, rfl⟩ := trodAll_nil r1
  obtain rfl : args = #[v0, v1] := by cases args; simp_all
  obtain ⟨rfl, rfl⟩ := trodVars_none hV
  obtain ⟨a0, len0, cap0, rfl⟩ := okWide_slice Try.underlying22 (hval 0 22 v0 rfl rfl)
  have k0 := h0
  have lt0 : ∀ x ∈ p0, x.block < W.heap.size := by obtain ⟨m, hm⟩ := k0; exact DataW.trod_lt m _ _ _ hm
  obtain ⟨z0, w0⟩ : ∃ zs, IsRow .u8 W a0 len0 cap0 zs := by
    obtain ⟨fuel, hf⟩ := h0
    rcases open_ints Try.underlying22 Try.underlying5 (by kernel_rfl) hf with ⟨hcs, _⟩ | ⟨x, l, c, zs, hcs, _, hl, hm, hz, _, hcell, hwz⟩
    · simp [Value.cells] at hcs
      obtain ⟨rfl, rfl, rfl⟩ := hcs
      exact ⟨[], .inl ⟨rfl, rfl, rfl, rfl⟩⟩
    · simp [Value.cells] at hcs
      obtain ⟨rfl, rfl, rfl⟩ := hcs
      exact ⟨zs, .inr ⟨_, rfl, hl, hm, by simpa using hz, hcell, hwz⟩⟩
  obtain ⟨a1, len1, cap1, rfl⟩ := okWide_slice Try.underlying22 (hval 1 22 v1 rfl rfl)
  have k1 := h1
  have lt1 : ∀ x ∈ p1, x.block < W.heap.size := by obtain ⟨m, hm⟩ := k1; exact DataW.trod_lt m _ _ _ hm
  obtain ⟨z1, w1⟩ : ∃ zs, IsRow .u8 W a1 len1 cap1 zs := by
    obtain ⟨fuel, hf⟩ := h1
    rcases open_ints Try.underlying22 Try.underlying5 (by kernel_rfl) hf with ⟨hcs, _⟩ | ⟨x, l, c, zs, hcs, _, hl, hm, hz, _, hcell, hwz⟩
    · simp [Value.cells] at hcs
      obtain ⟨rfl, rfl, rfl⟩ := hcs
      exact ⟨[], .inl ⟨rfl, rfl, rfl, rfl⟩⟩
    · simp [Value.cells] at hcs
      obtain ⟨rfl, rfl, rfl⟩ := hcs
      exact ⟨zs, .inr ⟨_, rfl, hl, hm, by simpa using hz, hcell, hwz⟩⟩
  clear hA0 hval0
  refine (walk a0 len0 cap0 z0 a1 len1 cap1 z1 W w0 w1).mono fun e W' ⟨he, bel⟩ => ?_
  subst he
  exact ⟨_, rfl, _, _, _, [], _, [], hW', trodAll_mk1 (shut_bool Try.underlying4 _), (trodAll_cons_mk (Below.trod laidOut (by kernel_rfl) (of_decide_eq_true (by kernel_rfl)) k0 bel lt0) (trodAll_cons_mk (Below.trod laidOut (by kernel_rfl) (of_decide_eq_true (by kernel_rfl)) k1 bel lt1) trodAll_mk0)), rfl, bel.frame _, fun h => by cases h⟩

theorem over : Rows.sumAllRow.holds Try.pinned (OpenSpec.ofChange Rows.sumAllSpec) :=
  OpenClaim.holds_of_wide 3 Try.f3 rfl rfl rfl rfl rfl rfl rfl ⟨rfl, rfl, rfl, rfl, rfl⟩ rfl rfl rfl rfl rfl (by kernel_rfl) Try.func3 (by kernel_rfl)
    (of_decide_eq_true (by kernel_rfl)) (by unfold Func.isWrapper; first | (rw [if_pos (by decide +kernel)]; kernel_rfl) | (rw [if_neg (by decide +kernel)]; exact ⟨rfl, rfl⟩))
    (fun os started H enc _ => lifted os started H enc)

theorem proved : Rows.SumAllSaid := over
end Go.Proofs.Ytehednmbapgbeaa.sumAll
namespace Go.Proofs.Ytehednmbapgbeaa
theorem sumAll_holds : Rows.SumAllSaid := sumAll.proved
#print axioms sumAll_holds
end Go.Proofs.Ytehednmbapgbeaa
