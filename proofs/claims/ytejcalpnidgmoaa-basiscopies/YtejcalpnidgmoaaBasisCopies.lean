/-
  A copy of a Basis goes on by itself, as one that was never copied does: the call returns true for every six rows and every place (no condition).
-/
import Derived.Test.YtejcalpnidgmoaaRows
import Derived.WalkKit
import Derived.ProofKit
import Derived.OpenShut
import Derived.ShutString
import Derived.ChangeOld
import Derived.Below
import Derived.Carry
import Derived.Test.YtejcalpnidgmoaaOpn
import Derived.Test.YtejcalpnidgmoaaTab
namespace Go.Proofs.Ytejcalpnidgmoaa.basisCopies
open Go.ChangeShapes Go.WideShapes Go.ChangeAt Go.RowKit
open Go.ChangeMaps (open_string shut_string)
set_option linter.unusedVariables false

theorem own : ownKnob Try.prog.godebug = none := by kernel_rfl
theorem laidOut : laidOutB Try.prog = true := by kernel_rfl

open Go.Deep

/-- Two Bases with the same rows, apart from one another. -/
structure Twins (w wr : World) (B R C Q : Nat) (S : Nat → Option (Nat → Nat)) : Prop where
  one : BasisAt wr B R 3 1 S
  two : BasisAt wr C Q 3 1 S
  ne : R ≠ Q
  gr : w.heap.size ≤ R
  gq : w.heap.size ≤ Q
  below : Below w.heap.size w wr

theorem zero_at (W : World) (g : Nat) (hc : W.cell? ⟨g, 0, none⟩ = some (.int .u8 0)) : BytesAt W (some ⟨g, 0, none⟩) 1 (fun _ => 0) :=
  ⟨fun _ => ⟨g, 0, rfl, fun i hi => by have e : i = 0 := by omega
                                       subst e
                                       exact hc⟩, fun _ _ => by decide⟩
theorem arr_bytes {w : World} {b o len n j : Nat} {f : Nat → Nat → Nat} (h : ∀ i, i < len → ∀ j, j < n → w.cell? ⟨b, o + (i * n + j), none⟩ = some (.int .u8 (f i j : Int)) ∧ f i j < 256) (hj : j < len) : BytesAt w (some ⟨b, o + j * n, none⟩) n (f j) :=
  ⟨fun _ => ⟨b, o + j * n, rfl, fun i hi => by rw [Nat.add_assoc]; exact (h j hj i hi).1⟩, fun i hi => (h j hj i hi).2⟩
theorem add_lits_any (B R k size : Nat) (S : Nat → Option (Nat → Nat)) (l1 l2 : List Nat) (A1 A2 : Array Value) (w : World) (h : BasisAt w B R k size S) (e1 : A1 = cellsL l1) (e2 : A2 = cellsL l2)
    (h1 : l1.all (fun n => decide (n < 256)) = true) (h2 : l2.all (fun n => decide (n < 256)) = true) (n1 : l1.length = k) (n2 : l2.length = size) :
    Calls Try.prog 13 #[.pointer (some ⟨B, 0, none⟩), .slice (some ⟨w.heap.size, 0, none⟩) k k, .slice (some ⟨w.heap.size + 1, 0, none⟩) size size] ((w.alloc (.cells A1 5)).alloc (.cells A2 5)) fun e w' => Added w B R k size S (cat (listAt l1) (listAt l2) k) e w' := by
  obtain ⟨hx, hy⟩ := lits_at w l1 l2 A1 A2 e1 e2 h1 h2
  rw [n1] at hx
  rw [n2] at hy
  have hb := below_two w (.cells A1 5) (.cells A2 5)
  refine (add_yes B R k size k size _ _ S _ _ _ (h.grew hb) hx hy).mono ?_
  rintro e w' ⟨rfl, h3, h4⟩
  exact ⟨rfl, h3, (Kept.of_below hb).trans h4⟩

set_option maxRecDepth 100000 in
set_option maxHeartbeats 2000000 in
theorem core (a0 : Option Addr) (len0 cap0 : Nat) (f : Nat → Nat → Nat) (n : Nat) (w : World) (h0 : ArrsAt w a0 len0 3 f) (hn : n < 256) (hl : len0 ≤ 6) :
    Calls Try.prog 7 #[.slice a0 len0 cap0, .int .u8 (n : Int)] w fun e w' => e = .returned (.bool true) ∧ Below w.heap.size w w' := by
  have HA : Hid (ArrsAt w a0 len0 3 f) := h0
  clear h0
  go_enter Try.func7, Try.ntmps7
  go_wp2_with fail
  refine (begun2_any _).mono ?_
  rintro e w1 ⟨rfl, hb1⟩
  go_wp2_with fail
  refine (new_any _).mono ?_
  rintro e w2 ⟨rfl, hb2, hf2, hs2⟩
  go_wp2_with fail
  refine (newBasis_yes w1.heap.size 3 1 _ hf2 (by decide) (by decide) (by decide) (by decide)).mono ?_
  rintro e w3 ⟨B, R, rfl, gB, gR, h3, hb3⟩
  have K3 : Hid (Below w.heap.size w w3) := (hb1.trans (hb2.mono hb1.size)).trans (hb3.mono (by have := hb1.size; have := hb2.size; omega))
  have GR : Hid (w.heap.size ≤ R) := by show w.heap.size ≤ R; have := hb1.size; have := hb2.size; omega
  clear hb1 hb2 hf2 hs2 hb3 gB gR
  go_wp2_with fail
  refine (new_any _).mono ?_
  rintro e w4 ⟨rfl, hb4, hf4, hs4⟩
  go_wp2_with fail
  refine (newBasis_yes w3.heap.size 3 1 _ hf4 (by decide) (by decide) (by decide) (by decide)).mono ?_
  rintro e w5 ⟨C, Q, rfl, gC, gQ, h5, hb5⟩
  have T5 : Hid (Twins w w5 B R C Q (fun _ => none)) := by
    have := hb4.size
    have := h3.lt
    have := K3.out.size
    exact ⟨(h3.grew hb4).grew hb5, h5, by omega, GR.out, by omega, (K3.out.trans (hb4.mono K3.out.size)).trans (hb5.mono (by omega))⟩
  clear h3 h5 hb4 hf4 hs4 gC gQ hb5 K3 GR
  go_wp2_with fail
  go_loopw [5, 9] (fun p i wr => ∃ (j B R : Nat) (S : Nat → Option (Nat → Nat)), j ≤ len0 ∧ i = .int .i64 j ∧ p = .pointer (some ⟨B, 0, none⟩) ∧ Twins w wr B R C Q S) (fun _ i _ => len0 - (intOf i).toNat)
  case atStart => exact ⟨0, B, R, _, Nat.zero_le _, rfl, rfl, T5.out⟩
  case round =>
    clear T5
    obtain ⟨j, B1, R1, S, hj, rfl, rfl, hT⟩ := hrel
    by_cases hjk : j < len0
    · obtain ⟨b, o, rfl, hA⟩ := HA.out (by omega)
      have i1 : (j : Int) < (len0 : Int) := by omega
      have HT : Hid (Twins w wr B1 R1 C Q S) := hT
      clear hT
      by_cases hat : j = n % 6
      · have e1 : ((j : Int) == (n : Int) % 6) = true := by simp; omega
        clear hat
        go_wp2_with fail
        refine (copy_any B1 R1 3 1 S wr HT.out.one).mono ?_
        rintro e w6 ⟨D, E, rfl, gD, gE, h6, hb6⟩
        have o6 := HT.out.one.grew hb6
        have t6 := HT.out.two.grew hb6
        have d6 : E ≠ R1 ∧ E ≠ Q := by have := HT.out.one.lt; have := HT.out.two.lt; omega
        have K6 : Hid (Below w.heap.size w w6) := HT.out.below.trans (hb6.mono HT.out.below.size)
        have gE6 : Hid (w.heap.size ≤ E) := by show w.heap.size ≤ E; have := HT.out.below.size; omega
        clear hb6 gD gE
        go_wp2_with fail
        refine (add_lits_any B1 R1 3 1 S [1, 0, 0] [1] #[.int .u8 1, .int .u8 0, .int .u8 0] #[.int .u8 1] w6 o6 rfl rfl (by decide) (by decide) rfl rfl).mono ?_
        rintro e w7 ⟨rfl, o7, k7⟩
        have h7 := h6.kept k7 o6.apart d6.1
        have t7 := t6.kept k7 o6.apart HT.out.ne.symm
        have K7 : Hid (Below w.heap.size w w7) := K6.out.trans (k7.below HT.out.gr K6.out.size)
        clear h6 o6 t6 k7 K6
        go_wp2_with fail
        refine (add_lits_any B1 R1 3 1 _ [0, 1, 0] [1] #[.int .u8 0, .int .u8 1, .int .u8 0] #[.int .u8 1] w7 o7 rfl rfl (by decide) (by decide) rfl rfl).mono ?_
        rintro e w8 ⟨rfl, o8, k8⟩
        have T8 : Hid (Twins w w8 D E C Q S) := ⟨h7.kept k8 o7.apart d6.1, t7.kept k8 o7.apart HT.out.ne.symm, d6.2, gE6.out, HT.out.gq, K7.out.trans (k8.below HT.out.gr K7.out.size)⟩
        clear h7 o7 t7 k8 K7 o8 d6 gE6 HT
        have X0 : Hid (BytesAt w8 (some ⟨b, o + j * 3, none⟩) 3 (f j)) := (arr_bytes hA hjk).below T8.out.below (Nat.le_refl _)
        go_wp2_with fail
        refine wp_region_any (by kernel_rfl) ?_
        refine wpAny_take (i := 0) (v := .pointer (some ⟨D, 0, none⟩)) rfl (by kernel_rfl) (by kernel_rfl) (by kernel_rfl) (fun _ _ _ h => h) (Or.inl ⟨by kernel_rfl, fun _ => by kernel_rfl⟩) ?_
        refine wpAny_take (i := 1) (v := .bool false) rfl (by kernel_rfl) (by kernel_rfl) (by kernel_rfl) (fun _ _ _ h => h) (Or.inl ⟨by kernel_rfl, fun _ => by kernel_rfl⟩) ?_
        refine wpAny_take (i := 2) (v := .bool false) rfl (by kernel_rfl) (by kernel_rfl) (by kernel_rfl) (fun _ _ _ h => h) (Or.inl ⟨by kernel_rfl, fun _ => by kernel_rfl⟩) ?_
        refine wpAny_take (i := 3) (v := .pointer (some ⟨D, 0, none⟩)) rfl (by kernel_rfl) (by kernel_rfl) (by kernel_rfl) (fun _ _ _ h => h) (Or.inl ⟨by kernel_rfl, fun _ => by kernel_rfl⟩) ?_
        refine wpAny_take (i := 4) (v := .slice (some ⟨b, o, none⟩) len0 cap0) rfl (by kernel_rfl) (by kernel_rfl) (by kernel_rfl) (fun _ _ _ h => h) (Or.inl ⟨by kernel_rfl, fun _ => by kernel_rfl⟩) ?_
        refine wpAny_take (i := 5) (v := .int .i64 (j : Int)) rfl (by kernel_rfl) (by kernel_rfl) (by kernel_rfl) (fun _ _ _ h => h) (Or.inl ⟨by kernel_rfl, fun _ => by kernel_rfl⟩) ?_
        refine wpAny_take (i := 6) (v := .pointer (some ⟨b, o + j * 3, none⟩)) rfl (by kernel_rfl) (by kernel_rfl) (by kernel_rfl) (fun _ _ _ h => h) (Or.inl ⟨by kernel_rfl, fun _ => by go_simp⟩) ?_
        refine wpAny_take (i := 7) (v := .slice (some ⟨b, o + j * 3, none⟩) 3 3) rfl (by kernel_rfl) (by kernel_rfl) (by kernel_rfl) (fun _ _ _ h => h) (Or.inl ⟨by kernel_rfl, fun _ => by go_simp⟩) ?_
        refine wpAny_take (i := 10) (v := .pointer (some ⟨C, 0, none⟩)) rfl (by kernel_rfl) (by kernel_rfl) (by kernel_rfl) (fun _ _ _ h => h) (Or.inl ⟨by kernel_rfl, fun _ => by kernel_rfl⟩) ?_
        refine wpAny_take (i := 11) (v := .slice (some ⟨b, o, none⟩) len0 cap0) rfl (by kernel_rfl) (by kernel_rfl) (by kernel_rfl) (fun _ _ _ h => h) (Or.inl ⟨by kernel_rfl, fun _ => by kernel_rfl⟩) ?_
        refine wpAny_take (i := 12) (v := .int .i64 (j : Int)) rfl (by kernel_rfl) (by kernel_rfl) (by kernel_rfl) (fun _ _ _ h => h) (Or.inl ⟨by kernel_rfl, fun _ => by kernel_rfl⟩) ?_
        refine wpAny_take (i := 13) (v := .pointer (some ⟨b, o + j * 3, none⟩)) rfl (by kernel_rfl) (by kernel_rfl) (by kernel_rfl) (fun _ _ _ h => h) (Or.inl ⟨by kernel_rfl, fun _ => by go_simp⟩) ?_
        refine wpAny_take (i := 14) (v := .slice (some ⟨b, o + j * 3, none⟩) 3 3) rfl (by kernel_rfl) (by kernel_rfl) (by kernel_rfl) (fun _ _ _ h => h) (Or.inl ⟨by kernel_rfl, fun _ => by go_simp⟩) ?_
        refine wpAny_ready (rs := [8, 15]) (by kernel_rfl) (by simp) ?_
        refine AllReady.cons rfl (fun K2 hK2 => ?_) (AllReady.cons rfl (fun K2 hK2 => ?_) AllReady.nil)
        · go_simp
          refine hK2 _ _ ?_
          clear hK2 K2
          refine wpAny_ready (rs := [9, 15]) (by kernel_rfl) (by simp) ?_
          refine AllReady.cons rfl (fun K2 hK2 => ?_) (AllReady.cons rfl (fun K2 hK2 => ?_) AllReady.nil)
          · go_simp
            refine (add_yes D E 3 1 _ _ _ _ S (f j) (fun _ => 0) _ (T8.out.one.grew (by repeat (first | exact Below.refl _ _ | refine Below.drew ?_ | refine Below.alloc ?_ (by simp) _))) (X0.out.grew (by repeat (first | exact Below.refl _ _ | refine Below.drew ?_ | refine Below.alloc ?_ (by simp) _))) (zero_at _ _ (by simp))).mono ?_
            rintro e w9 ⟨rfl, h9, k9⟩
            have Y9 : BasisAt w9 C Q 3 1 S := (T8.out.two.grew (by repeat (first | exact Below.refl _ _ | refine Below.drew ?_ | refine Below.alloc ?_ (by simp) _))).kept k9 (T8.out.one.grew (by repeat (first | exact Below.refl _ _ | refine Below.drew ?_ | refine Below.alloc ?_ (by simp) _))).apart T8.out.ne.symm
            have X9 : BytesAt w9 (some ⟨b, o + j * 3, none⟩) 3 (f j) := (X0.out.grew (by repeat (first | exact Below.refl _ _ | refine Below.drew ?_ | refine Below.alloc ?_ (by simp) _))).kept k9 (T8.out.one.grew (by repeat (first | exact Below.refl _ _ | refine Below.drew ?_ | refine Below.alloc ?_ (by simp) _))).apart
            have Z9 := fun g (hg : World.cell? _ ⟨g, 0, none⟩ = some (Value.int .u8 0)) => k9.cell hg ((T8.out.one.grew (by repeat (first | exact Below.refl _ _ | refine Below.drew ?_ | refine Below.alloc ?_ (by simp) _))).apart _ _ _ _ hg)
            have K9 : Below w.heap.size w w9 := (T8.out.below.trans (Below.mono (B := w8.heap.size) (by repeat (first | exact Below.refl _ _ | refine Below.drew ?_ | refine Below.alloc ?_ (by simp) _)) T8.out.below.size)).trans (k9.below T8.out.gr (by have := T8.out.below.size; first | omega | (simp; omega)))
            refine hK2 _ _ ?_
            clear hK2 K2
            refine wpAny_ready (rs := [15]) (by kernel_rfl) (by simp) ?_
            refine AllReady.cons rfl (fun K2 hK2 => ?_) AllReady.nil
            go_simp
            refine hK2 _ _ ?_
            clear hK2 K2
            refine wpAny_ready (rs := [16]) (by kernel_rfl) (by simp) ?_
            refine AllReady.cons rfl (fun K2 hK2 => ?_) AllReady.nil
            go_simp
            refine (add_yes C Q 3 1 _ _ _ _ S (f j) (fun _ => 0) _ (Y9.grew (by repeat (first | exact Below.refl _ _ | refine Below.drew ?_ | refine Below.alloc ?_ (by simp) _))) (X9.grew (by repeat (first | exact Below.refl _ _ | refine Below.drew ?_ | refine Below.alloc ?_ (by simp) _))) (zero_at _ _ (by simp))).mono ?_
            rintro e w10 ⟨rfl, h10, k10⟩
            have T10 : Twins w w10 D E C Q _ := ⟨(h9.grew (by repeat (first | exact Below.refl _ _ | refine Below.drew ?_ | refine Below.alloc ?_ (by simp) _))).kept k10 (Y9.grew (by repeat (first | exact Below.refl _ _ | refine Below.drew ?_ | refine Below.alloc ?_ (by simp) _))).apart T8.out.ne, h10, T8.out.ne, T8.out.gr, T8.out.gq, (K9.trans (Below.mono (B := w9.heap.size) (by repeat (first | exact Below.refl _ _ | refine Below.drew ?_ | refine Below.alloc ?_ (by simp) _)) K9.size)).trans (k10.below T8.out.gq (by have := K9.size; first | omega | (simp; omega)))⟩
            refine hK2 _ _ ?_
            clear hK2 K2
            generalize (addOf S 3 (cat (f j) (fun _ => 0) 3)).1 = ans
            have T10 : Hid _ := T10
            clear h9 k9 Y9 X9 Z9 K9 h10 k10
            refine wpAny_take (i := 17) (v := .bool false) rfl (by kernel_rfl) (by kernel_rfl) (by kernel_rfl) (fun _ _ _ h => h) (Or.inl ⟨by kernel_rfl, fun _ => by go_simp⟩) ?_
            refine wpAny_take (i := 18) (v := .bool false) rfl (by kernel_rfl) (by kernel_rfl) (by kernel_rfl) (fun _ _ _ h => h) (Or.inl ⟨by kernel_rfl, fun _ => by kernel_rfl⟩) ?_
            refine wpAny_take (i := 19) (v := .bool false) rfl (by kernel_rfl) (by kernel_rfl) (by kernel_rfl) (fun _ _ _ h => h) (Or.inl ⟨by kernel_rfl, fun _ => by kernel_rfl⟩) ?_
            refine wpAny_take (i := 20) (v := .pointer (some ⟨D, 0, none⟩)) rfl (by kernel_rfl) (by kernel_rfl) (by kernel_rfl) (fun _ _ _ h => h) (Or.inl ⟨by kernel_rfl, fun _ => by kernel_rfl⟩) ?_
            refine wpAny_take (i := 22) (v := .pointer (some ⟨C, 0, none⟩)) rfl (by kernel_rfl) (by kernel_rfl) (by kernel_rfl) (fun _ _ _ h => h) (Or.inl ⟨by kernel_rfl, fun _ => by kernel_rfl⟩) ?_
            refine wpAny_ready (rs := [21]) (by kernel_rfl) (by simp) ?_
            refine AllReady.cons rfl (fun K2 hK2 => ?_) AllReady.nil
            go_simp
            refine (rank_any D E 3 1 _ _ T10.out.one).mono ?_
            rintro e w11 ⟨rfl, rfl⟩
            refine hK2 _ _ ?_
            clear hK2 K2
            refine wpAny_ready (rs := [23]) (by kernel_rfl) (by simp) ?_
            refine AllReady.cons rfl (fun K2 hK2 => ?_) AllReady.nil
            go_simp
            refine (rank_any C Q 3 1 _ _ T10.out.two).mono ?_
            rintro e w12 ⟨rfl, rfl⟩
            refine hK2 _ _ ?_
            clear hK2 K2
            generalize (rankTo (addOf S 3 (cat (f j) (fun _ => 0) 3)).2 3 : Int) = rk
            refine wpAny_take (i := 24) (v := .bool false) rfl (by kernel_rfl) (by kernel_rfl) (by kernel_rfl) (fun _ _ _ h => h) (Or.inl ⟨by kernel_rfl, fun _ => by go_simp⟩) ?_
            refine wpAny_take (i := 25) (v := .bool false) rfl (by kernel_rfl) (by kernel_rfl) (by kernel_rfl) (fun _ _ _ h => h) (Or.inl ⟨by kernel_rfl, fun _ => by kernel_rfl⟩) ?_
            refine wpAny_done (by kernel_rfl) ?_ _
            go_wp2
            go_roundw
            case rel => exact ⟨j + 1, D, E, _, by omega, by go_num, rfl, T10.out⟩
            case measure => simp [intOf]; omega
          · go_simp
            refine hK2 _ _ ?_
            clear hK2 K2
            refine wpAny_ready (rs := [9]) (by kernel_rfl) (by simp) ?_
            refine AllReady.cons rfl (fun K2 hK2 => ?_) AllReady.nil
            go_simp
            refine (add_yes D E 3 1 _ _ _ _ S (f j) (fun _ => 0) _ (T8.out.one.grew (by repeat (first | exact Below.refl _ _ | refine Below.drew ?_ | refine Below.alloc ?_ (by simp) _))) (X0.out.grew (by repeat (first | exact Below.refl _ _ | refine Below.drew ?_ | refine Below.alloc ?_ (by simp) _))) (zero_at _ _ (by simp))).mono ?_
            rintro e w9 ⟨rfl, h9, k9⟩
            have Y9 : BasisAt w9 C Q 3 1 S := (T8.out.two.grew (by repeat (first | exact Below.refl _ _ | refine Below.drew ?_ | refine Below.alloc ?_ (by simp) _))).kept k9 (T8.out.one.grew (by repeat (first | exact Below.refl _ _ | refine Below.drew ?_ | refine Below.alloc ?_ (by simp) _))).apart T8.out.ne.symm
            have X9 : BytesAt w9 (some ⟨b, o + j * 3, none⟩) 3 (f j) := (X0.out.grew (by repeat (first | exact Below.refl _ _ | refine Below.drew ?_ | refine Below.alloc ?_ (by simp) _))).kept k9 (T8.out.one.grew (by repeat (first | exact Below.refl _ _ | refine Below.drew ?_ | refine Below.alloc ?_ (by simp) _))).apart
            have Z9 := fun g (hg : World.cell? _ ⟨g, 0, none⟩ = some (Value.int .u8 0)) => k9.cell hg ((T8.out.one.grew (by repeat (first | exact Below.refl _ _ | refine Below.drew ?_ | refine Below.alloc ?_ (by simp) _))).apart _ _ _ _ hg)
            have K9 : Below w.heap.size w w9 := (T8.out.below.trans (Below.mono (B := w8.heap.size) (by repeat (first | exact Below.refl _ _ | refine Below.drew ?_ | refine Below.alloc ?_ (by simp) _)) T8.out.below.size)).trans (k9.below T8.out.gr (by have := T8.out.below.size; first | omega | (simp; omega)))
            refine hK2 _ _ ?_
            clear hK2 K2
            refine wpAny_ready (rs := [16]) (by kernel_rfl) (by simp) ?_
            refine AllReady.cons rfl (fun K2 hK2 => ?_) AllReady.nil
            go_simp
            refine (add_yes C Q 3 1 _ _ _ _ S (f j) (fun _ => 0) _ (Y9.grew (by repeat (first | exact Below.refl _ _ | refine Below.drew ?_ | refine Below.alloc ?_ (by simp) _))) (X9.grew (by repeat (first | exact Below.refl _ _ | refine Below.drew ?_ | refine Below.alloc ?_ (by simp) _))) (zero_at _ _ (Z9 _ (by simp)))).mono ?_
            rintro e w10 ⟨rfl, h10, k10⟩
            have T10 : Twins w w10 D E C Q _ := ⟨(h9.grew (by repeat (first | exact Below.refl _ _ | refine Below.drew ?_ | refine Below.alloc ?_ (by simp) _))).kept k10 (Y9.grew (by repeat (first | exact Below.refl _ _ | refine Below.drew ?_ | refine Below.alloc ?_ (by simp) _))).apart T8.out.ne, h10, T8.out.ne, T8.out.gr, T8.out.gq, (K9.trans (Below.mono (B := w9.heap.size) (by repeat (first | exact Below.refl _ _ | refine Below.drew ?_ | refine Below.alloc ?_ (by simp) _)) K9.size)).trans (k10.below T8.out.gq (by have := K9.size; first | omega | (simp; omega)))⟩
            refine hK2 _ _ ?_
            clear hK2 K2
            generalize (addOf S 3 (cat (f j) (fun _ => 0) 3)).1 = ans
            have T10 : Hid _ := T10
            clear h9 k9 Y9 X9 Z9 K9 h10 k10
            refine wpAny_take (i := 17) (v := .bool false) rfl (by kernel_rfl) (by kernel_rfl) (by kernel_rfl) (fun _ _ _ h => h) (Or.inl ⟨by kernel_rfl, fun _ => by go_simp⟩) ?_
            refine wpAny_take (i := 18) (v := .bool false) rfl (by kernel_rfl) (by kernel_rfl) (by kernel_rfl) (fun _ _ _ h => h) (Or.inl ⟨by kernel_rfl, fun _ => by kernel_rfl⟩) ?_
            refine wpAny_take (i := 19) (v := .bool false) rfl (by kernel_rfl) (by kernel_rfl) (by kernel_rfl) (fun _ _ _ h => h) (Or.inl ⟨by kernel_rfl, fun _ => by kernel_rfl⟩) ?_
            refine wpAny_take (i := 20) (v := .pointer (some ⟨D, 0, none⟩)) rfl (by kernel_rfl) (by kernel_rfl) (by kernel_rfl) (fun _ _ _ h => h) (Or.inl ⟨by kernel_rfl, fun _ => by kernel_rfl⟩) ?_
            refine wpAny_take (i := 22) (v := .pointer (some ⟨C, 0, none⟩)) rfl (by kernel_rfl) (by kernel_rfl) (by kernel_rfl) (fun _ _ _ h => h) (Or.inl ⟨by kernel_rfl, fun _ => by kernel_rfl⟩) ?_
            refine wpAny_ready (rs := [21]) (by kernel_rfl) (by simp) ?_
            refine AllReady.cons rfl (fun K2 hK2 => ?_) AllReady.nil
            go_simp
            refine (rank_any D E 3 1 _ _ T10.out.one).mono ?_
            rintro e w11 ⟨rfl, rfl⟩
            refine hK2 _ _ ?_
            clear hK2 K2
            refine wpAny_ready (rs := [23]) (by kernel_rfl) (by simp) ?_
            refine AllReady.cons rfl (fun K2 hK2 => ?_) AllReady.nil
            go_simp
            refine (rank_any C Q 3 1 _ _ T10.out.two).mono ?_
            rintro e w12 ⟨rfl, rfl⟩
            refine hK2 _ _ ?_
            clear hK2 K2
            generalize (rankTo (addOf S 3 (cat (f j) (fun _ => 0) 3)).2 3 : Int) = rk
            refine wpAny_take (i := 24) (v := .bool false) rfl (by kernel_rfl) (by kernel_rfl) (by kernel_rfl) (fun _ _ _ h => h) (Or.inl ⟨by kernel_rfl, fun _ => by go_simp⟩) ?_
            refine wpAny_take (i := 25) (v := .bool false) rfl (by kernel_rfl) (by kernel_rfl) (by kernel_rfl) (fun _ _ _ h => h) (Or.inl ⟨by kernel_rfl, fun _ => by kernel_rfl⟩) ?_
            refine wpAny_done (by kernel_rfl) ?_ _
            go_wp2
            go_roundw
            case rel => exact ⟨j + 1, D, E, _, by omega, by go_num, rfl, T10.out⟩
            case measure => simp [intOf]; omega
        · go_simp
          refine hK2 _ _ ?_
          clear hK2 K2
          refine wpAny_ready (rs := [8]) (by kernel_rfl) (by simp) ?_
          refine AllReady.cons rfl (fun K2 hK2 => ?_) AllReady.nil
          go_simp
          refine hK2 _ _ ?_
          clear hK2 K2
          refine wpAny_ready (rs := [9]) (by kernel_rfl) (by simp) ?_
          refine AllReady.cons rfl (fun K2 hK2 => ?_) AllReady.nil
          go_simp
          refine (add_yes D E 3 1 _ _ _ _ S (f j) (fun _ => 0) _ (T8.out.one.grew (by repeat (first | exact Below.refl _ _ | refine Below.drew ?_ | refine Below.alloc ?_ (by simp) _))) (X0.out.grew (by repeat (first | exact Below.refl _ _ | refine Below.drew ?_ | refine Below.alloc ?_ (by simp) _))) (zero_at _ _ (by simp))).mono ?_
          rintro e w9 ⟨rfl, h9, k9⟩
          have Y9 : BasisAt w9 C Q 3 1 S := (T8.out.two.grew (by repeat (first | exact Below.refl _ _ | refine Below.drew ?_ | refine Below.alloc ?_ (by simp) _))).kept k9 (T8.out.one.grew (by repeat (first | exact Below.refl _ _ | refine Below.drew ?_ | refine Below.alloc ?_ (by simp) _))).apart T8.out.ne.symm
          have X9 : BytesAt w9 (some ⟨b, o + j * 3, none⟩) 3 (f j) := (X0.out.grew (by repeat (first | exact Below.refl _ _ | refine Below.drew ?_ | refine Below.alloc ?_ (by simp) _))).kept k9 (T8.out.one.grew (by repeat (first | exact Below.refl _ _ | refine Below.drew ?_ | refine Below.alloc ?_ (by simp) _))).apart
          have Z9 := fun g (hg : World.cell? _ ⟨g, 0, none⟩ = some (Value.int .u8 0)) => k9.cell hg ((T8.out.one.grew (by repeat (first | exact Below.refl _ _ | refine Below.drew ?_ | refine Below.alloc ?_ (by simp) _))).apart _ _ _ _ hg)
          have K9 : Below w.heap.size w w9 := (T8.out.below.trans (Below.mono (B := w8.heap.size) (by repeat (first | exact Below.refl _ _ | refine Below.drew ?_ | refine Below.alloc ?_ (by simp) _)) T8.out.below.size)).trans (k9.below T8.out.gr (by have := T8.out.below.size; first | omega | (simp; omega)))
          refine hK2 _ _ ?_
          clear hK2 K2
          refine wpAny_ready (rs := [16]) (by kernel_rfl) (by simp) ?_
          refine AllReady.cons rfl (fun K2 hK2 => ?_) AllReady.nil
          go_simp
          refine (add_yes C Q 3 1 _ _ _ _ S (f j) (fun _ => 0) _ (Y9.grew (by repeat (first | exact Below.refl _ _ | refine Below.drew ?_ | refine Below.alloc ?_ (by simp) _))) (X9.grew (by repeat (first | exact Below.refl _ _ | refine Below.drew ?_ | refine Below.alloc ?_ (by simp) _))) (zero_at _ _ (Z9 _ (by simp)))).mono ?_
          rintro e w10 ⟨rfl, h10, k10⟩
          have T10 : Twins w w10 D E C Q _ := ⟨(h9.grew (by repeat (first | exact Below.refl _ _ | refine Below.drew ?_ | refine Below.alloc ?_ (by simp) _))).kept k10 (Y9.grew (by repeat (first | exact Below.refl _ _ | refine Below.drew ?_ | refine Below.alloc ?_ (by simp) _))).apart T8.out.ne, h10, T8.out.ne, T8.out.gr, T8.out.gq, (K9.trans (Below.mono (B := w9.heap.size) (by repeat (first | exact Below.refl _ _ | refine Below.drew ?_ | refine Below.alloc ?_ (by simp) _)) K9.size)).trans (k10.below T8.out.gq (by have := K9.size; first | omega | (simp; omega)))⟩
          refine hK2 _ _ ?_
          clear hK2 K2
          generalize (addOf S 3 (cat (f j) (fun _ => 0) 3)).1 = ans
          have T10 : Hid _ := T10
          clear h9 k9 Y9 X9 Z9 K9 h10 k10
          refine wpAny_take (i := 17) (v := .bool false) rfl (by kernel_rfl) (by kernel_rfl) (by kernel_rfl) (fun _ _ _ h => h) (Or.inl ⟨by kernel_rfl, fun _ => by go_simp⟩) ?_
          refine wpAny_take (i := 18) (v := .bool false) rfl (by kernel_rfl) (by kernel_rfl) (by kernel_rfl) (fun _ _ _ h => h) (Or.inl ⟨by kernel_rfl, fun _ => by kernel_rfl⟩) ?_
          refine wpAny_take (i := 19) (v := .bool false) rfl (by kernel_rfl) (by kernel_rfl) (by kernel_rfl) (fun _ _ _ h => h) (Or.inl ⟨by kernel_rfl, fun _ => by kernel_rfl⟩) ?_
          refine wpAny_take (i := 20) (v := .pointer (some ⟨D, 0, none⟩)) rfl (by kernel_rfl) (by kernel_rfl) (by kernel_rfl) (fun _ _ _ h => h) (Or.inl ⟨by kernel_rfl, fun _ => by kernel_rfl⟩) ?_
          refine wpAny_take (i := 22) (v := .pointer (some ⟨C, 0, none⟩)) rfl (by kernel_rfl) (by kernel_rfl) (by kernel_rfl) (fun _ _ _ h => h) (Or.inl ⟨by kernel_rfl, fun _ => by kernel_rfl⟩) ?_
          refine wpAny_ready (rs := [21]) (by kernel_rfl) (by simp) ?_
          refine AllReady.cons rfl (fun K2 hK2 => ?_) AllReady.nil
          go_simp
          refine (rank_any D E 3 1 _ _ T10.out.one).mono ?_
          rintro e w11 ⟨rfl, rfl⟩
          refine hK2 _ _ ?_
          clear hK2 K2
          refine wpAny_ready (rs := [23]) (by kernel_rfl) (by simp) ?_
          refine AllReady.cons rfl (fun K2 hK2 => ?_) AllReady.nil
          go_simp
          refine (rank_any C Q 3 1 _ _ T10.out.two).mono ?_
          rintro e w12 ⟨rfl, rfl⟩
          refine hK2 _ _ ?_
          clear hK2 K2
          generalize (rankTo (addOf S 3 (cat (f j) (fun _ => 0) 3)).2 3 : Int) = rk
          refine wpAny_take (i := 24) (v := .bool false) rfl (by kernel_rfl) (by kernel_rfl) (by kernel_rfl) (fun _ _ _ h => h) (Or.inl ⟨by kernel_rfl, fun _ => by go_simp⟩) ?_
          refine wpAny_take (i := 25) (v := .bool false) rfl (by kernel_rfl) (by kernel_rfl) (by kernel_rfl) (fun _ _ _ h => h) (Or.inl ⟨by kernel_rfl, fun _ => by kernel_rfl⟩) ?_
          refine wpAny_done (by kernel_rfl) ?_ _
          go_wp2
          go_roundw
          case rel => exact ⟨j + 1, D, E, _, by omega, by go_num, rfl, T10.out⟩
          case measure => simp [intOf]; omega
      · have e1 : ((j : Int) == (n : Int) % 6) = false := by simp; omega
        clear hat
        have X0 : Hid (BytesAt wr (some ⟨b, o + j * 3, none⟩) 3 (f j)) := (arr_bytes hA hjk).below HT.out.below (Nat.le_refl _)
        go_wp2_with fail
        refine wp_region_any (by kernel_rfl) ?_
        refine wpAny_take (i := 0) (v := .pointer (some ⟨B1, 0, none⟩)) rfl (by kernel_rfl) (by kernel_rfl) (by kernel_rfl) (fun _ _ _ h => h) (Or.inl ⟨by kernel_rfl, fun _ => by kernel_rfl⟩) ?_
        refine wpAny_take (i := 1) (v := .bool false) rfl (by kernel_rfl) (by kernel_rfl) (by kernel_rfl) (fun _ _ _ h => h) (Or.inl ⟨by kernel_rfl, fun _ => by kernel_rfl⟩) ?_
        refine wpAny_take (i := 2) (v := .bool false) rfl (by kernel_rfl) (by kernel_rfl) (by kernel_rfl) (fun _ _ _ h => h) (Or.inl ⟨by kernel_rfl, fun _ => by kernel_rfl⟩) ?_
        refine wpAny_take (i := 3) (v := .pointer (some ⟨B1, 0, none⟩)) rfl (by kernel_rfl) (by kernel_rfl) (by kernel_rfl) (fun _ _ _ h => h) (Or.inl ⟨by kernel_rfl, fun _ => by kernel_rfl⟩) ?_
        refine wpAny_take (i := 4) (v := .slice (some ⟨b, o, none⟩) len0 cap0) rfl (by kernel_rfl) (by kernel_rfl) (by kernel_rfl) (fun _ _ _ h => h) (Or.inl ⟨by kernel_rfl, fun _ => by kernel_rfl⟩) ?_
        refine wpAny_take (i := 5) (v := .int .i64 (j : Int)) rfl (by kernel_rfl) (by kernel_rfl) (by kernel_rfl) (fun _ _ _ h => h) (Or.inl ⟨by kernel_rfl, fun _ => by kernel_rfl⟩) ?_
        refine wpAny_take (i := 6) (v := .pointer (some ⟨b, o + j * 3, none⟩)) rfl (by kernel_rfl) (by kernel_rfl) (by kernel_rfl) (fun _ _ _ h => h) (Or.inl ⟨by kernel_rfl, fun _ => by go_simp⟩) ?_
        refine wpAny_take (i := 7) (v := .slice (some ⟨b, o + j * 3, none⟩) 3 3) rfl (by kernel_rfl) (by kernel_rfl) (by kernel_rfl) (fun _ _ _ h => h) (Or.inl ⟨by kernel_rfl, fun _ => by go_simp⟩) ?_
        refine wpAny_take (i := 10) (v := .pointer (some ⟨C, 0, none⟩)) rfl (by kernel_rfl) (by kernel_rfl) (by kernel_rfl) (fun _ _ _ h => h) (Or.inl ⟨by kernel_rfl, fun _ => by kernel_rfl⟩) ?_
        refine wpAny_take (i := 11) (v := .slice (some ⟨b, o, none⟩) len0 cap0) rfl (by kernel_rfl) (by kernel_rfl) (by kernel_rfl) (fun _ _ _ h => h) (Or.inl ⟨by kernel_rfl, fun _ => by kernel_rfl⟩) ?_
        refine wpAny_take (i := 12) (v := .int .i64 (j : Int)) rfl (by kernel_rfl) (by kernel_rfl) (by kernel_rfl) (fun _ _ _ h => h) (Or.inl ⟨by kernel_rfl, fun _ => by kernel_rfl⟩) ?_
        refine wpAny_take (i := 13) (v := .pointer (some ⟨b, o + j * 3, none⟩)) rfl (by kernel_rfl) (by kernel_rfl) (by kernel_rfl) (fun _ _ _ h => h) (Or.inl ⟨by kernel_rfl, fun _ => by go_simp⟩) ?_
        refine wpAny_take (i := 14) (v := .slice (some ⟨b, o + j * 3, none⟩) 3 3) rfl (by kernel_rfl) (by kernel_rfl) (by kernel_rfl) (fun _ _ _ h => h) (Or.inl ⟨by kernel_rfl, fun _ => by go_simp⟩) ?_
        refine wpAny_ready (rs := [8, 15]) (by kernel_rfl) (by simp) ?_
        refine AllReady.cons rfl (fun K2 hK2 => ?_) (AllReady.cons rfl (fun K2 hK2 => ?_) AllReady.nil)
        · go_simp
          refine hK2 _ _ ?_
          clear hK2 K2
          refine wpAny_ready (rs := [9, 15]) (by kernel_rfl) (by simp) ?_
          refine AllReady.cons rfl (fun K2 hK2 => ?_) (AllReady.cons rfl (fun K2 hK2 => ?_) AllReady.nil)
          · go_simp
            refine (add_yes B1 R1 3 1 _ _ _ _ S (f j) (fun _ => 0) _ (HT.out.one.grew (by repeat (first | exact Below.refl _ _ | refine Below.drew ?_ | refine Below.alloc ?_ (by simp) _))) (X0.out.grew (by repeat (first | exact Below.refl _ _ | refine Below.drew ?_ | refine Below.alloc ?_ (by simp) _))) (zero_at _ _ (by simp))).mono ?_
            rintro e w9 ⟨rfl, h9, k9⟩
            have Y9 : BasisAt w9 C Q 3 1 S := (HT.out.two.grew (by repeat (first | exact Below.refl _ _ | refine Below.drew ?_ | refine Below.alloc ?_ (by simp) _))).kept k9 (HT.out.one.grew (by repeat (first | exact Below.refl _ _ | refine Below.drew ?_ | refine Below.alloc ?_ (by simp) _))).apart HT.out.ne.symm
            have X9 : BytesAt w9 (some ⟨b, o + j * 3, none⟩) 3 (f j) := (X0.out.grew (by repeat (first | exact Below.refl _ _ | refine Below.drew ?_ | refine Below.alloc ?_ (by simp) _))).kept k9 (HT.out.one.grew (by repeat (first | exact Below.refl _ _ | refine Below.drew ?_ | refine Below.alloc ?_ (by simp) _))).apart
            have Z9 := fun g (hg : World.cell? _ ⟨g, 0, none⟩ = some (Value.int .u8 0)) => k9.cell hg ((HT.out.one.grew (by repeat (first | exact Below.refl _ _ | refine Below.drew ?_ | refine Below.alloc ?_ (by simp) _))).apart _ _ _ _ hg)
            have K9 : Below w.heap.size w w9 := (HT.out.below.trans (Below.mono (B := wr.heap.size) (by repeat (first | exact Below.refl _ _ | refine Below.drew ?_ | refine Below.alloc ?_ (by simp) _)) HT.out.below.size)).trans (k9.below HT.out.gr (by have := HT.out.below.size; first | omega | (simp; omega)))
            refine hK2 _ _ ?_
            clear hK2 K2
            refine wpAny_ready (rs := [15]) (by kernel_rfl) (by simp) ?_
            refine AllReady.cons rfl (fun K2 hK2 => ?_) AllReady.nil
            go_simp
            refine hK2 _ _ ?_
            clear hK2 K2
            refine wpAny_ready (rs := [16]) (by kernel_rfl) (by simp) ?_
            refine AllReady.cons rfl (fun K2 hK2 => ?_) AllReady.nil
            go_simp
            refine (add_yes C Q 3 1 _ _ _ _ S (f j) (fun _ => 0) _ (Y9.grew (by repeat (first | exact Below.refl _ _ | refine Below.drew ?_ | refine Below.alloc ?_ (by simp) _))) (X9.grew (by repeat (first | exact Below.refl _ _ | refine Below.drew ?_ | refine Below.alloc ?_ (by simp) _))) (zero_at _ _ (by simp))).mono ?_
            rintro e w10 ⟨rfl, h10, k10⟩
            have T10 : Twins w w10 B1 R1 C Q _ := ⟨(h9.grew (by repeat (first | exact Below.refl _ _ | refine Below.drew ?_ | refine Below.alloc ?_ (by simp) _))).kept k10 (Y9.grew (by repeat (first | exact Below.refl _ _ | refine Below.drew ?_ | refine Below.alloc ?_ (by simp) _))).apart HT.out.ne, h10, HT.out.ne, HT.out.gr, HT.out.gq, (K9.trans (Below.mono (B := w9.heap.size) (by repeat (first | exact Below.refl _ _ | refine Below.drew ?_ | refine Below.alloc ?_ (by simp) _)) K9.size)).trans (k10.below HT.out.gq (by have := K9.size; first | omega | (simp; omega)))⟩
            refine hK2 _ _ ?_
            clear hK2 K2
            generalize (addOf S 3 (cat (f j) (fun _ => 0) 3)).1 = ans
            have T10 : Hid _ := T10
            clear h9 k9 Y9 X9 Z9 K9 h10 k10
            refine wpAny_take (i := 17) (v := .bool false) rfl (by kernel_rfl) (by kernel_rfl) (by kernel_rfl) (fun _ _ _ h => h) (Or.inl ⟨by kernel_rfl, fun _ => by go_simp⟩) ?_
            refine wpAny_take (i := 18) (v := .bool false) rfl (by kernel_rfl) (by kernel_rfl) (by kernel_rfl) (fun _ _ _ h => h) (Or.inl ⟨by kernel_rfl, fun _ => by kernel_rfl⟩) ?_
            refine wpAny_take (i := 19) (v := .bool false) rfl (by kernel_rfl) (by kernel_rfl) (by kernel_rfl) (fun _ _ _ h => h) (Or.inl ⟨by kernel_rfl, fun _ => by kernel_rfl⟩) ?_
            refine wpAny_take (i := 20) (v := .pointer (some ⟨B1, 0, none⟩)) rfl (by kernel_rfl) (by kernel_rfl) (by kernel_rfl) (fun _ _ _ h => h) (Or.inl ⟨by kernel_rfl, fun _ => by kernel_rfl⟩) ?_
            refine wpAny_take (i := 22) (v := .pointer (some ⟨C, 0, none⟩)) rfl (by kernel_rfl) (by kernel_rfl) (by kernel_rfl) (fun _ _ _ h => h) (Or.inl ⟨by kernel_rfl, fun _ => by kernel_rfl⟩) ?_
            refine wpAny_ready (rs := [21]) (by kernel_rfl) (by simp) ?_
            refine AllReady.cons rfl (fun K2 hK2 => ?_) AllReady.nil
            go_simp
            refine (rank_any B1 R1 3 1 _ _ T10.out.one).mono ?_
            rintro e w11 ⟨rfl, rfl⟩
            refine hK2 _ _ ?_
            clear hK2 K2
            refine wpAny_ready (rs := [23]) (by kernel_rfl) (by simp) ?_
            refine AllReady.cons rfl (fun K2 hK2 => ?_) AllReady.nil
            go_simp
            refine (rank_any C Q 3 1 _ _ T10.out.two).mono ?_
            rintro e w12 ⟨rfl, rfl⟩
            refine hK2 _ _ ?_
            clear hK2 K2
            generalize (rankTo (addOf S 3 (cat (f j) (fun _ => 0) 3)).2 3 : Int) = rk
            refine wpAny_take (i := 24) (v := .bool false) rfl (by kernel_rfl) (by kernel_rfl) (by kernel_rfl) (fun _ _ _ h => h) (Or.inl ⟨by kernel_rfl, fun _ => by go_simp⟩) ?_
            refine wpAny_take (i := 25) (v := .bool false) rfl (by kernel_rfl) (by kernel_rfl) (by kernel_rfl) (fun _ _ _ h => h) (Or.inl ⟨by kernel_rfl, fun _ => by kernel_rfl⟩) ?_
            refine wpAny_done (by kernel_rfl) ?_ _
            go_wp2
            go_roundw
            case rel => exact ⟨j + 1, B1, R1, _, by omega, by go_num, rfl, T10.out⟩
            case measure => simp [intOf]; omega
          · go_simp
            refine hK2 _ _ ?_
            clear hK2 K2
            refine wpAny_ready (rs := [9]) (by kernel_rfl) (by simp) ?_
            refine AllReady.cons rfl (fun K2 hK2 => ?_) AllReady.nil
            go_simp
            refine (add_yes B1 R1 3 1 _ _ _ _ S (f j) (fun _ => 0) _ (HT.out.one.grew (by repeat (first | exact Below.refl _ _ | refine Below.drew ?_ | refine Below.alloc ?_ (by simp) _))) (X0.out.grew (by repeat (first | exact Below.refl _ _ | refine Below.drew ?_ | refine Below.alloc ?_ (by simp) _))) (zero_at _ _ (by simp))).mono ?_
            rintro e w9 ⟨rfl, h9, k9⟩
            have Y9 : BasisAt w9 C Q 3 1 S := (HT.out.two.grew (by repeat (first | exact Below.refl _ _ | refine Below.drew ?_ | refine Below.alloc ?_ (by simp) _))).kept k9 (HT.out.one.grew (by repeat (first | exact Below.refl _ _ | refine Below.drew ?_ | refine Below.alloc ?_ (by simp) _))).apart HT.out.ne.symm
            have X9 : BytesAt w9 (some ⟨b, o + j * 3, none⟩) 3 (f j) := (X0.out.grew (by repeat (first | exact Below.refl _ _ | refine Below.drew ?_ | refine Below.alloc ?_ (by simp) _))).kept k9 (HT.out.one.grew (by repeat (first | exact Below.refl _ _ | refine Below.drew ?_ | refine Below.alloc ?_ (by simp) _))).apart
            have Z9 := fun g (hg : World.cell? _ ⟨g, 0, none⟩ = some (Value.int .u8 0)) => k9.cell hg ((HT.out.one.grew (by repeat (first | exact Below.refl _ _ | refine Below.drew ?_ | refine Below.alloc ?_ (by simp) _))).apart _ _ _ _ hg)
            have K9 : Below w.heap.size w w9 := (HT.out.below.trans (Below.mono (B := wr.heap.size) (by repeat (first | exact Below.refl _ _ | refine Below.drew ?_ | refine Below.alloc ?_ (by simp) _)) HT.out.below.size)).trans (k9.below HT.out.gr (by have := HT.out.below.size; first | omega | (simp; omega)))
            refine hK2 _ _ ?_
            clear hK2 K2
            refine wpAny_ready (rs := [16]) (by kernel_rfl) (by simp) ?_
            refine AllReady.cons rfl (fun K2 hK2 => ?_) AllReady.nil
            go_simp
            refine (add_yes C Q 3 1 _ _ _ _ S (f j) (fun _ => 0) _ (Y9.grew (by repeat (first | exact Below.refl _ _ | refine Below.drew ?_ | refine Below.alloc ?_ (by simp) _))) (X9.grew (by repeat (first | exact Below.refl _ _ | refine Below.drew ?_ | refine Below.alloc ?_ (by simp) _))) (zero_at _ _ (Z9 _ (by simp)))).mono ?_
            rintro e w10 ⟨rfl, h10, k10⟩
            have T10 : Twins w w10 B1 R1 C Q _ := ⟨(h9.grew (by repeat (first | exact Below.refl _ _ | refine Below.drew ?_ | refine Below.alloc ?_ (by simp) _))).kept k10 (Y9.grew (by repeat (first | exact Below.refl _ _ | refine Below.drew ?_ | refine Below.alloc ?_ (by simp) _))).apart HT.out.ne, h10, HT.out.ne, HT.out.gr, HT.out.gq, (K9.trans (Below.mono (B := w9.heap.size) (by repeat (first | exact Below.refl _ _ | refine Below.drew ?_ | refine Below.alloc ?_ (by simp) _)) K9.size)).trans (k10.below HT.out.gq (by have := K9.size; first | omega | (simp; omega)))⟩
            refine hK2 _ _ ?_
            clear hK2 K2
            generalize (addOf S 3 (cat (f j) (fun _ => 0) 3)).1 = ans
            have T10 : Hid _ := T10
            clear h9 k9 Y9 X9 Z9 K9 h10 k10
            refine wpAny_take (i := 17) (v := .bool false) rfl (by kernel_rfl) (by kernel_rfl) (by kernel_rfl) (fun _ _ _ h => h) (Or.inl ⟨by kernel_rfl, fun _ => by go_simp⟩) ?_
            refine wpAny_take (i := 18) (v := .bool false) rfl (by kernel_rfl) (by kernel_rfl) (by kernel_rfl) (fun _ _ _ h => h) (Or.inl ⟨by kernel_rfl, fun _ => by kernel_rfl⟩) ?_
            refine wpAny_take (i := 19) (v := .bool false) rfl (by kernel_rfl) (by kernel_rfl) (by kernel_rfl) (fun _ _ _ h => h) (Or.inl ⟨by kernel_rfl, fun _ => by kernel_rfl⟩) ?_
            refine wpAny_take (i := 20) (v := .pointer (some ⟨B1, 0, none⟩)) rfl (by kernel_rfl) (by kernel_rfl) (by kernel_rfl) (fun _ _ _ h => h) (Or.inl ⟨by kernel_rfl, fun _ => by kernel_rfl⟩) ?_
            refine wpAny_take (i := 22) (v := .pointer (some ⟨C, 0, none⟩)) rfl (by kernel_rfl) (by kernel_rfl) (by kernel_rfl) (fun _ _ _ h => h) (Or.inl ⟨by kernel_rfl, fun _ => by kernel_rfl⟩) ?_
            refine wpAny_ready (rs := [21]) (by kernel_rfl) (by simp) ?_
            refine AllReady.cons rfl (fun K2 hK2 => ?_) AllReady.nil
            go_simp
            refine (rank_any B1 R1 3 1 _ _ T10.out.one).mono ?_
            rintro e w11 ⟨rfl, rfl⟩
            refine hK2 _ _ ?_
            clear hK2 K2
            refine wpAny_ready (rs := [23]) (by kernel_rfl) (by simp) ?_
            refine AllReady.cons rfl (fun K2 hK2 => ?_) AllReady.nil
            go_simp
            refine (rank_any C Q 3 1 _ _ T10.out.two).mono ?_
            rintro e w12 ⟨rfl, rfl⟩
            refine hK2 _ _ ?_
            clear hK2 K2
            generalize (rankTo (addOf S 3 (cat (f j) (fun _ => 0) 3)).2 3 : Int) = rk
            refine wpAny_take (i := 24) (v := .bool false) rfl (by kernel_rfl) (by kernel_rfl) (by kernel_rfl) (fun _ _ _ h => h) (Or.inl ⟨by kernel_rfl, fun _ => by go_simp⟩) ?_
            refine wpAny_take (i := 25) (v := .bool false) rfl (by kernel_rfl) (by kernel_rfl) (by kernel_rfl) (fun _ _ _ h => h) (Or.inl ⟨by kernel_rfl, fun _ => by kernel_rfl⟩) ?_
            refine wpAny_done (by kernel_rfl) ?_ _
            go_wp2
            go_roundw
            case rel => exact ⟨j + 1, B1, R1, _, by omega, by go_num, rfl, T10.out⟩
            case measure => simp [intOf]; omega
        · go_simp
          refine hK2 _ _ ?_
          clear hK2 K2
          refine wpAny_ready (rs := [8]) (by kernel_rfl) (by simp) ?_
          refine AllReady.cons rfl (fun K2 hK2 => ?_) AllReady.nil
          go_simp
          refine hK2 _ _ ?_
          clear hK2 K2
          refine wpAny_ready (rs := [9]) (by kernel_rfl) (by simp) ?_
          refine AllReady.cons rfl (fun K2 hK2 => ?_) AllReady.nil
          go_simp
          refine (add_yes B1 R1 3 1 _ _ _ _ S (f j) (fun _ => 0) _ (HT.out.one.grew (by repeat (first | exact Below.refl _ _ | refine Below.drew ?_ | refine Below.alloc ?_ (by simp) _))) (X0.out.grew (by repeat (first | exact Below.refl _ _ | refine Below.drew ?_ | refine Below.alloc ?_ (by simp) _))) (zero_at _ _ (by simp))).mono ?_
          rintro e w9 ⟨rfl, h9, k9⟩
          have Y9 : BasisAt w9 C Q 3 1 S := (HT.out.two.grew (by repeat (first | exact Below.refl _ _ | refine Below.drew ?_ | refine Below.alloc ?_ (by simp) _))).kept k9 (HT.out.one.grew (by repeat (first | exact Below.refl _ _ | refine Below.drew ?_ | refine Below.alloc ?_ (by simp) _))).apart HT.out.ne.symm
          have X9 : BytesAt w9 (some ⟨b, o + j * 3, none⟩) 3 (f j) := (X0.out.grew (by repeat (first | exact Below.refl _ _ | refine Below.drew ?_ | refine Below.alloc ?_ (by simp) _))).kept k9 (HT.out.one.grew (by repeat (first | exact Below.refl _ _ | refine Below.drew ?_ | refine Below.alloc ?_ (by simp) _))).apart
          have Z9 := fun g (hg : World.cell? _ ⟨g, 0, none⟩ = some (Value.int .u8 0)) => k9.cell hg ((HT.out.one.grew (by repeat (first | exact Below.refl _ _ | refine Below.drew ?_ | refine Below.alloc ?_ (by simp) _))).apart _ _ _ _ hg)
          have K9 : Below w.heap.size w w9 := (HT.out.below.trans (Below.mono (B := wr.heap.size) (by repeat (first | exact Below.refl _ _ | refine Below.drew ?_ | refine Below.alloc ?_ (by simp) _)) HT.out.below.size)).trans (k9.below HT.out.gr (by have := HT.out.below.size; first | omega | (simp; omega)))
          refine hK2 _ _ ?_
          clear hK2 K2
          refine wpAny_ready (rs := [16]) (by kernel_rfl) (by simp) ?_
          refine AllReady.cons rfl (fun K2 hK2 => ?_) AllReady.nil
          go_simp
          refine (add_yes C Q 3 1 _ _ _ _ S (f j) (fun _ => 0) _ (Y9.grew (by repeat (first | exact Below.refl _ _ | refine Below.drew ?_ | refine Below.alloc ?_ (by simp) _))) (X9.grew (by repeat (first | exact Below.refl _ _ | refine Below.drew ?_ | refine Below.alloc ?_ (by simp) _))) (zero_at _ _ (Z9 _ (by simp)))).mono ?_
          rintro e w10 ⟨rfl, h10, k10⟩
          have T10 : Twins w w10 B1 R1 C Q _ := ⟨(h9.grew (by repeat (first | exact Below.refl _ _ | refine Below.drew ?_ | refine Below.alloc ?_ (by simp) _))).kept k10 (Y9.grew (by repeat (first | exact Below.refl _ _ | refine Below.drew ?_ | refine Below.alloc ?_ (by simp) _))).apart HT.out.ne, h10, HT.out.ne, HT.out.gr, HT.out.gq, (K9.trans (Below.mono (B := w9.heap.size) (by repeat (first | exact Below.refl _ _ | refine Below.drew ?_ | refine Below.alloc ?_ (by simp) _)) K9.size)).trans (k10.below HT.out.gq (by have := K9.size; first | omega | (simp; omega)))⟩
          refine hK2 _ _ ?_
          clear hK2 K2
          generalize (addOf S 3 (cat (f j) (fun _ => 0) 3)).1 = ans
          have T10 : Hid _ := T10
          clear h9 k9 Y9 X9 Z9 K9 h10 k10
          refine wpAny_take (i := 17) (v := .bool false) rfl (by kernel_rfl) (by kernel_rfl) (by kernel_rfl) (fun _ _ _ h => h) (Or.inl ⟨by kernel_rfl, fun _ => by go_simp⟩) ?_
          refine wpAny_take (i := 18) (v := .bool false) rfl (by kernel_rfl) (by kernel_rfl) (by kernel_rfl) (fun _ _ _ h => h) (Or.inl ⟨by kernel_rfl, fun _ => by kernel_rfl⟩) ?_
          refine wpAny_take (i := 19) (v := .bool false) rfl (by kernel_rfl) (by kernel_rfl) (by kernel_rfl) (fun _ _ _ h => h) (Or.inl ⟨by kernel_rfl, fun _ => by kernel_rfl⟩) ?_
          refine wpAny_take (i := 20) (v := .pointer (some ⟨B1, 0, none⟩)) rfl (by kernel_rfl) (by kernel_rfl) (by kernel_rfl) (fun _ _ _ h => h) (Or.inl ⟨by kernel_rfl, fun _ => by kernel_rfl⟩) ?_
          refine wpAny_take (i := 22) (v := .pointer (some ⟨C, 0, none⟩)) rfl (by kernel_rfl) (by kernel_rfl) (by kernel_rfl) (fun _ _ _ h => h) (Or.inl ⟨by kernel_rfl, fun _ => by kernel_rfl⟩) ?_
          refine wpAny_ready (rs := [21]) (by kernel_rfl) (by simp) ?_
          refine AllReady.cons rfl (fun K2 hK2 => ?_) AllReady.nil
          go_simp
          refine (rank_any B1 R1 3 1 _ _ T10.out.one).mono ?_
          rintro e w11 ⟨rfl, rfl⟩
          refine hK2 _ _ ?_
          clear hK2 K2
          refine wpAny_ready (rs := [23]) (by kernel_rfl) (by simp) ?_
          refine AllReady.cons rfl (fun K2 hK2 => ?_) AllReady.nil
          go_simp
          refine (rank_any C Q 3 1 _ _ T10.out.two).mono ?_
          rintro e w12 ⟨rfl, rfl⟩
          refine hK2 _ _ ?_
          clear hK2 K2
          generalize (rankTo (addOf S 3 (cat (f j) (fun _ => 0) 3)).2 3 : Int) = rk
          refine wpAny_take (i := 24) (v := .bool false) rfl (by kernel_rfl) (by kernel_rfl) (by kernel_rfl) (fun _ _ _ h => h) (Or.inl ⟨by kernel_rfl, fun _ => by go_simp⟩) ?_
          refine wpAny_take (i := 25) (v := .bool false) rfl (by kernel_rfl) (by kernel_rfl) (by kernel_rfl) (fun _ _ _ h => h) (Or.inl ⟨by kernel_rfl, fun _ => by kernel_rfl⟩) ?_
          refine wpAny_done (by kernel_rfl) ?_ _
          go_wp2
          go_roundw
          case rel => exact ⟨j + 1, B1, R1, _, by omega, by go_num, rfl, T10.out⟩
          case measure => simp [intOf]; omega
    · have hke : j = len0 := by omega
      subst hke
      have HB : Hid (Below w.heap.size w wr) := hT.below
      go_wp2
      go_ret
      exact ⟨rfl, HB.out⟩

set_option maxRecDepth 100000 in
set_option maxHeartbeats 400000 in
theorem long (a0 : Option Addr) (len0 cap0 n : Nat) (w : World) (hl : 6 < len0) :
    Calls Try.prog 7 #[.slice a0 len0 cap0, .int .u8 (n : Int)] w fun e w' => e = .returned (.bool true) ∧ Below w.heap.size w w' := by
  have i1 : (6 : Int) < (len0 : Int) := by omega
  go_enter Try.func7, Try.ntmps7
  go_wp2_with fail
  refine (begun2_any _).mono ?_
  rintro e w1 ⟨rfl, hb1⟩
  go_wp2
  go_ret
  exact ⟨rfl, hb1⟩

theorem walk (a0 : Option Addr) (len0 cap0 : Nat) (f : Nat → Nat → Nat) (a1 : Int) (w : World) (h0 : ArrsAt w a0 len0 3 f ∧ len0 ≤ cap0 ∧ cap0 ≤ maxLen) (h1 : (Lit.int .u8 a1).wf = true) :
    Calls Try.prog 7 #[.slice a0 len0 cap0, .int .u8 a1] w fun e w' => e = .returned (.bool true) ∧ Below w.heap.size w w' := by
  obtain ⟨n, rfl, hn⟩ := wf_u8 h1
  by_cases hl : 6 < len0
  · exact long a0 len0 cap0 n w hl
  · exact core a0 len0 cap0 f n w h0.1 hn (by omega)

set_option maxRecDepth 100000 in
theorem lifted (os : Os) (started : os.Started) (H : Type) (enc : TypeId × Value → H) :
    ReturnsInHanded {} Try.checked os 7 .any (Rows.basisCopiesSpec.pre6 enc Try.prog Try.f7 Rows.basisCopiesRow.domain false) (Rows.basisCopiesSpec.post enc Try.prog Try.f7 false true false false) := by
  refine returnsInHanded_of_change (C := Try.checked) own started (by kernel_rfl) Try.func7
    (ChangeSpec.witness6 (enc := enc) (C := Try.checked) false ⟨#[], #[.slice none 0 0, .int .u8 0], []⟩ 8 (by kernel_rfl) (by kernel_rfl) (by kernel_rfl) (by kernel_rfl)) ?_
  intro W base args ds gs before hval0 hW hcnd _
  have hval : ∀ (j : Nat) t v, Try.f7.params[j]? = some t → args[j]? = some v → Value.okWide Try.prog W .any base t v := hval0
  have hW' := hW
  obtain ⟨p, q, hA0, hV, rfl, hfz, hnd⟩ := hW
  have hA : DataW.TrodAll enc Try.prog W 0 (fun _ => true) true Try.f7.params.toList args.toList ds p := hA0
  rw [Try.params7] at hA hval
  obtain ⟨v0, vs0, d0, ds0, p0, q0, hargs, rfl, rfl, h0, r0⟩ := trodAll_cons hA
  obtain ⟨v1, vs1, d1, ds1, p1, q1, rfl, rfl, rfl, h1, r1⟩ := trodAll_cons r0
  obtain ⟨rfl, rfl, rfl⟩ := trodAll_nil r1
  obtain rfl : args = #[v0, v1] := by cases args; simp_all
  obtain ⟨rfl, rfl⟩ := trodVars_none hV
  obtain ⟨a0, len0, cap0, rfl⟩ := okWide_slice Try.underlying51 (hval 0 51 v0 rfl rfl)
  have k0 := h0
  have lt0 : ∀ x ∈ p0, x.block < W.heap.size := by obtain ⟨m, hm⟩ := k0; exact DataW.trod_lt m _ _ _ hm
  obtain ⟨x0, w0⟩ := open_arrs Try.underlying51 Try.underlying52 Try.underlying5 (by kernel_rfl) (by kernel_rfl) (by decide) h0
  obtain ⟨a1, rfl, rfl, rfl, w1⟩ := open_int Try.underlying5 (hval 1 5 v1 rfl rfl) h1
  clear hA0 hval0
  refine (walk a0 len0 cap0 x0 a1 W w0 w1).mono fun e W' ⟨he, bel⟩ => ?_
  subst he
  exact ⟨_, rfl, _, _, _, [], _, [], hW', trodAll_mk1 (shut_bool Try.underlying4 _), (trodAll_cons_mk (Below.trod laidOut (by kernel_rfl) (of_decide_eq_true (by kernel_rfl)) k0 bel lt0) (trodAll_cons_mk (shut_int Try.underlying5 w1) trodAll_mk0)), rfl, bel.frame _, fun h => by cases h⟩

theorem over : Rows.basisCopiesRow.holds Try.pinned (OpenSpec.ofChange Rows.basisCopiesSpec) :=
  OpenClaim.holds_of_wide 7 Try.f7 rfl rfl rfl rfl rfl rfl rfl ⟨rfl, rfl, rfl, rfl, rfl⟩ rfl rfl rfl rfl rfl (by kernel_rfl) Try.func7 (by kernel_rfl)
    (of_decide_eq_true (by kernel_rfl)) (by unfold Func.isWrapper; first | (rw [if_pos (by decide +kernel)]; kernel_rfl) | (rw [if_neg (by decide +kernel)]; exact ⟨rfl, rfl⟩))
    (fun os started H enc _ => lifted os started H enc)

theorem proved : Rows.BasisCopiesSaid := over
end Go.Proofs.Ytejcalpnidgmoaa.basisCopies
namespace Go.Proofs.Ytejcalpnidgmoaa
theorem basisCopies_holds : Rows.BasisCopiesSaid := basisCopies.proved
#print axioms basisCopies_holds
end Go.Proofs.Ytejcalpnidgmoaa
