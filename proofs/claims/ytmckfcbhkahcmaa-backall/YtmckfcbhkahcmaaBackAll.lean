/-
  Which bytes package back puts a report, a nack, a gone as, and what it takes bytes as, are the document's, and what it is lent stays whole: the call returns true, whatever the report, the frame, the need and the bytes are (at most 30 bytes are looked at; no condition).
-/
import Derived.Test.YtmckfcbhkahcmaaRows
import Derived.WalkKit
import Derived.ProofKit
import Derived.OpenShut
import Derived.ShutString
import Derived.ChangeOld
import Derived.Below
import Derived.Carry
import Derived.Test.YtmckfcbhkahcmaaOpn
import Derived.Test.YtmckfcbhkahcmaaOpr
import Derived.Test.YtmckfcbhkahcmaaBkg
import Derived.Test.YtmckfcbhkahcmaaBdr
import Derived.Test.YtmckfcbhkahcmaaLen
namespace Go.Proofs.Ytmckfcbhkahcmaa.backAll
open Go.ChangeShapes Go.WideShapes Go.ChangeAt Go.RowKit
open Go.ChangeMaps (open_string shut_string)
set_option linter.unusedVariables false

theorem own : ownKnob Try.prog.godebug = none := by kernel_rfl
theorem laidOut : laidOutB Try.prog = true := by kernel_rfl

open Go.Deep

theorem lent_bytes {w : World} {L n : Nat} {x : Nat → Nat} (h : BytesAt w (some ⟨L, 0, none⟩) (n + 5) (lentOf x n)) : BytesAt w (some ⟨L, 0, none⟩) n x :=
  (h.take (by omega)).congr fun i hi => by unfold lentOf; rw [if_pos hi]
/-- What stands as it is while the last line is worked out. -/
structure HeldA (B G1 G2 t l g u j t' l' g' u' j' : Nat) (a : Option Addr) (n : Nat) (z : Nat → Nat) (L : Nat) (w : World) : Prop where
  d : RepAt w B t l g u j
  p : RepAt w G1 t' l' g' u' j'
  q : RepAt w G2 t' l' g' u' j'
  lent : BytesAt w (some ⟨L, 0, none⟩) (n + 5) (lentOf z n)
  came : BytesAt w a n z
theorem HeldA.grew {B G1 G2 t l g u j t' l' g' u' j' : Nat} {a : Option Addr} {n : Nat} {z : Nat → Nat} {L : Nat} {w w' : World} (h : HeldA B G1 G2 t l g u j t' l' g' u' j' a n z L w) (hb : Below w.heap.size w w') : HeldA B G1 G2 t l g u j t' l' g' u' j' a n z L w' :=
  ⟨h.d.grew hb, h.p.grew hb, h.q.grew hb, h.lent.grew hb, h.came.grew hb⟩

set_option maxRecDepth 100000 in
set_option maxHeartbeats 4000000 in
theorem core (t l g u j f k : Nat) (a : Option Addr) (n c : Nat) (z : Nat → Nat) (w : World) (lt : t < 18446744073709551616) (ll : l < 4294967296) (lg : g < 4294967296) (lu : u < 65536) (lj : j < 65536) (lf : f < 4294967296) (lk : k < 65536) (hz : BytesAt w a n z) (hc : n ≤ c) (hn : n ≤ 30) :
    Calls Try.prog 3 #[.agg #[.int .u64 (t : Int), .int .u32 (l : Int), .int .u32 (g : Int), .int .u16 (u : Int), .int .u16 (j : Int)], .int .u32 (f : Int), .int .u16 (k : Int), .slice a n c] w fun e w' => e = .returned (.bool true) ∧ Below w.heap.size w w' := by
  obtain ⟨t', l', g', u', j', E1, HT⟩ : ∃ t' l' g' u' j' E1, Hid (∀ w e w', RepTake w n z e w' → RepIs w t' l' g' u' j' E1 e w') := ⟨_, _, _, _, _, _, fun _ _ _ h => h⟩
  obtain ⟨f', k', E2, HN⟩ : ∃ f' k' E2, Hid (∀ w e w', NackTake w n z e w' → NackIs w f' k' E2 e w') := ⟨_, _, _, fun _ _ _ h => h⟩
  obtain ⟨y', E3, HG⟩ : ∃ y' E3, Hid (∀ w e w', GoneTake w n z e w' → GoneIs w y' E3 e w') := ⟨_, _, fun _ _ _ h => h⟩
  have HZ : Hid (BytesAt w a n z) := hz
  have i1 : decide ((30 : Int) < (n : Int)) = false := by simp; omega
  have D1 := RepAt.made w 26 t l g u j
  have b1 : Below w.heap.size w (w.alloc (.cells #[.int .u64 (t : Int), .int .u32 (l : Int), .int .u32 (g : Int), .int .u16 (u : Int), .int .u16 (j : Int)] 26)) := (Below.refl _ _).alloc (Nat.le_refl _) _
  clear hz
  go_enter Try.func3, Try.ntmps3
  go_wp2_with fail
  generalize (w.alloc (.cells #[.int .u64 (t : Int), .int .u32 (l : Int), .int .u32 (g : Int), .int .u16 (u : Int), .int .u16 (j : Int)] 26)) = w1 at *
  refine (begun10 _).mono ?_
  rintro e w2 ⟨rfl, d2⟩
  have D2 := D1.grew d2
  have b2 := b1.trans (d2.mono b1.size)
  clear D1 b1 d2
  go_wp2_with fail
  refine (lent_any a n c z w2 (HZ.out.grew b2) (by omega)).mono ?_
  rintro e w3 ⟨rfl, L3, d3, -⟩
  have D3 := D2.grew d3
  have b3 := b2.trans (d3.mono b2.size)
  clear D2 b2 d3 i1
  generalize w2.heap.size = L at *
  go_wp2_with fail
  refine (ktaker_any _ n (n + 5) z w3 (lent_bytes L3) (by omega)).mono ?_
  intro e w4 h4
  obtain ⟨rfl, d4⟩ := HT.out _ _ _ h4
  have D4 := D3.grew d4
  have L4 := L3.grew d4
  have b4 := b3.trans (d4.mono b3.size)
  have a5 : Below w4.heap.size w4 (w4.alloc (.cells #[.int .u64 (t' : Int), .int .u32 (l' : Int), .int .u32 (g' : Int), .int .u16 (u' : Int), .int .u16 (j' : Int)] 26)) := (Below.refl _ _).alloc (Nat.le_refl _) _
  have P5 := RepAt.made w4 26 t' l' g' u' j'
  have D5 := D4.grew a5
  have L5 := L4.grew a5
  have b5 := b4.trans (a5.mono b4.size)
  clear D3 L3 b3 d4 D4 L4 b4 a5 h4
  go_wp2_with fail
  generalize (w4.alloc (.cells #[.int .u64 (t' : Int), .int .u32 (l' : Int), .int .u32 (g' : Int), .int .u16 (u' : Int), .int .u16 (j' : Int)] 26)) = w5 at *
  generalize w4.heap.size = G1 at *
  refine (rtaker_any a n c z w5 (HZ.out.grew b5) hc).mono ?_
  intro e w6 h6
  obtain ⟨rfl, d6⟩ := HT.out _ _ _ h6
  have D6 := D5.grew d6
  have L6 := L5.grew d6
  have P6 := P5.grew d6
  have b6 := b5.trans (d6.mono b5.size)
  have a7 : Below w6.heap.size w6 (w6.alloc (.cells #[.int .u64 (t' : Int), .int .u32 (l' : Int), .int .u32 (g' : Int), .int .u16 (u' : Int), .int .u16 (j' : Int)] 26)) := (Below.refl _ _).alloc (Nat.le_refl _) _
  have Q7 := RepAt.made w6 26 t' l' g' u' j'
  have D7 := D6.grew a7
  have L7 := L6.grew a7
  have P7 := P6.grew a7
  have b7 := b6.trans (a7.mono b6.size)
  clear D5 L5 P5 b5 d6 D6 L6 P6 b6 a7 h6 HT
  go_wp2_with fail
  generalize (w6.alloc (.cells #[.int .u64 (t' : Int), .int .u32 (l' : Int), .int .u32 (g' : Int), .int .u16 (u' : Int), .int .u16 (j' : Int)] 26)) = w7 at *
  generalize w6.heap.size = G2 at *
  refine (ktaken_any _ n (n + 5) z w7 (lent_bytes L7) (by omega)).mono ?_
  intro e w8 h8
  obtain ⟨rfl, d8⟩ := HN.out _ _ _ h8
  have D8 := D7.grew d8
  have L8 := L7.grew d8
  have P8 := P7.grew d8
  have Q8 := Q7.grew d8
  have b8 := b7.trans (d8.mono b7.size)
  clear D7 L7 P7 Q7 b7 d8 h8
  go_wp2_with fail
  refine (rtaken_any a n c z w8 (HZ.out.grew b8) hc).mono ?_
  intro e w9 h9
  obtain ⟨rfl, d9⟩ := HN.out _ _ _ h9
  have D9 := D8.grew d9
  have L9 := L8.grew d9
  have P9 := P8.grew d9
  have Q9 := Q8.grew d9
  have b9 := b8.trans (d9.mono b8.size)
  clear D8 L8 P8 Q8 b8 d9 h9 HN
  go_wp2_with fail
  refine (ktakeg_any _ n (n + 5) z w9 (lent_bytes L9) (by omega)).mono ?_
  intro e w10 h10
  obtain ⟨rfl, d10⟩ := HG.out _ _ _ h10
  have D10 := D9.grew d10
  have L10 := L9.grew d10
  have P10 := P9.grew d10
  have Q10 := Q9.grew d10
  have b10 := b9.trans (d10.mono b9.size)
  clear D9 L9 P9 Q9 b9 d10 h10
  go_wp2_with fail
  refine (rtakeg_any a n c z w10 (HZ.out.grew b10)).mono ?_
  intro e w11 h11
  obtain ⟨rfl, d11⟩ := HG.out _ _ _ h11
  have D11 := D10.grew d11
  have L11 := L10.grew d11
  have P11 := P10.grew d11
  have Q11 := Q10.grew d11
  have b11 := b10.trans (d11.mono b10.size)
  have hr : HeldA w.heap.size G1 G2 t l g u j t' l' g' u' j' a n z L w11 := ⟨D11, P11, Q11, L11, HZ.out.grew b11⟩
  have b11 : Hid (Below w.heap.size w w11) := b11
  clear D10 L10 P10 Q10 b10 d11 h11 HG D11 L11 P11 Q11 HZ
  go_wp2_with fail
  simp only [List.append]
  refine wp_region_held (S := HeldA w.heap.size G1 G2 t l g u j t' l' g' u' j' a n z L) (by kernel_rfl) ?_
  change wpAnyH _ _ _ _ _ _ _ _ w11.drew
  have hr : HeldA w.heap.size G1 G2 t l g u j t' l' g' u' j' a n z L w11.drew := hr.grew (Below.refl _ _).drew
  have b11 : Hid (Below w.heap.size w w11.drew) := b11.out.drew
  generalize w11.drew = w11 at *
  refine wpAnyH_take (i := 0) (v := .agg #[.int .u64 (t : Int), .int .u32 (l : Int), .int .u32 (g : Int), .int .u16 (u : Int), .int .u16 (j : Int)]) rfl (by kernel_rfl) (by kernel_rfl) (by kernel_rfl) (fun _ _ _ h => h) (Or.inl ⟨by kernel_rfl, fun W hW => by have g0 := hW.d.c0; have g1 := hW.d.c1; have g2 := hW.d.c2; have g3 := hW.d.c3; have g4 := hW.d.c4; go_simp⟩) hr ?_
  refine wpAnyH_take (i := 3) (v := .agg #[.int .u64 (t : Int), .int .u32 (l : Int), .int .u32 (g : Int), .int .u16 (u : Int), .int .u16 (j : Int)]) rfl (by kernel_rfl) (by kernel_rfl) (by kernel_rfl) (fun _ _ _ h => h) (Or.inl ⟨by kernel_rfl, fun W hW => by have g0 := hW.d.c0; have g1 := hW.d.c1; have g2 := hW.d.c2; have g3 := hW.d.c3; have g4 := hW.d.c4; go_simp⟩) hr ?_
  refine wpAnyH_ready (rs := [1]) (by kernel_rfl) (by simp) ?_
  refine AllReadyH.cons rfl (fun K2 hK2 => ?_) AllReadyH.nil
  go_simp
  refine Calls.mono (kputr_any t l g u j w11 lt ll lg lu lj) ?_
  rintro e w12 ⟨r12, c12, rfl, -, -, B12, d12⟩
  have b12 : Hid (Below w.heap.size w w12) := b11.out.trans (d12.mono b11.out.size)
  have hr : HeldA w.heap.size G1 G2 t l g u j t' l' g' u' j' a n z L w12 := hr.grew d12
  refine hK2.out _ _ hr (fun hr => ?_)
  clear hK2 K2
  refine wpAnyH_mono (S' := fun w' => (HeldA w.heap.size G1 G2 t l g u j t' l' g' u' j' a n z L w') ∧ BytesAt w' (some ⟨r12, 0, none⟩) 20 (repLaid t l g u j)) (fun _ h => h.1) _ _ _ _ ?_
  have hr : (HeldA w.heap.size G1 G2 t l g u j t' l' g' u' j' a n z L w12) ∧ BytesAt w12 (some ⟨r12, 0, none⟩) 20 (repLaid t l g u j) := ⟨hr, B12⟩
  clear B12 d12 b11
  refine wpAnyH_take (i := 2) (v := .string (strOf 20 (repLaid t l g u j))) rfl (by kernel_rfl) (by kernel_rfl) (by kernel_rfl) (fun _ _ _ h => h) (Or.inl ⟨by kernel_rfl, fun W hW => by have g := conv_bytes _ 20 c12 _ W hW.2; go_simp⟩) hr ?_
  refine wpAnyH_ready (rs := [4]) (by kernel_rfl) (by simp) ?_
  refine AllReadyH.cons rfl (fun K2 hK2 => ?_) AllReadyH.nil
  go_simp
  refine Calls.mono (rputr_any t l g u j w12 lt ll lg lu lj) ?_
  rintro e w13 ⟨r13, c13, rfl, -, -, B13, d13⟩
  have b13 : Hid (Below w.heap.size w w13) := b12.out.trans (d13.mono b12.out.size)
  have hr : (HeldA w.heap.size G1 G2 t l g u j t' l' g' u' j' a n z L w13) ∧ BytesAt w13 (some ⟨r12, 0, none⟩) 20 (repLaid t l g u j) := ⟨hr.1.grew d13, hr.2.grew d13⟩
  refine hK2.out _ _ hr (fun hr => ?_)
  clear hK2 K2
  refine wpAnyH_mono (S' := fun w' => ((HeldA w.heap.size G1 G2 t l g u j t' l' g' u' j' a n z L w') ∧ BytesAt w' (some ⟨r12, 0, none⟩) 20 (repLaid t l g u j)) ∧ BytesAt w' (some ⟨r13, 0, none⟩) 20 (repLaid t l g u j)) (fun _ h => h.1) _ _ _ _ ?_
  have hr : ((HeldA w.heap.size G1 G2 t l g u j t' l' g' u' j' a n z L w13) ∧ BytesAt w13 (some ⟨r12, 0, none⟩) 20 (repLaid t l g u j)) ∧ BytesAt w13 (some ⟨r13, 0, none⟩) 20 (repLaid t l g u j) := ⟨hr, B13⟩
  clear B13 d13 b12
  refine wpAnyH_take (i := 5) (v := .string (strOf 20 (repLaid t l g u j))) rfl (by kernel_rfl) (by kernel_rfl) (by kernel_rfl) (fun _ _ _ h => h) (Or.inl ⟨by kernel_rfl, fun W hW => by have g := conv_bytes _ 20 c13 _ W hW.2; go_simp⟩) hr ?_
  refine wpAnyH_take (i := 6) (v := .bool true) rfl (by kernel_rfl) (by kernel_rfl) (by kernel_rfl) (fun _ _ _ h => h) (Yields.yieldsIf (Or.inl ⟨by kernel_rfl, fun _ => by go_simp⟩)) hr ?_
  refine wpAnyH_take (i := 7) (v := .bool true) rfl (by kernel_rfl) (by kernel_rfl) (by kernel_rfl) (fun _ _ _ h => h) (Yields.yieldsIf (Or.inl ⟨by kernel_rfl, fun _ => by kernel_rfl⟩)) hr ?_
  refine wpAnyH_take (i := 8) (v := .int .u32 (f : Int)) rfl (by kernel_rfl) (by kernel_rfl) (by kernel_rfl) (fun _ _ _ h => h) (Yields.yieldsIf (Or.inl ⟨by kernel_rfl, fun _ => by kernel_rfl⟩)) hr ?_
  refine wpAnyH_take (i := 9) (v := .int .u16 (k : Int)) rfl (by kernel_rfl) (by kernel_rfl) (by kernel_rfl) (fun _ _ _ h => h) (Yields.yieldsIf (Or.inl ⟨by kernel_rfl, fun _ => by kernel_rfl⟩)) hr ?_
  refine wpAnyH_take (i := 12) (v := .int .u32 (f : Int)) rfl (by kernel_rfl) (by kernel_rfl) (by kernel_rfl) (fun _ _ _ h => h) (Yields.yieldsIf (Or.inl ⟨by kernel_rfl, fun _ => by kernel_rfl⟩)) hr ?_
  refine wpAnyH_take (i := 13) (v := .int .u16 (k : Int)) rfl (by kernel_rfl) (by kernel_rfl) (by kernel_rfl) (fun _ _ _ h => h) (Yields.yieldsIf (Or.inl ⟨by kernel_rfl, fun _ => by kernel_rfl⟩)) hr ?_
  refine wpAnyH_ready (rs := [10]) (by kernel_rfl) (by simp) ?_
  refine AllReadyH.cons rfl (fun K2 hK2 => ?_) AllReadyH.nil
  go_simp
  refine Calls.mono (kputn_any f k w13 lf lk) ?_
  rintro e w14 ⟨r14, c14, rfl, -, -, B14, d14⟩
  have b14 : Hid (Below w.heap.size w w14) := b13.out.trans (d14.mono b13.out.size)
  have hr : ((HeldA w.heap.size G1 G2 t l g u j t' l' g' u' j' a n z L w14) ∧ BytesAt w14 (some ⟨r12, 0, none⟩) 20 (repLaid t l g u j)) ∧ BytesAt w14 (some ⟨r13, 0, none⟩) 20 (repLaid t l g u j) := ⟨⟨hr.1.1.grew d14, hr.1.2.grew d14⟩, hr.2.grew d14⟩
  refine hK2.out _ _ hr (fun hr => ?_)
  clear hK2 K2
  refine wpAnyH_mono (S' := fun w' => (((HeldA w.heap.size G1 G2 t l g u j t' l' g' u' j' a n z L w') ∧ BytesAt w' (some ⟨r12, 0, none⟩) 20 (repLaid t l g u j)) ∧ BytesAt w' (some ⟨r13, 0, none⟩) 20 (repLaid t l g u j)) ∧ BytesAt w' (some ⟨r14, 0, none⟩) 6 (nackLaid f k)) (fun _ h => h.1) _ _ _ _ ?_
  have hr : (((HeldA w.heap.size G1 G2 t l g u j t' l' g' u' j' a n z L w14) ∧ BytesAt w14 (some ⟨r12, 0, none⟩) 20 (repLaid t l g u j)) ∧ BytesAt w14 (some ⟨r13, 0, none⟩) 20 (repLaid t l g u j)) ∧ BytesAt w14 (some ⟨r14, 0, none⟩) 6 (nackLaid f k) := ⟨hr, B14⟩
  clear B14 d14 b13
  refine wpAnyH_take (i := 11) (v := .string (strOf 6 (nackLaid f k))) rfl (by kernel_rfl) (by kernel_rfl) (by kernel_rfl) (fun _ _ _ h => h) (Or.inl ⟨by kernel_rfl, fun W hW => by have g := conv_bytes _ 6 c14 _ W hW.2; go_simp⟩) hr ?_
  refine wpAnyH_ready (rs := [14]) (by kernel_rfl) (by simp) ?_
  refine AllReadyH.cons rfl (fun K2 hK2 => ?_) AllReadyH.nil
  go_simp
  refine Calls.mono (rputn_any f k w14 lf lk) ?_
  rintro e w15 ⟨r15, c15, rfl, -, -, B15, d15⟩
  have b15 : Hid (Below w.heap.size w w15) := b14.out.trans (d15.mono b14.out.size)
  have hr : (((HeldA w.heap.size G1 G2 t l g u j t' l' g' u' j' a n z L w15) ∧ BytesAt w15 (some ⟨r12, 0, none⟩) 20 (repLaid t l g u j)) ∧ BytesAt w15 (some ⟨r13, 0, none⟩) 20 (repLaid t l g u j)) ∧ BytesAt w15 (some ⟨r14, 0, none⟩) 6 (nackLaid f k) := ⟨⟨⟨hr.1.1.1.grew d15, hr.1.1.2.grew d15⟩, hr.1.2.grew d15⟩, hr.2.grew d15⟩
  refine hK2.out _ _ hr (fun hr => ?_)
  clear hK2 K2
  refine wpAnyH_mono (S' := fun w' => ((((HeldA w.heap.size G1 G2 t l g u j t' l' g' u' j' a n z L w') ∧ BytesAt w' (some ⟨r12, 0, none⟩) 20 (repLaid t l g u j)) ∧ BytesAt w' (some ⟨r13, 0, none⟩) 20 (repLaid t l g u j)) ∧ BytesAt w' (some ⟨r14, 0, none⟩) 6 (nackLaid f k)) ∧ BytesAt w' (some ⟨r15, 0, none⟩) 6 (nackLaid f k)) (fun _ h => h.1) _ _ _ _ ?_
  have hr : ((((HeldA w.heap.size G1 G2 t l g u j t' l' g' u' j' a n z L w15) ∧ BytesAt w15 (some ⟨r12, 0, none⟩) 20 (repLaid t l g u j)) ∧ BytesAt w15 (some ⟨r13, 0, none⟩) 20 (repLaid t l g u j)) ∧ BytesAt w15 (some ⟨r14, 0, none⟩) 6 (nackLaid f k)) ∧ BytesAt w15 (some ⟨r15, 0, none⟩) 6 (nackLaid f k) := ⟨hr, B15⟩
  clear B15 d15 b14
  refine wpAnyH_take (i := 15) (v := .string (strOf 6 (nackLaid f k))) rfl (by kernel_rfl) (by kernel_rfl) (by kernel_rfl) (fun _ _ _ h => h) (Or.inl ⟨by kernel_rfl, fun W hW => by have g := conv_bytes _ 6 c15 _ W hW.2; go_simp⟩) hr ?_
  refine wpAnyH_take (i := 16) (v := .bool true) rfl (by kernel_rfl) (by kernel_rfl) (by kernel_rfl) (fun _ _ _ h => h) (Yields.yieldsIf (Or.inl ⟨by kernel_rfl, fun _ => by go_simp⟩)) hr ?_
  refine wpAnyH_take (i := 17) (v := .bool true) rfl (by kernel_rfl) (by kernel_rfl) (by kernel_rfl) (fun _ _ _ h => h) (Yields.yieldsIf (Or.inl ⟨by kernel_rfl, fun _ => by kernel_rfl⟩)) hr ?_
  refine wpAnyH_take (i := 18) (v := .bool true) rfl (by kernel_rfl) (by kernel_rfl) (by kernel_rfl) (fun _ _ _ h => h) (Yields.yieldsIf (Or.inl ⟨by kernel_rfl, fun _ => by kernel_rfl⟩)) hr ?_
  refine wpAnyH_take (i := 19) (v := .int .u32 (f : Int)) rfl (by kernel_rfl) (by kernel_rfl) (by kernel_rfl) (fun _ _ _ h => h) (Yields.yieldsIf (Or.inl ⟨by kernel_rfl, fun _ => by kernel_rfl⟩)) hr ?_
  refine wpAnyH_take (i := 22) (v := .int .u32 (f : Int)) rfl (by kernel_rfl) (by kernel_rfl) (by kernel_rfl) (fun _ _ _ h => h) (Yields.yieldsIf (Or.inl ⟨by kernel_rfl, fun _ => by kernel_rfl⟩)) hr ?_
  refine wpAnyH_take (i := 23) (v := .int .u64 (f : Int)) rfl (by kernel_rfl) (by kernel_rfl) (by kernel_rfl) (fun _ _ _ h => h) (Yields.yieldsIf (Or.inl ⟨by kernel_rfl, fun _ => by go_simp; rw [IntKind.wrap_u64]; omega⟩)) hr ?_
  refine wpAnyH_ready (rs := [20]) (by kernel_rfl) (by simp) ?_
  refine AllReadyH.cons rfl (fun K2 hK2 => ?_) AllReadyH.nil
  go_simp
  refine Calls.mono (kputg_any f w15 lf) ?_
  rintro e w16 ⟨r16, c16, rfl, -, -, B16, d16⟩
  have b16 : Hid (Below w.heap.size w w16) := b15.out.trans (d16.mono b15.out.size)
  have hr : ((((HeldA w.heap.size G1 G2 t l g u j t' l' g' u' j' a n z L w16) ∧ BytesAt w16 (some ⟨r12, 0, none⟩) 20 (repLaid t l g u j)) ∧ BytesAt w16 (some ⟨r13, 0, none⟩) 20 (repLaid t l g u j)) ∧ BytesAt w16 (some ⟨r14, 0, none⟩) 6 (nackLaid f k)) ∧ BytesAt w16 (some ⟨r15, 0, none⟩) 6 (nackLaid f k) := ⟨⟨⟨⟨hr.1.1.1.1.grew d16, hr.1.1.1.2.grew d16⟩, hr.1.1.2.grew d16⟩, hr.1.2.grew d16⟩, hr.2.grew d16⟩
  refine hK2.out _ _ hr (fun hr => ?_)
  clear hK2 K2
  refine wpAnyH_mono (S' := fun w' => (((((HeldA w.heap.size G1 G2 t l g u j t' l' g' u' j' a n z L w') ∧ BytesAt w' (some ⟨r12, 0, none⟩) 20 (repLaid t l g u j)) ∧ BytesAt w' (some ⟨r13, 0, none⟩) 20 (repLaid t l g u j)) ∧ BytesAt w' (some ⟨r14, 0, none⟩) 6 (nackLaid f k)) ∧ BytesAt w' (some ⟨r15, 0, none⟩) 6 (nackLaid f k)) ∧ BytesAt w' (some ⟨r16, 0, none⟩) 4 (goneLaid f)) (fun _ h => h.1) _ _ _ _ ?_
  have hr : (((((HeldA w.heap.size G1 G2 t l g u j t' l' g' u' j' a n z L w16) ∧ BytesAt w16 (some ⟨r12, 0, none⟩) 20 (repLaid t l g u j)) ∧ BytesAt w16 (some ⟨r13, 0, none⟩) 20 (repLaid t l g u j)) ∧ BytesAt w16 (some ⟨r14, 0, none⟩) 6 (nackLaid f k)) ∧ BytesAt w16 (some ⟨r15, 0, none⟩) 6 (nackLaid f k)) ∧ BytesAt w16 (some ⟨r16, 0, none⟩) 4 (goneLaid f) := ⟨hr, B16⟩
  clear B16 d16 b15
  refine wpAnyH_take (i := 21) (v := .string (strOf 4 (goneLaid f))) rfl (by kernel_rfl) (by kernel_rfl) (by kernel_rfl) (fun _ _ _ h => h) (Or.inl ⟨by kernel_rfl, fun W hW => by have g := conv_bytes _ 4 c16 _ W hW.2; go_simp⟩) hr ?_
  refine wpAnyH_ready (rs := [24]) (by kernel_rfl) (by simp) ?_
  refine AllReadyH.cons rfl (fun K2 hK2 => ?_) AllReadyH.nil
  go_simp
  refine Calls.mono (high_any f 4 w16 (by omega) (by decide)) ?_
  rintro e w17 ⟨rfl, R17, d17⟩
  have B17 : BytesAt w17 (some ⟨w16.heap.size, 0, none⟩) 4 (goneLaid f) := row_bytes' R17 (fun i _ => (goneLaid_is f i).symm) (fun i _ => goneLaid_lt f i)
  have b17 : Hid (Below w.heap.size w w17) := b16.out.trans (d17.mono b16.out.size)
  have hr : (((((HeldA w.heap.size G1 G2 t l g u j t' l' g' u' j' a n z L w17) ∧ BytesAt w17 (some ⟨r12, 0, none⟩) 20 (repLaid t l g u j)) ∧ BytesAt w17 (some ⟨r13, 0, none⟩) 20 (repLaid t l g u j)) ∧ BytesAt w17 (some ⟨r14, 0, none⟩) 6 (nackLaid f k)) ∧ BytesAt w17 (some ⟨r15, 0, none⟩) 6 (nackLaid f k)) ∧ BytesAt w17 (some ⟨r16, 0, none⟩) 4 (goneLaid f) := ⟨⟨⟨⟨⟨hr.1.1.1.1.1.grew d17, hr.1.1.1.1.2.grew d17⟩, hr.1.1.1.2.grew d17⟩, hr.1.1.2.grew d17⟩, hr.1.2.grew d17⟩, hr.2.grew d17⟩
  refine hK2.out _ _ hr (fun hr => ?_)
  clear hK2 K2
  clear R17
  generalize w16.heap.size = G3 at *
  refine wpAnyH_mono (S' := fun w' => ((((((HeldA w.heap.size G1 G2 t l g u j t' l' g' u' j' a n z L w') ∧ BytesAt w' (some ⟨r12, 0, none⟩) 20 (repLaid t l g u j)) ∧ BytesAt w' (some ⟨r13, 0, none⟩) 20 (repLaid t l g u j)) ∧ BytesAt w' (some ⟨r14, 0, none⟩) 6 (nackLaid f k)) ∧ BytesAt w' (some ⟨r15, 0, none⟩) 6 (nackLaid f k)) ∧ BytesAt w' (some ⟨r16, 0, none⟩) 4 (goneLaid f)) ∧ BytesAt w' (some ⟨G3, 0, none⟩) 4 (goneLaid f)) (fun _ h => h.1) _ _ _ _ ?_
  have hr : ((((((HeldA w.heap.size G1 G2 t l g u j t' l' g' u' j' a n z L w17) ∧ BytesAt w17 (some ⟨r12, 0, none⟩) 20 (repLaid t l g u j)) ∧ BytesAt w17 (some ⟨r13, 0, none⟩) 20 (repLaid t l g u j)) ∧ BytesAt w17 (some ⟨r14, 0, none⟩) 6 (nackLaid f k)) ∧ BytesAt w17 (some ⟨r15, 0, none⟩) 6 (nackLaid f k)) ∧ BytesAt w17 (some ⟨r16, 0, none⟩) 4 (goneLaid f)) ∧ BytesAt w17 (some ⟨G3, 0, none⟩) 4 (goneLaid f) := ⟨hr, B17⟩
  clear B17 d17 b16
  refine wpAnyH_take (i := 25) (v := .string (strOf 4 (goneLaid f))) rfl (by kernel_rfl) (by kernel_rfl) (by kernel_rfl) (fun _ _ _ h => h) (Or.inl ⟨by kernel_rfl, fun W hW => by have g := conv_bytes _ 4 4 _ W hW.2; go_simp⟩) hr ?_
  refine wpAnyH_take (i := 26) (v := .bool true) rfl (by kernel_rfl) (by kernel_rfl) (by kernel_rfl) (fun _ _ _ h => h) (Yields.yieldsIf (Or.inl ⟨by kernel_rfl, fun _ => by go_simp⟩)) hr ?_
  refine wpAnyH_take (i := 27) (v := .bool true) rfl (by kernel_rfl) (by kernel_rfl) (by kernel_rfl) (fun _ _ _ h => h) (Yields.yieldsIf (Or.inl ⟨by kernel_rfl, fun _ => by kernel_rfl⟩)) hr ?_
  refine wpAnyH_take (i := 28) (v := .bool true) rfl (by kernel_rfl) (by kernel_rfl) (by kernel_rfl) (fun _ _ _ h => h) (Yields.yieldsIf (Or.inl ⟨by kernel_rfl, fun _ => by kernel_rfl⟩)) hr ?_
  refine wpAnyH_take (i := 29) (v := .agg #[.int .u64 (t' : Int), .int .u32 (l' : Int), .int .u32 (g' : Int), .int .u16 (u' : Int), .int .u16 (j' : Int)]) rfl (by kernel_rfl) (by kernel_rfl) (by kernel_rfl) (fun _ _ _ h => h) (Or.inl ⟨by kernel_rfl, fun W hW => by have g0 := hW.1.1.1.1.1.1.p.c0; have g1 := hW.1.1.1.1.1.1.p.c1; have g2 := hW.1.1.1.1.1.1.p.c2; have g3 := hW.1.1.1.1.1.1.p.c3; have g4 := hW.1.1.1.1.1.1.p.c4; go_simp⟩) hr ?_
  refine wpAnyH_take (i := 30) (v := .agg #[.int .u64 (t' : Int), .int .u32 (l' : Int), .int .u32 (g' : Int), .int .u16 (u' : Int), .int .u16 (j' : Int)]) rfl (by kernel_rfl) (by kernel_rfl) (by kernel_rfl) (fun _ _ _ h => h) (Or.inl ⟨by kernel_rfl, fun W hW => by have g0 := hW.1.1.1.1.1.1.q.c0; have g1 := hW.1.1.1.1.1.1.q.c1; have g2 := hW.1.1.1.1.1.1.q.c2; have g3 := hW.1.1.1.1.1.1.q.c3; have g4 := hW.1.1.1.1.1.1.q.c4; go_simp⟩) hr ?_
  refine wpAnyH_take (i := 31) (v := .bool true) rfl (by kernel_rfl) (by kernel_rfl) (by kernel_rfl) (fun _ _ _ h => h) (Yields.yieldsIf (Or.inl ⟨by kernel_rfl, fun _ => by go_simp⟩)) hr ?_
  refine wpAnyH_take (i := 32) (v := .bool true) rfl (by kernel_rfl) (by kernel_rfl) (by kernel_rfl) (fun _ _ _ h => h) (Yields.yieldsIf (Or.inl ⟨by kernel_rfl, fun _ => by kernel_rfl⟩)) hr ?_
  refine wpAnyH_take (i := 33) (v := .bool true) rfl (by kernel_rfl) (by kernel_rfl) (by kernel_rfl) (fun _ _ _ h => h) (Yields.yieldsIf (Or.inl ⟨by kernel_rfl, fun _ => by kernel_rfl⟩)) hr ?_
  refine wpAnyH_take (i := 34) (v := .int .i64 (E1 : Int)) rfl (by kernel_rfl) (by kernel_rfl) (by kernel_rfl) (fun _ _ _ h => h) (Yields.yieldsIf (Or.inl ⟨by kernel_rfl, fun _ => by kernel_rfl⟩)) hr ?_
  refine wpAnyH_take (i := 35) (v := .int .i64 (E1 : Int)) rfl (by kernel_rfl) (by kernel_rfl) (by kernel_rfl) (fun _ _ _ h => h) (Yields.yieldsIf (Or.inl ⟨by kernel_rfl, fun _ => by kernel_rfl⟩)) hr ?_
  refine wpAnyH_take (i := 36) (v := .bool true) rfl (by kernel_rfl) (by kernel_rfl) (by kernel_rfl) (fun _ _ _ h => h) (Yields.yieldsIf (Or.inl ⟨by kernel_rfl, fun _ => by go_simp⟩)) hr ?_
  refine wpAnyH_take (i := 37) (v := .bool true) rfl (by kernel_rfl) (by kernel_rfl) (by kernel_rfl) (fun _ _ _ h => h) (Yields.yieldsIf (Or.inl ⟨by kernel_rfl, fun _ => by kernel_rfl⟩)) hr ?_
  refine wpAnyH_take (i := 38) (v := .bool true) rfl (by kernel_rfl) (by kernel_rfl) (by kernel_rfl) (fun _ _ _ h => h) (Yields.yieldsIf (Or.inl ⟨by kernel_rfl, fun _ => by kernel_rfl⟩)) hr ?_
  refine wpAnyH_take (i := 39) (v := .int .u32 (f' : Int)) rfl (by kernel_rfl) (by kernel_rfl) (by kernel_rfl) (fun _ _ _ h => h) (Yields.yieldsIf (Or.inl ⟨by kernel_rfl, fun _ => by kernel_rfl⟩)) hr ?_
  refine wpAnyH_take (i := 40) (v := .int .u32 (f' : Int)) rfl (by kernel_rfl) (by kernel_rfl) (by kernel_rfl) (fun _ _ _ h => h) (Yields.yieldsIf (Or.inl ⟨by kernel_rfl, fun _ => by kernel_rfl⟩)) hr ?_
  refine wpAnyH_take (i := 41) (v := .bool true) rfl (by kernel_rfl) (by kernel_rfl) (by kernel_rfl) (fun _ _ _ h => h) (Yields.yieldsIf (Or.inl ⟨by kernel_rfl, fun _ => by go_simp⟩)) hr ?_
  refine wpAnyH_take (i := 42) (v := .bool true) rfl (by kernel_rfl) (by kernel_rfl) (by kernel_rfl) (fun _ _ _ h => h) (Yields.yieldsIf (Or.inl ⟨by kernel_rfl, fun _ => by kernel_rfl⟩)) hr ?_
  refine wpAnyH_take (i := 43) (v := .bool true) rfl (by kernel_rfl) (by kernel_rfl) (by kernel_rfl) (fun _ _ _ h => h) (Yields.yieldsIf (Or.inl ⟨by kernel_rfl, fun _ => by kernel_rfl⟩)) hr ?_
  refine wpAnyH_take (i := 44) (v := .int .u16 (k' : Int)) rfl (by kernel_rfl) (by kernel_rfl) (by kernel_rfl) (fun _ _ _ h => h) (Yields.yieldsIf (Or.inl ⟨by kernel_rfl, fun _ => by kernel_rfl⟩)) hr ?_
  refine wpAnyH_take (i := 45) (v := .int .u16 (k' : Int)) rfl (by kernel_rfl) (by kernel_rfl) (by kernel_rfl) (fun _ _ _ h => h) (Yields.yieldsIf (Or.inl ⟨by kernel_rfl, fun _ => by kernel_rfl⟩)) hr ?_
  refine wpAnyH_take (i := 46) (v := .bool true) rfl (by kernel_rfl) (by kernel_rfl) (by kernel_rfl) (fun _ _ _ h => h) (Yields.yieldsIf (Or.inl ⟨by kernel_rfl, fun _ => by go_simp⟩)) hr ?_
  refine wpAnyH_take (i := 47) (v := .bool true) rfl (by kernel_rfl) (by kernel_rfl) (by kernel_rfl) (fun _ _ _ h => h) (Yields.yieldsIf (Or.inl ⟨by kernel_rfl, fun _ => by kernel_rfl⟩)) hr ?_
  refine wpAnyH_take (i := 48) (v := .bool true) rfl (by kernel_rfl) (by kernel_rfl) (by kernel_rfl) (fun _ _ _ h => h) (Yields.yieldsIf (Or.inl ⟨by kernel_rfl, fun _ => by kernel_rfl⟩)) hr ?_
  refine wpAnyH_take (i := 49) (v := .int .i64 (E2 : Int)) rfl (by kernel_rfl) (by kernel_rfl) (by kernel_rfl) (fun _ _ _ h => h) (Yields.yieldsIf (Or.inl ⟨by kernel_rfl, fun _ => by kernel_rfl⟩)) hr ?_
  refine wpAnyH_take (i := 50) (v := .int .i64 (E2 : Int)) rfl (by kernel_rfl) (by kernel_rfl) (by kernel_rfl) (fun _ _ _ h => h) (Yields.yieldsIf (Or.inl ⟨by kernel_rfl, fun _ => by kernel_rfl⟩)) hr ?_
  refine wpAnyH_take (i := 51) (v := .bool true) rfl (by kernel_rfl) (by kernel_rfl) (by kernel_rfl) (fun _ _ _ h => h) (Yields.yieldsIf (Or.inl ⟨by kernel_rfl, fun _ => by go_simp⟩)) hr ?_
  refine wpAnyH_take (i := 52) (v := .bool true) rfl (by kernel_rfl) (by kernel_rfl) (by kernel_rfl) (fun _ _ _ h => h) (Yields.yieldsIf (Or.inl ⟨by kernel_rfl, fun _ => by kernel_rfl⟩)) hr ?_
  refine wpAnyH_take (i := 53) (v := .bool true) rfl (by kernel_rfl) (by kernel_rfl) (by kernel_rfl) (fun _ _ _ h => h) (Yields.yieldsIf (Or.inl ⟨by kernel_rfl, fun _ => by kernel_rfl⟩)) hr ?_
  refine wpAnyH_take (i := 54) (v := .int .u32 (y' : Int)) rfl (by kernel_rfl) (by kernel_rfl) (by kernel_rfl) (fun _ _ _ h => h) (Yields.yieldsIf (Or.inl ⟨by kernel_rfl, fun _ => by kernel_rfl⟩)) hr ?_
  refine wpAnyH_take (i := 55) (v := .int .u32 (y' : Int)) rfl (by kernel_rfl) (by kernel_rfl) (by kernel_rfl) (fun _ _ _ h => h) (Yields.yieldsIf (Or.inl ⟨by kernel_rfl, fun _ => by kernel_rfl⟩)) hr ?_
  refine wpAnyH_take (i := 56) (v := .bool true) rfl (by kernel_rfl) (by kernel_rfl) (by kernel_rfl) (fun _ _ _ h => h) (Yields.yieldsIf (Or.inl ⟨by kernel_rfl, fun _ => by go_simp⟩)) hr ?_
  refine wpAnyH_take (i := 57) (v := .bool true) rfl (by kernel_rfl) (by kernel_rfl) (by kernel_rfl) (fun _ _ _ h => h) (Yields.yieldsIf (Or.inl ⟨by kernel_rfl, fun _ => by kernel_rfl⟩)) hr ?_
  refine wpAnyH_take (i := 58) (v := .bool true) rfl (by kernel_rfl) (by kernel_rfl) (by kernel_rfl) (fun _ _ _ h => h) (Yields.yieldsIf (Or.inl ⟨by kernel_rfl, fun _ => by kernel_rfl⟩)) hr ?_
  refine wpAnyH_take (i := 59) (v := .int .i64 (E3 : Int)) rfl (by kernel_rfl) (by kernel_rfl) (by kernel_rfl) (fun _ _ _ h => h) (Yields.yieldsIf (Or.inl ⟨by kernel_rfl, fun _ => by kernel_rfl⟩)) hr ?_
  refine wpAnyH_take (i := 60) (v := .int .i64 (E3 : Int)) rfl (by kernel_rfl) (by kernel_rfl) (by kernel_rfl) (fun _ _ _ h => h) (Yields.yieldsIf (Or.inl ⟨by kernel_rfl, fun _ => by kernel_rfl⟩)) hr ?_
  refine wpAnyH_take (i := 61) (v := .bool true) rfl (by kernel_rfl) (by kernel_rfl) (by kernel_rfl) (fun _ _ _ h => h) (Yields.yieldsIf (Or.inl ⟨by kernel_rfl, fun _ => by go_simp⟩)) hr ?_
  refine wpAnyH_take (i := 62) (v := .bool true) rfl (by kernel_rfl) (by kernel_rfl) (by kernel_rfl) (fun _ _ _ h => h) (Yields.yieldsIf (Or.inl ⟨by kernel_rfl, fun _ => by kernel_rfl⟩)) hr ?_
  refine wpAnyH_take (i := 63) (v := .bool true) rfl (by kernel_rfl) (by kernel_rfl) (by kernel_rfl) (fun _ _ _ h => h) (Yields.yieldsIf (Or.inl ⟨by kernel_rfl, fun _ => by kernel_rfl⟩)) hr ?_
  refine wpAnyH_take (i := 64) (v := .slice (some ⟨L, 0, none⟩) n (n + 5)) rfl (by kernel_rfl) (by kernel_rfl) (by kernel_rfl) (fun _ _ _ h => h) (Yields.yieldsIf (Or.inl ⟨by kernel_rfl, fun _ => by kernel_rfl⟩)) hr ?_
  refine wpAnyH_take (i := 65) (v := .slice a n c) rfl (by kernel_rfl) (by kernel_rfl) (by kernel_rfl) (fun _ _ _ h => h) (Yields.yieldsIf (Or.inl ⟨by kernel_rfl, fun _ => by kernel_rfl⟩)) hr ?_
  refine wpAnyH_ready (rs := [66]) (by kernel_rfl) (by simp) ?_
  refine AllReadyH.cons rfl (fun K2 hK2 => ?_) AllReadyH.nil
  go_simp
  refine Calls.mono (whole_any a L n c z w17 hr.1.1.1.1.1.1.lent hr.1.1.1.1.1.1.came (by omega)) ?_
  rintro e w18 ⟨rfl, hw⟩
  have hw := hw.symm
  subst hw
  refine hK2.out _ _ hr (fun hr => ?_)
  clear hK2 K2
  refine wpAnyH_take (i := 67) (v := .bool true) rfl (by kernel_rfl) (by kernel_rfl) (by kernel_rfl) (fun _ _ _ h => h) (Yields.yieldsIf (Or.inl ⟨by kernel_rfl, fun _ => by kernel_rfl⟩)) hr ?_
  refine wpAnyH_take (i := 68) (v := .bool true) rfl (by kernel_rfl) (by kernel_rfl) (by kernel_rfl) (fun _ _ _ h => h) (Yields.yieldsIf (Or.inl ⟨by kernel_rfl, fun _ => by kernel_rfl⟩)) hr ?_
  refine wpAnyH_done (by kernel_rfl) ?_ _
  clear hr
  go_wp2
  go_ret
  exact ⟨rfl, b17.out⟩

set_option maxRecDepth 100000 in
theorem long (t l g u j f k : Nat) (a : Option Addr) (n c : Nat) (w : World) (h : ¬ n ≤ 30) :
    Calls Try.prog 3 #[.agg #[.int .u64 (t : Int), .int .u32 (l : Int), .int .u32 (g : Int), .int .u16 (u : Int), .int .u16 (j : Int)], .int .u32 (f : Int), .int .u16 (k : Int), .slice a n c] w fun e w' => e = .returned (.bool true) ∧ Below w.heap.size w w' := by
  have b1 : Below w.heap.size w (w.alloc (.cells #[.int .u64 (t : Int), .int .u32 (l : Int), .int .u32 (g : Int), .int .u16 (u : Int), .int .u16 (j : Int)] 26)) := (Below.refl _ _).alloc (Nat.le_refl _) _
  have i1 : (30 : Int) < (n : Int) := by omega
  go_enter Try.func3, Try.ntmps3
  go_wp2_with fail
  generalize (w.alloc (.cells #[.int .u64 (t : Int), .int .u32 (l : Int), .int .u32 (g : Int), .int .u16 (u : Int), .int .u16 (j : Int)] 26)) = w1 at *
  refine (begun10 _).mono ?_
  rintro e w2 ⟨rfl, d2⟩
  have HB : Hid (Below w.heap.size w w2) := b1.trans (d2.mono b1.size)
  clear b1 d2
  go_wp2
  go_ret
  exact ⟨rfl, HB.out⟩

theorem walk (t l g u j : Nat) (a1 a2 : Int) (a : Option Addr) (n c : Nat) (z : Nat → Nat) (w : World) (h0 : t < 18446744073709551616 ∧ l < 4294967296 ∧ g < 4294967296 ∧ u < 65536 ∧ j < 65536) (h1 : (Lit.int .u32 a1).wf = true) (h2 : (Lit.int .u16 a2).wf = true) (h3 : BytesAt w a n z ∧ n ≤ c ∧ c ≤ maxLen) :
    Calls Try.prog 3 #[.agg #[.int .u64 (t : Int), .int .u32 (l : Int), .int .u32 (g : Int), .int .u16 (u : Int), .int .u16 (j : Int)], .int .u32 a1, .int .u16 a2, .slice a n c] w fun e w' => e = .returned (.bool true) ∧ Below w.heap.size w w' := by
  have k1 := bounds_u32 h1
  have k2 := bounds_u16 h2
  obtain ⟨f, rfl⟩ : ∃ n : Nat, a1 = n := ⟨a1.toNat, by omega⟩
  obtain ⟨k, rfl⟩ : ∃ n : Nat, a2 = n := ⟨a2.toNat, by omega⟩
  obtain ⟨lt, ll, lg, lu, lj⟩ := h0
  by_cases h : n ≤ 30
  · exact core t l g u j f k a n c z w lt ll lg lu lj (by omega) (by omega) h3.1 h3.2.1 h
  · exact long t l g u j f k a n c w h

set_option maxRecDepth 100000 in
theorem lifted (os : Os) (started : os.Started) (H : Type) (enc : TypeId × Value → H) :
    ReturnsInHanded {} Try.checked os 3 .any (Rows.backAllSpec.pre6 enc Try.prog Try.f3 Rows.backAllRow.domain false) (Rows.backAllSpec.post enc Try.prog Try.f3 false true false false) := by
  refine returnsInHanded_of_change (C := Try.checked) own started (by kernel_rfl) Try.func3
    (ChangeSpec.witness6 (enc := enc) (C := Try.checked) false ⟨#[], #[.agg #[.int .u64 0, .int .u32 0, .int .u32 0, .int .u16 0, .int .u16 0], .int .u32 0, .int .u16 0, .slice none 0 0], []⟩ 8 (by kernel_rfl) (by kernel_rfl) (by kernel_rfl) (by kernel_rfl)) ?_
  intro W base args ds gs before hval0 hW hcnd _
  have hval : ∀ (j : Nat) t v, Try.f3.params[j]? = some t → args[j]? = some v → Value.okWide Try.prog W .any base t v := hval0
  have hW' := hW
  obtain ⟨p, q, hA0, hV, rfl, hfz, hnd⟩ := hW
  have hA : DataW.TrodAll enc Try.prog W 0 (fun _ => true) true Try.f3.params.toList args.toList ds p := hA0
  rw [Try.params3] at hA hval
  obtain ⟨v0, vs0, d0, ds0, p0, q0, hargs, rfl, rfl, h0, r0⟩ := trodAll_cons hA
  obtain ⟨v1, vs1, d1, ds1, p1, q1, rfl, rfl, rfl, h1, r1⟩ := trodAll_cons r0
  obtain ⟨v2, vs2, d2, ds2, p2, q2, rfl, rfl, rfl, h2, r2⟩ := trodAll_cons r1
  obtain ⟨v3, vs3, d3, ds3, p3, q3, rfl, rfl, rfl, h3, r3⟩ := trodAll_cons r2
  obtain ⟨rfl, rfl, rfl⟩ := trodAll_nil r3
  obtain rfl : args = #[v0, v1, v2, v3] := by cases args; simp_all
  obtain ⟨rfl, rfl⟩ := trodVars_none hV
  have k0 := h0
  have lt0 : ∀ x ∈ p0, x.block < W.heap.size := by obtain ⟨m, hm⟩ := k0; exact DataW.trod_lt m _ _ _ hm
  obtain ⟨t0, l0, g0, u0, j0, rfl, w0⟩ := open_report (hval 0 26 v0 rfl rfl) h0
  obtain ⟨a1, rfl, rfl, rfl, w1⟩ := open_int Try.underlying23 (hval 1 23 v1 rfl rfl) h1
  obtain ⟨a2, rfl, rfl, rfl, w2⟩ := open_int Try.underlying24 (hval 2 24 v2 rfl rfl) h2
  obtain ⟨a3, len3, cap3, rfl⟩ := okWide_slice Try.underlying27 (hval 3 27 v3 rfl rfl)
  have k3 := h3
  have lt3 : ∀ x ∈ p3, x.block < W.heap.size := by obtain ⟨m, hm⟩ := k3; exact DataW.trod_lt m _ _ _ hm
  obtain ⟨x3, w3⟩ : ∃ x, BytesAt W a3 len3 x ∧ len3 ≤ cap3 ∧ cap3 ≤ maxLen := open_bytes Try.underlying27 Try.underlying5 (by kernel_rfl) h3
  clear hA0 hval0
  refine (walk t0 l0 g0 u0 j0 a1 a2 a3 len3 cap3 x3 W w0 w1 w2 w3).mono fun e W' ⟨he, bel⟩ => ?_
  subst he
  exact ⟨_, rfl, _, _, _, [], _, [], hW', trodAll_mk1 (shut_bool Try.underlying4 _), (trodAll_cons_mk (Below.trod laidOut (by kernel_rfl) (of_decide_eq_true (by kernel_rfl)) k0 bel lt0) (trodAll_cons_mk (shut_int Try.underlying23 w1) (trodAll_cons_mk (shut_int Try.underlying24 w2) (trodAll_cons_mk (Below.trod laidOut (by kernel_rfl) (of_decide_eq_true (by kernel_rfl)) k3 bel lt3) trodAll_mk0)))), rfl, bel.frame _, fun h => by cases h⟩

theorem over : Rows.backAllRow.holds Try.pinned (OpenSpec.ofChange Rows.backAllSpec) :=
  OpenClaim.holds_of_wide 3 Try.f3 rfl rfl rfl rfl rfl rfl rfl ⟨rfl, rfl, rfl, rfl, rfl⟩ rfl rfl rfl rfl rfl (by kernel_rfl) Try.func3 (by kernel_rfl)
    (of_decide_eq_true (by kernel_rfl)) (by unfold Func.isWrapper; first | (rw [if_pos (by decide +kernel)]; kernel_rfl) | (rw [if_neg (by decide +kernel)]; exact ⟨rfl, rfl⟩))
    (fun os started H enc _ => lifted os started H enc)

theorem proved : Rows.BackAllSaid := over
end Go.Proofs.Ytmckfcbhkahcmaa.backAll
namespace Go.Proofs.Ytmckfcbhkahcmaa
theorem backAll_holds : Rows.BackAllSaid := backAll.proved
#print axioms backAll_holds
end Go.Proofs.Ytmckfcbhkahcmaa
