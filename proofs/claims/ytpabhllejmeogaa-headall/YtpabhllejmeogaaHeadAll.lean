/-
  Which bytes package head puts data as, and which data it takes bytes as, are the document's, and what it is lent stays whole: the call returns true, whatever the data and the bytes are (bodies and bytes of at most 100 bytes are looked at; no condition).
-/
import Derived.Test.YtpabhllejmeogaaRows
import Derived.WalkKit
import Derived.ProofKit
import Derived.OpenShut
import Derived.ShutString
import Derived.ChangeOld
import Derived.Below
import Derived.Carry
import Derived.Test.YtpabhllejmeogaaOpn
import Derived.Test.YtpabhllejmeogaaOpd
import Derived.Test.YtpabhllejmeogaaHbg
import Derived.Test.YtpabhllejmeogaaHdt
import Derived.Test.YtpabhllejmeogaaHsm
import Derived.Test.YtpabhllejmeogaaLen
namespace Go.Proofs.Ytpabhllejmeogaa.headAll
open Go.ChangeShapes Go.WideShapes Go.ChangeAt Go.RowKit
open Go.ChangeMaps (open_string shut_string)
set_option linter.unusedVariables false

theorem own : ownKnob Try.prog.godebug = none := by kernel_rfl
theorem laidOut : laidOutB Try.prog = true := by kernel_rfl

open Go.Deep

theorem lent_bytes {w : World} {L n : Nat} {x : Nat → Nat} (h : BytesAt w (some ⟨L, 0, none⟩) (n + 5) (lentOf x n)) : BytesAt w (some ⟨L, 0, none⟩) n x :=
  (h.take (by omega)).congr fun i hi => by unfold lentOf; rw [if_pos hi]

set_option maxRecDepth 100000 in
set_option maxHeartbeats 2000000 in
theorem core (s t f y : Nat) (a : Option Addr) (n c : Nat) (x : Nat → Nat) (a1 : Option Addr) (m c1 : Nat) (z : Nat → Nat) (w : World) (ls : s < 65536) (lt : t < 65536) (lf : f < 4294967296) (ly : y < 65536) (hx : BytesAt w a n x) (hz : BytesAt w a1 m z) (hc1 : m ≤ c1) (hn : n ≤ 100) (hm : m ≤ 100) :
    Calls Try.prog 3 #[.agg #[.int .u16 (s : Int), .int .u16 (t : Int), .int .u32 (f : Int), .int .u16 (y : Int), .slice a n c], .slice a1 m c1] w fun e w' => e = .returned (.bool true) ∧ Below w.heap.size w w' := by
  obtain ⟨s', t', f', y', k, E, HT⟩ : ∃ s' t' f' y' k E, Hid (∀ w e w', TakeIs w m z e w' → DatIs w s' t' f' y' k (fun i => z (10 + i)) E e w') := ⟨_, _, _, _, _, _, fun _ _ _ h => h⟩
  obtain ⟨pk, pZ, pE, HP⟩ : ∃ pk pZ pE, Hid (∀ w e w', PutIs w (putN n) (laid s t f y x) (putE n) e w' → PutIs w pk pZ pE e w') := ⟨_, _, _, fun _ _ _ h => h⟩
  have HX : Hid (BytesAt w a n x) := hx
  have HZ : Hid (BytesAt w a1 m z) := hz
  have i0 : decide ((100 : Int) < (n : Int)) = false := by simp; omega
  have i1 : decide ((100 : Int) < (m : Int)) = false := by simp; omega
  have D1 := DatAt.made w 26 s t f y a n c
  have b1 : Below w.heap.size w (w.alloc (.cells #[.int .u16 (s : Int), .int .u16 (t : Int), .int .u32 (f : Int), .int .u16 (y : Int), .slice a n c] 26)) := (Below.refl _ _).alloc (Nat.le_refl _) _
  clear hx hz
  go_enter Try.func3, Try.ntmps3
  go_wp2_with fail
  generalize (w.alloc (.cells #[.int .u16 (s : Int), .int .u16 (t : Int), .int .u32 (f : Int), .int .u16 (y : Int), .slice a n c] 26)) = w1 at *
  refine (begun9 _).mono ?_
  rintro e w2 ⟨rfl, d2⟩
  have D2 := D1.grew d2
  have b2 := b1.trans (d2.mono b1.size)
  have q := D2.c4
  clear D1 b1 d2
  go_wp2_with fail
  refine wp_region_held (S := fun w' => DatAt w' w.heap.size s t f y a n c) (by kernel_rfl) ?_
  change wpAnyH _ _ _ _ _ _ _ _ w2.drew
  have hr : DatAt w2.drew w.heap.size s t f y a n c := D2.grew (Below.refl _ _).drew
  have b3 : Below w.heap.size w w2.drew := b2.drew
  clear D2 b2 q i0 i1
  generalize w2.drew = w3 at *
  refine wpAnyH_take (i := 0) (v := .slice a1 m c1) rfl (by kernel_rfl) (by kernel_rfl) (by kernel_rfl) (fun _ _ _ h => h) (Yields.yieldsIf (Or.inl ⟨by kernel_rfl, fun _ => by kernel_rfl⟩)) hr ?_
  refine wpAnyH_take (i := 2) (v := .pointer (some ⟨w.heap.size, 4, none⟩)) rfl (by kernel_rfl) (by kernel_rfl) (by kernel_rfl) (fun _ _ _ h => h) (Yields.yieldsIf (Or.inl ⟨by kernel_rfl, fun _ => by go_simp⟩)) hr ?_
  refine wpAnyH_take (i := 3) (v := .slice a n c) rfl (by kernel_rfl) (by kernel_rfl) (by kernel_rfl) (fun _ _ _ h => h) (Or.inl ⟨by kernel_rfl, fun W hW => by have g := hW.c4; go_simp⟩) hr ?_
  refine wpAnyH_ready (rs := [1]) (by kernel_rfl) (by simp) ?_
  refine AllReadyH.cons rfl (fun K2 hK2 => ?_) AllReadyH.nil
  go_simp
  refine Calls.mono (lent_any a1 m c1 z w3 (HZ.out.grew b3) (by omega)) ?_
  rintro e w4 ⟨rfl, L4, d4, -⟩
  have hr := hr.grew d4
  have b4 := b3.trans (d4.mono b3.size)
  refine hK2.out _ _ hr (fun hr => ?_)
  clear hK2 K2 d4 b3
  generalize w3.heap.size = G at *
  refine wpAnyH_take (i := 4) (v := .slice (some ⟨G, 0, none⟩) m (m + 5)) rfl (by kernel_rfl) (by kernel_rfl) (by kernel_rfl) (fun _ _ _ h => h) (Yields.yieldsIf (Or.inl ⟨by kernel_rfl, fun _ => by kernel_rfl⟩)) hr ?_
  refine wpAnyH_take (i := 5) (v := .slice a n c) rfl (by kernel_rfl) (by kernel_rfl) (by kernel_rfl) (fun _ _ _ h => h) (Yields.yieldsIf (Or.inl ⟨by kernel_rfl, fun _ => by kernel_rfl⟩)) hr ?_
  refine wpAnyH_done (by kernel_rfl) ?_ _
  go_wp2_with fail
  refine (lent_any a n c x w4 (HX.out.grew b4) (by omega)).mono ?_
  rintro e w5 ⟨rfl, M5, d5, -⟩
  have D5 := hr.grew d5
  have b5 := b4.trans (d5.mono b4.size)
  have L5 := L4.grew d5
  clear hr d5 L4 b4
  generalize w4.heap.size = G2 at *
  have D6 := D5.body (some ⟨G2, 0, none⟩) n (n + 5)
  have M6 := M5.setSlice (v := .slice (some ⟨G2, 0, none⟩) n (n + 5)) D5.c4
  have L6 := L5.setSlice (v := .slice (some ⟨G2, 0, none⟩) n (n + 5)) D5.c4
  have b6 := b5.setCell (p := ⟨w.heap.size, 4, none⟩) (Nat.le_refl _) (.slice (some ⟨G2, 0, none⟩) n (n + 5))
  have p0 := D5.c0
  have p1 := D5.c1
  have p2 := D5.c2
  have p3 := D5.c3
  have p4 := D5.c4
  have z4 := D5.frz 4
  clear D5 b5 L5 M5
  go_wp2_with fail
  generalize w5.setCell ⟨w.heap.size, 4, none⟩ (.slice (some ⟨G2, 0, none⟩) n (n + 5)) = w6 at *
  clear p0 p1 p2 p3 p4 z4
  refine (hput_any s t f y (some ⟨G2, 0, none⟩) n (n + 5) x w6 (lent_bytes M6) ls lt lf ly).mono ?_
  intro e w7 h7
  obtain ⟨r7, c7, rfl, -, -, P7, d7⟩ := HP.out _ _ _ h7
  have D7 := D6.grew d7
  have L7 := L6.grew d7
  have M7 := M6.grew d7
  have b7 := b6.trans (d7.mono b6.size)
  have p0 := D7.c0
  have p1 := D7.c1
  have p2 := D7.c2
  have p3 := D7.c3
  have p4 := D7.c4
  clear h7 D6 d7 L6 M6 b6
  go_wp2_with fail
  clear p0 p1 p2 p3 p4
  refine (rput_any s t f y (some ⟨G2, 0, none⟩) n (n + 5) x w7 (lent_bytes M7) ls lt lf ly).mono ?_
  intro e w8 h8
  obtain ⟨r8, c8, rfl, -, -, Q8, d8⟩ := HP.out _ _ _ h8
  have D8 := D7.grew d8
  have L8 := L7.grew d8
  have M8 := M7.grew d8
  have P8 := P7.grew d8
  have b8 := b7.trans (d8.mono b7.size)
  clear h8 D7 d8 L7 M7 b7 P7
  go_wp2_with fail
  refine (htake_any (some ⟨G, 0, none⟩) m (m + 5) z w8 (lent_bytes L8) (by omega)).mono ?_
  intro e w9 h9
  obtain ⟨r9, c9, rfl, -, -, T9, d9⟩ := HT.out _ _ _ h9
  have a10 : Below w9.heap.size w9 (w9.alloc (.cells #[.int .u16 (s' : Int), .int .u16 (t' : Int), .int .u32 (f' : Int), .int .u16 (y' : Int), .slice r9 k c9] 26)) := (Below.refl _ _).alloc (Nat.le_refl _) _
  have A10 := DatAt.made w9 26 s' t' f' y' r9 k c9
  have b9 := b8.trans (d9.mono b8.size)
  have b10 := b9.trans (a10.mono b9.size)
  have D10 := (D8.grew d9).grew a10
  have L10 := (L8.grew d9).grew a10
  have M10 := (M8.grew d9).grew a10
  have P10 := (P8.grew d9).grew a10
  have Q10 := (Q8.grew d9).grew a10
  have T10 := T9.grew a10
  clear h9 d9 a10 b8 b9 D8 L8 M8 P8 Q8 T9
  go_wp2_with fail
  generalize (w9.alloc (.cells #[.int .u16 (s' : Int), .int .u16 (t' : Int), .int .u32 (f' : Int), .int .u16 (y' : Int), .slice r9 k c9] 26)) = w10 at *
  generalize w9.heap.size = G3 at *
  refine (rtake_any a1 m c1 z w10 (HZ.out.grew b10) hc1).mono ?_
  intro e w11 h11
  obtain ⟨r11, c11, rfl, -, -, U11, d11⟩ := HT.out _ _ _ h11
  have a12 : Below w11.heap.size w11 (w11.alloc (.cells #[.int .u16 (s' : Int), .int .u16 (t' : Int), .int .u32 (f' : Int), .int .u16 (y' : Int), .slice r11 k c11] 26)) := (Below.refl _ _).alloc (Nat.le_refl _) _
  have B12 := DatAt.made w11 26 s' t' f' y' r11 k c11
  have A12 := (A10.grew d11).grew a12
  have b11 := b10.trans (d11.mono b10.size)
  have b12 : Hid (Below w.heap.size w (w11.alloc (.cells #[.int .u16 (s' : Int), .int .u16 (t' : Int), .int .u32 (f' : Int), .int .u16 (y' : Int), .slice r11 k c11] 26))) := b11.trans (a12.mono b11.size)
  have D12 : Hid (DatAt _ _ _ _ _ _ _ _ _) := (D10.grew d11).grew a12
  have L12 : Hid (BytesAt _ _ _ _) := (L10.grew d11).grew a12
  have M12 : Hid (BytesAt _ _ _ _) := (M10.grew d11).grew a12
  have T12 : Hid (BytesAt _ _ _ _) := (T10.grew d11).grew a12
  have U12 : Hid (BytesAt _ _ _ _) := U11.grew a12
  have e1 := conv_bytes r7 pk c7 pZ _ ((P10.grew d11).grew a12)
  have e2 := conv_bytes r8 pk c8 pZ _ ((Q10.grew d11).grew a12)
  have g0 := A12.c0
  have g1 := A12.c1
  have g2 := A12.c2
  have g3 := A12.c3
  have g4 := A12.c4
  have h0 := B12.c0
  have h1 := B12.c1
  have h2 := B12.c2
  have h3 := B12.c3
  have h4 := B12.c4
  clear h11 d11 a12 b10 b11 D10 L10 M10 P10 Q10 T10 U11 A10 A12 B12
  go_wp2_with fail
  generalize (w11.alloc (.cells #[.int .u16 (s' : Int), .int .u16 (t' : Int), .int .u32 (f' : Int), .int .u16 (y' : Int), .slice r11 k c11] 26)) = w12 at *
  clear e1 e2 g0 g1 g2 g3 g4 h0 h1 h2 h3 h4
  refine (same_any s' t' f' y' k r9 r11 c9 c11 _ w12 T12.out U12.out).mono ?_
  rintro e w13 ⟨rfl, d13⟩
  have L13 := L12.out.grew d13
  have M13 := M12.out.grew d13
  have D13 := D12.out.grew d13
  have b13 : Hid (Below w.heap.size w w13) := b12.out.trans (d13.mono b12.out.size)
  clear L12 M12 D12 b12 T12 U12 d13
  go_wp2_with fail
  refine (whole_any a1 G m c1 z w13 L13 (HZ.out.grew b13.out) (by omega)).mono ?_
  rintro e w14 ⟨rfl, hw⟩
  have hw := hw.symm
  subst hw
  have q := D13.c4
  go_wp2_with fail
  refine (whole_any a G2 n c x w13 M13 (HX.out.grew b13.out) (by omega)).mono ?_
  rintro e w14 ⟨rfl, hw⟩
  have hw := hw.symm
  subst hw
  clear q D13 L13 M13
  go_wp2
  go_ret
  exact ⟨rfl, b13.out⟩

set_option maxRecDepth 100000 in
theorem long (s t f y : Int) (a : Option Addr) (n c : Nat) (a1 : Option Addr) (m c1 : Nat) (w : World) (h : ¬ (n ≤ 100 ∧ m ≤ 100)) :
    Calls Try.prog 3 #[.agg #[.int .u16 s, .int .u16 t, .int .u32 f, .int .u16 y, .slice a n c], .slice a1 m c1] w fun e w' => e = .returned (.bool true) ∧ Below w.heap.size w w' := by
  have q1 : (w.alloc (.cells #[.int .u16 s, .int .u16 t, .int .u32 f, .int .u16 y, .slice a n c] 26)).cell? ⟨w.heap.size, 4, none⟩ = some (.slice a n c) := by rw [World.cell?_alloc_at _ _ _ _ rfl]; rfl
  have b1 : Below w.heap.size w (w.alloc (.cells #[.int .u16 s, .int .u16 t, .int .u32 f, .int .u16 y, .slice a n c] 26)) := (Below.refl _ _).alloc (Nat.le_refl _) _
  go_enter Try.func3, Try.ntmps3
  go_wp2_with fail
  generalize (w.alloc (.cells #[.int .u16 s, .int .u16 t, .int .u32 f, .int .u16 y, .slice a n c] 26)) = w1 at *
  refine (begun9 _).mono ?_
  rintro e w2 ⟨rfl, d2⟩
  have q2 := (d2.cell (p := ⟨w.heap.size, 4, none⟩) (cell_lt q1)).trans q1
  have HB : Hid (Below w.heap.size w w2) := b1.trans (d2.mono b1.size)
  clear b1 d2 q1
  by_cases hn : n ≤ 100
  · have i0 : decide ((100 : Int) < (n : Int)) = false := by simp; omega
    have i1 : (100 : Int) < (m : Int) := by omega
    clear h hn
    go_wp2
    go_ret
    exact ⟨rfl, HB.out⟩
  · have i0 : (100 : Int) < (n : Int) := by omega
    clear h hn
    go_wp2
    go_ret
    exact ⟨rfl, HB.out⟩

theorem walk (s t f y : Nat) (a : Option Addr) (n c : Nat) (x : Nat → Nat) (a1 : Option Addr) (m c1 : Nat) (z : Nat → Nat) (w : World) (h0 : s < 65536 ∧ t < 65536 ∧ f < 4294967296 ∧ y < 65536 ∧ BytesAt w a n x ∧ n ≤ c ∧ c ≤ maxLen) (h1 : BytesAt w a1 m z ∧ m ≤ c1 ∧ c1 ≤ maxLen) :
    Calls Try.prog 3 #[.agg #[.int .u16 (s : Int), .int .u16 (t : Int), .int .u32 (f : Int), .int .u16 (y : Int), .slice a n c], .slice a1 m c1] w fun e w' => e = .returned (.bool true) ∧ Below w.heap.size w w' := by
  obtain ⟨ls, lt, lf, ly, hx, -, -⟩ := h0
  by_cases h : n ≤ 100 ∧ m ≤ 100
  · exact core s t f y a n c x a1 m c1 z w ls lt lf ly hx h1.1 h1.2.1 h.1 h.2
  · exact long s t f y a n c a1 m c1 w h

set_option maxRecDepth 100000 in
theorem lifted (os : Os) (started : os.Started) (H : Type) (enc : TypeId × Value → H) :
    ReturnsInHanded {} Try.checked os 3 .any (Rows.headAllSpec.pre6 enc Try.prog Try.f3 Rows.headAllRow.domain false) (Rows.headAllSpec.post enc Try.prog Try.f3 false true false false) := by
  refine returnsInHanded_of_change (C := Try.checked) own started (by kernel_rfl) Try.func3
    (ChangeSpec.witness6 (enc := enc) (C := Try.checked) false ⟨#[], #[.agg #[.int .u16 0, .int .u16 0, .int .u32 0, .int .u16 0, .slice none 0 0], .slice none 0 0], []⟩ 8 (by kernel_rfl) (by kernel_rfl) (by kernel_rfl) (by kernel_rfl)) ?_
  intro W base args ds gs before hval0 hW hcnd _
  have hval : ∀ (j : Nat) t v, Try.f3.params[j]? = some t → args[j]? = some v → Value.okWide Try.prog W .any base t v := hval0
  have hW' := hW
  obtain ⟨p, q, hA0, hV, rfl, hfz, hnd⟩ := hW
  have hA : DataW.TrodAll enc Try.prog W 0 (fun _ => true) true Try.f3.params.toList args.toList ds p := hA0
  rw [Try.params3] at hA hval
  obtain ⟨v0, vs0, d0, ds0, p0, q0, hargs, rfl, rfl, h0, r0⟩ := trodAll_cons hA
  obtain ⟨v1, vs1, d1, ds1, p1, q1, rfl, rfl, rfl, h1, r1⟩ := trodAll_cons r0
  obtain ⟨rfl, rfl, rfl⟩ := trodAll_nil r1
  obtain rfl : args = #[v0, v1] := by cases args; simp_all
  obtain ⟨rfl, rfl⟩ := trodVars_none hV
  have k0 := h0
  have lt0 : ∀ x ∈ p0, x.block < W.heap.size := by obtain ⟨m, hm⟩ := k0; exact DataW.trod_lt m _ _ _ hm
  obtain ⟨s0, t0, f0, y0, a0, n0, c0, x0, rfl, w0⟩ := open_data (hval 0 26 v0 rfl rfl) h0
  obtain ⟨a1, len1, cap1, rfl⟩ := okWide_slice Try.underlying24 (hval 1 24 v1 rfl rfl)
  have k1 := h1
  have lt1 : ∀ x ∈ p1, x.block < W.heap.size := by obtain ⟨m, hm⟩ := k1; exact DataW.trod_lt m _ _ _ hm
  obtain ⟨x1, w1⟩ : ∃ x, BytesAt W a1 len1 x ∧ len1 ≤ cap1 ∧ cap1 ≤ maxLen := open_bytes Try.underlying24 Try.underlying5 (by kernel_rfl) h1
  clear hA0 hval0
  refine (walk s0 t0 f0 y0 a0 n0 c0 x0 a1 len1 cap1 x1 W w0 w1).mono fun e W' ⟨he, bel⟩ => ?_
  subst he
  exact ⟨_, rfl, _, _, _, [], _, [], hW', trodAll_mk1 (shut_bool Try.underlying4 _), (trodAll_cons_mk (Below.trod laidOut (by kernel_rfl) (of_decide_eq_true (by kernel_rfl)) k0 bel lt0) (trodAll_cons_mk (Below.trod laidOut (by kernel_rfl) (of_decide_eq_true (by kernel_rfl)) k1 bel lt1) trodAll_mk0)), rfl, bel.frame _, fun h => by cases h⟩

theorem over : Rows.headAllRow.holds Try.pinned (OpenSpec.ofChange Rows.headAllSpec) :=
  OpenClaim.holds_of_wide 3 Try.f3 rfl rfl rfl rfl rfl rfl rfl ⟨rfl, rfl, rfl, rfl, rfl⟩ rfl rfl rfl rfl rfl (by kernel_rfl) Try.func3 (by kernel_rfl)
    (of_decide_eq_true (by kernel_rfl)) (by unfold Func.isWrapper; first | (rw [if_pos (by decide +kernel)]; kernel_rfl) | (rw [if_neg (by decide +kernel)]; exact ⟨rfl, rfl⟩))
    (fun os started H enc _ => lifted os started H enc)

theorem proved : Rows.HeadAllSaid := over
end Go.Proofs.Ytpabhllejmeogaa.headAll
namespace Go.Proofs.Ytpabhllejmeogaa
theorem headAll_holds : Rows.HeadAllSaid := headAll.proved
#print axioms headAll_holds
end Go.Proofs.Ytpabhllejmeogaa
