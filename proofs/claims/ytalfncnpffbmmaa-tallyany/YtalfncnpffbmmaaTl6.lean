/-
  Package tally: Got, of the second half round alone.
-/
import Derived.Test.YtalfncnpffbmmaaTl5
namespace Go.Proofs.Ytalfncnpffbmmaa
open Go.RowKit Go.Deep

theorem KeptF.mono {F H : Nat → Prop} {w w' : World} (h : KeptF F w w') (i : ∀ R, F R → H R) : KeptF H w w' := ⟨h.os, h.tape, h.output, h.size, fun k hk hn => h.block k hk (fun hF => hn (i k hF))⟩
/-- What is new does not count. -/
theorem KeptF.new {F H : Nat → Prop} {w x y : World} (h : KeptF F w x) (k : KeptF H x y) (i : ∀ R, H R → F R ∨ w.heap.size ≤ R) : KeptF F w y :=
  ⟨k.os.trans h.os, k.tape.trans h.tape, k.output.trans h.output, Nat.le_trans h.size k.size, fun j hj hF => (k.block j (Nat.lt_of_lt_of_le hj h.size) (fun hH => by rcases i j hH with e | e; exact hF e; omega)).trans (h.block j hj hF)⟩
theorem ExtAt.block {w w' : World} {g t : Nat} (h : ExtAt w g t) (e : w'.heap[g]? = w.heap[g]?) : ExtAt w' g t :=
  ⟨(World.cell?_of_block e).trans h.cell, (World.frozen?_of_block (a := ⟨g, 0, none⟩) e).trans h.thaw⟩
theorem ExtAt.lt {w : World} {g t : Nat} (h : ExtAt w g t) : g < w.heap.size := cell_lt h.cell
set_option maxRecDepth 100000 in
set_option maxHeartbeats 1000000 in
theorem tgot_first (g ex cm n : Nat) (w : World) (hn : n < 32768) (H : TlNew w g ex cm) :
    Calls Try.prog 6 #[.pointer (some ⟨g, 0, none⟩), .int .u16 (n : Int)] w fun e w' => e = .returned (.tuple #[.int .u64 ((65536 + n : Nat) : Int), .bool true]) ∧ ∃ im fb m, w.heap.size ≤ im ∧ w.heap.size ≤ fb ∧
      TlAt w' g ex cm im fb m 1 ⟨65536 + n, 65535 + n, 1, 65535 + n, 0, 0, 0, #[((65536 + n : Nat) : Int)], fun y => if y = 65536 + n then true else false⟩ ∧ KeptF (fun R => R = g ∨ R = ex ∨ R = cm) w w' := by
  have c0 : w.cell? ⟨g, 0, none⟩ = some (.pointer (some ⟨ex, 0, none⟩)) := H.G.cell 0 (by decide)
  obtain ⟨x, hx⟩ : ∃ x, x = 65536 + n := ⟨_, rfl⟩
  obtain ⟨y, hy⟩ : ∃ y, y = 65535 + n := ⟨_, rfl⟩
  rw [← hx, ← hy]
  have N : Hid (g ≠ ex ∧ g ≠ cm ∧ ex ≠ cm) := ⟨H.ge, H.gc, H.ec⟩
  have HG : Hid (GAt w g (tlV ex cm (.slice none 0 0) ⟨0, 0, 0, 0, 0, 0, 0, #[], fun _ => false⟩)) := H.G
  have HE : Hid (ExtAt w ex 0) := H.ext
  have HH : Hid (HalfAt w cm 0 (fun _ => none)) := H.hal
  have x1 : 65536 ≤ x := by omega
  have x2 : x < 98304 := by omega
  have xy : (x : Int) - 1 = (y : Int) := by omega
  have yx : y < x := by omega
  have XY : Hid (y = x - 1) := by show y = x - 1; omega
  have XN : Hid (Ser.far 0 n = x) := by show Ser.far 0 n = x; rw [Ser.far_zero, hx]
  have XT : Hid (Ser.top 0 n = x) := by
    show Ser.top 0 n = x
    unfold Ser.top
    rw [Ser.far_zero, hx]
    omega
  clear H hx hy
  go_enter Try.func6, Try.ntmps6
  go_wp2_with fail
  refine (tnone_any g _ w c0).mono ?_
  rintro e w1 ⟨rfl, rfl⟩
  go_wp2_with fail
  refine (top_any ex 0 w1 HE.out).mono ?_
  rintro e w2 ⟨rfl, rfl⟩
  go_wp2_with fail
  refine (extend_any ex 0 n w2 HE.out (by omega) (Or.inl rfl) (by decide)).mono ?_
  rintro e w3 ⟨rfl, E3, K3, z3⟩
  rw [XN.out]
  rw [XT.out] at E3
  have HE3 : Hid (ExtAt w3 ex x) := E3
  have HG3 : Hid (GAt w3 g (tlV ex cm (.slice none 0 0) ⟨0, 0, 0, 0, 0, 0, 0, #[], fun _ => false⟩)) := HG.out.kept K3 N.out.1
  have HH3 : Hid (HalfAt w3 cm 0 (fun _ => none)) := HH.out.kept K3 (Ne.symm N.out.2.2)
  have HK3 : Hid (KeptF (fun R => R = g ∨ R = ex ∨ R = cm) w2 w3) := KeptF.of_kept K3 (Or.inr (Or.inl rfl))
  clear E3 K3 z3 HE HG HH c0
  go_wp2_with fail
  refine (tbegin_any g y _ w3 HG3.out).mono ?_
  rintro e w4 ⟨rfl, G4, K4⟩
  obtain ⟨v, hv⟩ : ∃ v : Nat → Value, v = (fun j => if j = 6 then .int .u64 0 else if j = 3 then .int .u64 0 else if j = 5 then .int .u64 (y : Int) else if j = 2 then .int .u64 (y : Int) else tlV ex cm (.slice none 0 0) ⟨0, 0, 0, 0, 0, 0, 0, #[], fun _ => false⟩ j) := ⟨_, rfl⟩
  rw [← hv] at G4
  have HG4 : Hid (GAt w4 g v) := G4
  have HE4 : Hid (ExtAt w4 ex x) := HE3.out.kept K4 (Ne.symm N.out.1)
  have HH4 : Hid (HalfAt w4 cm 0 (fun _ => none)) := HH3.out.kept K4 (Ne.symm N.out.2.1)
  have HK4 : Hid (KeptF (fun R => R = g ∨ R = ex ∨ R = cm) w2 w4) := HK3.out.trans (KeptF.of_kept K4 (Or.inl rfl))
  have HV : Hid (v = (fun j => if j = 6 then .int .u64 0 else if j = 3 then .int .u64 0 else if j = 5 then .int .u64 (y : Int) else if j = 2 then .int .u64 (y : Int) else tlV ex cm (.slice none 0 0) ⟨0, 0, 0, 0, 0, 0, 0, #[], fun _ => false⟩ j)) := hv
  have v1 : v 1 = .map (some cm) := by rw [hv]; rfl
  have v2 : v 2 = .int .u64 (y : Int) := by rw [hv]; rfl
  have v3 : v 3 = .int .u64 ((0 : Nat) : Int) := by rw [hv]; rfl
  have v4 : v 4 = .slice none 0 0 := by rw [hv]; rfl
  have v5 : v 5 = .int .u64 (y : Int) := by rw [hv]; rfl
  have v6 : v 6 = .int .u64 0 := by rw [hv]; rfl
  have HVS : Hid (v 1 = .map (some cm) ∧ v 2 = .int .u64 (y : Int) ∧ v 3 = .int .u64 ((0 : Nat) : Int) ∧ v 4 = .slice none 0 0 ∧ v 5 = .int .u64 (y : Int) ∧ v 6 = .int .u64 0) := ⟨v1, v2, v3, v4, v5, v6⟩
  have c1 : w4.cell? ⟨g, 1, none⟩ = some (.map (some cm)) := (G4.cell 1 (by decide)).trans (by rw [v1])
  have hl0 : (Instr.lookup 38 (.map (some cm)) (.int .u64 2) false).run Try.prog w4 = .ok (.map none) w4 := HH4.out.look (x := 2) (by decide)
  have hl1 := set_nil w4 x (by omega)
  have hq1 : (x : Int).tdiv 32768 = 2 := by
    rw [Int.tdiv_eq_ediv_of_nonneg (by omega)]
    omega
  have hq2 : (x : Int) / 32768 = 2 := by omega
  have l1 : w4.heap.size > g := HG4.out.lt
  have l2 : w4.heap.size > cm := HH4.out.lt
  have l3 : w4.heap.size > ex := HE4.out.lt
  have LL : Hid (g < w4.heap.size ∧ cm < w4.heap.size ∧ ex < w4.heap.size) := ⟨l1, l2, l3⟩
  have B5 : Below w4.heap.size w4 (w4.alloc (.cells #[] 45)) := (Below.refl _ _).alloc (Nat.le_refl _) _
  have HG5 : Hid (GAt (w4.alloc (.cells #[] 45)) g v) := HG4.out.block (B5.block g l1)
  have HH5 : Hid (HalfAt (w4.alloc (.cells #[] 45)) cm 0 (fun _ => none)) := HH4.out.block (B5.block cm l2)
  have HE5 : Hid (ExtAt (w4.alloc (.cells #[] 45)) ex x) := HE4.out.block (B5.block ex l3)
  have HK5 : Hid (KeptF (fun R => R = g ∨ R = ex ∨ R = cm) w2 (w4.alloc (.cells #[] 45))) := HK4.out.trans (KeptF.of_below B5)
  have z5 : w4.heap.size < (w4.alloc (.cells #[] 45)).heap.size := by simp
  have HZ5 : Hid (w4.heap.size < (w4.alloc (.cells #[] 45)).heap.size) := z5
  have HZ2 : Hid (w2.heap.size ≤ w4.heap.size) := HK4.out.size
  clear G4 K4 hv v1 v2 v3 v4 v5 v6 HG3 HE3 HH3 HK3 l1 l2 l3 B5 z5
  go_wp2_with fail
  generalize w4.alloc (.cells #[] 45) = w5 at *
  refine (tadd_first g cm x y 0 v w5 x1 x2 yx (by decide) HVS.out.1 HVS.out.2.1 HVS.out.2.2.1 HVS.out.2.2.2.1 HG5 HH5 N.out.2.1).mono ?_
  rintro e w6 ⟨rfl, im, fb, m, g1, g2, G6, H6, S6, X6, m6, K6⟩
  have him : w2.heap.size ≤ im := by have := HZ2.out; have := HZ5.out; omega
  have L6 := LL.out
  have hgim : g ≠ im := by have := HZ5.out; omega
  have hgfb : g ≠ fb := by have := HZ5.out; omega
  have hcim : cm ≠ im := by have := HZ5.out; omega
  have hcfb : cm ≠ fb := by have := HZ5.out; omega
  have heim : ex ≠ im := by have := HZ5.out; omega
  have hefb : ex ≠ fb := by have := HZ5.out; omega
  have H5 : Hid (Five g ex cm im fb) := ⟨N.out.1, N.out.2.1, hgim, hgfb, N.out.2.2, heim, hefb, hcim, hcfb, by omega⟩
  have HE6 : Hid (ExtAt w6 ex x) := HE5.out.block (K6.block ex HE5.out.lt (fun h => by rcases h with h | h; exact N.out.1 h.symm; exact N.out.2.2 h))
  have HS6 : Hid (SetAt w6 im 1 (fun y => if y = x then true else false)) := S6
  have HG6 : Hid (GAt w6 g (fun j => if j = 4 then fresh fb m 1 else if j = 3 then .int .u64 ((0 + 1 : Nat) : Int) else v j)) := G6
  have HH6 : Hid (HalfAt w6 cm 1 (fun y => if y = 2 then some im else none)) := H6
  have HX6 : Hid (Srow w6 fb 0 m #[(x : Int)]) := X6
  have HM6 : Hid (m ≤ maxLen) := m6
  have HK6 : Hid (KeptF (fun R => R = g ∨ R = ex ∨ R = cm) w2 w6) := HK5.out.trans (K6.mono (fun R h => by rcases h with h | h; exact Or.inl h; exact Or.inr (Or.inr h)))
  have HIM : Hid (w2.heap.size ≤ im ∧ w2.heap.size ≤ fb) := ⟨him, by omega⟩
  clear L6 G6 H6 S6 X6 m6 K6 g1 g2 him hgim hgfb hcim hcfb heim hefb HG5 HH5 HE5 HK5 HZ5 HZ2 LL HG4 HE4 HH4 HK4 hl0 hl1 c1
  go_wp2_with fail
  refine (tforget_first g cm im fb m x (fun j => if j = 4 then fresh fb m 1 else if j = 3 then .int .u64 ((0 + 1 : Nat) : Int) else v j) w6 x1 x2 HVS.out.1 rfl (by rw [← XY.out]; exact HVS.out.2.2.2.2.1) HVS.out.2.2.2.2.2 HG6 HH6 HX6 ⟨H5.out.2.1, H5.out.2.2.2.1, H5.out.2.2.2.2.2.2.2.2.1⟩).mono ?_
  rintro e w7 ⟨rfl, G7, H7, X7, K7⟩
  have Q := H5.out
  have hk : ∀ R, R = g ∨ R = cm ∨ R = fb → (R = g ∨ R = ex ∨ R = cm) ∨ w2.heap.size ≤ R := fun R h => by
    rcases h with h | h | h
    · exact Or.inl (Or.inl h)
    · exact Or.inl (Or.inr (Or.inr h))
    · exact Or.inr (h ▸ HIM.out.2)
  have END : Hid (TlAt w7 g ex cm im fb m 1 ⟨x, y, 1, y, 0, 0, 0, #[(x : Int)], fun y => if y = x then true else false⟩ ∧ KeptF (fun R => R = g ∨ R = ex ∨ R = cm) w2 w7) := by
    refine ⟨⟨G7.congr (fun i hi => ?_), HE6.out.block (K7.block ex HE6.out.lt (fun h => ?_)), H7, HS6.out.block (K7.block im HS6.out.lt (fun h => ?_)), X7, HM6.out, H5.out⟩, HK6.out.new K7 hk⟩
    · show (if i = 4 then fresh fb m 1 else if i = 3 then .int .u64 ((0 + 1 : Nat) : Int) else v i) = _
      rw [HV.out]
      rcases nine hi with rfl | rfl | rfl | rfl | rfl | rfl | rfl | rfl | rfl <;> rfl
    · unfold Five at Q
      rcases h with h | h | h <;> omega
    · unfold Five at Q
      rcases h with h | h | h <;> omega
  clear G7 H7 X7 K7 Q hk
  go_wp2
  go_ret2
  exact ⟨rfl, im, fb, m, HIM.out.1, HIM.out.2, END.out⟩
end Go.Proofs.Ytalfncnpffbmmaa
