/-
  Package tally: a number is counted.
-/
import Derived.Test.YtalfncnpffbmmaaTl2
namespace Go.Proofs.Ytalfncnpffbmmaa
open Go.RowKit Go.Deep

theorem GAt.kept {w w' : World} {B R : Nat} {v : Nat → Value} (h : GAt w B v) (q : Kept R w w') (hR : B ≠ R) : GAt w' B v := h.block (q.block B h.lt hR)
theorem GAt.grown {w w' : World} {B : Nat} {row : Option Nat} {v : Nat → Value} (h : GAt w B v) (q : w.grownBy w' row) (hR : some B ≠ row) : GAt w' B v := h.block (q.block B h.lt hR)
theorem Srow.grown {w w' : World} {b o m : Nat} {row : Option Nat} {d : Array Int} (h : Srow w b o m d) (q : w.grownBy w' row) (hR : some b ≠ row) : Srow w' b o m d := h.block (q.block b h.lt hR)
theorem SetAt.kept {w w' : World} {b k R : Nat} {S : Nat → Bool} (h : SetAt w b k S) (q : Kept R w w') (hR : b ≠ R) : SetAt w' b k S := h.block (q.block b h.lt hR)
theorem SetAt.grown {w w' : World} {b k : Nat} {row : Option Nat} {S : Nat → Bool} (h : SetAt w b k S) (q : w.grownBy w' row) (hR : some b ≠ row) : SetAt w' b k S := h.block (q.block b h.lt hR)
theorem HalfAt.kept {w w' : World} {b k R : Nat} {F : Nat → Option Nat} (h : HalfAt w b k F) (q : Kept R w w') (hR : b ≠ R) : HalfAt w' b k F := h.block (q.block b h.lt hR)
theorem HalfAt.grown {w w' : World} {b k : Nat} {row : Option Nat} {F : Nat → Option Nat} (h : HalfAt w b k F) (q : w.grownBy w' row) (hR : some b ≠ row) : HalfAt w' b k F := h.block (q.block b h.lt hR)
theorem kept_alloc (w : World) (o : Obj) (R : Nat) : Kept R w (w.alloc o) := Kept.of_below ((Below.refl _ _).alloc (Nat.le_refl _) o)
theorem kept_grown {w w' : World} {b : Nat} (h : w.grownBy w' (some b)) : Kept b w w' := ⟨h.os, h.tape, h.output, h.size, fun k hk hn => h.block k hk (fun e => hn (by injection e))⟩

theorem map_equalIn (n : Nat) (o : Option Nat) (w : World) : (Op.equalIn (n + 1) 47 (.map o) (.map none)).run Try.prog w = .ok o.isNone w := by
  cases o <;> simp [Op.equalIn, run_underlying Try.underlying47]
theorem map_eql (o : Option Nat) (w : World) : (binOp .eql 47 (.map o) (.map none)).run Try.prog w = .ok (.bool o.isNone) w := by
  simp only [binOp]
  simp [Op.equal, Op.maxDepth, map_equalIn 9999]
set_option maxRecDepth 100000 in
set_option maxHeartbeats 1000000 in
theorem tadd_next (g cm im fb m k n x since got : Nat) (d : Array Int) (S : Nat → Bool) (v : Nat → Value) (w : World) (hx1 : 65536 ≤ x) (hx2 : x < 98304) (hs : since < x) (hgot : got ≤ 1000000) (hk : k ≤ 1000000) (hn : d.size = n) (hn2 : n ≤ 1000000)
    (hv1 : v 1 = .map (some cm)) (hv2 : v 2 = .int .u64 (since : Int)) (hv3 : v 3 = .int .u64 (got : Int)) (hv4 : v 4 = fresh fb m n)
    (HG : Hid (GAt w g v)) (HH : Hid (HalfAt w cm 1 (fun y => if y = 2 then some im else none))) (HS : Hid (SetAt w im k S)) (HX : Hid (Srow w fb 0 m d)) (HM : Hid (m ≤ maxLen)) (H5 : Hid (g ≠ cm ∧ g ≠ im ∧ g ≠ fb ∧ cm ≠ im ∧ cm ≠ fb ∧ im ≠ fb)) :
    Calls Try.prog 15 #[.pointer (some ⟨g, 0, none⟩), .int .u64 (x : Int)] w fun e w' => e = .returned (.tuple #[]) ∧ ∃ fb' m', (fb' = fb ∨ w.heap.size ≤ fb') ∧
      GAt w' g (fun j => if j = 4 then fresh fb' m' (n + 1) else if j = 3 then .int .u64 ((got + 1 : Nat) : Int) else v j) ∧ HalfAt w' cm 1 (fun y => if y = 2 then some im else none) ∧ SetAt w' im (k + 1) (fun y => if y = x then true else S y) ∧ Srow w' fb' 0 m' (d.push (x : Int)) ∧ m' ≤ maxLen ∧ KeptF (fun R => R = g ∨ R = im ∨ R = fb) w w' := by
  obtain ⟨n1, n2, n3, n4, n5, n6⟩ := H5.out
  have c1 : w.cell? ⟨g, 1, none⟩ = some (.map (some cm)) := (HG.out.cell 1 (by decide)).trans (by rw [hv1])
  have hq1 : (x : Int).tdiv 32768 = 2 := by
    rw [Int.tdiv_eq_ediv_of_nonneg (by omega)]
    omega
  have hq2 : (x : Int) / 32768 = 2 := by omega
  have hl0 : (Instr.lookup 38 (.map (some cm)) (.int .u64 2) false).run Try.prog w = .ok (.map (some im)) w := HH.out.look (x := 2) (by decide)
  have hel : (binOp .eql 47 (.map (some im)) (.map none)).run Try.prog w = .ok (.bool false) w := map_eql _ _
  obtain ⟨W2, hu2, S2, g2, z2⟩ := HS.out.put (x := x) (by omega) hk
  have G2 := HG.out.grown g2 (by simpa using n2)
  have H2 := HH.out.grown g2 (by simpa using n4)
  have X2 := HX.out.grown g2 (by simpa using n6.symm)
  have c2 : W2.cell? ⟨g, 2, none⟩ = some (.int .u64 (since : Int)) := (G2.cell 2 (by decide)).trans (by rw [hv2])
  have c3 : W2.cell? ⟨g, 3, none⟩ = some (.int .u64 (got : Int)) := (G2.cell 3 (by decide)).trans (by rw [hv3])
  have f3 : W2.frozen? ⟨g, 3, none⟩ = false := G2.frz 3
  obtain ⟨W3, e3⟩ : ∃ W, W2.setCell ⟨g, 3, none⟩ (.int .u64 ((got : Int) + 1)) = W := ⟨_, rfl⟩
  have k3 : Kept g W2 W3 := e3 ▸ Kept.set _ _ _
  have z3 : W3.heap.size = W2.heap.size := by rw [← e3]; simp [World.setCell]
  have G3 : GAt W3 g _ := e3 ▸ G2.set 3 (.int .u64 ((got : Int) + 1))
  have H3 := H2.kept k3 n1.symm
  have S3 := S2.kept k3 n2.symm
  have X3 := X2.kept k3 n3.symm
  have c4 : W3.cell? ⟨g, 4, none⟩ = some (.slice (some ⟨fb, 0, none⟩) n m) := (G3.cell 4 (by decide)).trans (by show some (v 4) = _; rw [hv4]; rfl)
  obtain ⟨W4, e4⟩ : ∃ W, W3.alloc (.cells #[.int .u64 (x : Int)] 26) = W := ⟨_, rfl⟩
  have k4 : ∀ R, Kept R W3 W4 := fun R => e4 ▸ kept_alloc _ _ R
  have z4 : W4.heap.size = W3.heap.size + 1 := by rw [← e4]; simp
  have G4 := G3.block ((k4 (W3.heap.size)).block g G3.lt (by have := G3.lt; omega))
  have H4 := H3.block ((k4 (W3.heap.size)).block cm H3.lt (by have := H3.lt; omega))
  have S4 := S3.block ((k4 (W3.heap.size)).block im S3.lt (by have := S3.lt; omega))
  have X4 := X3.block ((k4 (W3.heap.size)).block fb X3.lt (by have := X3.lt; omega))
  have cx : W4.cell? ⟨W3.heap.size, 0, none⟩ = some (.int .u64 (x : Int)) := by rw [← e4, World.cell?_alloc_at _ _ _ _ rfl]; rfl
  obtain ⟨fb', m', W5, happ, X5, hm5, g5, w5⟩ := row_push (c := 1) 39 (X4.owns HM.out) cx (by omega)
  rw [hn] at happ
  have g5' : W4.grownBy W5 (some fb) := g5
  have e5 : fb' = fb ∨ fb' = W4.heap.size := by
    rcases w5 with e | e
    · exact Or.inl (by have : some fb = some fb' := e; injection this with h; exact h.symm)
    · exact Or.inr e
  have l1 := G3.lt
  have l2 := H3.lt
  have l3 := S3.lt
  have l4 := X3.lt
  have G5 := G4.grown g5' (by simpa using n3)
  have H5' := H4.grown g5' (by simpa using n5)
  have S5 := S4.grown g5' (by simpa using n6)
  have c5 := G5.cell 4 (by decide)
  have f5 : W5.frozen? ⟨g, 4, none⟩ = false := G5.frz 4
  obtain ⟨oldv, c5⟩ : ∃ u, W5.cell? ⟨g, 4, none⟩ = some u := ⟨_, c5⟩
  obtain ⟨W6, e6⟩ : ∃ W, W5.setCell ⟨g, 4, none⟩ (.slice (some ⟨fb', 0, none⟩) (n + 1) m') = W := ⟨_, rfl⟩
  have k6 : Kept g W5 W6 := e6 ▸ Kept.set _ _ _
  have hfg : fb' ≠ g := by rcases e5 with e | e <;> omega
  have END : Hid (∃ fb' m', (fb' = fb ∨ w.heap.size ≤ fb') ∧
      GAt W6 g (fun j => if j = 4 then fresh fb' m' (n + 1) else if j = 3 then .int .u64 ((got + 1 : Nat) : Int) else v j) ∧ HalfAt W6 cm 1 (fun y => if y = 2 then some im else none) ∧ SetAt W6 im (k + 1) (fun y => if y = x then true else S y) ∧ Srow W6 fb' 0 m' (d.push (x : Int)) ∧ m' ≤ maxLen ∧ KeptF (fun R => R = g ∨ R = im ∨ R = fb) w W6) := by
    refine ⟨fb', m', ?_, e6 ▸ (G5.set 4 (.slice (some ⟨fb', 0, none⟩) (n + 1) m')), H5'.kept k6 n1.symm, S5.kept k6 n2.symm, X5.kept k6 hfg, hm5, ?_⟩
    · rcases e5 with e | e
      · exact Or.inl e
      · exact Or.inr (by have := g2.size; omega)
    · exact ((((KeptF.of_kept (kept_grown g2) (Or.inr (Or.inl rfl))).trans (KeptF.of_kept k3 (Or.inl rfl))).trans (KeptF.of_kept (k4 g) (Or.inl rfl))).trans (KeptF.of_kept (kept_grown g5') (Or.inr (Or.inr rfl)))).trans (KeptF.of_kept k6 (Or.inl rfl))
  have i1 : decide ((x : Int) ≤ (since : Int)) = false := by simp; omega
  have i2 : decide (x ≤ since) = false := by simp; omega
  have i3 : IntKind.u64.wrap ((got : Int) + 1) = (got : Int) + 1 := by simp [IntKind.wrap, IntKind.bits, IntKind.signed]; omega
  have c1' : W2.cell? ⟨g, 1, none⟩ = some (.map (some cm)) := (G2.cell 1 (by decide)).trans (by rw [hv1])
  clear HG HH HS HX HM H5 n1 n2 n3 n4 n5 n6 S2 g2 z2 G2 H2 X2 k3 z3 G3 H3 S3 X3 k4 z4 G4 H4 S4 X4 cx X5 hm5 g5 g5' w5 e5 l1 l2 l3 l4 G5 H5' S5 k6 hfg hv1 hv2 hv3 hv4
  go_enter Try.func15, Try.ntmps15
  go_wp2_with (at_builtin; refine Go.Lib.wpList_append_run _ rfl (.tmp 52) (.tmp 54) 39 39 rfl _ _ rfl rfl _ _ happ ?_)
  exact bodyPost_end (results_none Try.results15 _ _ _) rfl ⟨rfl, END.out⟩
end Go.Proofs.Ytalfncnpffbmmaa
