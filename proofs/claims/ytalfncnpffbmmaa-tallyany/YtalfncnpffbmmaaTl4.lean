/-
  Package tally: the first number is counted; what is settled.
-/
import Derived.Test.YtalfncnpffbmmaaTl3
namespace Go.Proofs.Ytalfncnpffbmmaa
open Go.RowKit Go.Deep

set_option maxRecDepth 100000 in
set_option maxHeartbeats 1000000 in
theorem tadd_first (g cm x since got : Nat) (v : Nat → Value) (w : World) (hx1 : 65536 ≤ x) (hx2 : x < 98304) (hs : since < x) (hgot : got ≤ 1000000)
    (hv1 : v 1 = .map (some cm)) (hv2 : v 2 = .int .u64 (since : Int)) (hv3 : v 3 = .int .u64 (got : Int)) (hv4 : v 4 = .slice none 0 0)
    (HG : Hid (GAt w g v)) (HH : Hid (HalfAt w cm 0 (fun _ => none))) (n1 : g ≠ cm) :
    Calls Try.prog 15 #[.pointer (some ⟨g, 0, none⟩), .int .u64 (x : Int)] w fun e w' => e = .returned (.tuple #[]) ∧ ∃ im fb m, w.heap.size ≤ im ∧ im < fb ∧
      GAt w' g (fun j => if j = 4 then fresh fb m 1 else if j = 3 then .int .u64 ((got + 1 : Nat) : Int) else v j) ∧ HalfAt w' cm 1 (fun y => if y = 2 then some im else none) ∧ SetAt w' im 1 (fun y => if y = x then true else false) ∧ Srow w' fb 0 m #[(x : Int)] ∧ m ≤ maxLen ∧ KeptF (fun R => R = g ∨ R = cm) w w' := by
  have c1 : w.cell? ⟨g, 1, none⟩ = some (.map (some cm)) := (HG.out.cell 1 (by decide)).trans (by rw [hv1])
  have hq1 : (x : Int).tdiv 32768 = 2 := by
    rw [Int.tdiv_eq_ediv_of_nonneg (by omega)]
    omega
  have hq2 : (x : Int) / 32768 = 2 := by omega
  have hl0 : (Instr.lookup 38 (.map (some cm)) (.int .u64 2) false).run Try.prog w = .ok (.map none) w := HH.out.look (x := 2) (by decide)
  have hel : (binOp .eql 47 (.map none) (.map none)).run Try.prog w = .ok (.bool true) w := map_eql _ _
  have hmk := make_set w
  obtain ⟨im, him⟩ : ∃ im, im = w.heap.size := ⟨_, rfl⟩
  obtain ⟨W1, e1⟩ : ∃ W, w.alloc (.map #[] 0) = W := ⟨_, rfl⟩
  have S1 : SetAt W1 im 0 (fun _ => false) := by rw [← e1, him]; exact SetAt.made w
  have k1 : ∀ R, Kept R w W1 := fun R => e1 ▸ kept_alloc _ _ R
  have z1 : W1.heap.size = w.heap.size + 1 := by rw [← e1]; simp
  rw [e1] at hmk
  have G1 := HG.out.block ((k1 w.heap.size).block g HG.out.lt (by have := HG.out.lt; omega))
  have H1 := HH.out.block ((k1 w.heap.size).block cm HH.out.lt (by have := HH.out.lt; omega))
  have l1 := HG.out.lt
  have l2 := HH.out.lt
  obtain ⟨W2, hu2, H2, g2, z2⟩ := H1.put (x := 2) (q := im) (by decide) (by decide)
  have hu2 : (Instr.mapUpdate 38 (.map (some cm)) (.int .u64 2) (.map (some im))).run Try.prog W1 = .ok () W2 := hu2
  have G2 := G1.grown g2 (by simpa using n1)
  have S2 := S1.grown g2 (by simp; omega)
  have hl2 : (Instr.lookup 38 (.map (some cm)) (.int .u64 2) false).run Try.prog W2 = .ok (.map (some im)) W2 := H2.look (x := 2) (by decide)
  have c2 : W2.cell? ⟨g, 1, none⟩ = some (.map (some cm)) := (G2.cell 1 (by decide)).trans (by rw [hv1])
  have c1' : W1.cell? ⟨g, 1, none⟩ = some (.map (some cm)) := (G1.cell 1 (by decide)).trans (by rw [hv1])
  obtain ⟨W3, hu3, S3, g3, z3⟩ := S2.put (x := x) (by omega) (by decide)
  have G3 := G2.grown g3 (by simp; omega)
  have H3 := H2.grown g3 (by simp; omega)
  have c3 : W3.cell? ⟨g, 2, none⟩ = some (.int .u64 (since : Int)) := (G3.cell 2 (by decide)).trans (by rw [hv2])
  have c4 : W3.cell? ⟨g, 3, none⟩ = some (.int .u64 (got : Int)) := (G3.cell 3 (by decide)).trans (by rw [hv3])
  have f4 : W3.frozen? ⟨g, 3, none⟩ = false := G3.frz 3
  obtain ⟨W4, e4⟩ : ∃ W, W3.setCell ⟨g, 3, none⟩ (.int .u64 ((got : Int) + 1)) = W := ⟨_, rfl⟩
  have k4 : Kept g W3 W4 := e4 ▸ Kept.set _ _ _
  have z4 : W4.heap.size = W3.heap.size := by rw [← e4]; simp [World.setCell]
  have G4 : GAt W4 g _ := e4 ▸ G3.set 3 (.int .u64 ((got : Int) + 1))
  have H4 := H3.kept k4 n1.symm
  have S4 := S3.kept k4 (by omega)
  have c5 : W4.cell? ⟨g, 4, none⟩ = some (.slice none 0 0) := (G4.cell 4 (by decide)).trans (by show some (v 4) = _; rw [hv4])
  obtain ⟨W5, e5⟩ : ∃ W, W4.alloc (.cells #[.int .u64 (x : Int)] 26) = W := ⟨_, rfl⟩
  have k5 : ∀ R, Kept R W4 W5 := fun R => e5 ▸ kept_alloc _ _ R
  have z5 : W5.heap.size = W4.heap.size + 1 := by rw [← e5]; simp
  have G5 := G4.block ((k5 (W4.heap.size)).block g G4.lt (by have := G4.lt; omega))
  have H5 := H4.block ((k5 (W4.heap.size)).block cm H4.lt (by have := H4.lt; omega))
  have S5 := S4.block ((k5 (W4.heap.size)).block im S4.lt (by have := S4.lt; omega))
  have cx : W5.cell? ⟨W4.heap.size, 0, none⟩ = some (.int .u64 (x : Int)) := by rw [← e5, World.cell?_alloc_at _ _ _ _ rfl]; rfl
  obtain ⟨fb, m, W6, happ, X6, hm6, g6, w6⟩ := row_push (d := #[]) (c := 1) 39 (⟨rfl, .inl ⟨rfl, rfl⟩⟩ : W5.ownsRow 0 26 1 (.slice none 0 0) _ (wcells #[])) cx (by decide)
  have happ : (Builtin.append_ #[39, 39] 39 #[.slice none 0 0, .slice (some ⟨W4.heap.size, 0, none⟩) 1 1]).run Try.prog W5 = .ok (.slice (some ⟨fb, 0, none⟩) 1 m) W6 := happ
  have X6 : Srow W6 fb 0 m #[(x : Int)] := X6
  have g6' : W5.grownBy W6 none := g6
  have e6 : fb = W5.heap.size := by
    rcases w6 with e | e
    · exact absurd e (by simp [Value.ownBlock])
    · exact e
  have G6 := G5.grown g6' (by simp)
  have H6 := H5.grown g6' (by simp)
  have S6 := S5.grown g6' (by simp)
  have c6 := G6.cell 4 (by decide)
  have f6 : W6.frozen? ⟨g, 4, none⟩ = false := G6.frz 4
  obtain ⟨oldv, c6⟩ : ∃ u, W6.cell? ⟨g, 4, none⟩ = some u := ⟨_, c6⟩
  obtain ⟨W7, e7⟩ : ∃ W, W6.setCell ⟨g, 4, none⟩ (.slice (some ⟨fb, 0, none⟩) 1 m) = W := ⟨_, rfl⟩
  have k7 : Kept g W6 W7 := e7 ▸ Kept.set _ _ _
  have END : Hid (∃ im fb m, w.heap.size ≤ im ∧ im < fb ∧
      GAt W7 g (fun j => if j = 4 then fresh fb m 1 else if j = 3 then .int .u64 ((got + 1 : Nat) : Int) else v j) ∧ HalfAt W7 cm 1 (fun y => if y = 2 then some im else none) ∧ SetAt W7 im 1 (fun y => if y = x then true else false) ∧ Srow W7 fb 0 m #[(x : Int)] ∧ m ≤ maxLen ∧ KeptF (fun R => R = g ∨ R = cm) w W7) := by
    refine ⟨im, fb, m, by omega, by omega, e7 ▸ (G6.set 4 (.slice (some ⟨fb, 0, none⟩) 1 m)), H6.kept k7 n1.symm, S6.kept k7 (by omega), X6.kept k7 (by omega), hm6, ?_⟩
    have a1 : KeptF (fun R => R = g ∨ R = cm) w W2 := (KeptF.of_kept (k1 g) (Or.inl rfl)).trans (KeptF.of_kept (kept_grown g2) (Or.inr rfl))
    have a2 : KeptF (fun R => R = g ∨ R = cm) w W3 := ⟨g3.os.trans a1.os, g3.tape.trans a1.tape, g3.output.trans a1.output, by have := a1.size; omega, fun i hi hF => (g3.block i (by have := a1.size; omega) (by simp; omega)).trans (a1.block i hi hF)⟩
    exact ((a2.trans (KeptF.of_kept k4 (Or.inl rfl))).trans (KeptF.of_kept (k5 g) (Or.inl rfl))).trans ((KeptF.of_grown g6' (fun R h => by cases h)).trans (KeptF.of_kept k7 (Or.inl rfl)))
  have i1 : decide ((x : Int) ≤ (since : Int)) = false := by simp; omega
  have i2 : decide (x ≤ since) = false := by simp; omega
  have i3 : IntKind.u64.wrap ((got : Int) + 1) = (got : Int) + 1 := by simp [IntKind.wrap, IntKind.bits, IntKind.signed]; omega
  rw [← him] at hmk
  clear HG HH n1 S1 k1 z1 G1 H1 l1 l2 H2 g2 z2 G2 S2 S3 g3 z3 G3 H3 k4 z4 G4 H4 S4 k5 z5 G5 H5 S5 cx X6 hm6 g6 g6' w6 e6 G6 H6 S6 k7 hv1 hv2 hv3 hv4 e1 him
  go_enter Try.func15, Try.ntmps15
  go_wp2_with (at_builtin; refine Go.Lib.wpList_append_run _ rfl (.tmp 52) (.tmp 54) 39 39 rfl _ _ rfl rfl _ _ happ ?_)
  exact bodyPost_end (results_none Try.results15 _ _ _) rfl ⟨rfl, END.out⟩

/-! What is settled: y the numbers, in order. -/
def stl (y : Nat → Nat) (s : Nat) : Nat → Nat
  | 0 => s
  | i + 1 => y i
def bst (y : Nat → Nat) (s u : Nat) : Nat → Nat
  | 0 => u
  | i + 1 => max (bst y s u i) (y i - stl y s i - 1)
theorem max_u64 (a b c : Nat) (ty : TypeId) (w : World) (h : max a b = c) : (Builtin.max_ #[26, 26] ty #[.int .u64 (a : Int), .int .u64 (b : Int)]).run Try.prog w = .ok (.int .u64 (c : Int)) w := by
  subst h
  simp [Builtin.max_, Builtin.max2]
  split <;> omega
theorem bst_le (y : Nat → Nat) (s u M : Nat) (hu : u ≤ M) : ∀ n, (∀ i, i < n → y i ≤ M) → bst y s u n ≤ M
  | 0, _ => hu
  | n + 1, h => by
    have := bst_le y s u M hu n (fun i hi => h i (by omega))
    have := h n (by omega)
    show max _ _ ≤ _
    omega
set_option maxRecDepth 100000 in
set_option maxHeartbeats 1000000 in
theorem tsettle_any (g fb m n L s u : Nat) (d : Array Int) (y : Nat → Nat) (v : Nat → Value) (w : World) (hL : d.size = L) (hn : n = 0 ∨ n = L) (hn2 : L ≤ 1000000) (hy : ∀ i, i < n → d[i]! = (y i : Int)) (hs : ∀ i, i < n → stl y s i < y i) (hy2 : ∀ i, i < n → y i ≤ 1000000000000) (hu : u ≤ 1000000000000)
    (hv4 : v 4 = fresh fb m L) (hv5 : v 5 = .int .u64 (s : Int)) (hv6 : v 6 = .int .u64 (u : Int)) (HG : Hid (GAt w g v)) (HX : Hid (Srow w fb 0 m d)) (hgf : g ≠ fb) :
    Calls Try.prog 18 #[.pointer (some ⟨g, 0, none⟩), .int .i64 (n : Int)] w fun e w' => e = .returned (.tuple #[]) ∧
      GAt w' g (fun j => if j = 4 then fresh fb m (L - n) else if j = 6 then .int .u64 (bst y s u n : Int) else if j = 5 then .int .u64 (stl y s n : Int) else v j) ∧ Srow w' fb 0 m (if n = 0 then d else #[]) ∧ KeptF (fun R => R = g ∨ R = fb) w w' := by
  have hm : L ≤ m := by have := HX.out.le; omega
  have hnm : n ≤ m := by omega
  have hn3 : n ≤ 1000000 := by omega
  have c4 : w.cell? ⟨g, 4, none⟩ = some (.slice (some ⟨fb, 0, none⟩) L m) := (HG.out.cell 4 (by decide)).trans (by rw [hv4]; rfl)
  have i1 : (n : Int) ≤ (m : Int) := by omega
  have HY : Hid (∀ i, i < n → d[i]! = (y i : Int)) := hy
  have HS : Hid (∀ i, i < n → stl y s i < y i) := hs
  have HY2 : Hid (∀ i, i < n → y i ≤ 1000000000000) := hy2
  have HN : Hid (n = 0 ∨ n = L) := hn
  have HL : Hid (d.size = L) := hL
  have HV4 : Hid (v 4 = fresh fb m L) := hv4
  have HG0 : Hid (GAt w g (fun j => if j = 6 then .int .u64 (bst y s u 0 : Int) else if j = 5 then .int .u64 (stl y s 0 : Int) else v j)) := HG.out.congr (fun i hi => by rcases nine hi with rfl | rfl | rfl | rfl | rfl | rfl | rfl | rfl | rfl <;> first | rfl | exact hv5 | exact hv6)
  clear hy hs hy2 hn hL HG hv4 hv5 hv6
  go_enter Try.func18, Try.ntmps18
  go_wp2_with fail
  go_loopw [13] (fun i wr => ∃ k : Nat, i = .int .i64 k ∧ k ≤ n ∧ Hid (GAt wr g (fun j => if j = 6 then .int .u64 (bst y s u k : Int) else if j = 5 then .int .u64 (stl y s k : Int) else v j)) ∧ Hid (Srow wr fb 0 m d) ∧ Hid (KeptF (fun R => R = g ∨ R = fb) w wr)) (fun i _ => n - (intOf i).toNat)
  case atStart => exact ⟨0, rfl, Nat.zero_le _, HG0, HX, KeptF.refl _ _⟩
  case round =>
    obtain ⟨k, rfl, hk, hg, hx, hkk⟩ := hrel
    by_cases hkn : k < n
    · have j1 : (k : Int) < (n : Int) := by omega
      obtain ⟨z, hz⟩ : ∃ z, z = y k := ⟨_, rfl⟩
      obtain ⟨a, ha⟩ : ∃ a, a = stl y s k := ⟨_, rfl⟩
      obtain ⟨q, hq⟩ : ∃ q, q = bst y s u k := ⟨_, rfl⟩
      obtain ⟨r, hr⟩ : ∃ r, r = z - a - 1 := ⟨_, rfl⟩
      obtain ⟨t, ht⟩ : ∃ t, t = z - a := ⟨_, rfl⟩
      obtain ⟨mx, hmx⟩ : ∃ mx, max q r = mx := ⟨_, rfl⟩
      have hlt : a < z := by rw [ha, hz]; exact HS.out k hkn
      have hz2 : z ≤ 1000000000000 := by rw [hz]; exact HY2.out k hkn
      have hq2 : q ≤ 1000000000000 := by
        rw [hq]
        exact bst_le y s u _ hu k (fun i hi => HY2.out i (by omega))
      have c1 : wr.cell? ⟨fb, k, none⟩ = some (.int .u64 (z : Int)) := by
        have := hx.out.cell k (by have := HL.out; have := HN.out; omega)
        rw [Nat.zero_add, HY.out k hkn, ← hz] at this
        exact this
      have c6 : wr.cell? ⟨g, 6, none⟩ = some (.int .u64 (q : Int)) := (hg.out.cell 6 (by decide)).trans (by rw [if_pos rfl, hq])
      have c5 : wr.cell? ⟨g, 5, none⟩ = some (.int .u64 (a : Int)) := (hg.out.cell 5 (by decide)).trans (by rw [if_neg (by decide), if_pos rfl, ha])
      have f6 : wr.frozen? ⟨g, 6, none⟩ = false := hg.out.frz 6
      have f5 : wr.frozen? ⟨g, 5, none⟩ = false := hg.out.frz 5
      have e1 : IntKind.u64.wrap ((z : Int) - (a : Int)) = (t : Int) := by simp [IntKind.wrap, IntKind.bits, IntKind.signed]; omega
      have e2 : IntKind.u64.wrap ((t : Int) - 1) = (r : Int) := by simp [IntKind.wrap, IntKind.bits, IntKind.signed]; omega
      have e3 := fun ty W => max_u64 q r mx ty W hmx
      have HE : Hid (mx = bst y s u (k + 1) ∧ z = stl y s (k + 1)) := ⟨by rw [← hmx, hq, hr, hz, ha]; rfl, hz⟩
      clear hz ha hq hr ht hmx
      go_wp2_with fail
      go_region
      go_wp2_with fail
      go_roundw
      case rel =>
        refine ⟨k + 1, by go_num, by omega, ?_, ?_, ?_⟩
        · show GAt _ g _
          rw [HE.out.1, HE.out.2]
          exact (((hg.out.set 6 _).same ⟨1, rfl⟩).set 5 _).congr (fun i hi => by rcases nine hi with rfl | rfl | rfl | rfl | rfl | rfl | rfl | rfl | rfl <;> rfl)
        · exact (((hx.out.kept (Kept.set _ _ _) (Ne.symm hgf)).same ⟨1, rfl⟩).kept (Kept.set _ _ _) (Ne.symm hgf))
        · exact hkk.out.trans (((KeptF.of_kept (Kept.set _ _ _) (Or.inl rfl)).trans (KeptF.of_same ⟨1, rfl⟩)).trans (KeptF.of_kept (Kept.set _ _ _) (Or.inl rfl)))
      case measure => simp [intOf]; omega
    · obtain rfl : k = n := by omega
      have j1 : decide ((k : Int) < (k : Int)) = false := by simp
      have c4' : wr.cell? ⟨g, 4, none⟩ = some (.slice (some ⟨fb, 0, none⟩) L m) := (hg.out.cell 4 (by decide)).trans (by rw [if_neg (by decide), if_neg (by decide), HV4.out]; rfl)
      have f4' : wr.frozen? ⟨g, 4, none⟩ = false := hg.out.frz 4
      have HGF : Hid (g ≠ fb) := hgf
      clear hgf
      rcases HN.out with rfl | rfl
      · go_wp2_with fail
        refine (delete_none fb m L wr hm).mono ?_
        rintro e w2 ⟨rfl, rfl⟩
        go_wp2
        refine bodyPost_end (results_none Try.results18 _ _ _) rfl ⟨rfl, ?_, ?_, ?_⟩
        · exact (hg.out.set 4 (fresh fb m L)).congr (fun i hi => by rcases nine hi with rfl | rfl | rfl | rfl | rfl | rfl | rfl | rfl | rfl <;> rfl)
        · exact hx.out.kept (Kept.set _ _ _) (Ne.symm HGF.out)
        · exact hkk.out.trans (KeptF.of_kept (Kept.set _ _ _) (Or.inl rfl))
      · by_cases h0 : k = 0
        · subst h0
          go_wp2_with fail
          refine (delete_none fb m 0 wr hm).mono ?_
          rintro e w2 ⟨rfl, rfl⟩
          go_wp2
          refine bodyPost_end (results_none Try.results18 _ _ _) rfl ⟨rfl, ?_, ?_, ?_⟩
          · exact (hg.out.set 4 (fresh fb m 0)).congr (fun i hi => by rcases nine hi with rfl | rfl | rfl | rfl | rfl | rfl | rfl | rfl | rfl <;> rfl)
          · exact hx.out.kept (Kept.set _ _ _) (Ne.symm HGF.out)
          · exact hkk.out.trans (KeptF.of_kept (Kept.set _ _ _) (Or.inl rfl))
        · have H0 : Hid (¬ k = 0) := h0
          have H1 : 0 < k := by omega
          clear h0
          go_wp2_with fail
          refine (delete_all fb m k d wr H1 hn2 HL hx).mono ?_
          rintro e w2 ⟨rfl, X2, K2⟩
          have HX2 : Hid (Srow w2 fb 0 m #[]) := X2
          have HG2 : Hid (GAt w2 g (fun j => if j = 6 then .int .u64 (bst y s u k : Int) else if j = 5 then .int .u64 (stl y s k : Int) else v j)) := hg.out.kept K2 HGF.out
          have HK2 : Hid (KeptF (fun R => R = g ∨ R = fb) w w2) := hkk.out.trans (KeptF.of_kept K2 (Or.inr rfl))
          have c4'' : w2.cell? ⟨g, 4, none⟩ = some (.slice (some ⟨fb, 0, none⟩) k m) := (HG2.out.cell 4 (by decide)).trans (by rw [if_neg (by decide), if_neg (by decide), HV4.out]; rfl)
          have f4'' : w2.frozen? ⟨g, 4, none⟩ = false := HG2.out.frz 4
          clear X2 K2 hx hg hkk c4' f4'
          go_wp2
          refine bodyPost_end (results_none Try.results18 _ _ _) rfl ⟨rfl, ?_, ?_, ?_⟩
          · exact (HG2.out.set 4 (fresh fb m 0)).congr (fun i hi => by rcases nine hi with rfl | rfl | rfl | rfl | rfl | rfl | rfl | rfl | rfl <;> rfl)
          · exact HX2.out.kept (Kept.set _ _ _) (Ne.symm HGF.out)
          · exact HK2.out.trans (KeptF.of_kept (Kept.set _ _ _) (Or.inl rfl))
end Go.Proofs.Ytalfncnpffbmmaa
