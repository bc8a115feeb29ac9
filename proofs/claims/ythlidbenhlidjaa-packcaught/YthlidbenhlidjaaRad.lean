/-
  The document's Basis at work: Add and Solve, all rows brought into steps anew each time.
-/
import Derived.Test.YthlidbenhlidjaaRdc
import Derived.Test.YthlidbenhlidjaaRbs
namespace Go.Proofs.Ythlidbenhlidjaa
open Go.RowKit Go.Deep

theorem Own.form {w : World} {base : Nat} {v : Value} {j n : Nat} {x : Nat → Nat → Nat} (h : Own w base v j n x) : ∃ r c, v = .slice r j c := by
  obtain ⟨xs, ho, -, -⟩ := h
  rcases ho.2 with ⟨rfl, rfl⟩ | ⟨g, cap, cur, rfl, -⟩
  · exact ⟨none, 0, rfl⟩
  · exact ⟨_, cap, rfl⟩
theorem Own.congr {w : World} {base : Nat} {v : Value} {j n : Nat} {x y : Nat → Nat → Nat} (h : Own w base v j n x) (e : ∀ i, i < j → x i = y i) : Own w base v j n y := by
  obtain ⟨xs, ho, h0, hx⟩ := h
  exact ⟨xs, ho, h0, fun i hi => by rw [← e i hi]; exact hx i hi⟩
theorem Own.zero {w : World} {base : Nat} {v : Value} {j n : Nat} {x : Nat → Nat → Nat} (h : Own w base v j n x) : Own w 0 v j n x := by
  obtain ⟨xs, ho, h0, hx⟩ := h
  refine ⟨xs, ⟨ho.1, ?_⟩, h0, hx⟩
  rcases ho.2 with h1 | ⟨g, cap, cur, e, -, h2⟩
  · exact .inl h1
  · exact .inr ⟨g, cap, cur, e, Nat.zero_le _, h2⟩
theorem Lst.src {w : World} {g cap m n : Nat} {x : Nat → Nat → Nat} (h : Lst w g cap m n x) : Src w g m n x := fun i hi => by
  obtain ⟨b, c, h1, h2, -⟩ := h.at i hi
  exact ⟨_, c, h1, h2⟩

set_option maxRecDepth 100000 in
set_option maxHeartbeats 400000 in
theorem radd_no (D R k size d n m c1 c2 : Nat) (V : Nat → Nat → Nat) (a1 a2 : Option Addr) (w : World) (h : RefAt w D R k size d V) (hno : n ≠ k ∨ m ≠ size) :
    Calls Try.prog 27 #[.pointer (some ⟨D, 0, none⟩), .slice a1 n c1, .slice a2 m c2] w fun e w' => e = .returned (.bool false) ∧ w' = w := by
  have r1 := h.kc
  have z1 := h.sc
  clear h
  by_cases hn : n = k
  · have h1 : ((n : Int) == (k : Int)) = true := by simp [hn]
    have h2 : ((m : Int) == (size : Int)) = false := by simp; omega
    subst hn
    clear hno
    go_enter Try.func27, Try.ntmps27
    go_wp2
    go_ret
    exact ⟨rfl, rfl⟩
  · have h1 : ((n : Int) == (k : Int)) = false := by simp; omega
    clear hno
    go_enter Try.func27, Try.ntmps27
    go_wp2
    go_ret
    exact ⟨rfl, rfl⟩

/-- What Add answers and leaves. -/
def RAdded (w : World) (D R k size d : Nat) (V : Nat → Nat → Nat) (v : Nat → Nat) (e : Ending) (w' : World) : Prop :=
  ∃ (n : Nat) (Vr : Nat → Nat → Nat) (T : Nat → Option (Nat → Nat)), Stg (d + 1) k n (more V d v) Vr T ∧
    ((n ≤ d ∧ e = .returned (.bool false) ∧ RefAt w' D R k size d V) ∨ (d < n ∧ e = .returned (.bool true) ∧ RefAt w' D R k size (d + 1) (more V d v))) ∧ Kept D w w'

/-- Rows that are laid down as the document's own. -/
theorem ref_set {W : World} {D R k size d : Nat} {V V' : Nat → Nat → Nat} {va vb : Value} {base : Nat} (h : RefAt W D R k size d V) (ha : Own W base va (d + 1) k V') (hb : Own W base vb (d + 1) size (fun i t => V' i (k + t)))
    (hD : D < base) (hR : R < base) (k1 : 0 < k) (s1 : 0 < size) : RefAt ((W.setCell ⟨D, 2, none⟩ va).setCell ⟨D, 3, none⟩ vb) D R k size (d + 1) V' := by
  have hk : Kept D W ((W.setCell ⟨D, 2, none⟩ va).setCell ⟨D, 3, none⟩ vb) := (Kept.set W 2 va).trans (Kept.set _ 3 vb)
  have hne : ∀ b m y, 0 < m → BytesAt W (some ⟨b, 0, none⟩) m y → b ≠ D := by
    rintro b m y hm hB rfl
    have := bytes_cell hB 0 hm
    rw [Nat.add_zero, h.kc] at this
    cases this
  have oth : ∀ o, o ≠ 2 → o ≠ 3 → ((W.setCell ⟨D, 2, none⟩ va).setCell ⟨D, 3, none⟩ vb).cell? ⟨D, o, none⟩ = W.cell? ⟨D, o, none⟩ := by
    intro o h1 h2
    rw [World.cell?_setCell_other _ _ _ _ (addr_ne (Ne.symm h2)), World.cell?_setCell_other _ _ _ _ (addr_ne (Ne.symm h1))]
  obtain ⟨va0, a1, -⟩ := h.rows
  obtain ⟨vb0, b1, -⟩ := h.data
  have big : ∀ v : Value, (∀ g, v.ownBlock = some g → base ≤ g) → ∀ x, x < base → v.ownBlock ≠ some x := fun v hv x hx e => by have := hv x e; omega
  have ga := big va fun g e => (ha.lt g e).1
  have gb := big vb fun g e => (hb.lt g e).1
  refine ⟨(oth 0 (by decide) (by decide)).trans h.kc, (oth 1 (by decide) (by decide)).trans h.sc, ⟨va, ?_, ha.zero.kept hk (ga D hD) hne k1, fun e => absurd e (by omega), ga D hD, ga R hR⟩, ⟨vb, ?_, hb.zero.kept hk (gb D hD) hne s1, fun e => absurd e (by omega), gb D hD, gb R hR⟩, fun o => ?_⟩
  · rw [World.cell?_setCell_other _ _ _ _ (addr_ne (by decide)), World.cell?_setCell_same _ _ _ a1]
  · rw [World.cell?_setCell_same _ _ _ (by rw [World.cell?_setCell_other _ _ _ _ (addr_ne (by decide))]; exact b1)]
  · have := h.thaw o
    simpa using this

set_option maxRecDepth 100000 in
set_option maxHeartbeats 2000000 in
theorem radd_yes (D R k size d c1 c2 : Nat) (V : Nat → Nat → Nat) (v : Nat → Nat) (a1 a2 : Option Addr) (w : World) (h : RefAt w D R k size d V) (hx : BytesAt w a1 k v) (hy : BytesAt w a2 size (fun t => v (k + t)))
    (hV : ∀ t, t < d → Byt (V t)) (hv : Byt v) (k1 : 1 ≤ k) (k2 : k ≤ 32) (s1 : 1 ≤ size) (s2 : size ≤ 64) (hd : d ≤ 50) (hR : R < w.heap.size) :
    Calls Try.prog 27 #[.pointer (some ⟨D, 0, none⟩), .slice a1 k c1, .slice a2 size c2] w fun e w' => RAdded w D R k size d V v e w' := by
  have hDl : D < w.heap.size := cell_lt h.kc
  obtain ⟨va, p1, p2, p3, -⟩ := h.rows
  obtain ⟨vb, q1, q2, q3, -⟩ := h.data
  have kc := h.kc
  have sc := h.sc
  -- rows
  obtain ⟨v33, W1, hr33, O33, b33, g33⟩ := rows_run (w0 := w) 77 p2 p3 (by omega) (by omega) (Below.refl _ w)
  have bW1 : Below w.heap.size w W1 := b33
  have b1a : Below W1.heap.size W1 (W1.alloc (.cells #[] 5)) := (Below.refl _ _).alloc (Nat.le_refl _) _
  obtain ⟨cap36, W2, hr36, B36, b36⟩ := clone_run ⟨W1.heap.size, 0, none⟩ 26 a1 k c1 v (W1.alloc (.cells #[] 5)) ((hx.grew bW1).grew b1a) (by omega) (by omega)
  rw [World.size_alloc] at hr36 B36
  have bW2 : Below W1.heap.size W1 W2 := b1a.trans (b36.mono b1a.size)
  have b2a : Below W2.heap.size W2 (W2.alloc (.cells #[.slice (some ⟨W1.heap.size + 1, 0, none⟩) k cap36] 26)) := (Below.refl _ _).alloc (Nat.le_refl _) _
  have c36 : (W2.alloc (.cells #[.slice (some ⟨W1.heap.size + 1, 0, none⟩) k cap36] 26)).cell? ⟨W2.heap.size, 0, none⟩ = some (.slice (some ⟨W1.heap.size + 1, 0, none⟩) k cap36) := by rw [World.cell?_alloc_at _ _ _ _ rfl]; rfl
  have C2 : Cp w (W2.alloc (.cells #[.slice (some ⟨W1.heap.size + 1, 0, none⟩) k cap36] 26)) v33 (.slice none 0 0) d 0 k size (more V d v) (fun i t => more V d v i (k + t)) :=
    ⟨((O33.grew bW2).grew b2a).congr (more_old V d v), ⟨[], World.ownsRow_nil _ _ _ _, (fun _ _ e => nomatch e), fun i hi => absurd hi (Nat.not_lt_zero _)⟩, (fun _ _ e => nomatch e), (bW1.trans (bW2.mono bW1.size)).trans (b2a.mono (Nat.le_trans bW1.size bW2.size))⟩
  obtain ⟨v38, W3, hr38, C3⟩ := C2.push W2.heap.size (W1.heap.size + 1) cap36 77 c36 (by rw [more_new]; exact B36.grew b2a) (by omega) (by omega) (by omega)
  -- data
  have bW3 := C3.below
  obtain ⟨v44, W4, hr44, O44, b44, g44⟩ := rows_run (w0 := w) (W := W3) 77 (q2.grew bW3) q3 (by omega) (by omega) bW3
  have b4a : Below W4.heap.size W4 (W4.alloc (.cells #[] 5)) := (Below.refl _ _).alloc (Nat.le_refl _) _
  have bW4 : Below w.heap.size w W4 := bW3.trans (b44.mono bW3.size)
  obtain ⟨cap47, W5, hr47, B47, b47⟩ := clone_run ⟨W4.heap.size, 0, none⟩ 26 a2 size c2 (fun t => v (k + t)) (W4.alloc (.cells #[] 5)) ((hy.grew bW4).grew b4a) (by omega) (by omega)
  rw [World.size_alloc] at hr47 B47
  have bW5 : Below W4.heap.size W4 W5 := b4a.trans (b47.mono b4a.size)
  have b5a : Below W5.heap.size W5 (W5.alloc (.cells #[.slice (some ⟨W4.heap.size + 1, 0, none⟩) size cap47] 26)) := (Below.refl _ _).alloc (Nat.le_refl _) _
  have c47 : (W5.alloc (.cells #[.slice (some ⟨W4.heap.size + 1, 0, none⟩) size cap47] 26)).cell? ⟨W5.heap.size, 0, none⟩ = some (.slice (some ⟨W4.heap.size + 1, 0, none⟩) size cap47) := by rw [World.cell?_alloc_at _ _ _ _ rfl]; rfl
  have C5 : Cp w (W5.alloc (.cells #[.slice (some ⟨W4.heap.size + 1, 0, none⟩) size cap47] 26)) v38 v44 (d + 1) d k size (more V d v) (fun i t => more V d v i (k + t)) :=
    ⟨((C3.a.grew b44).grew bW5).grew b5a, ((O44.grew bW5).grew b5a).congr (fun i hi => by funext t; rw [← more_old V d v i hi]), fun g e1 e2 => by have := (C3.a.lt g e1).2; have := g44 g e2; omega, (bW4.trans (bW5.mono bW4.size)).trans (b5a.mono (Nat.le_trans bW4.size bW5.size))⟩
  obtain ⟨v49, W6, hr49, C6'⟩ := C5.turn.push W5.heap.size (W4.heap.size + 1) cap47 77 c47 (by rw [more_new]; exact B47.grew b5a) (by omega) (by omega) (by omega)
  have C6 := C6'.turn
  obtain ⟨ga, ca, rfl, gga, LA⟩ := C6.a.lst (by omega) (by omega)
  obtain ⟨gb, cb, rfl, ggb, LB⟩ := C6.b.lst (by omega) (by omega)
  have d2 : (w.alloc (.cells #[] 26)).cell? ⟨D, 2, none⟩ = some va := Go.Lib.cell?_alloc_some _ p1
  have d3 : (W3.alloc (.cells #[] 26)).cell? ⟨D, 3, none⟩ = some vb := Go.Lib.cell?_alloc_some _ ((bW3.cell (p := ⟨D, 3, none⟩) hDl).trans q1)
  have d0 : W6.cell? ⟨D, 0, none⟩ = some (.int .i64 (k : Int)) := (C6.below.cell (p := ⟨D, 0, none⟩) hDl).trans kc
  have R6 : Hid (RefAt W6 D R k size d V) := h.grew C6.below
  have red : Hid _ := reduced_any k size (d + 1) ga gb ca cb (more V d v) W6 k1 k2 s1 s2 (by omega) (by omega) LA.src LB.src (fun t ht => by
    by_cases e : t = d
    · rw [e, more_new]; exact hv
    · rw [← more_old V d v t (by omega)]; exact hV t (by omega))
  have C6 : Hid _ := C6
  obtain ⟨ra, cva, rfl⟩ := p2.form
  have HP : Hid (w.cell? ⟨D, 2, none⟩ = some (.slice ra d cva)) := p1
  clear h hx hy hV hv p2 p3 q2 q3 O33 b33 g33 bW1 b1a B36 b36 bW2 b2a c36 C2 C3 bW3 O44 b44 g44 b4a bW4 B47 b47 bW5 b5a c47 C5 C6' LA LB gga ggb p1 q1
  go_enter Try.func27, Try.ntmps27
  go_wp2_with (first
    | (at_builtin; refine Go.Lib.wpList_append_run _ rfl (.tmp 28) (.tmp 32) 77 77 rfl _ _ rfl rfl _ _ hr33 ?_)
    | (at_builtin; refine Go.Lib.wpList_append_run _ rfl (.tmp 34) (.tmp 35) 26 26 rfl _ _ rfl rfl _ _ hr36 ?_)
    | (at_builtin; refine Go.Lib.wpList_append_run _ rfl (.tmp 33) (.tmp 37) 77 77 rfl _ _ rfl rfl _ _ hr38 ?_)
    | (at_builtin; refine Go.Lib.wpList_append_run _ rfl (.tmp 39) (.tmp 43) 77 77 rfl _ _ rfl rfl _ _ hr44 ?_)
    | (at_builtin; refine Go.Lib.wpList_append_run _ rfl (.tmp 45) (.tmp 46) 26 26 rfl _ _ rfl rfl _ _ hr47 ?_)
    | (at_builtin; refine Go.Lib.wpList_append_run _ rfl (.tmp 44) (.tmp 48) 77 77 rfl _ _ rfl rfl _ _ hr49 ?_))
  refine Calls.mono (Hid.out red) ?_
  rintro e W7 ⟨ga7, gb7, ca7, cb7, n, Vr, T, rfl, st, -, -, -, -, -, b7⟩
  have R7 : Hid (RefAt W7 D R k size d V) := R6.out.grew b7
  have B7 : Below w.heap.size w W7 := C6.out.below.trans (b7.mono C6.out.below.size)
  have e2 : W7.cell? ⟨D, 2, none⟩ = some (.slice ra d cva) := (B7.cell (p := ⟨D, 2, none⟩) hDl).trans HP.out
  obtain ⟨vb7, e3, -⟩ := R7.out.data
  have f2 := R7.out.thaw 2
  have f3 := R7.out.thaw 3
  have OA : Hid (Own W7 w.heap.size (.slice (some ⟨ga, 0, none⟩) (d + 1) ca) (d + 1) k (more V d v)) := C6.out.a.grew b7
  have OB : Hid (Own W7 w.heap.size (.slice (some ⟨gb, 0, none⟩) (d + 1) cb) (d + 1) size (fun i t => more V d v i (k + t))) := C6.out.b.grew b7
  have K7 : Hid (Kept D w W7) := Kept.of_below B7
  have ST : Hid (Stg (d + 1) k n (more V d v) Vr T) := st
  have HDl : Hid (D < w.heap.size) := hDl
  have HRl : Hid (R < w.heap.size) := hR
  have lt2 := st.le
  clear st b7 B7 R6 C6 red HP hr33 hr36 hr38 hr44 hr47 hr49 d0 d2 d3 kc sc hDl hR
  by_cases hn : n ≤ d
  · have i1 : (n : Int) ≤ (d : Int) := by omega
    go_wp2
    go_ret
    exact ⟨n, Vr, T, ST.out, .inl ⟨hn, rfl, R7.out⟩, K7.out⟩
  · have i1 : ¬ ((n : Int) ≤ (d : Int)) := by omega
    have HN : Hid (d < n) := by show d < n; omega
    clear hn
    go_wp2
    go_ret
    exact ⟨n, Vr, T, ST.out, .inr ⟨HN.out, rfl, ref_set R7.out OA.out OB.out HDl.out HRl.out (by omega) (by omega)⟩, (K7.out.trans (Kept.set _ 2 _)).trans (Kept.set _ 3 _)⟩

end Go.Proofs.Ythlidbenhlidjaa
