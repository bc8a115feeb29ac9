/-
  Package tree: all that a walk reaches, told rising.
-/
import Derived.Laws.EntriesVeiled
import Derived.Test.YtclbcggbnbimaaaRnn
import Derived.Test.YtclbcggbnbimaaaSr3
namespace Go.Proofs.Ytclbcggbnbimaaa
open Go.RowKit Go.Deep

theorem Try.infoBool : (Try.prog.info? 4).map (fun i => (i.zero, i.size, i.bytes)) = some (some (.bool false), 1, 1) := by kernel_rfl
theorem make_bools (m : Nat) (w : World) (hm : m ≤ 1000) : (Instr.makeSlice 59 (.int .i64 (m : Int)) (.int .i64 (m : Int))).run Try.prog w = .ok (.slice (some ⟨w.heap.size, 0, none⟩) m m) (w.alloc (.cells (madeCells #[.bool false] m) 4)) :=
  run_make_row' 59 4 (.bool false) 1 Try.underlying59 Try.infoBool rfl .i64 .i64 m (by omega) (by omega) w
/-- Whom a walk from the place of x reaches, but itself. -/
def Behind (E : Nat → Nat → Prop) (K : Nat → Fr) (m x q : Nat) : Prop := ∃ s, plc K m x = some s ∧ Up E s q ∧ q ≠ s
/-- One is struck. -/
def strike (g : Nat → Bool) (s : Nat) : Nat → Bool := fun q => if q = s then false else g q
theorem strike_iff {g : Nat → Bool} {s q : Nat} : strike g s q = true ↔ g q = true ∧ q ≠ s := by
  unfold strike
  by_cases e : q = s <;> simp [e]
theorem row_strike {w : World} {Bs m : Nat} {g : Nat → Bool} (h : w.rowIs Bs 4 m (fun i => .bool (g i))) (s : Nat) : (w.setCell ⟨Bs, s, none⟩ (.bool false)).rowIs Bs 4 m (fun i => .bool (strike g s i)) :=
  World.rowIs.congr (World.rowIs.set h s (.bool false)) fun q _ => by
    show (if q = s then Value.bool false else .bool (g q)) = .bool (strike g s q)
    unfold strike
    split <;> rfl
theorem Told.push {w : World} {base t : Nat} {v : Value} {L : List Nat} {K : Nat → Fr} {x : Nat → Int} (hx : ∀ j, j < L.length → x j = ((K (L.getD j 0)).id : Int)) (h : Uor w base v (L.length + 1) (fun i => if i < L.length then x i else ((K t).id : Int))) : Told w base v (L ++ [t]) K := by
  refine ⟨_, by rw [List.length_append]; exact h, fun j hj => ?_⟩
  rw [List.length_append] at hj
  have hj : j < L.length + 1 := hj
  by_cases e : j < L.length
  · simp only [if_pos e]
    rw [hx j e]
    simp [List.getD, List.getElem?_append_left e]
  · obtain rfl : j = L.length := by omega
    simp [List.getD]
/-- They rise. -/
theorem told_rise {K : Nat → Fr} {m : Nat} {sel : Nat → Bool} {x : Nat → Int} (h : Rise K m) (hx : ∀ j, j < (picked sel m).length → x j = ((K ((picked sel m).getD j 0)).id : Int)) : ∀ i j, i < j → j < (picked sel m).length → x i ≤ x j := by
  intro i j hij hj
  rw [hx i (by omega), hx j hj]
  have := h _ _ (picked_lt hij hj) (picked_at hj).1
  omega
theorem Told.sorts {w : World} {base m : Nat} {v : Value} {K : Nat → Fr} {sel : Nat → Bool} (h : Told w base v (picked sel m) K) (hr : Rise K m) (hm : m ≤ 15) : Calls Try.prog 27 #[v] w fun e w' => e = .returned (.tuple #[]) ∧ Below w.heap.size w w' := by
  obtain ⟨x, h1, h2⟩ := h
  obtain ⟨r, cap, rfl, -, -, hn⟩ := h1.any
  have := picked_le sel m
  exact sort_any r _ cap x w (by omega) hn (told_rise hr h2)

set_option maxRecDepth 100000 in
set_option maxHeartbeats 400000 in
theorem reached_A (a : Option Addr) (m c : Nat) (K : Nat → Fr) (R : Nat → Nat → Int) (b k x : Nat) (v : Value) (E : Nat → Nat → Prop) (w : World) (hm : m ≤ 15) (hx : x < 4294967296) (HE : Hid (∀ p q, E p q → q < m)) (HC : Hid (Crowd w a m K R)) (HX : Hid (IdxAt w b k (plc K m)))
    (HN : Hid (∀ W0, Below w.heap.size w W0 → Asked 18 (w.heap.size + 1) m E W0 v)) :
    Calls Try.prog 17 #[.agg #[.slice a m c, .map (some b)], .int .u32 (x : Int), (.func (.func 18) #[v] #[])] w (ToldIs w m K (Behind E K m x)) := by
  obtain ⟨x0, e0⟩ : ∃ y, w.alloc (.cells #[.slice a m c, .map (some b)] 44) = y := ⟨_, rfl⟩
  have B0 : Below w.heap.size w x0 := e0 ▸ box_below w _
  have s0 : x0.heap.size = w.heap.size + 1 := by rw [← e0]; simp
  have c0 : x0.cell? ⟨w.heap.size, 0, none⟩ = some (.slice a m c) := by rw [← e0, World.cell?_alloc_at _ _ _ _ rfl]; rfl
  have c1 : x0.cell? ⟨w.heap.size, 1, none⟩ = some (.map (some b)) := by rw [← e0, World.cell?_alloc_at _ _ _ _ rfl]; rfl
  have hx0 := HX.out.below B0 (Nat.le_refl _)
  cases e : plc K m x with
  | none =>
    have l1 := hx0.none hx e
    have HF : Hid (ToldIs w m K (Behind E K m x) (.returned (.slice none 0 0)) x0) :=
      ⟨B0, .slice none 0 0, fun _ => false, rfl, fun q _ => iff_of_false Bool.false_ne_true (fun ⟨s, h, _⟩ => by rw [e] at h; cases h), by
        rw [show picked (fun _ => false) m = [] by simp [picked]]
        exact Told.nil _ _ _⟩
    clear B0 s0 hx0 e
    go_enter Try.func17, Try.ntmps17
    go_wp2
    go_ret
    exact HF.out
  | some s =>
    have l1 := hx0.found hx e
    have hs := (plc_some m e).1
    have HS : Hid (plc K m x = some s) := e
    have i1 : (s : Int) < (m : Int) := by omega
    have hmk := make_bools m x0 (by omega)
    obtain ⟨x1, e1⟩ : ∃ y, x0.alloc (.cells (madeCells #[.bool false] m) 4) = y := ⟨_, rfl⟩
    obtain ⟨x2, e2⟩ : ∃ y, x1.alloc (.cells #[.int .i64 (s : Int)] 3) = y := ⟨_, rfl⟩
    obtain ⟨x3, e3⟩ : ∃ y, x2.alloc (.cells #[(.func (.func 18) #[v] #[]), .slice (some ⟨x0.heap.size, 0, none⟩) m m, .slice (some ⟨x1.heap.size, 0, none⟩) 1 1] 62) = y := ⟨_, rfl⟩
    have B1 : Below x0.heap.size x0 x1 := e1 ▸ box_below x0 _
    have B2 : Below x1.heap.size x1 x2 := e2 ▸ box_below x1 _
    have B3 : Below x2.heap.size x2 x3 := e3 ▸ box_below x2 _
    have s1 : x1.heap.size = x0.heap.size + 1 := by rw [← e1]; simp
    have s2 : x2.heap.size = x1.heap.size + 1 := by rw [← e2]; simp
    have r1 : x1.rowIs x0.heap.size 4 m (fun _ => .bool false) := e1 ▸ World.rowIs_made x0 (.bool false) m 4
    have B03 : Below x0.heap.size x0 x3 := (B1.trans (B2.mono B1.size)).trans (B3.mono (by omega))
    have WK : Wk x3 x2.heap.size x0.heap.size m (.func (.func 18) #[v] #[]) (.slice (some ⟨x1.heap.size, 0, none⟩) 1 1) (fun _ => false) :=
      ⟨by rw [← e3, World.cell?_alloc_at _ _ _ _ rfl]; rfl, by rw [← e3, World.cell?_alloc_at _ _ _ _ rfl]; rfl, by rw [← e3, World.cell?_alloc_at _ _ _ _ rfl]; rfl, fun i => by rw [← e3, World.frozen?_alloc_at _ _ _ _ rfl],
        World.rowIs.of_block r1 ((B3.block _ (by omega)).trans (B2.block _ (by omega))), by omega⟩
    have cl : x3.cell? ⟨x1.heap.size, 0, none⟩ = some (.int .i64 (s : Int)) := (B3.cell (p := ⟨x1.heap.size, 0, none⟩) (by show x1.heap.size < _; omega)).trans (by rw [← e2, World.cell?_alloc_at _ _ _ _ rfl]; rfl)
    have HNX : Hid (Asked 18 x0.heap.size m E x0 v) := by rw [s0]; exact HN.out x0 B0
    have RUN : Hid (Calls Try.prog 26 #[.pointer (some ⟨x2.heap.size, 0, none⟩)] x3 fun e w' => e = .returned (.tuple #[]) ∧ RunIs x0.heap.size x2.heap.size x0.heap.size m E (.func (.func 18) #[v] #[]) s x3 w') :=
      run_A x0.heap.size x2.heap.size x0.heap.size x1.heap.size m s E x0 v x3 (by omega) (Nat.le_refl _) (by omega) hs HNX HE WK cl B03
    have HB0 : Hid (Below w.heap.size w x0) := B0
    have HB03 : Hid (Below x0.heap.size x0 x3) := B03
    have HCC : Hid (x0.cell? ⟨w.heap.size, 0, none⟩ = some (.slice a m c)) := c0
    have Hs : Hid (x0.heap.size = w.heap.size + 1 ∧ x2.heap.size = x0.heap.size + 2 ∧ x3.heap.size = x0.heap.size + 3) := ⟨s0, by omega, by rw [← e3]; simp; omega⟩
    clear B0 B1 B2 B3 B03 s0 s1 s2 r1 WK cl HNX hx0 e HN
    go_enter Try.func17, Try.ntmps17
    go_wp2_with fail
    refine RUN.out.mono ?_
    rintro e w4 ⟨rfl, b4, g', lv, wk4, df4⟩
    clear RUN e0 e1 e2 e3 c0 c1 l1 hmk
    obtain ⟨-, s2, s3⟩ := id Hs.out
    have HK4 := wk4
    obtain ⟨w0, w1, -, -, -, -⟩ := wk4
    have z1 := World.rowIs.frozen HK4.row s
    have c9 : w4.cell? ⟨x0.heap.size, s, none⟩ = some (.bool (g' s)) := World.rowIs.cell (i := s) HK4.row hs
    obtain ⟨w5, e5⟩ : ∃ y, w4.setCell ⟨x0.heap.size, s, none⟩ (.bool false) = y := ⟨_, rfl⟩
    have K5 : Kept x0.heap.size w4 w5 := e5 ▸ Kept.set w4 s _
    have R5 : w5.rowIs x0.heap.size 4 m (fun i => .bool (strike g' s i)) := e5 ▸ row_strike HK4.row s
    have WK5 := HK4.kept K5 R5
    have v1 := WK5.c1
    have B5 : Below x0.heap.size x0 w5 := (HB03.out.trans b4).trans (K5.below (Nat.le_refl _) (by have := HK4.lt; omega))
    have HR5 : Hid (w5.rowIs x0.heap.size 4 m (fun i => .bool (strike g' s i))) := R5
    have HB5 : Hid (Below x0.heap.size x0 w5) := B5
    have HD : Hid (Dfs E (fun _ => false) s g') := df4
    have Hsz : Hid (x0.heap.size < w5.heap.size ∧ x2.heap.size < w5.heap.size) := ⟨WK5.lt.2, WK5.lt.1⟩
    clear HK4 K5 R5 WK5 B5 df4 b4 s2 s3
    go_wp2_with fail
    clear e5 w0 w1 z1 v1 c9
    go_loopw [10, 38] (fun l i wr => ∃ (t : Nat) (la : Option Addr) (ln lc : Nat), l = .slice la ln lc ∧ i = .int .i64 t ∧ t ≤ m ∧ Hid (Below w5.heap.size w5 wr) ∧ Hid (Told wr w5.heap.size (.slice la ln lc) (picked (strike g' s) t) K)) (fun _ i _ => m - (intOf i).toNat)
    case atStart => exact ⟨0, none, 0, 0, rfl, rfl, Nat.zero_le _, Below.refl _ _, Told.nil _ _ _⟩
    case round =>
      obtain ⟨t, la, ln, lc, rfl, rfl, ht, hb, htd⟩ := hrel
      by_cases htm : t < m
      · have i2 : (t : Int) < (m : Int) := by omega
        have c6 : wr.cell? ⟨x0.heap.size, t, none⟩ = some (.bool (strike g' s t)) := (hb.out.cell (p := ⟨x0.heap.size, t, none⟩) Hsz.out.1).trans (World.rowIs.cell (i := t) HR5.out htm)
        have BB : Below w.heap.size w wr := (HB0.out.trans (HB5.out.mono (by have := Hs.out.1; omega))).trans (hb.out.mono (by have := Hsz.out.1; have := Hs.out.1; omega))
        have c7 : wr.cell? ⟨w.heap.size, 0, none⟩ = some (.slice a m c) := ((hb.out.cell (p := ⟨w.heap.size, 0, none⟩) (by have := Hsz.out.1; have := Hs.out.1; show w.heap.size < _; omega)).trans (HB5.out.cell (p := ⟨w.heap.size, 0, none⟩) (by have := Hs.out.1; show w.heap.size < _; omega))).trans HCC.out
        obtain ⟨fb, fo, rfl⟩ := HC.out.frs.addr (by omega)
        obtain ⟨q0, q1, q2, q3, q4, q5⟩ := (HC.out.frs.below BB (Nat.le_refl _)).at t htm
        clear BB q1 q2 q3 q4 q5
        cases e : strike g' s t with
        | false =>
          rw [e] at c6
          have HT : Hid (Told wr w5.heap.size (.slice la ln lc) (picked (strike g' s) (t + 1)) K) := by rw [picked_no e]; exact htd
          clear e htd
          go_wp2_with fail
          go_roundw
          case rel => exact ⟨t + 1, la, ln, lc, rfl, by go_num, by omega, hb, HT⟩
          case measure => simp [intOf]; omega
        | true =>
          rw [e] at c6
          obtain ⟨x, ho, hxs⟩ := htd.out
          have hlen := picked_le (strike g' s) t
          obtain ⟨z1, ez1⟩ : ∃ y, wr.alloc (.cells #[.int .u32 ((K t).id : Int)] 23) = y := ⟨_, rfl⟩
          have Bz : Below wr.heap.size wr z1 := ez1 ▸ box_below wr _
          have Nz : NumsAt .u32 z1 (some ⟨wr.heap.size, 0, none⟩) 1 (fun _ => ((K t).id : Int)) := ez1 ▸ (fun _ => ⟨_, 0, rfl, fun i hi => by
            obtain rfl : i = 0 := by omega
            rw [World.cell?_alloc_at _ _ _ _ rfl]; rfl⟩)
          have O1 := ho.grew Bz
          obtain ⟨v', z2, happ, O2, gr⟩ := O1.push (c := 1) 29 Nz (by decide) (by omega) (by have := Bz.size; have := hb.out.size; omega)
          have HT : Hid (Told z2 w5.heap.size v' (picked (strike g' s) (t + 1)) K) := by rw [picked_yes e]; exact Told.push hxs O2
          have HB2 : Hid (Below w5.heap.size w5 z2) := (hb.out.trans (Bz.mono hb.out.size)).trans (O1.grown gr (by have := Bz.size; have := hb.out.size; omega))
          obtain ⟨la', lc', rfl, -⟩ := O2.any
          obtain ⟨ln', en⟩ : ∃ q : Nat, q = (picked (strike g' s) t).length + 1 := ⟨_, rfl⟩
          rw [← en] at happ HT
          clear e en htd ho hxs hlen Bz Nz O1 O2 gr hb
          generalize (K t).id = y at *
          go_wp2_with (at_builtin; refine Go.Lib.wpList_append_run _ rfl (.tmp 44) (.tmp 51) 29 29 rfl _ _ rfl rfl _ _ happ ?_)
          go_roundw
          case rel => exact ⟨t + 1, la', ln', lc', rfl, by go_num, by omega, HB2, HT⟩
          case measure => simp [intOf]; omega
      · obtain rfl : t = m := by omega
        have i2 : decide ((t : Int) < (t : Int)) = false := by simp
        have SORT : Hid (Calls Try.prog 27 #[.slice la ln lc] wr fun e w' => e = .returned (.tuple #[]) ∧ Below wr.heap.size wr w') := htd.out.sorts HC.out.rise hm
        have BB : Below w.heap.size w wr := (HB0.out.trans (HB5.out.mono (by have := Hs.out.1; omega))).trans (hb.out.mono (by have := Hsz.out.1; have := Hs.out.1; omega))
        have HBB : Hid (Below w.heap.size w wr) := BB
        have hbase : w.heap.size ≤ w5.heap.size := by have := Hsz.out.1; have := Hs.out.1; omega
        clear BB hb
        go_wp2_with fail
        refine SORT.out.mono ?_
        rintro e w6 ⟨rfl, b6⟩
        have HF : Hid (ToldIs w t K (Behind E K t x) (.returned (.slice la ln lc)) w6) :=
          ⟨HBB.out.trans (b6.mono HBB.out.size), .slice la ln lc, strike g' s, rfl, fun q _ => by
            rw [strike_iff, HD.out.reach q]
            exact ⟨fun h => ⟨s, HS.out, h.1, h.2⟩, fun ⟨s', h1, h2, h3⟩ => by
              have e : s' = s := by have := HS.out; rw [h1] at this; cases this; rfl
              subst e
              exact ⟨h2, h3⟩⟩, (htd.out.grew b6).base hbase⟩
        clear SORT b6 htd hbase
        go_wp2
        go_ret
        exact HF.out

set_option maxRecDepth 100000 in
set_option maxHeartbeats 400000 in
theorem reached_B (a : Option Addr) (m c : Nat) (K : Nat → Fr) (R : Nat → Nat → Int) (b k x : Nat) (v : Value) (E : Nat → Nat → Prop) (w : World) (hm : m ≤ 15) (hx : x < 4294967296) (HE : Hid (∀ p q, E p q → q < m)) (HC : Hid (Crowd w a m K R)) (HX : Hid (IdxAt w b k (plc K m)))
    (HN : Hid (∀ W0, Below w.heap.size w W0 → Asked 22 (w.heap.size + 1) m E W0 v)) :
    Calls Try.prog 17 #[.agg #[.slice a m c, .map (some b)], .int .u32 (x : Int), (.func (.func 22) #[v] #[])] w (ToldIs w m K (Behind E K m x)) := by
  obtain ⟨x0, e0⟩ : ∃ y, w.alloc (.cells #[.slice a m c, .map (some b)] 44) = y := ⟨_, rfl⟩
  have B0 : Below w.heap.size w x0 := e0 ▸ box_below w _
  have s0 : x0.heap.size = w.heap.size + 1 := by rw [← e0]; simp
  have c0 : x0.cell? ⟨w.heap.size, 0, none⟩ = some (.slice a m c) := by rw [← e0, World.cell?_alloc_at _ _ _ _ rfl]; rfl
  have c1 : x0.cell? ⟨w.heap.size, 1, none⟩ = some (.map (some b)) := by rw [← e0, World.cell?_alloc_at _ _ _ _ rfl]; rfl
  have hx0 := HX.out.below B0 (Nat.le_refl _)
  cases e : plc K m x with
  | none =>
    have l1 := hx0.none hx e
    have HF : Hid (ToldIs w m K (Behind E K m x) (.returned (.slice none 0 0)) x0) :=
      ⟨B0, .slice none 0 0, fun _ => false, rfl, fun q _ => iff_of_false Bool.false_ne_true (fun ⟨s, h, _⟩ => by rw [e] at h; cases h), by
        rw [show picked (fun _ => false) m = [] by simp [picked]]
        exact Told.nil _ _ _⟩
    clear B0 s0 hx0 e
    go_enter Try.func17, Try.ntmps17
    go_wp2
    go_ret
    exact HF.out
  | some s =>
    have l1 := hx0.found hx e
    have hs := (plc_some m e).1
    have HS : Hid (plc K m x = some s) := e
    have i1 : (s : Int) < (m : Int) := by omega
    have hmk := make_bools m x0 (by omega)
    obtain ⟨x1, e1⟩ : ∃ y, x0.alloc (.cells (madeCells #[.bool false] m) 4) = y := ⟨_, rfl⟩
    obtain ⟨x2, e2⟩ : ∃ y, x1.alloc (.cells #[.int .i64 (s : Int)] 3) = y := ⟨_, rfl⟩
    obtain ⟨x3, e3⟩ : ∃ y, x2.alloc (.cells #[(.func (.func 22) #[v] #[]), .slice (some ⟨x0.heap.size, 0, none⟩) m m, .slice (some ⟨x1.heap.size, 0, none⟩) 1 1] 62) = y := ⟨_, rfl⟩
    have B1 : Below x0.heap.size x0 x1 := e1 ▸ box_below x0 _
    have B2 : Below x1.heap.size x1 x2 := e2 ▸ box_below x1 _
    have B3 : Below x2.heap.size x2 x3 := e3 ▸ box_below x2 _
    have s1 : x1.heap.size = x0.heap.size + 1 := by rw [← e1]; simp
    have s2 : x2.heap.size = x1.heap.size + 1 := by rw [← e2]; simp
    have r1 : x1.rowIs x0.heap.size 4 m (fun _ => .bool false) := e1 ▸ World.rowIs_made x0 (.bool false) m 4
    have B03 : Below x0.heap.size x0 x3 := (B1.trans (B2.mono B1.size)).trans (B3.mono (by omega))
    have WK : Wk x3 x2.heap.size x0.heap.size m (.func (.func 22) #[v] #[]) (.slice (some ⟨x1.heap.size, 0, none⟩) 1 1) (fun _ => false) :=
      ⟨by rw [← e3, World.cell?_alloc_at _ _ _ _ rfl]; rfl, by rw [← e3, World.cell?_alloc_at _ _ _ _ rfl]; rfl, by rw [← e3, World.cell?_alloc_at _ _ _ _ rfl]; rfl, fun i => by rw [← e3, World.frozen?_alloc_at _ _ _ _ rfl],
        World.rowIs.of_block r1 ((B3.block _ (by omega)).trans (B2.block _ (by omega))), by omega⟩
    have cl : x3.cell? ⟨x1.heap.size, 0, none⟩ = some (.int .i64 (s : Int)) := (B3.cell (p := ⟨x1.heap.size, 0, none⟩) (by show x1.heap.size < _; omega)).trans (by rw [← e2, World.cell?_alloc_at _ _ _ _ rfl]; rfl)
    have HNX : Hid (Asked 22 x0.heap.size m E x0 v) := by rw [s0]; exact HN.out x0 B0
    have RUN : Hid (Calls Try.prog 26 #[.pointer (some ⟨x2.heap.size, 0, none⟩)] x3 fun e w' => e = .returned (.tuple #[]) ∧ RunIs x0.heap.size x2.heap.size x0.heap.size m E (.func (.func 22) #[v] #[]) s x3 w') :=
      run_B x0.heap.size x2.heap.size x0.heap.size x1.heap.size m s E x0 v x3 (by omega) (Nat.le_refl _) (by omega) hs HNX HE WK cl B03
    have HB0 : Hid (Below w.heap.size w x0) := B0
    have HB03 : Hid (Below x0.heap.size x0 x3) := B03
    have HCC : Hid (x0.cell? ⟨w.heap.size, 0, none⟩ = some (.slice a m c)) := c0
    have Hs : Hid (x0.heap.size = w.heap.size + 1 ∧ x2.heap.size = x0.heap.size + 2 ∧ x3.heap.size = x0.heap.size + 3) := ⟨s0, by omega, by rw [← e3]; simp; omega⟩
    clear B0 B1 B2 B3 B03 s0 s1 s2 r1 WK cl HNX hx0 e HN
    go_enter Try.func17, Try.ntmps17
    go_wp2_with fail
    refine RUN.out.mono ?_
    rintro e w4 ⟨rfl, b4, g', lv, wk4, df4⟩
    clear RUN e0 e1 e2 e3 c0 c1 l1 hmk
    obtain ⟨-, s2, s3⟩ := id Hs.out
    have HK4 := wk4
    obtain ⟨w0, w1, -, -, -, -⟩ := wk4
    have z1 := World.rowIs.frozen HK4.row s
    have c9 : w4.cell? ⟨x0.heap.size, s, none⟩ = some (.bool (g' s)) := World.rowIs.cell (i := s) HK4.row hs
    obtain ⟨w5, e5⟩ : ∃ y, w4.setCell ⟨x0.heap.size, s, none⟩ (.bool false) = y := ⟨_, rfl⟩
    have K5 : Kept x0.heap.size w4 w5 := e5 ▸ Kept.set w4 s _
    have R5 : w5.rowIs x0.heap.size 4 m (fun i => .bool (strike g' s i)) := e5 ▸ row_strike HK4.row s
    have WK5 := HK4.kept K5 R5
    have v1 := WK5.c1
    have B5 : Below x0.heap.size x0 w5 := (HB03.out.trans b4).trans (K5.below (Nat.le_refl _) (by have := HK4.lt; omega))
    have HR5 : Hid (w5.rowIs x0.heap.size 4 m (fun i => .bool (strike g' s i))) := R5
    have HB5 : Hid (Below x0.heap.size x0 w5) := B5
    have HD : Hid (Dfs E (fun _ => false) s g') := df4
    have Hsz : Hid (x0.heap.size < w5.heap.size ∧ x2.heap.size < w5.heap.size) := ⟨WK5.lt.2, WK5.lt.1⟩
    clear HK4 K5 R5 WK5 B5 df4 b4 s2 s3
    go_wp2_with fail
    clear e5 w0 w1 z1 v1 c9
    go_loopw [10, 38] (fun l i wr => ∃ (t : Nat) (la : Option Addr) (ln lc : Nat), l = .slice la ln lc ∧ i = .int .i64 t ∧ t ≤ m ∧ Hid (Below w5.heap.size w5 wr) ∧ Hid (Told wr w5.heap.size (.slice la ln lc) (picked (strike g' s) t) K)) (fun _ i _ => m - (intOf i).toNat)
    case atStart => exact ⟨0, none, 0, 0, rfl, rfl, Nat.zero_le _, Below.refl _ _, Told.nil _ _ _⟩
    case round =>
      obtain ⟨t, la, ln, lc, rfl, rfl, ht, hb, htd⟩ := hrel
      by_cases htm : t < m
      · have i2 : (t : Int) < (m : Int) := by omega
        have c6 : wr.cell? ⟨x0.heap.size, t, none⟩ = some (.bool (strike g' s t)) := (hb.out.cell (p := ⟨x0.heap.size, t, none⟩) Hsz.out.1).trans (World.rowIs.cell (i := t) HR5.out htm)
        have BB : Below w.heap.size w wr := (HB0.out.trans (HB5.out.mono (by have := Hs.out.1; omega))).trans (hb.out.mono (by have := Hsz.out.1; have := Hs.out.1; omega))
        have c7 : wr.cell? ⟨w.heap.size, 0, none⟩ = some (.slice a m c) := ((hb.out.cell (p := ⟨w.heap.size, 0, none⟩) (by have := Hsz.out.1; have := Hs.out.1; show w.heap.size < _; omega)).trans (HB5.out.cell (p := ⟨w.heap.size, 0, none⟩) (by have := Hs.out.1; show w.heap.size < _; omega))).trans HCC.out
        obtain ⟨fb, fo, rfl⟩ := HC.out.frs.addr (by omega)
        obtain ⟨q0, q1, q2, q3, q4, q5⟩ := (HC.out.frs.below BB (Nat.le_refl _)).at t htm
        clear BB q1 q2 q3 q4 q5
        cases e : strike g' s t with
        | false =>
          rw [e] at c6
          have HT : Hid (Told wr w5.heap.size (.slice la ln lc) (picked (strike g' s) (t + 1)) K) := by rw [picked_no e]; exact htd
          clear e htd
          go_wp2_with fail
          go_roundw
          case rel => exact ⟨t + 1, la, ln, lc, rfl, by go_num, by omega, hb, HT⟩
          case measure => simp [intOf]; omega
        | true =>
          rw [e] at c6
          obtain ⟨x, ho, hxs⟩ := htd.out
          have hlen := picked_le (strike g' s) t
          obtain ⟨z1, ez1⟩ : ∃ y, wr.alloc (.cells #[.int .u32 ((K t).id : Int)] 23) = y := ⟨_, rfl⟩
          have Bz : Below wr.heap.size wr z1 := ez1 ▸ box_below wr _
          have Nz : NumsAt .u32 z1 (some ⟨wr.heap.size, 0, none⟩) 1 (fun _ => ((K t).id : Int)) := ez1 ▸ (fun _ => ⟨_, 0, rfl, fun i hi => by
            obtain rfl : i = 0 := by omega
            rw [World.cell?_alloc_at _ _ _ _ rfl]; rfl⟩)
          have O1 := ho.grew Bz
          obtain ⟨v', z2, happ, O2, gr⟩ := O1.push (c := 1) 29 Nz (by decide) (by omega) (by have := Bz.size; have := hb.out.size; omega)
          have HT : Hid (Told z2 w5.heap.size v' (picked (strike g' s) (t + 1)) K) := by rw [picked_yes e]; exact Told.push hxs O2
          have HB2 : Hid (Below w5.heap.size w5 z2) := (hb.out.trans (Bz.mono hb.out.size)).trans (O1.grown gr (by have := Bz.size; have := hb.out.size; omega))
          obtain ⟨la', lc', rfl, -⟩ := O2.any
          obtain ⟨ln', en⟩ : ∃ q : Nat, q = (picked (strike g' s) t).length + 1 := ⟨_, rfl⟩
          rw [← en] at happ HT
          clear e en htd ho hxs hlen Bz Nz O1 O2 gr hb
          generalize (K t).id = y at *
          go_wp2_with (at_builtin; refine Go.Lib.wpList_append_run _ rfl (.tmp 44) (.tmp 51) 29 29 rfl _ _ rfl rfl _ _ happ ?_)
          go_roundw
          case rel => exact ⟨t + 1, la', ln', lc', rfl, by go_num, by omega, HB2, HT⟩
          case measure => simp [intOf]; omega
      · obtain rfl : t = m := by omega
        have i2 : decide ((t : Int) < (t : Int)) = false := by simp
        have SORT : Hid (Calls Try.prog 27 #[.slice la ln lc] wr fun e w' => e = .returned (.tuple #[]) ∧ Below wr.heap.size wr w') := htd.out.sorts HC.out.rise hm
        have BB : Below w.heap.size w wr := (HB0.out.trans (HB5.out.mono (by have := Hs.out.1; omega))).trans (hb.out.mono (by have := Hsz.out.1; have := Hs.out.1; omega))
        have HBB : Hid (Below w.heap.size w wr) := BB
        have hbase : w.heap.size ≤ w5.heap.size := by have := Hsz.out.1; have := Hs.out.1; omega
        clear BB hb
        go_wp2_with fail
        refine SORT.out.mono ?_
        rintro e w6 ⟨rfl, b6⟩
        have HF : Hid (ToldIs w t K (Behind E K t x) (.returned (.slice la ln lc)) w6) :=
          ⟨HBB.out.trans (b6.mono HBB.out.size), .slice la ln lc, strike g' s, rfl, fun q _ => by
            rw [strike_iff, HD.out.reach q]
            exact ⟨fun h => ⟨s, HS.out, h.1, h.2⟩, fun ⟨s', h1, h2, h3⟩ => by
              have e : s' = s := by have := HS.out; rw [h1] at this; cases this; rfl
              subst e
              exact ⟨h2, h3⟩⟩, (htd.out.grew b6).base hbase⟩
        clear SORT b6 htd hbase
        go_wp2
        go_ret
        exact HF.out
end Go.Proofs.Ytclbcggbnbimaaa
