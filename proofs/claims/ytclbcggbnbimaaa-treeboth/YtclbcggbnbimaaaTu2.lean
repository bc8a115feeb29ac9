/-
  Package tree: the crowd seen from the other side.
-/
import Derived.Test.YtclbcggbnbimaaaTur
namespace Go.Proofs.Ytclbcggbnbimaaa
open Go.RowKit Go.Deep

theorem Hgr.after {z1 z2 : World} {Bh base m p : Nat} {V : Nat → Value} {N : Nat → Nat} {X : Nat → Nat → Nat} (h : Hgr z1 Bh base m V N X) (hp : p < m) (hg : z1.grownBy z2 (V p).ownBlock) : z2.rowIs Bh 60 m V :=
  World.rowIs.of_block h.row (hg.block Bh (World.rowIs.lt h.row) (fun e => by
    have := (World.ownsRow.lt (h.each p hp) Bh e.symm).1
    have := h.lt
    omega))
theorem TurnTo.swap {E : Nat → Nat → Prop} {m t : Nat} {y : Nat → Nat} {N : Nat → Nat} {X : Nat → Nat → Nat} (h : TurnTo E m t 0 y N X) (x : Nat → Nat) : TurnTo E m t 0 x N X :=
  ⟨h.yes, h.all, fun i hi => absurd hi (Nat.not_lt_zero i), h.le⟩
/-- The row of neighbours lies apart from the rows that grow. -/
def Off2 (w : World) (n : Nat) (ra : Option Addr) (D m : Nat) (V : Nat → Value) : Prop := 0 < n → ∀ b o, ra = some ⟨b, o, none⟩ → D ≤ b ∧ b < w.heap.size ∧ ∀ p, p < m → (V p).ownBlock ≠ some b

set_option maxRecDepth 100000 in
set_option maxHeartbeats 1000000 in
theorem turned_any (a : Option Addr) (m c : Nat) (K : Nat → Fr) (R : Nat → Nat → Int) (b k : Nat) (w : World) (hm15 : m ≤ 15) (HC : Hid (Crowd w a m K R)) (HX : Hid (IdxAt w b k (plc K m))) :
    Calls Try.prog 21 #[.agg #[.slice a m c, .map (some b)]] w (TurnedIs w m (Edge K R m)) := by
  obtain ⟨x0, e0⟩ : ∃ x, w.alloc (.cells #[.slice a m c, .map (some b)] 44) = x := ⟨_, rfl⟩
  obtain ⟨x1, e1⟩ : ∃ x, x0.alloc (.cells (madeCells #[.slice none 0 0] m) 60) = x := ⟨_, rfl⟩
  have B0 : Below w.heap.size w x0 := e0 ▸ box_below w _
  have B1 : Below x0.heap.size x0 x1 := e1 ▸ box_below x0 _
  have s0 : x0.heap.size = w.heap.size + 1 := by rw [← e0]; simp
  have s1 : x1.heap.size = x0.heap.size + 1 := by rw [← e1]; simp
  have c0 : x0.cell? ⟨w.heap.size, 0, none⟩ = some (.slice a m c) := by rw [← e0, World.cell?_alloc_at _ _ _ _ rfl]; rfl
  have c1 : x0.cell? ⟨w.heap.size, 1, none⟩ = some (.map (some b)) := by rw [← e0, World.cell?_alloc_at _ _ _ _ rfl]; rfl
  have HCC : Hid (x0.cell? ⟨w.heap.size, 0, none⟩ = some (.slice a m c) ∧ x0.cell? ⟨w.heap.size, 1, none⟩ = some (.map (some b))) := ⟨c0, c1⟩
  have HG : Hid (Hgr x1 x0.heap.size (x0.heap.size + 1) m (fun _ => .slice none 0 0) (fun _ => 0) (fun _ _ => 0)) := e1 ▸ Hgr.made x0 m
  have d0 : x1.cell? ⟨w.heap.size, 0, none⟩ = some (.slice a m c) := (B1.cell (p := ⟨w.heap.size, 0, none⟩) (by show w.heap.size < _; omega)).trans c0
  have hmk := make_rows m x0 (by omega)
  have HB0 : Hid (Below w.heap.size w x0) := B0
  have HB1 : Hid (Below x0.heap.size x0 x1) := B1
  have Hs : Hid (x0.heap.size = w.heap.size + 1 ∧ x1.heap.size = x0.heap.size + 1) := ⟨s0, s1⟩
  clear B0 B1 s0 s1
  go_enter Try.func21, Try.ntmps21
  go_wp2_with fail
  clear e0 e1 c0 c1 d0 hmk
  go_loopw [15] (fun i wr => ∃ (t : Nat) (V : Nat → Value) (N : Nat → Nat) (X : Nat → Nat → Nat) (y : Nat → Nat), i = .int .i64 t ∧ t ≤ m ∧ Hid (Below x0.heap.size x0 wr) ∧ Hid (x1.heap.size ≤ wr.heap.size) ∧ Hid (Hgr wr x0.heap.size (x0.heap.size + 1) m V N X) ∧ Hid (TurnTo (Edge K R m) m t 0 y N X)) (fun i _ => m - (intOf i).toNat)
  case atStart => exact ⟨0, _, _, _, fun _ => 0, rfl, Nat.zero_le _, HB1, Nat.le_refl _, HG, TurnTo.nil _ _ _⟩
  case round =>
    obtain ⟨t, V, N, X, y, rfl, ht, hb, hsz, hg, htt⟩ := hrel
    by_cases htm : t < m
    · have i1 : (t : Int) < (m : Int) := by omega
      have BB : Below w.heap.size w wr := HB0.out.trans (hb.out.mono (by have := Hs.out.1; omega))
      obtain ⟨fb, fo, rfl⟩ := HC.out.frs.addr (by omega)
      obtain ⟨q0, q1, q2, q3, q4, q5⟩ := (HC.out.frs.below BB (Nat.le_refl _)).at t htm
      obtain ⟨y0, e0⟩ : ∃ x, wr.alloc (.cells #[.int .u32 ((K t).id : Int), .int .i64 (K t).k, .slice (K t).a (K t).n (K t).c, .int .i64 (K t).s, .int .i64 (K t).p, .int .i64 (K t).d] 31) = x := ⟨_, rfl⟩
      have B0 : Below wr.heap.size wr y0 := e0 ▸ box_below wr _
      have F0 : FrAt y0 wr.heap.size (K t) := e0 ▸ FrAt.made wr _ (K t)
      obtain ⟨f0, f1, f2, f3, f4, f5, -⟩ := F0
      have hsx : x0.heap.size ≤ wr.heap.size := by have := hsz.out; have := Hs.out.2; omega
      have BX : Below x0.heap.size x0 y0 := hb.out.trans (B0.mono hsx)
      have BW : Below w.heap.size w y0 := HB0.out.trans (BX.mono (by have := Hs.out.1; omega))
      have d0 : y0.cell? ⟨w.heap.size, 0, none⟩ = some (.slice (some ⟨fb, fo, none⟩) m c) := (BX.cell (p := ⟨w.heap.size, 0, none⟩) (by have := Hs.out.1; show w.heap.size < _; omega)).trans HCC.out.1
      have d1 : y0.cell? ⟨w.heap.size, 1, none⟩ = some (.map (some b)) := (BX.cell (p := ⟨w.heap.size, 1, none⟩) (by have := Hs.out.1; show w.heap.size < _; omega)).trans HCC.out.2
      have l1 := (HX.out.below BW (Nat.le_refl _)).plain (HC.out.ids t htm) (plc_at HC.out.rise htm)
      have j1 : ((t : Int) != (t : Int)) = false := by simp
      have CALL : Hid (Calls Try.prog 18 #[.agg #[.slice (some ⟨fb, fo, none⟩) m c, .map (some b)], .int .i64 (t : Int)] y0 (NextTo 1000 0 y0 (Edge K R m) t)) :=
        hung_any _ m c K R b k t 0 y0 htm (HC.out.below BW (Nat.le_refl _)) (HX.out.below BW (Nat.le_refl _))
      have HG0 : Hid (Hgr y0 x0.heap.size (x0.heap.size + 1) m V N X) := hg.out.grew B0
      have HBX : Hid (Below x0.heap.size x0 y0) := BX
      have HSZ : Hid (x1.heap.size ≤ y0.heap.size) := Nat.le_trans hsz.out B0.size
      clear BB B0 BX BW hsx hb hsz hg
      generalize K t = g at *
      go_wp2_with fail
      refine CALL.out.mono ?_
      rintro e w1 ⟨b1, ra, n, rc, x, rfl, hx, hab, hn, hyes, hall⟩
      have HG1 : Hid (Hgr w1 x0.heap.size (x0.heap.size + 1) m V N X) := HG0.out.grew b1
      have HNX : Hid (NumsAt .i64 w1 ra n (fun j => (x j : Int))) := hx
      have HE : Hid (∀ j, j < n → Edge K R m t (x j)) := hyes
      have HA : Hid (∀ p, Edge K R m t p → ∃ j, j < n ∧ x j = p) := hall
      have HO : Hid (Off2 w1 n ra y0.heap.size m V) := fun h0 b o e => by
        have h1 : y0.heap.size ≤ b := (hab b o e).resolve_left (Nat.not_lt_zero b)
        refine ⟨h1, ?_, fun p hp e2 => ?_⟩
        · obtain ⟨b', o', e3, hc⟩ := hx h0
          rw [e] at e3
          cases e3
          exact cell_lt (hc 0 h0)
        · have := (World.ownsRow.lt (HG0.out.each p hp) b e2).2
          omega
      have HT0 : Hid (TurnTo (Edge K R m) m t 0 x N X) := htt.out.swap x
      have HB1' : Hid (Below x0.heap.size x0 w1) := HBX.out.trans (b1.mono (by have := HSZ.out; have := Hs.out.2; omega))
      have HZ1 : Hid (x1.heap.size ≤ w1.heap.size) := Nat.le_trans HSZ.out b1.size
      have Hy0 : Hid (x0.heap.size < y0.heap.size) := by
        have := HSZ.out
        have := Hs.out.2
        show x0.heap.size < y0.heap.size
        omega
      clear CALL b1 hx hab hyes hall HG0 HBX HSZ htt e0 f0 f1 f2 f3 f4 f5 q0 q1 q2 q3 q4 q5 d0 d1 l1 j1
      go_wp2_with fail
      generalize wr = wo at *
      go_loopw [31] (fun jj wr => ∃ (q : Nat) (V : Nat → Value) (N : Nat → Nat) (X : Nat → Nat → Nat), jj = .int .i64 q ∧ q ≤ n ∧ Hid (Below x0.heap.size x0 wr) ∧ Hid (x1.heap.size ≤ wr.heap.size) ∧ Hid (Hgr wr x0.heap.size (x0.heap.size + 1) m V N X) ∧ Hid (TurnTo (Edge K R m) m t q x N X) ∧ Hid (NumsAt .i64 wr ra n (fun j => (x j : Int))) ∧ Hid (Off2 wr n ra y0.heap.size m V)) (fun jj _ => n - (intOf jj).toNat)
      case atStart => exact ⟨0, V, N, X, rfl, Nat.zero_le _, HB1', HZ1, HG1, HT0, HNX, HO⟩
      case round =>
        clear HB1' HZ1 HG1 HT0 HNX HO
        obtain ⟨q, V, N, X, rfl, hq, hb, hz, hg, htt, hnx, ho⟩ := hrel
        by_cases hqn : q < n
        · have i2 : (q : Int) < (n : Int) := by omega
          have i3 : q < 1000 := by omega
          obtain ⟨rb, ro, rfl, hc⟩ := hnx.out (by omega)
          have c5 : wr.cell? ⟨rb, ro + q, none⟩ = some (.int .i64 (x q : Int)) := hc q hqn
          have EXT : Edge K R m t (x q) := HE.out q hqn
          have hxm : x q < m := EXT.2.1
          have i4 : (x q : Int) < (m : Int) := by omega
          have c6 : wr.cell? ⟨x0.heap.size, x q, none⟩ = some (V (x q)) := World.rowIs.cell (i := x q) hg.out.row hxm
          obtain ⟨z1, ez1⟩ : ∃ y, wr.alloc (.cells #[.int .i64 (t : Int)] 3) = y := ⟨_, rfl⟩
          have Bz : Below wr.heap.size wr z1 := ez1 ▸ box_below wr _
          have Nz : NumsAt .i64 z1 (some ⟨wr.heap.size, 0, none⟩) 1 (fun _ => (t : Int)) := ez1 ▸ (fun _ => ⟨_, 0, rfl, fun i hi => by
            obtain rfl : i = 0 := by omega
            rw [World.cell?_alloc_at _ _ _ _ rfl]; rfl⟩)
          have G1 := hg.out.grew Bz
          have sx : x0.heap.size + 1 ≤ wr.heap.size := by have := hz.out; have := Hs.out.2; omega
          have sN : N (x q) ≤ 20000 := by have := htt.out.le (x q) hxm; omega
          obtain ⟨v', z2, happ, I2, gr, wh⟩ := (G1.each (x q) hxm).push_at (c := 1) 60 Nz (by decide) (by omega) (by have := Bz.size; omega)
          have I3 : Ior z2 (x0.heap.size + 1) v' (N (x q) + 1) (fun j => (((fun j => if j < N (x q) then X (x q) j else t) j : Nat) : Int)) := I2.congr fun i _ => by
            by_cases e : i < N (x q)
            · simp [e]
            · simp [e]
          obtain ⟨va, vn, vc, rfl⟩ : ∃ va vn vc, v' = .slice va vn vc := by
            obtain ⟨r, cap, e, -⟩ := I3.any
            exact ⟨r, _, cap, e⟩
          have r2 := G1.after hxm gr
          have c7 : z2.cell? ⟨x0.heap.size, x q, none⟩ = some (V (x q)) := World.rowIs.cell (i := x q) r2 hxm
          have z7 := World.rowIs.frozen r2 (x q)
          obtain ⟨z3, ez3⟩ : ∃ y, z2.setCell ⟨x0.heap.size, x q, none⟩ (.slice va vn vc) = y := ⟨_, rfl⟩
          have HG2 : Hid (Hgr z3 x0.heap.size (x0.heap.size + 1) m (fun r => if r = x q then .slice va vn vc else V r) (fun r => if r = x q then N (x q) + 1 else N r) (fun r => if r = x q then (fun j => if j < N (x q) then X (x q) j else t) else X r)) := ez3 ▸ hg.out.push hxm sx Bz I3 gr wh
          have HT2 : Hid (TurnTo (Edge K R m) m t (q + 1) x (fun r => if r = x q then N (x q) + 1 else N r) (fun r => if r = x q then (fun j => if j < N (x q) then X (x q) j else t) else X r)) := htt.out.push EXT
          have B12 := (G1.each (x q) hxm).grown gr (by have := Bz.size; omega)
          have HB2 : Hid (Below x0.heap.size x0 z3) := ez3 ▸ ((hb.out.trans (Bz.mono (by omega))).trans (B12.mono (Nat.le_succ _))).setCell (p := ⟨x0.heap.size, x q, none⟩) (Nat.le_refl _) (.slice va vn vc)
          have K3 : Kept x0.heap.size z2 z3 := ez3 ▸ Kept.set z2 _ _
          have HZ2 : Hid (x1.heap.size ≤ z3.heap.size) := Nat.le_trans hz.out (Nat.le_trans Bz.size (Nat.le_trans gr.size K3.size))
          have OFF := ho.out (by omega) rb ro rfl
          have HO2 : Hid (Off2 z3 n (some ⟨rb, ro, none⟩) y0.heap.size m (fun r => if r = x q then .slice va vn vc else V r)) := fun _ b o e => by
            cases e
            refine ⟨OFF.1, ?_, fun p hp => ?_⟩
            · have := OFF.2.1
              have := Bz.size
              have := gr.size
              have := K3.size
              omega
            · show (if p = x q then Value.slice va vn vc else V p).ownBlock ≠ some rb
              by_cases e : p = x q
              · rw [if_pos e]
                rcases wh with wh | wh
                · rw [wh]; exact OFF.2.2 _ hxm
                · rw [wh]
                  intro e
                  cases e
                  have := OFF.2.1
                  have := Bz.size
                  omega
              · rw [if_neg e]; exact OFF.2.2 p hp
          have HNX2 : Hid (NumsAt .i64 z3 (some ⟨rb, ro, none⟩) n (fun j => (x j : Int))) := fun _ => ⟨rb, ro, rfl, fun i hi => by
            have h1 : wr.cell? ⟨rb, ro + i, none⟩ = some (.int .i64 (x i : Int)) := hc i hi
            have h2 := (Bz.cell (p := ⟨rb, ro + i, none⟩) OFF.2.1).trans h1
            have h3 := gr.cell h2 (fun e => OFF.2.2 _ hxm e.symm)
            exact K3.cell h3 (by have := OFF.1; have := Hy0.out; omega)⟩
          clear hc EXT hxm Bz Nz G1 sx sN I2 I3 gr wh r2 B12 K3 OFF hb hz hg htt hnx ho
          generalize V (x q) = vv at *
          generalize x q = xq at *
          go_wp2_with (at_builtin; refine Go.Lib.wpList_append_run _ rfl (.tmp 40) (.tmp 42) 60 60 rfl _ _ rfl rfl _ _ happ ?_)
          go_roundw
          case rel => exact ⟨q + 1, _, _, _, by go_num, by omega, HB2, HZ2, HG2, HT2, HNX2, HO2⟩
          case measure => simp [intOf]; omega
        · obtain rfl : q = n := by omega
          have i2 : decide ((q : Int) < (q : Int)) = false := by simp
          have HT2 : Hid (TurnTo (Edge K R m) m (t + 1) 0 (fun _ => 0) N X) := htt.out.next hn HA.out _
          clear htt hnx ho HE HA
          go_wp2_with fail
          go_roundw
          case rel => exact ⟨t + 1, V, N, X, fun _ => 0, by go_num, by omega, hb, hz, hg, HT2⟩
          case measure => simp [intOf]; omega
    · obtain rfl : t = m := by omega
      have i1 : decide ((t : Int) < (t : Int)) = false := by simp
      have HF : Hid (TurnedIs w t (Edge K R t) (.returned (.slice (some ⟨x0.heap.size, 0, none⟩) t t)) wr) :=
        ⟨HB0.out.trans (hb.out.mono (by have := Hs.out.1; omega)), x0.heap.size, x0.heap.size + 1, V, N, X, y, rfl, hg.out, htt.out⟩
      clear hb hsz hg htt
      go_wp2
      go_ret
      exact HF.out
end Go.Proofs.Ytclbcggbnbimaaa
