/-
  Package tree: its faces, Above and Below.
-/
import Derived.Test.YtclbcggbnbimaaaRea
import Derived.Test.YtclbcggbnbimaaaTu2
namespace Go.Proofs.Ytclbcggbnbimaaa
open Go.RowKit Go.Deep

/-- Who is told is found in the list. -/
theorem told_has {K : Nat → Fr} {m x : Nat} {sel : Nat → Bool} {P : Nat → Prop} {xs : Nat → Int} (hs : ∀ q, q < m → (sel q = true ↔ P q)) (hx : ∀ j, j < (picked sel m).length → xs j = ((K ((picked sel m).getD j 0)).id : Int)) :
    (∃ j, j < (picked sel m).length ∧ xs j = (x : Int)) ↔ ∃ p, p < m ∧ (K p).id = x ∧ P p := by
  constructor
  · rintro ⟨j, h1, h2⟩
    rw [hx j h1] at h2
    obtain ⟨h3, h4⟩ := picked_at h1
    exact ⟨_, h3, by omega, (hs _ h3).1 h4⟩
  · rintro ⟨p, h1, h2, h3⟩
    obtain ⟨j, h4, h5⟩ := picked_has h1 ((hs p h1).2 h3)
    exact ⟨j, h4, by rw [hx j h4, h5, h2]⟩
set_option maxRecDepth 100000 in
set_option maxHeartbeats 400000 in
theorem under_any (Bh base m p D : Nat) (V : Nat → Value) (N : Nat → Nat) (X : Nat → Nat → Nat) (y : Nat → Nat) (E : Nat → Nat → Prop) (w W : World) (hm : m ≤ 15) (hp : p < m) (hD : w.heap.size ≤ D) (hb : Below w.heap.size w W) (HE : Hid (∀ i p, E i p → i < m ∧ p < m)) (HG : Hid (Hgr w Bh base m V N X)) (HT : Hid (TurnTo E m m 0 y N X)) :
    Calls Try.prog 22 #[.slice (some ⟨Bh, 0, none⟩) m m, .int .i64 (p : Int)] W (NextTo 1000000 D W (fun p i => E i p) p) := by
  have G := HG.out.grew hb
  have c0 : W.cell? ⟨Bh, p, none⟩ = some (V p) := World.rowIs.cell (i := p) G.row hp
  have i1 : (p : Int) < (m : Int) := by omega
  obtain ⟨r, cap, eV, -, -, hn⟩ := (G.each p hp).any
  have hr := fun g e => (World.ownsRow.lt (HG.out.each p hp) g e).2
  rw [eV] at c0 hr
  have HF : Hid (NextTo 1000000 D W (fun p i => E i p) p (.returned (.slice r (N p) cap)) W) := by
    refine ⟨Below.refl _ _, r, N p, cap, X p, rfl, hn, fun b o e => .inl ?_, ?_, fun j hj => HT.out.yes p hp j hj, fun q hq => HT.out.all q (HE.out _ _ hq).1 p hq⟩
    · subst e
      have := hr b rfl
      omega
    · have := HT.out.le p hp
      omega
  clear G hn hr eV hb
  go_enter Try.func22, Try.ntmps22
  go_wp2
  go_ret
  exact HF.out

set_option maxRecDepth 100000 in
set_option maxHeartbeats 400000 in
theorem above_any (a : Option Addr) (m c : Nat) (K : Nat → Fr) (R : Nat → Nat → Int) (x : Nat) (w : World) (hm : m ≤ 15) (hx : x < 4294967296) (HC : Hid (Crowd w a m K R)) :
    Calls Try.prog 10 #[.slice a m c, .int .u32 (x : Int)] w (ToldIs w m K (Behind (Edge K R m) K m x)) := by
  have hmf : ∀ (fn : Fn) (first cap : Array Value) (w : World), (Instr.makeFunc fn first cap).run Try.prog w = .ok (.func fn first cap) w := fun _ _ _ _ => rfl
  go_enter Try.func10, Try.ntmps10
  go_wp2_with fail
  refine (meet_any a m c K w (by omega) HC.out.rise HC.out.ids HC.out.frs).mono ?_
  rintro e w1 ⟨b1, mb, k, rfl, hmb, hmb2, hix⟩
  obtain ⟨y0, e0⟩ : ∃ y, w1.alloc (.cells #[.slice a m c, .map (some mb)] 44) = y := ⟨_, rfl⟩
  have B0 : Below w1.heap.size w1 y0 := e0 ▸ box_below w1 _
  have c0 : y0.cell? ⟨w1.heap.size, 0, none⟩ = some (.slice a m c) := by rw [← e0, World.cell?_alloc_at _ _ _ _ rfl]; rfl
  have c1 : y0.cell? ⟨w1.heap.size, 1, none⟩ = some (.map (some mb)) := by rw [← e0, World.cell?_alloc_at _ _ _ _ rfl]; rfl
  have BW : Below w.heap.size w y0 := b1.trans (B0.mono b1.size)
  have HB : Hid (Below w.heap.size w y0) := BW
  have HC0 : Hid (Crowd y0 a m K R) := HC.out.grew BW
  have HX0 : Hid (IdxAt y0 mb k (plc K m)) := hix.below B0 (Nat.le_refl _)
  have CALL : Hid (Calls Try.prog 17 #[.agg #[.slice a m c, .map (some mb)], .int .u32 (x : Int), .func (.func 18) #[.agg #[.slice a m c, .map (some mb)]] #[]] y0 (ToldIs y0 m K (Behind (Edge K R m) K m x))) :=
    reached_A a m c K R mb k x _ (Edge K R m) y0 hm hx (fun p q h => h.2.1) HC0 HX0 (fun W0 hb0 p hp W hb => by
      have B : Below y0.heap.size y0 W := hb0.trans (hb.mono (Nat.le_succ _))
      exact (hung_any a m c K R mb k p (y0.heap.size + 1) W hp (HC0.out.grew B) (HX0.out.below B (Nat.le_refl _))).mono fun _ _ h => h.more (by omega))
  clear B0 BW b1 hix hmb hmb2
  go_wp2_with fail
  refine CALL.out.mono ?_
  rintro e w2 ⟨b2, v, sel, rfl, h1, h2⟩
  have HF : Hid (ToldIs w m K (Behind (Edge K R m) K m x) (.returned v) w2) := ⟨HB.out.trans (b2.mono HB.out.size), v, sel, rfl, h1, h2.base HB.out.size⟩
  clear CALL b2 h1 h2 e0 c0 c1
  go_wp2
  go_ret
  exact HF.out
theorem turned_at (a : Option Addr) (m c : Nat) (K : Nat → Fr) (R : Nat → Nat → Int) (b k : Nat) (y W : World) (hb : Below y.heap.size y W) (hm15 : m ≤ 15) (HC : Hid (Crowd y a m K R)) (HX : Hid (IdxAt y b k (plc K m))) :
    Calls Try.prog 21 #[.agg #[.slice a m c, .map (some b)]] W (TurnedIs y m (Edge K R m)) :=
  (turned_any a m c K R b k W hm15 (HC.out.grew hb) (HX.out.below hb (Nat.le_refl _))).mono fun _ _ h => ⟨hb.trans (h.1.mono hb.size), h.2⟩
theorem reached_at (a : Option Addr) (m c : Nat) (K : Nat → Fr) (R : Nat → Nat → Int) (b k x Bh base : Nat) (V : Nat → Value) (N : Nat → Nat) (X : Nat → Nat → Nat) (y : Nat → Nat) (w0 y0 w3 W : World) (b0 : Below w0.heap.size w0 y0) (b3 : Below y0.heap.size y0 w3) (hb : Below w3.heap.size w3 W) (hm : m ≤ 15) (hx : x < 4294967296) (HC : Hid (Crowd y0 a m K R)) (HX : Hid (IdxAt y0 b k (plc K m))) (HG : Hid (Hgr w3 Bh base m V N X)) (HT : Hid (TurnTo (Edge K R m) m m 0 y N X)) :
    Calls Try.prog 17 #[.agg #[.slice a m c, .map (some b)], .int .u32 (x : Int), .func (.func 22) #[.slice (some ⟨Bh, 0, none⟩) m m] #[]] W (ToldIs w0 m K (Behind (fun p i => Edge K R m i p) K m x)) := by
  have B : Below y0.heap.size y0 W := b3.trans (hb.mono b3.size)
  have B2 : Below w0.heap.size w0 W := b0.trans (B.mono b0.size)
  have HGW : Hid (Hgr W Bh base m V N X) := HG.out.grew hb
  refine (reached_B a m c K R b k x _ (fun p i => Edge K R m i p) W hm hx (fun p q h => h.1) (HC.out.grew B) (HX.out.below B (Nat.le_refl _)) (fun W0 hb0 p hp W' hb' => ?_)).mono ?_
  · exact under_any Bh base m p (W.heap.size + 1) V N X y (Edge K R m) W W' hm hp (Nat.le_succ _) (hb0.trans (hb'.mono (Nat.le_succ _))) (fun i p h => ⟨h.1, h.2.1⟩) HGW HT
  · rintro e w' ⟨h1, v, sel, e2, h2, h3⟩
    exact ⟨B2.trans (h1.mono B2.size), v, sel, e2, h2, h3.base B2.size⟩
set_option maxRecDepth 100000 in
set_option maxHeartbeats 1000000 in
theorem below_any (a : Option Addr) (m c : Nat) (K : Nat → Fr) (R : Nat → Nat → Int) (x : Nat) (w : World) (hm : m ≤ 15) (hx : x < 4294967296) (HC : Hid (Crowd w a m K R)) :
    Calls Try.prog 12 #[.slice a m c, .int .u32 (x : Int)] w (ToldIs w m K (Behind (fun p i => Edge K R m i p) K m x)) := by
  have hmf : ∀ (fn : Fn) (first cap : Array Value) (w : World), (Instr.makeFunc fn first cap).run Try.prog w = .ok (.func fn first cap) w := fun _ _ _ _ => rfl
  go_enter Try.func12, Try.ntmps12
  go_wp2_with fail
  refine (meet_any a m c K w (by omega) HC.out.rise HC.out.ids HC.out.frs).mono ?_
  rintro e w1 ⟨b1, mb, k, rfl, hmb, hmb2, hix⟩
  obtain ⟨y0, e0⟩ : ∃ y, w1.alloc (.cells #[.slice a m c, .map (some mb)] 44) = y := ⟨_, rfl⟩
  have B0 : Below w1.heap.size w1 y0 := e0 ▸ box_below w1 _
  have c0 : y0.cell? ⟨w1.heap.size, 0, none⟩ = some (.slice a m c) := by rw [← e0, World.cell?_alloc_at _ _ _ _ rfl]; rfl
  have c1 : y0.cell? ⟨w1.heap.size, 1, none⟩ = some (.map (some mb)) := by rw [← e0, World.cell?_alloc_at _ _ _ _ rfl]; rfl
  have BW : Below w.heap.size w y0 := b1.trans (B0.mono b1.size)
  have HB : Hid (Below w.heap.size w y0) := BW
  have HC0 : Hid (Crowd y0 a m K R) := HC.out.grew BW
  have HX0 : Hid (IdxAt y0 mb k (plc K m)) := hix.below B0 (Nat.le_refl _)
  have HL : Hid (w1.heap.size < y0.heap.size) := by show w1.heap.size < _; rw [← e0]; simp
  have HCC : Hid (y0.cell? ⟨w1.heap.size, 0, none⟩ = some (.slice a m c) ∧ y0.cell? ⟨w1.heap.size, 1, none⟩ = some (.map (some mb))) := ⟨c0, c1⟩
  clear B0 BW b1 hix hmb hmb2
  go_wp2_with fail
  go_region_with (first
    | (go_at_call 21; refine (turned_at a m c K R mb k y0 _ (by first | exact Below.refl _ _ | exact below_drews _ | exact (Below.refl _ _).drew) hm HC0 HX0).mono ?_; rintro e w3 ⟨b3, Bh, base, V, N, X, y, rfl, hg, htt⟩; have HB3 : Hid (Below y0.heap.size y0 w3) := b3; have HG : Hid (Hgr w3 Bh base m V N X) := hg; have HT : Hid (TurnTo (Edge K R m) m m 0 y N X) := htt; have c2 := (b3.cell (p := ⟨w1.heap.size, 0, none⟩) HL.out).trans HCC.out.1; have c3 := (b3.cell (p := ⟨w1.heap.size, 1, none⟩) HL.out).trans HCC.out.2; clear b3 hg htt)
    | (go_at_call 17; refine (reached_at a m c K R mb k x Bh base V N X y w y0 w3 _ HB.out HB3.out (by first | exact Below.refl _ _ | exact below_drews _ | exact (Below.refl _ _).drew) hm hx HC0 HX0 HG HT).mono ?_; rintro e w4 ⟨b4, v, sel, rfl, h1, h2⟩; have HF : Hid (ToldIs w m K (Behind (fun p i => Edge K R m i p) K m x) (.returned v) w4) := ⟨b4, v, sel, rfl, h1, h2⟩; clear b4 h1 h2))
  all_goals
    go_wp2
    go_ret
    exact HF.out
end Go.Proofs.Ytclbcggbnbimaaa
