/-
  Package tree: on whom one hangs directly.
-/
import Derived.Test.YtclbcggbnbimaaaIor
import Derived.Test.YtclbcggbnbimaaaMee
namespace Go.Proofs.Ytclbcggbnbimaaa
open Go.RowKit Go.Deep

/-- Known ones, as they lie in memory: few of them, IDs that rise, each one's Refs. -/
structure Crowd (w : World) (a : Option Addr) (m : Nat) (K : Nat → Fr) (R : Nat → Nat → Int) : Prop where
  few : m ≤ 90
  rise : Rise K m
  ids : ∀ q, q < m → (K q).id < 4294967296
  frs : FrsAt w a m K
  refs : ∀ q, q < m → NumsAt .u32 w (K q).a (K q).n (R q)
  len : ∀ q, q < m → (K q).n ≤ 1000
  nat : ∀ q, q < m → ∀ j, j < (K q).n → ∃ x : Nat, R q j = (x : Int) ∧ x < 4294967296
theorem Crowd.grew {w w' : World} {a : Option Addr} {m : Nat} {K : Nat → Fr} {R : Nat → Nat → Int} (h : Crowd w a m K R) (hb : Below w.heap.size w w') : Crowd w' a m K R :=
  ⟨h.few, h.rise, h.ids, h.frs.grew hb, fun q hq => (h.refs q hq).grew hb, h.len, h.nat⟩
/-- What a look at one's neighbours answers: the places x, E's all. -/
def NextTo (L D : Nat) (W : World) (E : Nat → Nat → Prop) (p : Nat) (e : Ending) (w' : World) : Prop :=
  Below W.heap.size W w' ∧ ∃ (a : Option Addr) (n c : Nat) (x : Nat → Nat), e = .returned (.slice a n c) ∧ NumsAt .i64 w' a n (fun j => (x j : Int)) ∧ (∀ b o, a = some ⟨b, o, none⟩ → b < D ∨ W.heap.size ≤ b) ∧ n ≤ L ∧ (∀ j, j < n → E p (x j)) ∧ ∀ q, E p q → ∃ j, j < n ∧ x j = q
theorem NextTo.more {L L' D : Nat} {W : World} {E : Nat → Nat → Prop} {p : Nat} {e : Ending} {w' : World} (h : NextTo L D W E p e w') (hL : L ≤ L') : NextTo L' D W E p e w' := by
  obtain ⟨h1, a, n, c, x, h2, h3, h4, h5, h6⟩ := h
  exact ⟨h1, a, n, c, x, h2, h3, h4, Nat.le_trans h5 hL, h6⟩
/-- The first t Refs of place p are looked at: n places x were found. -/
structure OverTo (K : Nat → Fr) (R : Nat → Nat → Int) (m p t n : Nat) (x : Nat → Nat) : Prop where
  le : n ≤ t
  yes : ∀ j, j < n → Edge K R m p (x j)
  all : ∀ q, q < m → ∀ j, j < t → R p j = ((K q).id : Int) → ∃ i, i < n ∧ x i = q
theorem OverTo.nil (K : Nat → Fr) (R : Nat → Nat → Int) (m p : Nat) (x : Nat → Nat) : OverTo K R m p 0 0 x :=
  ⟨Nat.le_refl _, fun _ h => absurd h (Nat.not_lt_zero _), fun _ _ _ h => absurd h (Nat.not_lt_zero _)⟩
theorem OverTo.skip {K : Nat → Fr} {R : Nat → Nat → Int} {m p t n : Nat} {x : Nat → Nat} (h : OverTo K R m p t n x) {y : Nat} (hy : R p t = (y : Int)) (hn : plc K m y = none) : OverTo K R m p (t + 1) n x :=
  ⟨by have := h.le; omega, h.yes, fun q hq j hj e => by
    by_cases e2 : j = t
    · subst e2
      exact absurd (by omega) (plc_none m hn q hq)
    · exact h.all q hq j (by omega) e⟩
theorem OverTo.push {K : Nat → Fr} {R : Nat → Nat → Int} {m p t n : Nat} {x : Nat → Nat} (h : OverTo K R m p t n x) (hr : Rise K m) (hp : p < m) (ht : t < (K p).n) {y q : Nat} (hy : R p t = (y : Int)) (hq : plc K m y = some q) : OverTo K R m p (t + 1) (n + 1) (fun i => if i < n then x i else q) := by
  obtain ⟨q1, q2⟩ := plc_some m hq
  refine ⟨by have := h.le; omega, fun j hj => ?_, fun r hr' j hj e => ?_⟩
  · by_cases e : j < n
    · simp only [if_pos e]; exact h.yes j e
    · simp only [if_neg e]
      exact ⟨hp, q1, t, ht, by rw [hy, q2]⟩
  · by_cases e2 : j = t
    · subst e2
      refine ⟨n, Nat.lt_succ_self _, ?_⟩
      simp only [Nat.lt_irrefl, if_false]
      exact hr.eq q1 hr' (by omega)
    · obtain ⟨i, hi, e3⟩ := h.all r hr' j (by omega) e
      refine ⟨i, by omega, ?_⟩
      simp only [if_pos hi]
      exact e3
theorem Ior.congr {w : World} {base : Nat} {v : Value} {n : Nat} {x y : Nat → Int} (h : Ior w base v n x) (e : ∀ i, i < n → x i = y i) : Ior w base v n y := by
  have : icells x n = icells y n := List.map_congr_left fun i hi => by rw [e i (List.mem_range.1 hi)]
  have h' : w.ownsRow base 3 1 v n (icells x n) := h
  rw [this] at h'
  exact h'

set_option maxRecDepth 100000 in
set_option maxHeartbeats 1000000 in
theorem hung_any (a : Option Addr) (m c : Nat) (K : Nat → Fr) (R : Nat → Nat → Int) (b k p D : Nat) (w : World) (hp : p < m) (HC : Hid (Crowd w a m K R)) (HX : Hid (IdxAt w b k (plc K m))) :
    Calls Try.prog 18 #[.agg #[.slice a m c, .map (some b)], .int .i64 (p : Int)] w (NextTo 1000 D w (Edge K R m) p) := by
  obtain ⟨x0, e0⟩ : ∃ x, w.alloc (.cells #[.slice a m c, .map (some b)] 44) = x := ⟨_, rfl⟩
  have B0 : Below w.heap.size w x0 := e0 ▸ box_below w _
  have s0 : x0.heap.size = w.heap.size + 1 := by rw [← e0]; simp
  have HB0 : Hid (Below w.heap.size w x0) := B0
  have hs : Hid (x0.heap.size = w.heap.size + 1) := s0
  have c0 : x0.cell? ⟨w.heap.size, 0, none⟩ = some (.slice a m c) := by rw [← e0, World.cell?_alloc_at _ _ _ _ rfl]; rfl
  have c1 : x0.cell? ⟨w.heap.size, 1, none⟩ = some (.map (some b)) := by rw [← e0, World.cell?_alloc_at _ _ _ _ rfl]; rfl
  have HCC : Hid (x0.cell? ⟨w.heap.size, 1, none⟩ = some (.map (some b))) := c1
  obtain ⟨fb, fo, rfl⟩ := HC.out.frs.addr (by omega)
  obtain ⟨q0, q1, q2, q3, q4, q5⟩ := (HC.out.frs.grew B0).at p hp
  have i1 : (p : Int) < (m : Int) := by omega
  have hn1 : (K p).n ≤ 1000 := HC.out.len p hp
  clear B0 s0
  go_enter Try.func18, Try.ntmps18
  go_wp2_with fail
  clear e0 c0 c1 q0 q1 q2 q3 q4 q5
  go_loopw [5, 17] (fun l i wr => ∃ (t n : Nat) (x : Nat → Nat), i = .int .i64 t ∧ t ≤ (K p).n ∧ Hid (OverTo K R m p t n x) ∧ Hid (Ior wr (w.heap.size + 1) l n (fun j => (x j : Int))) ∧ Hid (Below (w.heap.size + 1) x0 wr)) (fun _ i _ => (K p).n - (intOf i).toNat)
  case atStart => exact ⟨0, 0, fun _ => 0, rfl, Nat.zero_le _, OverTo.nil _ _ _ _ _, Ior.nil _ _ _, Below.refl _ _⟩
  case round =>
    obtain ⟨t, n, x, rfl, ht, ho, hi, hb⟩ := hrel
    have HB : Hid (Below w.heap.size w wr) := HB0.out.trans (hb.out.mono (by omega))
    by_cases htn : t < (K p).n
    · obtain ⟨rb, ro, er, hc⟩ := ((HC.out.refs p hp).below HB.out (Nat.le_refl _)) (by omega)
      have c2 := hc t htn
      have c1 := (hb.out.cell (p := ⟨w.heap.size, 1, none⟩) (Nat.lt_succ_self _)).trans HCC.out
      have i2 : (t : Int) < ((K p).n : Int) := by omega
      obtain ⟨y, ey, hy⟩ := HC.out.nat p hp t htn
      rw [ey] at c2
      have hx := HX.out.below HB.out (Nat.le_refl _)
      have hle : n ≤ 1000 := by
        have := ho.out.le
        have := HC.out.len p hp
        omega
      have hsz : w.heap.size + 1 ≤ wr.heap.size := by
        have := hb.out.size
        have := hs.out
        omega
      cases e : plc K m y with
      | none =>
        have l1 := hx.none hy e
        have HO : Hid (OverTo K R m p (t + 1) n x) := ho.out.skip ey e
        clear hc ho ey e hx hle hsz
        rw [er]
        go_wp2_with fail
        go_roundw
        case rel => exact ⟨t + 1, n, x, by go_num, by omega, HO, hi, hb⟩
        case measure => simp [intOf]; omega
      | some q =>
        have l1 := hx.found hy e
        have HO : Hid (OverTo K R m p (t + 1) (n + 1) (fun i => if i < n then x i else q)) := ho.out.push HC.out.rise hp htn ey e
        obtain ⟨z1, ez1⟩ : ∃ x, wr.alloc (.cells #[.int .i64 (q : Int)] 3) = x := ⟨_, rfl⟩
        have Bz : Below wr.heap.size wr z1 := ez1 ▸ box_below wr _
        have Nz : NumsAt .i64 z1 (some ⟨wr.heap.size, 0, none⟩) 1 (fun _ => (q : Int)) := ez1 ▸ (fun _ => ⟨_, 0, rfl, fun i hi => by
          obtain rfl : i = 0 := by omega
          rw [World.cell?_alloc_at _ _ _ _ rfl]; rfl⟩)
        have I1 := hi.out.grew Bz
        obtain ⟨v', z2, happ, I2, gr⟩ := I1.push (c := 1) 60 Nz (by decide) (by omega) (by have := Bz.size; omega)
        have HI2 : Hid (Ior z2 (w.heap.size + 1) v' (n + 1) (fun j => (((fun i => if i < n then x i else q) j : Nat) : Int))) := I2.congr fun i _ => by
          by_cases e : i < n
          · simp [e]
          · simp [e]
        have HB2 : Hid (Below (w.heap.size + 1) x0 z2) := (hb.out.trans (Bz.mono hsz)).trans (I1.grown gr (by have := Bz.size; omega))
        clear hc ho ey e hx hle hsz Bz Nz I1 I2 gr hb hi
        rw [er]
        go_wp2_with (at_builtin; refine Go.Lib.wpList_append_run _ rfl (.tmp 29) (.tmp 31) 60 60 rfl _ _ rfl rfl _ _ happ ?_)
        go_roundw
        case rel => exact ⟨t + 1, n + 1, _, by go_num, by omega, HO, HI2, HB2⟩
        case measure => simp [intOf]; omega
    · have hte : t = (K p).n := by omega
      have i2 : decide ((t : Int) < ((K p).n : Int)) = false := by simp; omega
      obtain ⟨r, cap, rfl, -, hr, hn⟩ := hi.out.any
      have HA : Hid (NumsAt .i64 wr r n (fun j => (x j : Int)) ∧ (∀ b o, r = some ⟨b, o, none⟩ → b < D ∨ w.heap.size ≤ b) ∧ n ≤ 1000 ∧ (∀ j, j < n → Edge K R m p (x j)) ∧ ∀ q, Edge K R m p q → ∃ j, j < n ∧ x j = q) := by
        refine ⟨hn, fun b o e => .inr (by subst e; have := (hr b rfl).1; omega), ?_, ho.out.yes, fun q hq => ?_⟩
        · have := ho.out.le
          omega
        · obtain ⟨-, h2, j, hj, e⟩ := hq
          exact ho.out.all q h2 j (by omega) e
      clear ho hi hb hr hn
      go_wp2
      go_ret
      exact ⟨HB.out, r, n, cap, x, rfl, HA.out⟩
end Go.Proofs.Ytclbcggbnbimaaa
