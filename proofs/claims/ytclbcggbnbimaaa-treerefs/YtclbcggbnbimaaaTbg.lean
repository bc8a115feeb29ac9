/-
  Law 14's 'begun', 'same'; known ones out of numbers as a crowd.
-/
import Derived.Deep.QuietTactic
import Derived.BigQuiet
import Derived.Test.YtclbcggbnbimaaaAbv
import Derived.Test.YtclbcggbnbimaaaFfr
namespace Go.Proofs.Ytclbcggbnbimaaa
open Go.RowKit Go.Deep

theorem inc_rise {K : Nat → Fr} {m : Nat} (h : Inc K m) : Rise K m := fun p q hpq hq => by
  have h1 := h.2 p (by omega)
  have h2 := h.le (q - (p + 1)) (p + 1) (by omega)
  rw [show p + 1 + (q - (p + 1)) = q by omega] at h2
  omega
theorem crowd_of {w : World} {base : Nat} {r : Option Addr} {m : Nat} {K : Nat → Fr} {R : Nat → Nat → Int} {v : Value} (hf : FrsAt w r m K) (hI : Inc K m) (hG : Refd w base v m K R) (hH : Hung K R m) (hm : m ≤ 15) : Crowd w r m K R :=
  ⟨by omega, inc_rise hI, fun q hq => by have := hI.1 q hq; omega, hf, fun q hq => (hG q hq).refs.nums, fun q hq => by have := (hG q hq).few; omega, fun q hq j hj => by
    obtain ⟨p, h1, h2⟩ := hH q hq j hj
    exact ⟨(K p).id, h2, by have := hI.1 p (by omega); omega⟩⟩
/-- Two that are told. -/
theorem Told.two {w : World} {base p q : Nat} {v : Value} {K : Nat → Fr} (h : Told w base v [p, q] K) : ∃ b o cap, v = .slice (some ⟨b, o, none⟩) 2 cap ∧ w.cell? ⟨b, o, none⟩ = some (.int .u32 ((K p).id : Int)) ∧ w.cell? ⟨b, o + 1, none⟩ = some (.int .u32 ((K q).id : Int)) := by
  obtain ⟨x, h1, h2⟩ := h
  obtain ⟨r, cap, rfl, -, -, hn⟩ := h1.any
  obtain ⟨b, o, rfl, hc⟩ := hn (by simp)
  refine ⟨b, o, cap, rfl, ?_, ?_⟩
  · have := hc 0 (by simp)
    rw [h2 0 (by simp)] at this
    exact this
  · have := hc 1 (by simp)
    rw [h2 1 (by simp)] at this
    exact this

set_option maxRecDepth 100000 in
set_option maxHeartbeats 400000 in
theorem same14_yes (r1 r2 : Option Addr) (n c1 c2 : Nat) (x : Nat → Int) (w : World) (hn : n ≤ 1000) (H1 : Hid (NumsAt .u32 w r1 n x)) (H2 : Hid (NumsAt .u32 w r2 n x)) :
    Calls Try.prog 9 #[.slice r1 n c1, .slice r2 n c2] w fun e w' => e = .returned (.bool true) ∧ Same w w' := by
  have j0 : ((n : Int) != (n : Int)) = false := by simp
  go_enter Try.func9, Try.ntmps9
  go_wp2_with fail
  go_loopw [5] (fun i wr => ∃ t : Nat, i = .int .i64 t ∧ t ≤ n ∧ Hid (Same w wr)) (fun i _ => n - (intOf i).toNat)
  case atStart => exact ⟨0, rfl, Nat.zero_le _, Same.refl _⟩
  case round =>
    obtain ⟨t, rfl, ht, hs⟩ := hrel
    by_cases htn : t < n
    · have i1 : (t : Int) < (n : Int) := by omega
      obtain ⟨b1, o1, rfl, h1⟩ := H1.out (by omega)
      obtain ⟨b2, o2, rfl, h2⟩ := H2.out (by omega)
      have c1 := (hs.out.cell _).trans (h1 t htn)
      have c2 := (hs.out.cell _).trans (h2 t htn)
      have j1 : (x t != x t) = false := by simp
      clear h1 h2
      generalize x t = y at *
      go_wp2_with fail
      go_quiet (fail)
      go_wp2_with fail
      go_roundw
      case rel => exact ⟨t + 1, by go_num, by omega, hs.out.trans ⟨_, rfl⟩⟩
      case measure => simp [intOf]; omega
    · obtain rfl : t = n := by omega
      have i1 : decide ((t : Int) < (t : Int)) = false := by simp
      go_wp2
      go_ret
      exact ⟨rfl, hs.out⟩
/-- Two lists that tell the same. -/
theorem same14_told {w : World} {b1 b2 m : Nat} {v1 v2 : Value} {K : Nat → Fr} {P : Nat → Prop} {s1 s2 : Nat → Bool} (hm : m ≤ 1000) (h1 : ∀ q, q < m → (s1 q = true ↔ P q)) (h2 : ∀ q, q < m → (s2 q = true ↔ P q)) (t1 : Told w b1 v1 (picked s1 m) K) (t2 : Told w b2 v2 (picked s2 m) K) :
    Calls Try.prog 9 #[v1, v2] w fun e w' => e = .returned (.bool true) ∧ Same w w' := by
  have e : picked s1 m = picked s2 m := picked_congr fun q hq => by
    have a := h1 q hq
    have b := h2 q hq
    cases e1 : s1 q <;> cases e2 : s2 q
    · rfl
    · rw [e1] at a; rw [e2] at b; exact absurd (a.2 (b.1 rfl)) (by decide)
    · rw [e1] at a; rw [e2] at b; exact absurd (b.2 (a.1 rfl)) (by decide)
    · rfl
  rw [e] at t1
  obtain ⟨x1, u1, g1⟩ := t1
  obtain ⟨x2, u2, g2⟩ := t2
  obtain ⟨r1, c1, rfl, -, -, n1⟩ := u1.any
  obtain ⟨r2, c2, rfl, -, -, n2⟩ := u2.any
  have hl := picked_le s2 m
  refine same14_yes r1 r2 _ c1 c2 x1 w (by omega) n1 (fun h0 => ?_)
  obtain ⟨b, o, e, hc⟩ := n2 h0
  exact ⟨b, o, e, fun i hi => by rw [hc i hi, g1 i hi, g2 i hi]⟩

theorem trio_made (w : World) (f g h : Fr) : FrsAt (w.alloc (.cells #[.int .u32 (f.id : Int), .int .i64 f.k, .slice f.a f.n f.c, .int .i64 f.s, .int .i64 f.p, .int .i64 f.d, .int .u32 (g.id : Int), .int .i64 g.k, .slice g.a g.n g.c, .int .i64 g.s, .int .i64 g.p, .int .i64 g.d, .int .u32 (h.id : Int), .int .i64 h.k, .slice h.a h.n h.c, .int .i64 h.s, .int .i64 h.p, .int .i64 h.d] 31)) (some ⟨w.heap.size, 0, none⟩) 3 (fun i => if i = 0 then f else if i = 1 then g else h) := fun _ => ⟨_, 0, rfl, fun i hi => by
  have e : i = 0 ∨ i = 1 ∨ i = 2 := by omega
  rcases e with rfl | rfl | rfl
  all_goals (refine ⟨?_, ?_, ?_, ?_, ?_, ?_⟩ <;> (rw [World.cell?_alloc_at _ _ _ _ rfl]; rfl))⟩
/-- An I, a P on it, a B on that. -/
def trio (A B : Nat) : Nat → Fr := fun i => if i = 0 then ⟨1, 1, none, 0, 0, 0, 0, 0⟩ else if i = 1 then ⟨2, 2, some ⟨A, 0, none⟩, 1, 1, 0, 0, 0⟩ else ⟨3, 3, some ⟨B, 0, none⟩, 1, 1, 0, 0, 0⟩
theorem trio_edge (A B : Nat) {i : Nat} (h0 : 0 < i) (hi : i < 3) : Edge (trio A B) (fun q _ => (q : Int)) 3 i (i - 1) := by
  refine ⟨hi, by omega, 0, ?_, ?_⟩
  · have e : i = 1 ∨ i = 2 := by omega
    rcases e with rfl | rfl <;> simp [trio]
  · have e : i = 1 ∨ i = 2 := by omega
    rcases e with rfl | rfl <;> rfl
theorem trio_rise (A B : Nat) : Rise (trio A B) 3 := fun p q hpq hq => by
  have e : (p = 0 ∧ q = 1) ∨ (p = 0 ∧ q = 2) ∨ (p = 1 ∧ q = 2) := by omega
  rcases e with ⟨rfl, rfl⟩ | ⟨rfl, rfl⟩ | ⟨rfl, rfl⟩ <;> simp [trio]
theorem picked_three {sel : Nat → Bool} (b0 b1 b2 : Bool) (h0 : sel 0 = b0) (h1 : sel 1 = b1) (h2 : sel 2 = b2) : picked sel 3 = (if b0 then [0] else []) ++ (if b1 then [1] else []) ++ (if b2 then [2] else []) := by
  cases b0 <;> cases b1 <;> cases b2 <;> simp [picked, List.range_succ, h0, h1, h2]

set_option maxRecDepth 100000 in
set_option maxHeartbeats 1000000 in
theorem begun14 (w : World) : Calls Try.prog 6 #[] w fun e w' => e = .returned (.bool true) ∧ Below w.heap.size w w' := by
  obtain ⟨x1, e1⟩ : ∃ y, w.alloc (.cells #[.int .u32 1] 23) = y := ⟨_, rfl⟩
  obtain ⟨x2, e2⟩ : ∃ y, x1.alloc (.cells #[.int .u32 2] 23) = y := ⟨_, rfl⟩
  obtain ⟨x3, e3⟩ : ∃ y, x2.alloc (.cells #[.int .u32 1, .int .i64 1, .slice none 0 0, .int .i64 0, .int .i64 0, .int .i64 0, .int .u32 2, .int .i64 2, .slice (some ⟨w.heap.size, 0, none⟩) 1 1, .int .i64 0, .int .i64 0, .int .i64 0, .int .u32 3, .int .i64 3, .slice (some ⟨x1.heap.size, 0, none⟩) 1 1, .int .i64 0, .int .i64 0, .int .i64 0] 31) = y := ⟨_, rfl⟩
  have B1 : Below w.heap.size w x1 := e1 ▸ box_below w _
  have B2 : Below x1.heap.size x1 x2 := e2 ▸ box_below x1 _
  have B3 : Below x2.heap.size x2 x3 := e3 ▸ box_below x2 _
  have s1 : x1.heap.size = w.heap.size + 1 := by rw [← e1]; simp
  have s2 : x2.heap.size = x1.heap.size + 1 := by rw [← e2]; simp
  have d1 : x3.cell? ⟨w.heap.size, 0, none⟩ = some (.int .u32 1) := ((B3.cell (p := ⟨w.heap.size, 0, none⟩) (by show w.heap.size < _; omega)).trans (B2.cell (p := ⟨w.heap.size, 0, none⟩) (by show w.heap.size < _; omega))).trans (by rw [← e1, World.cell?_alloc_at _ _ _ _ rfl]; rfl)
  have d2 : x3.cell? ⟨x1.heap.size, 0, none⟩ = some (.int .u32 2) := (B3.cell (p := ⟨x1.heap.size, 0, none⟩) (by show x1.heap.size < _; omega)).trans (by rw [← e2, World.cell?_alloc_at _ _ _ _ rfl]; rfl)
  have F3 : FrsAt x3 (some ⟨x2.heap.size, 0, none⟩) 3 (trio w.heap.size x1.heap.size) := e3 ▸ trio_made x2 ⟨1, 1, none, 0, 0, 0, 0, 0⟩ ⟨2, 2, some ⟨w.heap.size, 0, none⟩, 1, 1, 0, 0, 0⟩ ⟨3, 3, some ⟨x1.heap.size, 0, none⟩, 1, 1, 0, 0, 0⟩
  have HC : Hid (Crowd x3 (some ⟨x2.heap.size, 0, none⟩) 3 (trio w.heap.size x1.heap.size) (fun q _ => (q : Int))) := by
    refine ⟨by decide, trio_rise _ _, fun q hq => ?_, F3, fun q hq => ?_, fun q hq => ?_, fun q hq j hj => ⟨q, rfl, by omega⟩⟩
    · have e : q = 0 ∨ q = 1 ∨ q = 2 := by omega
      rcases e with rfl | rfl | rfl <;> simp [trio]
    · have e : q = 0 ∨ q = 1 ∨ q = 2 := by omega
      rcases e with rfl | rfl | rfl
      · exact fun h => absurd h (by simp [trio])
      · exact fun _ => ⟨w.heap.size, 0, rfl, fun i hi => by
          obtain rfl : i = 0 := by have hi : i < 1 := hi; omega
          exact d1⟩
      · exact fun _ => ⟨x1.heap.size, 0, rfl, fun i hi => by
          obtain rfl : i = 0 := by have hi : i < 1 := hi; omega
          exact d2⟩
    · have e : q = 0 ∨ q = 1 ∨ q = 2 := by omega
      rcases e with rfl | rfl | rfl <;> simp [trio]
  have HB : Hid (Below w.heap.size w x3) := (B1.trans (B2.mono B1.size)).trans (B3.mono (by omega))
  have C1 : Hid (Calls Try.prog 10 #[.slice (some ⟨x2.heap.size, 0, none⟩) 3 3, .int .u32 3] x3 (ToldIs x3 3 (trio w.heap.size x1.heap.size) (Behind (Edge (trio w.heap.size x1.heap.size) (fun q _ => (q : Int)) 3) (trio w.heap.size x1.heap.size) 3 3))) := above_any _ 3 3 _ _ 3 x3 (by decide) (by decide) HC
  clear B1 B2 B3 s1 s2 d1 d2 F3
  go_enter Try.func6, Try.ntmps6
  go_wp2_with fail
  clear e1 e2 e3
  refine C1.out.mono ?_
  rintro e w4 ⟨b4, v, sel, rfl, hs, ht⟩
  have q0 : sel 0 = true := (hs 0 (by decide)).2 ⟨2, rfl, .more (trio_edge _ _ (i := 2) (by decide) (by decide)) (.one (trio_edge _ _ (i := 1) (by decide) (by decide))), by decide⟩
  have q1 : sel 1 = true := (hs 1 (by decide)).2 ⟨2, rfl, .one (trio_edge _ _ (i := 2) (by decide) (by decide)), by decide⟩
  have q2 : sel 2 = false := by
    cases e : sel 2 with
    | false => rfl
    | true =>
      obtain ⟨s, h1, -, h3⟩ := (hs 2 (by decide)).1 e
      have h1 : some 2 = some s := h1
      cases h1
      exact absurd rfl h3
  rw [picked_three true true false q0 q1 q2] at ht
  obtain ⟨b1, o1, cap1, rfl, c1, -⟩ := ht.two
  have c1 : w4.cell? ⟨b1, o1, none⟩ = some (.int .u32 1) := c1
  have HC4 : Hid (Crowd w4 (some ⟨x2.heap.size, 0, none⟩) 3 (trio w.heap.size x1.heap.size) (fun q _ => (q : Int))) := HC.out.grew b4
  have C2 : Hid (Calls Try.prog 12 #[.slice (some ⟨x2.heap.size, 0, none⟩) 3 3, .int .u32 1] w4 (ToldIs w4 3 (trio w.heap.size x1.heap.size) (Behind (fun p i => Edge (trio w.heap.size x1.heap.size) (fun q _ => (q : Int)) 3 i p) (trio w.heap.size x1.heap.size) 3 1))) := below_any _ 3 3 _ _ 1 w4 (by decide) (by decide) HC4
  have HB4 : Hid (Below w.heap.size w w4) := HB.out.trans (b4.mono HB.out.size)
  clear C1 HC HB b4 hs ht q0 q1 q2
  go_wp2_with fail
  refine C2.out.mono ?_
  rintro e w5 ⟨b5, v5, sel5, rfl, hs, ht⟩
  have q0 : sel5 0 = false := by
    cases e : sel5 0 with
    | false => rfl
    | true =>
      obtain ⟨s, h1, -, h3⟩ := (hs 0 (by decide)).1 e
      have h1 : some 0 = some s := h1
      cases h1
      exact absurd rfl h3
  have q1 : sel5 1 = true := (hs 1 (by decide)).2 ⟨0, rfl, .one (trio_edge _ _ (i := 1) (by decide) (by decide)), by decide⟩
  have q2 : sel5 2 = true := (hs 2 (by decide)).2 ⟨0, rfl, .more (trio_edge _ _ (i := 1) (by decide) (by decide)) (.one (trio_edge _ _ (i := 2) (by decide) (by decide))), by decide⟩
  rw [picked_three false true true q0 q1 q2] at ht
  obtain ⟨b2, o2, cap2, rfl, -, c2⟩ := ht.two
  have c2 : w5.cell? ⟨b2, o2 + 1, none⟩ = some (.int .u32 3) := c2
  have c3 : w5.cell? ⟨b1, o1, none⟩ = some (.int .u32 1) := (b5.cell (cell_lt c1)).trans c1
  have HB5 : Hid (Below w.heap.size w w5) := HB4.out.trans (b5.mono HB4.out.size)
  have C3 : Hid (Calls Try.prog 10 #[.slice none 0 0, .int .u32 1] w5 (ToldIs w5 0 (trio 0 0) (Behind (Edge (trio 0 0) (fun q _ => (q : Int)) 0) (trio 0 0) 0 1))) := above_any none 0 0 _ _ 1 w5 (by decide) (by decide) ⟨by decide, fun p q _ h => absurd h (Nat.not_lt_zero q), fun q h => absurd h (Nat.not_lt_zero q), FrsAt.nil _ _, fun q h => absurd h (Nat.not_lt_zero q), fun q h => absurd h (Nat.not_lt_zero q), fun q h => absurd h (Nat.not_lt_zero q)⟩
  clear C2 HC4 HB4 b5 hs ht q0 q1 q2 c1
  go_wp2_with fail
  refine C3.out.mono ?_
  rintro e w6 ⟨b6, v6, sel6, rfl, -, xs, hu, -⟩
  obtain ⟨r6, cap6, rfl, -, -, -⟩ := hu.any
  have HB6 : Hid (Below w.heap.size w w6) := HB5.out.trans (b6.mono HB5.out.size)
  clear C3 b6 hu
  go_wp2
  go_ret
  exact ⟨rfl, HB6.out⟩
end Go.Proofs.Ytclbcggbnbimaaa
