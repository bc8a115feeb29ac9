/-
  Package rank.
-/
import Derived.Test.YtmbpfdnadjemcaaFcf
import Derived.Test.YtmbpfdnadjemcaaWnt
import Derived.Deep.RegionHeld
import Derived.Laws.EntriesVeiled
namespace Go.Proofs.Ytmbpfdnadjemcaa
open Go.RowKit Go.Deep


set_option maxRecDepth 100000 in
set_option maxHeartbeats 1000000 in
theorem worse_any (a b : Wt) (w : World) : Calls Try.prog 18 #[a.val, b.val] w fun e w' => e = .returned (.bool (a.worse b)) ∧ Below w.heap.size w w' := by
  obtain ⟨x0, e0⟩ : ∃ x, w.alloc (.cells #[.int .u32 a.id, .int .i64 a.r, .int .i64 a.b] 40) = x := ⟨_, rfl⟩
  obtain ⟨x1, e1⟩ : ∃ x, x0.alloc (.cells #[.int .u32 b.id, .int .i64 b.r, .int .i64 b.b] 40) = x := ⟨_, rfl⟩
  have B0 : Below w.heap.size w x0 := e0 ▸ box_below w _
  have B1 : Below x0.heap.size x0 x1 := e1 ▸ box_below x0 _
  have A0 : WtAt x0 w.heap.size a := e0 ▸ WtAt.made w _ a
  have A1 : WtAt x1 x0.heap.size b := e1 ▸ WtAt.made x0 _ b
  have HB : Hid (Below w.heap.size w x1) := B0.trans (B1.mono B0.size)
  obtain ⟨q0, q1, q2⟩ := A0.grew B1
  obtain ⟨r0, r1, r2⟩ := A1
  clear B0 B1 A0
  unfold Wt.val
  by_cases h1 : b.r < a.r
  · have W : Hid (a.worse b = true) := by show a.worse b = true; simp [Wt.worse, h1]
    go_enter Try.func18, Try.ntmps18
    go_wp2
    go_ret
    exact ⟨by rw [W.out]; rfl, HB.out⟩
  have i1 : decide (b.r < a.r) = false := by simp; omega
  by_cases h2 : a.r = b.r
  · have W : Hid (a.worse b = decide (b.id < a.id)) := by show a.worse b = _; simp [Wt.worse, h2]
    have i2 : (a.r == b.r) = true := by simp [h2]
    clear h1 h2
    go_enter Try.func18, Try.ntmps18
    go_wp2
    go_ret
    exact ⟨by rw [W.out]; rfl, HB.out⟩
  · have W : Hid (a.worse b = false) := by show a.worse b = _; simp [Wt.worse, h2]; omega
    have i2 : (a.r == b.r) = false := by simpa using h2
    clear h1 h2
    go_enter Try.func18, Try.ntmps18
    go_wp2
    go_ret
    exact ⟨by rw [W.out]; rfl, HB.out⟩
theorem worse_is {a b : Wt} {B : Bool} (h : a.worse b = B) (w : World) : Calls Try.prog 18 #[a.val, b.val] w fun e w' => e = .returned (.bool B) ∧ Below w.heap.size w w' := h ▸ worse_any a b w

/-- The first of n places that has it, or -1. -/
def First (n : Nat) (p : Nat → Prop) (e : Ending) : Prop := (∃ j : Nat, j < n ∧ p j ∧ (∀ q, q < j → ¬ p q) ∧ e = .returned (.int .i64 (j : Int))) ∨ ((∀ j, j < n → ¬ p j) ∧ e = .returned (.int .i64 (-1)))
/-- Each one's Refs, as they must be in memory. -/
def RefsAll (w : World) (m : Nat) (K : Nat → Fr) (R : Nat → Nat → Int) : Prop := ∀ q, q < m → RefsAt w (K q) (R q)
theorem RefsAll.grew {w w' : World} {m : Nat} {K : Nat → Fr} {R : Nat → Nat → Int} (h : RefsAll w m K R) (hb : Below w.heap.size w w') : RefsAll w' m K R := fun q hq => (h q hq).grew hb
theorem RefsAll.take {w : World} {m k : Nat} {K : Nat → Fr} {R : Nat → Nat → Int} (h : RefsAll w m K R) (hk : k ≤ m) : RefsAll w k K R := fun q hq => h q (by omega)
theorem FrsAt.take {w : World} {a : Option Addr} {m k : Nat} {K : Nat → Fr} (h : FrsAt w a m K) (hk : k ≤ m) : FrsAt w a k K := fun h0 => by
  obtain ⟨b, o, e, hc⟩ := h (by omega)
  exact ⟨b, o, e, fun i hi => hc i (by omega)⟩
/-- Does f hang on v? -/
def has (f : Fr) (r : Nat → Int) (v : Int) : Prop := ∃ j, j < f.n ∧ r j = v

set_option maxRecDepth 100000 in
set_option maxHeartbeats 1000000 in
theorem ofc_any (f : Fr) (B : Nat) (v : Int) (w : World) (hc : w.cell? ⟨B, 0, none⟩ = some (.int .u32 v)) :
    Calls Try.prog 30 #[f.val, .pointer (some ⟨B, 0, none⟩)] w (Tells w ((f.id : Int) = v)) := by
  have b1 := box_below w (.cells #[.int .u32 (f.id : Int), .int .i64 f.k, .slice f.a f.n f.c, .int .i64 f.s, .int .i64 f.p, .int .i64 f.d] 26)
  have HB : Hid (Below w.heap.size w (w.alloc (.cells #[.int .u32 (f.id : Int), .int .i64 f.k, .slice f.a f.n f.c, .int .i64 f.s, .int .i64 f.p, .int .i64 f.d] 26))) := b1
  have c1 := (b1.cell (p := ⟨B, 0, none⟩) (cell_lt hc)).trans hc
  clear b1 hc
  unfold Fr.val
  go_enter Try.func30, Try.ntmps30
  go_wp2
  go_ret
  exact ⟨HB.out, _, rfl, by simp⟩

set_option maxRecDepth 100000 in
set_option maxHeartbeats 1000000 in
theorem hangc_any (f : Fr) (r : Nat → Int) (B : Nat) (v : Int) (w : World) (hc : w.cell? ⟨B, 0, none⟩ = some (.int .u32 v)) (hr : RefsAt w f r) :
    Calls Try.prog 48 #[f.val, .pointer (some ⟨B, 0, none⟩)] w (Tells w (has f r v)) := by
  have b1 := box_below w (.cells #[.int .u32 (f.id : Int), .int .i64 f.k, .slice f.a f.n f.c, .int .i64 f.s, .int .i64 f.p, .int .i64 f.d] 26)
  have HB : Hid (Below w.heap.size w (w.alloc (.cells #[.int .u32 (f.id : Int), .int .i64 f.k, .slice f.a f.n f.c, .int .i64 f.s, .int .i64 f.p, .int .i64 f.d] 26))) := b1
  have F0 : FrAt (w.alloc (.cells #[.int .u32 (f.id : Int), .int .i64 f.k, .slice f.a f.n f.c, .int .i64 f.s, .int .i64 f.p, .int .i64 f.d] 26)) w.heap.size f := FrAt.made w _ f
  have c1 := (b1.cell (p := ⟨B, 0, none⟩) (cell_lt hc)).trans hc
  have HR : Hid (RefsAt (w.alloc (.cells #[.int .u32 (f.id : Int), .int .i64 f.k, .slice f.a f.n f.c, .int .i64 f.s, .int .i64 f.p, .int .i64 f.d] 26)) f r) := hr.grew b1
  obtain ⟨f0, f1, f2, f3, f4, f5, -⟩ := F0
  clear b1 hc hr
  unfold Fr.val
  go_enter Try.func48, Try.ntmps48
  go_wp2_with fail
  refine (ucontains_any f.a f.n f.c r v _ HR.out.len HR.out.nums).mono ?_
  rintro e w1 ⟨hb, B, rfl, hB⟩
  have HW : Hid (Below w.heap.size w w1) := HB.out.trans (hb.mono HB.out.size)
  have HT : Hid (B = true ↔ has f r v) := hB
  clear hb hB f0 f1 f2 f3 f4 f5 c1
  go_wp2
  go_ret
  exact ⟨HW.out, B, rfl, HT.out⟩

set_option maxRecDepth 100000 in
set_option maxHeartbeats 1000000 in
theorem ofindex_any (a : Option Addr) (m c : Nat) (K : Nat → Fr) (R : Nat → Nat → Int) (B : Nat) (v : Int) (w : World) (hm : m ≤ 1000) (HK : Hid (FrsAt w a m K)) (HR : Hid (RefsAll w m K R)) (HC : Hid (w.cell? ⟨B, 0, none⟩ = some (.int .u32 v))) :
    Calls Try.prog 29 #[.slice a m c, .func (.func 30) #[] #[.pointer (some ⟨B, 0, none⟩)]] w fun e w' => First m (fun j => ((K j).id : Int) = v) e ∧ Below w.heap.size w w' := by
  go_enter Try.func29, Try.ntmps29
  go_wp2_with fail
  go_loopw [8] (fun i wr => ∃ k : Nat, k ≤ m ∧ i = .int .i64 k ∧ Hid (∀ j, j < k → ¬ ((K j).id : Int) = v) ∧ Hid (Below w.heap.size w wr)) (fun i _ => m - (intOf i).toNat)
  case atStart => exact ⟨0, Nat.zero_le _, rfl, fun j hj => absurd hj (by omega), Below.refl _ _⟩
  case round =>
    obtain ⟨k, hk, rfl, hl, hb⟩ := hrel
    by_cases hkn : k < m
    · obtain ⟨b, o, rfl⟩ := HK.out.addr (by omega)
      obtain ⟨q0, q1, q2, q3, q4, q5⟩ := (HK.out.below hb.out (Nat.le_refl _)).at k hkn
      have i1 : (k : Int) < (m : Int) := by omega
      have hc := (hb.out.cell (p := ⟨B, 0, none⟩) (cell_lt HC.out)).trans HC.out
      have hr := (HR.out.grew hb.out) k hkn
      go_wp2_with fail
      refine (ofc_any (K k) B v _ hc).mono ?_
      rintro e w1 ⟨hb1, t, rfl, ht⟩
      have HB : Hid (Below w.heap.size w w1) := hb.out.trans (hb1.mono hb.out.size)
      clear q0 q1 q2 q3 q4 q5 hc hb1 hb hr
      cases t with
      | true =>
        have HF : Hid (First m (fun j => ((K j).id : Int) = v) (.returned (.int .i64 (k : Int)))) := .inl ⟨k, hkn, ht.1 rfl, hl.out, rfl⟩
        clear hl ht
        go_wp2
        go_ret
        exact ⟨HF.out, HB.out⟩
      | false =>
        have HL : Hid (∀ j, j < k + 1 → ¬ ((K j).id : Int) = v) := fun j hj => by
          by_cases e : j = k
          · subst e; exact fun x => absurd (ht.2 x) (by decide)
          · exact hl.out j (by omega)
        clear hl ht
        go_wp2_with fail
        go_roundw
        case rel => exact ⟨k + 1, by omega, by go_num, HL, HB⟩
        case measure => simp [intOf]; omega
    · have hke : k = m := by omega
      subst hke
      have HF : Hid (First k (fun j => ((K j).id : Int) = v) (.returned (.int .i64 (-1)))) := .inr ⟨hl.out, rfl⟩
      clear hl
      go_wp2
      go_ret
      exact ⟨HF.out, hb.out⟩

set_option maxRecDepth 100000 in
set_option maxHeartbeats 1000000 in
theorem hangindex_any (a : Option Addr) (m c : Nat) (K : Nat → Fr) (R : Nat → Nat → Int) (B : Nat) (v : Int) (w : World) (hm : m ≤ 1000) (HK : Hid (FrsAt w a m K)) (HR : Hid (RefsAll w m K R)) (HC : Hid (w.cell? ⟨B, 0, none⟩ = some (.int .u32 v))) :
    Calls Try.prog 49 #[.slice a m c, .func (.func 48) #[] #[.pointer (some ⟨B, 0, none⟩)]] w fun e w' => First m (fun j => has (K j) (R j) v) e ∧ Below w.heap.size w w' := by
  go_enter Try.func49, Try.ntmps49
  go_wp2_with fail
  go_loopw [8] (fun i wr => ∃ k : Nat, k ≤ m ∧ i = .int .i64 k ∧ Hid (∀ j, j < k → ¬ has (K j) (R j) v) ∧ Hid (Below w.heap.size w wr)) (fun i _ => m - (intOf i).toNat)
  case atStart => exact ⟨0, Nat.zero_le _, rfl, fun j hj => absurd hj (by omega), Below.refl _ _⟩
  case round =>
    obtain ⟨k, hk, rfl, hl, hb⟩ := hrel
    by_cases hkn : k < m
    · obtain ⟨b, o, rfl⟩ := HK.out.addr (by omega)
      obtain ⟨q0, q1, q2, q3, q4, q5⟩ := (HK.out.below hb.out (Nat.le_refl _)).at k hkn
      have i1 : (k : Int) < (m : Int) := by omega
      have hc := (hb.out.cell (p := ⟨B, 0, none⟩) (cell_lt HC.out)).trans HC.out
      have hr := (HR.out.grew hb.out) k hkn
      go_wp2_with fail
      refine (hangc_any (K k) (R k) B v _ hc hr).mono ?_
      rintro e w1 ⟨hb1, t, rfl, ht⟩
      have HB : Hid (Below w.heap.size w w1) := hb.out.trans (hb1.mono hb.out.size)
      clear q0 q1 q2 q3 q4 q5 hc hb1 hb hr
      cases t with
      | true =>
        have HF : Hid (First m (fun j => has (K j) (R j) v) (.returned (.int .i64 (k : Int)))) := .inl ⟨k, hkn, ht.1 rfl, hl.out, rfl⟩
        clear hl ht
        go_wp2
        go_ret
        exact ⟨HF.out, HB.out⟩
      | false =>
        have HL : Hid (∀ j, j < k + 1 → ¬ has (K j) (R j) v) := fun j hj => by
          by_cases e : j = k
          · subst e; exact fun x => absurd (ht.2 x) (by decide)
          · exact hl.out j (by omega)
        clear hl ht
        go_wp2_with fail
        go_roundw
        case rel => exact ⟨k + 1, by omega, by go_num, HL, HB⟩
        case measure => simp [intOf]; omega
    · have hke : k = m := by omega
      subst hke
      have HF : Hid (First k (fun j => has (K j) (R j) v) (.returned (.int .i64 (-1)))) := .inr ⟨hl.out, rfl⟩
      clear hl
      go_wp2
      go_ret
      exact ⟨HF.out, hb.out⟩

set_option maxRecDepth 100000 in
set_option maxHeartbeats 1000000 in
theorem hangcontains_any (a : Option Addr) (m c : Nat) (K : Nat → Fr) (R : Nat → Nat → Int) (B : Nat) (v : Int) (w : World) (hm : m ≤ 1000) (HK : Hid (FrsAt w a m K)) (HR : Hid (RefsAll w m K R)) (HC : Hid (w.cell? ⟨B, 0, none⟩ = some (.int .u32 v))) :
    Calls Try.prog 47 #[.slice a m c, .func (.func 48) #[] #[.pointer (some ⟨B, 0, none⟩)]] w (Tells w (∃ j, j < m ∧ has (K j) (R j) v)) := by
  go_enter Try.func47, Try.ntmps47
  go_wp2_with fail
  refine (hangindex_any a m c K R B v _ hm HK HR HC).mono ?_
  rintro e w1 ⟨⟨j, h1, h2, -, rfl⟩ | ⟨h1, rfl⟩, hb⟩
  · have HT : Hid (∃ j, j < m ∧ has (K j) (R j) v) := ⟨j, h1, h2⟩
    clear h2
    go_wp2
    go_ret
    exact ⟨hb, true, rfl, iff_of_true rfl HT.out⟩
  · have HT : Hid (¬ ∃ j, j < m ∧ has (K j) (R j) v) := fun ⟨j, h2, h3⟩ => h1 j h2 h3
    clear h1
    go_wp2
    go_ret
    exact ⟨hb, false, rfl, iff_of_false (by decide) HT.out⟩

set_option maxRecDepth 100000 in
set_option maxHeartbeats 1000000 in
theorem hang_any (a : Option Addr) (m c : Nat) (K : Nat → Fr) (R : Nat → Nat → Int) (v : Int) (w : World) (hm : m ≤ 1000) (HK : Hid (FrsAt w a m K)) (HR : Hid (RefsAll w m K R)) :
    Calls Try.prog 45 #[.slice a m c, .int .u32 v] w (Tells w (∃ j, j < m ∧ has (K j) (R j) v)) := by
  have hmf : ∀ (fn : Fn) (first cap : Array Value) (w : World), (Instr.makeFunc fn first cap).run Try.prog w = .ok (.func fn first cap) w := fun _ _ _ _ => rfl
  have HB : Hid (Below w.heap.size w (w.alloc (.cells #[.int .u32 v] 23))) := box_below w _
  have HC : Hid ((w.alloc (.cells #[.int .u32 v] 23)).cell? ⟨w.heap.size, 0, none⟩ = some (.int .u32 v)) := by
    show (w.alloc (.cells #[.int .u32 v] 23)).cell? ⟨w.heap.size, 0, none⟩ = some (.int .u32 v)
    rw [World.cell?_alloc_at _ _ _ _ rfl]; rfl
  go_enter Try.func45, Try.ntmps45
  go_wp2_with fail
  refine (hangcontains_any a m c K R w.heap.size v _ hm (HK.out.grew HB.out) (HR.out.grew HB.out) HC).mono ?_
  rintro e w1 ⟨hb, B, rfl, hB⟩
  go_wp2
  go_ret
  exact ⟨HB.out.trans (hb.mono HB.out.size), B, rfl, hB⟩

/-- What hangs on v among m: does anybody? -/
def hangs (m : Nat) (K : Nat → Fr) (R : Nat → Nat → Int) (v : Int) : Bool := (List.range m).any fun q => (List.range (K q).n).any fun j => R q j == v
theorem hangs_iff (m : Nat) (K : Nat → Fr) (R : Nat → Nat → Int) (v : Int) : hangs m K R v = true ↔ ∃ j, j < m ∧ has (K j) (R j) v := by
  simp [hangs, has]
/-- The first of m with that ID. -/
def rkFst (m : Nat) (K : Nat → Fr) (v : Int) : Option Nat := (List.range m).find? fun q => ((K q).id : Int) == v
/-- How much that one matters, and whether there is one. -/
def rk (m : Nat) (K : Nat → Fr) (R : Nat → Nat → Int) (v : Int) : Int × Bool :=
  match rkFst m K v with
  | none => (0, false)
  | some j => if (K j).k = 1 then (0, true) else if (K j).k = 2 then (1, true) else if (K j).k = 3 then (if hangs m K R v = true then 2 else 3, true) else (0, false)
theorem rkFst_some {m : Nat} {K : Nat → Fr} {v : Int} {j : Nat} (h1 : j < m) (h2 : ((K j).id : Int) = v) (h3 : ∀ q, q < j → ¬ ((K q).id : Int) = v) : rkFst m K v = some j := by
  unfold rkFst
  rw [List.find?_range_eq_some]
  refine ⟨by simp [h2], by simpa using h1, fun q hq => ?_⟩
  simpa using h3 q hq
theorem rkFst_none {m : Nat} {K : Nat → Fr} {v : Int} (h : ∀ q, q < m → ¬ ((K q).id : Int) = v) : rkFst m K v = none := by
  unfold rkFst
  rw [List.find?_range_eq_none]
  intro q hq
  simpa using h q hq
/-- What Of answers. -/
def RankIs (w : World) (m : Nat) (K : Nat → Fr) (R : Nat → Nat → Int) (v : Int) (e : Ending) (w' : World) : Prop := e = .returned (.tuple #[.int .i64 (rk m K R v).1, .bool (rk m K R v).2]) ∧ Below w.heap.size w w'

set_option maxRecDepth 100000 in
set_option maxHeartbeats 1000000 in
theorem kind_any (k : Int) (w : World) : Calls Try.prog 31 #[.int .i64 k] w fun e w' => e = .returned (.bool (decide (1 ≤ k ∧ k ≤ 3))) ∧ w' = w := by
  by_cases h1 : 1 ≤ k
  · go_enter Try.func31, Try.ntmps31
    go_wp2
    go_ret
    exact ⟨by simp [h1], rfl⟩
  · have i1 : decide (1 ≤ k) = false := by simp; omega
    go_enter Try.func31, Try.ntmps31
    go_wp2
    go_ret
    exact ⟨by simp, rfl⟩

set_option maxRecDepth 100000 in
set_option maxHeartbeats 1000000 in
theorem ranki_any (s : Value) (v : Value) (w : World) : Calls Try.prog 37 #[s, v] w fun e w' => e = .returned (.int .i64 0) ∧ w' = w := by
  go_enter Try.func37, Try.ntmps37
  go_wp2
  go_ret
  exact ⟨rfl, rfl⟩

set_option maxRecDepth 100000 in
set_option maxHeartbeats 1000000 in
theorem rankp_any (s : Value) (v : Value) (w : World) : Calls Try.prog 38 #[s, v] w fun e w' => e = .returned (.int .i64 1) ∧ w' = w := by
  go_enter Try.func38, Try.ntmps38
  go_wp2
  go_ret
  exact ⟨rfl, rfl⟩

set_option maxRecDepth 100000 in
set_option maxHeartbeats 1000000 in
theorem rankb_any (a : Option Addr) (m c : Nat) (K : Nat → Fr) (R : Nat → Nat → Int) (v : Int) (w : World) (hm : m ≤ 1000) (HK : Hid (FrsAt w a m K)) (HR : Hid (RefsAll w m K R)) (x : Int) (HX : Hid (x = if hangs m K R v = true then 2 else 3)) :
    Calls Try.prog 39 #[.slice a m c, .int .u32 v] w fun e w' => e = .returned (.int .i64 x) ∧ Below w.heap.size w w' := by
  go_enter Try.func39, Try.ntmps39
  go_wp2_with fail
  refine (hang_any a m c K R v _ hm HK HR).mono ?_
  rintro e w1 ⟨hb, B, rfl, hB⟩
  have HB : Hid (Below w.heap.size w w1) := hb
  have HT : Hid (B = true ↔ hangs m K R v = true) := hB.trans (hangs_iff m K R v).symm
  have hx := HX.out
  clear hb hB HX
  cases B with
  | true =>
    rw [if_pos (HT.out.1 rfl)] at hx
    subst hx
    clear HT
    go_wp2
    go_ret
    exact ⟨rfl, HB.out⟩
  | false =>
    rw [if_neg (fun h => absurd (HT.out.2 h) (by decide))] at hx
    subst hx
    clear HT
    go_wp2
    go_ret
    exact ⟨rfl, HB.out⟩

set_option maxRecDepth 100000 in
set_option maxHeartbeats 1000000 in
theorem rway_1 (w : World) : Calls Try.prog 32 #[.int .i64 1] w fun e w' => e = .returned (.func (.func 37) #[] #[]) ∧ Below w.heap.size w w' := by
  have HB : Hid (Below w.heap.size w (w.alloc (.cells #[.nilFunc, .func (.func 37) #[] #[], .func (.func 38) #[] #[], .func (.func 39) #[] #[]] 69))) := box_below w _
  go_enter Try.func32, Try.ntmps32
  go_wp2
  go_ret
  exact ⟨rfl, HB.out⟩

set_option maxRecDepth 100000 in
set_option maxHeartbeats 1000000 in
theorem rway_2 (w : World) : Calls Try.prog 32 #[.int .i64 2] w fun e w' => e = .returned (.func (.func 38) #[] #[]) ∧ Below w.heap.size w w' := by
  have HB : Hid (Below w.heap.size w (w.alloc (.cells #[.nilFunc, .func (.func 37) #[] #[], .func (.func 38) #[] #[], .func (.func 39) #[] #[]] 69))) := box_below w _
  go_enter Try.func32, Try.ntmps32
  go_wp2
  go_ret
  exact ⟨rfl, HB.out⟩

set_option maxRecDepth 100000 in
set_option maxHeartbeats 1000000 in
theorem rway_3 (w : World) : Calls Try.prog 32 #[.int .i64 3] w fun e w' => e = .returned (.func (.func 39) #[] #[]) ∧ Below w.heap.size w w' := by
  have HB : Hid (Below w.heap.size w (w.alloc (.cells #[.nilFunc, .func (.func 37) #[] #[], .func (.func 38) #[] #[], .func (.func 39) #[] #[]] 69))) := box_below w _
  go_enter Try.func32, Try.ntmps32
  go_wp2
  go_ret
  exact ⟨rfl, HB.out⟩

/-- What is held while a rank is found. -/
structure Ranking (w : World) (B : Nat) (v : Int) (a : Option Addr) (m : Nat) (K : Nat → Fr) (R : Nat → Nat → Int) (W : World) : Prop where
  id : W.cell? ⟨B, 0, none⟩ = some (.int .u32 v)
  frs : FrsAt W a m K
  refs : RefsAll W m K R
  bel : Below w.heap.size w W
theorem Ranking.grew {w W W' : World} {B : Nat} {v : Int} {a : Option Addr} {m : Nat} {K : Nat → Fr} {R : Nat → Nat → Int} (h : Ranking w B v a m K R W) (hb : Below W.heap.size W W') : Ranking w B v a m K R W' :=
  ⟨(hb.cell (p := ⟨B, 0, none⟩) (cell_lt h.id)).trans h.id, h.frs.grew hb, h.refs.grew hb, h.bel.trans (hb.mono h.bel.size)⟩

set_option maxRecDepth 100000 in
set_option maxHeartbeats 1000000 in
theorem of_1 (b o m c j : Nat) (K : Nat → Fr) (R : Nat → Nat → Int) (v : Int) (w : World) (hm : m ≤ 1000) (hj : j < m) (hid : ((K j).id : Int) = v) (h1 : ∀ q, q < j → ¬ ((K q).id : Int) = v) (hk : (K j).k = 1) (HK : FrsAt w (some ⟨b, o, none⟩) m K) (HR : RefsAll w m K R) :
    Calls Try.prog 16 #[.slice (some ⟨b, o, none⟩) m c, .int .u32 v] w (RankIs w m K R v) := by
  have hmf : ∀ (fn : Fn) (first cap : Array Value) (w : World), (Instr.makeFunc fn first cap).run Try.prog w = .ok (.func fn first cap) w := fun _ _ _ _ => rfl
  have HA : Hid (rk m K R v = (0, true)) := by
    show rk m K R v = _
    unfold rk
    rw [rkFst_some hj hid h1]
    simp [hk]
  have b1 := box_below w (.cells #[.int .u32 v] 23)
  have HH : Hid (Ranking w w.heap.size v (some ⟨b, o, none⟩) m K R (w.alloc (.cells #[.int .u32 v] 23))) := ⟨by rw [World.cell?_alloc_at _ _ _ _ rfl]; rfl, HK.grew b1, HR.grew b1, b1⟩
  have HI : Hid (((K j).id : Int) = v) := hid
  have H1 : Hid (∀ q, q < j → ¬ ((K q).id : Int) = v) := h1
  clear b1 HK HR hid h1
  go_enter Try.func16, Try.ntmps16
  go_wp2_with fail
  generalize w.alloc (.cells #[.int .u32 v] 23) = w1 at *
  generalize w.heap.size = B at *
  refine (ofindex_any (some ⟨b, o, none⟩) m c K R B v _ hm HH.out.frs HH.out.refs HH.out.id).mono ?_
  rintro e w2 ⟨hF, d2⟩
  obtain rfl : e = .returned (.int .i64 (j : Int)) := by
    rcases hF with ⟨i, i1, i2, i3, rfl⟩ | ⟨i1, -⟩
    · have : i = j := by
        rcases Nat.lt_trichotomy i j with q | q | q
        · exact absurd i2 (H1.out i q)
        · exact q
        · exact absurd HI.out (i3 j q)
      rw [this]
    · exact absurd HI.out (i1 j hj)
  have HH2 : Hid (Ranking w B v (some ⟨b, o, none⟩) m K R w2) := HH.out.grew d2
  have HH3 : Hid (Ranking w B v (some ⟨b, o, none⟩) m K R w2.drew) := HH.out.grew d2.drew
  obtain ⟨-, c1, -⟩ := HH2.out.frs.at j hj
  rw [hk] at c1
  have i1 : (j : Int) < (m : Int) := by omega
  clear hF d2 HH HI H1
  go_wp2_with fail
  refine (kind_any 1 _).mono ?_
  rintro e w3 ⟨rfl, rfl⟩
  clear HH2
  rw [show decide ((1 : Int) ≤ 1 ∧ (1 : Int) ≤ 3) = true from rfl]
  go_wp2_with fail
  refine wp_region_held (S := Ranking w B v (some ⟨b, o, none⟩) m K R) (by kernel_rfl) ?_
  change wpAnyH _ _ _ _ _ _ _ _ w3.drew
  have hr := HH3.out
  clear HH3 c1
  generalize w3.drew = w4 at *
  refine wpAnyH_take (i := 0) (v := .slice (some ⟨b, o, none⟩) m c) rfl (by kernel_rfl) (by kernel_rfl) (by kernel_rfl) (fun _ _ _ h => h) (Yields.yieldsIf (Or.inl ⟨by kernel_rfl, fun _ => by kernel_rfl⟩)) hr ?_
  refine wpAnyH_take (i := 1) (v := .int .i64 (j : Int)) rfl (by kernel_rfl) (by kernel_rfl) (by kernel_rfl) (fun _ _ _ h => h) (Yields.yieldsIf (Or.inl ⟨by kernel_rfl, fun _ => by kernel_rfl⟩)) hr ?_
  refine wpAnyH_take (i := 2) (v := .pointer (some ⟨b, o + j * 6, none⟩)) rfl (by kernel_rfl) (by kernel_rfl) (by kernel_rfl) (fun _ _ _ h => h) (Yields.yieldsIf (Or.inl ⟨by kernel_rfl, fun _ => by go_simp⟩)) hr ?_
  refine wpAnyH_take (i := 3) (v := .pointer (some ⟨b, o + j * 6 + 1, none⟩)) rfl (by kernel_rfl) (by kernel_rfl) (by kernel_rfl) (fun _ _ _ h => h) (Yields.yieldsIf (Or.inl ⟨by kernel_rfl, fun _ => by go_simp⟩)) hr ?_
  refine wpAnyH_take (i := 4) (v := .int .i64 1) rfl (by kernel_rfl) (by kernel_rfl) (by kernel_rfl) (fun _ _ _ h => h) (Or.inl ⟨by kernel_rfl, fun W hW => by have c1 := (hW.frs.at j hj).2.1; rw [hk] at c1; go_simp⟩) hr ?_
  refine wpAnyH_take (i := 6) (v := .slice (some ⟨b, o, none⟩) m c) rfl (by kernel_rfl) (by kernel_rfl) (by kernel_rfl) (fun _ _ _ h => h) (Yields.yieldsIf (Or.inl ⟨by kernel_rfl, fun _ => by kernel_rfl⟩)) hr ?_
  refine wpAnyH_take (i := 7) (v := .int .u32 v) rfl (by kernel_rfl) (by kernel_rfl) (by kernel_rfl) (fun _ _ _ h => h) (Or.inl ⟨by kernel_rfl, fun W hW => by have c1 := hW.id; go_simp⟩) hr ?_
  refine wpAnyH_ready (rs := [5]) (by kernel_rfl) (by simp) ?_
  refine AllReadyH.cons rfl (fun K2 hK2 => ?_) AllReadyH.nil
  go_simp
  refine Calls.mono (rway_1 _) ?_
  rintro e w5 ⟨rfl, d4⟩
  have hr := hr.grew d4
  refine hK2.out _ _ hr (fun hr => ?_)
  clear hK2 K2
  refine wpAnyH_ready (rs := [8]) (by kernel_rfl) (by simp) ?_
  refine AllReadyH.cons rfl (fun K2 hK2 => ?_) AllReadyH.nil
  go_simp
  refine Calls.mono (ranki_any _ _ _) ?_
  rintro e w6 ⟨rfl, rfl⟩
  refine hK2.out _ _ hr (fun hr => ?_)
  clear hK2 K2
  refine wpAnyH_take (i := 9) (v := .int .i64 0) rfl (by kernel_rfl) (by kernel_rfl) (by kernel_rfl) (fun _ _ _ h => h) (Yields.yieldsIf (Or.inl ⟨by kernel_rfl, fun _ => by kernel_rfl⟩)) hr ?_
  refine wpAnyH_take (i := 10) (v := .bool true) rfl (by kernel_rfl) (by kernel_rfl) (by kernel_rfl) (fun _ _ _ h => h) (Yields.yieldsIf (Or.inl ⟨by kernel_rfl, fun _ => by kernel_rfl⟩)) hr ?_
  refine wpAnyH_done (by kernel_rfl) ?_ _
  have HB : Hid (Below w.heap.size w w6) := hr.bel
  clear hr
  go_wp2
  go_ret2
  exact ⟨by rw [HA.out]; rfl, HB.out⟩

set_option maxRecDepth 100000 in
set_option maxHeartbeats 1000000 in
theorem of_2 (b o m c j : Nat) (K : Nat → Fr) (R : Nat → Nat → Int) (v : Int) (w : World) (hm : m ≤ 1000) (hj : j < m) (hid : ((K j).id : Int) = v) (h1 : ∀ q, q < j → ¬ ((K q).id : Int) = v) (hk : (K j).k = 2) (HK : FrsAt w (some ⟨b, o, none⟩) m K) (HR : RefsAll w m K R) :
    Calls Try.prog 16 #[.slice (some ⟨b, o, none⟩) m c, .int .u32 v] w (RankIs w m K R v) := by
  have hmf : ∀ (fn : Fn) (first cap : Array Value) (w : World), (Instr.makeFunc fn first cap).run Try.prog w = .ok (.func fn first cap) w := fun _ _ _ _ => rfl
  have HA : Hid (rk m K R v = (1, true)) := by
    show rk m K R v = _
    unfold rk
    rw [rkFst_some hj hid h1]
    simp [hk]
  have b1 := box_below w (.cells #[.int .u32 v] 23)
  have HH : Hid (Ranking w w.heap.size v (some ⟨b, o, none⟩) m K R (w.alloc (.cells #[.int .u32 v] 23))) := ⟨by rw [World.cell?_alloc_at _ _ _ _ rfl]; rfl, HK.grew b1, HR.grew b1, b1⟩
  have HI : Hid (((K j).id : Int) = v) := hid
  have H1 : Hid (∀ q, q < j → ¬ ((K q).id : Int) = v) := h1
  clear b1 HK HR hid h1
  go_enter Try.func16, Try.ntmps16
  go_wp2_with fail
  generalize w.alloc (.cells #[.int .u32 v] 23) = w1 at *
  generalize w.heap.size = B at *
  refine (ofindex_any (some ⟨b, o, none⟩) m c K R B v _ hm HH.out.frs HH.out.refs HH.out.id).mono ?_
  rintro e w2 ⟨hF, d2⟩
  obtain rfl : e = .returned (.int .i64 (j : Int)) := by
    rcases hF with ⟨i, i1, i2, i3, rfl⟩ | ⟨i1, -⟩
    · have : i = j := by
        rcases Nat.lt_trichotomy i j with q | q | q
        · exact absurd i2 (H1.out i q)
        · exact q
        · exact absurd HI.out (i3 j q)
      rw [this]
    · exact absurd HI.out (i1 j hj)
  have HH2 : Hid (Ranking w B v (some ⟨b, o, none⟩) m K R w2) := HH.out.grew d2
  have HH3 : Hid (Ranking w B v (some ⟨b, o, none⟩) m K R w2.drew) := HH.out.grew d2.drew
  obtain ⟨-, c1, -⟩ := HH2.out.frs.at j hj
  rw [hk] at c1
  have i1 : (j : Int) < (m : Int) := by omega
  clear hF d2 HH HI H1
  go_wp2_with fail
  refine (kind_any 2 _).mono ?_
  rintro e w3 ⟨rfl, rfl⟩
  clear HH2
  rw [show decide ((1 : Int) ≤ 2 ∧ (2 : Int) ≤ 3) = true from rfl]
  go_wp2_with fail
  refine wp_region_held (S := Ranking w B v (some ⟨b, o, none⟩) m K R) (by kernel_rfl) ?_
  change wpAnyH _ _ _ _ _ _ _ _ w3.drew
  have hr := HH3.out
  clear HH3 c1
  generalize w3.drew = w4 at *
  refine wpAnyH_take (i := 0) (v := .slice (some ⟨b, o, none⟩) m c) rfl (by kernel_rfl) (by kernel_rfl) (by kernel_rfl) (fun _ _ _ h => h) (Yields.yieldsIf (Or.inl ⟨by kernel_rfl, fun _ => by kernel_rfl⟩)) hr ?_
  refine wpAnyH_take (i := 1) (v := .int .i64 (j : Int)) rfl (by kernel_rfl) (by kernel_rfl) (by kernel_rfl) (fun _ _ _ h => h) (Yields.yieldsIf (Or.inl ⟨by kernel_rfl, fun _ => by kernel_rfl⟩)) hr ?_
  refine wpAnyH_take (i := 2) (v := .pointer (some ⟨b, o + j * 6, none⟩)) rfl (by kernel_rfl) (by kernel_rfl) (by kernel_rfl) (fun _ _ _ h => h) (Yields.yieldsIf (Or.inl ⟨by kernel_rfl, fun _ => by go_simp⟩)) hr ?_
  refine wpAnyH_take (i := 3) (v := .pointer (some ⟨b, o + j * 6 + 1, none⟩)) rfl (by kernel_rfl) (by kernel_rfl) (by kernel_rfl) (fun _ _ _ h => h) (Yields.yieldsIf (Or.inl ⟨by kernel_rfl, fun _ => by go_simp⟩)) hr ?_
  refine wpAnyH_take (i := 4) (v := .int .i64 2) rfl (by kernel_rfl) (by kernel_rfl) (by kernel_rfl) (fun _ _ _ h => h) (Or.inl ⟨by kernel_rfl, fun W hW => by have c1 := (hW.frs.at j hj).2.1; rw [hk] at c1; go_simp⟩) hr ?_
  refine wpAnyH_take (i := 6) (v := .slice (some ⟨b, o, none⟩) m c) rfl (by kernel_rfl) (by kernel_rfl) (by kernel_rfl) (fun _ _ _ h => h) (Yields.yieldsIf (Or.inl ⟨by kernel_rfl, fun _ => by kernel_rfl⟩)) hr ?_
  refine wpAnyH_take (i := 7) (v := .int .u32 v) rfl (by kernel_rfl) (by kernel_rfl) (by kernel_rfl) (fun _ _ _ h => h) (Or.inl ⟨by kernel_rfl, fun W hW => by have c1 := hW.id; go_simp⟩) hr ?_
  refine wpAnyH_ready (rs := [5]) (by kernel_rfl) (by simp) ?_
  refine AllReadyH.cons rfl (fun K2 hK2 => ?_) AllReadyH.nil
  go_simp
  refine Calls.mono (rway_2 _) ?_
  rintro e w5 ⟨rfl, d4⟩
  have hr := hr.grew d4
  refine hK2.out _ _ hr (fun hr => ?_)
  clear hK2 K2
  refine wpAnyH_ready (rs := [8]) (by kernel_rfl) (by simp) ?_
  refine AllReadyH.cons rfl (fun K2 hK2 => ?_) AllReadyH.nil
  go_simp
  refine Calls.mono (rankp_any _ _ _) ?_
  rintro e w6 ⟨rfl, rfl⟩
  refine hK2.out _ _ hr (fun hr => ?_)
  clear hK2 K2
  refine wpAnyH_take (i := 9) (v := .int .i64 1) rfl (by kernel_rfl) (by kernel_rfl) (by kernel_rfl) (fun _ _ _ h => h) (Yields.yieldsIf (Or.inl ⟨by kernel_rfl, fun _ => by kernel_rfl⟩)) hr ?_
  refine wpAnyH_take (i := 10) (v := .bool true) rfl (by kernel_rfl) (by kernel_rfl) (by kernel_rfl) (fun _ _ _ h => h) (Yields.yieldsIf (Or.inl ⟨by kernel_rfl, fun _ => by kernel_rfl⟩)) hr ?_
  refine wpAnyH_done (by kernel_rfl) ?_ _
  have HB : Hid (Below w.heap.size w w6) := hr.bel
  clear hr
  go_wp2
  go_ret2
  exact ⟨by rw [HA.out]; rfl, HB.out⟩

set_option maxRecDepth 100000 in
set_option maxHeartbeats 1000000 in
theorem of_3 (b o m c j : Nat) (K : Nat → Fr) (R : Nat → Nat → Int) (v : Int) (w : World) (hm : m ≤ 1000) (hj : j < m) (hid : ((K j).id : Int) = v) (h1 : ∀ q, q < j → ¬ ((K q).id : Int) = v) (hk : (K j).k = 3) (HK : FrsAt w (some ⟨b, o, none⟩) m K) (HR : RefsAll w m K R) :
    Calls Try.prog 16 #[.slice (some ⟨b, o, none⟩) m c, .int .u32 v] w (RankIs w m K R v) := by
  have hmf : ∀ (fn : Fn) (first cap : Array Value) (w : World), (Instr.makeFunc fn first cap).run Try.prog w = .ok (.func fn first cap) w := fun _ _ _ _ => rfl
  obtain ⟨x, hx⟩ : ∃ x : Int, x = if hangs m K R v = true then 2 else 3 := ⟨_, rfl⟩
  have HX : Hid (x = if hangs m K R v = true then 2 else 3) := hx
  have HA : Hid (rk m K R v = (x, true)) := by
    show rk m K R v = _
    unfold rk
    rw [rkFst_some hj hid h1]
    simp [hk, hx]
  have b1 := box_below w (.cells #[.int .u32 v] 23)
  have HH : Hid (Ranking w w.heap.size v (some ⟨b, o, none⟩) m K R (w.alloc (.cells #[.int .u32 v] 23))) := ⟨by rw [World.cell?_alloc_at _ _ _ _ rfl]; rfl, HK.grew b1, HR.grew b1, b1⟩
  have HI : Hid (((K j).id : Int) = v) := hid
  have H1 : Hid (∀ q, q < j → ¬ ((K q).id : Int) = v) := h1
  clear b1 HK HR hid h1 hx
  go_enter Try.func16, Try.ntmps16
  go_wp2_with fail
  generalize w.alloc (.cells #[.int .u32 v] 23) = w1 at *
  generalize w.heap.size = B at *
  refine (ofindex_any (some ⟨b, o, none⟩) m c K R B v _ hm HH.out.frs HH.out.refs HH.out.id).mono ?_
  rintro e w2 ⟨hF, d2⟩
  obtain rfl : e = .returned (.int .i64 (j : Int)) := by
    rcases hF with ⟨i, i1, i2, i3, rfl⟩ | ⟨i1, -⟩
    · have : i = j := by
        rcases Nat.lt_trichotomy i j with q | q | q
        · exact absurd i2 (H1.out i q)
        · exact q
        · exact absurd HI.out (i3 j q)
      rw [this]
    · exact absurd HI.out (i1 j hj)
  have HH2 : Hid (Ranking w B v (some ⟨b, o, none⟩) m K R w2) := HH.out.grew d2
  have HH3 : Hid (Ranking w B v (some ⟨b, o, none⟩) m K R w2.drew) := HH.out.grew d2.drew
  obtain ⟨-, c1, -⟩ := HH2.out.frs.at j hj
  rw [hk] at c1
  have i1 : (j : Int) < (m : Int) := by omega
  clear hF d2 HH HI H1
  go_wp2_with fail
  refine (kind_any 3 _).mono ?_
  rintro e w3 ⟨rfl, rfl⟩
  clear HH2
  rw [show decide ((1 : Int) ≤ 3 ∧ (3 : Int) ≤ 3) = true from rfl]
  go_wp2_with fail
  refine wp_region_held (S := Ranking w B v (some ⟨b, o, none⟩) m K R) (by kernel_rfl) ?_
  change wpAnyH _ _ _ _ _ _ _ _ w3.drew
  have hr := HH3.out
  clear HH3 c1
  generalize w3.drew = w4 at *
  refine wpAnyH_take (i := 0) (v := .slice (some ⟨b, o, none⟩) m c) rfl (by kernel_rfl) (by kernel_rfl) (by kernel_rfl) (fun _ _ _ h => h) (Yields.yieldsIf (Or.inl ⟨by kernel_rfl, fun _ => by kernel_rfl⟩)) hr ?_
  refine wpAnyH_take (i := 1) (v := .int .i64 (j : Int)) rfl (by kernel_rfl) (by kernel_rfl) (by kernel_rfl) (fun _ _ _ h => h) (Yields.yieldsIf (Or.inl ⟨by kernel_rfl, fun _ => by kernel_rfl⟩)) hr ?_
  refine wpAnyH_take (i := 2) (v := .pointer (some ⟨b, o + j * 6, none⟩)) rfl (by kernel_rfl) (by kernel_rfl) (by kernel_rfl) (fun _ _ _ h => h) (Yields.yieldsIf (Or.inl ⟨by kernel_rfl, fun _ => by go_simp⟩)) hr ?_
  refine wpAnyH_take (i := 3) (v := .pointer (some ⟨b, o + j * 6 + 1, none⟩)) rfl (by kernel_rfl) (by kernel_rfl) (by kernel_rfl) (fun _ _ _ h => h) (Yields.yieldsIf (Or.inl ⟨by kernel_rfl, fun _ => by go_simp⟩)) hr ?_
  refine wpAnyH_take (i := 4) (v := .int .i64 3) rfl (by kernel_rfl) (by kernel_rfl) (by kernel_rfl) (fun _ _ _ h => h) (Or.inl ⟨by kernel_rfl, fun W hW => by have c1 := (hW.frs.at j hj).2.1; rw [hk] at c1; go_simp⟩) hr ?_
  refine wpAnyH_take (i := 6) (v := .slice (some ⟨b, o, none⟩) m c) rfl (by kernel_rfl) (by kernel_rfl) (by kernel_rfl) (fun _ _ _ h => h) (Yields.yieldsIf (Or.inl ⟨by kernel_rfl, fun _ => by kernel_rfl⟩)) hr ?_
  refine wpAnyH_take (i := 7) (v := .int .u32 v) rfl (by kernel_rfl) (by kernel_rfl) (by kernel_rfl) (fun _ _ _ h => h) (Or.inl ⟨by kernel_rfl, fun W hW => by have c1 := hW.id; go_simp⟩) hr ?_
  refine wpAnyH_ready (rs := [5]) (by kernel_rfl) (by simp) ?_
  refine AllReadyH.cons rfl (fun K2 hK2 => ?_) AllReadyH.nil
  go_simp
  refine Calls.mono (rway_3 _) ?_
  rintro e w5 ⟨rfl, d4⟩
  have hr := hr.grew d4
  refine hK2.out _ _ hr (fun hr => ?_)
  clear hK2 K2
  refine wpAnyH_ready (rs := [8]) (by kernel_rfl) (by simp) ?_
  refine AllReadyH.cons rfl (fun K2 hK2 => ?_) AllReadyH.nil
  go_simp
  refine Calls.mono (rankb_any (some ⟨b, o, none⟩) m c K R v _ hm hr.frs hr.refs x HX.out) ?_
  rintro e w6 ⟨rfl, d5⟩
  have hr := hr.grew d5
  refine hK2.out _ _ hr (fun hr => ?_)
  clear hK2 K2
  refine wpAnyH_take (i := 9) (v := .int .i64 x) rfl (by kernel_rfl) (by kernel_rfl) (by kernel_rfl) (fun _ _ _ h => h) (Yields.yieldsIf (Or.inl ⟨by kernel_rfl, fun _ => by kernel_rfl⟩)) hr ?_
  refine wpAnyH_take (i := 10) (v := .bool true) rfl (by kernel_rfl) (by kernel_rfl) (by kernel_rfl) (fun _ _ _ h => h) (Yields.yieldsIf (Or.inl ⟨by kernel_rfl, fun _ => by kernel_rfl⟩)) hr ?_
  refine wpAnyH_done (by kernel_rfl) ?_ _
  have HB : Hid (Below w.heap.size w w6) := hr.bel
  clear hr
  go_wp2
  go_ret2
  exact ⟨by rw [HA.out]; rfl, HB.out⟩

set_option maxRecDepth 100000 in
set_option maxHeartbeats 1000000 in
theorem of_none (a : Option Addr) (m c : Nat) (K : Nat → Fr) (R : Nat → Nat → Int) (v : Int) (w : World) (hm : m ≤ 1000) (h1 : ∀ q, q < m → ¬ ((K q).id : Int) = v) (HK : FrsAt w a m K) (HR : RefsAll w m K R) :
    Calls Try.prog 16 #[.slice a m c, .int .u32 v] w (RankIs w m K R v) := by
  have hmf : ∀ (fn : Fn) (first cap : Array Value) (w : World), (Instr.makeFunc fn first cap).run Try.prog w = .ok (.func fn first cap) w := fun _ _ _ _ => rfl
  have b1 := box_below w (.cells #[.int .u32 v] 23)
  have HA : Hid (rk m K R v = (0, false)) := by
    show rk m K R v = _
    unfold rk
    rw [rkFst_none h1]
  have H1 : Hid (∀ q, q < m → ¬ ((K q).id : Int) = v) := h1
  clear h1
  have HH : Hid (Ranking w w.heap.size v a m K R (w.alloc (.cells #[.int .u32 v] 23))) := ⟨by rw [World.cell?_alloc_at _ _ _ _ rfl]; rfl, HK.grew b1, HR.grew b1, b1⟩
  clear b1 HK HR
  go_enter Try.func16, Try.ntmps16
  go_wp2_with fail
  generalize w.alloc (.cells #[.int .u32 v] 23) = w1 at *
  generalize w.heap.size = B at *
  refine (ofindex_any a m c K R B v _ hm HH.out.frs HH.out.refs HH.out.id).mono ?_
  rintro e w2 ⟨hF, d2⟩
  obtain rfl : e = .returned (.int .i64 (-1)) := by
    rcases hF with ⟨i, i1, i2, -, -⟩ | ⟨-, e⟩
    · exact absurd i2 (H1.out i i1)
    · exact e
  clear hF H1
  have HH2 : Hid (Ranking w B v a m K R w2) := HH.out.grew d2
  clear d2 HH
  have HB : Hid (Below w.heap.size w w2) := HH2.out.bel
  clear HH2
  go_wp2
  go_ret2
  exact ⟨by rw [HA.out]; rfl, HB.out⟩

set_option maxRecDepth 100000 in
set_option maxHeartbeats 1000000 in
theorem of_bad (a : Option Addr) (m c : Nat) (K : Nat → Fr) (R : Nat → Nat → Int) (v : Int) (w : World) (hm : m ≤ 1000) (j : Nat) (hj : j < m) (hid : ((K j).id : Int) = v) (h1 : ∀ q, q < j → ¬ ((K q).id : Int) = v) (hk : ¬ (1 ≤ (K j).k ∧ (K j).k ≤ 3)) (HK : FrsAt w a m K) (HR : RefsAll w m K R) :
    Calls Try.prog 16 #[.slice a m c, .int .u32 v] w (RankIs w m K R v) := by
  have hmf : ∀ (fn : Fn) (first cap : Array Value) (w : World), (Instr.makeFunc fn first cap).run Try.prog w = .ok (.func fn first cap) w := fun _ _ _ _ => rfl
  have b1 := box_below w (.cells #[.int .u32 v] 23)
  have HA : Hid (rk m K R v = (0, false)) := by
    show rk m K R v = _
    unfold rk
    rw [rkFst_some hj hid h1]
    have n1 : ¬ (K j).k = 1 := by omega
    have n2 : ¬ (K j).k = 2 := by omega
    have n3 : ¬ (K j).k = 3 := by omega
    simp [n1, n2, n3]
  have HI : Hid (((K j).id : Int) = v) := hid
  have H1 : Hid (∀ q, q < j → ¬ ((K q).id : Int) = v) := h1
  clear hid h1
  obtain ⟨b, o, rfl⟩ := HK.addr (by omega)
  have HH : Hid (Ranking w w.heap.size v (some ⟨b, o, none⟩) m K R (w.alloc (.cells #[.int .u32 v] 23))) := ⟨by rw [World.cell?_alloc_at _ _ _ _ rfl]; rfl, HK.grew b1, HR.grew b1, b1⟩
  clear b1 HK HR
  go_enter Try.func16, Try.ntmps16
  go_wp2_with fail
  generalize w.alloc (.cells #[.int .u32 v] 23) = w1 at *
  generalize w.heap.size = B at *
  refine (ofindex_any (some ⟨b, o, none⟩) m c K R B v _ hm HH.out.frs HH.out.refs HH.out.id).mono ?_
  rintro e w2 ⟨hF, d2⟩
  obtain rfl : e = .returned (.int .i64 (j : Int)) := by
    rcases hF with ⟨i, i1, i2, i3, rfl⟩ | ⟨i1, -⟩
    · have : i = j := by
        rcases Nat.lt_trichotomy i j with q | q | q
        · exact absurd i2 (H1.out i q)
        · exact q
        · exact absurd HI.out (i3 j q)
      rw [this]
    · exact absurd HI.out (i1 j hj)
  clear hF H1 HI
  have HH2 : Hid (Ranking w B v (some ⟨b, o, none⟩) m K R w2) := HH.out.grew d2
  clear d2 HH
  obtain ⟨-, c1, -⟩ := HH2.out.frs.at j hj
  have i1 : (j : Int) < (m : Int) := by omega
  go_wp2_with fail
  refine (kind_any _ _).mono ?_
  rintro e w3 ⟨rfl, rfl⟩
  rw [show decide (1 ≤ (K j).k ∧ (K j).k ≤ 3) = false by simpa using hk]
  clear hk
  have HB : Hid (Below w.heap.size w w3) := HH2.out.bel
  clear HH2
  go_wp2
  go_ret2
  exact ⟨by rw [HA.out]; rfl, HB.out⟩
theorem fst_some {m : Nat} {K : Nat → Fr} {v : Int} {j : Nat} (h : rkFst m K v = some j) : j < m ∧ ((K j).id : Int) = v ∧ ∀ q, q < j → ¬ ((K q).id : Int) = v := by
  unfold rkFst at h
  rw [List.find?_range_eq_some] at h
  obtain ⟨h1, h2, h3⟩ := h
  exact ⟨by simpa using h2, by simpa using h1, fun q hq => by simpa using h3 q hq⟩
theorem fst_none {m : Nat} {K : Nat → Fr} {v : Int} (h : rkFst m K v = none) : ∀ q, q < m → ¬ ((K q).id : Int) = v := by
  unfold rkFst at h
  rw [List.find?_range_eq_none] at h
  exact fun q hq => by simpa using h q hq
theorem of_any (a : Option Addr) (m c : Nat) (K : Nat → Fr) (R : Nat → Nat → Int) (v : Int) (w : World) (hm : m ≤ 1000) (HK : FrsAt w a m K) (HR : RefsAll w m K R) :
    Calls Try.prog 16 #[.slice a m c, .int .u32 v] w (RankIs w m K R v) := by
  cases hf : rkFst m K v with
  | none => exact of_none a m c K R v w hm (fst_none hf) HK HR
  | some j =>
    obtain ⟨hj, hid, h1⟩ := fst_some hf
    by_cases hk : 1 ≤ (K j).k ∧ (K j).k ≤ 3
    · obtain ⟨b, o, rfl⟩ := HK.addr (by omega)
      have e : (K j).k = 1 ∨ (K j).k = 2 ∨ (K j).k = 3 := by omega
      rcases e with e | e | e
      · exact of_1 b o m c j K R v w hm hj hid h1 e HK HR
      · exact of_2 b o m c j K R v w hm hj hid h1 e HK HR
      · exact of_3 b o m c j K R v w hm hj hid h1 e HK HR
    · exact of_bad a m c K R v w hm j hj hid h1 hk HK HR
end Go.Proofs.Ytmbpfdnadjemcaa
