/-
  The document's Rank, Worse.
-/
import Derived.Test.YtmbpfdnadjemcaaRnk
import Derived.Test.YtmbpfdnadjemcaaFrf
namespace Go.Proofs.Ytmbpfdnadjemcaa
open Go.RowKit Go.Deep

set_option maxRecDepth 100000 in
set_option maxHeartbeats 1000000 in
theorem rworse_any (a b : Wt) (w : World) : Calls Try.prog 19 #[a.val, b.val] w fun e w' => e = .returned (.bool (a.worse b)) ∧ Below w.heap.size w w' := by
  obtain ⟨x0, e0⟩ : ∃ x, w.alloc (.cells #[.int .u32 a.id, .int .i64 a.r, .int .i64 a.b] 40) = x := ⟨_, rfl⟩
  obtain ⟨x1, e1⟩ : ∃ x, x0.alloc (.cells #[.int .u32 b.id, .int .i64 b.r, .int .i64 b.b] 40) = x := ⟨_, rfl⟩
  have B0 : Below w.heap.size w x0 := e0 ▸ box_below w _
  have B1 : Below x0.heap.size x0 x1 := e1 ▸ box_below x0 _
  have A0 : WtAt x0 w.heap.size a := e0 ▸ WtAt.made w _ a
  have A1 : WtAt x1 x0.heap.size b := e1 ▸ WtAt.made x0 _ b
  have HB : Hid (Below w.heap.size w x1) := B0.trans (B1.mono B0.size)
  obtain ⟨q0, q1, q2⟩ := A0.grew B1
  obtain ⟨r0, r1, r2⟩ := A1
  clear B0 B1 A0
  unfold Wt.val
  by_cases h1 : b.r < a.r
  · have W : Hid (a.worse b = true) := by show a.worse b = true; simp [Wt.worse, h1]
    go_enter Try.func19, Try.ntmps19
    go_wp2
    go_ret
    exact ⟨by rw [W.out]; rfl, HB.out⟩
  have i1 : decide (b.r < a.r) = false := by simp; omega
  by_cases h2 : a.r = b.r
  · have W : Hid (a.worse b = decide (b.id < a.id)) := by show a.worse b = _; simp [Wt.worse, h2]
    have i2 : (a.r == b.r) = true := by simp [h2]
    clear h1 h2
    go_enter Try.func19, Try.ntmps19
    go_wp2
    go_ret
    exact ⟨by rw [W.out]; rfl, HB.out⟩
  · have W : Hid (a.worse b = false) := by show a.worse b = _; simp [Wt.worse, h2]; omega
    have i2 : (a.r == b.r) = false := by simpa using h2
    clear h1 h2
    go_enter Try.func19, Try.ntmps19
    go_wp2
    go_ret
    exact ⟨by rw [W.out]; rfl, HB.out⟩

set_option maxRecDepth 100000 in
set_option maxHeartbeats 1000000 in
theorem rin_any (a : Option Addr) (n c : Nat) (x : Nat → Int) (v : Int) (w : World) (hn : n ≤ 1000) (hx : Hid (NumsAt .u32 w a n x)) :
    Calls Try.prog 33 #[.slice a n c, .int .u32 v] w (Tells w (∃ j, j < n ∧ x j = v)) := by
  go_enter Try.func33, Try.ntmps33
  go_wp2_with fail
  go_loopw [5] (fun i wr => ∃ k : Nat, k ≤ n ∧ i = .int .i64 k ∧ Hid (∀ j, j < k → x j ≠ v) ∧ wr = w) (fun i _ => n - (intOf i).toNat)
  case atStart => exact ⟨0, Nat.zero_le _, rfl, fun j hj => absurd hj (by omega), rfl⟩
  case round =>
    obtain ⟨k, hk, rfl, hl, rfl⟩ := hrel
    by_cases hkn : k < n
    · obtain ⟨b, o, rfl, hc⟩ := hx.out (by omega)
      have c1 := hc k hkn
      have i1 : (k : Int) < (n : Int) := by omega
      clear hc
      by_cases hv : x k = v
      · have HF : Hid (∃ j, j < n ∧ x j = v) := ⟨k, hkn, hv⟩
        clear hl
        rw [hv] at c1
        clear hv
        go_wp2
        go_ret
        exact ⟨Below.refl _ _, true, rfl, iff_of_true rfl HF.out⟩
      · have HL : Hid (∀ j, j < k + 1 → x j ≠ v) := fun j hj => by
          by_cases e : j = k
          · subst e; exact hv
          · exact hl.out j (by omega)
        have e1 : (x k == v) = false := by simpa using hv
        clear hl hv
        generalize x k = y at *
        go_wp2_with fail
        go_roundw
        case rel => exact ⟨k + 1, by omega, by go_num, HL, trivial⟩
        case measure => simp [intOf]; omega
    · have hke : k = n := by omega
      subst hke
      have HF : Hid (¬ ∃ j, j < k ∧ x j = v) := fun ⟨j, h1, h2⟩ => hl.out j h1 h2
      clear hl
      have i1 : decide ((k : Int) < (k : Int)) = false := by simp
      go_wp2
      go_ret
      exact ⟨Below.refl _ _, false, rfl, iff_of_false (by decide) HF.out⟩

set_option maxRecDepth 100000 in
set_option maxHeartbeats 1000000 in
theorem rrank_any (a : Option Addr) (m c : Nat) (K : Nat → Fr) (R : Nat → Nat → Int) (v : Int) (w : World) (hm : m ≤ 1000) (HK : Hid (FrsAt w a m K)) (HR : Hid (RefsAll w m K R)) :
    Calls Try.prog 17 #[.slice a m c, .int .u32 v] w (RankIs w m K R v) := by
  go_enter Try.func17, Try.ntmps17
  go_wp2_with fail
  refine (rfind_any a m c K v w hm HK).mono ?_
  rintro e w1 ⟨b1, g, is, rfl, hG⟩
  obtain ⟨y0, e0⟩ : ∃ x, w1.alloc (.cells #[.int .u32 (g.id : Int), .int .i64 g.k, .slice g.a g.n g.c, .int .i64 g.s, .int .i64 g.p, .int .i64 g.d] 26) = x := ⟨_, rfl⟩
  have B0 : Below w1.heap.size w1 y0 := e0 ▸ box_below w1 _
  have F0 : FrAt y0 w1.heap.size g := e0 ▸ FrAt.made w1 _ g
  have HB : Hid (Below w.heap.size w y0) := b1.trans (B0.mono b1.size)
  have HF : Hid (FrAt y0 w1.heap.size g) := F0
  clear F0 B0 b1
  unfold Fr.val
  rcases hG with ⟨rfl, j, hj, hid, hg, h1⟩ | ⟨rfl, h1⟩
  case inr =>
    have HA : Hid (rk m K R v = (0, false)) := by
      show rk m K R v = _
      unfold rk
      rw [rkFst_none h1]
    clear h1
    obtain ⟨f0, f1, f2, f3, f4, f5, -⟩ := HF.out
    go_wp2
    go_ret2
    exact ⟨by rw [HA.out]; rfl, HB.out⟩
  have HA : Hid (rk m K R v = if g.k = 1 then (0, true) else if g.k = 2 then (1, true) else if g.k = 3 then (if hangs m K R v = true then 2 else 3, true) else (0, false)) := by
    show rk m K R v = _
    unfold rk
    rw [rkFst_some hj hid h1, hg]
  clear h1 hid hg
  obtain ⟨f0, f1, f2, f3, f4, f5, -⟩ := HF.out
  by_cases k1 : g.k < 1
  · have HA : Hid (rk m K R v = (0, false)) := by
      show rk m K R v = _
      rw [HA.out, if_neg (by omega), if_neg (by omega), if_neg (by omega)]
    go_wp2
    go_ret2
    exact ⟨by rw [HA.out]; rfl, HB.out⟩
  have i1 : decide (g.k < 1) = false := by simp; omega
  by_cases k3 : 3 < g.k
  · have HA : Hid (rk m K R v = (0, false)) := by
      show rk m K R v = _
      rw [HA.out, if_neg (by omega), if_neg (by omega), if_neg (by omega)]
    go_wp2
    go_ret2
    exact ⟨by rw [HA.out]; rfl, HB.out⟩
  have i3 : decide (3 < g.k) = false := by simp; omega
  by_cases q1 : g.k = 1
  · have HA : Hid (rk m K R v = (0, true)) := by
      show rk m K R v = _
      rw [HA.out, if_pos q1]
    have i4 : (g.k == 1) = true := by simp [q1]
    clear k1 k3 q1
    go_wp2
    go_ret2
    exact ⟨by rw [HA.out]; rfl, HB.out⟩
  have i4 : (g.k == 1) = false := by simpa using q1
  by_cases q2 : g.k = 2
  · have HA : Hid (rk m K R v = (1, true)) := by
      show rk m K R v = _
      rw [HA.out, if_neg q1, if_pos q2]
    have i5 : (g.k == 2) = true := by simp [q2]
    clear k1 k3 q1 q2
    go_wp2
    go_ret2
    exact ⟨by rw [HA.out]; rfl, HB.out⟩
  have i5 : (g.k == 2) = false := by simpa using q2
  have HA : Hid (rk m K R v = (if hangs m K R v = true then 2 else 3, true)) := by
    show rk m K R v = _
    rw [HA.out, if_neg q1, if_neg q2, if_pos (by omega)]
  clear k1 k3 q1 q2
  have HKy : Hid (FrsAt y0 a m K) := HK.out.below HB.out (Nat.le_refl _)
  have HRy : Hid (RefsAll y0 m K R) := HR.out.grew HB.out
  clear HK HR
  go_wp2_with fail
  clear f0 f1 f2 f3 f4 f5 i1 i3 i4 i5 e0
  generalize w1.heap.size = N at *
  go_loopw [8] (fun i wr => ∃ k : Nat, k ≤ m ∧ i = .int .i64 k ∧ Hid (∀ j, j < k → ¬ has (K j) (R j) v) ∧ Hid (Below y0.heap.size y0 wr)) (fun i _ => m - (intOf i).toNat)
  case atStart => exact ⟨0, Nat.zero_le _, rfl, fun j hj => absurd hj (by omega), Below.refl _ _⟩
  case round =>
    obtain ⟨k, hk, rfl, hl, hb⟩ := hrel
    by_cases hkn : k < m
    · obtain ⟨b, o, rfl⟩ := HKy.out.addr (by omega)
      obtain ⟨-, -, t2, -⟩ := (HKy.out.grew hb.out).at k hkn
      have i1 : (k : Int) < (m : Int) := by omega
      have hr := (HRy.out.grew hb.out) k hkn
      go_wp2_with fail
      refine (rin_any (K k).a (K k).n (K k).c (R k) v _ hr.len hr.nums).mono ?_
      rintro e w3 ⟨b3, t, rfl, ht⟩
      have HB3 : Hid (Below y0.heap.size y0 w3) := hb.out.trans (b3.mono hb.out.size)
      clear b3 hr t2 hb
      cases t with
      | true =>
        have HA : Hid (rk m K R v = (2, true)) := by
          show rk m K R v = _
          rw [HA.out, if_pos ((hangs_iff m K R v).2 ⟨k, hkn, ht.1 rfl⟩)]
        have HB : Hid (Below w.heap.size w w3) := HB.out.trans (HB3.out.mono HB.out.size)
        clear ht hl
        go_wp2
        go_ret2
        exact ⟨by rw [HA.out]; rfl, HB.out⟩
      | false =>
        have HL : Hid (∀ j, j < k + 1 → ¬ has (K j) (R j) v) := fun j hj => by
          by_cases e : j = k
          · subst e; exact fun x => absurd (ht.2 x) (by decide)
          · exact hl.out j (by omega)
        clear hl ht
        go_wp2_with fail
        go_roundw
        case rel => exact ⟨k + 1, by omega, by go_num, HL, HB3⟩
        case measure => simp [intOf]; omega
    · have hke : k = m := by omega
      subst hke
      have HA : Hid (rk k K R v = (3, true)) := by
        show rk k K R v = _
        rw [HA.out, if_neg (fun h => by obtain ⟨j, h1, h2⟩ := (hangs_iff k K R v).1 h; exact hl.out j h1 h2)]
      have HB : Hid (Below w.heap.size w wr) := HB.out.trans (hb.out.mono HB.out.size)
      have i1 : decide ((k : Int) < (k : Int)) = false := by simp
      clear hl
      go_wp2
      go_ret2
      exact ⟨by rw [HA.out]; rfl, HB.out⟩
end Go.Proofs.Ytmbpfdnadjemcaa
