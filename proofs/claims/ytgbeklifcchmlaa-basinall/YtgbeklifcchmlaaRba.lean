/-
  The document's Basin: what it refuses; Missing, Bytes; Payload of any rows. What stays of it while the program's goes on.
-/
import Derived.Test.YtgbeklifcchmlaaRbn
namespace Go.Proofs.Ytgbeklifcchmlaa
open Go.RowKit Go.Deep

set_option maxRecDepth 100000 in
set_option maxHeartbeats 400000 in
theorem rbasin_no (f n s : Int) (w : World) (hno : ¬ (1 ≤ s ∧ s ≤ 64 ∧ 1 ≤ n ∧ n ≤ 32 * s)) :
    Calls Try.prog 11 #[.int .u32 f, .int .i64 n, .int .i64 s] w fun e w' => e = .returned (.tuple #[.pointer none, .bool false]) ∧ w' = w := by
  have HN : Hid (¬ (1 ≤ s ∧ s ≤ 64 ∧ 1 ≤ n ∧ n ≤ 32 * s)) := hno
  clear hno
  go_enter Try.func11, Try.ntmps11
  go_wp2_with fail
  refine (rcount_no n s _ HN.out).mono ?_
  rintro e w1 ⟨rfl, hw⟩
  have hw := hw.symm
  subst hw
  go_wp2
  go_ret2
  exact ⟨rfl, rfl⟩

set_option maxRecDepth 100000 in
set_option maxHeartbeats 1000000 in
theorem rbadd_dice (N D R f n k s d : Nat) (z : Int) (V : Nat → Nat → Nat) (v : Value) (w : World) (hN : BsnAt w N D f n s) (h : RefAt w D R k s d V) (hno : ¬ (0 ≤ z ∧ z < (k : Int) + 64)) :
    Calls Try.prog 18 #[.pointer (some ⟨N, 0, none⟩), .int .i64 z, v] w fun e w' => e = .returned (.bool false) ∧ Same w w' := by
  have n0 := hN.fr
  have n3 := hN.ba
  have kc := h.kc
  have HN : Hid (¬ (1 ≤ (k : Int) ∧ (k : Int) ≤ 32 ∧ 0 ≤ z ∧ z < (k : Int) + 64)) := fun g => hno ⟨g.2.2.1, g.2.2.2⟩
  clear hN h hno
  go_enter Try.func18, Try.ntmps18
  go_wp2_with fail
  go_quiet ((go_at_call 25; exact Calls.quiet_of_same (rrow_no f z k _ HN.out)))
  go_wp2
  go_ret
  exact ⟨rfl, nq, rfl⟩

set_option maxRecDepth 100000 in
set_option maxHeartbeats 1000000 in
theorem rbadd_len (N D R f n k s d id m c : Nat) (V : Nat → Nat → Nat) (a : Option Addr) (w : World) (hN : BsnAt w N D f n s) (h : RefAt w D R k s d V) (hf : f < 4294967296) (k1 : 1 ≤ k) (k2 : k ≤ 32) (hi : id < k + 64) (hm : m ≠ s) :
    Calls Try.prog 18 #[.pointer (some ⟨N, 0, none⟩), .int .i64 (id : Int), .slice a m c] w fun e w' => e = .returned (.bool false) ∧ Below w.heap.size w w' := by
  have n0 := hN.fr
  have n3 := hN.ba
  have kc := h.kc
  have HN : Hid (BsnAt w N D f n s) := hN
  have HH : Hid (RefAt w D R k s d V) := h
  have HM : Hid (k ≠ k ∨ m ≠ s) := Or.inr hm
  clear hN h hm
  go_enter Try.func18, Try.ntmps18
  go_wp2_with fail
  go_region_with (go_at_call 25; refine (rrow_yes f id k _ hf k1 k2 hi).mono ?_; rintro e w1 ⟨r, rfl, -, B1, b1⟩; have bb : Below w.heap.size w w1 := (by first | exact b1 | exact (below_drews _).trans b1); clear b1 B1)
  all_goals
    have N1 := (HN.out.grew bb).ba
    have H1 : Hid (RefAt w1 D R k s d V) := HH.out.grew bb
    have HB : Hid (Below w.heap.size w w1) := bb
    clear n0 n3 kc bb HN HH
    go_wp2_with fail
    refine (radd_no D R k s d k m k c V _ _ _ H1.out HM.out).mono ?_
    rintro e w2 ⟨rfl, hw⟩
    have hw := hw.symm
    subst hw
    clear H1
    go_wp2
    go_ret
    exact ⟨rfl, HB.out⟩

set_option maxRecDepth 100000 in
set_option maxHeartbeats 400000 in
theorem rbmiss (N D R f n k s d : Nat) (V : Nat → Nat → Nat) (w : World) (hN : BsnAt w N D f n s) (h : RefAt w D R k s d V) (hd : d ≤ k) (k2 : k ≤ 32) :
    Calls Try.prog 19 #[.pointer (some ⟨N, 0, none⟩)] w fun e w' => e = .returned (.int .i64 ((k - d : Nat) : Int)) ∧ Same w w' := by
  have n3 := hN.ba
  have kc := h.kc
  obtain ⟨va, p1, p2, -⟩ := h.rows
  obtain ⟨ra, cva, rfl⟩ := p2.form
  clear hN h p2
  go_enter Try.func19, Try.ntmps19
  go_wp2_with fail
  go_quiet (fail)
  go_wp2
  go_ret
  exact ⟨ret_int (by omega), nq, rfl⟩

set_option maxRecDepth 100000 in
set_option maxHeartbeats 400000 in
theorem rbbytes (N D R f n k s d : Nat) (V : Nat → Nat → Nat) (w : World) (hN : BsnAt w N D f n s) (h : RefAt w D R k s d V) (k2 : k ≤ 32) (s2 : s ≤ 64) :
    Calls Try.prog 20 #[.pointer (some ⟨N, 0, none⟩)] w fun e w' => e = .returned (.int .i64 ((k * s : Nat) : Int)) ∧ Same w w' := by
  have n3 := hN.ba
  have n2 := hN.sy
  have kc := h.kc
  have hm := mul_fits k s (k * s) rfl (Nat.le_trans (Nat.mul_le_mul k2 s2) (by decide))
  clear hN h
  generalize k * s = m at *
  go_enter Try.func20, Try.ntmps20
  go_wp2_with fail
  go_quiet (fail)
  go_wp2
  go_ret
  exact ⟨rfl, nq, rfl⟩

/-- The text was answered: what the rows say, brought into steps anew. -/
def PayGot (w : World) (n s k : Nat) (V : Nat → Nat → Nat) (e : Ending) (w' : World) : Prop :=
  ∃ (m : Nat) (Vr : Nat → Nat → Nat) (T : Nat → Option (Nat → Nat)), Stg k k m V Vr T ∧ Got w n (joined (fun i t => Vr i (k + t)) s) e w'

set_option maxRecDepth 100000 in
set_option maxHeartbeats 400000 in
theorem rpay_got (N D R f n k s : Nat) (V : Nat → Nat → Nat) (w : World) (hN : BsnAt w N D f n s) (h : RefAt w D R k s k V) (hV : ∀ t, t < k → Byt (V t)) (k1 : 1 ≤ k) (k2 : k ≤ 32) (s1 : 1 ≤ s) (s2 : s ≤ 64) (n1 : 1 ≤ n) (n2 : n ≤ 32 * s) (hk : cntOf n s = k) :
    Calls Try.prog 22 #[.pointer (some ⟨N, 0, none⟩)] w fun e w' => PayGot w n s k V e w' := by
  have n3 := hN.ba
  have HN : Hid (BsnAt w N D f n s) := hN
  have HK : Hid (cntOf n s = k) := hk
  clear hN hk
  go_enter Try.func22, Try.ntmps22
  go_wp2_with fail
  refine (rsolve_yes D R k s k V _ h (Nat.le_refl _) hV k1 k2 s1 s2 (by omega)).mono ?_
  rintro e w1 ⟨gb, cb, m, Vr, T, rfl, st, L1, b1⟩
  obtain ⟨BC, hBC⟩ : ∃ BC : Nat → Nat × Nat, ∀ i, i < k → w1.cell? ⟨gb, i, none⟩ = some (.slice (some ⟨(BC i).1, 0, none⟩) s (BC i).2) ∧ BytesAt w1 (some ⟨(BC i).1, 0, none⟩) s (fun t => Vr i (k + t)) :=
    choose_lt (p := fun i (q : Nat × Nat) => w1.cell? ⟨gb, i, none⟩ = some (.slice (some ⟨q.1, 0, none⟩) s q.2) ∧ BytesAt w1 (some ⟨q.1, 0, none⟩) s (fun t => Vr i (k + t))) fun i hi => by
      obtain ⟨b, c, h1, h2, -⟩ := L1.at i hi
      exact ⟨(b, c), h1, h2⟩
  have HL : Hid (∀ i, i < k → w1.cell? ⟨gb, 0 + i, none⟩ = some (.slice (some ⟨(BC i).1, 0, none⟩) s (BC i).2) ∧ BytesAt w1 (some ⟨(BC i).1, 0, none⟩) s (fun t => Vr i (k + t))) := fun i hi => by rw [Nat.zero_add]; exact hBC i hi
  have n2' := (HN.out.grew b1).sz
  have HB : Hid (Below w.heap.size w w1) := b1
  have HS : Hid (Stg k k m V Vr T) := st
  clear h hV st L1 b1 hBC n3 HN
  go_wp2_with fail
  refine (rjoin_lists gb 0 k cb _ (fun _ => s) _ (fun i t => Vr i (k + t)) n _ HL.out k1 (by omega) (fun _ _ => by omega)).mono ?_
  rintro e w2 ⟨hg, -⟩
  obtain ⟨a2, c2, rfl, B2, b2⟩ := hg ⟨k1, fun _ _ => rfl, ⟨s1, s2, by omega, by show (n : Int) ≤ 32 * (s : Int); omega⟩, by rw [Int.toNat_natCast]; exact HK.out⟩
  rw [Int.toNat_natCast] at B2 ⊢
  have HB2 : Hid (BytesAt w2 a2 n (joined (fun i t => Vr i (k + t)) s)) := B2
  have HW : Hid (Below w.heap.size w w2) := HB.out.trans (b2.mono HB.out.size)
  clear B2 b2 HL
  go_wp2
  go_ret2
  exact ⟨m, Vr, T, HS.out, _, _, rfl, HB2.out, HW.out⟩

/-- It lies apart from what is made behind it. -/
theorem RefAt.other {w : World} {D R R' k size d : Nat} {V : Nat → Nat → Nat} (h : RefAt w D R k size d V) (hR : w.heap.size ≤ R') : RefAt w D R' k size d V := by
  obtain ⟨va, a1, a2, a3, a4, -⟩ := h.rows
  obtain ⟨vb, b1, b2, b3, b4, -⟩ := h.data
  exact ⟨h.kc, h.sc, ⟨va, a1, a2, a3, a4, fun e => by have := (a2.lt _ e).2; omega⟩, ⟨vb, b1, b2, b3, b4, fun e => by have := (b2.lt _ e).2; omega⟩, h.thaw⟩
/-- It stays as it is while a Basis of the program's goes on that it lies apart from. -/
theorem RefAt.keep {w w' : World} {D R R' k size d : Nat} {V : Nat → Nat → Nat} (h : RefAt w D R' k size d V) (hR : RefAt w D R k size d V) (hk : Kept R w w') (ha : Apart w R) (k1 : 0 < k) (s1 : 0 < size) : RefAt w' D R' k size d V := by
  obtain ⟨va, a1, a2, a3, a4, a5⟩ := h.rows
  obtain ⟨vb, b1, b2, b3, b4, b5⟩ := h.data
  have h' := hR.kept hk ha k1 s1
  obtain ⟨va', c1, c2, c3, c4, c5⟩ := h'.rows
  obtain ⟨vb', d1, d2, d3, d4, d5⟩ := h'.data
  have hD : D ≠ R := ha _ _ _ _ h.kc
  have e1 := hk.cell a1 hD
  rw [c1] at e1
  cases e1
  have e2 := hk.cell b1 hD
  rw [d1] at e2
  cases e2
  exact ⟨h'.kc, h'.sc, ⟨_, c1, c2, c3, c4, a5⟩, ⟨_, d1, d2, d3, d4, b5⟩, h'.thaw⟩
theorem BsnAt.keptR {w w' : World} {N D f n s R : Nat} (h : BsnAt w N D f n s) (hk : Kept R w w') (ha : Apart w R) : BsnAt w' N D f n s := by
  have hne : N ≠ R := ha _ _ _ _ h.fr
  exact ⟨hk.cell h.fr hne, hk.cell h.sz hne, hk.cell h.sy hne, hk.cell h.ba hne⟩
end Go.Proofs.Ytgbeklifcchmlaa
