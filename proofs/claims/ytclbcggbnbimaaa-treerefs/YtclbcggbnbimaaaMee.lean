/-
  Package tree: who is known, by ID; on whom one hangs directly.
-/
import Derived.Test.YtclbcggbnbimaaaMpi
import Derived.Test.YtclbcggbnbimaaaGrf
namespace Go.Proofs.Ytclbcggbnbimaaa
open Go.RowKit Go.Deep

/-- The place of an ID. -/
def plc (K : Nat → Fr) : Nat → Nat → Option Nat
  | 0, _ => none
  | i + 1, x => if x = (K i).id then some i else plc K i x
theorem plc_some {K : Nat → Fr} {x q : Nat} : ∀ m, plc K m x = some q → q < m ∧ (K q).id = x
  | 0, h => by cases h
  | m + 1, h => by
    unfold plc at h
    split at h
    · cases h
      exact ⟨Nat.lt_succ_self _, by omega⟩
    · have := plc_some m h
      exact ⟨by omega, this.2⟩
theorem plc_none {K : Nat → Fr} {x : Nat} : ∀ m, plc K m x = none → ∀ q, q < m → (K q).id ≠ x
  | 0, _, q, hq => absurd hq (Nat.not_lt_zero q)
  | m + 1, h, q, hq => by
    unfold plc at h
    split at h
    · cases h
    · by_cases e : q = m
      · subst e; omega
      · exact plc_none m h q (by omega)
theorem plc_at {K : Nat → Fr} {m q : Nat} (h : Rise K m) (hq : q < m) : plc K m (K q).id = some q := by
  cases e : plc K m (K q).id with
  | none => exact absurd rfl (plc_none m e q hq)
  | some p =>
    obtain ⟨h1, h2⟩ := plc_some m e
    rw [h.eq h1 hq h2]
theorem plc_new {K : Nat → Fr} {m k : Nat} (h : Rise K m) (hk : k < m) : plc K k (K k).id = none := by
  cases e : plc K k (K k).id with
  | none => rfl
  | some p =>
    obtain ⟨h1, h2⟩ := plc_some k e
    have := h p k h1 hk
    omega
/-- What meet answers. -/
def MeetIs (w : World) (a : Option Addr) (m c : Nat) (K : Nat → Fr) (e : Ending) (w' : World) : Prop :=
  Below w.heap.size w w' ∧ ∃ b k, e = .returned (.agg #[.slice a m c, .map (some b)]) ∧ w.heap.size ≤ b ∧ b < w'.heap.size ∧ IdxAt w' b k (plc K m)

set_option maxRecDepth 100000 in
set_option maxHeartbeats 1000000 in
theorem meet_any (a : Option Addr) (m c : Nat) (K : Nat → Fr) (w : World) (hm : m ≤ 1000) (HR : Hid (Rise K m)) (HI : Hid (∀ q, q < m → (K q).id < 4294967296)) (HK : Hid (FrsAt w a m K)) :
    Calls Try.prog 16 #[.slice a m c] w (MeetIs w a m c K) := by
  have hmm := make_hint (m : Int)
  obtain ⟨x0, e0⟩ : ∃ x, w.alloc (.cells #[.slice none 0 0, .map none] 44) = x := ⟨_, rfl⟩
  obtain ⟨x1, e1⟩ : ∃ x, x0.alloc (.map #[] 0) = x := ⟨_, rfl⟩
  have B0 : Below w.heap.size w x0 := e0 ▸ box_below w _
  have B1 : Below x0.heap.size x0 x1 := e1 ▸ box_below x0 _
  have s0 : x0.heap.size = w.heap.size + 1 := by rw [← e0]; simp
  have HB1 : Hid (Below w.heap.size w x1) := B0.trans (B1.mono B0.size)
  have c0 : x0.cell? ⟨w.heap.size, 0, none⟩ = some (.slice none 0 0) := by rw [← e0, World.cell?_alloc_at _ _ _ _ rfl]; rfl
  have c1 : x0.cell? ⟨w.heap.size, 1, none⟩ = some (.map none) := by rw [← e0, World.cell?_alloc_at _ _ _ _ rfl]; rfl
  have z0 : ∀ i, x0.frozen? ⟨w.heap.size, i, none⟩ = false := fun i => by rw [← e0, World.frozen?_alloc_at _ _ _ _ rfl]
  have HC : Hid (x1.cell? ⟨w.heap.size, 0, none⟩ = some (.slice none 0 0) ∧ x1.cell? ⟨w.heap.size, 1, none⟩ = some (.map none) ∧ ∀ i, x1.frozen? ⟨w.heap.size, i, none⟩ = false) :=
    ⟨(B1.cell (p := ⟨w.heap.size, 0, none⟩) (by show w.heap.size < _; omega)).trans c0, (B1.cell (p := ⟨w.heap.size, 1, none⟩) (by show w.heap.size < _; omega)).trans c1, fun i => (World.frozen?_of_block (a := ⟨w.heap.size, i, none⟩) (B1.block w.heap.size (by omega))).trans (z0 i)⟩
  have HM : Hid (IdxAt x1 (w.heap.size + 1) 0 (plc K 0)) := by
    have q := IdxAt.made x0
    rw [e1, s0] at q
    exact q
  have hs : Hid (x1.heap.size = w.heap.size + 2) := by show x1.heap.size = _; rw [← e1]; simp [s0]
  clear B0 B1 c0 c1 z0
  go_enter Try.func16, Try.ntmps16
  go_wp2_with fail
  clear e0 e1 hmm
  go_loopw [13] (fun i wr => ∃ k : Nat, k ≤ m ∧ i = .int .i64 k ∧ Hid (Below (w.heap.size + 1) x1 wr) ∧ Hid (IdxAt wr (w.heap.size + 1) k (plc K k))) (fun i _ => m - (intOf i).toNat)
  case atStart => exact ⟨0, Nat.zero_le _, rfl, Below.refl _ _, HM⟩
  case round =>
    obtain ⟨k, hk, rfl, hb, hx⟩ := hrel
    have hsz : Hid (w.heap.size + 2 ≤ wr.heap.size) := by
      have := hb.out.size
      have := hs.out
      show w.heap.size + 2 ≤ wr.heap.size
      omega
    by_cases hkn : k < m
    · obtain ⟨b, o, rfl⟩ := HK.out.addr (by omega)
      have HB : Hid (Below w.heap.size w wr) := HB1.out.trans (hb.out.mono (by omega))
      obtain ⟨q0, q1, q2, q3, q4, q5⟩ := (HK.out.below HB.out (Nat.le_refl _)).at k hkn
      have i1 : (k : Int) < (m : Int) := by omega
      obtain ⟨y0, e0⟩ : ∃ x, wr.alloc (.cells #[.int .u32 ((K k).id : Int), .int .i64 (K k).k, .slice (K k).a (K k).n (K k).c, .int .i64 (K k).s, .int .i64 (K k).p, .int .i64 (K k).d] 31) = x := ⟨_, rfl⟩
      have B0 : Below wr.heap.size wr y0 := e0 ▸ box_below wr _
      have F0 : FrAt y0 wr.heap.size (K k) := e0 ▸ FrAt.made wr _ (K k)
      have X0 := hx.out.below B0 (Nat.le_refl _)
      have l1 := X0.none (HI.out k hkn) (plc_new HR.out hkn)
      obtain ⟨y1, l2, X1, G1⟩ := X0.put (HI.out k hkn) (q := k) (by omega) (by omega)
      have HX1 : Hid (IdxAt y1 (w.heap.size + 1) (k + 1) (plc K (k + 1))) := X1
      have HB1 : Hid (Below (w.heap.size + 1) x1 y1) := hb.out.trans ((B0.mono (by have := hsz.out; omega)).trans ⟨G1.os, G1.tape, G1.output, G1.size, fun j hj => G1.block j (by have := B0.size; have := hsz.out; omega) (fun e => by cases e; omega)⟩)
      obtain ⟨f0, f1, f2, f3, f4, f5, -⟩ := F0
      clear B0 X0 X1 G1 hb hx
      generalize K k = g at *
      go_wp2_with fail
      go_roundw
      case rel => exact ⟨k + 1, by omega, by go_num, HB1, HX1⟩
      case measure => simp [intOf]; omega
    · have hke : k = m := by omega
      subst hke
      have i1 : decide ((k : Int) < (k : Int)) = false := by simp
      have c0 := (hb.out.cell (p := ⟨w.heap.size, 0, none⟩) (Nat.lt_succ_self _)).trans HC.out.1
      have c1 := (hb.out.cell (p := ⟨w.heap.size, 1, none⟩) (Nat.lt_succ_self _)).trans HC.out.2.1
      have z : ∀ i, wr.frozen? ⟨w.heap.size, i, none⟩ = false := fun i => (World.frozen?_of_block (a := ⟨w.heap.size, i, none⟩) (hb.out.block w.heap.size (Nat.lt_succ_self _))).trans (HC.out.2.2 i)
      have z0 := z 0
      have z1 := z 1
      clear z
      obtain ⟨y0, e0⟩ : ∃ x, wr.setCell ⟨w.heap.size, 0, none⟩ (.slice a k c) = x := ⟨_, rfl⟩
      obtain ⟨y1, e1⟩ : ∃ x, y0.setCell ⟨w.heap.size, 1, none⟩ (.map (some (w.heap.size + 1))) = x := ⟨_, rfl⟩
      have d0 : y0.cell? ⟨w.heap.size, 0, none⟩ = some (.slice a k c) := e0 ▸ World.cell?_setCell_same _ _ _ c0
      have d1 : y0.cell? ⟨w.heap.size, 1, none⟩ = some (.map none) := e0 ▸ (World.cell?_setCell_other _ _ _ _ (by simp)).trans c1
      have u1 : y0.frozen? ⟨w.heap.size, 1, none⟩ = false := by rw [← e0, World.frozen?_setCell]; exact z1
      have HE : Hid (y1.cell? ⟨w.heap.size, 0, none⟩ = some (.slice a k c) ∧ y1.cell? ⟨w.heap.size, 1, none⟩ = some (.map (some (w.heap.size + 1)))) :=
        ⟨e1 ▸ (World.cell?_setCell_other _ _ _ _ (by simp)).trans d0, e1 ▸ World.cell?_setCell_same _ _ _ d1⟩
      have HB : Hid (Below w.heap.size w y1) := e1 ▸ e0 ▸ ((HB1.out.trans (hb.out.mono (by omega))).setCell (p := ⟨w.heap.size, 0, none⟩) (Nat.le_refl _) _).setCell (p := ⟨w.heap.size, 1, none⟩) (Nat.le_refl _) _
      have G : wr.grownBy y1 (some w.heap.size) := by
        have q := (Kept.set wr (R := w.heap.size) 0 (.slice a k c)).trans (Kept.set _ 1 (.map (some (w.heap.size + 1))))
        rw [e0, e1] at q
        exact ⟨q.os, q.tape, q.output, q.size, fun j hj hne => q.block j hj (fun e => hne (by rw [e]))⟩
      have HX : Hid (IdxAt y1 (w.heap.size + 1) k (plc K k)) := hx.out.kept G (by simp)
      clear G hb hx HB1 HM
      go_wp2
      clear e0 e1 c0 c1 z0 z1 d0 d1 u1
      obtain ⟨p0, p1⟩ := HE.out
      refine bodyPost_ret (v := .agg #[.slice a k c, .map (some (w.heap.size + 1))]) ?_ rfl ⟨HB.out, w.heap.size + 1, k, rfl, Nat.le_succ _, HX.out.lt, HX.out⟩
      simp [results, Try.results16, go_sem, p0, p1]
end Go.Proofs.Ytclbcggbnbimaaa
