/-
  The document's Below.
-/
import Derived.Test.YtclbcggbnbimaaaRtb
namespace Go.Proofs.Ytclbcggbnbimaaa
open Go.RowKit Go.Deep

/-- Who of the first t hangs on x is marked. -/
def Hangs (K : Nat → Fr) (R : Nat → Nat → Int) (m x q : Nat) : Prop := ∃ p, p < m ∧ (K p).id = x ∧ Behind (Edge K R m) K m (K q).id p
def BelTo (K : Nat → Fr) (R : Nat → Nat → Int) (m x : Nat) (g : Nat → Bool) (t : Nat) : Prop := ∀ y, g y = true ↔ ∃ q, q < t ∧ (K q).id = y ∧ Hangs K R m x q
theorem BelTo.nil (K : Nat → Fr) (R : Nat → Nat → Int) (m x : Nat) : BelTo K R m x (fun _ => false) 0 := fun _ => iff_of_false Bool.false_ne_true (fun ⟨q, h, _⟩ => absurd h (Nat.not_lt_zero q))
theorem BelTo.no {K : Nat → Fr} {R : Nat → Nat → Int} {m x t : Nat} {g : Nat → Bool} (h : BelTo K R m x g t) (hn : ¬ Hangs K R m x t) : BelTo K R m x g (t + 1) := fun y => by
  rw [h y]
  constructor
  · rintro ⟨q, h1, h2⟩; exact ⟨q, by omega, h2⟩
  · rintro ⟨q, h1, h2, h3⟩
    have : q ≠ t := fun e => by subst e; exact hn h3
    exact ⟨q, by omega, h2, h3⟩
theorem BelTo.yes {K : Nat → Fr} {R : Nat → Nat → Int} {m x t : Nat} {g : Nat → Bool} (h : BelTo K R m x g t) (hn : Hangs K R m x t) : BelTo K R m x (fun y => if y = (K t).id then true else g y) (t + 1) := fun y => by
  show (if y = (K t).id then true else g y) = true ↔ _
  by_cases e : y = (K t).id
  · rw [if_pos e]
    exact iff_of_true rfl ⟨t, Nat.lt_succ_self _, e.symm, hn⟩
  · rw [if_neg e, h y]
    constructor
    · rintro ⟨q, h1, h2⟩; exact ⟨q, by omega, h2⟩
    · rintro ⟨q, h1, h2, h3⟩
      have : q ≠ t := fun e2 => by subst e2; exact e h2.symm
      exact ⟨q, by omega, h2, h3⟩
theorem BelTo.done {K : Nat → Fr} {R : Nat → Nat → Int} {m x : Nat} {g : Nat → Bool} (h : BelTo K R m x g m) (hr : Rise K m) (q : Nat) (hq : q < m) : (g (K q).id = true ∧ (K q).id ≠ x) ↔ Behind (fun p i => Edge K R m i p) K m x q := by
  rw [h]
  constructor
  · rintro ⟨⟨q', h1, h2, p, h3, rfl, s, h5, h6, h7⟩, -⟩
    have : q' = q := hr.eq h1 hq h2
    subst this
    rw [plc_at hr hq] at h5
    cases h5
    exact ⟨p, plc_at hr h3, h6.turn (F := fun p i => Edge K R m i p) (fun _ _ h => h), fun e => h7 e.symm⟩
  · rintro ⟨s, h1, h2, h3⟩
    obtain ⟨h4, h5⟩ := plc_some m h1
    refine ⟨⟨q, hq, rfl, s, h4, h5, q, plc_at hr hq, h2.turn (F := Edge K R m) (fun _ _ h => h), fun e => h3 e.symm⟩, fun e => h3 (hr.eq hq h4 (by omega))⟩
set_option maxRecDepth 100000 in
set_option maxHeartbeats 1000000 in
theorem rbelow_any (a : Option Addr) (m c : Nat) (K : Nat → Fr) (R : Nat → Nat → Int) (x : Nat) (w : World) (HC : Hid (Crowd w a m K R)) :
    Calls Try.prog 13 #[.slice a m c, .int .u32 (x : Int)] w (ToldIs w m K (Behind (fun p i => Edge K R m i p) K m x)) := by
  have hmm := @run_makeMap Try.prog
  have hm : m ≤ 90 := HC.out.few
  obtain ⟨x0, e0⟩ : ∃ y, w.alloc (.map #[] 0) = y := ⟨_, rfl⟩
  have HB0 : Hid (Below w.heap.size w x0) := e0 ▸ box_below w _
  have HM0 : Hid (MarkAt x0 w.heap.size 0 (fun _ => false)) := e0 ▸ MarkAt.made w
  go_enter Try.func13, Try.ntmps13
  go_wp2_with fail
  clear e0 hmm
  go_loopw [6] (fun i wr => ∃ (t k : Nat) (g : Nat → Bool), i = .int .i64 t ∧ t ≤ m ∧ Hid (k ≤ t) ∧ Hid (Below w.heap.size w wr) ∧ Hid (MarkAt wr w.heap.size k g) ∧ Hid (BelTo K R m x g t)) (fun i _ => m - (intOf i).toNat)
  case atStart => exact ⟨0, 0, _, rfl, Nat.zero_le _, Nat.le_refl _, HB0, HM0, BelTo.nil _ _ _ _⟩
  case round =>
    clear HB0 HM0
    obtain ⟨t, k, g, rfl, ht, hk, hb, hma, hbt⟩ := hrel
    have hC := HC.out.grew hb.out
    by_cases htm : t < m
    · have i1 : (t : Int) < (m : Int) := by omega
      obtain ⟨fb, fo, rfl⟩ := hC.frs.addr (by omega)
      obtain ⟨q0, q1, q2, q3, q4, q5⟩ := hC.frs.at t htm
      have CALL : Hid (Calls Try.prog 11 #[.slice (some ⟨fb, fo, none⟩) m c, .int .u32 ((K t).id : Int)] wr (ToldIs wr m K (Behind (Edge K R m) K m (K t).id))) := rabove_any _ m c K R (K t).id wr hC
      clear q1 q2 q3 q4 q5
      go_wp2_with fail
      refine CALL.out.mono ?_
      rintro e w2 ⟨b2, v, sel, rfl, hs, xs, hu, hxs⟩
      obtain ⟨r, cap, rfl, -, -, hn⟩ := hu.any
      have hlen := picked_le sel m
      have CALL2 : Hid (Calls Try.prog 23 #[.slice r (picked sel m).length cap, .int .u32 (x : Int)] w2 (Tells w2 (Hangs K R m x t))) := by
        have h := rin_any r (picked sel m).length cap xs (x : Int) w2 (by omega) hn
        rw [told_has hs hxs] at h
        exact h
      have HB2 : Hid (Below wr.heap.size wr w2) := b2
      clear CALL b2 hs hu hxs hn hlen
      generalize (picked sel m).length = ln at *
      go_wp2_with fail
      refine CALL2.out.mono ?_
      rintro e w3 ⟨b3, bb, rfl, hbb⟩
      have B3 : Below wr.heap.size wr w3 := HB2.out.trans (b3.mono HB2.out.size)
      have HB3 : Hid (Below w.heap.size w w3) := hb.out.trans (B3.mono hb.out.size)
      have M3 := hma.out.below B3 (Nat.le_refl _)
      cases bb with
      | false =>
        have HT : Hid (BelTo K R m x g (t + 1)) := hbt.out.no (fun h => Bool.false_ne_true (hbb.2 h))
        have HM3 : Hid (MarkAt w3 w.heap.size k g) := M3
        have HK : Hid (k ≤ t + 1) := Nat.le_succ_of_le hk.out
        clear CALL2 b3 hbb B3 M3 hma hbt hb hC HB2 q0 hk
        go_wp2_with fail
        go_roundw
        case rel => exact ⟨t + 1, k, g, by go_num, by omega, HK, HB3, HM3, HT⟩
        case measure => simp [intOf]; omega
      | true =>
        have HT : Hid (BelTo K R m x (fun y => if y = (K t).id then true else g y) (t + 1)) := hbt.out.yes (hbb.1 rfl)
        obtain ⟨y3, l3, M4, gr⟩ := M3.put (hC.ids t htm) (by have := hk.out; omega)
        have HM4 : Hid (MarkAt y3 w.heap.size (k + 1) (fun y => if y = (K t).id then true else g y)) := M4
        have HB4 : Hid (Below w.heap.size w y3) := HB3.out.trans ⟨gr.os, gr.tape, gr.output, gr.size, fun i hi => gr.block i (Nat.lt_of_lt_of_le hi HB3.out.size) (fun e => by cases e; omega)⟩
        have q0' := (B3.cell (cell_lt q0)).trans q0
        have HK : Hid (k + 1 ≤ t + 1) := Nat.succ_le_succ hk.out
        clear CALL2 b3 hbb B3 M3 hma hbt hb hC HB2 q0 hk M4 gr HB3
        generalize (K t).id = y at *
        go_wp2_with fail
        go_roundw
        case rel => exact ⟨t + 1, k + 1, _, by go_num, by omega, HK, HB4, HM4, HT⟩
        case measure => simp [intOf]; omega
    · obtain rfl : t = m := by omega
      have i1 : decide ((t : Int) < (t : Int)) = false := by simp
      have CALL : Hid (Calls Try.prog 20 #[.slice a t c, .map (some w.heap.size), .int .u32 (x : Int)] wr (ToldIs wr t K (fun q => g (K q).id = true ∧ (K q).id ≠ x))) :=
        told_any a t c K g w.heap.size k x wr (by omega) HC.out.ids hC.frs hma.out
      clear hC
      go_wp2_with fail
      refine CALL.out.mono ?_
      rintro e w2 ⟨h1, v, sel, rfl, h3, h4⟩
      have HF : Hid (ToldIs w t K (Behind (fun p i => Edge K R t i p) K t x) (.returned v) w2) :=
        ⟨hb.out.trans (h1.mono hb.out.size), v, sel, rfl, fun q hq => by rw [h3 q hq]; exact hbt.out.done HC.out.rise q hq, h4.base hb.out.size⟩
      clear CALL h1 h3 h4 hb hma hbt
      go_wp2
      go_ret
      exact HF.out
end Go.Proofs.Ytclbcggbnbimaaa
