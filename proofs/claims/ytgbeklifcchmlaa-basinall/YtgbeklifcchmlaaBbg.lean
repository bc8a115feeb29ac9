/-
  A Basin whose rows are told by a table; what Add makes of it, reckoned; that package basin has begun.
-/
import Derived.Test.YtgbeklifcchmlaaBsn
import Derived.Test.YtgbeklifcchmlaaTab
import Derived.Test.YtgbeklifcchmlaaLit
namespace Go.Proofs.Ytgbeklifcchmlaa
open Go.RowKit Go.Deep

theorem BasinAt.tab {w : World} {N B R f n s k : Nat} {S : Nat → Option (Nat → Nat)} {T : List (Option (List Nat))} (h : BasinAt w N B R f n s k S) (ht : tabOk k (k + s) S T = true) : BasinAt w N B R f n s k (tab T) :=
  ⟨h.fr, h.sz, h.sy, h.kc, h.ba, h.basis.tab ht⟩
/-- What Add of bytes that are written out comes to. -/
theorem badd_lit (N B R f n s k id : Nat) (T : List (Option (List Nat))) (ans : Bool) (T' : List (Option (List Nat))) (l : List Nat) (A : Array Value) (fz : Nat × Nat) (w : World) (h : BasinAt w N B R f n s k (tab T)) (e : A = (l.map fun (n : Nat) => Value.int .u8 (n : Int)).toArray) (hl : ∀ i, i < l.length → listAt l i < 256) (hs : l.length = s)
    (hf : f < 4294967296) (hi : id < k + 64) (hok : addOk k (k + s) T (cat (Dice.rowOf f id k) (listAt l) k) ans T' = true) :
    Calls Try.prog 13 #[.pointer (some ⟨N, 0, none⟩), .int .i64 (id : Int), .slice (some ⟨w.heap.size, 0, none⟩) s s] (w.alloc (.cells A 5 fz)) fun e w' => e = .returned (.bool ans) ∧ BasinAt w' N B R f n s k (tab T') ∧ Kept R w w' := by
  have hb : Below w.heap.size w (w.alloc (.cells A 5 fz)) := (Below.refl _ _).alloc (Nat.le_refl _) _
  have hy : BytesAt (w.alloc (.cells A 5 fz)) (some ⟨w.heap.size, 0, none⟩) s (listAt l) := by
    rw [e, ← hs]
    exact bytes_lit w _ _ l hl
  refine (badd_yes N B R f n s k id s (tab T) (listAt l) _ _ (h.grew hb) hy hf hi).mono ?_
  rintro e w' ⟨rfl, h3, h4⟩
  unfold addOk at hok
  rw [Bool.and_eq_true, beq_iff_eq] at hok
  exact ⟨by rw [hok.1], h3.tab hok.2, (Kept.of_below hb).trans h4⟩

set_option maxRecDepth 100000 in
set_option maxHeartbeats 1000000 in
theorem begun6 (w : World) :
    Calls Try.prog 8 #[] w fun e w' => e = .returned (.bool true) ∧ Below w.heap.size w w' := by
  have hcv := conv_const
  go_enter Try.func8, Try.ntmps8
  go_wp2_with fail
  refine (new_any _).mono ?_
  rintro e w1 ⟨rfl, b1, F1, -⟩
  go_wp2_with fail
  refine (basin_yes w.heap.size 1 3 2 2 _ F1 (by decide) (by decide) (by decide) (by decide) (by decide) (by decide) (by decide)).mono ?_
  rintro e w2 ⟨N, B, R, rfl, hR, N2, b2⟩
  have GR : Hid (w.heap.size ≤ R) := Nat.le_trans b1.size hR
  have K2 : Hid (Below w.heap.size w w2) := b1.trans (b2.mono b1.size)
  have N2 : Hid (BasinAt w2 N B R 1 3 2 2 (tab [none, none])) := N2.tab (by decide +kernel)
  clear b1 F1 b2 hR
  go_wp2_with fail
  refine (badd_lit N B R 1 3 2 2 0 [none, none] true [some [1, 0, 97, 98], none] [97, 98] _ _ w2 N2.out rfl (by decide) rfl (by decide) (by decide) (by decide +kernel)).mono ?_
  rintro e w3 ⟨rfl, N3, k3⟩
  have K3 : Hid (Below w.heap.size w w3) := K2.out.trans (k3.below GR.out K2.out.size)
  have N3 : Hid _ := N3
  clear k3 K2 N2
  go_wp2_with fail
  refine (badd_lit N B R 1 3 2 2 0 [some [1, 0, 97, 98], none] false [some [1, 0, 97, 98], none] [97, 98] _ _ w3 N3.out rfl (by decide) rfl (by decide) (by decide) (by decide +kernel)).mono ?_
  rintro e w4 ⟨rfl, N4, k4⟩
  have K4 : Hid (Below w.heap.size w w4) := K3.out.trans (k4.below GR.out K3.out.size)
  have N4 : Hid _ := N4
  clear k4 K3 N3
  go_wp2_with fail
  refine (bpay_no N B R 1 3 2 2 _ w4 N4.out (by decide +kernel)).mono ?_
  rintro e w5 ⟨rfl, q5⟩
  have K5 : Hid (Below w.heap.size w w5) := K4.out.trans (q5.below _)
  have N5 : Hid _ := N4.out.same q5
  clear q5 K4 N4
  go_wp2_with fail
  refine (badd_lit N B R 1 3 2 2 1 [some [1, 0, 97, 98], none] true [some [1, 0, 97, 98], some [0, 1, 99, 0]] [99, 0] _ _ w5 N5.out rfl (by decide) rfl (by decide) (by decide) (by decide +kernel)).mono ?_
  rintro e w6 ⟨rfl, N6, k6⟩
  have K6 : Hid (Below w.heap.size w w6) := K5.out.trans (k6.below GR.out K5.out.size)
  have N6 : Hid _ := N6
  clear k6 K5 N5
  go_wp2_with fail
  refine (bpay_yes N B R 1 3 2 2 _ w6 N6.out (by decide +kernel) (by decide) (by decide) (by decide)).mono ?_
  rintro e w7 ⟨b, c, rfl, -, -, -, B7, b7⟩
  have K7 : Hid (Below w.heap.size w w7) := K6.out.trans (b7.mono K6.out.size)
  have N7 : Hid _ := N6.out.grew b7
  have e1 := conv_bytes _ 3 c _ _ B7
  rw [show strOf 3 (joined (solOf (tab [some [1, 0, 97, 98], some [0, 1, 99, 0]]) 2) 2) = ⟨#[97, 98, 99]⟩ by decide +kernel] at e1
  clear K6 N6 B7 b7 hcv
  go_wp2_with fail
  refine (bmiss_yes N B R 1 3 2 2 _ w7 N7.out).mono ?_
  rintro e w8 ⟨rfl, q8⟩
  rw [show rankTo (tab [some [1, 0, 97, 98], some [0, 1, 99, 0]]) 2 = 2 by decide +kernel]
  have K8 : Hid (Below w.heap.size w w8) := K7.out.trans (q8.below _)
  have N8 : Hid _ := N7.out.same q8
  clear q8 K7 N7 e1
  go_wp2_with fail
  refine (bbytes_yes N B R 1 3 2 2 _ w8 N8.out).mono ?_
  rintro e w9 ⟨rfl, q9⟩
  have K9 : Hid (Below w.heap.size w w9) := K8.out.trans (q9.below _)
  have N9 : Hid _ := N8.out.same q9
  clear q9 K8 N8
  go_wp2_with fail
  refine (bcopy_yes N B R 1 3 2 2 _ w9 N9.out).mono ?_
  rintro e w10 ⟨N', B', R', rfl, -, -, b10⟩
  have K10 : Hid (Below w.heap.size w w10) := K9.out.trans (b10.mono K9.out.size)
  clear b10 K9 N9
  go_wp2
  go_ret
  exact ⟨rfl, K10.out⟩
end Go.Proofs.Ytgbeklifcchmlaa
