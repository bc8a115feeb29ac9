/-
  Solve: the symbols, once there are as many rows as unknowns.
-/
import Derived.Test.YtgbeklifcchmlaaAdd
namespace Go.Proofs.Ytgbeklifcchmlaa
open Go.RowKit Go.Deep

set_option maxRecDepth 100000 in
theorem slice_rest (b n c lo : Nat) (w : World) (h1 : lo ≤ n) (h2 : lo < c) : (Instr.slice 34 (.slice (some ⟨b, 0, none⟩) n c) (some (.int .i64 (lo : Int))) none none).run Try.prog w = .ok (.slice (some ⟨b, lo, none⟩) (n - lo) (c - lo)) w := by
  have e := run_slice_l (P := Try.prog) w 34 (some ⟨b, 0, none⟩) n c Try.underlying34 .i64 (lo : Int) (by omega) (by omega)
  rw [e]
  have hs : (sizeOf (Try.prog.elem 34)).run Try.prog w = .ok 1 w := by kernel_rfl
  rw [hs]
  have hz : (⟨b, 0, none⟩ : Addr).add lo = ⟨b, lo, none⟩ := by unfold Addr.add; split <;> simp_all
  simp only [Result.andThen, sliced, Int.toNat_natCast, Nat.mul_one, Option.map_some, hz]
  rw [if_neg (by omega)]

set_option maxRecDepth 100000 in
set_option maxHeartbeats 1000000 in
theorem solve_no (B R k size : Nat) (S : Nat → Option (Nat → Nat)) (w : World) (h : BasisAt w B R k size S) (hno : rankTo S k < k) :
    Calls Try.prog 32 #[.pointer (some ⟨B, 0, none⟩)] w fun e w' => e = .returned (.tuple #[.slice none 0 0, .bool false]) ∧ Same w w' := by
  have r1 := h.rows
  have k32 := h.k32
  have H : Hid (BasisAt w B R k size S) := h
  have hn : ((rankTo S k : Nat) : Int) < (k : Int) := by omega
  have hs : ∀ n, Hid (BasisAt (w.drewN n) B R k size S) := fun n => h.same ⟨n, rfl⟩
  clear h
  go_enter Try.func32, Try.ntmps32
  go_wp2_with fail
  go_quiet ((first | (go_at_call 46; exact Calls.quiet_of_same (bmade_yes B R k size S _ (hs _).out)) | (go_at_call 36; exact Calls.quiet_of_same (rank_any B R k size S _ (hs _).out))))
  go_wp2
  go_ret2
  exact ⟨rfl, nq, rfl⟩

set_option maxRecDepth 100000 in
set_option maxHeartbeats 1000000 in
theorem solve_nil (w : World) :
    Calls Try.prog 32 #[.pointer none] w fun e w' => e = .returned (.tuple #[.slice none 0 0, .bool false]) ∧ Same w w' := by
  go_enter Try.func32, Try.ntmps32
  go_wp2_with fail
  go_quiet ((go_at_call 46; exact Calls.quiet_of_same (bmade_nil _)))
  go_wp2
  go_ret2
  exact ⟨rfl, nq, rfl⟩

/-- The first j symbols stand in the room L. -/
def SymsTo (w : World) (L k size : Nat) (S : Nat → Option (Nat → Nat)) (j : Nat) (A : Nat → Value) : Prop :=
  ∀ i, i < j → ∃ r b c, S i = some r ∧ A i = .slice (some ⟨b, 0, none⟩) size c ∧ b ≠ L ∧ BytesAt w (some ⟨b, 0, none⟩) size (fun t => r (k + t))
/-- The symbols were answered. -/
def Solved (w : World) (k size : Nat) (S : Nat → Option (Nat → Nat)) (e : Ending) (w' : World) : Prop :=
  ∃ L A, e = .returned (.tuple #[.slice (some ⟨L, 0, none⟩) k k, .bool true]) ∧ w.heap.size ≤ L ∧ w'.rowIs L 34 k A ∧ SymsTo w' L k size S k A ∧ Below w.heap.size w w'

theorem SymsTo.grew {w w' : World} {L k size j : Nat} {S : Nat → Option (Nat → Nat)} {A : Nat → Value} (h : SymsTo w L k size S j A) (hb : Below w.heap.size w w') : SymsTo w' L k size S j A := by
  intro i hi
  obtain ⟨r, b, c, h1, h2, h3, h4⟩ := h i hi
  exact ⟨r, b, c, h1, h2, h3, h4.grew hb⟩
theorem SymsTo.next {w : World} {L k size j g c : Nat} {S : Nat → Option (Nat → Nat)} {A : Nat → Value} {r : Nat → Nat} (h : SymsTo w L k size S j A) (hS : S j = some r) (hg : g ≠ L) (hb : BytesAt w (some ⟨g, 0, none⟩) size (fun t => r (k + t))) :
    SymsTo (w.setCell ⟨L, j, none⟩ (.slice (some ⟨g, 0, none⟩) size c)) L k size S (j + 1) (fun i => if i = j then .slice (some ⟨g, 0, none⟩) size c else A i) := by
  intro i hi
  by_cases e : i = j
  · subst e
    exact ⟨r, g, c, hS, if_pos rfl, hg, hb.setOther hg⟩
  · obtain ⟨r', b, c', h1, h2, h3, h4⟩ := h i (by omega)
    exact ⟨r', b, c', h1, (if_neg e).trans h2, h3, h4.setOther h3⟩

set_option maxRecDepth 100000 in
set_option maxHeartbeats 1000000 in
theorem solve_yes (B R k size : Nat) (S : Nat → Option (Nat → Nat)) (w : World) (h : BasisAt w B R k size S) (hyes : rankTo S k = k) :
    Calls Try.prog 32 #[.pointer (some ⟨B, 0, none⟩)] w fun e w' => Solved w k size S e w' := by
  have r1 := h.rows
  have k1 := h.k1
  have k32 := h.k32
  have s1 := h.s1
  have s64 := h.s64
  have H : Hid (BasisAt w B R k size S) := h
  have HF : Hid (∀ i, i < k → ∃ r, S i = some r) := rank_full S k hyes
  have hs : ∀ n, Hid (BasisAt (w.drewN n) B R k size S) := fun n => h.same ⟨n, rfl⟩
  have hmk := run_make_row' (P := Try.prog) 24 34 (.slice none 0 0) 24 Try.underlying24 Try.infoRow rfl .i64 .i64 k (by omega) (by omega)
  have hrk : ∀ n, Calls Try.prog 36 #[.pointer (some ⟨B, 0, none⟩)] (w.drewN n) fun e w' => e = .returned (.int .i64 (k : Int)) ∧ w' = w.drewN n := by
    intro n
    have := rank_any B R k size S _ (hs n).out
    rwa [hyes] at this
  clear h hyes
  go_enter Try.func32, Try.ntmps32
  go_wp2_with fail
  go_quiet ((first | (go_at_call 46; exact Calls.quiet_of_same (bmade_yes B R k size S _ (hs _).out)) | (go_at_call 36; exact Calls.quiet_of_same (hrk _))))
  have H1 : Hid (BasisAt (w.drewN nq) B R k size S) := hs nq
  have q1 : Hid (Same w (w.drewN nq)) := ⟨nq, rfl⟩
  clear hs hrk H
  have r1 := H1.out.rows
  generalize w.drewN nq = w1 at *
  have b2 : Below w1.heap.size w1 (w1.alloc (.cells (madeCells #[.slice none 0 0] k) 34)) := (Below.refl _ _).alloc (Nat.le_refl _) _
  have H2 : Hid (BasisAt (w1.alloc (.cells (madeCells #[.slice none 0 0] k) 34)) B R k size S) := H1.out.grew b2
  have r2 := H2.out.rows
  have M2 : Hid ((w1.alloc (.cells (madeCells #[.slice none 0 0] k) 34)).rowIs w1.heap.size 34 k (fun _ => .slice none 0 0)) := World.rowIs_made w1 _ k _
  have B2 : Hid (Below w1.heap.size w1 (w1.alloc (.cells (madeCells #[.slice none 0 0] k) 34))) := b2
  clear b2
  go_wp2_with fail
  clear hmk r1
  go_loopw [31] (fun i wr => ∃ j : Nat, j ≤ k ∧ i = .int .i64 j ∧ Below w1.heap.size w1 wr ∧ ∃ A, wr.rowIs w1.heap.size 34 k A ∧ SymsTo wr w1.heap.size k size S j A) (fun i _ => k - (intOf i).toNat)
  case atStart => exact ⟨0, Nat.zero_le _, rfl, B2.out, _, M2.out, fun i hi => absurd hi (by omega)⟩
  case round =>
    clear r2 H2 M2 B2
    obtain ⟨j, hj, rfl, hb, A, hA, hsy⟩ := hrel
    by_cases hjk : j < k
    · obtain ⟨r, hS⟩ := HF.out j hjk
      have H3 : Hid (BasisAt wr B R k size S) := H1.out.grew hb
      have r3 := H3.out.rows
      obtain ⟨v, c2, hv, -⟩ := H3.out.place j hjk
      rw [hS] at hv
      obtain ⟨b2, cc2, rfl, hcc, hT⟩ := hv
      have i3 : (j : Int) < (k : Int) := by omega
      have e3 := slice_rest b2 (k + size) cc2 k wr (by omega) (by omega)
      rw [Nat.add_sub_cancel_left] at e3
      have HT : Hid (BytesAt wr (some ⟨b2, k, none⟩) size (fun t => r (k + t))) := by
        refine ⟨fun _ => ⟨b2, k, rfl, fun i hi => ?_⟩, fun i hi => hT.lt _ (by omega)⟩
        have := bytes_cell hT (k + i) (by omega)
        rwa [Nat.zero_add] at this
      have HA : Hid (wr.rowIs w1.heap.size 34 k A) := hA
      have HY : Hid (SymsTo wr w1.heap.size k size S j A) := hsy
      have HB : Hid (Below w1.heap.size w1 wr) := hb
      clear hA hsy hb hT
      go_wp2_with fail
      refine (clone_any ⟨b2, k, none⟩ size (cc2 - k) (fun t => r (k + t)) wr HT.out (by omega)).mono ?_
      rintro e w4 ⟨g, cg, rfl, hg, hcg, hG, hb4⟩
      have A4 : Hid (w4.rowIs w1.heap.size 34 k A) := HA.out.of_block (hb4.block _ HA.out.lt)
      have c4 := A4.out.cell hjk
      have f4 := A4.out.frozen j
      have Y4 : Hid (SymsTo w4 w1.heap.size k size S j A) := HY.out.grew hb4
      have B4 : Hid (Below w1.heap.size w1 w4) := HB.out.trans (hb4.mono HB.out.size)
      have G4 : Hid (g ≠ w1.heap.size) := by have := HA.out.lt; show g ≠ _; omega
      have hG : Hid _ := hG
      clear hb4 hg hcg
      go_wp2_with fail
      go_roundw
      case rel => exact ⟨j + 1, by omega, by go_num, B4.out.setCell (Nat.le_refl _) _, _, A4.out.set j _, Y4.out.next hS G4.out hG.out⟩
      case measure => simp [intOf]; omega
    · have hke : j = k := by omega
      subst hke
      go_wp2
      go_ret2
      have hsz := q1.out.size
      exact ⟨w1.heap.size, A, rfl, by omega, hA, hsy, (q1.out.below _).trans (hb.mono (by omega))⟩
end Go.Proofs.Ytgbeklifcchmlaa
