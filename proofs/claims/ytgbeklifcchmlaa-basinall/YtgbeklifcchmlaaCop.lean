/-
  Copy: another Basis with the same rows.
-/
import Derived.Test.YtgbeklifcchmlaaSol
namespace Go.Proofs.Ytgbeklifcchmlaa
open Go.RowKit Go.Deep

/-- A Basis with the same rows was answered. -/
def Copied (w : World) (k size : Nat) (S : Nat → Option (Nat → Nat)) (e : Ending) (w' : World) : Prop :=
  ∃ B R, e = .returned (.pointer (some ⟨B, 0, none⟩)) ∧ w.heap.size ≤ B ∧ w.heap.size ≤ R ∧ BasisAt w' B R k size S ∧ Below w.heap.size w w'
/-- The rows behind j rounds. -/
def copyTo (S : Nat → Option (Nat → Nat)) (j i : Nat) : Option (Nat → Nat) := if i < j then S i else none
theorem copyTo_next (S : Nat → Option (Nat → Nat)) (j i : Nat) : copyTo S (j + 1) i = if i = j then S j else copyTo S j i := by
  unfold copyTo
  by_cases e : i = j
  · subst e; rw [if_pos (by omega), if_pos rfl]
  · rw [if_neg e]
    by_cases e2 : i < j
    · rw [if_pos e2, if_pos (by omega)]
    · rw [if_neg e2, if_neg (by omega)]

/-- What the copying reads. -/
def Reads (B R k size : Nat) (cs : List Value) (w : World) : Prop :=
  w.rangeAt B 0 cs ∧ w.cell? ⟨B, 766, none⟩ = some (.int .i64 (size : Int)) ∧ w.cell? ⟨B, 767, none⟩ = some (.slice (some ⟨R, 0, none⟩) k k)
theorem Reads.alloc {B R k size : Nat} {cs : List Value} {w : World} (h : Reads B R k size cs w) (o : Obj) : Reads B R k size cs (w.alloc o) :=
  ⟨World.rangeAt_alloc h.1 _, Go.Lib.cell?_alloc_some _ h.2.1, Go.Lib.cell?_alloc_some _ h.2.2⟩

set_option maxRecDepth 100000 in
set_option maxHeartbeats 1000000 in
theorem copy_nil (w : World) :
    Calls Try.prog 37 #[.pointer none] w fun e w' => e = .returned (.pointer none) ∧ w' = w := by
  go_enter Try.func37, Try.ntmps37
  go_wp2_with (go_at_call 46; refine (bmade_nil _).mono ?_; rintro e w0 ⟨rfl, rfl⟩)
  go_ret
  exact ⟨rfl, rfl⟩

set_option maxRecDepth 100000 in
set_option maxHeartbeats 1000000 in
theorem copy_any (B R k size : Nat) (S : Nat → Option (Nat → Nat)) (w : World) (h : BasisAt w B R k size S) :
    Calls Try.prog 37 #[.pointer (some ⟨B, 0, none⟩)] w fun e w' => Copied w k size S e w' := by
  obtain ⟨cs, C, hra, hi, hbu, HC⟩ := cells_letters size k
  have hu := Try.underlying63
  have hmk := run_make_row' (P := Try.prog) 24 34 (.slice none 0 0) 24 Try.underlying24 Try.infoRow rfl .i64 .i64 k (by have := h.k32; omega) (by have := h.k32; omega)
  have H : Hid (BasisAt w B R k size S) := h
  have hr : Reads B R k size cs w := ⟨hra _ _ h.field, h.sz, h.rows⟩
  clear h hra
  go_enter Try.func37, Try.ntmps37
  go_wp2_with (go_at_call 46; refine (bmade_yes B R k size S _ H.out).mono ?_; rintro e w1 ⟨rfl, rfl⟩)
  refine wp_region_held (S := Reads B R k size cs) (by kernel_rfl) ?_
  have hr : Reads B R k size cs w1.drew := hr
  refine wpAnyH_take (i := 0) (v := .pointer (some ⟨B, 0, none⟩)) rfl (by kernel_rfl) (by kernel_rfl) (by kernel_rfl) (fun _ _ _ h => h) (Yields.yieldsIf (Or.inl ⟨by kernel_rfl, fun _ => by kernel_rfl⟩)) hr ?_
  refine wpAnyH_take (i := 1) (v := .pointer (some ⟨B, 0, none⟩)) rfl (by kernel_rfl) (by kernel_rfl) (by kernel_rfl) (fun _ _ _ h => h) (Yields.yieldsIf (Or.inl ⟨by kernel_rfl, fun _ => by kernel_rfl⟩)) hr ?_
  refine wpAnyH_take (i := 2) (v := .pointer (some ⟨B, 0, none⟩)) rfl (by kernel_rfl) (by kernel_rfl) (by kernel_rfl) (fun _ _ _ h => h) (Yields.yieldsIf (Or.inl ⟨by kernel_rfl, fun _ => by kernel_rfl⟩)) hr ?_
  refine wpAnyH_take (i := 3) (v := .agg cs.toArray) rfl (by kernel_rfl) (by kernel_rfl) (by kernel_rfl) (fun _ _ _ h => h) (yieldsIf_load_mid (by kernel_rfl) _ _ rfl B 0 rfl cs _ (fun _ h => h.1) hu rfl hi) hr ?_
  refine wpAnyH_take (i := 4) (v := .pointer (some ⟨B, 0, none⟩)) rfl (by kernel_rfl) (by kernel_rfl) (by kernel_rfl) (fun _ _ _ h => h) (Yields.yieldsIf (Or.inl ⟨by kernel_rfl, fun _ => by kernel_rfl⟩)) hr ?_
  refine wpAnyH_take (i := 5) (v := .pointer (some ⟨B, 0, none⟩)) rfl (by kernel_rfl) (by kernel_rfl) (by kernel_rfl) (fun _ _ _ h => h) (Yields.yieldsIf (Or.inl ⟨by kernel_rfl, fun _ => by kernel_rfl⟩)) hr ?_
  refine wpAnyH_take (i := 6) (v := .pointer (some ⟨B, 766, none⟩)) rfl (by kernel_rfl) (by kernel_rfl) (by kernel_rfl) (fun _ _ _ h => h) (Yields.yieldsIf (Or.inl ⟨by kernel_rfl, fun _ => by kernel_rfl⟩)) hr ?_
  refine wpAnyH_take (i := 7) (v := .int .i64 (size : Int)) rfl (by kernel_rfl) (by kernel_rfl) (by kernel_rfl) (fun _ _ _ h => h) (Or.inl ⟨by kernel_rfl, fun W hW => by have g := hW.2.1; go_simp⟩) hr ?_
  refine wpAnyH_take (i := 8) (v := .pointer (some ⟨B, 0, none⟩)) rfl (by kernel_rfl) (by kernel_rfl) (by kernel_rfl) (fun _ _ _ h => h) (Yields.yieldsIf (Or.inl ⟨by kernel_rfl, fun _ => by kernel_rfl⟩)) hr ?_
  refine wpAnyH_take (i := 9) (v := .pointer (some ⟨B, 0, none⟩)) rfl (by kernel_rfl) (by kernel_rfl) (by kernel_rfl) (fun _ _ _ h => h) (Yields.yieldsIf (Or.inl ⟨by kernel_rfl, fun _ => by kernel_rfl⟩)) hr ?_
  refine wpAnyH_take (i := 10) (v := .pointer (some ⟨B, 767, none⟩)) rfl (by kernel_rfl) (by kernel_rfl) (by kernel_rfl) (fun _ _ _ h => h) (Yields.yieldsIf (Or.inl ⟨by kernel_rfl, fun _ => by kernel_rfl⟩)) hr ?_
  refine wpAnyH_take (i := 11) (v := .slice (some ⟨R, 0, none⟩) k k) rfl (by kernel_rfl) (by kernel_rfl) (by kernel_rfl) (fun _ _ _ h => h) (Or.inl ⟨by kernel_rfl, fun W hW => by have g := hW.2.2; go_simp⟩) hr ?_
  refine wpAnyH_take (i := 12) (v := .int .i64 (k : Int)) rfl (by kernel_rfl) (by kernel_rfl) (by kernel_rfl) (fun _ _ _ h => h) (Yields.yieldsIf (Or.inl ⟨by kernel_rfl, fun _ => by kernel_rfl⟩)) hr ?_
  refine wpAnyH_ready (rs := [13]) (by kernel_rfl) (by simp) ?_
  refine AllReadyH.cons rfl (fun K2 hK2 => ?_) AllReadyH.nil
  go_simp
  refine hK2.out _ _ (hr.alloc _) (fun hr => ?_)
  clear hK2 K2
  have hy : ∀ W, ((do pure (Next.value (← Instr.build 79 #[(0, .agg cs.toArray), (1, .int .i64 (size : Int)), (2, .slice (some ⟨w1.heap.size, 0, none⟩) k k)])) : Sem Next)).run Try.prog W = .ok (.value (.agg (C w1.heap.size))) W := by
    intro W
    rw [Sem.run_bind, hbu]
    rfl
  refine wpAnyH_take (i := 14) (v := .agg (C w1.heap.size)) rfl (by kernel_rfl) (by kernel_rfl) (by kernel_rfl) (fun _ _ _ h => h) (Yields.yieldsIf (Or.inl ⟨by kernel_rfl, fun W => Eq.trans (by kernel_rfl) (hy W)⟩)) hr ?_
  refine wpAnyH_ready (rs := [15]) (by kernel_rfl) (by simp) ?_
  refine AllReadyH.cons rfl (fun K2 hK2 => ?_) AllReadyH.nil
  go_simp
  refine hK2.out _ _ (hr.alloc _) (fun hr => ?_)
  clear hK2 K2
  refine wpAnyH_ready (rs := [16]) (by kernel_rfl) (by simp) ?_
  refine AllReadyH.cons rfl (fun K2 hK2 => ?_) AllReadyH.nil
  go_simp
  refine hK2.out _ _ (hr) (fun hr => ?_)
  clear hK2 K2
  refine wpAnyH_done (by kernel_rfl) ?_ _
  have k32 := H.out.k32
  have s64 := H.out.s64
  have b2 : Below w1.heap.size w1 ((w1.alloc (.cells (madeCells #[.slice none 0 0] k) 34)).alloc (.cells (C w1.heap.size) 79)).drew := (((Below.refl _ w1).alloc (Nat.le_refl _) _).alloc (by simp) _).drew
  have n2 : BasisAt ((w1.alloc (.cells (madeCells #[.slice none 0 0] k) 34)).alloc (.cells (C w1.heap.size) 79)).drew (w1.heap.size + 1) w1.heap.size k size (fun _ => none) := (basis_new size k (w1.heap.size + 1) w1.heap.size (w1.alloc (.cells (madeCells #[.slice none 0 0] k) 34)) C HC.out H.out.k1 H.out.k32 H.out.s1 H.out.s64 (by simp) (World.rowIs_made w1 _ k _)).same ⟨1, rfl⟩
  generalize hw2 : ((w1.alloc (.cells (madeCells #[.slice none 0 0] k) 34)).alloc (.cells (C w1.heap.size) 79)).drew = w2 at *
  clear hw2 hr hy hbu hmk hi hu HC
  have r2 := (H.out.grew b2).rows
  have N2 : Hid (BasisAt w2 (w1.heap.size + 1) w1.heap.size k size (fun _ => none)) := n2
  have B2 : Hid (Below w1.heap.size w1 w2) := b2
  clear n2 b2
  go_wp2_with fail
  go_loopw [30] (fun i wr => ∃ j : Nat, j ≤ k ∧ i = .int .i64 j ∧ Below w1.heap.size w1 wr ∧ BasisAt wr (w1.heap.size + 1) w1.heap.size k size (copyTo S j)) (fun i _ => k - (intOf i).toNat)
  case atStart => exact ⟨0, Nat.zero_le _, rfl, B2.out, N2.out.congr (fun i _ => by unfold copyTo; rw [if_neg (by omega)])⟩
  case round =>
    clear r2 N2 B2
    obtain ⟨j, hj, rfl, hb, hN⟩ := hrel
    by_cases hjk : j < k
    · have H3 : Hid (BasisAt wr B R k size S) := H.out.grew hb
      obtain ⟨v, c2, hv, -⟩ := H3.out.place j hjk
      have i3 : (j : Int) < (k : Int) := by omega
      have n3 := hN.rows
      obtain ⟨v3, c3, -, f3⟩ := hN.place j hjk
      have N3 : Hid (BasisAt wr (w1.heap.size + 1) w1.heap.size k size (copyTo S j)) := hN
      have B3 : Hid (Below w1.heap.size w1 wr) := hb
      clear hN hb
      cases hS : S j with
      | none =>
        rw [hS] at hv
        cases hv
        go_wp2_with fail
        go_region_with (go_at_call 47; refine (clone_nil _).mono ?_; rintro e w4 ⟨rfl, rfl⟩)
        all_goals
          go_wp2
          go_roundw
          case rel => exact ⟨j + 1, by omega, by go_num, (B3.out.setCell (Nat.le_refl _) _).drew, ((N3.out.set j _ none rfl _ (fun i _ => by rw [copyTo_next, hS])).same ⟨1, rfl⟩)⟩
          case measure => simp [intOf]; omega
      | some t =>
        rw [hS] at hv
        obtain ⟨b2, cc2, rfl, hcc, hT⟩ := hv
        have HT : Hid (BytesAt wr (some ⟨b2, 0, none⟩) (k + size) t) := hT
        clear hT
        go_wp2_with fail
        go_region_with (go_at_call 47; refine (clone_any ⟨b2, 0, none⟩ (k + size) cc2 t _ ?_ (by omega)).mono ?_; exact ⟨HT.out.cells, HT.out.lt⟩; rintro e w4 ⟨g, cg, rfl, hg, hcg, hG, hb4⟩; have b4 : Below wr.heap.size wr w4 := (Below.refl _ wr).drew.trans hb4; have N4 : Hid (BasisAt w4 (w1.heap.size + 1) w1.heap.size k size (copyTo S j)) := N3.out.grew b4; have B4 : Hid (Below w1.heap.size w1 w4) := B3.out.trans (b4.mono B3.out.size); have n4 := N4.out.rows; obtain ⟨v4, c4, -, f4⟩ := N4.out.place j hjk; have hG : Hid _ := hG; have hcg : Hid _ := hcg; clear hb4 hg b4)
        all_goals
          go_wp2
          go_roundw
          case rel => exact ⟨j + 1, by omega, by go_num, B4.out.setCell (Nat.le_refl _) _, N4.out.set j _ (some t) ⟨_, _, rfl, hcg.out, hG.out⟩ _ (fun i _ => by rw [copyTo_next, hS])⟩
          case measure => simp [intOf]; omega
    · have hke : j = k := by omega
      subst hke
      go_wp2
      go_ret
      exact ⟨w1.heap.size + 1, w1.heap.size, rfl, by omega, by omega, hN.congr (fun i hi => by unfold copyTo; rw [if_pos hi]), hb⟩
end Go.Proofs.Ytgbeklifcchmlaa
