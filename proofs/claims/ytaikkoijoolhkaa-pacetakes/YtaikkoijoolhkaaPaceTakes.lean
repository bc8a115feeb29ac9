/-
  Who takes gets one's own, in order, as much as fits, and the others stay as they were: the statement PaceTakes: the call returns true (every row of numbers, every frame, however much).
-/
import Derived.Test.YtaikkoijoolhkaaRows
import Derived.WalkKit
import Derived.ProofKit
import Derived.OpenShut
import Derived.ShutString
import Derived.ChangeOld
import Derived.Below
import Derived.Carry
import Derived.Test.YtaikkoijoolhkaaOpn
import Derived.Test.YtaikkoijoolhkaaPbg
import Derived.Test.YtaikkoijoolhkaaPpl
import Derived.Test.YtaikkoijoolhkaaPd3
import Derived.Test.YtaikkoijoolhkaaPlp
import Derived.BigQuiet
import Derived.OrdersHeld
import Derived.Deep.RegionHeld
namespace Go.Proofs.Ytaikkoijoolhkaa.paceTakes
open Go.ChangeShapes Go.WideShapes Go.ChangeAt Go.RowKit
open Go.ChangeMaps (open_string shut_string)
set_option linter.unusedVariables false

theorem own : ownKnob Try.prog.godebug = none := by kernel_rfl
theorem laidOut : laidOutB Try.prog = true := by kernel_rfl

open Go.Deep

def itm (x : Nat → Nat) (i : Nat) : It := ⟨x i % 4, (i : Int), 1, 1 + ((x i / 4 : Nat) : Int), 9⟩
theorem take_apart {x : Nat → Nat} {n f : Nat} {most : Int} : ∀ i (hi : i < (prt (hold f) most (items (itm x) n)).2.1.length) j (hj : j < (prt (hold f) most (items (itm x) n)).1.length), (prt (hold f) most (items (itm x) n)).2.1[i].s ≠ (prt (hold f) most (items (itm x) n)).1[j].s := by
  intro i hi j hj e
  obtain ⟨-, -, h3⟩ := prt_sub (hold f) most (items (itm x) n)
  have ho := items_ord (itm x) (fun _ => rfl) n
  have hnd : ((items (itm x) n).map (·.s)).Nodup := by
    rw [List.Nodup, List.pairwise_map]
    exact ho.imp (fun h => Int.ne_of_lt h)
  have hnd2 := ((h3.map (·.s)).nodup_iff).2 hnd
  rw [List.map_append, List.nodup_append] at hnd2
  exact hnd2.2.2 _ (List.mem_map.2 ⟨_, List.getElem_mem hj, rfl⟩) _ (List.mem_map.2 ⟨_, List.getElem_mem hi, rfl⟩) e.symm
theorem late_all {l : List It} (h : ∀ a, a ∈ l → a.d = 9) : prt (late 9) 0 l = (l, [], 0) := by
  rw [prt_late, List.filter_eq_self.2 (fun a ha => by simp [h a ha]), List.filter_eq_nil_iff.2 (fun a ha => by simp [h a ha])]
theorem cells_itm {V : World} {H Fx : Nat} {k b : Int} (h : ItAt V H 0 ⟨Fx, k, 1, b, 9⟩) : V.cell? ⟨H, 0, none⟩ = some (.int .u32 (Fx : Int)) ∧ V.cell? ⟨H, 1, none⟩ = some (.int .i64 k) ∧ V.cell? ⟨H, 2, none⟩ = some (.int .i64 1) ∧ V.cell? ⟨H, 3, none⟩ = some (.int .i64 b) ∧ V.cell? ⟨H, 4, none⟩ = some (.int .i64 9) :=
  ⟨h.c0, h.c1, h.c2, h.c3, h.c4⟩
/-- How the statement counts: what was taken so far; far below 0: no more is taken. -/
structure Sm (sum n most : Int) (k : Nat) : Prop where
  hi : sum ≤ 65 * (k : Int)
  eq : (0 ≤ sum ∧ n = most - sum) ∨ (sum = -1099511627776 ∧ n ≤ 0)

set_option maxRecDepth 100000 in
set_option maxHeartbeats 8000000 in
theorem walk (a : Option Addr) (n c : Nat) (x : Nat → Nat) (fr mo : Int) (w : World) (hK : BytesAt w a n x ∧ n ≤ c ∧ c ≤ maxLen) (hfr : (Lit.int .u8 fr).wf = true) (hmo : (Lit.int .u8 mo).wf = true) :
    Calls Try.prog 4 #[.slice a n c, .int .u8 fr, .int .u8 mo] w fun e w' => e = .returned (.bool true) ∧ Below w.heap.size w w' := by
  obtain ⟨hK, hc1, hc2⟩ := hK
  obtain ⟨f0, rfl, hf0⟩ := wf_u8 hfr
  obtain ⟨m0, rfl, hm0⟩ := wf_u8 hmo
  have hB : Hid (Calls Try.prog 8 #[] w fun e w' => e = .returned (.bool true) ∧ Below w.heap.size w w') := begun22 w
  have HK : Hid (BytesAt w a n x) := hK
  have hn64 : (n : Int) ≤ 9223372036854775807 := by unfold maxLen at hc2; omega
  clear hK hc1 hc2 hfr hmo
  obtain ⟨f, hfe⟩ : ∃ f : Nat, f0 % 4 = f := ⟨_, rfl⟩
  have hfi : (f0 : Int) % 4 = (f : Int) := by omega
  have hf4 : f < 4 := by omega
  clear hfe
  by_cases h40 : 40 < n
  · have i1 : (40 : Int) < (n : Int) := by omega
    clear h40
    go_enter Try.func4, Try.ntmps4
    go_wp2_with fail
    refine hB.out.mono ?_
    rintro e w1 ⟨rfl, b1⟩
    have HB : Hid (Below w.heap.size w w1) := b1
    clear b1 hB
    go_wp2
    go_ret
    exact ⟨rfl, HB.out⟩
  have i1 : decide ((40 : Int) < (n : Int)) = false := by simp; omega
  have hn : n ≤ 40 := by omega
  clear h40 hn64
  go_enter Try.func4, Try.ntmps4
  go_wp2_with fail
  refine hB.out.mono ?_
  rintro e w1 ⟨rfl, b1⟩
  obtain ⟨B, hB1⟩ : ∃ B, w1.heap.size = B := ⟨_, rfl⟩
  obtain ⟨x1, e1⟩ : ∃ x, w1.alloc (.cells #[.slice none 0 0] 55) = x := ⟨_, rfl⟩
  have HN : Hid (Calls Try.prog 9 #[] w1 fun e w' => e = .returned (.pointer (some ⟨B, 0, none⟩)) ∧ w' = x1) := by
    rw [← hB1, ← e1]
    exact pnew_any w1
  have HL : Hid (Lp w B (items (itm x) 0) [] x1) := by
    rw [← e1, ← hB1]
    exact Lv.lp ⟨⟨_, QAt.made w1 w.heap.size _ b1.size⟩, b1.trans (((Below.refl _ _).alloc (Nat.le_refl _) _).mono b1.size), Okl.nil⟩
  clear hB b1 hB1 e1
  go_wp2_with fail
  refine HN.out.mono ?_
  rintro e w' ⟨rfl, hw⟩
  subst w'
  clear HN
  go_wp2_with fail
  go_loopw [8, 9, 10] (fun sv mv iv wr => ∃ (k : Nat) (sum : Int) (rm : Option Addr) (cm : Nat) (M : List Int), k ≤ n ∧ iv = .int .i64 (k : Int) ∧ sv = .int .i64 sum ∧ mv = .slice rm M.length cm ∧
    Hid (Sm sum (prt (hold f) (m0 : Int) (items (itm x) k)).2.2 (m0 : Int) k) ∧ Hid (M = (prt (hold f) (m0 : Int) (items (itm x) k)).1.map (·.s)) ∧ Hid (Nr wr w.heap.size (.slice rm M.length cm) M) ∧ Hid (Lp w B (items (itm x) k) (Value.slice rm M.length cm).ownBlock.toList wr)) (fun _ _ iv _ => n - (intOf iv).toNat)
  case atStart => exact ⟨0, 0, none, 0, [], Nat.zero_le _, rfl, rfl, rfl, ⟨by omega, .inl ⟨Int.le_refl _, by simp [items, prt]⟩⟩, rfl, Lr.nil _ _, HL⟩
  case round =>
    obtain ⟨k, sum, rm, cm, M, hk, rfl, rfl, rfl, hsm, hM, hN, hl⟩ := hrel
    clear HL
    have hkb : k ≤ 40 := by omega
    by_cases h : k < n
    · have i2 : (k : Int) < (n : Int) := by omega
      obtain ⟨ab, ao, rfl⟩ := bytes_some HK.out (by omega)
      have c0 := bytes_cell (HK.out.below hl.out.bel (Nat.le_refl _)) k h
      have hx := HK.out.lt k h
      obtain ⟨X, hX⟩ : ∃ X, x k = X := ⟨_, rfl⟩
      rw [hX] at c0 hx
      obtain ⟨Fx, hFx⟩ : ∃ Fx : Nat, X % 4 = Fx := ⟨_, rfl⟩
      obtain ⟨bq, hbq⟩ : ∃ bq : Nat, X / 4 = bq := ⟨_, rfl⟩
      have g1 : (X : Int) % 4 = (Fx : Int) := by omega
      have g2 : (X : Int) / 4 = (bq : Int) := by omega
      have hb64 : bq < 64 := by omega
      have hF4 : Fx < 4 := by omega
      have c1 : (wr.alloc (.cells #[.int .u32 0, .int .i64 0, .int .i64 0, .int .i64 0, .int .i64 0] 32)).cell? ⟨ab, ao + k, none⟩ = some (.int .u8 (X : Int)) :=
        (((Below.refl _ _).alloc (Nat.le_refl _) _).cell (p := ⟨ab, ao + k, none⟩) (cell_lt c0)).trans c0
      obtain ⟨A, hA⟩ : ∃ A, itm x k = A := ⟨_, rfl⟩
      have hAe : A = ⟨Fx, (k : Int), 1, 1 + (bq : Int), 9⟩ := by rw [← hA]; unfold itm; rw [hX, hFx, hbq]
      have HAb : Hid (A.b = 1 + (bq : Int)) := by show _ = _; rw [hAe]
      have HAf : Hid (A.f = Fx) := by show _ = _; rw [hAe]
      have HAs : Hid (A.s = (k : Int)) := by show _ = _; rw [hAe]
      obtain ⟨H, hH⟩ : ∃ H, wr.heap.size = H := ⟨_, rfl⟩
      have hV : ∃ V0, (wr.alloc (.cells #[.int .u32 (Fx : Int), .int .i64 (k : Int), .int .i64 1, .int .i64 (1 + (bq : Int)), .int .i64 9] 32)).drew = V0 := ⟨_, rfl⟩
      obtain ⟨V0, e0⟩ := hV
      have B0 : Below wr.heap.size wr V0 := e0 ▸ ((Below.refl _ _).alloc (Nat.le_refl _) _).drew
      have A0 : ItAt V0 H 0 A := by
        rw [← e0, ← hH, hAe]
        exact (ItAt.made wr _ ⟨Fx, (k : Int), 1, 1 + (bq : Int), 9⟩).grew (below_drews 1)
      have HN0 : Hid (Nr V0 w.heap.size (.slice rm M.length cm) M) := Lr.grew hN.out B0
      have L0 : Lp w B (items (itm x) k) (H :: (Value.slice rm M.length cm).ownBlock.toList) V0 := hl.out.add B0 (Nat.le_of_eq hH) (cell_lt A0.c0)
      have hMl : M.length ≤ 100000 := by
        rw [hM.out, List.length_map]
        have := prt_len (hold f) (m0 : Int) (items (itm x) k)
        rw [items_len] at this
        omega
      have CALL : Hid (Calls Try.prog 10 #[.pointer (some ⟨B, 0, none⟩), .agg #[.int .u32 (Fx : Int), .int .i64 (k : Int), .int .i64 1, .int .i64 (1 + (bq : Int)), .int .i64 9]] V0 fun e w' => e = .returned (.bool true) ∧ Lp w B (items (itm x) (k + 1)) (H :: (Value.slice rm M.length cm).ownBlock.toList) w' ∧ ∀ q, q ∈ H :: (Value.slice rm M.length cm).ownBlock.toList → w'.heap[q]? = V0.heap[q]?) := by
        have := put_lp A L0 ⟨by rw [HAb.out]; omega, by rw [HAb.out]; omega, by rw [items_len]; omega⟩ (by rw [HAf.out]; omega)
        rw [hAe] at this
        rw [items_next, hA, hAe]
        exact this
      have HA0 : Hid (ItAt V0 H 0 A) := A0
      have HP : Hid (prt (hold f) (m0 : Int) (items (itm x) (k + 1)) = pst (hold f) (prt (hold f) (m0 : Int) (items (itm x) k)) A) := by show _ = _; rw [items_next, prt_snoc, hA]
      have HV0 : Hid (∀ g, (Value.slice rm M.length cm).ownBlock = some g → w.heap.size ≤ g ∧ g ≠ H) := fun g e => by have := Lr.lt hN.out g e; exact ⟨this.1, by omega⟩
      have HAe : Hid (A = ⟨Fx, (k : Int), 1, 1 + (bq : Int), 9⟩) := hAe
      obtain ⟨d0, d1, d2, d3, d4⟩ := cells_itm (hAe ▸ A0 : ItAt V0 H 0 ⟨Fx, (k : Int), 1, 1 + (bq : Int), 9⟩)
      clear hX hFx hbq hA hAe B0 A0 L0 hN hl
      go_wp2_with fail
      go_region
      clear c0 c1 e0 hH
      go_wp2_with fail
      refine CALL.out.mono ?_
      rintro e w2 ⟨rfl, L2, hk2⟩
      have A2 : ItAt w2 H 0 A := HA0.out.block (hk2 H (by simp))
      have HN2 : Hid (Nr w2 w.heap.size (.slice rm M.length cm) M) := Lr.block HN0.out (fun g e => hk2 g (List.mem_cons_of_mem _ (by rw [e]; simp)))
      have HL2 : Hid (Lp w B (items (itm x) (k + 1)) (Value.slice rm M.length cm).ownBlock.toList w2) := L2.less (fun q hq => List.mem_cons_of_mem _ hq)
      have HA2 : Hid (ItAt w2 H 0 A) := A2
      rw [HAe.out] at A2
      obtain ⟨d0, d1, d2, d3, d4⟩ := cells_itm A2
      obtain ⟨hhi, heq⟩ := hsm.out
      obtain ⟨nn, hnn⟩ : ∃ nn, (prt (hold f) (m0 : Int) (items (itm x) k)).2.2 = nn := ⟨_, rfl⟩
      rw [hnn] at heq
      clear CALL HA0 HN0 L2 hk2
      by_cases hff : Fx = f
      case neg =>
        have i3 : ((Fx : Int) == (f : Int)) = false := by simp; omega
        have hh : hold f nn A = (false, nn) := if_neg (by rw [HAf.out]; exact hff)
        obtain ⟨p1, p2, p3⟩ := pst_no (x := prt (hold f) (m0 : Int) (items (itm x) k)) (hnn.symm ▸ hh)
        rw [← HP.out] at p1 p2 p3
        have HS3 : Hid (Sm sum (prt (hold f) (m0 : Int) (items (itm x) (k + 1))).2.2 (m0 : Int) (k + 1)) := by rw [p3, hnn]; exact ⟨by omega, heq⟩
        have HM3 : Hid (M = (prt (hold f) (m0 : Int) (items (itm x) (k + 1))).1.map (·.s)) := by show _ = _; rw [p1]; exact hM.out
        clear hsm hM hh p1 p2 p3 hnn heq HP hff HA2
        go_wp2_with fail
        go_roundw
        case rel => exact ⟨k + 1, sum, rm, cm, M, by omega, by go_num, rfl, rfl, HS3, HM3, HN2, HL2⟩
        case measure => simp [intOf]; omega
      case pos =>
      have i3 : ((Fx : Int) == (f : Int)) = true := by simp [hff]
      have i7 : IntKind.i64.wrap (sum + (1 + (bq : Int))) = sum + (1 + (bq : Int)) := w64 _ (by omega) (by omega)
      by_cases hfit : 0 ≤ sum ∧ sum + (1 + (bq : Int)) ≤ (m0 : Int)
      case pos =>
        have hn2 : nn = (m0 : Int) - sum := by
          rcases heq with ⟨-, h⟩ | ⟨h, -⟩
          · exact h
          · omega
        have hh : hold f nn A = (true, nn - A.b) := by unfold hold; rw [if_pos (by rw [HAf.out]; exact hff), if_pos (by rw [HAb.out]; omega)]
        obtain ⟨p1, p2, p3⟩ := pst_go (x := prt (hold f) (m0 : Int) (items (itm x) k)) (by rw [hnn]; exact hh)
        rw [← HP.out] at p1 p2 p3
        have HS3 : Hid (Sm (sum + (1 + (bq : Int))) (prt (hold f) (m0 : Int) (items (itm x) (k + 1))).2.2 (m0 : Int) (k + 1)) := by rw [p3, hnn, HAb.out]; exact ⟨by omega, .inl ⟨by omega, by omega⟩⟩
        have HM3 : Hid (M ++ [(k : Int)] = (prt (hold f) (m0 : Int) (items (itm x) (k + 1))).1.map (·.s)) := by show _ = _; rw [p1, List.map_append, ← hM.out]; simp [HAs.out]
        obtain ⟨z0, hz0⟩ : ∃ z, w2.drew = z := ⟨_, rfl⟩
        have BZ : Below w2.heap.size w2 z0 := hz0 ▸ below_drews 1
        have A3 : ItAt z0 H 0 A := HA2.out.grew BZ
        obtain ⟨H2, hH2⟩ : ∃ H2, z0.heap.size = H2 := ⟨_, rfl⟩
        obtain ⟨y1, e1⟩ : ∃ y, z0.alloc (.cells #[.int .i64 (k : Int)] 3) = y := ⟨_, rfl⟩
        have B1 : Below z0.heap.size z0 y1 := e1 ▸ (Below.refl _ _).alloc (Nat.le_refl _) _
        have c9 : y1.cell? ⟨H2, 0, none⟩ = some (.int .i64 (k : Int)) := by rw [← e1, ← hH2, World.cell?_alloc_at _ _ _ _ rfl]; rfl
        have R1 : Nr y1 w.heap.size (.slice rm M.length cm) M := Lr.grew (Lr.grew HN2.out BZ) B1
        have L1 := (HL2.out.grew BZ).grew B1
        obtain ⟨r3, c3, w3, happ, R3, g3, hw3⟩ := nr_push 48 R1 c9 hMl L1.bel.size
        have A4 : ItAt y1 H 0 A := A3.grew B1
        have A5 : ItAt w3 H 0 A := A4.block (g3.block H (cell_lt A4.c0) (fun e => (HV0.out H e.symm).2 rfl))
        have HZ : Hid (ItAt z0 H 0 A ∧ ItAt y1 H 0 A ∧ ItAt w3 H 0 A) := ⟨A3, A4, A5⟩
        have HL3 := L1.row (vm' := .slice r3 (M ++ [(k : Int)]).length c3) g3 hw3 (fun g e => (HV0.out g e).1) (fun g e => (Lr.lt R3 g e).2)
        obtain ⟨N3, hN3⟩ : ∃ N3, (M ++ [(k : Int)]).length = N3 := ⟨_, rfl⟩
        rw [hN3] at happ HL3 R3
        have HN3 : Hid ((M ++ [(k : Int)]).length = N3) := hN3
        have HL3 : Hid (Lp w B (items (itm x) (k + 1)) (Value.slice r3 N3 c3).ownBlock.toList w3) := HL3
        have HR3 : Hid (Nr w3 w.heap.size (.slice r3 N3 c3) (M ++ [(k : Int)])) := R3
        have i4 : decide (0 ≤ sum) = true := decide_eq_true hfit.1
        have i5 : decide (sum + (1 + (bq : Int)) ≤ (m0 : Int)) = true := decide_eq_true hfit.2
        rw [hff] at d0
        clear i3 hsm hM hh p1 p2 p3 hnn heq HP hff HA2 BZ A3 B1 c9 R1 L1 g3 hw3 A4 A5 hN3 hfit hn2
        go_wp2_with fail
        refine wp_region_held (S := fun W => ItAt W H 0 A) (by kernel_rfl) ?_
        change wpAnyH _ _ _ _ _ _ _ _ w2.drew
        rw [hz0]
        have hr := HZ.out.1
        refine wpAnyH_take (i := 0) (v := .int .i64 sum) rfl (by kernel_rfl) (by kernel_rfl) (by kernel_rfl) (fun _ _ _ h => h) (Yields.yieldsIf (Or.inl ⟨by kernel_rfl, fun _ => by go_simp⟩)) hr ?_
        refine wpAnyH_take (i := 1) (v := .pointer (some ⟨H, 3, none⟩)) rfl (by kernel_rfl) (by kernel_rfl) (by kernel_rfl) (fun _ _ _ h => h) (Yields.yieldsIf (Or.inl ⟨by kernel_rfl, fun _ => by go_simp⟩)) hr ?_
        refine wpAnyH_take (i := 2) (v := .int .i64 (1 + (bq : Int))) rfl (by kernel_rfl) (by kernel_rfl) (by kernel_rfl) (fun _ _ _ h => h) (Or.inl ⟨by kernel_rfl, fun W hW => by have c3 := hW.c3; rw [HAb.out] at c3; go_simp⟩) hr ?_
        refine wpAnyH_take (i := 3) (v := .int .i64 (sum + (1 + (bq : Int)))) rfl (by kernel_rfl) (by kernel_rfl) (by kernel_rfl) (fun _ _ _ h => h) (Yields.yieldsIf (Or.inl ⟨by kernel_rfl, fun _ => by go_simp⟩)) hr ?_
        refine wpAnyH_take (i := 4) (v := .slice rm M.length cm) rfl (by kernel_rfl) (by kernel_rfl) (by kernel_rfl) (fun _ _ _ h => h) (Yields.yieldsIf (Or.inl ⟨by kernel_rfl, fun _ => by go_simp⟩)) hr ?_
        refine wpAnyH_take (i := 5) (v := .int .i64 (k : Int)) rfl (by kernel_rfl) (by kernel_rfl) (by kernel_rfl) (fun _ _ _ h => h) (Yields.yieldsIf (Or.inl ⟨by kernel_rfl, fun _ => by go_simp⟩)) hr ?_
        refine wpAnyH_ready (rs := [6]) (by kernel_rfl) (by simp) ?_
        refine AllReadyH.cons rfl (fun K2 hK2 => ?_) AllReadyH.nil
        go_simp
        refine hK2.out _ _ HZ.out.2.1 (fun hr => ?_)
        clear hK2 K2
        refine wpAnyH_ready (rs := [7]) (by kernel_rfl) (by simp) ?_
        refine AllReadyH.cons rfl (fun K2 hK2 => ?_) AllReadyH.nil
        refine step_append_run rfl (.tmp 75) (.tmp 77) 48 rfl _ _ rfl rfl _ _ happ ?_
        refine hK2.out _ _ HZ.out.2.2 (fun hr => ?_)
        clear hK2 K2
        refine wpAnyH_take (i := 8) (v := .int .i64 (sum + (1 + (bq : Int)))) rfl (by kernel_rfl) (by kernel_rfl) (by kernel_rfl) (fun _ _ _ h => h) (Yields.yieldsIf (Or.inl ⟨by kernel_rfl, fun _ => by kernel_rfl⟩)) hr ?_
        refine wpAnyH_take (i := 9) (v := .slice r3 N3 c3) rfl (by kernel_rfl) (by kernel_rfl) (by kernel_rfl) (fun _ _ _ h => h) (Yields.yieldsIf (Or.inl ⟨by kernel_rfl, fun _ => by kernel_rfl⟩)) hr ?_
        refine wpAnyH_done (by kernel_rfl) ?_ _
        clear hr HZ happ
        go_wp2_with fail
        go_roundw
        case rel => exact ⟨k + 1, sum + (1 + (bq : Int)), r3, c3, M ++ [(k : Int)], by omega, by go_num, rfl, by rw [HN3.out], HS3, HM3, by rw [HN3.out]; exact HR3, by rw [HN3.out]; exact HL3⟩
        case measure => simp [intOf]; omega
      case neg =>
        have hh : hold f nn A = (false, 0) := by
          unfold hold
          rw [if_pos (by rw [HAf.out]; exact hff), if_neg ?_]
          rw [HAb.out]
          rcases heq with ⟨h1, h2⟩ | ⟨h1, h2⟩ <;> omega
        obtain ⟨p1, p2, p3⟩ := pst_no (x := prt (hold f) (m0 : Int) (items (itm x) k)) (hnn.symm ▸ hh)
        rw [← HP.out] at p1 p2 p3
        have HS3 : Hid (Sm (-1099511627776) (prt (hold f) (m0 : Int) (items (itm x) (k + 1))).2.2 (m0 : Int) (k + 1)) := by rw [p3]; exact ⟨by omega, .inr ⟨rfl, Int.le_refl _⟩⟩
        have HM3 : Hid (M = (prt (hold f) (m0 : Int) (items (itm x) (k + 1))).1.map (·.s)) := by show _ = _; rw [p1]; exact hM.out
        rw [hff] at d0
        by_cases h0 : 0 ≤ sum
        · have i4 : decide (0 ≤ sum) = true := decide_eq_true h0
          have i5 : decide (sum + (1 + (bq : Int)) ≤ (m0 : Int)) = false := decide_eq_false (fun h => hfit ⟨h0, h⟩)
          clear i3 hsm hM hh p1 p2 p3 hnn heq HP hff HA2 hfit h0
          go_wp2_with fail
          go_roundw
          case rel => exact ⟨k + 1, -1099511627776, rm, cm, M, by omega, by go_num, rfl, rfl, HS3, HM3, HN2, HL2⟩
          case measure => simp [intOf]; omega
        · have i4 : decide (0 ≤ sum) = false := decide_eq_false h0
          clear i3 hsm hM hh p1 p2 p3 hnn heq HP hff HA2 hfit h0
          go_wp2_with fail
          go_roundw
          case rel => exact ⟨k + 1, -1099511627776, rm, cm, M, by omega, by go_num, rfl, rfl, HS3, HM3, HN2, HL2⟩
          case measure => simp [intOf]; omega
    · obtain rfl : k = n := by omega
      have i2 : decide ((k : Int) < (k : Int)) = false := by simp
      have hkb : k ≤ 40 := hn
      have CALL : Hid (Calls Try.prog 13 #[.pointer (some ⟨B, 0, none⟩), .int .u32 (f : Int), .int .i64 (m0 : Int)] wr fun e w' => (∃ r cp, e = .returned (.slice r (prt (hold f) (m0 : Int) (items (itm x) k)).1.length cp) ∧ LsAt iE w' r (prt (hold f) (m0 : Int) (items (itm x) k)).1) ∧ Lp w B (prt (hold f) (m0 : Int) (items (itm x) k)).2.1 (Value.slice rm M.length cm).ownBlock.toList w' ∧ ∀ q, q ∈ (Value.slice rm M.length cm).ownBlock.toList → w'.heap[q]? = wr.heap[q]?) := take_lp f (m0 : Int) hl.out (by omega)
      have hap := take_apart (x := x) (n := k) (f := f) (most := (m0 : Int))
      obtain ⟨-, hs2, -⟩ := prt_sub (hold f) (m0 : Int) (items (itm x) k)
      have hSo := sub_ord hs2 (items_ord (itm x) (fun _ => rfl) k)
      have hS9 : ∀ a, a ∈ (prt (hold f) (m0 : Int) (items (itm x) k)).2.1 → a.d = 9 ∧ -1 < a.s := fun a ha => by
        obtain ⟨i, -, rfl⟩ := List.mem_map.1 (hs2.mem ha)
        exact ⟨rfl, by show (-1 : Int) < (i : Int); omega⟩
      have hlen := prt_len (hold f) (m0 : Int) (items (itm x) k)
      rw [items_len] at hlen
      have hM1 := hM.out
      have hMl : M.length = (prt (hold f) (m0 : Int) (items (itm x) k)).1.length := by rw [hM1, List.length_map]
      generalize (prt (hold f) (m0 : Int) (items (itm x) k)).1 = G at *
      generalize (prt (hold f) (m0 : Int) (items (itm x) k)).2.1 = S at *
      rw [← hMl] at CALL hlen
      have HAP : Hid (∀ i (hi : i < S.length) j (hj : j < M.length), S[i].s ≠ M[j]) := by
        show ∀ i, _
        intro i hi j hj
        have := hap i hi j (by omega)
        simpa [hM1] using this
      have HEQ : Hid (∀ j (hj : j < M.length) (hg : j < G.length), G[j].s = M[j]) := by
        show ∀ j, _
        intro j hj hg
        simp [hM1]
      have HGl : Hid (G.length = M.length) := hMl.symm
      have HSo : Hid (S.Pairwise fun a b => a.s < b.s) := hSo
      have HS1 : Hid (∀ j (hj : j < S.length), -1 < S[j].s) := fun j hj => (hS9 _ (List.getElem_mem hj)).2
      have hMb : M.length ≤ 40 := by omega
      have hSb : S.length ≤ 40 := by omega
      have i8 : IntKind.i64.wrap ((k : Int) - (M.length : Int)) = (S.length : Int) := by rw [w64 _ (by omega) (by omega)]; omega
      have HNr : Hid (Nr wr w.heap.size (.slice rm M.length cm) M) := hN
      have HL9 : Hid (prt (late 9) 0 S = (S, [], 0)) := late_all (fun a ha => (hS9 a ha).1)
      clear hap hs2 hSo hS9 hlen hM1 hMl hM hN hl hsm
      go_wp2_with fail
      refine CALL.out.mono ?_
      rintro e w2 ⟨⟨r, cp, rfl, hls⟩, L2, hk2⟩
      have HG : Hid (LsAt iE w2 r G) := hls
      have HN2 : Hid (Nr w2 w.heap.size (.slice rm M.length cm) M) := Lr.block HNr.out (fun g e => hk2 g (by rw [e]; simp))
      have HL2 : Hid (Lp w B S (Value.slice rm M.length cm).ownBlock.toList w2) := L2
      have C1 : Hid (Calls Try.prog 23 #[.pointer (some ⟨B, 0, none⟩)] w2 fun e w' => e = .returned (.int .i64 (S.length : Int)) ∧ w' = w2) := len_lv L2.lv
      clear CALL hls L2 hk2 HNr
      go_wp2_with fail
      refine C1.out.mono ?_
      rintro e w' ⟨rfl, hw⟩
      subst w'
      clear C1
      go_wp2_with fail
      generalize wr = wo at *
      go_loopw [13] (fun iv wr => ∃ i : Nat, i ≤ M.length ∧ iv = .int .i64 (i : Int) ∧ Hid (Same w2 wr)) (fun iv _ => M.length - (intOf iv).toNat)
      case atStart => exact ⟨0, Nat.zero_le _, rfl, Same.refl _⟩
      case round =>
        obtain ⟨i, hi, rfl, hs⟩ := hrel
        by_cases him : i < M.length
        · have j1 : (i : Int) < (M.length : Int) := by omega
          have hiG : i < G.length := by rw [HGl.out]; exact him
          obtain ⟨b0, o0, rfl⟩ := HG.out.addr (by omega)
          obtain ⟨c0, c1, c2, c3, c4⟩ := ls_it (HG.out.below (hs.out.below w2.heap.size) (Nat.le_refl _)) i hiG
          obtain ⟨rm', cm', em, hlm, -⟩ := Lr.any HN2.out
          injection em with em1 em2 em3
          clear em2
          subst em1
          obtain ⟨b1, o1, rfl⟩ := hlm.addr (by omega)
          have d1 := ls_n (hlm.below (hs.out.below w2.heap.size) (Nat.le_refl _)) i him
          rw [← HEQ.out i him hiG] at d1
          generalize G[i] = A at *
          clear hlm
          go_wp2_with fail
          go_quiet (fail)
          go_wp2_with fail
          go_roundw
          case rel => exact ⟨i + 1, by omega, by go_num, hs.out.trans ⟨_, rfl⟩⟩
          case measure => simp [intOf]; omega
        · obtain rfl : i = M.length := by omega
          have j1 : decide ((M.length : Int) < (M.length : Int)) = false := by simp
          have L3 := HL2.out.grew (hs.out.below _)
          have HN3 : Hid (Nr wr w.heap.size (.slice rm M.length cm) M) := Lr.grew HN2.out (hs.out.below _)
          have CALL : Hid (Calls Try.prog 15 #[.pointer (some ⟨B, 0, none⟩), .int .i64 9] wr fun e w' => (∃ r cp, e = .returned (.slice r S.length cp) ∧ LsAt iE w' r S) ∧ Lp w B [] (Value.slice rm M.length cm).ownBlock.toList w' ∧ ∀ q, q ∈ (Value.slice rm M.length cm).ownBlock.toList → w'.heap[q]? = wr.heap[q]?) := by
            have := expire_lp 9 L3
            rw [HL9.out] at this
            exact this
          clear HL2 HN2 HG hs L3
          go_wp2_with fail
          refine CALL.out.mono ?_
          rintro e w4 ⟨⟨r4, c4, rfl, hls⟩, L4, hk4⟩
          have HE : Hid (LsAt iE w4 r4 S) := hls
          have HN4 : Hid (Nr w4 w.heap.size (.slice rm M.length cm) M) := Lr.block HN3.out (fun g e => hk4 g (by rw [e]; simp))
          have HL4 : Hid (Lv w B [] w4) := L4.lv
          clear CALL hls L4 hk4 HN3
          go_wp2_with fail
          generalize wr = wp at *
          go_loopw [14, 16] (fun lv iv wr => ∃ (i : Nat) (la : Int), i ≤ S.length ∧ iv = .int .i64 (i : Int) ∧ lv = .int .i64 la ∧ Hid (∀ j (hj : j < S.length), i ≤ j → la < S[j].s) ∧ Hid (Same w4 wr)) (fun _ iv _ => S.length - (intOf iv).toNat)
          case atStart => exact ⟨0, -1, Nat.zero_le _, rfl, rfl, fun j hj _ => HS1.out j hj, Same.refl _⟩
          case round =>
            obtain ⟨i, la, hi, rfl, rfl, hla, hs⟩ := hrel
            by_cases his : i < S.length
            · have j2 : (i : Int) < (S.length : Int) := by omega
              go_wp2_with fail
              generalize wr = wq at *
              go_loopw [17] (fun jv wr => ∃ j : Nat, j ≤ M.length ∧ jv = .int .i64 (j : Int) ∧ Hid (Same w4 wr)) (fun jv _ => M.length - (intOf jv).toNat)
              case atStart => exact ⟨0, Nat.zero_le _, rfl, hs⟩
              case round =>
                obtain ⟨j, hj, rfl, hs⟩ := hrel
                obtain ⟨b0, o0, rfl⟩ := HE.out.addr (by omega)
                obtain ⟨c0, c1, c2, c3, c4⟩ := ls_it (HE.out.below (hs.out.below w4.heap.size) (Nat.le_refl _)) i his
                by_cases hjm : j < M.length
                · have j3 : (j : Int) < (M.length : Int) := by omega
                  obtain ⟨rm', cm', em, hlm, -⟩ := Lr.any HN4.out
                  injection em with em1 em2 em3
                  clear em2
                  subst em1
                  obtain ⟨b1, o1, rfl⟩ := hlm.addr (by omega)
                  have d1 := ls_n (hlm.below (hs.out.below w4.heap.size) (Nat.le_refl _)) j hjm
                  have j4 : (S[i].s == M[j]) = false := by
                    have := HAP.out i his j hjm
                    simpa using this
                  generalize S[i] = A at *
                  generalize M[j] = Z at *
                  clear hlm
                  go_wp2_with fail
                  go_quiet (fail)
                  go_wp2_with fail
                  go_roundw
                  case rel => exact ⟨j + 1, by omega, by go_num, hs.out.trans ⟨_, rfl⟩⟩
                  case measure => simp [intOf]; omega
                · obtain rfl : j = M.length := by omega
                  have j3 : decide ((M.length : Int) < (M.length : Int)) = false := by simp
                  have j4 : decide (S[i].s ≤ la) = false := by
                    have := hla.out i his (Nat.le_refl _)
                    simpa using this
                  have HLA : Hid (∀ j (hj : j < S.length), i + 1 ≤ j → S[i].s < S[j].s) := fun j hj h => List.pairwise_iff_getElem.1 HSo.out i j his hj (by omega)
                  generalize S[i] = A at *
                  clear hla
                  go_wp2_with fail
                  go_roundw
                  case rel => exact ⟨i + 1, A.s, by omega, by go_num, rfl, HLA, hs⟩
                  case measure => simp [intOf]; omega
            · obtain rfl : i = S.length := by omega
              have j2 : decide ((S.length : Int) < (S.length : Int)) = false := by simp
              have L5 : Lv w B [] wr := HL4.out.grew (hs.out.below _)
              have C1 : Hid (Calls Try.prog 23 #[.pointer (some ⟨B, 0, none⟩)] wr fun e w' => e = .returned (.int .i64 0) ∧ w' = wr) := len_lv L5
              have HX : Hid (Below w.heap.size w wr) := L5.bel
              clear L5 hla hs
              go_wp2_with fail
              refine C1.out.mono ?_
              rintro e w' ⟨rfl, hw⟩
              subst w'
              clear C1
              go_wp2_with fail
              go_ret
              exact ⟨rfl, HX.out⟩

set_option maxRecDepth 100000 in
theorem lifted (os : Os) (started : os.Started) (H : Type) (enc : TypeId × Value → H) :
    ReturnsInHanded {} Try.checked os 4 .any (Rows.paceTakesSpec.pre6 enc Try.prog Try.f4 Rows.paceTakesRow.domain false) (Rows.paceTakesSpec.post enc Try.prog Try.f4 false true false false) := by
  refine returnsInHanded_of_change (C := Try.checked) own started (by kernel_rfl) Try.func4
    (ChangeSpec.witness6 (enc := enc) (C := Try.checked) false ⟨#[], #[.slice none 0 0, .int .u8 0, .int .u8 0], []⟩ 8 (by kernel_rfl) (by kernel_rfl) (by kernel_rfl) (by kernel_rfl)) ?_
  intro W base args ds gs before hval0 hW hcnd _
  have hval : ∀ (j : Nat) t v, Try.f4.params[j]? = some t → args[j]? = some v → Value.okWide Try.prog W .any base t v := hval0
  have hW' := hW
  obtain ⟨p, q, hA0, hV, rfl, hfz, hnd⟩ := hW
  have hA : DataW.TrodAll enc Try.prog W 0 (fun _ => true) true Try.f4.params.toList args.toList ds p := hA0
  rw [Try.params4] at hA hval
  obtain ⟨v0, vs0, d0, ds0, p0, q0, hargs, rfl, rfl, h0, r0⟩ := trodAll_cons hA
  obtain ⟨v1, vs1, d1, ds1, p1, q1, rfl, rfl, rfl, h1, r1⟩ := trodAll_cons r0
  obtain ⟨v2, vs2, d2, ds2, p2, q2, rfl, rfl, rfl, h2, r2⟩ := trodAll_cons r1
  obtain ⟨rfl, rfl, rfl⟩ := trodAll_nil r2
  obtain rfl : args = #[v0, v1, v2] := by cases args; simp_all
  obtain ⟨rfl, rfl⟩ := trodVars_none hV
  obtain ⟨a0, len0, cap0, rfl⟩ := okWide_slice Try.underlying47 (hval 0 47 v0 rfl rfl)
  have k0 := h0
  have lt0 : ∀ x ∈ p0, x.block < W.heap.size := by obtain ⟨m, hm⟩ := k0; exact DataW.trod_lt m _ _ _ hm
  obtain ⟨x0, w0⟩ : ∃ x, BytesAt W a0 len0 x ∧ len0 ≤ cap0 ∧ cap0 ≤ maxLen := open_bytes Try.underlying47 Try.underlying5 (by kernel_rfl) h0
  obtain ⟨a1, rfl, rfl, rfl, w1⟩ := open_int Try.underlying5 (hval 1 5 v1 rfl rfl) h1
  obtain ⟨a2, rfl, rfl, rfl, w2⟩ := open_int Try.underlying5 (hval 2 5 v2 rfl rfl) h2
  clear hA0 hval0
  refine (walk a0 len0 cap0 x0 a1 a2 W w0 w1 w2).mono fun e W' ⟨he, bel⟩ => ?_
  subst he
  exact ⟨_, rfl, _, _, _, [], _, [], hW', trodAll_mk1 (shut_bool Try.underlying4 _), (trodAll_cons_mk (Below.trod laidOut (by kernel_rfl) (of_decide_eq_true (by kernel_rfl)) k0 bel lt0) (trodAll_cons_mk (shut_int Try.underlying5 w1) (trodAll_cons_mk (shut_int Try.underlying5 w2) trodAll_mk0))), rfl, bel.frame _, fun h => by cases h⟩

theorem over : Rows.paceTakesRow.holds Try.pinned (OpenSpec.ofChange Rows.paceTakesSpec) :=
  OpenClaim.holds_of_wide 4 Try.f4 rfl rfl rfl rfl rfl rfl rfl ⟨rfl, rfl, rfl, rfl, rfl⟩ rfl rfl rfl rfl rfl (by kernel_rfl) Try.func4 (by kernel_rfl)
    (of_decide_eq_true (by kernel_rfl)) (by unfold Func.isWrapper; first | (rw [if_pos (by decide +kernel)]; kernel_rfl) | (rw [if_neg (by decide +kernel)]; exact ⟨rfl, rfl⟩))
    (fun os started H enc _ => lifted os started H enc)

theorem proved : Rows.PaceTakesSaid := over
end Go.Proofs.Ytaikkoijoolhkaa.paceTakes
namespace Go.Proofs.Ytaikkoijoolhkaa
theorem paceTakes_holds : Rows.PaceTakesSaid := paceTakes.proved
#print axioms paceTakes_holds
end Go.Proofs.Ytaikkoijoolhkaa
