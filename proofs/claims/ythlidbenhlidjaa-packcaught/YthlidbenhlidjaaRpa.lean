/-
  The document's Packets.
-/
import Derived.Test.YthlidbenhlidjaaPka
import Derived.Test.YthlidbenhlidjaaFre
import Derived.OrdersHeld
import Derived.Deep.RegionHeld
namespace Go.Proofs.Ythlidbenhlidjaa
open Go.RowKit Go.Deep

theorem cnt_pos' {n : Nat} {s : Int} (h : 1 ≤ s ∧ s ≤ 64 ∧ 1 ≤ (n : Int) ∧ (n : Int) ≤ 32 * s) : 1 ≤ cntOf n s.toNat ∧ cntOf n s.toNat ≤ 32 := by
  obtain ⟨m, rfl⟩ : ∃ m : Nat, s = m := ⟨s.toNat, by omega⟩
  rw [Int.toNat_natCast]
  refine ⟨?_, cnt_le n m (by omega) (by omega)⟩
  unfold cntOf
  exact (Nat.le_div_iff_mul_le (by omega)).2 (by omega)
theorem rask_no (f : Int) (id s : Int) (a : Option Addr) (n c : Nat) (x : Nat → Nat) (w : World) (hx : BytesAt w a n x) (hno : ¬ fitS n s id) :
    Calls Try.prog 22 #[.int .u32 f, .slice a n c, .int .i64 s, .int .i64 id] w fun e w' => SymNo w e w' := by
  by_cases g : 1 ≤ s ∧ s ≤ 64 ∧ 1 ≤ (n : Int) ∧ (n : Int) ≤ 32 * s
  · have k1 := (cnt_pos' g).1
    obtain ⟨m, rfl⟩ : ∃ m : Nat, s = m := ⟨s.toNat, by omega⟩
    rw [Int.toNat_natCast] at k1
    refine rsymbol_dice f id a n c m _ x w hx (by omega) (by omega) (by omega) (by omega) rfl k1 fun h2 => hno ⟨g, h2.1, ?_⟩
    rw [Int.toNat_natCast]
    exact h2.2
  · exact rsymbol_cut f id s a n c w g
theorem rask_yes (f : Nat) (id s : Int) (a : Option Addr) (n c : Nat) (x : Nat → Nat) (w : World) (hx : BytesAt w a n x) (hf : f < 4294967296) (hfit : fitS n s id) :
    Calls Try.prog 22 #[.int .u32 (f : Int), .slice a n c, .int .i64 s, .int .i64 id] w fun e w' => RSymAns w s.toNat (symOf f x n s.toNat id.toNat) e w' := by
  obtain ⟨g, z1, z2⟩ := hfit
  obtain ⟨k1, k2⟩ := cnt_pos' g
  obtain ⟨m, rfl⟩ : ∃ m : Nat, s = m := ⟨s.toNat, by omega⟩
  obtain ⟨i, rfl⟩ : ∃ i : Nat, id = i := ⟨id.toNat, by omega⟩
  simp only [Int.toNat_natCast] at z2 k1 k2 ⊢
  exact rsymbol_yes f i a n c m _ x w hx hf (by omega) (by omega) (by omega) (by omega) rfl k1 k2 (by omega)

set_option maxRecDepth 100000 in
set_option maxHeartbeats 2000000 in
theorem rpackets_any (F : Fr) (a : Option Addr) (n c : Nat) (s : Int) (ia : Option Addr) (m ic q t : Nat) (z : Nat → Int) (x : Nat → Nat) (w : World) (hx : BytesAt w a n x) (hz : IntsAt w ia m z) (hm : m ≤ 1000) (hf : F.id < 4294967296) (hq : q < 65536) :
    Calls Try.prog 10 #[F.val, .slice a n c, .int .i64 s, .slice ia m ic, .int .u16 (q : Int), .int .u16 (t : Int)] w (PacksIs w true m q t F.id n F.s s x z) := by
  obtain ⟨w1, e1⟩ : ∃ y, w.alloc (.cells #[.int .u32 (F.id : Int), .int .i64 F.k, .slice F.a F.n F.c, .int .i64 F.s, .int .i64 F.p, .int .i64 F.d] 25) = y := ⟨_, rfl⟩
  have B1 : Below w.heap.size w w1 := e1 ▸ (Below.refl _ _).alloc (Nat.le_refl _) _
  have F1 : FrAt w1 w.heap.size F := e1 ▸ FrAt.made w _ F
  have HB1 : Hid (Below w.heap.size w w1) := B1
  have HX : Hid (BytesAt w1 a n x) := hx.grew B1
  have HZ : Hid (IntsAt w1 ia m z) := hz.below B1 (Nat.le_refl _)
  have lR : w.heap.size < w1.heap.size := F1.lt
  obtain ⟨f0, f1, f2, f3, f4, f5, -⟩ := F1
  clear B1 hx hz
  unfold Fr.val
  by_cases hs : F.s = (n : Int)
  case neg =>
    have HN : Hid (¬ (F.s = (n : Int) ∧ Fit true n s z m)) := fun h => hs h.1
    have h1 : ((n : Int) != F.s) = true := by simp; omega
    clear hs
    go_enter Try.func10, Try.ntmps10
    go_wp2
    go_ret2
    exact .inr ⟨HN.out, rfl, HB1.out⟩
  have HSN : Hid (F.s = (n : Int)) := hs
  have h1 : ((n : Int) != F.s) = false := by simp; omega
  clear hs
  go_enter Try.func10, Try.ntmps10
  go_wp2_with fail
  clear e1 h1
  go_loopw [14, 15] (fun l i wr => ∃ (j : Nat) (K : Nat → Dt), i = .int .i64 j ∧ j ≤ m ∧ Hid (Fit true n s z j) ∧ Hid (Dts wr w1.heap.size l j K (fun i => symOf F.id x n s.toNat (z i).toNat)) ∧ Hid (Told15 j q t F.id s.toNat z K) ∧ Hid (Below w1.heap.size w1 wr)) (fun _ i _ => m - (intOf i).toNat)
  case atStart => exact ⟨0, fun _ => ⟨0, 0, 0, 0, none, 0, 0⟩, rfl, Nat.zero_le _, fun i hi => absurd hi (Nat.not_lt_zero i), Dts.nil _ _ _ _, Told15.nil _ _ _ _ _ _, Below.refl _ _⟩
  case round =>
    obtain ⟨j, K, rfl, hj, hfit, hds, htl, hbl⟩ := hrel
    by_cases hjm : j < m
    case neg =>
      obtain rfl : j = m := by omega
      have j1 : decide ((j : Int) < (j : Int)) = false := by simp
      obtain ⟨r, cap, rfl, -⟩ := hds.out.row.any
      have HA : Hid (PacksIs w true j q t F.id n F.s s x z (.returned (.tuple #[.slice r j cap, .bool true])) wr) := .inl ⟨⟨HSN.out, hfit.out⟩, _, K, rfl, hds.out.base (by omega), htl.out, HB1.out.trans (hbl.out.mono (by omega))⟩
      clear hds htl hfit hbl
      go_wp2
      go_ret2
      exact HA.out
    have j1 : (j : Int) < (m : Int) := by omega
    obtain ⟨ib, io, rfl⟩ := HZ.out.addr (by omega)
    have C1 := HZ.out.at j hjm
    obtain ⟨r, cap, rfl, -, -⟩ := hds.out.row.any
    obtain ⟨zj, hzj⟩ : ∃ zj, zj = z j := ⟨_, rfl⟩
    have HZJ : Hid (zj = z j) := hzj
    rw [← hzj] at C1
    clear hzj
    go_wp2_with fail
    refine wp_region_held (S := fun W => Below w1.heap.size w1 W) (by kernel_rfl) ?_
    change wpAnyH _ _ _ _ _ _ _ _ wr.drew
    have hr : Below w1.heap.size w1 wr.drew := hbl.out.drew
    have HR : Hid (Below w1.heap.size w1 wr.drew) := hr
    have hds : Hid (Dts wr.drew w1.heap.size (.slice r j cap) j K (fun i => symOf F.id x n s.toNat (z i).toNat)) := hds.out.grew (below_drews 1)
    clear hbl
    generalize wr.drew = w2 at *
    refine wpAnyH_take (i := 0) (v := .pointer (some ⟨w.heap.size, 0, none⟩)) rfl (by kernel_rfl) (by kernel_rfl) (by kernel_rfl) (fun _ _ _ h => h) (Yields.yieldsIf (Or.inl ⟨by kernel_rfl, fun _ => by go_simp⟩)) hr ?_
    refine wpAnyH_take (i := 1) (v := .int .u32 (F.id : Int)) rfl (by kernel_rfl) (by kernel_rfl) (by kernel_rfl) (fun _ _ _ h => h) (Or.inl ⟨by kernel_rfl, fun W hW => by have g := (hW.cell (p := ⟨w.heap.size, 0, none⟩) lR).trans f0; go_simp⟩) hr ?_
    refine wpAnyH_take (i := 2) (v := .slice a n c) rfl (by kernel_rfl) (by kernel_rfl) (by kernel_rfl) (fun _ _ _ h => h) (Yields.yieldsIf (Or.inl ⟨by kernel_rfl, fun _ => by kernel_rfl⟩)) hr ?_
    refine wpAnyH_take (i := 3) (v := .int .i64 s) rfl (by kernel_rfl) (by kernel_rfl) (by kernel_rfl) (fun _ _ _ h => h) (Yields.yieldsIf (Or.inl ⟨by kernel_rfl, fun _ => by kernel_rfl⟩)) hr ?_
    refine wpAnyH_take (i := 4) (v := .slice (some ⟨ib, io, none⟩) m ic) rfl (by kernel_rfl) (by kernel_rfl) (by kernel_rfl) (fun _ _ _ h => h) (Yields.yieldsIf (Or.inl ⟨by kernel_rfl, fun _ => by kernel_rfl⟩)) hr ?_
    refine wpAnyH_take (i := 5) (v := .int .i64 (j : Int)) rfl (by kernel_rfl) (by kernel_rfl) (by kernel_rfl) (fun _ _ _ h => h) (Yields.yieldsIf (Or.inl ⟨by kernel_rfl, fun _ => by kernel_rfl⟩)) hr ?_
    refine wpAnyH_take (i := 6) (v := .pointer (some ⟨ib, io + j, none⟩)) rfl (by kernel_rfl) (by kernel_rfl) (by kernel_rfl) (fun _ _ _ h => h) (Yields.yieldsIf (Or.inl ⟨by kernel_rfl, fun _ => by go_simp⟩)) hr ?_
    refine wpAnyH_take (i := 7) (v := .int .i64 zj) rfl (by kernel_rfl) (by kernel_rfl) (by kernel_rfl) (fun _ _ _ h => h) (Or.inl ⟨by kernel_rfl, fun W hW => by have g := (hW.cell (p := ⟨ib, io + j, none⟩) (cell_lt C1)).trans C1; go_simp⟩) hr ?_
    refine wpAnyH_ready (rs := [8]) (by kernel_rfl) (by simp) ?_
    refine AllReadyH.cons rfl (fun K2 hK2 => ?_) AllReadyH.nil
    go_simp
    have X2 : BytesAt w2 a n x := HX.out.below hr (Nat.le_refl _)
    by_cases hs : fitS n s zj
    case neg =>
      have HNF : Hid (¬ (F.s = (n : Int) ∧ Fit true n s z m)) := fun hh => hs (by have := HZJ.out; subst this; exact (hh.2 j hjm).2)
      refine Calls.mono (rask_no F.id zj s a n c x w2 X2 hs) ?_
      rintro e w3 ⟨rfl, b3⟩
      have hr := hr.trans (b3.mono hr.size)
      refine hK2.out _ _ hr (fun hr => ?_)
      clear hK2 K2 hs X2
      refine wpAnyH_take (i := 9) (v := .tuple #[.slice none 0 0, .bool false]) rfl (by kernel_rfl) (by kernel_rfl) (by kernel_rfl) (fun _ _ _ h => h) (Yields.yieldsIf (Or.inl ⟨by kernel_rfl, fun _ => by kernel_rfl⟩)) hr ?_
      refine wpAnyH_take (i := 10) (v := .slice none 0 0) rfl (by kernel_rfl) (by kernel_rfl) (by kernel_rfl) (fun _ _ _ h => h) (Yields.yieldsIf (Or.inl ⟨by kernel_rfl, fun _ => by go_simp⟩)) hr ?_
      refine wpAnyH_take (i := 11) (v := .bool false) rfl (by kernel_rfl) (by kernel_rfl) (by kernel_rfl) (fun _ _ _ h => h) (Yields.yieldsIf (Or.inl ⟨by kernel_rfl, fun _ => by go_simp⟩)) hr ?_
      refine wpAnyH_take (i := 12) (v := .slice none 0 0) rfl (by kernel_rfl) (by kernel_rfl) (by kernel_rfl) (fun _ _ _ h => h) (Yields.yieldsIf (Or.inl ⟨by kernel_rfl, fun _ => by kernel_rfl⟩)) hr ?_
      refine wpAnyH_take (i := 13) (v := .bool false) rfl (by kernel_rfl) (by kernel_rfl) (by kernel_rfl) (fun _ _ _ h => h) (Yields.yieldsIf (Or.inl ⟨by kernel_rfl, fun _ => by kernel_rfl⟩)) hr ?_
      refine wpAnyH_done (by kernel_rfl) ?_ _
      have HA : Hid (PacksIs w true m q t F.id n F.s s x z (.returned (.tuple #[.slice none 0 0, .bool false])) w3) := .inr ⟨HNF.out, rfl, HB1.out.trans (hr.mono (by omega))⟩
      clear hr b3
      go_wp2
      go_ret2
      exact HA.out
    have HS : Hid (fitS n s zj) := hs
    refine Calls.mono (rask_yes F.id zj s a n c x w2 X2 hf hs) ?_
    rintro e w3 ⟨g, gc, rfl, g1, Y3, b3⟩
    have HG3 : Hid (w2.heap.size ≤ g) := g1
    have HD3 : Hid (Dts w3 w1.heap.size (.slice r j cap) j K (fun i => symOf F.id x n s.toNat (z i).toNat)) := hds.out.grew b3
    have hr := hr.trans (b3.mono hr.size)
    have HB3 : Hid (Below w1.heap.size w1 w3) := hr
    have lg2 : Hid (s.toNat ≠ 0 → g < w3.heap.size) := fun h => by
      obtain ⟨b, o, e, hc⟩ := Y3.cells (by omega)
      cases e
      exact cell_lt (hc 0 (by omega))
    have HSP : Hid (s.toNat ≠ 0) := by show s.toNat ≠ 0; have := HS.out.1.1; omega
    obtain ⟨S, hS⟩ : ∃ S, S = s.toNat := ⟨_, rfl⟩
    have HSS : Hid (S = s.toNat) := hS
    rw [← hS] at Y3 ⊢
    obtain ⟨Z, hZ⟩ : ∃ Z, Z = zj.toNat := ⟨_, rfl⟩
    have HZZ : Hid (Z = zj.toNat) := hZ
    rw [← hZ] at Y3
    have zn : zj = (Z : Int) := by rw [hZ, Int.toNat_of_nonneg hs.2.1]
    have z6 : Z < 65536 := by
      have h1 := hs.2.2
      have h2 := (cnt_pos' hs.1).2
      omega
    have HY3 : Hid (BytesAt w3 (some ⟨g, 0, none⟩) S (symOf F.id x n S Z)) := Y3
    refine hK2.out _ _ hr (fun hr => ?_)
    clear hK2 K2 hs X2 Y3 g1 hS hZ
    subst zn
    refine wpAnyH_take (i := 9) (v := .tuple #[.slice (some ⟨g, 0, none⟩) S gc, .bool true]) rfl (by kernel_rfl) (by kernel_rfl) (by kernel_rfl) (fun _ _ _ h => h) (Yields.yieldsIf (Or.inl ⟨by kernel_rfl, fun _ => by kernel_rfl⟩)) hr ?_
    refine wpAnyH_take (i := 10) (v := .slice (some ⟨g, 0, none⟩) S gc) rfl (by kernel_rfl) (by kernel_rfl) (by kernel_rfl) (fun _ _ _ h => h) (Yields.yieldsIf (Or.inl ⟨by kernel_rfl, fun _ => by go_simp⟩)) hr ?_
    refine wpAnyH_take (i := 11) (v := .bool true) rfl (by kernel_rfl) (by kernel_rfl) (by kernel_rfl) (fun _ _ _ h => h) (Yields.yieldsIf (Or.inl ⟨by kernel_rfl, fun _ => by go_simp⟩)) hr ?_
    refine wpAnyH_take (i := 12) (v := .slice (some ⟨g, 0, none⟩) S gc) rfl (by kernel_rfl) (by kernel_rfl) (by kernel_rfl) (fun _ _ _ h => h) (Yields.yieldsIf (Or.inl ⟨by kernel_rfl, fun _ => by kernel_rfl⟩)) hr ?_
    refine wpAnyH_take (i := 13) (v := .bool true) rfl (by kernel_rfl) (by kernel_rfl) (by kernel_rfl) (fun _ _ _ h => h) (Yields.yieldsIf (Or.inl ⟨by kernel_rfl, fun _ => by kernel_rfl⟩)) hr ?_
    refine wpAnyH_done (by kernel_rfl) ?_ _
    have HLg : Hid (w2.heap.size ≤ g ∧ g < w3.heap.size ∧ w1.heap.size ≤ w2.heap.size) := ⟨HG3.out, lg2.out HSP.out, HR.out.size⟩
    have HRG : Hid (∀ k, (Value.slice r j cap).ownBlock = some k → k < w2.heap.size) := fun k e => (World.ownsRow.lt hds.out.row k e).2
    clear hr b3 lg2 HG3 HR hds
    go_wp2_with fail
    refine wp_region_held (S := fun W => Below w1.heap.size w1 W) (by kernel_rfl) ?_
    change wpAnyH _ _ _ _ _ _ _ _ w3.drew
    have hr : Below w1.heap.size w1 w3.drew := HB3.out.drew
    have HD4 : Hid (Dts w3.drew w1.heap.size (.slice r j cap) j K (fun i => symOf F.id x n s.toNat (z i).toNat)) := HD3.out.grew (below_drews 1)
    have HY4 : Hid (BytesAt w3.drew (some ⟨g, 0, none⟩) S (symOf F.id x n S Z)) := HY3.out.grew (below_drews 1)
    have HL4 : Hid (w2.heap.size ≤ g ∧ g < w3.drew.heap.size ∧ w1.heap.size ≤ w2.heap.size) := HLg.out
    clear HB3 HD3 HY3 HLg
    generalize w3.drew = w4 at *
    have EW : IntKind.u16.wrap (Z : Int) = (Z : Int) := wrap_u16 Z z6
    obtain ⟨qj, hqj⟩ : ∃ qj, qj = (q + j) % 65536 := ⟨_, rfl⟩
    have EM : ((q : Int) + (j : Int)) % 65536 = (qj : Int) := by rw [hqj]; omega
    have q6 : qj < 65536 := by omega
    have EQ : IntKind.u16.wrap (qj : Int) = (qj : Int) := wrap_u16 qj q6
    have HQJ : Hid (qj = (q + j) % 65536) := hqj
    clear hqj
    refine wpAnyH_take (i := 0) (v := .slice r j cap) rfl (by kernel_rfl) (by kernel_rfl) (by kernel_rfl) (fun _ _ _ h => h) (Yields.yieldsIf (Or.inl ⟨by kernel_rfl, fun _ => by kernel_rfl⟩)) hr ?_
    refine wpAnyH_take (i := 1) (v := .int .u16 (q : Int)) rfl (by kernel_rfl) (by kernel_rfl) (by kernel_rfl) (fun _ _ _ h => h) (Yields.yieldsIf (Or.inl ⟨by kernel_rfl, fun _ => by kernel_rfl⟩)) hr ?_
    refine wpAnyH_take (i := 2) (v := .int .i64 (q : Int)) rfl (by kernel_rfl) (by kernel_rfl) (by kernel_rfl) (fun _ _ _ h => h) (Yields.yieldsIf (Or.inl ⟨by kernel_rfl, fun _ => by (go_simp; rw [IntKind.wrap_i64]; omega)⟩)) hr ?_
    refine wpAnyH_take (i := 3) (v := .int .i64 (j : Int)) rfl (by kernel_rfl) (by kernel_rfl) (by kernel_rfl) (fun _ _ _ h => h) (Yields.yieldsIf (Or.inl ⟨by kernel_rfl, fun _ => by kernel_rfl⟩)) hr ?_
    refine wpAnyH_take (i := 4) (v := .int .i64 ((q : Int) + (j : Int))) rfl (by kernel_rfl) (by kernel_rfl) (by kernel_rfl) (fun _ _ _ h => h) (Yields.yieldsIf (Or.inl ⟨by kernel_rfl, fun _ => by (go_simp; rw [IntKind.wrap_i64]; omega)⟩)) hr ?_
    refine wpAnyH_take (i := 5) (v := .int .i64 (qj : Int)) rfl (by kernel_rfl) (by kernel_rfl) (by kernel_rfl) (fun _ _ _ h => h) (Yields.yieldsIf (Or.inl ⟨by kernel_rfl, fun _ => by (go_simp; rw [Int.tmod_eq_emod_of_nonneg (by omega)]; exact EM)⟩)) hr ?_
    refine wpAnyH_take (i := 6) (v := .int .u16 (qj : Int)) rfl (by kernel_rfl) (by kernel_rfl) (by kernel_rfl) (fun _ _ _ h => h) (Yields.yieldsIf (Or.inl ⟨by kernel_rfl, fun _ => by go_simp⟩)) hr ?_
    refine wpAnyH_take (i := 7) (v := .int .u16 (t : Int)) rfl (by kernel_rfl) (by kernel_rfl) (by kernel_rfl) (fun _ _ _ h => h) (Yields.yieldsIf (Or.inl ⟨by kernel_rfl, fun _ => by kernel_rfl⟩)) hr ?_
    refine wpAnyH_take (i := 8) (v := .pointer (some ⟨w.heap.size, 0, none⟩)) rfl (by kernel_rfl) (by kernel_rfl) (by kernel_rfl) (fun _ _ _ h => h) (Yields.yieldsIf (Or.inl ⟨by kernel_rfl, fun _ => by go_simp⟩)) hr ?_
    refine wpAnyH_take (i := 9) (v := .int .u32 (F.id : Int)) rfl (by kernel_rfl) (by kernel_rfl) (by kernel_rfl) (fun _ _ _ h => h) (Or.inl ⟨by kernel_rfl, fun W hW => by have g := (hW.cell (p := ⟨w.heap.size, 0, none⟩) lR).trans f0; go_simp⟩) hr ?_
    refine wpAnyH_take (i := 10) (v := .slice (some ⟨ib, io, none⟩) m ic) rfl (by kernel_rfl) (by kernel_rfl) (by kernel_rfl) (fun _ _ _ h => h) (Yields.yieldsIf (Or.inl ⟨by kernel_rfl, fun _ => by kernel_rfl⟩)) hr ?_
    refine wpAnyH_take (i := 11) (v := .int .i64 (j : Int)) rfl (by kernel_rfl) (by kernel_rfl) (by kernel_rfl) (fun _ _ _ h => h) (Yields.yieldsIf (Or.inl ⟨by kernel_rfl, fun _ => by kernel_rfl⟩)) hr ?_
    refine wpAnyH_take (i := 12) (v := .pointer (some ⟨ib, io + j, none⟩)) rfl (by kernel_rfl) (by kernel_rfl) (by kernel_rfl) (fun _ _ _ h => h) (Yields.yieldsIf (Or.inl ⟨by kernel_rfl, fun _ => by go_simp⟩)) hr ?_
    refine wpAnyH_take (i := 13) (v := .int .i64 (Z : Int)) rfl (by kernel_rfl) (by kernel_rfl) (by kernel_rfl) (fun _ _ _ h => h) (Or.inl ⟨by kernel_rfl, fun W hW => by have g := (hW.cell (p := ⟨ib, io + j, none⟩) (cell_lt C1)).trans C1; go_simp⟩) hr ?_
    refine wpAnyH_take (i := 14) (v := .int .u16 (Z : Int)) rfl (by kernel_rfl) (by kernel_rfl) (by kernel_rfl) (fun _ _ _ h => h) (Yields.yieldsIf (Or.inl ⟨by kernel_rfl, fun _ => by go_simp⟩)) hr ?_
    refine wpAnyH_take (i := 15) (v := .slice (some ⟨g, 0, none⟩) S gc) rfl (by kernel_rfl) (by kernel_rfl) (by kernel_rfl) (fun _ _ _ h => h) (Yields.yieldsIf (Or.inl ⟨by kernel_rfl, fun _ => by kernel_rfl⟩)) hr ?_
    refine wpAnyH_take (i := 16) (v := .agg #[.int .u16 (qj : Int), .int .u16 (t : Int), .int .u32 (F.id : Int), .int .u16 (Z : Int), .slice (some ⟨g, 0, none⟩) S gc]) rfl (by kernel_rfl) (by kernel_rfl) (by kernel_rfl) (fun _ _ _ h => h) (Yields.yieldsIf (Or.inl ⟨by kernel_rfl, fun _ => by kernel_rfl⟩)) hr ?_
    refine wpAnyH_ready (rs := [17]) (by kernel_rfl) (by simp) ?_
    refine AllReadyH.cons rfl (fun K2 hK2 => ?_) AllReadyH.nil
    go_simp
    obtain ⟨y1, e1⟩ : ∃ y, w4.alloc (.cells #[.int .u16 (qj : Int), .int .u16 (t : Int), .int .u32 (F.id : Int), .int .u16 (Z : Int), .slice (some ⟨g, 0, none⟩) S gc] 40) = y := ⟨_, rfl⟩
    have B1 : Below w4.heap.size w4 y1 := e1 ▸ (Below.refl _ _).alloc (Nat.le_refl _) _
    have D1 : DatAt y1 w4.heap.size qj t F.id Z (some ⟨g, 0, none⟩) S gc := e1 ▸ DatAt.made w4 _ qj t F.id Z (some ⟨g, 0, none⟩) S gc
    rw [e1]
    clear e1
    have hr1 := hr.trans (B1.mono hr.size)
    refine hK2.out _ _ hr1 (fun _ => ?_)
    clear hK2 K2
    obtain ⟨d, hd⟩ : ∃ d : Dt, d = ⟨qj, t, F.id, Z, some ⟨g, 0, none⟩, S, gc⟩ := ⟨_, rfl⟩
    have BD : Bdy y1 w1.heap.size (.slice r j cap) d (symOf F.id x n S Z) := by
      rw [hd]
      refine Bdy.grew ⟨⟨g, rfl, by have := HL4.out; omega, HL4.out.2.1, fun e2 => ?_⟩, HY4.out⟩ B1
      have := HRG.out g e2
      have := HL4.out.1
      omega
    obtain ⟨v', y2, happ, D2, b2, -⟩ := Dts.push (d := d) 31 (HD4.out.grew B1) (by rw [hd]; exact D1) BD (by omega) hr1.size
    have HD5 : Hid (Dts y2 w1.heap.size v' (j + 1) (fun i => if i < j then K i else d) (fun i => symOf F.id x n s.toNat (z i).toNat)) := by
      refine ⟨D2.row, fun i hi => ?_⟩
      have := D2.body i hi
      by_cases e : i < j
      · simp only [if_pos e] at this ⊢; exact this
      · obtain rfl : i = j := by omega
        simp only [if_neg e] at this ⊢
        rw [← HSS.out, ← HZJ.out, ← HZZ.out]
        exact this
    have HT5 : Hid (Told15 (j + 1) q t F.id s.toNat z (fun i => if i < j then K i else d)) := htl.out.push d (by rw [hd]; exact ⟨HQJ.out, rfl, rfl, by rw [← HZJ.out, ← HZZ.out], HSS.out⟩)
    have hr2 := hr1.trans b2
    have HB5 : Hid (Below w1.heap.size w1 y2) := hr2
    have HFT : Hid (Fit true n s z (j + 1)) := fun i hi => by
      by_cases e : i = j
      · subst e
        rw [← HZJ.out]
        exact ⟨rfl, HS.out⟩
      · exact hfit.out i (by omega)
    clear hr
    refine wpAnyH_ready (rs := [18]) (by kernel_rfl) (by simp) ?_
    refine AllReadyH.cons rfl (fun K2 hK2 => ?_) AllReadyH.nil
    refine step_append_run rfl (.tmp 43) (.tmp 60) 31 rfl _ _ rfl rfl _ _ happ ?_
    refine hK2.out _ _ hr2 (fun hr => ?_)
    clear hK2 K2
    obtain ⟨r', cap', rfl, -⟩ := D2.row.any
    refine wpAnyH_take (i := 19) (v := .slice r' (j + 1) cap') rfl (by kernel_rfl) (by kernel_rfl) (by kernel_rfl) (fun _ _ _ h => h) (Yields.yieldsIf (Or.inl ⟨by kernel_rfl, fun _ => by kernel_rfl⟩)) hr ?_
    refine wpAnyH_done (by kernel_rfl) ?_ _
    clear hr hr1 hr2 b2 D2 BD D1 B1 happ hd HY4 HD4 HL4 HRG EW EQ EM HQJ HZJ HZZ HSS HSP htl hfit HS z6 q6 C1
    go_wp2_with fail
    go_roundw
    case rel => exact ⟨j + 1, _, by go_num, by omega, HFT, HD5, HT5, HB5⟩
    case measure => simp [intOf]; omega
end Go.Proofs.Ythlidbenhlidjaa
