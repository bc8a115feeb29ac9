/-
  The document's Split.
-/
import Derived.Test.YtijjhjlopfbeiaaDoorPrs
import Derived.Test.YtijjhjlopfbeiaaDoorPsp
import Derived.BigQuiet
namespace Go.Proofs.YtijjhjlopfbeiaaDoor
open Go.RowKit Go.Deep

/-- What the document's Split answers. -/
def RSplitIs (w : World) (n : Nat) (K : Nat → Wt) (B : Int) (o : Nat → Nat) (e : Ending) (w' : World) : Prop :=
  ∃ (la : Option Addr) (lc : Nat), e = .returned (.slice la n lc) ∧ NumsAt .i64 w' la n (Pu.gets K n (Pu.bnd B) o) ∧ Below w.heap.size w w'

set_option maxRecDepth 100000 in
set_option maxHeartbeats 2000000 in
theorem rsplit_zero (c : Nat) (a : Option Addr) (K : Nat → Wt) (B0 : Int) (o : Nat → Nat) (w : World) :
    Calls Tryd.prog 10 #[.int .i64 B0, .slice a 0 c] w (RSplitIs w 0 K B0 o) := by
  obtain ⟨m, hm⟩ : ∃ m, max B0 0 = m := ⟨_, rfl⟩
  obtain ⟨B, hB⟩ : ∃ B, min m 65536 = B := ⟨_, rfl⟩
  have r1 := fun ts ty W => max_run ts ty B0 0 m W hm
  have r2 := fun ts ty W => min_run ts ty m 65536 B W hB
  have hmk := make_bools 0 w (by omega)
  rw [show ((0 : Nat) : Int) = 0 from rfl] at hmk
  have HB : Hid (Below w.heap.size w (w.alloc (.cells (madeCells #[.bool false] 0) 4))) := (Below.refl _ _).alloc (Nat.le_refl _) _
  clear hm hB
  go_enter Tryd.func10, Tryd.ntmps10
  go_wp2
  refine wp_loop_rounds 1 ?_
  rw [rounds_succ]
  go_wp2
  refine wp_loop_rounds 1 ?_
  rw [rounds_succ]
  go_wp2
  refine wp_loop_rounds 1 ?_
  rw [rounds_succ]
  go_wp2
  go_ret
  exact ⟨none, 0, rfl, fun h => absurd h (by omega), HB.out⟩

theorem sum_b {f : Nat → Int} (h : ∀ i, 0 ≤ f i ∧ f i ≤ 65536) : ∀ k : Nat, 0 ≤ Pu.sum f k ∧ Pu.sum f k ≤ 65536 * k
  | 0 => ⟨Int.le_refl _, Int.le_refl _⟩
  | k + 1 => by
    obtain ⟨a, b⟩ := sum_b h k
    have := h k
    have e : Pu.sum f (k + 1) = Pu.sum f k + f k := rfl
    omega
theorem part_runs {B V r Q : Int} (h0 : 0 ≤ B) (h1 : B ≤ 65536) (hV : 0 < V) (hQ : B * Pu.wgt r / V = Q) :
    ∃ M : Int, B * Pu.wgt r = M ∧ IntKind.i64.wrap M = M ∧ wrap64 M = M ∧ M.tdiv V = Q ∧ M / V = Q ∧ IntKind.i64.wrap Q = Q ∧ wrap64 Q = Q ∧ ¬ V = 0 ∧ (V == 0) = false ∧ 0 ≤ Q ∧ Q ≤ 524288 := by
  have a := Pu.wgt_range r
  have b : 0 ≤ B * Pu.wgt r := Int.mul_nonneg h0 (by omega)
  have c : B * Pu.wgt r ≤ 65536 * 8 := Int.mul_le_mul h1 a.2 (by omega) (by omega)
  have d : 0 ≤ B * Pu.wgt r / V := Int.ediv_nonneg b (by omega)
  have e : B * Pu.wgt r / V ≤ B * Pu.wgt r := Int.ediv_le_self _ b
  refine ⟨_, rfl, w64 _ (by omega) (by omega), by unfold wrap64; omega, ?_, hQ, w64 _ (by omega) (by omega), by unfold wrap64; omega, by omega, by simp; omega, by omega, by omega⟩
  rw [Int.tdiv_eq_ediv_of_nonneg b, hQ]
theorem give_turn (s : Pu.St) (p : Nat) (m x : Int) (hx : s.g p + m = x) : ∀ j, (Pu.give s p m).g j = if j = p then x else s.g j := fun j => by
  show (if j = p then s.g j + m else s.g j) = _
  by_cases e : j = p
  · rw [if_pos e, if_pos e, e, hx]
  · rw [if_neg e, if_neg e]
theorem Ior.congr' {w : World} {base : Nat} {v : Value} {n : Nat} {x y : Nat → Int} (h : Ior w base v n x) (e : ∀ i, i < n → x i = y i) : Ior w base v n y := by
  have : icells x n = icells y n := by
    unfold icells
    exact List.map_congr_left fun i hi => by rw [e i (List.mem_range.1 hi)]
  unfold Ior at *
  rwa [← this]

set_option maxRecDepth 100000 in
set_option maxHeartbeats 2000000 in
theorem rsplit_any (n c ab ao : Nat) (K : Nat → Wt) (B0 : Int) (o : Nat → Nat) (w : World) (hK : WtsAt w (some ⟨ab, ao, none⟩) n K) (hn : n ≤ 1000) (hn0 : 0 < n) (ho : Pu.Ord K n o) :
    Calls Tryd.prog 10 #[.int .i64 B0, .slice (some ⟨ab, ao, none⟩) n c] w (RSplitIs w n K B0 o) := by
  obtain ⟨m0, hm0⟩ : ∃ m, max B0 0 = m := ⟨_, rfl⟩
  obtain ⟨B, hB⟩ : ∃ B, min m0 65536 = B := ⟨_, rfl⟩
  have r1 := fun ts ty W => max_run ts ty B0 0 m0 W hm0
  have r2 := fun ts ty W => min_run ts ty m0 65536 B W hB
  have eB : Pu.bnd B0 = B := by unfold Pu.bnd; rw [hm0, hB]
  have HBR : Hid (0 ≤ B ∧ B ≤ 65536) := by rw [← eB]; exact Pu.bnd_range B0
  have HK : Hid (WtsAt w (some ⟨ab, ao, none⟩) n K) := hK
  have HO : Hid (Pu.Ord K n o) := ho
  obtain ⟨S, hS⟩ : ∃ S, w.heap.size = S := ⟨_, rfl⟩
  have HS : Hid (w.heap.size = S) := hS
  have HR0 : Hid (Below S w w) := Below.refl _ _
  unfold RSplitIs
  rw [eB, hS]
  clear hm0 hB eB hK ho hS
  go_enter Tryd.func10, Tryd.ntmps10
  go_wp2
  go_loopw [5, 6] (fun s i wr => ∃ k : Nat, k ≤ n ∧ s = .int .i64 (Pu.weigh K k) ∧ i = .int .i64 (k : Int) ∧ Hid (Below S w wr)) (fun _ i _ => n - (intOf i).toNat)
  case atStart => exact ⟨0, Nat.zero_le _, rfl, rfl, HR0⟩
  case round =>
    obtain ⟨k, hk, rfl, rfl, hb⟩ := hrel
    clear HR0
    by_cases h : k < n
    · have i1 : (k : Int) < (n : Int) := by omega
      obtain ⟨-, c1, -⟩ := (HK.out.below hb.out (by rw [HS.out]; exact Nat.le_refl _)).at k h
      have se : Pu.weigh K (k + 1) = Pu.weigh K k + Pu.wgt (K k).r := rfl
      have sr := Pu.weigh_range K k
      have wr0 := Pu.wgt_range (K k).r
      have HWt : ∀ W, Hid (Calls Tryd.prog 17 #[.int .i64 (K k).r] W fun e w' => e = .returned (.int .i64 (Pu.wgt (K k).r)) ∧ Below W.heap.size W w') := fun W => rweight_any (K k).r W
      generalize (K k).r = r at *
      generalize Pu.weigh K k = V at *
      generalize Pu.wgt r = T at *
      obtain ⟨M, hM⟩ : ∃ M, V + T = M := ⟨_, rfl⟩
      have e1 : IntKind.i64.wrap M = M := w64 _ (by omega) (by omega)
      rw [hM] at se
      have HSE : Hid (Pu.weigh K (k + 1) = M) := se
      have hz : S ≤ wr.heap.size := by have := hb.out.size; have := HS.out; omega
      have HZ : Hid (S ≤ wr.heap.size) := hz
      clear se sr wr0 hz
      go_wp2_with fail
      refine ((HWt wr).out).mono ?_
      rintro e w2 ⟨rfl, b2⟩
      have HB2 : Hid (Below S w w2) := hb.out.trans (b2.mono HZ.out)
      clear b2 hb HWt
      go_wp2_with fail
      go_roundw
      case rel => exact ⟨k + 1, by omega, by rw [HSE.out], by go_num, HB2⟩
      case measure => simp [intOf]; omega
    · obtain rfl : k = n := by omega
      have i1 : decide ((k : Int) < (k : Int)) = false := by simp
      clear h
      obtain ⟨V, hV⟩ : ∃ V, Pu.weigh K k = V := ⟨_, rfl⟩
      have HV : Hid (Pu.weigh K k = V) := hV
      have hVr := Pu.weigh_range K k
      rw [hV] at hVr
      rw [hV]
      have HVr : Hid (0 < V ∧ V ≤ 8000) := ⟨by omega, by omega⟩
      clear hV hVr
      go_wp2_with fail
      go_loopw [7, 8, 9] (fun l v i wr => ∃ (j : Nat) (la : Option Addr) (lc : Nat), j ≤ k ∧ l = .int .i64 (B - Pu.sum (Pu.share K k B) j) ∧ v = .slice la j lc ∧ i = .int .i64 (j : Int) ∧ Hid (Ior wr S (.slice la j lc) j (Pu.share K k B)) ∧ Hid (Below S w wr)) (fun _ _ i _ => k - (intOf i).toNat)
      case atStart => exact ⟨0, none, 0, Nat.zero_le _, by show Value.int .i64 B = .int .i64 (B - 0); rw [Int.sub_zero], rfl, rfl, Ior.nil _ _ _, hb⟩
      case round =>
        obtain ⟨j, la, lc, hj, rfl, rfl, rfl, hio, hbw⟩ := hrel
        clear hb
        by_cases h : j < k
        · have i2 : (j : Int) < (k : Int) := by omega
          have sb : 0 ≤ Pu.sum (Pu.share K k B) j ∧ Pu.sum (Pu.share K k B) j ≤ 65536 * j := sum_b (fun i => ⟨(Pu.share_range hn0 HBR.out.1 i).1, Int.le_trans (Pu.share_range hn0 HBR.out.1 i).2 (Pu.bnd_range _).2⟩) j
          have se : Pu.sum (Pu.share K k B) (j + 1) = Pu.sum (Pu.share K k B) j + Pu.share K k B j := rfl
          have sx := Pu.share_range (K := K) (n := k) (B := B) hn0 HBR.out.1 j
          have sy := Pu.bnd_range (K j).b
          have sd : Pu.share K k B j = min (B * Pu.wgt (K j).r / Pu.weigh K k) (Pu.bnd (K j).b) := rfl
          rw [HV.out] at sd
          obtain ⟨Q, hQ⟩ : ∃ Q, B * Pu.wgt (K j).r / V = Q := ⟨_, rfl⟩
          obtain ⟨M, m1, m2, m3, m4, m5, m6, m7, m8, m9, q1, q2⟩ := part_runs HBR.out.1 HBR.out.2 HVr.out.1 hQ
          rw [hQ] at sd
          have HKw : Hid (WtsAt wr (some ⟨ab, ao, none⟩) k K) := HK.out.below hbw.out (by rw [HS.out]; exact Nat.le_refl _)
          obtain ⟨c0, c1, c2⟩ := HKw.out.at j h
          have HWt : ∀ W, Hid (Calls Tryd.prog 17 #[.int .i64 (K j).r] W fun e w' => e = .returned (.int .i64 (Pu.wgt (K j).r)) ∧ Below W.heap.size W w') := fun W => rweight_any (K j).r W
          have HWn : ∀ W, Hid (Calls Tryd.prog 18 #[.agg #[.int .u32 (K j).id, .int .i64 (K j).r, .int .i64 (K j).b]] W fun e w' => e = .returned (.int .i64 (Pu.bnd (K j).b)) ∧ Below W.heap.size W w') := fun W => rwant_any (K j) W
          generalize Pu.sum (Pu.share K k B) j = s at *
          generalize hx : Pu.share K k B j = x at *
          generalize (K j).id = i at *
          generalize (K j).r = r at *
          generalize hb0 : (K j).b = b at *
          generalize Pu.bnd b = bb at *
          generalize Pu.wgt r = T at *
          have r3 := fun ts ty W => min_run ts ty Q bb x W sd.symm
          obtain ⟨Z, hZ⟩ : ∃ Z, B - s - x = Z := ⟨_, rfl⟩
          obtain ⟨Y, hY⟩ : ∃ Y, B - s = Y := ⟨_, rfl⟩
          have bq := HBR.out
          have e1 : IntKind.i64.wrap Z = Z := w64 _ (by omega) (by omega)
          rw [hY]
          have hYZ : Y - x = Z := by omega
          have HSE : Hid (B - Pu.sum (Pu.share K k B) (j + 1) = Z) := by show _ = _; rw [se]; omega
          have HXE : Hid (Pu.share K k B j = x) := hx
          have hz : S ≤ wr.heap.size := by have := hbw.out.size; have := HS.out; omega
          have HZ0 : Hid (S ≤ wr.heap.size) := hz
          have HCC : Hid (wr.cell? ⟨ab, ao + j * 3, none⟩ = some (.int .u32 i) ∧ wr.cell? ⟨ab, ao + j * 3 + 1, none⟩ = some (.int .i64 r) ∧ wr.cell? ⟨ab, ao + j * 3 + 2, none⟩ = some (.int .i64 b)) := ⟨c0, c1, c2⟩
          clear sb se sx sy sd hQ q1 q2 HKw hx hb0 bq hz hZ hY c0 c1 c2
          go_wp2_with fail
          refine wp_region_held (S := fun W => Below wr.heap.size wr W) (by kernel_rfl) ?_
          change wpAnyH _ _ _ _ _ _ _ _ wr.drew
          have hr : Below wr.heap.size wr wr.drew := below_drews 1
          generalize wr.drew = x1 at *
          refine wpAnyH_take (i := 0) (v := .int .i64 B) rfl (by kernel_rfl) (by kernel_rfl) (by kernel_rfl) (fun _ _ _ h => h) (Yields.yieldsIf (Or.inl ⟨by kernel_rfl, fun _ => by kernel_rfl⟩)) hr ?_
          refine wpAnyH_take (i := 1) (v := .slice (some ⟨ab, ao, none⟩) k c) rfl (by kernel_rfl) (by kernel_rfl) (by kernel_rfl) (fun _ _ _ h => h) (Yields.yieldsIf (Or.inl ⟨by kernel_rfl, fun _ => by kernel_rfl⟩)) hr ?_
          refine wpAnyH_take (i := 2) (v := .int .i64 (j : Int)) rfl (by kernel_rfl) (by kernel_rfl) (by kernel_rfl) (fun _ _ _ h => h) (Yields.yieldsIf (Or.inl ⟨by kernel_rfl, fun _ => by kernel_rfl⟩)) hr ?_
          refine wpAnyH_take (i := 3) (v := .pointer (some ⟨ab, ao + j * 3, none⟩)) rfl (by kernel_rfl) (by kernel_rfl) (by kernel_rfl) (fun _ _ _ h => h) (Yields.yieldsIf (Or.inl ⟨by kernel_rfl, fun _ => by go_simp⟩)) hr ?_
          refine wpAnyH_take (i := 4) (v := .pointer (some ⟨ab, ao + j * 3 + 1, none⟩)) rfl (by kernel_rfl) (by kernel_rfl) (by kernel_rfl) (fun _ _ _ h => h) (Yields.yieldsIf (Or.inl ⟨by kernel_rfl, fun _ => by go_simp⟩)) hr ?_
          refine wpAnyH_take (i := 5) (v := .int .i64 r) rfl (by kernel_rfl) (by kernel_rfl) (by kernel_rfl) (fun _ _ _ h => h) (Or.inl ⟨by kernel_rfl, fun W hW => by have g := (hW.cell (p := ⟨ab, ao + j * 3 + 1, none⟩) (cell_lt HCC.out.2.1)).trans HCC.out.2.1; go_simp⟩) hr ?_
          refine wpAnyH_take (i := 8) (v := .int .i64 V) rfl (by kernel_rfl) (by kernel_rfl) (by kernel_rfl) (fun _ _ _ h => h) (Yields.yieldsIf (Or.inl ⟨by kernel_rfl, fun _ => by kernel_rfl⟩)) hr ?_
          refine wpAnyH_take (i := 10) (v := .slice (some ⟨ab, ao, none⟩) k c) rfl (by kernel_rfl) (by kernel_rfl) (by kernel_rfl) (fun _ _ _ h => h) (Yields.yieldsIf (Or.inl ⟨by kernel_rfl, fun _ => by kernel_rfl⟩)) hr ?_
          refine wpAnyH_take (i := 11) (v := .int .i64 (j : Int)) rfl (by kernel_rfl) (by kernel_rfl) (by kernel_rfl) (fun _ _ _ h => h) (Yields.yieldsIf (Or.inl ⟨by kernel_rfl, fun _ => by kernel_rfl⟩)) hr ?_
          refine wpAnyH_take (i := 12) (v := .pointer (some ⟨ab, ao + j * 3, none⟩)) rfl (by kernel_rfl) (by kernel_rfl) (by kernel_rfl) (fun _ _ _ h => h) (Yields.yieldsIf (Or.inl ⟨by kernel_rfl, fun _ => by go_simp⟩)) hr ?_
          refine wpAnyH_take (i := 13) (v := .agg #[.int .u32 i, .int .i64 r, .int .i64 b]) rfl (by kernel_rfl) (by kernel_rfl) (by kernel_rfl) (fun _ _ _ h => h) (Or.inl ⟨by kernel_rfl, fun W hW => by have g0 := (hW.cell (p := ⟨ab, ao + j * 3, none⟩) (cell_lt HCC.out.1)).trans HCC.out.1; have g1 := (hW.cell (p := ⟨ab, ao + j * 3 + 1, none⟩) (cell_lt HCC.out.2.1)).trans HCC.out.2.1; have g2 := (hW.cell (p := ⟨ab, ao + j * 3 + 2, none⟩) (cell_lt HCC.out.2.2)).trans HCC.out.2.2; go_simp⟩) hr ?_
          refine wpAnyH_ready (rs := [6]) (by kernel_rfl) (by simp) ?_
          refine AllReadyH.cons rfl (fun K2 hK2 => ?_) AllReadyH.nil
          go_simp
          refine ((HWt x1).out).mono ?_
          rintro e x2 ⟨rfl, b2⟩
          have hr := hr.trans (b2.mono hr.size)
          clear b2
          refine hK2.out _ _ hr (fun hr => ?_)
          clear hK2 K2
          refine wpAnyH_take (i := 7) (v := .int .i64 M) rfl (by kernel_rfl) (by kernel_rfl) (by kernel_rfl) (fun _ _ _ h => h) (Yields.yieldsIf (Or.inl ⟨by kernel_rfl, fun _ => by go_simp⟩)) hr ?_
          refine wpAnyH_take (i := 9) (v := .int .i64 Q) rfl (by kernel_rfl) (by kernel_rfl) (by kernel_rfl) (fun _ _ _ h => h) (Yields.yieldsIf (Or.inl ⟨by kernel_rfl, fun _ => by go_simp⟩)) hr ?_
          refine wpAnyH_ready (rs := [14]) (by kernel_rfl) (by simp) ?_
          refine AllReadyH.cons rfl (fun K2 hK2 => ?_) AllReadyH.nil
          go_simp
          refine ((HWn x2).out).mono ?_
          rintro e x3 ⟨rfl, b3⟩
          have hr := hr.trans (b3.mono hr.size)
          clear b3
          refine hK2.out _ _ hr (fun hr => ?_)
          clear hK2 K2
          refine wpAnyH_ready (rs := [15]) (by kernel_rfl) (by simp) ?_
          refine AllReadyH.cons rfl (fun K2 hK2 => ?_) AllReadyH.nil
          go_simp
          refine hK2.out _ _ hr (fun hr => ?_)
          clear hK2 K2
          refine wpAnyH_take (i := 16) (v := .int .i64 x) rfl (by kernel_rfl) (by kernel_rfl) (by kernel_rfl) (fun _ _ _ h => h) (Yields.yieldsIf (Or.inl ⟨by kernel_rfl, fun _ => by kernel_rfl⟩)) hr ?_
          refine wpAnyH_done (by kernel_rfl) ?_ _
          have HB3 : Hid (Below wr.heap.size wr x3) := hr
          clear hr HWt HWn
          obtain ⟨z, ez⟩ : ∃ y, x3.alloc (.cells #[.int .i64 x] 3) = y := ⟨_, rfl⟩
          have Bz : Below x3.heap.size x3 z := by rw [← ez]; exact (Below.refl _ _).alloc (Nat.le_refl _) _
          have Nz : NumsAt .i64 z (some ⟨x3.heap.size, 0, none⟩) 1 (fun _ => x) := by
            rw [← ez]
            exact fun _ => ⟨_, 0, rfl, fun q hq => by
              obtain rfl : q = 0 := by omega
              rw [World.cell?_alloc_at _ _ _ _ rfl]; rfl⟩
          have z0 := HB3.out.size
          have z1 := HZ0.out
          obtain ⟨v', z2, happ, O2, gr⟩ := ((hio.out.grew HB3.out).grew Bz).push (c := 1) 24 Nz (by decide) (by omega) (by have := Bz.size; omega)
          have HW2 : Hid (Ior z2 S v' (j + 1) (Pu.share K k B)) := O2.congr' fun q hq => by
            by_cases g : q < j
            · rw [if_pos g]
            · obtain rfl : q = j := by omega
              rw [if_neg g]; exact HXE.out.symm
          have HB2 : Hid (Below S w z2) := ((hbw.out.trans (HB3.out.mono z1)).trans (Bz.mono (by omega))).trans (((hio.out.grew HB3.out).grew Bz).grown gr (by have := Bz.size; omega))
          obtain ⟨la', lc', rfl, -⟩ := O2.any
          generalize hj1 : j + 1 = j1 at *
          clear Bz Nz z0 z1 O2 gr hio hbw HB3 HCC HXE
          go_wp2_with (at_builtin; refine Go.Lib.wpList_append_run _ rfl (.tmp 56) (.tmp 58) 24 24 rfl _ _ rfl rfl _ _ happ ?_)
          subst hj1
          go_roundw
          case rel => exact ⟨j + 1, la', lc', by omega, by rw [HSE.out], rfl, by go_num, HW2, HB2⟩
          case measure => simp [intOf]; omega
        · obtain rfl : j = k := by omega
          have i2 : decide ((j : Int) < (j : Int)) = false := by simp
          clear h
          obtain ⟨G, cap, ev, hG1, hG2, hIR⟩ := hio.out.irow hn0
          cases ev
          obtain ⟨D, hD⟩ : ∃ D, wr.heap.size = D := ⟨_, rfl⟩
          have hmk := make_bools j wr hn
          obtain ⟨x1, e1⟩ : ∃ x, wr.alloc (.cells (madeCells #[.bool false] j) 4) = x := ⟨_, rfl⟩
          have HR : Hid (RSt w (some ⟨ab, ao, none⟩) G D j K (Pu.begins K j B).g (dn o 0) x1) := by
            rw [← e1, ← hD]
            have q : Below wr.heap.size wr (wr.alloc (.cells (madeCells #[.bool false] j) 4)) := (Below.refl _ _).alloc (Nat.le_refl _) _
            have z1 := HS.out
            have z2 := hbw.out.size
            refine ⟨HK.out, hIR.below q hG2, BRow.made wr j, by rw [z1]; exact hbw.out.trans (q.mono (by omega)), by omega, by omega, by omega, Nat.lt_of_lt_of_le hG2 q.size, by simp⟩
          rw [e1, hD] at hmk
          have el : B - Pu.sum (Pu.share K j B) j = (Pu.serve K Pu.rest o (Pu.begins K j B) 0).l := rfl
          rw [el]
          clear e1 hD hG1 hG2 hIR hio hbw el
          go_wp2_with fail
          clear hmk
          go_loopw [7, 12] (fun l i wr => ∃ t : Nat, t ≤ j ∧ l = .int .i64 (Pu.serve K Pu.rest o (Pu.begins K j B) t).l ∧ i = .int .i64 (t : Int) ∧ Hid (RSt w (some ⟨ab, ao, none⟩) G D j K (Pu.serve K Pu.rest o (Pu.begins K j B) t).g (dn o t) wr)) (fun _ i _ => j - (intOf i).toNat)
          case atStart => exact ⟨0, Nat.zero_le _, rfl, rfl, HR⟩
          case round =>
            obtain ⟨t, ht, rfl, rfl, hs⟩ := hrel
            clear HR
            by_cases h : t < j
            · have i3 : (t : Int) < (j : Int) := by omega
              obtain ⟨u, hu⟩ : ∃ u, Pu.serve K Pu.rest o (Pu.begins K j B) t = u := ⟨_, rfl⟩
              have HU : Hid (Pu.serve K Pu.rest o (Pu.begins K j B) t = u) := hu
              rw [hu] at hs
              rw [hu]
              clear hu
              generalize wr = wo at *
              go_wp2_with fail
              go_loopw [13, 14] (fun z i wr => ∃ (q : Nat) (zz : Int), q ≤ j ∧ z = .int .i64 zz ∧ i = .int .i64 (q : Int) ∧ Hid (Best K o t q zz) ∧ Hid (RSt w (some ⟨ab, ao, none⟩) G D j K u.g (dn o t) wr)) (fun _ i _ => j - (intOf i).toNat)
              case atStart => exact ⟨0, -1, Nat.zero_le _, rfl, rfl, Best.none _ _ _, hs⟩
              case round =>
                obtain ⟨q, zz, hq, rfl, rfl, hbest, hr0⟩ := hrel
                clear hs
                by_cases g : q < j
                · have i4 : (q : Int) < (j : Int) := by omega
                  have d0 := hr0.out.d.cell q g
                  by_cases hd : dn o t q = true
                  · rw [hd] at d0
                    go_wp2_with fail
                    go_quiet (fail)
                    go_wp2_with fail
                    go_roundw
                    case rel => exact ⟨q + 1, zz, by omega, rfl, by go_num, hbest.out.pass hd, hr0.out.grew (below_drews _)⟩
                    case measure => simp [intOf]; omega
                  have hd : dn o t q = false := by simpa using hd
                  have hz : zz = -1 ∨ ∃ p : Nat, p < j ∧ zz = (p : Int) := by
                    rcases hbest.out with ⟨e, -⟩ | ⟨p, hp, e, -⟩
                    · exact .inl e
                    · exact .inr ⟨p, by omega, e⟩
                  rcases hz with rfl | ⟨p, hp, rfl⟩
                  · rw [hd] at d0
                    go_wp2_with fail
                    go_quiet (fail)
                    go_wp2_with fail
                    go_roundw
                    case rel => exact ⟨q + 1, (q : Int), by omega, rfl, by go_num, hbest.out.first hd, hr0.out.grew (below_drews _)⟩
                    case measure => simp [intOf]; omega
                  · have i5 : (p : Int) < (j : Int) := by omega
                    have i6 : decide ((p : Int) < 0) = false := decide_eq_false (by omega)
                    by_cases hl : Pu.lt K q p
                    · have HBt : ∀ W, Hid (Calls Tryd.prog 19 #[.agg #[.int .u32 (K q).id, .int .i64 (K q).r, .int .i64 (K q).b], .agg #[.int .u32 (K p).id, .int .i64 (K p).r, .int .i64 (K p).b], .int .i64 (q : Int), .int .i64 (p : Int)] W fun e w' => e = .returned (.bool true) ∧ Below W.heap.size W w') := fun W => by
                        have := rbetter_any K q p W
                        rwa [decide_eq_true hl] at this
                      go_wp2_with fail
                      refine wp_region_held (S := RSt w (some ⟨ab, ao, none⟩) G D j K u.g (dn o t)) (by kernel_rfl) ?_
                      change wpAnyH _ _ _ _ _ _ _ _ wr.drew
                      have hr : RSt w (some ⟨ab, ao, none⟩) G D j K u.g (dn o t) wr.drew := hr0.out.grew (below_drews 1)
                      clear hr0 d0
                      generalize wr.drew = x1 at *
                      refine wpAnyH_take (i := 0) (v := .slice (some ⟨D, 0, none⟩) j j) rfl (by kernel_rfl) (by kernel_rfl) (by kernel_rfl) (fun _ _ _ h => h) (Yields.yieldsIf (Or.inl ⟨by kernel_rfl, fun _ => by kernel_rfl⟩)) hr ?_
                      refine wpAnyH_take (i := 1) (v := .int .i64 (q : Int)) rfl (by kernel_rfl) (by kernel_rfl) (by kernel_rfl) (fun _ _ _ h => h) (Yields.yieldsIf (Or.inl ⟨by kernel_rfl, fun _ => by kernel_rfl⟩)) hr ?_
                      refine wpAnyH_take (i := 2) (v := .pointer (some ⟨D, q, none⟩)) rfl (by kernel_rfl) (by kernel_rfl) (by kernel_rfl) (fun _ _ _ h => h) (Yields.yieldsIf (Or.inl ⟨by kernel_rfl, fun _ => by go_simp⟩)) hr ?_
                      refine wpAnyH_take (i := 3) (v := .bool false) rfl (by kernel_rfl) (by kernel_rfl) (by kernel_rfl) (fun _ _ _ h => h) (Or.inl ⟨by kernel_rfl, fun W hW => by have g := hW.d.cell q g; rw [hd] at g; go_simp⟩) hr ?_
                      refine wpAnyH_take (i := 4) (v := .bool true) rfl (by kernel_rfl) (by kernel_rfl) (by kernel_rfl) (fun _ _ _ h => h) (Yields.yieldsIf (Or.inl ⟨by kernel_rfl, fun _ => by go_simp⟩)) hr ?_
                      refine wpAnyH_take (i := 5) (v := .bool true) rfl (by kernel_rfl) (by kernel_rfl) (by kernel_rfl) (fun _ _ _ h => h) (Yields.yieldsIf (Or.inl ⟨by kernel_rfl, fun _ => by kernel_rfl⟩)) hr ?_
                      refine wpAnyH_take (i := 6) (v := .int .i64 (p : Int)) rfl (by kernel_rfl) (by kernel_rfl) (by kernel_rfl) (fun _ _ _ h => h) (Yields.yieldsIf (Or.inl ⟨by kernel_rfl, fun _ => by kernel_rfl⟩)) hr ?_
                      refine wpAnyH_take (i := 7) (v := .bool false) rfl (by kernel_rfl) (by kernel_rfl) (by kernel_rfl) (fun _ _ _ h => h) (Yields.yieldsIf (Or.inl ⟨by kernel_rfl, fun _ => by go_simp⟩)) hr ?_
                      refine wpAnyH_take (i := 8) (v := .bool false) rfl (by kernel_rfl) (by kernel_rfl) (by kernel_rfl) (fun _ _ _ h => h) (Yields.yieldsIf (Or.inl ⟨by kernel_rfl, fun _ => by kernel_rfl⟩)) hr ?_
                      refine wpAnyH_take (i := 9) (v := .slice (some ⟨ab, ao, none⟩) j c) rfl (by kernel_rfl) (by kernel_rfl) (by kernel_rfl) (fun _ _ _ h => h) (Yields.yieldsIf (Or.inl ⟨by kernel_rfl, fun _ => by kernel_rfl⟩)) hr ?_
                      refine wpAnyH_take (i := 10) (v := .int .i64 (q : Int)) rfl (by kernel_rfl) (by kernel_rfl) (by kernel_rfl) (fun _ _ _ h => h) (Yields.yieldsIf (Or.inl ⟨by kernel_rfl, fun _ => by kernel_rfl⟩)) hr ?_
                      refine wpAnyH_take (i := 11) (v := .pointer (some ⟨ab, ao + q * 3, none⟩)) rfl (by kernel_rfl) (by kernel_rfl) (by kernel_rfl) (fun _ _ _ h => h) (Yields.yieldsIf (Or.inl ⟨by kernel_rfl, fun _ => by go_simp⟩)) hr ?_
                      refine wpAnyH_take (i := 12) (v := .agg #[.int .u32 (K q).id, .int .i64 (K q).r, .int .i64 (K q).b]) rfl (by kernel_rfl) (by kernel_rfl) (by kernel_rfl) (fun _ _ _ h => h) (Or.inl ⟨by kernel_rfl, fun W hW => by have g0 := hW.k.at q g; have g1 := g0.1; have g2 := g0.2.1; have g3 := g0.2.2; go_simp⟩) hr ?_
                      refine wpAnyH_take (i := 13) (v := .slice (some ⟨ab, ao, none⟩) j c) rfl (by kernel_rfl) (by kernel_rfl) (by kernel_rfl) (fun _ _ _ h => h) (Yields.yieldsIf (Or.inl ⟨by kernel_rfl, fun _ => by kernel_rfl⟩)) hr ?_
                      refine wpAnyH_take (i := 14) (v := .int .i64 (p : Int)) rfl (by kernel_rfl) (by kernel_rfl) (by kernel_rfl) (fun _ _ _ h => h) (Yields.yieldsIf (Or.inl ⟨by kernel_rfl, fun _ => by kernel_rfl⟩)) hr ?_
                      refine wpAnyH_take (i := 15) (v := .pointer (some ⟨ab, ao + p * 3, none⟩)) rfl (by kernel_rfl) (by kernel_rfl) (by kernel_rfl) (fun _ _ _ h => h) (Yields.yieldsIf (Or.inl ⟨by kernel_rfl, fun _ => by go_simp⟩)) hr ?_
                      refine wpAnyH_take (i := 16) (v := .agg #[.int .u32 (K p).id, .int .i64 (K p).r, .int .i64 (K p).b]) rfl (by kernel_rfl) (by kernel_rfl) (by kernel_rfl) (fun _ _ _ h => h) (Or.inl ⟨by kernel_rfl, fun W hW => by have g0 := hW.k.at p hp; have g1 := g0.1; have g2 := g0.2.1; have g3 := g0.2.2; go_simp⟩) hr ?_
                      refine wpAnyH_take (i := 17) (v := .int .i64 (q : Int)) rfl (by kernel_rfl) (by kernel_rfl) (by kernel_rfl) (fun _ _ _ h => h) (Yields.yieldsIf (Or.inl ⟨by kernel_rfl, fun _ => by kernel_rfl⟩)) hr ?_
                      refine wpAnyH_take (i := 18) (v := .int .i64 (p : Int)) rfl (by kernel_rfl) (by kernel_rfl) (by kernel_rfl) (fun _ _ _ h => h) (Yields.yieldsIf (Or.inl ⟨by kernel_rfl, fun _ => by kernel_rfl⟩)) hr ?_
                      refine wpAnyH_ready (rs := [19]) (by kernel_rfl) (by simp) ?_
                      refine AllReadyH.cons rfl (fun K2 hK2 => ?_) AllReadyH.nil
                      go_simp
                      refine ((HBt x1).out).mono ?_
                      rintro e x2 ⟨rfl, b2⟩
                      have hr := hr.grew b2
                      clear b2
                      refine hK2.out _ _ hr (fun hr => ?_)
                      clear hK2 K2
                      refine wpAnyH_take (i := 20) (v := .bool true) rfl (by kernel_rfl) (by kernel_rfl) (by kernel_rfl) (fun _ _ _ h => h) (Yields.yieldsIf (Or.inl ⟨by kernel_rfl, fun _ => by go_simp⟩)) hr ?_
                      refine wpAnyH_take (i := 21) (v := .bool true) rfl (by kernel_rfl) (by kernel_rfl) (by kernel_rfl) (fun _ _ _ h => h) (Yields.yieldsIf (Or.inl ⟨by kernel_rfl, fun _ => by go_simp⟩)) hr ?_
                      refine wpAnyH_done (by kernel_rfl) ?_ _
                      have HR2 : Hid (RSt w (some ⟨ab, ao, none⟩) G D j K u.g (dn o t) x2) := hr
                      clear hr HBt
                      go_wp2_with fail
                      go_roundw
                      case rel => exact ⟨q + 1, (q : Int), by omega, rfl, by go_num, hbest.out.take hd hl, HR2⟩
                      case measure => simp [intOf]; omega
                    · have HBt : ∀ W, Hid (Calls Tryd.prog 19 #[.agg #[.int .u32 (K q).id, .int .i64 (K q).r, .int .i64 (K q).b], .agg #[.int .u32 (K p).id, .int .i64 (K p).r, .int .i64 (K p).b], .int .i64 (q : Int), .int .i64 (p : Int)] W fun e w' => e = .returned (.bool false) ∧ Below W.heap.size W w') := fun W => by
                        have := rbetter_any K q p W
                        rwa [decide_eq_false hl] at this
                      go_wp2_with fail
                      refine wp_region_held (S := RSt w (some ⟨ab, ao, none⟩) G D j K u.g (dn o t)) (by kernel_rfl) ?_
                      change wpAnyH _ _ _ _ _ _ _ _ wr.drew
                      have hr : RSt w (some ⟨ab, ao, none⟩) G D j K u.g (dn o t) wr.drew := hr0.out.grew (below_drews 1)
                      clear hr0 d0
                      generalize wr.drew = x1 at *
                      refine wpAnyH_take (i := 0) (v := .slice (some ⟨D, 0, none⟩) j j) rfl (by kernel_rfl) (by kernel_rfl) (by kernel_rfl) (fun _ _ _ h => h) (Yields.yieldsIf (Or.inl ⟨by kernel_rfl, fun _ => by kernel_rfl⟩)) hr ?_
                      refine wpAnyH_take (i := 1) (v := .int .i64 (q : Int)) rfl (by kernel_rfl) (by kernel_rfl) (by kernel_rfl) (fun _ _ _ h => h) (Yields.yieldsIf (Or.inl ⟨by kernel_rfl, fun _ => by kernel_rfl⟩)) hr ?_
                      refine wpAnyH_take (i := 2) (v := .pointer (some ⟨D, q, none⟩)) rfl (by kernel_rfl) (by kernel_rfl) (by kernel_rfl) (fun _ _ _ h => h) (Yields.yieldsIf (Or.inl ⟨by kernel_rfl, fun _ => by go_simp⟩)) hr ?_
                      refine wpAnyH_take (i := 3) (v := .bool false) rfl (by kernel_rfl) (by kernel_rfl) (by kernel_rfl) (fun _ _ _ h => h) (Or.inl ⟨by kernel_rfl, fun W hW => by have g := hW.d.cell q g; rw [hd] at g; go_simp⟩) hr ?_
                      refine wpAnyH_take (i := 4) (v := .bool true) rfl (by kernel_rfl) (by kernel_rfl) (by kernel_rfl) (fun _ _ _ h => h) (Yields.yieldsIf (Or.inl ⟨by kernel_rfl, fun _ => by go_simp⟩)) hr ?_
                      refine wpAnyH_take (i := 5) (v := .bool true) rfl (by kernel_rfl) (by kernel_rfl) (by kernel_rfl) (fun _ _ _ h => h) (Yields.yieldsIf (Or.inl ⟨by kernel_rfl, fun _ => by kernel_rfl⟩)) hr ?_
                      refine wpAnyH_take (i := 6) (v := .int .i64 (p : Int)) rfl (by kernel_rfl) (by kernel_rfl) (by kernel_rfl) (fun _ _ _ h => h) (Yields.yieldsIf (Or.inl ⟨by kernel_rfl, fun _ => by kernel_rfl⟩)) hr ?_
                      refine wpAnyH_take (i := 7) (v := .bool false) rfl (by kernel_rfl) (by kernel_rfl) (by kernel_rfl) (fun _ _ _ h => h) (Yields.yieldsIf (Or.inl ⟨by kernel_rfl, fun _ => by go_simp⟩)) hr ?_
                      refine wpAnyH_take (i := 8) (v := .bool false) rfl (by kernel_rfl) (by kernel_rfl) (by kernel_rfl) (fun _ _ _ h => h) (Yields.yieldsIf (Or.inl ⟨by kernel_rfl, fun _ => by kernel_rfl⟩)) hr ?_
                      refine wpAnyH_take (i := 9) (v := .slice (some ⟨ab, ao, none⟩) j c) rfl (by kernel_rfl) (by kernel_rfl) (by kernel_rfl) (fun _ _ _ h => h) (Yields.yieldsIf (Or.inl ⟨by kernel_rfl, fun _ => by kernel_rfl⟩)) hr ?_
                      refine wpAnyH_take (i := 10) (v := .int .i64 (q : Int)) rfl (by kernel_rfl) (by kernel_rfl) (by kernel_rfl) (fun _ _ _ h => h) (Yields.yieldsIf (Or.inl ⟨by kernel_rfl, fun _ => by kernel_rfl⟩)) hr ?_
                      refine wpAnyH_take (i := 11) (v := .pointer (some ⟨ab, ao + q * 3, none⟩)) rfl (by kernel_rfl) (by kernel_rfl) (by kernel_rfl) (fun _ _ _ h => h) (Yields.yieldsIf (Or.inl ⟨by kernel_rfl, fun _ => by go_simp⟩)) hr ?_
                      refine wpAnyH_take (i := 12) (v := .agg #[.int .u32 (K q).id, .int .i64 (K q).r, .int .i64 (K q).b]) rfl (by kernel_rfl) (by kernel_rfl) (by kernel_rfl) (fun _ _ _ h => h) (Or.inl ⟨by kernel_rfl, fun W hW => by have g0 := hW.k.at q g; have g1 := g0.1; have g2 := g0.2.1; have g3 := g0.2.2; go_simp⟩) hr ?_
                      refine wpAnyH_take (i := 13) (v := .slice (some ⟨ab, ao, none⟩) j c) rfl (by kernel_rfl) (by kernel_rfl) (by kernel_rfl) (fun _ _ _ h => h) (Yields.yieldsIf (Or.inl ⟨by kernel_rfl, fun _ => by kernel_rfl⟩)) hr ?_
                      refine wpAnyH_take (i := 14) (v := .int .i64 (p : Int)) rfl (by kernel_rfl) (by kernel_rfl) (by kernel_rfl) (fun _ _ _ h => h) (Yields.yieldsIf (Or.inl ⟨by kernel_rfl, fun _ => by kernel_rfl⟩)) hr ?_
                      refine wpAnyH_take (i := 15) (v := .pointer (some ⟨ab, ao + p * 3, none⟩)) rfl (by kernel_rfl) (by kernel_rfl) (by kernel_rfl) (fun _ _ _ h => h) (Yields.yieldsIf (Or.inl ⟨by kernel_rfl, fun _ => by go_simp⟩)) hr ?_
                      refine wpAnyH_take (i := 16) (v := .agg #[.int .u32 (K p).id, .int .i64 (K p).r, .int .i64 (K p).b]) rfl (by kernel_rfl) (by kernel_rfl) (by kernel_rfl) (fun _ _ _ h => h) (Or.inl ⟨by kernel_rfl, fun W hW => by have g0 := hW.k.at p hp; have g1 := g0.1; have g2 := g0.2.1; have g3 := g0.2.2; go_simp⟩) hr ?_
                      refine wpAnyH_take (i := 17) (v := .int .i64 (q : Int)) rfl (by kernel_rfl) (by kernel_rfl) (by kernel_rfl) (fun _ _ _ h => h) (Yields.yieldsIf (Or.inl ⟨by kernel_rfl, fun _ => by kernel_rfl⟩)) hr ?_
                      refine wpAnyH_take (i := 18) (v := .int .i64 (p : Int)) rfl (by kernel_rfl) (by kernel_rfl) (by kernel_rfl) (fun _ _ _ h => h) (Yields.yieldsIf (Or.inl ⟨by kernel_rfl, fun _ => by kernel_rfl⟩)) hr ?_
                      refine wpAnyH_ready (rs := [19]) (by kernel_rfl) (by simp) ?_
                      refine AllReadyH.cons rfl (fun K2 hK2 => ?_) AllReadyH.nil
                      go_simp
                      refine ((HBt x1).out).mono ?_
                      rintro e x2 ⟨rfl, b2⟩
                      have hr := hr.grew b2
                      clear b2
                      refine hK2.out _ _ hr (fun hr => ?_)
                      clear hK2 K2
                      refine wpAnyH_take (i := 20) (v := .bool false) rfl (by kernel_rfl) (by kernel_rfl) (by kernel_rfl) (fun _ _ _ h => h) (Yields.yieldsIf (Or.inl ⟨by kernel_rfl, fun _ => by go_simp⟩)) hr ?_
                      refine wpAnyH_take (i := 21) (v := .bool false) rfl (by kernel_rfl) (by kernel_rfl) (by kernel_rfl) (fun _ _ _ h => h) (Yields.yieldsIf (Or.inl ⟨by kernel_rfl, fun _ => by go_simp⟩)) hr ?_
                      refine wpAnyH_done (by kernel_rfl) ?_ _
                      have HR2 : Hid (RSt w (some ⟨ab, ao, none⟩) G D j K u.g (dn o t) x2) := hr
                      clear hr HBt
                      go_wp2_with fail
                      go_roundw
                      case rel => exact ⟨q + 1, (p : Int), by omega, rfl, by go_num, hbest.out.leave hl, HR2⟩
                      case measure => simp [intOf]; omega
                · obtain rfl : q = j := by omega
                  have i4 : decide ((q : Int) < (q : Int)) = false := by simp
                  obtain rfl := hbest.out.all HO.out h
                  clear g
                  obtain ⟨p, hp⟩ : ∃ p, o t = p := ⟨_, rfl⟩
                  have hpn : p < q := by rw [← hp]; exact HO.out.lt h
                  have i5 : (p : Int) < (q : Int) := by omega
                  obtain ⟨d1, d2, d3⟩ := Pu.rest_bounds HO.out HBR.out.1 HBR.out.2 t ht
                  obtain ⟨f1, f2, f3⟩ := Pu.rest_bounds HO.out HBR.out.1 HBR.out.2 (t + 1) h
                  have f1 := f1 p hpn
                  have hstep : Pu.serve K Pu.rest o (Pu.begins K q B) (t + 1) = Pu.give u p (Pu.more K u p u.l) := by rw [← HU.out, ← hp]; rfl
                  rw [hstep] at f1 f2 f3
                  rw [HU.out] at d1 d2 d3
                  obtain ⟨bb, hbb⟩ : ∃ x, Pu.bnd (K p).b = x := ⟨_, rfl⟩
                  obtain ⟨y, hy⟩ : ∃ y, u.g p = y := ⟨_, rfl⟩
                  obtain ⟨d, hd⟩ : ∃ d, bb - y = d := ⟨_, rfl⟩
                  obtain ⟨l, hl⟩ : ∃ l, u.l = l := ⟨_, rfl⟩
                  obtain ⟨m, hm⟩ : ∃ m, min l d = m := ⟨_, rfl⟩
                  have em : Pu.more K u p u.l = m := by unfold Pu.more; rw [hbb, hy, hd, hl, hm]
                  rw [em] at hstep f1 f2 f3
                  obtain ⟨x, hx⟩ : ∃ x, y + m = x := ⟨_, rfl⟩
                  obtain ⟨Z, hZ⟩ : ∃ Z, l - m = Z := ⟨_, rfl⟩
                  have gx : (Pu.give u p m).g p = x := by rw [Pu.give_same, hy, hx]
                  have gz : (Pu.give u p m).l = Z := by show u.l - m = Z; rw [hl, hZ]
                  rw [gx] at f1
                  rw [gz] at f2 f3
                  have dy := d1 p hpn
                  rw [hy] at dy
                  rw [hl] at d2 d3
                  have db := Pu.bnd_range (K p).b
                  rw [hbb] at db
                  have HM : Hid (Pu.serve K Pu.rest o (Pu.begins K q B) (t + 1) = Pu.give u p m) := hstep
                  have HGZ : Hid ((Pu.give u p m).l = Z) := gz
                  have HX : Hid (u.g p + m = x) := by rw [hy]; exact hx
                  have HY : Hid (u.g p = y) := hy
                  have e1 : IntKind.i64.wrap d = d := w64 _ (by omega) (by omega)
                  have e2 : IntKind.i64.wrap x = x := w64 _ (by omega) (by omega)
                  have e3 : IntKind.i64.wrap Z = Z := w64 _ (by omega) (by omega)
                  have r3 := fun ts ty W => min_run ts ty l d m W hm
                  have HWn : ∀ W, Hid (Calls Tryd.prog 18 #[.agg #[.int .u32 (K p).id, .int .i64 (K p).r, .int .i64 (K p).b]] W fun e w' => e = .returned (.int .i64 bb) ∧ Below W.heap.size W w') := fun W => by
                    have := rwant_any (K p) W
                    rwa [hbb] at this
                  obtain ⟨x1, ex1⟩ : ∃ x1, wr.setCell ⟨D, p, none⟩ (.bool true) = x1 := ⟨_, rfl⟩
                  have HR1 : Hid (RSt w (some ⟨ab, ao, none⟩) G D q K u.g (dn o (t + 1)) x1) := by
                    rw [← ex1]
                    exact hr0.out.mark hpn (fun j _ => by rw [dn_next, hp])
                  have k1 := hr0.out.d.cell p hpn
                  have k2 := hr0.out.d.thaw p
                  rw [hp, hl]
                  clear hp hstep em gx gz hm hbb hy hl d1 d2 d3 f1 f2 f3 dy db hbest hr0
                  go_wp2_with fail
                  clear k1 k2 ex1
                  refine wp_region_held (S := RSt w (some ⟨ab, ao, none⟩) G D q K u.g (dn o (t + 1))) (by kernel_rfl) ?_
                  change wpAnyH _ _ _ _ _ _ _ _ x1.drew
                  have hr : RSt w (some ⟨ab, ao, none⟩) G D q K u.g (dn o (t + 1)) x1.drew := HR1.out.grew (below_drews 1)
                  clear HR1
                  generalize x1.drew = x2 at *
                  refine wpAnyH_take (i := 0) (v := .int .i64 l) rfl (by kernel_rfl) (by kernel_rfl) (by kernel_rfl) (fun _ _ _ h => h) (Yields.yieldsIf (Or.inl ⟨by kernel_rfl, fun _ => by kernel_rfl⟩)) hr ?_
                  refine wpAnyH_take (i := 1) (v := .slice (some ⟨ab, ao, none⟩) q c) rfl (by kernel_rfl) (by kernel_rfl) (by kernel_rfl) (fun _ _ _ h => h) (Yields.yieldsIf (Or.inl ⟨by kernel_rfl, fun _ => by kernel_rfl⟩)) hr ?_
                  refine wpAnyH_take (i := 2) (v := .int .i64 (p : Int)) rfl (by kernel_rfl) (by kernel_rfl) (by kernel_rfl) (fun _ _ _ h => h) (Yields.yieldsIf (Or.inl ⟨by kernel_rfl, fun _ => by kernel_rfl⟩)) hr ?_
                  refine wpAnyH_take (i := 3) (v := .pointer (some ⟨ab, ao + p * 3, none⟩)) rfl (by kernel_rfl) (by kernel_rfl) (by kernel_rfl) (fun _ _ _ h => h) (Yields.yieldsIf (Or.inl ⟨by kernel_rfl, fun _ => by go_simp⟩)) hr ?_
                  refine wpAnyH_take (i := 4) (v := .agg #[.int .u32 (K p).id, .int .i64 (K p).r, .int .i64 (K p).b]) rfl (by kernel_rfl) (by kernel_rfl) (by kernel_rfl) (fun _ _ _ h => h) (Or.inl ⟨by kernel_rfl, fun W hW => by have g0 := hW.k.at p hpn; have g1 := g0.1; have g2 := g0.2.1; have g3 := g0.2.2; go_simp⟩) hr ?_
                  refine wpAnyH_take (i := 6) (v := .slice (some ⟨G, 0, none⟩) q lc) rfl (by kernel_rfl) (by kernel_rfl) (by kernel_rfl) (fun _ _ _ h => h) (Yields.yieldsIf (Or.inl ⟨by kernel_rfl, fun _ => by kernel_rfl⟩)) hr ?_
                  refine wpAnyH_take (i := 7) (v := .int .i64 (p : Int)) rfl (by kernel_rfl) (by kernel_rfl) (by kernel_rfl) (fun _ _ _ h => h) (Yields.yieldsIf (Or.inl ⟨by kernel_rfl, fun _ => by kernel_rfl⟩)) hr ?_
                  refine wpAnyH_take (i := 8) (v := .pointer (some ⟨G, p, none⟩)) rfl (by kernel_rfl) (by kernel_rfl) (by kernel_rfl) (fun _ _ _ h => h) (Yields.yieldsIf (Or.inl ⟨by kernel_rfl, fun _ => by go_simp⟩)) hr ?_
                  refine wpAnyH_take (i := 9) (v := .int .i64 y) rfl (by kernel_rfl) (by kernel_rfl) (by kernel_rfl) (fun _ _ _ h => h) (Or.inl ⟨by kernel_rfl, fun W hW => by have g := hW.g.cell p hpn; rw [HY.out] at g; go_simp⟩) hr ?_
                  refine wpAnyH_ready (rs := [5]) (by kernel_rfl) (by simp) ?_
                  refine AllReadyH.cons rfl (fun K2 hK2 => ?_) AllReadyH.nil
                  go_simp
                  refine ((HWn x2).out).mono ?_
                  rintro e x3 ⟨rfl, b3⟩
                  have hr := hr.grew b3
                  clear b3
                  refine hK2.out _ _ hr (fun hr => ?_)
                  clear hK2 K2
                  refine wpAnyH_take (i := 10) (v := .int .i64 d) rfl (by kernel_rfl) (by kernel_rfl) (by kernel_rfl) (fun _ _ _ h => h) (Yields.yieldsIf (Or.inl ⟨by kernel_rfl, fun _ => by go_simp⟩)) hr ?_
                  refine wpAnyH_ready (rs := [11]) (by kernel_rfl) (by simp) ?_
                  refine AllReadyH.cons rfl (fun K2 hK2 => ?_) AllReadyH.nil
                  go_simp
                  refine hK2.out _ _ hr (fun hr => ?_)
                  clear hK2 K2
                  refine wpAnyH_take (i := 12) (v := .int .i64 m) rfl (by kernel_rfl) (by kernel_rfl) (by kernel_rfl) (fun _ _ _ h => h) (Yields.yieldsIf (Or.inl ⟨by kernel_rfl, fun _ => by kernel_rfl⟩)) hr ?_
                  refine wpAnyH_done (by kernel_rfl) ?_ _
                  have HR3 : Hid (RSt w (some ⟨ab, ao, none⟩) G D q K u.g (dn o (t + 1)) x3) := hr
                  obtain ⟨x4, ex4⟩ : ∃ x4, x3.setCell ⟨G, p, none⟩ (.int .i64 x) = x4 := ⟨_, rfl⟩
                  have HE : Hid (RSt w (some ⟨ab, ao, none⟩) G D q K (Pu.serve K Pu.rest o (Pu.begins K q B) (t + 1)).g (dn o (t + 1)) x4) := by
                    rw [← ex4, HM.out]
                    exact HR3.out.give hpn (fun j _ => give_turn u p m x HX.out j)
                  have k1 := HR3.out.g.cell p hpn
                  rw [HY.out] at k1
                  have k2 := HR3.out.g.thaw p
                  clear hr HR3 HWn
                  go_wp2_with fail
                  go_roundw
                  case rel => exact ⟨t + 1, by omega, by rw [HM.out, HGZ.out], by go_num, HE⟩
                  case measure => simp [intOf]; omega
            · obtain rfl : t = j := by omega
              have i3 : decide ((t : Int) < (t : Int)) = false := by simp
              have HE : Hid (NumsAt .i64 wr (some ⟨G, 0, none⟩) t (Pu.gets K t B o) ∧ Below S w wr) := ⟨fun _ => ⟨G, 0, rfl, fun i hi => by rw [Nat.zero_add]; exact hs.out.g.cell i hi⟩, by have := hs.out.e; rwa [HS.out] at this⟩
              clear hs h
              go_wp2
              go_ret
              exact ⟨some ⟨G, 0, none⟩, lc, rfl, HE.out⟩
end Go.Proofs.YtijjhjlopfbeiaaDoor
