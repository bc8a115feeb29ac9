/-
  The document's PutReport, PutNack, TakeReport, TakeNack, TakeGone.
-/
import Derived.Test.YtcflaklnafggmaaBpu
namespace Go.Proofs.Ytcflaklnafggmaa
open Go.RowKit Go.Deep

set_option maxRecDepth 100000 in
set_option maxHeartbeats 1000000 in
theorem rputr_any (t l g u j : Nat) (w : World) (lt : t < 18446744073709551616) (ll : l < 4294967296) (lg : g < 4294967296) (lu : u < 65536) (lj : j < 65536) :
    Calls Try.prog 22 #[.agg #[.int .u64 (t : Int), .int .u32 (l : Int), .int .u32 (g : Int), .int .u16 (u : Int), .int .u16 (j : Int)]] w fun e w' => NewRow w 20 (repLaid t l g u j) e w' := by
  have D1 := RepAt.made w 29 t l g u j
  have b1 : Hid (Below w.heap.size w (w.alloc (.cells #[.int .u64 (t : Int), .int .u32 (l : Int), .int .u32 (g : Int), .int .u16 (u : Int), .int .u16 (j : Int)] 29))) := (Below.refl _ _).alloc (Nat.le_refl _) _
  go_enter Try.func22, Try.ntmps22
  go_wp2_with fail
  generalize (w.alloc (.cells #[.int .u64 (t : Int), .int .u32 (l : Int), .int .u32 (g : Int), .int .u16 (u : Int), .int .u16 (j : Int)] 29)) = w1 at *
  refine wp_region_held (S := fun w' => RepAt w' w.heap.size t l g u j) (by kernel_rfl) ?_
  change wpAnyH _ _ _ _ _ _ _ _ w1.drew
  have hr : RepAt w1.drew w.heap.size t l g u j := D1.grew (Below.refl _ _).drew
  have b2 : Below w1.heap.size w1 w1.drew := (Below.refl _ _).drew
  have HD : Hid (RepAt w1 w.heap.size t l g u j) := D1
  clear D1
  generalize w1.drew = w2 at *
  refine wpAnyH_take (i := 0) (v := .pointer (some ⟨w.heap.size, 0, none⟩)) rfl (by kernel_rfl) (by kernel_rfl) (by kernel_rfl) (fun _ _ _ h => h) (Yields.yieldsIf (Or.inl ⟨by kernel_rfl, fun _ => by go_simp⟩)) hr ?_
  refine wpAnyH_take (i := 1) (v := .int .u64 (t : Int)) rfl (by kernel_rfl) (by kernel_rfl) (by kernel_rfl) (fun _ _ _ h => h) (Or.inl ⟨by kernel_rfl, fun W hW => by have g := hW.c0; go_simp⟩) hr ?_
  refine wpAnyH_take (i := 3) (v := .pointer (some ⟨w.heap.size, 1, none⟩)) rfl (by kernel_rfl) (by kernel_rfl) (by kernel_rfl) (fun _ _ _ h => h) (Yields.yieldsIf (Or.inl ⟨by kernel_rfl, fun _ => by go_simp⟩)) hr ?_
  refine wpAnyH_take (i := 4) (v := .int .u32 (l : Int)) rfl (by kernel_rfl) (by kernel_rfl) (by kernel_rfl) (fun _ _ _ h => h) (Or.inl ⟨by kernel_rfl, fun W hW => by have g := hW.c1; go_simp⟩) hr ?_
  refine wpAnyH_take (i := 5) (v := .int .u64 (l : Int)) rfl (by kernel_rfl) (by kernel_rfl) (by kernel_rfl) (fun _ _ _ h => h) (Yields.yieldsIf (Or.inl ⟨by kernel_rfl, fun _ => by go_simp; rw [IntKind.wrap_u64]; omega⟩)) hr ?_
  refine wpAnyH_take (i := 8) (v := .pointer (some ⟨w.heap.size, 2, none⟩)) rfl (by kernel_rfl) (by kernel_rfl) (by kernel_rfl) (fun _ _ _ h => h) (Yields.yieldsIf (Or.inl ⟨by kernel_rfl, fun _ => by go_simp⟩)) hr ?_
  refine wpAnyH_take (i := 9) (v := .int .u32 (g : Int)) rfl (by kernel_rfl) (by kernel_rfl) (by kernel_rfl) (fun _ _ _ h => h) (Or.inl ⟨by kernel_rfl, fun W hW => by have g := hW.c2; go_simp⟩) hr ?_
  refine wpAnyH_take (i := 10) (v := .int .u64 (g : Int)) rfl (by kernel_rfl) (by kernel_rfl) (by kernel_rfl) (fun _ _ _ h => h) (Yields.yieldsIf (Or.inl ⟨by kernel_rfl, fun _ => by go_simp; rw [IntKind.wrap_u64]; omega⟩)) hr ?_
  refine wpAnyH_ready (rs := [2]) (by kernel_rfl) (by simp) ?_
  refine AllReadyH.cons rfl (fun K2 hK2 => ?_) AllReadyH.nil
  go_simp
  refine Calls.mono (high_any t 8 w2 (by omega) (by decide)) ?_
  rintro e w3 ⟨rfl, R3, d3⟩
  have hr := hr.grew d3
  refine hK2.out _ _ hr (fun hr => ?_)
  clear hK2 K2
  have b3 : Below w1.heap.size w1 w3 := b2.trans (d3.mono b2.size)
  have O3 : Ror w3 w1.heap.size (.slice (some ⟨w2.heap.size, 0, none⟩) 8 8) 8 (cat (fun _ => 0) (high t 8) 0) := (ror_made R3 b2.size (by decide)).congr fun i hi => by unfold cat; rw [if_neg (by omega)]; rfl
  refine wpAnyH_ready (rs := [6]) (by kernel_rfl) (by simp) ?_
  refine AllReadyH.cons rfl (fun K2 hK2 => ?_) AllReadyH.nil
  go_simp
  refine Calls.mono (high_any l 4 w3 (by omega) (by decide)) ?_
  rintro e w4 ⟨rfl, R4, d4⟩
  have hr := hr.grew d4
  refine hK2.out _ _ hr (fun hr => ?_)
  clear hK2 K2
  have b4 : Below w1.heap.size w1 w4 := b3.trans (d4.mono b3.size)
  have B4 : BytesAt w4 (some ⟨w3.heap.size, 0, none⟩) 4 (high l 4) := row_bytes' R4 (fun _ _ => rfl) (fun i _ => high_lt _ _ _)
  have O4 := O3.grown d4
  obtain ⟨v5, w5, happ, O5, g5⟩ := O4.push (c := 4) (z := (cat (cat (fun _ => 0) (high t 8) 0) (high l 4) 8)) 24 B4 (by decide) b4.size (fun i hi => (cat_left hi).symm) (fun i hi => by rw [cat, if_neg (by omega), Nat.add_sub_cancel_left])
  have b5 := grown_below O4 g5 b4 b4.size
  refine wpAnyH_ready (rs := [7]) (by kernel_rfl) (by simp) ?_
  refine AllReadyH.cons rfl (fun K2 hK2 => ?_) AllReadyH.nil
  refine step_append_run rfl (.tmp 6) (.tmp 10) 24 rfl _ _ rfl rfl _ _ happ ?_
  have hr := HD.out.grew b5
  refine hK2.out _ _ hr (fun hr => ?_)
  clear hK2 K2 happ O3 O4 B4 R4 d4 b3 b4 g5
  clear R3 b2 d3
  refine wpAnyH_ready (rs := [11]) (by kernel_rfl) (by simp) ?_
  refine AllReadyH.cons rfl (fun K2 hK2 => ?_) AllReadyH.nil
  go_simp
  refine Calls.mono (high_any g 4 w5 (by omega) (by decide)) ?_
  rintro e w6 ⟨rfl, R6, d6⟩
  have hr := hr.grew d6
  refine hK2.out _ _ hr (fun hr => ?_)
  clear hK2 K2
  have b6 : Below w1.heap.size w1 w6 := b5.trans (d6.mono b5.size)
  have B6 : BytesAt w6 (some ⟨w5.heap.size, 0, none⟩) 4 (high g 4) := row_bytes' R6 (fun _ _ => rfl) (fun i _ => high_lt _ _ _)
  have O6 := O5.grown d6
  obtain ⟨v7, w7, happ, O7, g7⟩ := O6.push (c := 4) (z := (cat (cat (cat (fun _ => 0) (high t 8) 0) (high l 4) 8) (high g 4) 12)) 24 B6 (by decide) b6.size (fun i hi => (cat_left hi).symm) (fun i hi => by rw [cat, if_neg (by omega), Nat.add_sub_cancel_left])
  have b7 := grown_below O6 g7 b6 b6.size
  refine wpAnyH_ready (rs := [12]) (by kernel_rfl) (by simp) ?_
  refine AllReadyH.cons rfl (fun K2 hK2 => ?_) AllReadyH.nil
  refine step_append_run rfl (.tmp 11) (.tmp 15) 24 rfl _ _ rfl rfl _ _ happ ?_
  have hr := HD.out.grew b7
  refine hK2.out _ _ hr (fun hr => ?_)
  clear hK2 K2 happ O5 O6 B6 R6 d6 b5 b6 g7
  refine wpAnyH_take (i := 13) (v := v7) rfl (by kernel_rfl) (by kernel_rfl) (by kernel_rfl) (fun _ _ _ h => h) (Yields.yieldsIf (Or.inl ⟨by kernel_rfl, fun _ => by kernel_rfl⟩)) hr ?_
  refine wpAnyH_done (by kernel_rfl) ?_ _
  go_wp2_with fail
  refine wp_region_held (S := fun w' => RepAt w' w.heap.size t l g u j) (by kernel_rfl) ?_
  change wpAnyH _ _ _ _ _ _ _ _ w7.drew
  have hr : RepAt w7.drew w.heap.size t l g u j := hr.grew (Below.refl _ _).drew
  have O8 := O7.grown (Below.refl w7.heap.size w7).drew
  have b8 : Below w1.heap.size w1 w7.drew := b7.drew
  clear b7 O7
  generalize w7.drew = w8 at *
  refine wpAnyH_take (i := 0) (v := v7) rfl (by kernel_rfl) (by kernel_rfl) (by kernel_rfl) (fun _ _ _ h => h) (Yields.yieldsIf (Or.inl ⟨by kernel_rfl, fun _ => by kernel_rfl⟩)) hr ?_
  refine wpAnyH_take (i := 1) (v := .pointer (some ⟨w.heap.size, 3, none⟩)) rfl (by kernel_rfl) (by kernel_rfl) (by kernel_rfl) (fun _ _ _ h => h) (Yields.yieldsIf (Or.inl ⟨by kernel_rfl, fun _ => by go_simp⟩)) hr ?_
  refine wpAnyH_take (i := 2) (v := .int .u16 (u : Int)) rfl (by kernel_rfl) (by kernel_rfl) (by kernel_rfl) (fun _ _ _ h => h) (Or.inl ⟨by kernel_rfl, fun W hW => by have g := hW.c3; go_simp⟩) hr ?_
  refine wpAnyH_take (i := 3) (v := .int .u64 (u : Int)) rfl (by kernel_rfl) (by kernel_rfl) (by kernel_rfl) (fun _ _ _ h => h) (Yields.yieldsIf (Or.inl ⟨by kernel_rfl, fun _ => by go_simp; rw [IntKind.wrap_u64]; omega⟩)) hr ?_
  refine wpAnyH_take (i := 6) (v := .pointer (some ⟨w.heap.size, 4, none⟩)) rfl (by kernel_rfl) (by kernel_rfl) (by kernel_rfl) (fun _ _ _ h => h) (Yields.yieldsIf (Or.inl ⟨by kernel_rfl, fun _ => by go_simp⟩)) hr ?_
  refine wpAnyH_take (i := 7) (v := .int .u16 (j : Int)) rfl (by kernel_rfl) (by kernel_rfl) (by kernel_rfl) (fun _ _ _ h => h) (Or.inl ⟨by kernel_rfl, fun W hW => by have g := hW.c4; go_simp⟩) hr ?_
  refine wpAnyH_take (i := 8) (v := .int .u64 (j : Int)) rfl (by kernel_rfl) (by kernel_rfl) (by kernel_rfl) (fun _ _ _ h => h) (Yields.yieldsIf (Or.inl ⟨by kernel_rfl, fun _ => by go_simp; rw [IntKind.wrap_u64]; omega⟩)) hr ?_
  refine wpAnyH_ready (rs := [4]) (by kernel_rfl) (by simp) ?_
  refine AllReadyH.cons rfl (fun K2 hK2 => ?_) AllReadyH.nil
  go_simp
  refine Calls.mono (high_any u 2 w8 (by omega) (by decide)) ?_
  rintro e w9 ⟨rfl, R9, d9⟩
  have hr := hr.grew d9
  refine hK2.out _ _ hr (fun hr => ?_)
  clear hK2 K2
  have b9 : Below w1.heap.size w1 w9 := b8.trans (d9.mono b8.size)
  have B9 : BytesAt w9 (some ⟨w8.heap.size, 0, none⟩) 2 (high u 2) := row_bytes' R9 (fun _ _ => rfl) (fun i _ => high_lt _ _ _)
  have O9 := O8.grown d9
  obtain ⟨v10, w10, happ, O10, g10⟩ := O9.push (c := 2) (z := (cat (cat (cat (cat (fun _ => 0) (high t 8) 0) (high l 4) 8) (high g 4) 12) (high u 2) 16)) 24 B9 (by decide) b9.size (fun i hi => (cat_left hi).symm) (fun i hi => by rw [cat, if_neg (by omega), Nat.add_sub_cancel_left])
  have b10 := grown_below O9 g10 b9 b9.size
  refine wpAnyH_ready (rs := [5]) (by kernel_rfl) (by simp) ?_
  refine AllReadyH.cons rfl (fun K2 hK2 => ?_) AllReadyH.nil
  refine step_append_run rfl (.tmp 17) (.tmp 21) 24 rfl _ _ rfl rfl _ _ happ ?_
  have hr := HD.out.grew b10
  refine hK2.out _ _ hr (fun hr => ?_)
  clear hK2 K2 happ O8 O9 B9 R9 d9 b8 b9 g10
  refine wpAnyH_ready (rs := [9]) (by kernel_rfl) (by simp) ?_
  refine AllReadyH.cons rfl (fun K2 hK2 => ?_) AllReadyH.nil
  go_simp
  refine Calls.mono (high_any j 2 w10 (by omega) (by decide)) ?_
  rintro e w11 ⟨rfl, R11, d11⟩
  have hr := hr.grew d11
  refine hK2.out _ _ hr (fun hr => ?_)
  clear hK2 K2
  have b11 : Below w1.heap.size w1 w11 := b10.trans (d11.mono b10.size)
  have B11 : BytesAt w11 (some ⟨w10.heap.size, 0, none⟩) 2 (high j 2) := row_bytes' R11 (fun _ _ => rfl) (fun i _ => high_lt _ _ _)
  have O11 := O10.grown d11
  obtain ⟨v12, w12, happ, O12, g12⟩ := O11.push (c := 2) (z := (cat (cat (cat (cat (cat (fun _ => 0) (high t 8) 0) (high l 4) 8) (high g 4) 12) (high u 2) 16) (high j 2) 18)) 24 B11 (by decide) b11.size (fun i hi => (cat_left hi).symm) (fun i hi => by rw [cat, if_neg (by omega), Nat.add_sub_cancel_left])
  have b12 := grown_below O11 g12 b11 b11.size
  refine wpAnyH_ready (rs := [10]) (by kernel_rfl) (by simp) ?_
  refine AllReadyH.cons rfl (fun K2 hK2 => ?_) AllReadyH.nil
  refine step_append_run rfl (.tmp 22) (.tmp 26) 24 rfl _ _ rfl rfl _ _ happ ?_
  have hr := HD.out.grew b12
  refine hK2.out _ _ hr (fun hr => ?_)
  clear hK2 K2 happ O10 O11 B11 R11 d11 b10 b11 g12
  refine wpAnyH_take (i := 11) (v := v12) rfl (by kernel_rfl) (by kernel_rfl) (by kernel_rfl) (fun _ _ _ h => h) (Yields.yieldsIf (Or.inl ⟨by kernel_rfl, fun _ => by kernel_rfl⟩)) hr ?_
  refine wpAnyH_done (by kernel_rfl) ?_ _
  have HA : Hid (NewRow w 20 (repLaid t l g u j) (.returned v12) w12) := (ror_new O12 (by decide) (fun i hi => repLaid_lt t l g u j i hi) b12).before b1.out
  clear O12 b12 HD b1 hr
  go_wp2
  go_ret
  exact HA.out

set_option maxRecDepth 100000 in
set_option maxHeartbeats 400000 in
theorem rputn_any (f k : Nat) (w : World) (lf : f < 4294967296) (lk : k < 65536) :
    Calls Try.prog 23 #[.int .u32 (f : Int), .int .u16 (k : Int)] w fun e w' => NewRow w 6 (nackLaid f k) e w' := by
  go_enter Try.func23, Try.ntmps23
  go_wp2_with fail
  refine (high_any f 4 w (by omega) (by decide)).mono ?_
  rintro e w1 ⟨rfl, R1, b1⟩
  have O1 : Ror w1 w.heap.size (.slice (some ⟨w.heap.size, 0, none⟩) 4 4) 4 (cat (fun _ => 0) (high f 4) 0) := (ror_made R1 (Nat.le_refl _) (by decide)).congr fun i hi => by unfold cat; rw [if_neg (by omega)]; rfl
  go_wp2_with fail
  refine (high_any k 2 w1 (by omega) (by decide)).mono ?_
  rintro e w2 ⟨rfl, R2, d2⟩
  have b2 := b1.trans (d2.mono b1.size)
  have B2 : BytesAt w2 (some ⟨w1.heap.size, 0, none⟩) 2 (high k 2) := row_bytes' R2 (fun _ _ => rfl) (fun i _ => high_lt _ _ _)
  have O2 := O1.grown d2
  obtain ⟨v3, w3, happ, O3, g3⟩ := O2.push (c := 2) (z := nackLaid f k) 24 B2 (by decide) b2.size (fun i hi => (cat_left hi).symm) (fun i hi => by rw [nackLaid, cat, if_neg (by omega), Nat.add_sub_cancel_left])
  have b3 := grown_below O2 g3 b2 b2.size
  have HA : Hid (NewRow w 6 (nackLaid f k) (.returned v3) w3) := ror_new O3 (by decide) (fun i hi => nackLaid_lt f k i hi) b3
  clear R1 b1 O1 R2 d2 b2 B2 O2 O3 g3 b3
  go_wp2_with (at_builtin; refine Go.Lib.wpList_append_run _ rfl (.tmp 7) (.tmp 10) 24 24 rfl _ _ rfl rfl _ _ happ ?_)
  go_ret
  exact HA.out

set_option maxRecDepth 100000 in
set_option maxHeartbeats 400000 in
theorem rtaker_no (a : Option Addr) (n c : Nat) (x : Nat → Nat) (w : World) (h : n ≠ 20) :
    Calls Try.prog 29 #[.slice a n c] w fun e w' => RepTake w n x e w' := by
  have D := RepAt.made w 29 0 0 0 0 0
  change RepAt (w.alloc (.cells #[.int .u64 0, .int .u32 0, .int .u32 0, .int .u16 0, .int .u16 0] 29)) _ _ _ _ _ _ at D
  have HA : Hid (RepTake w n x (.returned (.tuple #[.agg #[.int .u64 0, .int .u32 0, .int .u32 0, .int .u16 0, .int .u16 0], .int .i64 2])) (w.alloc (.cells #[.int .u64 0, .int .u32 0, .int .u32 0, .int .u16 0, .int .u16 0] 29))) := RepTake.no h ((Below.refl _ _).alloc (Nat.le_refl _) _)
  have i1 : ((n : Int) == 20) = false := by simp; omega
  have q0 := D.c0
  have q1 := D.c1
  have q2 := D.c2
  have q3 := D.c3
  have q4 := D.c4
  clear D h
  go_enter Try.func29, Try.ntmps29
  go_wp2
  refine bodyPost_ret (v := .tuple #[.agg #[.int .u64 0, .int .u32 0, .int .u32 0, .int .u16 0, .int .u16 0], .int .i64 2]) ?_ rfl HA.out
  simp [results, Try.results29, go_sem, q0, q1, q2, q3, q4]

set_option maxRecDepth 100000 in
set_option maxHeartbeats 1000000 in
theorem rtaker_yes (a : Option Addr) (c : Nat) (x : Nat → Nat) (w : World) (hx : BytesAt w a 20 x) (hc : 20 ≤ c) :
    Calls Try.prog 29 #[.slice a 20 c] w fun e w' => RepTake w 20 x e w' := by
  obtain ⟨b, o, rfl⟩ := bytes_some hx (by omega)
  have D1 := RepAt.made w 29 0 0 0 0 0
  change RepAt (w.alloc (.cells #[.int .u64 0, .int .u32 0, .int .u32 0, .int .u16 0, .int .u16 0] 29)) _ _ _ _ _ _ at D1
  have b1 : Below w.heap.size w (w.alloc (.cells #[.int .u64 0, .int .u32 0, .int .u32 0, .int .u16 0, .int .u16 0] 29)) := (Below.refl _ _).alloc (Nat.le_refl _) _
  have X1 : BytesAt (w.alloc (.cells #[.int .u64 0, .int .u32 0, .int .u32 0, .int .u16 0, .int .u16 0] 29)) (some ⟨b, o, none⟩) 20 x := hx.grew b1
  have lx := hx.lt
  clear hx
  have hs0 : ∀ W, (Instr.slice 24 (.slice (some ⟨b, o, none⟩) 20 c) none (some (.int .i64 8)) none).run Try.prog W = .ok (.slice (some ⟨b, o, none⟩) 8 (c)) W := fun W => slice_to (some ⟨b, o, none⟩) 20 c 8 W (by omega)
  have hs1 : ∀ W, (Instr.slice 24 (.slice (some ⟨b, o, none⟩) 20 c) (some (.int .i64 8)) (some (.int .i64 12)) none).run Try.prog W = .ok (.slice (some ⟨b, o + 8, none⟩) 4 (c - 8)) W := fun W => slice_span b o 20 c 8 12 W (by omega) (by omega) (by omega)
  have hs2 : ∀ W, (Instr.slice 24 (.slice (some ⟨b, o, none⟩) 20 c) (some (.int .i64 12)) (some (.int .i64 16)) none).run Try.prog W = .ok (.slice (some ⟨b, o + 12, none⟩) 4 (c - 12)) W := fun W => slice_span b o 20 c 12 16 W (by omega) (by omega) (by omega)
  have hs3 : ∀ W, (Instr.slice 24 (.slice (some ⟨b, o, none⟩) 20 c) (some (.int .i64 16)) (some (.int .i64 18)) none).run Try.prog W = .ok (.slice (some ⟨b, o + 16, none⟩) 2 (c - 16)) W := fun W => slice_span b o 20 c 16 18 W (by omega) (by omega) (by omega)
  have hs4 : ∀ W, (Instr.slice 24 (.slice (some ⟨b, o, none⟩) 20 c) (some (.int .i64 18)) none none).run Try.prog W = .ok (.slice (some ⟨b, o + 18, none⟩) 2 (c - 18)) W := fun W => slice_from b o 20 c 18 W (by omega) hc
  go_enter Try.func29, Try.ntmps29
  go_wp2_with fail
  refine wp_region_held (S := fun _ => True) (by kernel_rfl) ?_
  change wpAnyH _ _ _ _ _ _ _ _ (w.alloc (.cells #[.int .u64 0, .int .u32 0, .int .u32 0, .int .u16 0, .int .u16 0] 29)).drew
  have D2 : RepAt (w.alloc (.cells #[.int .u64 0, .int .u32 0, .int .u32 0, .int .u16 0, .int .u16 0] 29)).drew w.heap.size 0 0 0 0 0 := D1.grew (Below.refl _ _).drew
  have b2 : Below w.heap.size w (w.alloc (.cells #[.int .u64 0, .int .u32 0, .int .u32 0, .int .u16 0, .int .u16 0] 29)).drew := b1.drew
  have X2 : Hid (BytesAt (w.alloc (.cells #[.int .u64 0, .int .u32 0, .int .u32 0, .int .u16 0, .int .u16 0] 29)).drew (some ⟨b, o, none⟩) 20 x) := X1.grew (Below.refl _ _).drew
  clear D1 b1 X1
  generalize (w.alloc (.cells #[.int .u64 0, .int .u32 0, .int .u32 0, .int .u16 0, .int .u16 0] 29)).drew = w2 at *
  obtain ⟨t, ht⟩ : ∃ t, t = Crc.numTo x 8 := ⟨_, rfl⟩
  have lt : t < 18446744073709551616 := by rw [ht]; exact Crc.numTo_lt 8 fun i hi => lx _ (by omega)
  have Ht : Hid (t = Crc.numTo x 8) := ht
  have Nt : Hid (∀ W, BytesAt W (some ⟨b, o, none⟩) 20 x → Calls Try.prog 34 #[.slice (some ⟨b, o, none⟩) 8 (c)] W fun e w' => e = .returned (.int .u64 (t : Int)) ∧ w' = W) := fun W hW => by
    rw [ht]
    exact num_any _ 8 _ _ W (hW.take (by omega)) (by decide)
  clear ht
  obtain ⟨l, hl⟩ : ∃ l, l = Crc.numTo (fun i => x (8 + i)) 4 := ⟨_, rfl⟩
  have ll : l < 4294967296 := by rw [hl]; exact Crc.numTo_lt 4 fun i hi => lx _ (by omega)
  have Hl : Hid (l = Crc.numTo (fun i => x (8 + i)) 4) := hl
  have Nl : Hid (∀ W, BytesAt W (some ⟨b, o, none⟩) 20 x → Calls Try.prog 34 #[.slice (some ⟨b, o + 8, none⟩) 4 (c - 8)] W fun e w' => e = .returned (.int .u64 (l : Int)) ∧ w' = W) := fun W hW => by
    rw [hl]
    exact num_any _ 4 _ _ W (hW.span (by omega)) (by decide)
  clear hl
  obtain ⟨g, hg⟩ : ∃ g, g = Crc.numTo (fun i => x (12 + i)) 4 := ⟨_, rfl⟩
  have lg : g < 4294967296 := by rw [hg]; exact Crc.numTo_lt 4 fun i hi => lx _ (by omega)
  have Hg : Hid (g = Crc.numTo (fun i => x (12 + i)) 4) := hg
  have Ng : Hid (∀ W, BytesAt W (some ⟨b, o, none⟩) 20 x → Calls Try.prog 34 #[.slice (some ⟨b, o + 12, none⟩) 4 (c - 12)] W fun e w' => e = .returned (.int .u64 (g : Int)) ∧ w' = W) := fun W hW => by
    rw [hg]
    exact num_any _ 4 _ _ W (hW.span (by omega)) (by decide)
  clear hg
  obtain ⟨u, hu⟩ : ∃ u, u = Crc.numTo (fun i => x (16 + i)) 2 := ⟨_, rfl⟩
  have lu : u < 65536 := by rw [hu]; exact Crc.numTo_lt 2 fun i hi => lx _ (by omega)
  have Hu : Hid (u = Crc.numTo (fun i => x (16 + i)) 2) := hu
  have Nu : Hid (∀ W, BytesAt W (some ⟨b, o, none⟩) 20 x → Calls Try.prog 34 #[.slice (some ⟨b, o + 16, none⟩) 2 (c - 16)] W fun e w' => e = .returned (.int .u64 (u : Int)) ∧ w' = W) := fun W hW => by
    rw [hu]
    exact num_any _ 2 _ _ W (hW.span (by omega)) (by decide)
  clear hu
  obtain ⟨j, hj⟩ : ∃ j, j = Crc.numTo (fun i => x (18 + i)) 2 := ⟨_, rfl⟩
  have lj : j < 65536 := by rw [hj]; exact Crc.numTo_lt 2 fun i hi => lx _ (by omega)
  have Hj : Hid (j = Crc.numTo (fun i => x (18 + i)) 2) := hj
  have Nj : Hid (∀ W, BytesAt W (some ⟨b, o, none⟩) 20 x → Calls Try.prog 34 #[.slice (some ⟨b, o + 18, none⟩) 2 (c - 18)] W fun e w' => e = .returned (.int .u64 (j : Int)) ∧ w' = W) := fun W hW => by
    rw [hj]
    exact num_any _ 2 _ _ W (hW.span (by omega)) (by decide)
  clear hj
  have D5 := ((((D2.top t).lost l).got g).burst u).jitter j
  have HA : Hid (RepTake w 20 x (.returned (.tuple #[.agg #[.int .u64 (t : Int), .int .u32 (l : Int), .int .u32 (g : Int), .int .u16 (u : Int), .int .u16 (j : Int)], .int .i64 0])) (((((w2.setCell ⟨w.heap.size, 0, none⟩ (.int .u64 (t : Int))).setCell ⟨w.heap.size, 1, none⟩ (.int .u32 (l : Int))).setCell ⟨w.heap.size, 2, none⟩ (.int .u32 (g : Int))).setCell ⟨w.heap.size, 3, none⟩ (.int .u16 (u : Int))).setCell ⟨w.heap.size, 4, none⟩ (.int .u16 (j : Int)))) := RepTake.yes Ht.out Hl.out Hg.out Hu.out Hj.out (((((b2.setCell (p := ⟨w.heap.size, 0, none⟩) (Nat.le_refl _) (.int .u64 (t : Int))).setCell (p := ⟨w.heap.size, 1, none⟩) (Nat.le_refl _) (.int .u32 (l : Int))).setCell (p := ⟨w.heap.size, 2, none⟩) (Nat.le_refl _) (.int .u32 (g : Int))).setCell (p := ⟨w.heap.size, 3, none⟩) (Nat.le_refl _) (.int .u16 (u : Int))).setCell (p := ⟨w.heap.size, 4, none⟩) (Nat.le_refl _) (.int .u16 (j : Int)))
  have p0 := D2.c0
  have z0 := D2.frz 0
  have q0 := D5.c0
  have p1 := D2.c1
  have z1 := D2.frz 1
  have q1 := D5.c1
  have p2 := D2.c2
  have z2 := D2.frz 2
  have q2 := D5.c2
  have p3 := D2.c3
  have z3 := D2.frz 3
  have q3 := D5.c3
  have p4 := D2.c4
  have z4 := D2.frz 4
  have q4 := D5.c4
  clear D2 D5 b2 Ht Hl Hg Hu Hj lx
  refine wpAnyH_take (i := 0) (v := .slice (some ⟨b, o, none⟩) 20 c) rfl (by kernel_rfl) (by kernel_rfl) (by kernel_rfl) (fun _ _ _ h => h) (Yields.yieldsIf (Or.inl ⟨by kernel_rfl, fun _ => by kernel_rfl⟩)) trivial ?_
  refine wpAnyH_take (i := 1) (v := .slice (some ⟨b, o, none⟩) 8 (c)) rfl (by kernel_rfl) (by kernel_rfl) (by kernel_rfl) (fun _ _ _ h => h) (Yields.yieldsIf (Or.inl ⟨by kernel_rfl, fun _ => by go_simp⟩)) trivial ?_
  refine wpAnyH_take (i := 3) (v := .slice (some ⟨b, o, none⟩) 20 c) rfl (by kernel_rfl) (by kernel_rfl) (by kernel_rfl) (fun _ _ _ h => h) (Yields.yieldsIf (Or.inl ⟨by kernel_rfl, fun _ => by kernel_rfl⟩)) trivial ?_
  refine wpAnyH_take (i := 4) (v := .slice (some ⟨b, o + 8, none⟩) 4 (c - 8)) rfl (by kernel_rfl) (by kernel_rfl) (by kernel_rfl) (fun _ _ _ h => h) (Yields.yieldsIf (Or.inl ⟨by kernel_rfl, fun _ => by go_simp⟩)) trivial ?_
  refine wpAnyH_take (i := 7) (v := .slice (some ⟨b, o, none⟩) 20 c) rfl (by kernel_rfl) (by kernel_rfl) (by kernel_rfl) (fun _ _ _ h => h) (Yields.yieldsIf (Or.inl ⟨by kernel_rfl, fun _ => by kernel_rfl⟩)) trivial ?_
  refine wpAnyH_take (i := 8) (v := .slice (some ⟨b, o + 12, none⟩) 4 (c - 12)) rfl (by kernel_rfl) (by kernel_rfl) (by kernel_rfl) (fun _ _ _ h => h) (Yields.yieldsIf (Or.inl ⟨by kernel_rfl, fun _ => by go_simp⟩)) trivial ?_
  refine wpAnyH_take (i := 11) (v := .slice (some ⟨b, o, none⟩) 20 c) rfl (by kernel_rfl) (by kernel_rfl) (by kernel_rfl) (fun _ _ _ h => h) (Yields.yieldsIf (Or.inl ⟨by kernel_rfl, fun _ => by kernel_rfl⟩)) trivial ?_
  refine wpAnyH_take (i := 12) (v := .slice (some ⟨b, o + 16, none⟩) 2 (c - 16)) rfl (by kernel_rfl) (by kernel_rfl) (by kernel_rfl) (fun _ _ _ h => h) (Yields.yieldsIf (Or.inl ⟨by kernel_rfl, fun _ => by go_simp⟩)) trivial ?_
  refine wpAnyH_take (i := 15) (v := .slice (some ⟨b, o, none⟩) 20 c) rfl (by kernel_rfl) (by kernel_rfl) (by kernel_rfl) (fun _ _ _ h => h) (Yields.yieldsIf (Or.inl ⟨by kernel_rfl, fun _ => by kernel_rfl⟩)) trivial ?_
  refine wpAnyH_take (i := 16) (v := .slice (some ⟨b, o + 18, none⟩) 2 (c - 18)) rfl (by kernel_rfl) (by kernel_rfl) (by kernel_rfl) (fun _ _ _ h => h) (Yields.yieldsIf (Or.inl ⟨by kernel_rfl, fun _ => by go_simp⟩)) trivial ?_
  refine wpAnyH_ready (rs := [2]) (by kernel_rfl) (by simp) ?_
  refine AllReadyH.cons rfl (fun K2 hK2 => ?_) AllReadyH.nil
  go_simp
  refine Calls.mono (Nt.out w2 X2.out) ?_
  rintro e w' ⟨rfl, hw⟩
  have hw := hw.symm
  subst hw
  refine hK2.out _ _ trivial (fun _ => ?_)
  clear hK2 K2
  refine wpAnyH_ready (rs := [5]) (by kernel_rfl) (by simp) ?_
  refine AllReadyH.cons rfl (fun K2 hK2 => ?_) AllReadyH.nil
  go_simp
  refine Calls.mono (Nl.out w2 X2.out) ?_
  rintro e w' ⟨rfl, hw⟩
  have hw := hw.symm
  subst hw
  refine hK2.out _ _ trivial (fun _ => ?_)
  clear hK2 K2
  refine wpAnyH_take (i := 6) (v := .int .u32 (l : Int)) rfl (by kernel_rfl) (by kernel_rfl) (by kernel_rfl) (fun _ _ _ h => h) (Yields.yieldsIf (Or.inl ⟨by kernel_rfl, fun _ => by go_simp; rw [IntKind.wrap_u32']; omega⟩)) trivial ?_
  refine wpAnyH_ready (rs := [9]) (by kernel_rfl) (by simp) ?_
  refine AllReadyH.cons rfl (fun K2 hK2 => ?_) AllReadyH.nil
  go_simp
  refine Calls.mono (Ng.out w2 X2.out) ?_
  rintro e w' ⟨rfl, hw⟩
  have hw := hw.symm
  subst hw
  refine hK2.out _ _ trivial (fun _ => ?_)
  clear hK2 K2
  refine wpAnyH_take (i := 10) (v := .int .u32 (g : Int)) rfl (by kernel_rfl) (by kernel_rfl) (by kernel_rfl) (fun _ _ _ h => h) (Yields.yieldsIf (Or.inl ⟨by kernel_rfl, fun _ => by go_simp; rw [IntKind.wrap_u32']; omega⟩)) trivial ?_
  refine wpAnyH_ready (rs := [13]) (by kernel_rfl) (by simp) ?_
  refine AllReadyH.cons rfl (fun K2 hK2 => ?_) AllReadyH.nil
  go_simp
  refine Calls.mono (Nu.out w2 X2.out) ?_
  rintro e w' ⟨rfl, hw⟩
  have hw := hw.symm
  subst hw
  refine hK2.out _ _ trivial (fun _ => ?_)
  clear hK2 K2
  refine wpAnyH_take (i := 14) (v := .int .u16 (u : Int)) rfl (by kernel_rfl) (by kernel_rfl) (by kernel_rfl) (fun _ _ _ h => h) (Yields.yieldsIf (Or.inl ⟨by kernel_rfl, fun _ => by go_simp; rw [IntKind.wrap_u16]; omega⟩)) trivial ?_
  refine wpAnyH_ready (rs := [17]) (by kernel_rfl) (by simp) ?_
  refine AllReadyH.cons rfl (fun K2 hK2 => ?_) AllReadyH.nil
  go_simp
  refine Calls.mono (Nj.out w2 X2.out) ?_
  rintro e w' ⟨rfl, hw⟩
  have hw := hw.symm
  subst hw
  refine hK2.out _ _ trivial (fun _ => ?_)
  clear hK2 K2
  refine wpAnyH_take (i := 18) (v := .int .u16 (j : Int)) rfl (by kernel_rfl) (by kernel_rfl) (by kernel_rfl) (fun _ _ _ h => h) (Yields.yieldsIf (Or.inl ⟨by kernel_rfl, fun _ => by go_simp; rw [IntKind.wrap_u16]; omega⟩)) trivial ?_
  refine wpAnyH_take (i := 19) (v := .agg #[.int .u64 (t : Int), .int .u32 (l : Int), .int .u32 (g : Int), .int .u16 (u : Int), .int .u16 (j : Int)]) rfl (by kernel_rfl) (by kernel_rfl) (by kernel_rfl) (fun _ _ _ h => h) (Yields.yieldsIf (Or.inl ⟨by kernel_rfl, fun _ => by kernel_rfl⟩)) trivial ?_
  refine wpAnyH_ready (rs := [20]) (by kernel_rfl) (by simp) ?_
  refine AllReadyH.cons rfl (fun K2 hK2 => ?_) AllReadyH.nil
  go_simp
  refine hK2.out _ _ trivial (fun _ => ?_)
  clear hK2 K2
  refine wpAnyH_take (i := 21) (v := .int .i64 0) rfl (by kernel_rfl) (by kernel_rfl) (by kernel_rfl) (fun _ _ _ h => h) (Yields.yieldsIf (Or.inl ⟨by kernel_rfl, fun _ => by kernel_rfl⟩)) trivial ?_
  refine wpAnyH_done (by kernel_rfl) ?_ _
  generalize (((((w2.setCell ⟨w.heap.size, 0, none⟩ (.int .u64 (t : Int))).setCell ⟨w.heap.size, 1, none⟩ (.int .u32 (l : Int))).setCell ⟨w.heap.size, 2, none⟩ (.int .u32 (g : Int))).setCell ⟨w.heap.size, 3, none⟩ (.int .u16 (u : Int))).setCell ⟨w.heap.size, 4, none⟩ (.int .u16 (j : Int))) = w5 at *
  clear z0 z1 z2 z3 z4 p0 p1 p2 p3 p4
  go_wp2
  refine bodyPost_ret (v := .tuple #[.agg #[.int .u64 (t : Int), .int .u32 (l : Int), .int .u32 (g : Int), .int .u16 (u : Int), .int .u16 (j : Int)], .int .i64 0]) ?_ rfl HA.out
  simp [results, Try.results29, go_sem, q0, q1, q2, q3, q4]

theorem rtaker_any (a : Option Addr) (n c : Nat) (x : Nat → Nat) (w : World) (hx : BytesAt w a n x) (hc : n ≤ c) :
    Calls Try.prog 29 #[.slice a n c] w fun e w' => RepTake w n x e w' := by
  by_cases h : n = 20
  · subst h; exact rtaker_yes a c x w hx hc
  · exact rtaker_no a n c x w h

set_option maxRecDepth 100000 in
set_option maxHeartbeats 400000 in
theorem rtaken_any (a : Option Addr) (n c : Nat) (x : Nat → Nat) (w : World) (hx : BytesAt w a n x) (hc : n ≤ c) :
    Calls Try.prog 30 #[.slice a n c] w fun e w' => NackTake w n x e w' := by
  by_cases h : n = 6
  · subst h
    obtain ⟨b, o, rfl⟩ := bytes_some hx (by omega)
    obtain ⟨f, hf⟩ : ∃ f, f = Crc.numTo x 4 := ⟨_, rfl⟩
    obtain ⟨k, hk⟩ : ∃ k, k = Crc.numTo (fun i => x (4 + i)) 2 := ⟨_, rfl⟩
    have lf : f < 4294967296 := by rw [hf]; exact Crc.numTo_lt 4 fun i hi => hx.lt _ (by omega)
    have lk : k < 65536 := by rw [hk]; exact Crc.numTo_lt 2 fun i hi => hx.lt _ (by omega)
    have hs0 : ∀ W, (Instr.slice 24 (.slice (some ⟨b, o, none⟩) 6 c) none (some (.int .i64 4)) none).run Try.prog W = .ok (.slice (some ⟨b, o, none⟩) 4 c) W := fun W => slice_to (some ⟨b, o, none⟩) 6 c 4 W (by omega)
    have hs1 : ∀ W, (Instr.slice 24 (.slice (some ⟨b, o, none⟩) 6 c) (some (.int .i64 4)) none none).run Try.prog W = .ok (.slice (some ⟨b, o + 4, none⟩) 2 (c - 4)) W := fun W => slice_from b o 6 c 4 W (by omega) hc
    have Nf : Hid (Calls Try.prog 34 #[.slice (some ⟨b, o, none⟩) 4 c] w.drew fun e w' => e = .returned (.int .u64 (f : Int)) ∧ w' = w.drew) := by
      rw [hf]
      exact num_any _ 4 _ _ _ ((hx.grew (Below.refl _ _).drew).take (by omega)) (by decide)
    have Nk : Hid (Calls Try.prog 34 #[.slice (some ⟨b, o + 4, none⟩) 2 (c - 4)] w.drew fun e w' => e = .returned (.int .u64 (k : Int)) ∧ w' = w.drew) := by
      rw [hk]
      exact num_any _ 2 _ _ _ ((hx.grew (Below.refl _ _).drew).span (by omega)) (by decide)
    have HA : Hid (NackTake w 6 x (.returned (.tuple #[.int .u32 (f : Int), .int .u16 (k : Int), .int .i64 0])) w.drew) := NackTake.yes hf hk (Below.refl _ _).drew
    clear hx hf hk
    go_enter Try.func30, Try.ntmps30
    go_wp2_with fail
    refine wp_region_held (S := fun _ => True) (by kernel_rfl) ?_
    change wpAnyH _ _ _ _ _ _ _ _ w.drew
    generalize w.drew = w2 at *
    refine wpAnyH_take (i := 0) (v := .slice (some ⟨b, o, none⟩) 6 c) rfl (by kernel_rfl) (by kernel_rfl) (by kernel_rfl) (fun _ _ _ h => h) (Yields.yieldsIf (Or.inl ⟨by kernel_rfl, fun _ => by kernel_rfl⟩)) trivial ?_
    refine wpAnyH_take (i := 1) (v := .slice (some ⟨b, o, none⟩) 4 c) rfl (by kernel_rfl) (by kernel_rfl) (by kernel_rfl) (fun _ _ _ h => h) (Yields.yieldsIf (Or.inl ⟨by kernel_rfl, fun _ => by go_simp⟩)) trivial ?_
    refine wpAnyH_take (i := 4) (v := .slice (some ⟨b, o, none⟩) 6 c) rfl (by kernel_rfl) (by kernel_rfl) (by kernel_rfl) (fun _ _ _ h => h) (Yields.yieldsIf (Or.inl ⟨by kernel_rfl, fun _ => by kernel_rfl⟩)) trivial ?_
    refine wpAnyH_take (i := 5) (v := .slice (some ⟨b, o + 4, none⟩) 2 (c - 4)) rfl (by kernel_rfl) (by kernel_rfl) (by kernel_rfl) (fun _ _ _ h => h) (Yields.yieldsIf (Or.inl ⟨by kernel_rfl, fun _ => by go_simp⟩)) trivial ?_
    refine wpAnyH_ready (rs := [2]) (by kernel_rfl) (by simp) ?_
    refine AllReadyH.cons rfl (fun K2 hK2 => ?_) AllReadyH.nil
    go_simp
    refine Calls.mono Nf.out ?_
    rintro e w' ⟨rfl, hw⟩
    have hw := hw.symm
    subst hw
    refine hK2.out _ _ trivial (fun _ => ?_)
    clear hK2 K2
    refine wpAnyH_take (i := 3) (v := .int .u32 (f : Int)) rfl (by kernel_rfl) (by kernel_rfl) (by kernel_rfl) (fun _ _ _ h => h) (Yields.yieldsIf (Or.inl ⟨by kernel_rfl, fun _ => by go_simp; rw [IntKind.wrap_u32']; omega⟩)) trivial ?_
    refine wpAnyH_ready (rs := [6]) (by kernel_rfl) (by simp) ?_
    refine AllReadyH.cons rfl (fun K2 hK2 => ?_) AllReadyH.nil
    go_simp
    refine Calls.mono Nk.out ?_
    rintro e w' ⟨rfl, hw⟩
    have hw := hw.symm
    subst hw
    refine hK2.out _ _ trivial (fun _ => ?_)
    clear hK2 K2
    refine wpAnyH_take (i := 7) (v := .int .u16 (k : Int)) rfl (by kernel_rfl) (by kernel_rfl) (by kernel_rfl) (fun _ _ _ h => h) (Yields.yieldsIf (Or.inl ⟨by kernel_rfl, fun _ => by go_simp; rw [IntKind.wrap_u16]; omega⟩)) trivial ?_
    refine wpAnyH_take (i := 8) (v := .int .u32 (f : Int)) rfl (by kernel_rfl) (by kernel_rfl) (by kernel_rfl) (fun _ _ _ h => h) (Yields.yieldsIf (Or.inl ⟨by kernel_rfl, fun _ => by kernel_rfl⟩)) trivial ?_
    refine wpAnyH_take (i := 9) (v := .int .u16 (k : Int)) rfl (by kernel_rfl) (by kernel_rfl) (by kernel_rfl) (fun _ _ _ h => h) (Yields.yieldsIf (Or.inl ⟨by kernel_rfl, fun _ => by kernel_rfl⟩)) trivial ?_
    refine wpAnyH_take (i := 10) (v := .int .i64 0) rfl (by kernel_rfl) (by kernel_rfl) (by kernel_rfl) (fun _ _ _ h => h) (Yields.yieldsIf (Or.inl ⟨by kernel_rfl, fun _ => by kernel_rfl⟩)) trivial ?_
    refine wpAnyH_done (by kernel_rfl) ?_ _
    go_wp2
    refine bodyPost_ret (v := .tuple #[.int .u32 (f : Int), .int .u16 (k : Int), .int .i64 0]) ?_ rfl HA.out
    simp [results, Try.results30, go_sem]
  · have i1 : ((n : Int) == 6) = false := by simp; omega
    have HA : Hid (NackTake w n x (.returned (.tuple #[.int .u32 0, .int .u16 0, .int .i64 2])) w) := NackTake.no h (Below.refl _ _)
    clear h hx
    go_enter Try.func30, Try.ntmps30
    go_wp2
    refine bodyPost_ret (v := .tuple #[.int .u32 0, .int .u16 0, .int .i64 2]) ?_ rfl HA.out
    simp [results, Try.results30, go_sem]

set_option maxRecDepth 100000 in
set_option maxHeartbeats 400000 in
theorem rtakeg_any (a : Option Addr) (n c : Nat) (x : Nat → Nat) (w : World) (hx : BytesAt w a n x) :
    Calls Try.prog 31 #[.slice a n c] w fun e w' => GoneTake w n x e w' := by
  by_cases h : n = 4
  · subst h
    obtain ⟨f, hf⟩ : ∃ f, f = Crc.numTo x 4 := ⟨_, rfl⟩
    have lf : f < 4294967296 := by rw [hf]; exact Crc.numTo_lt 4 fun i hi => hx.lt _ (by omega)
    have Nf := num_any a 4 c x w hx (by decide)
    rw [← hf] at Nf
    have Nf : Hid (Calls Try.prog 34 #[.slice a 4 c] w fun e w' => e = .returned (.int .u64 (f : Int)) ∧ w' = w) := Nf
    have HA : Hid (GoneTake w 4 x (.returned (.tuple #[.int .u32 (f : Int), .int .i64 0])) w) := GoneTake.yes hf (Below.refl _ _)
    clear hx hf
    go_enter Try.func31, Try.ntmps31
    go_wp2_with fail
    refine Nf.out.mono ?_
    rintro e w' ⟨rfl, hw⟩
    have hw := hw.symm
    subst hw
    go_wp2
    refine bodyPost_ret (v := .tuple #[.int .u32 (f : Int), .int .i64 0]) ?_ rfl HA.out
    simp [results, Try.results31, go_sem]
  · have i1 : ((n : Int) == 4) = false := by simp; omega
    have HA : Hid (GoneTake w n x (.returned (.tuple #[.int .u32 0, .int .i64 2])) w) := GoneTake.no h (Below.refl _ _)
    clear h hx
    go_enter Try.func31, Try.ntmps31
    go_wp2
    refine bodyPost_ret (v := .tuple #[.int .u32 0, .int .i64 2]) ?_ rfl HA.out
    simp [results, Try.results31, go_sem]
end Go.Proofs.Ytcflaklnafggmaa
