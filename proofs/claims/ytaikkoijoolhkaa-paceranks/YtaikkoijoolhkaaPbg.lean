/-
  What a call begins with: begun answers true.
-/
import Derived.Test.YtaikkoijoolhkaaPlv
namespace Go.Proofs.Ytaikkoijoolhkaa
open Go.RowKit Go.Deep

def ba : It := ⟨1, 0, 0, 10, 5⟩
def bb : It := ⟨1, 1, 0, 10, 9⟩

set_option maxRecDepth 100000 in
set_option maxHeartbeats 2000000 in
theorem begun22 (w : World) : Calls Try.prog 8 #[] w fun e w' => e = .returned (.bool true) ∧ Below w.heap.size w w' := by
  obtain ⟨B, hB⟩ : ∃ B, w.heap.size = B := ⟨_, rfl⟩
  obtain ⟨w1, e1⟩ : ∃ x, w.alloc (.cells #[.slice none 0 0] 55) = x := ⟨_, rfl⟩
  have H0 : Hid (Calls Try.prog 9 #[] w fun e w' => e = .returned (.pointer (some ⟨B, 0, none⟩)) ∧ w' = w1) := by
    rw [← hB, ← e1]
    exact pnew_any w
  have L1 : Lv w B [] w1 := by rw [← hB, ← e1]; exact Lv.made w _
  have H1 : Hid (Calls Try.prog 10 #[.pointer (some ⟨B, 0, none⟩), .agg #[.int .u32 1, .int .i64 0, .int .i64 0, .int .i64 10, .int .i64 5]] w1 fun e w' => e = .returned (.bool true) ∧ Lv w B [ba] w') := put_lv ba L1 (by decide) (by decide)
  clear L1 e1 hB
  go_enter Try.func8, Try.ntmps8
  go_wp2_with fail
  refine H0.out.mono ?_
  rintro e w' ⟨rfl, hw⟩
  subst w'
  clear H0
  go_wp2_with fail
  refine H1.out.mono ?_
  rintro e w2 ⟨rfl, L2⟩
  have H2 : Hid (Calls Try.prog 10 #[.pointer (some ⟨B, 0, none⟩), .agg #[.int .u32 1, .int .i64 1, .int .i64 0, .int .i64 10, .int .i64 9]] w2 fun e w' => e = .returned (.bool true) ∧ Lv w B [ba, bb] w') := put_lv bb L2 (by decide) (by decide)
  clear H1 L2
  go_wp2_with fail
  refine H2.out.mono ?_
  rintro e w3 ⟨rfl, L3⟩
  obtain ⟨v3, Q3⟩ := L3.q
  have B3 : Hid (Below w.heap.size w w3) := L3.bel
  have HQ3 : Hid (QAt w3 w.heap.size B v3 [ba, bb]) := Q3
  have H3 : Hid (Calls Try.prog 21 #[.pointer (some ⟨B, 0, none⟩)] w3 fun e w' => ∃ r c s, e = .returned (.slice r 1 c) ∧ Told [⟨1, 0, 20⟩] s ∧ LsAt wE w' r s ∧ Below w3.heap.size w3 w' ∧ ∀ b o, r = some ⟨b, o, none⟩ → w3.heap.size ≤ b) :=
    wants_any _ B v3 [ba, bb] w3 Q3 (by show _ ≤ _; decide) (by show ∀ a, _; intro a ha; have := L3.ok.bts a ha; omega) L3.ok.frm
  clear H2 L3 Q3
  go_wp2_with fail
  refine H3.out.mono ?_
  rintro e w4 ⟨r4, c4, s4, rfl, ht, hls4, b4, hr4⟩
  obtain rfl := ht.single
  obtain ⟨g4, o4, rfl⟩ := hls4.addr (by decide)
  have hg4 := hr4 g4 o4 rfl
  have Q4 := HQ3.out.grew b4
  have hf3 := fun k hk => (HQ3.out.feet (k := k) hk).2
  have H4 : Hid (Calls Try.prog 13 #[.pointer (some ⟨B, 0, none⟩), .int .u32 1, .int .i64 15] w4 fun e w' => ∃ vg, e = .returned vg ∧ Ir w' w4.heap.size vg [ba] ∧ ∃ v', QAt w' w.heap.size B v' [bb] ∧ But ([] ++ feet B v3) w4 w' ∧ ∀ g, v'.ownBlock = some g → v3.ownBlock = some g) :=
    take_any _ B 1 15 v3 [ba, bb] w4 Q4 (by show _ ≤ _; decide) (by show ∀ a, _; intro a ha; simp at ha; rcases ha with rfl | rfl <;> decide) (by show _ < _; decide)
  have hc4 := (ls_wn hls4 0 (by decide)).c2
  have F4 : Hid (w3.heap.size ≤ g4 ∧ (∀ k, k ∈ feet B v3 → k < w3.heap.size) ∧ w4.cell? ⟨g4, o4 + 0 * 3 + 2, none⟩ = some (.int .i64 20) ∧ w3.heap.size ≤ w4.heap.size ∧ Below w.heap.size w w4 ∧ QAt w4 w.heap.size B v3 [ba, bb]) := ⟨hg4, hf3, hc4, b4.size, B3.out.trans (b4.mono B3.out.size), Q4⟩
  clear H3 HQ3 B3 b4 hls4 hr4 hg4 Q4 hf3 hc4 ht
  go_wp2_with fail
  refine H4.out.mono ?_
  rintro e w5 ⟨vg5, rfl, hr5, v5, Q5, k5, hown5⟩
  obtain ⟨r5, c5, rfl, hls5, -, -, hsome5⟩ := Lr.any hr5
  obtain ⟨b5, o5, er5⟩ := hls5.addr (by decide)
  obtain ⟨g5, er5', hg5, hg5l, -⟩ := hsome5 _ er5
  clear er5
  subst er5'
  have hc5 := (ls_it hls5 0 (by decide)).c1
  have hf5 : ∀ k, k ∈ feet B v5 → k < w3.heap.size := fun k hk => by
    rcases mem_feet.1 hk with h | h
    · exact F4.out.2.1 k (mem_feet.2 (.inl h))
    · exact F4.out.2.1 k (mem_feet.2 (.inr (hown5 k h)))
  have hw5 : w5.cell? ⟨g4, o4 + 0 * 3 + 2, none⟩ = some (.int .i64 20) := (World.cell?_of_block (a := ⟨g4, o4 + 0 * 3 + 2, none⟩) (k5.block g4 (cell_lt F4.out.2.2.1) (fun m => by have := F4.out.2.1 g4 (by simpa using m); have := F4.out.1; omega))).trans F4.out.2.2.1
  have b5 : Below w.heap.size w w5 := feet_below F4.out.2.2.2.2.2 (Nat.le_refl _) F4.out.2.2.2.2.1 (k5.mono (fun i hi _ => by simpa using hi))
  have H5 : Hid (Calls Try.prog 15 #[.pointer (some ⟨B, 0, none⟩), .int .i64 9] w5 fun e w' => ∃ vg, e = .returned vg ∧ Ir w' w5.heap.size vg [bb] ∧ ∃ v', QAt w' w.heap.size B v' [] ∧ But ([] ++ feet B v5) w5 w' ∧ ∀ g, v'.ownBlock = some g → v5.ownBlock = some g) :=
    expire_any _ B 9 v5 [bb] w5 Q5 (by show _ ≤ _; decide)
  have F5 : Hid (w3.heap.size ≤ g4 ∧ w3.heap.size ≤ g5 ∧ (∀ k, k ∈ feet B v5 → k < w3.heap.size) ∧ w5.cell? ⟨g4, o4 + 0 * 3 + 2, none⟩ = some (.int .i64 20) ∧ w5.cell? ⟨g5, 0 + 0 * 5 + 1, none⟩ = some (.int .i64 0) ∧ Below w.heap.size w w5 ∧ QAt w5 w.heap.size B v5 [bb]) := ⟨F4.out.1, by have := F4.out.2.2.2.1; show _ ≤ _; omega, hf5, hw5, hc5, b5, Q5⟩
  clear H4 F4 hr5 hls5 hsome5 hg5 hg5l hc5 hf5 hw5 b5 Q5 k5 hown5
  go_wp2_with fail
  refine H5.out.mono ?_
  rintro e w6 ⟨vg6, rfl, hr6, v6, Q6, k6, -⟩
  obtain ⟨r6, c6, rfl, -⟩ := Lr.any hr6
  have t4 : w6.cell? ⟨g4, o4 + 2, none⟩ = some (.int .i64 20) := by
    have := (World.cell?_of_block (a := ⟨g4, o4 + 0 * 3 + 2, none⟩) (k6.block g4 (cell_lt F5.out.2.2.2.1) (fun m => by have := F5.out.2.2.1 g4 (by simpa using m); have := F5.out.1; omega))).trans F5.out.2.2.2.1
    simpa using this
  have t5 : w6.cell? ⟨g5, 1, none⟩ = some (.int .i64 0) := by
    have := (World.cell?_of_block (a := ⟨g5, 0 + 0 * 5 + 1, none⟩) (k6.block g5 (cell_lt F5.out.2.2.2.2.1) (fun m => by have := F5.out.2.2.1 g5 (by simpa using m); have := F5.out.2.1; omega))).trans F5.out.2.2.2.2.1
    simpa using this
  have L6 : Lv w B [] w6 := ⟨⟨_, Q6⟩, feet_below F5.out.2.2.2.2.2.2 (Nat.le_refl _) F5.out.2.2.2.2.2.1 (k6.mono (fun i hi _ => by simpa using hi)), Okl.nil⟩
  have H6 : Hid (Calls Try.prog 23 #[.pointer (some ⟨B, 0, none⟩)] w6 fun e w' => e = .returned (.int .i64 0) ∧ w' = w6) := len_lv L6
  have H7 : Hid (Calls Try.prog 17 #[.pointer (some ⟨B, 0, none⟩), .int .u32 1] w6 fun e w' => e = .returned (.int .i64 0) ∧ Lv w B [] w') := drop_lv 1 L6
  clear H5 F5 hr6 k6 Q6 L6
  go_wp2_with fail
  refine H6.out.mono ?_
  rintro e w' ⟨rfl, hw⟩
  subst w'
  clear H6
  go_wp2_with fail
  refine H7.out.mono ?_
  rintro e w7 ⟨rfl, L7⟩
  have H8 : Hid (Calls Try.prog 19 #[.pointer (some ⟨B, 0, none⟩), .int .u32 1, .int .i64 0] w7 fun e w' => e = .returned (.int .i64 0) ∧ Lv w B [] w') := rank_lv 1 0 L7
  clear H7 L7 t4 t5
  go_wp2_with fail
  refine H8.out.mono ?_
  rintro e w8 ⟨rfl, L8⟩
  have HE : Hid (Below w.heap.size w w8) := L8.bel
  clear H8 L8
  go_wp2_with fail
  go_ret
  exact ⟨rfl, HE.out⟩
end Go.Proofs.Ytaikkoijoolhkaa
