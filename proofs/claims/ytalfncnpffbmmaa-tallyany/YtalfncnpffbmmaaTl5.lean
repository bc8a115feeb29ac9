/-
  Package tally: Got, of the second half round alone.
-/
import Derived.Test.YtalfncnpffbmmaaTl4
namespace Go.Proofs.Ytalfncnpffbmmaa
open Go.RowKit Go.Deep

theorem one_sorted {x : Int} {R : Array Int} (h : SortTo 0 1 #[x] R) : R = #[x] := by
  obtain ⟨⟨h1, -, h3⟩, -⟩ := h
  have e : R.extract 0 1 = R := by rw [← show R.size = 1 from h1, Array.extract_size]
  rw [e] at h3
  have h4 : R.toList.Perm [x] := h3
  have := List.perm_singleton.1 h4
  exact Array.toList_inj.1 this
theorem far_near (t n : Nat) (h1 : 65536 ≤ t) (h2 : t < 98304) (hn : n < 32768) : Ser.far t n = 65536 + n := by
  have h := Ser.far_pos n h1
  have e : Ser.dif (t % 65536) n = (n : Int) - ((t : Int) - 65536) := by
    have : t % 65536 = t - 65536 := by omega
    rw [this]
    unfold Ser.dif
    split <;> omega
  rw [e] at h
  omega
set_option maxRecDepth 100000 in
set_option maxHeartbeats 1000000 in
theorem tforget_first (g cm im fb m x : Nat) (v : Nat → Value) (w : World) (hx1 : 65536 ≤ x) (hx2 : x < 98304)
    (hv1 : v 1 = .map (some cm)) (hv4 : v 4 = fresh fb m 1) (hv5 : v 5 = .int .u64 ((x - 1 : Nat) : Int)) (hv6 : v 6 = .int .u64 0)
    (HG : Hid (GAt w g v)) (HH : Hid (HalfAt w cm 1 (fun y => if y = 2 then some im else none))) (HX : Hid (Srow w fb 0 m #[(x : Int)])) (H5 : Hid (g ≠ cm ∧ g ≠ fb ∧ cm ≠ fb)) :
    Calls Try.prog 16 #[.pointer (some ⟨g, 0, none⟩), .int .u64 2] w fun e w' => e = .returned (.tuple #[]) ∧
      GAt w' g v ∧ HalfAt w' cm 1 (fun y => if y = 2 then some im else none) ∧ Srow w' fb 0 m #[(x : Int)] ∧ KeptF (fun R => R = g ∨ R = cm ∨ R = fb) w w' := by
  obtain ⟨n1, n2, n3⟩ := H5.out
  have HV : Hid (v 4 = fresh fb m 1 ∧ v 5 = .int .u64 ((x - 1 : Nat) : Int) ∧ v 6 = .int .u64 0) := ⟨hv4, hv5, hv6⟩
  have c1 : w.cell? ⟨g, 1, none⟩ = some (.map (some cm)) := (HG.out.cell 1 (by decide)).trans (by rw [hv1])
  obtain ⟨w1, hdel, H1, g1, z1⟩ := HH.out.drop (x := 0) 0 (by decide)
  have hdel : ∀ ty, (Builtin.delete_ #[38, 26] ty #[.map (some cm), .int .u64 0]).run Try.prog w = .ok (.tuple #[]) w1 := fun ty => hdel
  have HH1 : Hid (HalfAt w1 cm 1 (fun y => if y = 2 then some im else none)) := by
    have e : (fun y => if y = 0 then none else if y = 2 then some im else none) = (fun y => if y = 2 then some im else none) := by
      funext y
      by_cases h : y = 0
      · subst h; rfl
      · rw [if_neg h]
    rw [e] at H1
    exact H1
  have HG1 : Hid (GAt w1 g v) := HG.out.grown g1 (by simpa using n1)
  have HX1 : Hid (Srow w1 fb 0 m #[(x : Int)]) := HX.out.grown g1 (by simpa using n3.symm)
  have HK1 : Hid (KeptF (fun R => R = g ∨ R = cm ∨ R = fb) w w1) := KeptF.of_kept (kept_grown g1) (Or.inr (Or.inl rfl))
  have c4 : w1.cell? ⟨g, 4, none⟩ = some (.slice (some ⟨fb, 0, none⟩) 1 m) := (HG1.out.cell 4 (by decide)).trans (by rw [hv4]; rfl)
  have N1 : Hid (g ≠ cm) := n1
  have N2 : Hid (g ≠ fb) := n2
  have N3 : Hid (cm ≠ fb) := n3
  clear HG HH HX H5 n1 n2 n3 H1 g1 z1 hv4 hv5 hv6
  go_enter Try.func16, Try.ntmps16
  go_wp2_with fail
  refine (ssort_any fb 0 m m 1 #[(x : Int)] w1 (by decide) rfl HX1).mono ?_
  rintro e w2 ⟨rfl, R, X2, S2, K2⟩
  obtain rfl := one_sorted S2
  have HX2 : Hid (Srow w2 fb 0 m #[(x : Int)]) := X2
  have HG2 : Hid (GAt w2 g v) := HG1.out.kept K2 N2.out
  have HH2 : Hid (HalfAt w2 cm 1 (fun y => if y = 2 then some im else none)) := HH1.out.kept K2 N3.out
  have HK2 : Hid (KeptF (fun R => R = g ∨ R = cm ∨ R = fb) w w2) := HK1.out.trans (KeptF.of_kept K2 (Or.inr (Or.inr rfl)))
  have c4 : w2.cell? ⟨g, 4, none⟩ = some (.slice (some ⟨fb, 0, none⟩) 1 m) := (HG2.out.cell 4 (by decide)).trans (by rw [HV.out.1]; rfl)
  clear X2 S2 K2 HX1 HG1 HH1 HK1 hdel c1
  go_wp2_with fail
  refine (bsearch_one fb m (x : Int) 32768 w2 (by omega) HX2).mono ?_
  rintro e w3 ⟨rfl, q3⟩
  have HX3 : Hid (Srow w3 fb 0 m #[(x : Int)]) := HX2.out.same q3
  have HG3 : Hid (GAt w3 g v) := HG2.out.same q3
  have HH3 : Hid (HalfAt w3 cm 1 (fun y => if y = 2 then some im else none)) := HH2.out.kept (Kept.of_same (R := fb) q3) N3.out
  have HK3 : Hid (KeptF (fun R => R = g ∨ R = cm ∨ R = fb) w w3) := HK2.out.trans (KeptF.of_same q3)
  clear q3 HX2 HG2 HH2 HK2
  go_wp2_with fail
  refine (tsettle_any g fb m 0 1 (x - 1) 0 #[(x : Int)] (fun _ => x) v w3 rfl (Or.inl rfl) (by decide) (fun i hi => absurd hi (by omega)) (fun i hi => absurd hi (by omega)) (fun i hi => absurd hi (by omega)) (by decide) HV.out.1 HV.out.2.1 HV.out.2.2 HG3 HX3 N2.out).mono ?_
  rintro e w4 ⟨rfl, G4, X4, K4⟩
  have HE : Hid (GAt w4 g v ∧ HalfAt w4 cm 1 (fun y => if y = 2 then some im else none) ∧ Srow w4 fb 0 m #[(x : Int)] ∧ KeptF (fun R => R = g ∨ R = cm ∨ R = fb) w w4) := by
    refine ⟨G4.congr (fun i hi => ?_), HH3.out.block (K4.block cm HH3.out.lt (fun h => by rcases h with h | h; exact N1.out h.symm; exact N3.out h)), X4, HK3.out.trans ⟨K4.os, K4.tape, K4.output, K4.size, fun i hi hF => K4.block i hi (fun h => hF (by rcases h with h | h; exact Or.inl h; exact Or.inr (Or.inr h)))⟩⟩
    rcases nine hi with rfl | rfl | rfl | rfl | rfl | rfl | rfl | rfl | rfl <;> first | rfl | exact HV.out.1.symm | exact HV.out.2.1.symm | exact HV.out.2.2.symm
  clear G4 X4 K4
  go_wp2
  exact bodyPost_end (results_none Try.results16 _ _ _) rfl ⟨rfl, HE.out⟩
end Go.Proofs.Ytalfncnpffbmmaa
