/-
  The library's BinarySearch of one number that is above what is looked for, and Delete of all, or none, of a row's first ones.
-/
import Derived.Deep.Upon
import Derived.Test.YtalfncnpffbmmaaTl0
namespace Go.Proofs.Ytalfncnpffbmmaa
open Go.RowKit Go.Deep

set_option maxRecDepth 100000 in
theorem snan2_any (x : Int) (w : World) : Calls Try.prog 27 #[.int .u64 x] w fun e w' => e = .returned (.bool false) ∧ w' = w := by
  have h : (x != x) = false := by simp
  go_enter Try.func27, Try.ntmps27
  go_wp2
  go_ret
  exact ⟨rfl, rfl⟩
set_option maxRecDepth 100000 in
set_option maxHeartbeats 1000000 in
theorem bsearch_one (b m : Nat) (x T : Int) (w : World) (hT : T < x) (HX : Hid (Srow w b 0 m #[x])) :
    Calls Try.prog 21 #[.slice (some ⟨b, 0, none⟩) 1 m, .int .u64 T] w fun e w' => e = .returned (.tuple #[.int .i64 0, .bool false]) ∧ Same w w' := by
  have c1 : w.cell? ⟨b, 0, none⟩ = some (.int .u64 x) := HX.out.cell 0 (by simp)
  have l1 : decide (x < T) = false := by simp; omega
  have l2 : (x == T) = false := by simp; omega
  go_enter Try.func21, Try.ntmps21
  go_wp2_with fail
  go_loopw [7, 8, 9] (fun i j h wr => i = .int .i64 0 ∧ wr = w ∧ (j = .int .i64 1 ∨ j = .int .i64 0)) (fun _ j _ _ => (intOf j).toNat)
  case atStart => exact ⟨rfl, rfl, Or.inl rfl⟩
  case round =>
    obtain ⟨rfl, rfl, rfl | rfl⟩ := hrel
    · go_wp2_with fail
      refine (sless_any _ _ _).mono ?_
      rintro e w1 ⟨rfl, rfl⟩
      go_wp2_with fail
      go_roundw
      case rel => exact ⟨rfl, trivial, Or.inr rfl⟩
      case measure => simp [intOf]
    · go_wp2_with fail
      refine (snan2_any _ _).mono ?_
      rintro e w1 ⟨rfl, rfl⟩
      go_wp2
      go_ret2
      exact ⟨rfl, Same.refl _⟩
theorem row_clear {v : World} {b m : Nat} {d : Array Int} (h : Srow v b 0 m d) (l : List Value) (o : Nat) : Srow (v.setCells b o l) b 0 m #[] ∧ Kept b v (v.setCells b o l) := by
  have H : ∀ (l : List Value) (o : Nat) (v : World), (∃ A, v.rowIs b 26 m A) → (∃ A, (v.setCells b o l).rowIs b 26 m A) ∧ Kept b v (v.setCells b o l) := by
    intro l
    induction l with
    | nil => exact fun o v h => ⟨h, Kept.refl _ _⟩
    | cons a l ih =>
      rintro o v ⟨A, hA⟩
      obtain ⟨h1, h2⟩ := ih (o + 1) _ ⟨_, hA.set o a⟩
      exact ⟨h1, (Kept.set v o a).trans h2⟩
  obtain ⟨⟨A, hA, -⟩, hl⟩ := h
  obtain ⟨⟨A', h1⟩, h2⟩ := H l o v ⟨A, hA⟩
  exact ⟨⟨⟨A', h1, fun i hi => absurd hi (by simp)⟩, by simp⟩, h2⟩
theorem append_none (ty : TypeId) (r q : Option Addr) (s c k : Nat) (w : World) (h : s ≤ c) : (Builtin.append_ #[39, 39] ty #[.slice r s c, .slice q 0 k]).run Try.prog w = .ok (.slice r s c) w := by
  obtain ⟨i0, hi, hz0, hz1, hz2⟩ := info_parts Try.infoU64
  refine run_append_nothing w 39 39 ty 26 i0 Try.underlying39 hi r s c h _ ⟨.inl ⟨_, Try.underlying39⟩, fun w' => rfl, ?_, ?_, by simp, by simp⟩
  · cases q
    · simp [Builtin.firstCells]
    · simp [Builtin.firstCells]
      rfl
  · cases q
    · simp [Builtin.firstCells]
    · simp [Builtin.firstCells]
      rfl
set_option maxRecDepth 100000 in
set_option maxHeartbeats 1000000 in
theorem delete_none (b m n : Nat) (w : World) (h : n ≤ m) :
    Calls Try.prog 24 #[.slice (some ⟨b, 0, none⟩) n m, .int .i64 0, .int .i64 0] w fun e w' => e = .returned (.slice (some ⟨b, 0, none⟩) n m) ∧ w' = w := by
  go_enter Try.func24, Try.ntmps24
  go_wp2
  go_ret
  exact ⟨rfl, rfl⟩
set_option maxRecDepth 100000 in
set_option maxHeartbeats 1000000 in
theorem delete_all (b m n : Nat) (d : Array Int) (w : World) (h0 : 0 < n) (h1 : n ≤ 1000000) (HD : Hid (d.size = n)) (HX : Hid (Srow w b 0 m d)) :
    Calls Try.prog 24 #[.slice (some ⟨b, 0, none⟩) n m, .int .i64 0, .int .i64 (n : Int)] w fun e w' => e = .returned (.slice (some ⟨b, 0, none⟩) 0 m) ∧ Srow w' b 0 m #[] ∧ Kept b w w' := by
  have h2 : n ≤ m := by have := HX.out.le; have := HD.out; omega
  have i1 : (0 : Int) ≤ (n : Int) := by omega
  have i2 : (n : Int) ≤ (m : Int) := by omega
  have i3 : ((0 : Int) == (n : Int)) = false := by simp; omega
  obtain ⟨Z, hZ⟩ : ∃ Z, (if m = n then (some ⟨b, 0, none⟩ : Option Addr) else some ⟨b, n, none⟩) = some Z := by
    split
    · exact ⟨_, rfl⟩
    · exact ⟨_, rfl⟩
  go_enter Try.func24, Try.ntmps24
  go_wp2_with fail
  go_region
  have HX1 : Hid (Srow w.drew b 0 m d) := HX.out.same ⟨1, rfl⟩
  have HK1 : Hid (Kept b w w.drew) := Kept.of_same ⟨1, rfl⟩
  generalize w.drew = v at *
  have hcl : ∀ ty, (Builtin.clear_ #[39] ty #[.slice (some ⟨b, 0, none⟩) n m]).run Try.prog v = .ok (.tuple #[]) (v.setCells b 0 (List.replicate n (.int .u64 0))) := fun ty => by
    refine Go.Lib.run_clear_slice v 39 26 ty (.int .u64 0) Try.underlying39 (fun w => by kernel_rfl) rfl rfl b 0 n m h0 (fun j hj => ?_) (fun j _ => HX1.out.thaw _)
    rw [HX1.out.cell j (by rw [HD.out]; exact hj)]
    rfl
  have HX2 : Hid (Srow (v.setCells b 0 (List.replicate n (.int .u64 0))) b 0 m #[] ∧ Kept b v (v.setCells b 0 (List.replicate n (.int .u64 0)))) := row_clear HX1.out _ _
  generalize v.setCells b 0 (List.replicate n (.int .u64 0)) = v2 at *
  go_wp2
  go_ret
  exact ⟨rfl, HX2.out.1, HK1.out.trans HX2.out.2⟩
end Go.Proofs.Ytalfncnpffbmmaa
