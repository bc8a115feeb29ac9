/-
  Package pace: Take, Expire, Drop.
-/
import Derived.Test.YtaikkoijoolhkaaPc3
import Derived.Shelf.Abstract
namespace Go.Proofs.Ytaikkoijoolhkaa
open Go.RowKit Go.Deep Go.Shelf

theorem PartIs.later {X : List Nat} {t : Int → It → Bool × Int} {n0 : Int} {w w1 w' : World} {base B : Nat} {v : Value} {l : List It} {e : Ending} (h : PartIs X t n0 w1 base B v l e w') (b : Below w.heap.size w w1) (hX : ∀ q, q ∈ X → w.heap.size ≤ q) : PartIs [] t n0 w base B v l e w' := by
  obtain ⟨vg, e1, h1, v', h2, h3, h4⟩ := h
  refine ⟨vg, e1, Lr.base_le h1 b.size, v', h2, ?_, h4⟩
  refine (But.of_below (X := [] ++ feet B v) b).from h3 (fun i hi hl => ?_)
  rcases List.mem_append.1 hi with hi | hi
  · have := hX i hi
    omega
  · exact List.mem_append.2 (.inr hi)
/-- Who is late. -/
def late (c : Int) (n : Int) (a : It) : Bool × Int := (decide (a.d ≤ c), n)
/-- Whose is it? -/
def whose (f : Nat) (n : Int) (a : It) : Bool × Int := (decide (a.f = f), n)
theorem hold_lt (f : Nat) (n : Int) (a : It) (hb : 1 ≤ a.b) (hn : n < 9223372036854775808) : (hold f n a).2 < 9223372036854775808 := by
  unfold hold
  repeat' split
  · show n - a.b < _; omega
  · show (0 : Int) < _; omega
  · exact hn

set_option maxRecDepth 100000 in
set_option maxHeartbeats 400000 in
theorem take_any (base B f : Nat) (most : Int) (v : Value) (l : List It) (w : World) (HQ : Hid (QAt w base B v l)) (Hn : Hid (l.length ≤ 100000)) (Hb : Hid (∀ a, a ∈ l → 1 ≤ a.b)) (Hm : Hid (most < 9223372036854775808)) :
    Calls Try.prog 13 #[.pointer (some ⟨B, 0, none⟩), .int .u32 (f : Int), .int .i64 most] w (PartIs [] (hold f) most w base B v l) := by
  obtain ⟨p, hp⟩ : ∃ p, w.heap.size = p := ⟨_, rfl⟩
  obtain ⟨x0, e0⟩ : ∃ x, w.alloc (.cells #[.int .u32 (f : Int), .int .i64 most] 58) = x := ⟨_, rfl⟩
  have B0 : Below w.heap.size w x0 := e0 ▸ (Below.refl _ _).alloc (Nat.le_refl _) _
  have s0 : x0.heap.size = p + 1 := by rw [← e0]; simp [hp]
  have P0 : PorAt x0 p f most := by
    rw [← e0, ← hp]
    exact ⟨by rw [World.cell?_alloc_at _ _ _ _ rfl]; rfl, by rw [World.cell?_alloc_at _ _ _ _ rfl]; rfl, by rw [World.frozen?_alloc_at _ _ _ _ rfl]⟩
  have CALL : Hid (Calls Try.prog 24 #[.pointer (some ⟨B, 0, none⟩), .func (.func 25) #[.pointer (some ⟨p, 0, none⟩)] #[]] x0 (PartIs [] (hold f) most w base B v l)) := by
    refine Calls.mono (part_any [p] (fun W n => PorAt W p f n ∧ n < 9223372036854775808) (hold f) most 25 _ base B v l x0 (enters_of Try.func25 (by kernel_rfl) rfl) (fun W W' n h hq => ⟨h.1.block (hq p (by simp)), h.2⟩)
      (fun W n a h ha => Calls.mono (holds_any p f n a W h.1 (Hb.out a ha) h.2) ?_) (HQ.out.grew B0) Hn ?_ ⟨P0, Hm.out⟩) ?_
    · rintro e w' ⟨h1, h2, h3⟩
      exact ⟨h1, ⟨h2, hold_lt f n a (Hb.out a ha) h.2⟩, h3⟩
    · intro q hq
      simp at hq
      subst hq
      refine ⟨by omega, fun e => ?_, fun e => ?_⟩
      · have := HQ.out.lt; omega
      · have := (Lr.lt HQ.out.row q e).2; omega
    · intro e w' h
      exact h.later B0 (fun q hq => by simp at hq; omega)
  clear B0 s0 P0 HQ Hn Hb Hm
  go_enter Try.func13, Try.ntmps13
  go_wp2_with fail
  refine CALL.out.mono ?_
  rintro e w' ⟨vg, rfl, h1, h2⟩
  obtain ⟨r2, cap2, rfl, -⟩ := Lr.any h1
  have HE : Hid (PartIs [] (hold f) most w base B v l (.returned (.slice r2 (prt (hold f) most l).1.length cap2)) w') := ⟨_, rfl, h1, h2⟩
  clear h1 h2 CALL
  go_wp2_with fail
  go_ret
  exact HE.out
set_option maxRecDepth 100000 in
set_option maxHeartbeats 400000 in
theorem expire_any (base B : Nat) (c : Int) (v : Value) (l : List It) (w : World) (HQ : Hid (QAt w base B v l)) (Hn : Hid (l.length ≤ 100000)) :
    Calls Try.prog 15 #[.pointer (some ⟨B, 0, none⟩), .int .i64 c] w (PartIs [] (late c) 0 w base B v l) := by
  have CALL : Hid (Calls Try.prog 24 #[.pointer (some ⟨B, 0, none⟩), .func (.func 26) #[.int .i64 c] #[]] w (PartIs [] (late c) 0 w base B v l)) := by
    refine part_any [] (fun _ _ => True) (late c) 0 26 _ base B v l w (enters_of Try.func26 (by kernel_rfl) rfl) (fun _ _ _ _ _ => trivial)
      (fun W n a _ _ => Calls.mono (behind_any c a W) ?_) HQ Hn (fun q hq => by simp at hq) trivial
    rintro e w' ⟨h1, h2⟩
    exact ⟨h1, trivial, But.of_below h2⟩
  clear HQ Hn
  go_enter Try.func15, Try.ntmps15
  go_wp2_with fail
  refine CALL.out.mono ?_
  rintro e w' ⟨vg, rfl, h1, h2⟩
  obtain ⟨r2, cap2, rfl, -⟩ := Lr.any h1
  have HE : Hid (PartIs [] (late c) 0 w base B v l (.returned (.slice r2 (prt (late c) 0 l).1.length cap2)) w') := ⟨_, rfl, h1, h2⟩
  clear h1 h2 CALL
  go_wp2_with fail
  go_ret
  exact HE.out
set_option maxRecDepth 100000 in
set_option maxHeartbeats 400000 in
theorem drop_any (base B f : Nat) (v : Value) (l : List It) (w : World) (HQ : Hid (QAt w base B v l)) (Hn : Hid (l.length ≤ 100000)) :
    Calls Try.prog 17 #[.pointer (some ⟨B, 0, none⟩), .int .u32 (f : Int)] w fun e w' => e = .returned (.int .i64 ((prt (whose f) 0 l).1.length : Int)) ∧ ∃ v', QAt w' base B v' (prt (whose f) 0 l).2.1 ∧ But (feet B v) w w' ∧ ∀ g, v'.ownBlock = some g → v.ownBlock = some g := by
  have CALL : Hid (Calls Try.prog 24 #[.pointer (some ⟨B, 0, none⟩), .func (.func 27) #[.int .u32 (f : Int)] #[]] w (PartIs [] (whose f) 0 w base B v l)) := by
    refine part_any [] (fun _ _ => True) (whose f) 0 27 _ base B v l w (enters_of Try.func27 (by kernel_rfl) rfl) (fun _ _ _ _ _ => trivial)
      (fun W n a _ _ => Calls.mono (has_any f a W) ?_) HQ Hn (fun q hq => by simp at hq) trivial
    rintro e w' ⟨h1, h2⟩
    exact ⟨h1, trivial, But.of_below h2⟩
  clear HQ Hn
  go_enter Try.func17, Try.ntmps17
  go_wp2_with fail
  refine CALL.out.mono ?_
  rintro e w' ⟨vg, rfl, h1, h2⟩
  obtain ⟨r2, cap2, rfl, -⟩ := Lr.any h1
  have HE : Hid (∃ v', QAt w' base B v' (prt (whose f) 0 l).2.1 ∧ But (feet B v) w w' ∧ ∀ g, v'.ownBlock = some g → v.ownBlock = some g) := h2
  clear h1 h2 CALL
  go_wp2_with fail
  go_ret
  exact ⟨rfl, HE.out⟩
set_option maxRecDepth 100000 in
theorem take_nil (f : Nat) (most : Int) (w : World) : Calls Try.prog 13 #[.pointer none, .int .u32 (f : Int), .int .i64 most] w fun e w' => e = .returned (.slice none 0 0) ∧ Below w.heap.size w w' := by
  obtain ⟨p, hp⟩ : ∃ p, w.heap.size = p := ⟨_, rfl⟩
  obtain ⟨x0, e0⟩ : ∃ x, w.alloc (.cells #[.int .u32 (f : Int), .int .i64 most] 58) = x := ⟨_, rfl⟩
  have HB : Hid (Below p w x0) := hp ▸ e0 ▸ (Below.refl _ _).alloc (Nat.le_refl _) _
  have CALL : Hid (Calls Try.prog 24 #[.pointer none, .func (.func 25) #[.pointer (some ⟨p, 0, none⟩)] #[]] x0 fun e w' => e = .returned (.slice none 0 0) ∧ w' = x0) := part_nil _ _
  go_enter Try.func13, Try.ntmps13
  go_wp2_with fail
  refine CALL.out.mono ?_
  rintro e w' ⟨rfl, hw⟩
  subst w'
  go_wp2_with fail
  go_ret
  exact ⟨rfl, hp ▸ HB.out⟩
set_option maxRecDepth 100000 in
theorem expire_nil (c : Int) (w : World) : Calls Try.prog 15 #[.pointer none, .int .i64 c] w fun e w' => e = .returned (.slice none 0 0) ∧ w' = w := by
  have CALL : Hid (Calls Try.prog 24 #[.pointer none, .func (.func 26) #[.int .i64 c] #[]] w fun e w' => e = .returned (.slice none 0 0) ∧ w' = w) := part_nil _ _
  go_enter Try.func15, Try.ntmps15
  go_wp2_with fail
  refine CALL.out.mono ?_
  rintro e w' ⟨rfl, rfl⟩
  go_wp2_with fail
  go_ret
  exact ⟨rfl, rfl⟩
set_option maxRecDepth 100000 in
theorem drop_nil (f : Nat) (w : World) : Calls Try.prog 17 #[.pointer none, .int .u32 (f : Int)] w fun e w' => e = .returned (.int .i64 0) ∧ w' = w := by
  have CALL : Hid (Calls Try.prog 24 #[.pointer none, .func (.func 27) #[.int .u32 (f : Int)] #[]] w fun e w' => e = .returned (.slice none 0 0) ∧ w' = w) := part_nil _ _
  go_enter Try.func17, Try.ntmps17
  go_wp2_with fail
  refine CALL.out.mono ?_
  rintro e w' ⟨rfl, rfl⟩
  go_wp2_with fail
  go_ret
  exact ⟨rfl, rfl⟩
end Go.Proofs.Ytaikkoijoolhkaa
