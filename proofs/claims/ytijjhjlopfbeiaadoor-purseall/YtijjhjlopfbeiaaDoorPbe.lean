/-
  That package purse has begun: the statements' own look at it answers true.
-/
import Derived.Test.YtijjhjlopfbeiaaDoorPu1
import Derived.Test.YtijjhjlopfbeiaaDoorPsp
namespace Go.Proofs.YtijjhjlopfbeiaaDoor
open Go.RowKit Go.Deep

theorem split_is (n c : Nat) (a : Option Addr) (K : Nat → Wt) (B0 : Int) (o : Nat → Nat) (w : World) (hK : WtsAt w a n K) (hn : n ≤ 1000) (hL : Laid w) (ho : Pu.Ord K n o) :
    Calls Tryd.prog 9 #[.int .i64 B0, .slice a n c] w fun e w' => ∃ G, e = .returned (.slice (some ⟨G, 0, none⟩) n n) ∧ w.heap.size ≤ G ∧ G < w'.heap.size ∧ IRow w' G n (Pu.gets K n (Pu.bnd B0) o) ∧ Below w.heap.size w w' := by
  refine (split_any n c a K B0 w hK hn hL).mono ?_
  rintro e w' ⟨G, o', rfl, h1, h2, h3, h4, h5⟩
  exact ⟨G, rfl, h1, h2, by rw [← Pu.gets_same h3 ho]; exact h4, h5⟩
def beginners : List Wt := [⟨1, 0, 100⟩, ⟨2, 3, 100⟩]
theorem beginners_ord : Pu.Ord (Pu.ofList beginners) 2 (fun t => t) := Pu.Ord.of (by decide) (by decide)
theorem beginners_get : ∀ p, p < 2 → Pu.gets (Pu.ofList beginners) 2 (Pu.bnd 90) (fun t => t) p = if p = 0 then 80 else 10 := by decide

set_option maxRecDepth 100000 in
set_option maxHeartbeats 400000 in
theorem begun21 (w : World) (hL : Laid w) :
    Calls Tryd.prog 8 #[] w fun e w' => e = .returned (.bool true) ∧ Below w.heap.size w w' := by
  obtain ⟨S, hS⟩ : ∃ S, w.heap.size = S := ⟨_, rfl⟩
  obtain ⟨x0, e0⟩ : ∃ x, w.alloc (.cells #[.int .u32 1, .int .i64 0, .int .i64 100, .int .u32 2, .int .i64 3, .int .i64 100] 30) = x := ⟨_, rfl⟩
  have B0 : Below S w x0 := by rw [← e0, ← hS]; exact (Below.refl _ _).alloc (Nat.le_refl _) _
  have sz : S ≤ x0.heap.size := by rw [← hS]; exact B0.size
  have L0 : Laid x0 := hL.below B0 (by rw [← hS]; exact hL.lt)
  have HW : WtsAt x0 (some ⟨S, 0, none⟩) 2 (Pu.ofList beginners) := fun _ => ⟨S, 0, rfl, fun i hi => by
    have : i = 0 ∨ i = 1 := by omega
    rw [← e0, ← hS]
    rcases this with rfl | rfl
    · exact ⟨by rw [World.cell?_alloc_at _ _ _ _ rfl]; rfl, by rw [World.cell?_alloc_at _ _ _ _ rfl]; rfl, by rw [World.cell?_alloc_at _ _ _ _ rfl]; rfl⟩
    · exact ⟨by rw [World.cell?_alloc_at _ _ _ _ rfl]; rfl, by rw [World.cell?_alloc_at _ _ _ _ rfl]; rfl, by rw [World.cell?_alloc_at _ _ _ _ rfl]; rfl⟩⟩
  have HC : Hid (Calls Tryd.prog 9 #[.int .i64 90, .slice (some ⟨S, 0, none⟩) 2 2] x0 fun e w' => ∃ G, e = .returned (.slice (some ⟨G, 0, none⟩) (2 : Nat) (2 : Nat)) ∧ x0.heap.size ≤ G ∧ G < w'.heap.size ∧ IRow w' G 2 (Pu.gets (Pu.ofList beginners) 2 (Pu.bnd 90) (fun t => t)) ∧ Below x0.heap.size x0 w') :=
    split_is 2 2 (some ⟨S, 0, none⟩) (Pu.ofList beginners) 90 _ x0 HW (by decide) L0 beginners_ord
  have HB : Hid (Below S w x0 ∧ S ≤ x0.heap.size) := ⟨B0, sz⟩
  rw [hS]
  clear hL L0 HW B0 sz
  go_enter Tryd.func8, Tryd.ntmps8
  go_wp2_with fail
  refine HC.out.mono ?_
  rintro e w1 ⟨G, rfl, h1, h2, h3, h4⟩
  have HE : Hid (Below S w w1) := HB.out.1.trans (h4.mono HB.out.2)
  have c0 := h3.cell 0 (by decide)
  have c1 := h3.cell 1 (by decide)
  rw [beginners_get 0 (by decide)] at c0
  rw [beginners_get 1 (by decide)] at c1
  simp only [if_true, Nat.one_ne_zero, if_false] at c0 c1
  clear HC HB h1 h2 h3 h4
  go_wp2
  go_ret
  exact ⟨rfl, HE.out⟩
end Go.Proofs.YtijjhjlopfbeiaaDoor
