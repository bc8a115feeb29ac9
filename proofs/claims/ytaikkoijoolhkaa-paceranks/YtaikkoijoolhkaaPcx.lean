/-
  Wants are sorted.
-/
import Derived.Test.YtaikkoijoolhkaaPcw
namespace Go.Proofs.Ytaikkoijoolhkaa
open Go.RowKit Go.Deep Go.Shelf Go.Sort

set_option maxRecDepth 100000 in
set_option maxHeartbeats 400000 in
theorem wsort_any (B c : Nat) (l : List Wn) (w : World) (h : LsAt wE w (some ⟨B, 0, none⟩) l) (hB : B < w.heap.size) (hf : ∀ i, w.frozen? ⟨B, i, none⟩ = false) (hn : l.length ≤ 100000) :
    Calls Try.prog 29 #[.slice (some ⟨B, 0, none⟩) l.length c, .func (.func 30) #[] #[]] w fun e w' =>
      e = .returned (.tuple #[]) ∧ (∃ s, Told l s ∧ LsAt wE w' (some ⟨B, 0, none⟩) s) ∧ Kept B w w' := by
  have hH := ws_holds h hf
  have hc := AnyQ.slices_SortFunc sortWants 3 Try.isAgg45 Try.sizeOf45 wE.cells wE.len wE.one wcf wcf_swo 30 #[] B 0 c l.toArray w
    (enters_of Try.func30 (by kernel_rfl) rfl) (wcf_lays B 0 _ w) hH hB (by simp; omega)
  have hsz : l.toArray.size = l.length := by simp
  rw [hsz] at hc
  refine Calls.mono hc ?_
  rintro e w' ⟨rfl, d, m, os, hp, hs, rfl⟩
  rw [← hsz] at hp hs
  have ht := told_of hp hs
  have hd : d.size = l.toArray.size := hp.1
  have hh := holdsK_sortWorldK_c wE.cells 3 w B 0 l.toArray d m os hH hB hd
  have hl := holds_ws hh
  exact ⟨rfl, ⟨_, ht, hl⟩, sortWorldK_kept _ _ _ _ _ _ _⟩
set_option maxRecDepth 100000 in
set_option maxHeartbeats 1000000 in
theorem wsort_none (a : Option Addr) (c : Nat) (fv : Value) (w : World) : Calls Try.prog 29 #[.slice a 0 c, fv] w fun e w' => e = .returned (.tuple #[]) ∧ w' = w := by
  have hc := AnyF.slices_SortFunc_none sortWants a c fv w
  refine Calls.mono hc ?_
  exact fun _ _ h => h
end Go.Proofs.Ytaikkoijoolhkaa
