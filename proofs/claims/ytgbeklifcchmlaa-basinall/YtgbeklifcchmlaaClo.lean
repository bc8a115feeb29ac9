/-
  Small contracts of the standard library's rows of bytes that package basis leans on: Clone, Grow, Concat of two rows, IndexFunc for the first byte that is not 0.
-/
import Derived.Test.YtgbeklifcchmlaaStr
import Derived.Lib.AppendZeros
import Derived.Lib.SliceRun
import Derived.Deep.MidRow
namespace Go.Proofs.Ytgbeklifcchmlaa
open Go.RowKit Go.Deep

set_option maxRecDepth 100000 in
set_option maxHeartbeats 400000 in
theorem clone_nil (w : World) :
    Calls Try.prog 47 #[.slice none 0 0] w fun e w' => e = .returned (.slice none 0 0) ∧ w' = w := by
  have q22 : ∀ (w : World) (a : Option Addr) (n c n' c' : Nat), (binOp .eql 34 (.slice a n c) (.slice none n' c')).run Try.prog w = .ok (.bool a.isNone) w := fun w a n c n' c' => Lib.run_eql_slice_nil w _ _ a n c n' c' Try.underlying34
  go_enter Try.func47, Try.ntmps47
  go_wp2
  go_ret
  exact ⟨rfl, rfl⟩

set_option maxRecDepth 100000 in
set_option maxHeartbeats 400000 in
theorem clone_any (a : Addr) (n c : Nat) (x : Nat → Nat) (w : World) (hx : BytesAt w (some a) n x) (hn : n ≤ 140737488355328) :
    Calls Try.prog 47 #[.slice (some a) n c] w fun e w' => NewRow w n x e w' := by
  have q22 : ∀ (w : World) (a : Option Addr) (n c n' c' : Nat), (binOp .eql 34 (.slice a n c) (.slice none n' c')).run Try.prog w = .ok (.bool a.isNone) w := fun w a n c n' c' => Lib.run_eql_slice_nil w _ _ a n c n' c' Try.underlying34
  obtain ⟨i0, hi, hz0, hz1, hz2⟩ := info_parts Try.infoByte
  have A : Hid (BytesAt w (some a) n x) := hx
  clear hx
  go_enter Try.func47, Try.ntmps47
  go_wp2_with (at_builtin; refine wpList_append_own _ rfl _ _ 34 rfl w.heap.size 5 i0 (.int .u8 0) 1 1 Try.underlying34 hi hz0 hz1 hz2 rfl (by decide) _ _ _ rfl (World.ownsRow_made w #[] 0 (Nat.le_refl _) (Nat.zero_le _) rfl) a n c (cellsAt x 0 n) rfl ?qc1 ?qc2 ?qc3 ?qc4 ?qc5 ?qc6 ?_)
  case qc1 => rw [cellsAt_len]; omega
  case qc2 =>
    intro j u hj
    obtain ⟨hjn, rfl⟩ := cellsAt_get _ _ _ _ _ hj
    refine Lib.cell?_alloc_some _ ?_
    obtain ⟨b, o, e, hc⟩ := A.out.cells (by omega)
    cases e
    rw [Addr.add_mid, Nat.zero_add]
    exact hc j hjn
  case qc3 => exact cellsAt_one _ _ _
  case qc4 => unfold maxLen; omega
  case qc5 => omega
  case qc6 => simp
  intro v' w1 hown hgrow hnil
  have hb : Below w.heap.size w w1 := ((Below.refl _ w).alloc (Nat.le_refl _) _).grown hgrow (by simp) (by intro k hk; simp [Value.ownBlock] at hk; omega)
  have hne : v' ≠ .slice none 0 0 := by
    first | exact hnil | (intro e; exact absurd (hnil.1 e).1 (by simp))
  obtain ⟨g, cc, rfl, hg, hcc, hB, -⟩ := own_at (x := x) (by simpa using hown) hne A.out.lt
  clear hown hgrow hnil hne
  go_wp2
  go_ret
  exact ⟨g, cc, rfl, hg, hcc, hB, hb⟩
end Go.Proofs.Ytgbeklifcchmlaa
