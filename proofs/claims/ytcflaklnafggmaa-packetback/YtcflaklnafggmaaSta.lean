/-
  Package sum: a move of the register, the table.
-/
import Derived.Test.YtcflaklnafggmaaCrc
import Derived.Test.YtcflaklnafggmaaBit
import Derived.Test.YtcflaklnafggmaaCpn
import Derived.Laws.Rows
import Derived.Laws.Tables
import Derived.Deep.WholeRow
namespace Go.Proofs.Ytcflaklnafggmaa
open Go.RowKit Go.Deep

set_option maxRecDepth 100000 in
theorem move_any (r : Nat) (w : World) (h : r < 4294967296) :
    Calls Try.prog 66 #[.int .u32 (r : Int)] w fun e w' => e = .returned (.int .u32 (Crc.mv r : Int)) ∧ w' = w := by
  by_cases c : r < 2147483648
  · have i1 : ((r : Int) / 2147483648 == 1) = false := by simp; omega
    have HE : Hid ((r : Int) * 2 = (Crc.mv r : Int)) := by show (_ : Int) = _; unfold Crc.mv; rw [if_pos c]; omega
    go_enter Try.func66, Try.ntmps66
    go_wp2
    go_ret
    exact ⟨ret_int HE.out, rfl⟩
  · have i1 : ((r : Int) / 2147483648 == 1) = true := by simp; omega
    have e1 : bits .xor .u32 ((r : Int) * 2 % 4294967296) 79764919 = (Crc.mv r : Int) := by
      have := u32_xor (r * 2 % 4294967296) 79764919 (by omega) (by decide)
      rw [Int.natCast_emod] at this
      refine this.trans ?_
      unfold Crc.mv
      rw [if_neg c, show r * 2 % 4294967296 = 2 * r - 4294967296 by omega]
      rfl
    go_enter Try.func66, Try.ntmps66
    go_wp2
    go_ret
    exact ⟨rfl, rfl⟩
theorem Try.infoTab : (Try.prog.info? 80).map (fun i => (i.zero, i.size)) = some (some (.agg (Array.replicate 256 (.int .u32 0))), 256) := by kernel_rfl

theorem tab_size : (Try.prog.info? 80).map (·.size) = some 256 := (zero_of_info Try.infoTab).2
/-- A table whose first j places are filled. -/
def tabA (j i : Nat) : Value := .int .u32 ((if i < j then Crc.tab i else 0 : Nat) : Int)
theorem tabA_set {w : World} {B t K j : Nat} (h : w.rowIs B t K (tabA j)) : (w.setCell ⟨B, j, none⟩ (.int .u32 (Crc.tab j : Int))).rowIs B t K (tabA (j + 1)) := by
  refine (h.set j _).congr fun i _ => ?_
  unfold tabA
  by_cases e : i = j
  · subst e; simp
  · by_cases g : i < j
    · simp [e, g, show i < j + 1 by omega]
    · simp [e, g, show ¬ i < j + 1 by omega]
/-- The table, as a value. -/
structure TabV (cs : Array Value) : Prop where
  size : cs.size = 256
  one : cs.all (·.oneCell') = true
  get : ∀ i, i < 256 → cs[i]? = some (.int .u32 (Crc.tab i : Int))

theorem tabV {cs : Array Value} (hs : cs.size = 256) (hc : ∀ i, i < 256 → cs[i]? = some (tabA 256 i)) : TabV cs := by
  refine ⟨hs, ?_, fun i hi => by rw [hc i hi]; unfold tabA; rw [if_pos hi]⟩
  rw [Array.all_eq_true]
  intro i hi
  have := hc i (by omega)
  rw [Array.getElem?_eq_getElem hi] at this
  rw [Option.some.inj this]
  rfl

set_option maxRecDepth 100000 in
set_option maxHeartbeats 400000 in
theorem table_any (w : World) :
    Calls Try.prog 54 #[] w fun e w' => ∃ cs, e = .returned (.agg cs) ∧ TabV cs ∧ Below w.heap.size w w' := by
  have hz := (zero_of_info Try.infoTab).1
  obtain ⟨Z, hZ⟩ : ∃ Z : Array Value, Z = Array.replicate 256 (.int .u32 0) := ⟨_, rfl⟩
  rw [← hZ] at hz
  have R0 : (w.alloc (.cells Z 80)).heap[w.heap.size]? = some (.cells Z 80) := heap_alloc_new w _
  have R1 : ((w.alloc (.cells Z 80)).alloc (.cells Z 80)).heap[w.heap.size]? = some (.cells Z 80) := heap_alloc2_old w _ _
  have R2 : ((w.alloc (.cells Z 80)).alloc (.cells Z 80)).rowIs (w.heap.size + 1) 80 256 (tabA 0) := by
    have := World.rowIs_alloc (w.alloc (.cells Z 80)) Z 80 (tabA 0) (fun i hi => by rw [hZ] at hi ⊢; unfold tabA; rw [Array.size_replicate] at hi; rw [Array.getElem?_replicate, if_pos hi]; simp)
    rw [hZ] at this ⊢
    simpa using this
  have R3 : Below w.heap.size w ((w.alloc (.cells Z 80)).alloc (.cells Z 80)) := ((Below.refl _ _).alloc (Nat.le_refl _) _).alloc (by simp) _
  have hZs : Z.size = 256 := by rw [hZ]; simp
  clear hZ R0
  go_enter Try.func54, Try.ntmps54
  go_wp2_with fail
  generalize (w.alloc (.cells Z 80)).alloc (.cells Z 80) = w1 at *
  go_loopw [4] (fun i wr => ∃ j : Nat, j ≤ 256 ∧ i = .int .i64 j ∧ wr.heap[w.heap.size]? = some (.cells Z 80) ∧ wr.rowIs (w.heap.size + 1) 80 256 (tabA j) ∧ Below w.heap.size w wr) (fun i _ => 256 - (intOf i).toNat)
  case atStart => exact ⟨0, Nat.zero_le _, rfl, R1, R2, R3⟩
  case round =>
    clear R1 R2 R3 hz
    obtain ⟨j, hj, rfl, HR1, HR2, HB⟩ := hrel
    generalize wr = wo at *
    by_cases hlt : j < 256
    · have i1 : (j : Int) < 256 := by omega
      have i2 : (j : Int) % 4294967296 = (j : Int) := by omega
      have HE : Hid ((j : Int) * 16777216 = ((Crc.mvs 0 (j * 16777216) : Nat) : Int)) := by show (_ : Int) = _; show _ = ((j * 16777216 : Nat) : Int); omega
      go_wp2_with fail
      go_loopw [3, 10] (fun r i wr => ∃ m : Nat, m ≤ 8 ∧ i = .int .i64 m ∧ r = .int .u32 (Crc.mvs m (j * 16777216) : Int) ∧ wr = wo) (fun _ i _ => 8 - (intOf i).toNat)
      case atStart => exact ⟨0, Nat.zero_le _, rfl, by rw [← HE.out], rfl⟩
      case round =>
        obtain ⟨m, hm, rfl, rfl, rfl⟩ := hrel
        by_cases hm8 : m < 8
        · have i3 : (m : Int) < 8 := by omega
          go_wp2_with fail
          refine (move_any _ _ (Crc.mvs_lt m (by omega))).mono ?_
          rintro e w2 ⟨rfl, rfl⟩
          go_wp2
          go_roundw
          case rel => exact ⟨m + 1, by omega, by go_num, rfl, trivial⟩
          case measure => simp [intOf]; omega
        · obtain rfl : m = 8 := by omega
          obtain ⟨v3, c3⟩ : ∃ v, wr.cell? ⟨w.heap.size + 1, j, none⟩ = some v := ⟨_, HR2.cell hlt⟩
          have f3 := HR2.frozen j
          have HR4 : Hid ((wr.setCell ⟨w.heap.size + 1, j, none⟩ (.int .u32 (Crc.mvs 8 (j * 16777216) : Int))).rowIs (w.heap.size + 1) 80 256 (tabA (j + 1))) := tabA_set HR2
          have HR5 : Hid ((wr.setCell ⟨w.heap.size + 1, j, none⟩ (.int .u32 (Crc.mvs 8 (j * 16777216) : Int))).heap[w.heap.size]? = some (.cells Z 80)) := (heap_setCell_other _ _ _ _ (by show w.heap.size ≠ w.heap.size + 1; omega)).trans HR1
          have HB5 : Hid (Below w.heap.size w (wr.setCell ⟨w.heap.size + 1, j, none⟩ (.int .u32 (Crc.mvs 8 (j * 16777216) : Int)))) := HB.setCell (Nat.le_succ _) _
          clear HR1 HR2 HB hm hm8
          go_wp2
          go_roundw
          case rel => exact ⟨j + 1, by omega, by go_num, HR5.out, HR4.out, HB5.out⟩
          case measure => simp [intOf]; omega
    · obtain rfl : j = 256 := by omega
      obtain ⟨cs, hb, hs, hc⟩ := HR2
      have V : TabV cs := tabV hs hc
      have HB5 : Hid (Below w.heap.size w (wo.setRow w.heap.size cs)) := ⟨HB.os, HB.tape, HB.output, by have := HB.size; simpa [World.setRow] using this, fun k hk => (setRow_other wo w.heap.size k cs (by omega)).trans (HB.block k hk)⟩
      have HG : (wo.setRow w.heap.size cs).heap[w.heap.size]? = some (.cells cs 80) := setRow_heap wo w.heap.size Z cs 80 _ HR1
      have hi : (Try.prog.info? 80).map (·.size) = some cs.size := by rw [hs]; exact tab_size
      clear hlt hj
      go_wp2_with fail
      rename_i hK
      refine wp_load_row 80 (.tmp 1) rfl (w.heap.size + 1) rfl 80 cs (0, 0) _ hb Try.underlying80 rfl hi (hK _ _ ?_)
      refine wpList_store_row rfl 80 (.tmp 0) (.tmp 19) rfl w.heap.size cs rfl rfl 80 Z HR1 hi (by rw [hZs, hs]) V.one ?_
      go_wp2_with fail
      refine bodyPost_ret (v := .agg cs) ?_ rfl ⟨cs, rfl, V, HB5.out⟩
      exact results_cell_row rfl _ _ w.heap.size 80 cs (0, 0) _ rfl HG Try.underlying80 rfl hi
end Go.Proofs.Ytcflaklnafggmaa
