/-
  A frame's bytes out of numbers: a row of bytes. Rows of ints.
-/
import Derived.Test.YthlidbenhlidjaaFpl
import Derived.Test.YthlidbenhlidjaaIor
import Derived.Test.YthlidbenhlidjaaCpn
namespace Go.Proofs.Ythlidbenhlidjaa
open Go.RowKit Go.Deep

theorem Ior.congr {w : World} {base : Nat} {v : Value} {n : Nat} {x y : Nat → Int} (h : Ior w base v n x) (e : ∀ i, i < n → x i = y i) : Ior w base v n y := by
  have h' : w.ownsRow base 3 1 v n (icells x n) := h
  have e2 : icells x n = icells y n := List.map_congr_left fun i hi => by rw [e i (List.mem_range.1 hi)]
  rw [e2] at h'
  exact h'
/-- What Body answers: n bytes. -/
def BodyBs (D P n : Nat) (w : World) (e : Ending) (w' : World) : Prop := Chose D P w w' ∧ ∃ x, e = .returned (.slice (some ⟨w.heap.size, 0, none⟩) n n) ∧ BytesAt w' (some ⟨w.heap.size, 0, none⟩) n x
set_option maxRecDepth 100000 in
set_option maxHeartbeats 1000000 in
theorem body_bytes (D P p n : Nat) (w : World) (h : Picks D w P p) (hD : D ≤ w.heap.size) (hn : n ≤ 1000) :
    Calls Try.prog 15 #[.pointer (some ⟨P, 0, none⟩), .int .i64 (n : Int)] w (BodyBs D P n w) := by
  have B1 := (Below.refl w.heap.size w).alloc (Nat.le_refl _) (.cells (madeCells #[.int .u8 0] n) 5)
  have HC : Hid (Chose D P w (w.alloc (.cells (madeCells #[.int .u8 0] n) 5))) := ⟨Kept.of_below B1, p, h.grew B1⟩
  have HR : Hid (∃ f, (∀ i, f i < 256) ∧ (w.alloc (.cells (madeCells #[.int .u8 0] n) 5)).rowIs w.heap.size 5 n (byteAt f)) := ⟨fun _ => 0, fun _ => (by decide : (0 : Nat) < 256), World.rowIs_made w (.int .u8 0) n 5⟩
  have lP := h.lt
  have hmk := fun W => make_u8s n W hn
  have HP : Hid (P ≠ w.heap.size) := by show P ≠ w.heap.size; omega
  clear B1 h
  go_enter Try.func15, Try.ntmps15
  go_wp2_with fail
  generalize w.alloc (.cells (madeCells #[.int .u8 0] n) 5) = w1 at *
  go_loopw [6] (fun i wr => ∃ k : Nat, k ≤ n ∧ i = .int .i64 k ∧ Hid (Chose D P w wr) ∧ Hid (∃ f, (∀ i, f i < 256) ∧ wr.rowIs w.heap.size 5 n (byteAt f))) (fun i _ => n - (intOf i).toNat)
  case atStart => exact ⟨0, Nat.zero_le _, rfl, HC, HR⟩
  case round =>
    clear HC HR
    obtain ⟨k, hk, rfl, hc, hr⟩ := hrel
    by_cases hkn : k < n
    · have i1 : (k : Int) < (n : Int) := by omega
      obtain ⟨p', hp⟩ := hc.out.picks
      go_wp2_with fail
      refine (num_pk D P p' 256 _ hp (by decide) (by decide)).mono ?_
      rintro e w2 ⟨c2, v, rfl, hv⟩
      obtain ⟨f, hf0, hf⟩ := hr.out
      have hf := hf.of_block (c2.kept.block w.heap.size hf.lt (Ne.symm HP.out))
      have q0 : w2.cell? ⟨w.heap.size, k, none⟩ = some (.int .u8 (f k : Int)) := hf.cell (i := k) hkn
      have q1 := hf.frozen k
      have hc2 := hc.out.trans c2
      have HC : Hid (∀ v, Chose D P w (w2.setCell ⟨w.heap.size, k, none⟩ v)) := fun v => hc2.setNew (Nat.le_refl _) hD v
      have HR : Hid (∃ f, (∀ i, f i < 256) ∧ (w2.setCell ⟨w.heap.size, k, none⟩ (.int .u8 (v : Int))).rowIs w.heap.size 5 n (byteAt f)) := by
        refine ⟨fun i => if i = k then v else f i, fun i => ?_, (hf.set k _).congr fun i _ => ?_⟩
        · show (if i = k then v else f i) < 256
          by_cases e : i = k
          · rw [if_pos e]; omega
          · rw [if_neg e]; exact hf0 i
        · show (if i = k then Value.int .u8 (v : Int) else .int .u8 (f i : Int)) = .int .u8 ((if i = k then v else f i : Nat) : Int)
          by_cases e : i = k
          · rw [if_pos e, if_pos e]
          · rw [if_neg e, if_neg e]
      clear hf hf0 hc2 c2 hc hr hp
      go_wp2_with fail
      go_roundw
      case rel => exact ⟨k + 1, by omega, by go_num, HC.out _, HR⟩
      case measure => simp [intOf]; omega
    · obtain rfl : k = n := by omega
      go_wp2
      go_ret
      obtain ⟨f, hf0, hf⟩ := hr.out
      exact ⟨hc.out, f, rfl, row_bytes' hf (fun _ _ => rfl) (fun i _ => hf0 i)⟩
end Go.Proofs.Ythlidbenhlidjaa
