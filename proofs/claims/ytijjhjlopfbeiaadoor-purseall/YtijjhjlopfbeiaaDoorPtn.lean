/-
  Package purse: inTurn: the claims are made and sorted.
-/
import Derived.Test.YtijjhjlopfbeiaaDoorPso
namespace Go.Proofs.YtijjhjlopfbeiaaDoor
open Go.RowKit Go.Deep Go.Shelf Go.Sort

set_option maxRecDepth 100000 in
theorem sorted_any (B n c : Nat) (K : Nat → Wt) (w : World) (h : CsAt w B n (fun i => (K i, i))) (hn : n ≤ 1000) :
    Calls Tryd.prog 20 #[.slice (some ⟨B, 0, none⟩) n c, .func (.func 21) #[] #[]] w fun e w' =>
      e = .returned (.tuple #[]) ∧ (∃ o, Pu.Ord K n o ∧ ClsAt w' B n K o) ∧ Kept B w w' := by
  have hc := AnyQ.slices_SortFunc sortClaims 4 Tryd.isAgg43 Tryd.sizeOf43 (cenc K) (fun _ => rfl) (fun x v hv => by simp [cenc] at hv; rcases hv with rfl | rfl | rfl | rfl <;> rfl) (cplc K) (cplc_swo K) 21 #[] B 0 c (Array.range n) w
    (enters_of Tryd.func21 (by kernel_rfl) rfl) (cplc_lays K B 0 _ w) h.holds h.lt (by simp; omega)
  rw [Array.size_range] at hc
  refine Calls.mono hc ?_
  rintro e w' ⟨rfl, d, m, os, hp, hs, rfl⟩
  obtain ⟨h1, h2⟩ := ord_of (K := K) (m := n) (d := d) (by rwa [Array.size_range]) (by rwa [Array.size_range])
  refine ⟨rfl, ⟨_, h2, HoldsK.cls (holdsK_sortWorldK_c (cenc K) 4 w B 0 (Array.range n) d m os h.holds h.lt (by rw [h1, Array.size_range])) h1⟩, sortWorldK_kept _ _ _ _ _ _ _⟩

set_option maxRecDepth 100000 in
set_option maxHeartbeats 1000000 in
theorem turn_any (n c : Nat) (a : Option Addr) (K : Nat → Wt) (w : World) (hK : WtsAt w a n K) (hn : n ≤ 1000) :
    Calls Tryd.prog 12 #[.slice a n c] w fun e w' =>
      e = .returned (.slice (some ⟨w.heap.size, 0, none⟩) n n) ∧ (∃ o, Pu.Ord K n o ∧ ClsAt w' w.heap.size n K o) ∧ Below w.heap.size w w' ∧ w.heap.size < w'.heap.size := by
  have hmk := make_claims n w hn
  obtain ⟨S, hS⟩ : ∃ S, w.heap.size = S := ⟨_, rfl⟩
  obtain ⟨x0, e0⟩ : ∃ x, w.alloc (.cells (madeCells #[.int .u32 0, .int .i64 0, .int .i64 0, .int .i64 0] (n * 4)) 43) = x := ⟨_, rfl⟩
  have HC : Hid (CsAt x0 S n (fun _ => none4)) := by rw [← e0, ← hS]; exact CsAt.made w n
  have HB : Hid (Below S w x0) := by rw [← e0, ← hS]; exact (Below.refl _ _).alloc (Nat.le_refl _) _
  have HS : Hid (w.heap.size = S) := hS
  have HW : Hid (WtsAt w a n K) := hK
  have Hn : Hid (n ≤ 1000) := hn
  rw [e0, hS] at hmk
  rw [hS]
  clear hS e0 hK
  go_enter Tryd.func12, Tryd.ntmps12
  go_wp2
  clear hmk
  go_loopw [11] (fun i wr => ∃ k : Nat, k ≤ n ∧ i = .int .i64 (k : Int) ∧ Hid (CsAt wr S n (fun i => if i < k then (K i, i) else none4)) ∧ Hid (Below S w wr) ∧ Hid (S < wr.heap.size)) (fun i _ => n - (intOf i).toNat)
  case atStart => exact ⟨0, Nat.zero_le _, rfl, HC.out.congr (fun i _ => by simp), HB, HC.out.lt⟩
  case round =>
    obtain ⟨k, hk, rfl, hC, hB, hL⟩ := hrel
    clear HC HB
    by_cases h : k < n
    · have i1 : (k : Int) < (n : Int) := by omega
      obtain ⟨b, o, rfl⟩ := HW.out.addr (by omega)
      have hW : WtsAt wr (some ⟨b, o, none⟩) n K := HW.out.below hB.out (by rw [HS.out]; exact Nat.le_refl _)
      obtain ⟨c0, c1, c2⟩ := hW.at k h
      clear hW
      generalize HK : K k = A at *
      obtain ⟨V, eV⟩ : ∃ x, wr.alloc (.cells #[.int .u32 A.id, .int .i64 A.r, .int .i64 A.b] 30) = x := ⟨_, rfl⟩
      obtain ⟨G, eG⟩ : ∃ G, wr.heap.size = G := ⟨_, rfl⟩
      have BV : Below wr.heap.size wr V := by rw [← eV]; exact (Below.refl _ _).alloc (Nat.le_refl _) _
      have hV : WtAt V G A := by rw [← eV, ← eG]; exact WtAt.made wr _ A
      obtain ⟨v0, v1, v2⟩ := hV
      have CV : CsAt V S n (fun i => if i < k then (K i, i) else none4) := hC.out.grew BV
      have c4 := CV.cell k 0 (k * 4) h (by decide) rfl
      have c5 := CV.cell k 1 (k * 4 + 1) h (by decide) rfl
      have c6 := CV.cell k 2 (k * 4 + 2) h (by decide) rfl
      have c7 := CV.cell k 3 (k * 4 + 3) h (by decide) rfl
      simp only [Nat.lt_irrefl, if_false, none4, clv] at c4 c5 c6 c7
      have f4 := CV.frz (k * 4)
      have f5 := CV.frz (k * 4 + 1)
      have f6 := CV.frz (k * 4 + 2)
      have f7 := CV.frz (k * 4 + 3)
      have HE : Hid (CsAt ((((V.setCell ⟨S, k * 4, none⟩ (.int .u32 A.id)).setCell ⟨S, k * 4 + 1, none⟩ (.int .i64 A.r)).setCell ⟨S, k * 4 + 2, none⟩ (.int .i64 A.b)).setCell ⟨S, k * 4 + 3, none⟩ (.int .i64 (k : Int))) S n (fun i => if i < k + 1 then (K i, i) else none4)) := by
        refine (CV.write k (k * 4) A k rfl).congr fun i _ => ?_
        by_cases e : i = k
        · subst e; rw [if_pos rfl, if_pos (by omega), HK]
        · rw [if_neg e]
          by_cases g : i < k
          · rw [if_pos g, if_pos (by omega)]
          · rw [if_neg g, if_neg (by omega)]
      have HF : Hid (Below S w ((((V.setCell ⟨S, k * 4, none⟩ (.int .u32 A.id)).setCell ⟨S, k * 4 + 1, none⟩ (.int .i64 A.r)).setCell ⟨S, k * 4 + 2, none⟩ (.int .i64 A.b)).setCell ⟨S, k * 4 + 3, none⟩ (.int .i64 (k : Int)))) :=
        ((((hB.out.trans (BV.mono (Nat.le_of_lt hL.out))).setCell (p := ⟨S, k * 4, none⟩) (Nat.le_refl _) _).setCell (p := ⟨S, k * 4 + 1, none⟩) (Nat.le_refl _) _).setCell (p := ⟨S, k * 4 + 2, none⟩) (Nat.le_refl _) _).setCell (p := ⟨S, k * 4 + 3, none⟩) (Nat.le_refl _) _
      clear BV CV HK
      go_wp2_with fail
      go_roundw
      case rel => exact ⟨k + 1, by omega, by go_num, HE, HF, HE.out.lt⟩
      case measure => simp [intOf]; omega
    · obtain rfl : k = n := by omega
      clear h
      have i1 : decide ((k : Int) < (k : Int)) = false := by simp
      have hX : CsAt wr S k (fun i => (K i, i)) := hC.out.congr fun i hi => if_pos hi
      have hcon : Hid (Calls Tryd.prog 20 #[.slice (some ⟨S, 0, none⟩) k k, .func (.func 21) #[] #[]] wr fun e w' => e = .returned (.tuple #[]) ∧ (∃ o, Pu.Ord K k o ∧ ClsAt w' S k K o) ∧ Kept S wr w') := sorted_any S k k K wr hX Hn.out
      clear hX hC
      go_wp2_with fail
      refine hcon.out.mono ?_
      rintro e w2 ⟨rfl, ho, hk2⟩
      have HO : Hid (∃ o, Pu.Ord K k o ∧ ClsAt w2 S k K o) := ho
      have HZ : Hid (Below S w w2 ∧ S < w2.heap.size) := ⟨hB.out.trans (hk2.below (Nat.le_refl _) (Nat.le_of_lt hL.out)), Nat.lt_of_lt_of_le hL.out hk2.size⟩
      clear ho hk2 hcon hB hL
      go_wp2
      go_ret
      exact ⟨rfl, HO.out, HZ.out⟩
end Go.Proofs.YtijjhjlopfbeiaaDoor
