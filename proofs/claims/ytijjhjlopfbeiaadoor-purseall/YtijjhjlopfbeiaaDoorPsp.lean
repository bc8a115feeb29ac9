/-
  Package purse: Split.
-/
import Derived.Test.YtijjhjlopfbeiaaDoorPsv
namespace Go.Proofs.YtijjhjlopfbeiaaDoor
open Go.RowKit Go.Deep

namespace Pu
theorem first_bounds {K : Nat → Wt} {n : Nat} {B : Int} {o : Nat → Nat} (h : Ord K n o) (hn : n ≤ 1000) (h0 : 0 ≤ B) (h1 : B ≤ 65536) : ∀ t, t ≤ n →
    (∀ j, j < n → 0 ≤ (serve K (parts K n B) o ⟨fun _ => 0, B⟩ t).g j ∧ (serve K (parts K n B) o ⟨fun _ => 0, B⟩ t).g j ≤ 65536) ∧ -100000000 ≤ (serve K (parts K n B) o ⟨fun _ => 0, B⟩ t).l ∧ (serve K (parts K n B) o ⟨fun _ => 0, B⟩ t).l ≤ 100000000 := by
  intro t ht
  by_cases hz : n = 0
  · subst hz
    obtain rfl : t = 0 := by omega
    exact ⟨fun j hj => absurd hj (by omega), by show -100000000 ≤ B; omega, by show B ≤ 100000000; omega⟩
  · obtain ⟨a, b, c⟩ := first_round h (by omega) h0 t ht
    have s0 : 0 ≤ sum (fun s => share K n B (o s)) t := sum_nonneg fun i _ => (share_range (by omega) h0 _).1
    have s1 : sum (fun s => share K n B (o s)) t ≤ sum (fun _ => 65536) t := sum_le fun i _ => by
      have := (share_range (K := K) (B := B) (n := n) (by omega) h0 (o i)).2
      have := bnd_range (K (o i)).b
      omega
    rw [sum_const] at s1
    refine ⟨fun j _ => ?_, by rw [c]; omega, by rw [c]; omega⟩
    by_cases g : ∃ s, s < t ∧ o s = j
    · rw [a j g]
      have := share_range (K := K) (B := B) (n := n) (by omega) h0 j
      have := bnd_range (K j).b
      omega
    · rw [b j (fun s hs e => g ⟨s, hs, e⟩)]
      omega
theorem rest_bounds {K : Nat → Wt} {n : Nat} {B : Int} {o : Nat → Nat} (h : Ord K n o) (h0 : 0 ≤ B) (h1 : B ≤ 65536) : ∀ t, t ≤ n →
    (∀ j, j < n → 0 ≤ (serve K rest o (begins K n B) t).g j ∧ (serve K rest o (begins K n B) t).g j ≤ 65536) ∧ -100000000 ≤ (serve K rest o (begins K n B) t).l ∧ (serve K rest o (begins K n B) t).l ≤ 100000000 := by
  intro t ht
  by_cases hz : n = 0
  · subst hz
    obtain rfl : t = 0 := by omega
    exact ⟨fun j hj => absurd hj (by omega), by show -100000000 ≤ B - 0; omega, by show B - 0 ≤ 100000000; omega⟩
  · have M := mid_all h (by omega) h0 t ht
    generalize serve K rest o (begins K n B) t = s at *
    have lo : ∀ j, j < n → 0 ≤ s.g j := fun j hj => Int.le_trans (share_range (by omega) h0 j).1 (M.lo j hj)
    have := sum_nonneg lo
    have := M.all
    have := M.left
    refine ⟨fun j hj => ⟨lo j hj, ?_⟩, by omega, by omega⟩
    have := M.hi j hj
    have := bnd_range (K j).b
    omega
theorem first_begins {K : Nat → Wt} {n : Nat} {B : Int} {o : Nat → Nat} (h : Ord K n o) (h0 : 0 ≤ B) : (∀ p, p < n → (serve K (parts K n B) o ⟨fun _ => 0, B⟩ n).g p = (begins K n B).g p) ∧ (serve K (parts K n B) o ⟨fun _ => 0, B⟩ n).l = (begins K n B).l := by
  by_cases hz : n = 0
  · subst hz
    exact ⟨fun p hp => absurd hp (by omega), by show B = B - 0; omega⟩
  · exact first_all h (by omega) h0
/-- The weights in the order in which all are served. -/
def sofar (K : Nat → Wt) (o : Nat → Nat) (k : Nat) : Int := sum (fun t => wgt (K (o t)).r) k
theorem sofar_range (K : Nat → Wt) (o : Nat → Nat) : ∀ k : Nat, 0 ≤ sofar K o k ∧ sofar K o k ≤ 8 * k
  | 0 => ⟨Int.le_refl _, Int.le_refl _⟩
  | k + 1 => by
    obtain ⟨a, b⟩ := sofar_range K o k
    have := wgt_range (K (o k)).r
    have e : sofar K o (k + 1) = sofar K o k + wgt (K (o k)).r := rfl
    omega
theorem sofar_all {K : Nat → Wt} {n : Nat} {o : Nat → Nat} (h : Ord K n o) : sofar K o n = weigh K n := h.sum (fun i => wgt (K i).r)
end Pu

theorem Stood.congr {w : World} {S P C : Nat} {B V : Int} {G n : Nat} {s u : Pu.St} {K : Nat → Wt} {o : Nat → Nat} {W : World} (h : Stood w S P C B V G n s K o W) (hg : ∀ p, p < n → s.g p = u.g p) (hl : s.l = u.l) : Stood w S P C B V G n u K o W := by
  obtain ⟨a, d, e, f, k⟩ := h
  rw [hl] at a
  exact ⟨a, d, e, f.congr hg, k⟩
theorem Stood.rebase {w : World} {S P C : Nat} {B V : Int} {G n : Nat} {s : Pu.St} {K : Nat → Wt} {o : Nat → Nat} {W : World} (h : Stood w S P C B V G n s K o W) : Stood W S P C B V G n s K o W := by
  obtain ⟨a, d, -, f⟩ := h
  exact ⟨a, d, Below.refl _ _, f⟩
theorem Srv.weighed {w : World} {S P H C : Nat} {B L V : Int} {G n : Nat} {g : Nat → Int} {K : Nat → Wt} {o : Nat → Nat} {i r b p : Int} {W : World} (h : Srv w S P H C B L V G n g K o i r b p W) (M : Int) :
    Srv w S P H C B L M G n g K o i r b p (W.setCell ⟨P, 2, none⟩ (.int .i64 M)) := by
  obtain ⟨l1, l2, l3, l4, l5, l6, l7, l8, l9, l10, l11⟩ := h.l
  exact ⟨h.a.weight M, h.c.other l10, h.d.block (Below.heap_setCell W ⟨P, 2, none⟩ _ 0 (by show (0 : Nat) ≠ P; omega)), h.e.setCell (p := ⟨P, 2, none⟩) l1 _, h.f.other (fun q => l7 q.symm), h.k.block (Below.heap_setCell W ⟨P, 2, none⟩ _ C l8), l1, l2, l3, l4, by simpa [World.setCell] using l5, by simpa [World.setCell] using l6, l7, l8, l9, l10, l11⟩
theorem Tryd.infoNum : (Tryd.prog.info? 3).map (fun i => (i.zero, i.size, i.bytes)) = some (some (.int .i64 0), 1, 8) := by kernel_rfl
theorem make_nums (m : Nat) (w : World) (hm : m ≤ 1000) : (Instr.makeSlice 24 (.int .i64 (m : Int)) (.int .i64 (m : Int))).run Tryd.prog w = .ok (.slice (some ⟨w.heap.size, 0, none⟩) m m) (w.alloc (.cells (madeCells #[.int .i64 0] m) 3)) := by
  obtain ⟨i0, hi, hz0, hz1, hz2⟩ := info_parts Tryd.infoNum
  have := run_makeSlice (P := Tryd.prog) w 24 3 i0 _ Tryd.underlying24 hi hz0 .i64 .i64 (m : Int) (m : Int) (by omega) (Int.le_refl _) (by rw [hz1]; simp; omega) (by rw [hz2]; omega) (by omega)
  rw [hz1] at this
  simpa [Value.cells] using this
theorem IRow.made (w : World) (m : Nat) : IRow (w.alloc (.cells (madeCells #[.int .i64 0] m) 3)) w.heap.size m (fun _ => 0) := by
  refine ⟨fun i hi => ?_, fun i => frozen_of_row _ w.heap.size i _ _ (heap_alloc_new w _)⟩
  rw [World.cell?_alloc_at _ _ _ _ rfl]
  simp [madeCells, hi, Nat.mod_one]
/-- A purse that was made, ahead of what is laid into it. -/
structure Raw4 (w : World) (P : Nat) : Prop where
  c0 : w.cell? ⟨P, 0, none⟩ = some (.int .i64 0)
  c1 : w.cell? ⟨P, 1, none⟩ = some (.int .i64 0)
  c2 : w.cell? ⟨P, 2, none⟩ = some (.int .i64 0)
  c3 : w.cell? ⟨P, 3, none⟩ = some (.slice none 0 0)
  thaw : ∀ i, w.frozen? ⟨P, i, none⟩ = false
theorem Raw4.made (w : World) (T : TypeId) : Raw4 (w.alloc (.cells #[.int .i64 0, .int .i64 0, .int .i64 0, .slice none 0 0] T)) w.heap.size :=
  ⟨by rw [World.cell?_alloc_at _ _ _ _ rfl]; rfl, by rw [World.cell?_alloc_at _ _ _ _ rfl]; rfl, by rw [World.cell?_alloc_at _ _ _ _ rfl]; rfl, by rw [World.cell?_alloc_at _ _ _ _ rfl]; rfl, fun i => frozen_of_row _ w.heap.size i _ T (heap_alloc_new w _)⟩
theorem Raw4.grew {w w' : World} {P : Nat} (h : Raw4 w P) (b : Below w.heap.size w w') : Raw4 w' P := by
  have e := b.block P (cell_lt h.c0)
  exact ⟨(World.cell?_of_block (a := ⟨P, 0, none⟩) e).trans h.c0, (World.cell?_of_block (a := ⟨P, 1, none⟩) e).trans h.c1, (World.cell?_of_block (a := ⟨P, 2, none⟩) e).trans h.c2, (World.cell?_of_block (a := ⟨P, 3, none⟩) e).trans h.c3, fun i => (World.frozen?_of_block (a := ⟨P, i, none⟩) e).trans (h.thaw i)⟩
theorem Raw4.put {w : World} {P G n : Nat} {B L V : Int} (h : Raw4 w P) : PurAt ((((w.setCell ⟨P, 0, none⟩ (.int .i64 B)).setCell ⟨P, 1, none⟩ (.int .i64 L)).setCell ⟨P, 2, none⟩ (.int .i64 V)).setCell ⟨P, 3, none⟩ (.slice (some ⟨G, 0, none⟩) n n)) P B L V G n := by
  have d1 : (w.setCell ⟨P, 0, none⟩ (.int .i64 B)).cell? ⟨P, 1, none⟩ = some (.int .i64 0) := by rw [World.cell?_setCell_other _ _ _ _ (by intro e; cases e)]; exact h.c1
  have d2 : ((w.setCell ⟨P, 0, none⟩ (.int .i64 B)).setCell ⟨P, 1, none⟩ (.int .i64 L)).cell? ⟨P, 2, none⟩ = some (.int .i64 0) := by rw [World.cell?_setCell_other _ _ _ _ (by intro e; cases e), World.cell?_setCell_other _ _ _ _ (by intro e; cases e)]; exact h.c2
  have d3 : (((w.setCell ⟨P, 0, none⟩ (.int .i64 B)).setCell ⟨P, 1, none⟩ (.int .i64 L)).setCell ⟨P, 2, none⟩ (.int .i64 V)).cell? ⟨P, 3, none⟩ = some (.slice none 0 0) := by rw [World.cell?_setCell_other _ _ _ _ (by intro e; cases e), World.cell?_setCell_other _ _ _ _ (by intro e; cases e), World.cell?_setCell_other _ _ _ _ (by intro e; cases e)]; exact h.c3
  refine ⟨?_, ?_, ?_, ?_, fun i => by rw [World.frozen?_setCell, World.frozen?_setCell, World.frozen?_setCell, World.frozen?_setCell]; exact h.thaw i⟩
  · rw [World.cell?_setCell_other _ _ _ _ (by intro e; cases e), World.cell?_setCell_other _ _ _ _ (by intro e; cases e), World.cell?_setCell_other _ _ _ _ (by intro e; cases e), World.cell?_setCell_same _ _ _ h.c0]
  · rw [World.cell?_setCell_other _ _ _ _ (by intro e; cases e), World.cell?_setCell_other _ _ _ _ (by intro e; cases e), World.cell?_setCell_same _ _ _ d1]
  · rw [World.cell?_setCell_other _ _ _ _ (by intro e; cases e), World.cell?_setCell_same _ _ _ d2]
  · rw [World.cell?_setCell_same _ _ _ d3]
/-- What Split answers. -/
def SplitIs (w : World) (n : Nat) (K : Nat → Wt) (B : Int) (e : Ending) (w' : World) : Prop :=
  ∃ (G : Nat) (o : Nat → Nat), e = .returned (.slice (some ⟨G, 0, none⟩) n n) ∧ w.heap.size ≤ G ∧ G < w'.heap.size ∧ Pu.Ord K n o ∧ IRow w' G n (Pu.gets K n (Pu.bnd B) o) ∧ Below w.heap.size w w'

set_option maxRecDepth 100000 in
set_option maxHeartbeats 2000000 in
theorem split_any (n c : Nat) (a : Option Addr) (K : Nat → Wt) (B0 : Int) (w : World) (hK : WtsAt w a n K) (hn : n ≤ 1000) (hL : Laid w) :
    Calls Tryd.prog 9 #[.int .i64 B0, .slice a n c] w (SplitIs w n K B0) := by
  obtain ⟨S, hS⟩ : ∃ S, w.heap.size = S := ⟨_, rfl⟩
  obtain ⟨B, hB⟩ : ∃ B, Pu.bnd B0 = B := ⟨_, rfl⟩
  have HBR : Hid (0 ≤ B ∧ B ≤ 65536) := by rw [← hB]; exact Pu.bnd_range B0
  have HC : ∀ W, Hid (Calls Tryd.prog 11 #[.int .i64 B0] W fun e w' => e = .returned (.int .i64 B) ∧ w' = W) := fun W => by
    have := bounded_any B0 W
    rwa [hB] at this
  have HS : Hid (w.heap.size = S) := hS
  have HW : Hid (WtsAt w a n K) := hK
  have HL : Hid (Laid w) := hL
  have Hs0 : Hid (0 < S) := by rw [← hS]; exact hL.lt
  unfold SplitIs
  rw [hB, hS]
  clear hB hK hL
  go_enter Tryd.func9, Tryd.ntmps9
  go_wp2_with fail
  rename_i KK hKK
  have REST : ∀ (v9 v10 v11 v12 v13 v14 v15 v16 : Value) (P G : Nat) (W : World), PurAt W P B B 0 G n → IRow W G n (fun _ => 0) → G < W.heap.size → S ≤ P → S ≤ G → P ≠ G → Below S w W → KK { tmps := #[.int .i64 B0, .slice a n c, undef, undef, .slice none 0 0, .pointer (some ⟨P, 0, none⟩), undef, undef, undef, v9, v10, v11, v12, v13, v14, v15, v16, undef, undef, undef, undef, undef, undef, undef, undef, undef, undef, undef, undef, undef, undef, undef, undef, undef, undef, undef, undef, undef], defers := [] } W := by
    intro v9 v10 v11 v12 v13 v14 v15 v16 P G W hP hG hGl hSP hSG hPG hBW
    apply hKK
    clear hKK
    have HT : Hid (PurAt W P B B 0 G n ∧ IRow W G n (fun _ => 0) ∧ G < W.heap.size ∧ S ≤ P ∧ S ≤ G ∧ P ≠ G ∧ Below S w W) := ⟨hP, hG, hGl, hSP, hSG, hPG, hBW⟩
    have hturn : Hid (Calls Tryd.prog 12 #[.slice a n c] W fun e w' => e = .returned (.slice (some ⟨W.heap.size, 0, none⟩) n n) ∧ (∃ o, Pu.Ord K n o ∧ ClsAt w' W.heap.size n K o) ∧ Below W.heap.size W w' ∧ W.heap.size < w'.heap.size) := turn_any n c a K W (HW.out.below hBW (by rw [HS.out]; exact Nat.le_refl _)) hn
    clear hP hG hGl hSP hSG hPG hBW hS
    go_wp2_with fail
    refine hturn.out.mono ?_
    rintro e W2 ⟨rfl, ⟨o, ho, hcl⟩, b2, hl2⟩
    have HOr : Hid (Pu.Ord K n o) := ho
    have HST : Hid (Stood w S P W.heap.size B 0 G n ⟨fun _ => 0, B⟩ K o W2) := by
      obtain ⟨hP, hG, hGl, hSP, hSG, hPG, hBW⟩ := HT.out
      have l1 := hP.lt
      exact ⟨hP.grew b2, (HL.out.below hBW Hs0.out).grew b2, hBW.trans (b2.mono (by omega)), hG.grew b2 hGl, hcl, hSP, hSG, Hs0.out, Nat.lt_of_lt_of_le hGl b2.size, hl2, hPG, by omega, by omega⟩
    clear hturn HT ho hcl b2 hl2
    generalize W.heap.size = C at *
    go_wp2
    go_loopw [21] (fun i wr => ∃ k : Nat, k ≤ n ∧ i = .int .i64 (k : Int) ∧ Hid (Stood w S P C B (Pu.sofar K o k) G n ⟨fun _ => 0, B⟩ K o wr)) (fun i _ => n - (intOf i).toNat)
    case atStart => exact ⟨0, Nat.zero_le _, rfl, HST⟩
    case round =>
      obtain ⟨k, hk, rfl, hs⟩ := hrel
      clear HST
      by_cases h : k < n
      · have i1 : (k : Int) < (n : Int) := by omega
        obtain ⟨p, hp⟩ : ∃ p, o k = p := ⟨_, rfl⟩
        obtain ⟨c0, c1, c2, c3⟩ := hs.out.2.2.2.2.1 k h
        have sr := Pu.sofar_range K o k
        have wr0 := Pu.wgt_range (K (o k)).r
        have se : Pu.sofar K o (k + 1) = Pu.sofar K o k + Pu.wgt (K (o k)).r := rfl
        rw [hp] at c0 c1 c2 c3 se wr0
        generalize (K p).id = i at *
        generalize (K p).r = r at *
        generalize (K p).b = b at *
        have HWt : ∀ W, Hid (Laid W → Calls Tryd.prog 13 #[.agg #[.int .u32 i, .int .i64 r, .int .i64 b, .int .i64 (p : Int)]] W fun e w' => e = .returned (.int .i64 (Pu.wgt r)) ∧ Below W.heap.size W w') := fun W h => weight_any i r b (p : Int) W h
        obtain ⟨V, hV⟩ : ∃ V, Pu.sofar K o k = V := ⟨_, rfl⟩
        rw [hV] at sr se hs
        generalize Pu.wgt r = T at *
        obtain ⟨M, hM⟩ : ∃ M, V + T = M := ⟨_, rfl⟩
        have e1 : IntKind.i64.wrap M = M := w64 _ (by omega) (by omega)
        rw [hM] at se
        have HSE : Hid (Pu.sofar K o (k + 1) = M) := se
        obtain ⟨H, hH⟩ : ∃ H, wr.heap.size = H := ⟨_, rfl⟩
        obtain ⟨x0, e0⟩ : ∃ x, wr.alloc (.cells #[.int .u32 i, .int .i64 r, .int .i64 b, .int .i64 (p : Int)] 43) = x := ⟨_, rfl⟩
        have HV : Hid (Srv w S P H C B B V G n (fun _ => 0) K o i r b (p : Int) x0.drew) := by
          rw [← e0, ← hH]
          exact (hs.out.srv i r b (p : Int)).grew (below_drews 1)
        have p2 := HV.out.a.c2
        have q0 := HV.out.c.c0
        have q1 := HV.out.c.c1
        have q2 := HV.out.c.c2
        have q3 := HV.out.c.c3
        clear hp hs sr se wr0 hV
        go_wp2_with fail
        go_region_with (go_at_call 13; refine ((HWt _).out HV.out.d).mono ?_; rintro e x2 ⟨rfl, b2⟩; have HV2 : Srv w S P H C B B V G n (fun _ => 0) K o i r b (p : Int) x2 := HV.out.grew b2; have p4 := HV2.a.c2; have p5 := HV2.a.thaw 2; have HE : Hid (Stood w S P C B (Pu.sofar K o (k + 1)) G n ⟨fun _ => 0, B⟩ K o (x2.setCell ⟨P, 2, none⟩ (.int .i64 M))) := (by rw [HSE.out]; exact (HV2.weighed M).stood _ rfl); clear b2 HV2)
        all_goals
          go_wp2_with fail
          go_roundw
          case rel => exact ⟨k + 1, by omega, by go_num, HE⟩
          case measure => simp [intOf]; omega
      · obtain rfl : k = n := by omega
        have i1 : decide ((k : Int) < (k : Int)) = false := by simp
        have HP1 : Hid (Calls Tryd.prog 14 #[.pointer (some ⟨P, 0, none⟩), .slice (some ⟨C, 0, none⟩) k k, .func (.func 15) #[] #[]] wr fun e w' => e = .returned (.tuple #[]) ∧ Stood wr S P C B (Pu.sofar K o k) G k (Pu.serve K (Pu.parts K k B) o ⟨fun _ => 0, B⟩ k) K o w') :=
          serve_parts P G C k B (Pu.sofar K o k) ⟨fun _ => 0, B⟩ K o S wr hs.out.rebase hn (fun t ht => HOr.out.lt ht) HBR.out.1 HBR.out.2 (Pu.sofar_all HOr.out) (Pu.first_bounds HOr.out hn HBR.out.1 HBR.out.2)
        clear HC
        go_wp2_with fail
        refine HP1.out.mono ?_
        rintro e w3 ⟨rfl, h3⟩
        have HP2 : Hid (Calls Tryd.prog 14 #[.pointer (some ⟨P, 0, none⟩), .slice (some ⟨C, 0, none⟩) k k, .func (.func 16) #[] #[]] w3 fun e w' => e = .returned (.tuple #[]) ∧ Stood w3 S P C B (Pu.sofar K o k) G k (Pu.serve K Pu.rest o (Pu.begins K k B) k) K o w') :=
          serve_rest P G C k B (Pu.sofar K o k) (Pu.begins K k B) K o S w3 (h3.rebase.congr (Pu.first_begins HOr.out HBR.out.1).1 (Pu.first_begins HOr.out HBR.out.1).2) hn (fun t ht => HOr.out.lt ht) (Pu.rest_bounds HOr.out HBR.out.1 HBR.out.2)
        have HB3 : Hid (Below S w w3) := hs.out.2.2.1.trans h3.2.2.1
        clear HP1 h3 hs
        go_wp2_with fail
        refine HP2.out.mono ?_
        rintro e w4 ⟨rfl, h4⟩
        have HE : Hid (S ≤ G ∧ G < w4.heap.size ∧ Pu.Ord K k o ∧ IRow w4 G k (Pu.gets K k B o) ∧ Below S w w4) := ⟨h4.2.2.2.2.2.2.1, h4.2.2.2.2.2.2.2.2.1, HOr.out, h4.2.2.2.1, HB3.out.trans h4.2.2.1⟩
        have p3 := h4.1.c3
        clear HP2 h4 HB3
        go_wp2
        go_ret
        exact ⟨G, o, rfl, HE.out⟩
  refine wp_region_held (S := fun _ => True) (by kernel_rfl) ?_
  change wpAnyH _ _ _ _ _ _ _ _ w.drew
  have hr : True := trivial
  have hb : Below S w w.drew := below_drews 1
  have hz : S ≤ w.drew.heap.size := by rw [← hS]; exact Nat.le_refl _
  clear hKK hS
  generalize w.drew = w1 at *
  refine wpAnyH_take (i := 0) (v := .int .i64 B0) rfl (by kernel_rfl) (by kernel_rfl) (by kernel_rfl) (fun _ _ _ h => h) (Yields.yieldsIf (Or.inl ⟨by kernel_rfl, fun _ => by kernel_rfl⟩)) hr ?_
  refine wpAnyH_take (i := 2) (v := .int .i64 B0) rfl (by kernel_rfl) (by kernel_rfl) (by kernel_rfl) (fun _ _ _ h => h) (Yields.yieldsIf (Or.inl ⟨by kernel_rfl, fun _ => by kernel_rfl⟩)) hr ?_
  refine wpAnyH_take (i := 4) (v := .slice a n c) rfl (by kernel_rfl) (by kernel_rfl) (by kernel_rfl) (fun _ _ _ h => h) (Yields.yieldsIf (Or.inl ⟨by kernel_rfl, fun _ => by kernel_rfl⟩)) hr ?_
  refine wpAnyH_take (i := 5) (v := .int .i64 (n : Int)) rfl (by kernel_rfl) (by kernel_rfl) (by kernel_rfl) (fun _ _ _ h => h) (Yields.yieldsIf (Or.inl ⟨by kernel_rfl, fun _ => by go_simp⟩)) hr ?_
  refine wpAnyH_ready (rs := [1, 6, 8]) (by kernel_rfl) (by simp) ?_
  refine AllReadyH.cons rfl (fun K2 hK2 => ?_) (AllReadyH.cons rfl (fun K2 hK2 => ?_) (AllReadyH.cons rfl (fun K2 hK2 => ?_) AllReadyH.nil))
  · go_simp
    refine ((HC w1).out).mono ?_
    rintro e w' ⟨rfl, hw⟩
    subst w'
    refine hK2.out _ _ hr (fun _ => ?_)
    clear hK2 K2
    refine wpAnyH_ready (rs := [3, 6, 8]) (by kernel_rfl) (by simp) ?_
    refine AllReadyH.cons rfl (fun K2 hK2 => ?_) (AllReadyH.cons rfl (fun K2 hK2 => ?_) (AllReadyH.cons rfl (fun K2 hK2 => ?_) AllReadyH.nil))
    · go_simp
      refine ((HC w1).out).mono ?_
      rintro e w' ⟨rfl, hw⟩
      subst w'
      refine hK2.out _ _ hr (fun _ => ?_)
      clear hK2 K2
      refine wpAnyH_ready (rs := [6, 8]) (by kernel_rfl) (by simp) ?_
      refine AllReadyH.cons rfl (fun K2 hK2 => ?_) (AllReadyH.cons rfl (fun K2 hK2 => ?_) AllReadyH.nil)
      · have hmk := make_nums n w1 hn
        go_simp
        have bb : Below w1.heap.size w1 (w1.alloc (.cells (madeCells #[.int .i64 0] n) 3)) := (Below.refl _ _).alloc (Nat.le_refl _) _
        have HG : IRow (w1.alloc (.cells (madeCells #[.int .i64 0] n) 3)) w1.heap.size n (fun _ => 0) := IRow.made w1 n
        have lG : w1.heap.size < (w1.alloc (.cells (madeCells #[.int .i64 0] n) 3)).heap.size := by simp
        replace hb := hb.trans (bb.mono hz)
        have sG := hz
        replace hz := Nat.le_trans hz bb.size
        clear hmk
        refine hK2.out _ _ hr (fun _ => ?_)
        clear hK2 K2 bb
        generalize (w1.alloc (.cells (madeCells #[.int .i64 0] n) 3)) = w2 at *
        generalize w1.heap.size = G at *
        refine wpAnyH_take (i := 7) (v := .agg #[.int .i64 B, .int .i64 B, .int .i64 0, .slice (some ⟨G, 0, none⟩) n n]) rfl (by kernel_rfl) (by kernel_rfl) (by kernel_rfl) (fun _ _ _ h => h) (Yields.yieldsIf (Or.inl ⟨by kernel_rfl, fun _ => by go_simp⟩)) hr ?_
        refine wpAnyH_ready (rs := [8]) (by kernel_rfl) (by simp) ?_
        refine AllReadyH.cons rfl (fun K2 hK2 => ?_) AllReadyH.nil
        go_simp
        have bb : Below w2.heap.size w2 (w2.alloc (.cells #[.int .i64 0, .int .i64 0, .int .i64 0, .slice none 0 0] 39)) := (Below.refl _ _).alloc (Nat.le_refl _) _
        have HP : Raw4 (w2.alloc (.cells #[.int .i64 0, .int .i64 0, .int .i64 0, .slice none 0 0] 39)) w2.heap.size := Raw4.made w2 _
        have lP : w2.heap.size < (w2.alloc (.cells #[.int .i64 0, .int .i64 0, .int .i64 0, .slice none 0 0] 39)).heap.size := by simp
        have HPG : w2.heap.size ≠ G := Nat.ne_of_gt lG
        replace HG := HG.grew bb lG
        replace lG := Nat.lt_of_lt_of_le lG bb.size
        replace hb := hb.trans (bb.mono hz)
        have sP := hz
        replace hz := Nat.le_trans hz bb.size
        refine hK2.out _ _ hr (fun _ => ?_)
        clear hK2 K2 bb
        generalize (w2.alloc (.cells #[.int .i64 0, .int .i64 0, .int .i64 0, .slice none 0 0] 39)) = w3 at *
        generalize w2.heap.size = P at *
        refine wpAnyH_ready (rs := [9]) (by kernel_rfl) (by simp) ?_
        refine AllReadyH.cons rfl (fun K2 hK2 => ?_) AllReadyH.nil
        have g0 := HP.c0
        have g1 := HP.c1
        have g2 := HP.c2
        have g3 := HP.c3
        have t0 := HP.thaw 0
        have t1 := HP.thaw 1
        have t2 := HP.thaw 2
        have t3 := HP.thaw 3
        have z1 : (w3.setCell ⟨P, 0, none⟩ (.int .i64 B)).cell? ⟨P, 1, none⟩ = some (.int .i64 0) := by rw [World.cell?_setCell_other _ _ _ _ (by intro e; cases e)]; exact g1
        have z2 : ((w3.setCell ⟨P, 0, none⟩ (.int .i64 B)).setCell ⟨P, 1, none⟩ (.int .i64 B)).cell? ⟨P, 2, none⟩ = some (.int .i64 0) := by rw [World.cell?_setCell_other _ _ _ _ (by intro e; cases e), World.cell?_setCell_other _ _ _ _ (by intro e; cases e)]; exact g2
        go_simp
        refine hK2.out _ _ hr (fun _ => ?_)
        clear hK2 K2 z1 z2
        refine wpAnyH_done (by kernel_rfl) ?_ _
        exact REST _ _ _ _ _ _ _ _ P G _ HP.put ((((HG.other HPG.symm).other HPG.symm).other HPG.symm).other HPG.symm) (by simpa [World.setCell] using lG) sP sG HPG ((((hb.setCell (p := ⟨P, 0, none⟩) sP _).setCell (p := ⟨P, 1, none⟩) sP _).setCell (p := ⟨P, 2, none⟩) sP _).setCell (p := ⟨P, 3, none⟩) sP _)
      · go_simp
        have bb : Below w1.heap.size w1 (w1.alloc (.cells #[.int .i64 0, .int .i64 0, .int .i64 0, .slice none 0 0] 39)) := (Below.refl _ _).alloc (Nat.le_refl _) _
        have HP : Raw4 (w1.alloc (.cells #[.int .i64 0, .int .i64 0, .int .i64 0, .slice none 0 0] 39)) w1.heap.size := Raw4.made w1 _
        have lP : w1.heap.size < (w1.alloc (.cells #[.int .i64 0, .int .i64 0, .int .i64 0, .slice none 0 0] 39)).heap.size := by simp
        replace hb := hb.trans (bb.mono hz)
        have sP := hz
        replace hz := Nat.le_trans hz bb.size
        refine hK2.out _ _ hr (fun _ => ?_)
        clear hK2 K2 bb
        generalize (w1.alloc (.cells #[.int .i64 0, .int .i64 0, .int .i64 0, .slice none 0 0] 39)) = w2 at *
        generalize w1.heap.size = P at *
        refine wpAnyH_ready (rs := [6]) (by kernel_rfl) (by simp) ?_
        refine AllReadyH.cons rfl (fun K2 hK2 => ?_) AllReadyH.nil
        have hmk := make_nums n w2 hn
        go_simp
        have bb : Below w2.heap.size w2 (w2.alloc (.cells (madeCells #[.int .i64 0] n) 3)) := (Below.refl _ _).alloc (Nat.le_refl _) _
        have HG : IRow (w2.alloc (.cells (madeCells #[.int .i64 0] n) 3)) w2.heap.size n (fun _ => 0) := IRow.made w2 n
        have lG : w2.heap.size < (w2.alloc (.cells (madeCells #[.int .i64 0] n) 3)).heap.size := by simp
        have HPG : P ≠ w2.heap.size := Nat.ne_of_lt lP
        replace HP := HP.grew bb
        replace lP := Nat.lt_of_lt_of_le lP bb.size
        replace hb := hb.trans (bb.mono hz)
        have sG := hz
        replace hz := Nat.le_trans hz bb.size
        clear hmk
        refine hK2.out _ _ hr (fun _ => ?_)
        clear hK2 K2 bb
        generalize (w2.alloc (.cells (madeCells #[.int .i64 0] n) 3)) = w3 at *
        generalize w2.heap.size = G at *
        refine wpAnyH_take (i := 7) (v := .agg #[.int .i64 B, .int .i64 B, .int .i64 0, .slice (some ⟨G, 0, none⟩) n n]) rfl (by kernel_rfl) (by kernel_rfl) (by kernel_rfl) (fun _ _ _ h => h) (Yields.yieldsIf (Or.inl ⟨by kernel_rfl, fun _ => by go_simp⟩)) hr ?_
        refine wpAnyH_ready (rs := [9]) (by kernel_rfl) (by simp) ?_
        refine AllReadyH.cons rfl (fun K2 hK2 => ?_) AllReadyH.nil
        have g0 := HP.c0
        have g1 := HP.c1
        have g2 := HP.c2
        have g3 := HP.c3
        have t0 := HP.thaw 0
        have t1 := HP.thaw 1
        have t2 := HP.thaw 2
        have t3 := HP.thaw 3
        have z1 : (w3.setCell ⟨P, 0, none⟩ (.int .i64 B)).cell? ⟨P, 1, none⟩ = some (.int .i64 0) := by rw [World.cell?_setCell_other _ _ _ _ (by intro e; cases e)]; exact g1
        have z2 : ((w3.setCell ⟨P, 0, none⟩ (.int .i64 B)).setCell ⟨P, 1, none⟩ (.int .i64 B)).cell? ⟨P, 2, none⟩ = some (.int .i64 0) := by rw [World.cell?_setCell_other _ _ _ _ (by intro e; cases e), World.cell?_setCell_other _ _ _ _ (by intro e; cases e)]; exact g2
        go_simp
        refine hK2.out _ _ hr (fun _ => ?_)
        clear hK2 K2 z1 z2
        refine wpAnyH_done (by kernel_rfl) ?_ _
        exact REST _ _ _ _ _ _ _ _ P G _ HP.put ((((HG.other HPG.symm).other HPG.symm).other HPG.symm).other HPG.symm) (by simpa [World.setCell] using lG) sP sG HPG ((((hb.setCell (p := ⟨P, 0, none⟩) sP _).setCell (p := ⟨P, 1, none⟩) sP _).setCell (p := ⟨P, 2, none⟩) sP _).setCell (p := ⟨P, 3, none⟩) sP _)
    · have hmk := make_nums n w1 hn
      go_simp
      have bb : Below w1.heap.size w1 (w1.alloc (.cells (madeCells #[.int .i64 0] n) 3)) := (Below.refl _ _).alloc (Nat.le_refl _) _
      have HG : IRow (w1.alloc (.cells (madeCells #[.int .i64 0] n) 3)) w1.heap.size n (fun _ => 0) := IRow.made w1 n
      have lG : w1.heap.size < (w1.alloc (.cells (madeCells #[.int .i64 0] n) 3)).heap.size := by simp
      replace hb := hb.trans (bb.mono hz)
      have sG := hz
      replace hz := Nat.le_trans hz bb.size
      clear hmk
      refine hK2.out _ _ hr (fun _ => ?_)
      clear hK2 K2 bb
      generalize (w1.alloc (.cells (madeCells #[.int .i64 0] n) 3)) = w2 at *
      generalize w1.heap.size = G at *
      refine wpAnyH_ready (rs := [3, 8]) (by kernel_rfl) (by simp) ?_
      refine AllReadyH.cons rfl (fun K2 hK2 => ?_) (AllReadyH.cons rfl (fun K2 hK2 => ?_) AllReadyH.nil)
      · go_simp
        refine ((HC w2).out).mono ?_
        rintro e w' ⟨rfl, hw⟩
        subst w'
        refine hK2.out _ _ hr (fun _ => ?_)
        clear hK2 K2
        refine wpAnyH_take (i := 7) (v := .agg #[.int .i64 B, .int .i64 B, .int .i64 0, .slice (some ⟨G, 0, none⟩) n n]) rfl (by kernel_rfl) (by kernel_rfl) (by kernel_rfl) (fun _ _ _ h => h) (Yields.yieldsIf (Or.inl ⟨by kernel_rfl, fun _ => by go_simp⟩)) hr ?_
        refine wpAnyH_ready (rs := [8]) (by kernel_rfl) (by simp) ?_
        refine AllReadyH.cons rfl (fun K2 hK2 => ?_) AllReadyH.nil
        go_simp
        have bb : Below w2.heap.size w2 (w2.alloc (.cells #[.int .i64 0, .int .i64 0, .int .i64 0, .slice none 0 0] 39)) := (Below.refl _ _).alloc (Nat.le_refl _) _
        have HP : Raw4 (w2.alloc (.cells #[.int .i64 0, .int .i64 0, .int .i64 0, .slice none 0 0] 39)) w2.heap.size := Raw4.made w2 _
        have lP : w2.heap.size < (w2.alloc (.cells #[.int .i64 0, .int .i64 0, .int .i64 0, .slice none 0 0] 39)).heap.size := by simp
        have HPG : w2.heap.size ≠ G := Nat.ne_of_gt lG
        replace HG := HG.grew bb lG
        replace lG := Nat.lt_of_lt_of_le lG bb.size
        replace hb := hb.trans (bb.mono hz)
        have sP := hz
        replace hz := Nat.le_trans hz bb.size
        refine hK2.out _ _ hr (fun _ => ?_)
        clear hK2 K2 bb
        generalize (w2.alloc (.cells #[.int .i64 0, .int .i64 0, .int .i64 0, .slice none 0 0] 39)) = w3 at *
        generalize w2.heap.size = P at *
        refine wpAnyH_ready (rs := [9]) (by kernel_rfl) (by simp) ?_
        refine AllReadyH.cons rfl (fun K2 hK2 => ?_) AllReadyH.nil
        have g0 := HP.c0
        have g1 := HP.c1
        have g2 := HP.c2
        have g3 := HP.c3
        have t0 := HP.thaw 0
        have t1 := HP.thaw 1
        have t2 := HP.thaw 2
        have t3 := HP.thaw 3
        have z1 : (w3.setCell ⟨P, 0, none⟩ (.int .i64 B)).cell? ⟨P, 1, none⟩ = some (.int .i64 0) := by rw [World.cell?_setCell_other _ _ _ _ (by intro e; cases e)]; exact g1
        have z2 : ((w3.setCell ⟨P, 0, none⟩ (.int .i64 B)).setCell ⟨P, 1, none⟩ (.int .i64 B)).cell? ⟨P, 2, none⟩ = some (.int .i64 0) := by rw [World.cell?_setCell_other _ _ _ _ (by intro e; cases e), World.cell?_setCell_other _ _ _ _ (by intro e; cases e)]; exact g2
        go_simp
        refine hK2.out _ _ hr (fun _ => ?_)
        clear hK2 K2 z1 z2
        refine wpAnyH_done (by kernel_rfl) ?_ _
        exact REST _ _ _ _ _ _ _ _ P G _ HP.put ((((HG.other HPG.symm).other HPG.symm).other HPG.symm).other HPG.symm) (by simpa [World.setCell] using lG) sP sG HPG ((((hb.setCell (p := ⟨P, 0, none⟩) sP _).setCell (p := ⟨P, 1, none⟩) sP _).setCell (p := ⟨P, 2, none⟩) sP _).setCell (p := ⟨P, 3, none⟩) sP _)
      · go_simp
        have bb : Below w2.heap.size w2 (w2.alloc (.cells #[.int .i64 0, .int .i64 0, .int .i64 0, .slice none 0 0] 39)) := (Below.refl _ _).alloc (Nat.le_refl _) _
        have HP : Raw4 (w2.alloc (.cells #[.int .i64 0, .int .i64 0, .int .i64 0, .slice none 0 0] 39)) w2.heap.size := Raw4.made w2 _
        have lP : w2.heap.size < (w2.alloc (.cells #[.int .i64 0, .int .i64 0, .int .i64 0, .slice none 0 0] 39)).heap.size := by simp
        have HPG : w2.heap.size ≠ G := Nat.ne_of_gt lG
        replace HG := HG.grew bb lG
        replace lG := Nat.lt_of_lt_of_le lG bb.size
        replace hb := hb.trans (bb.mono hz)
        have sP := hz
        replace hz := Nat.le_trans hz bb.size
        refine hK2.out _ _ hr (fun _ => ?_)
        clear hK2 K2 bb
        generalize (w2.alloc (.cells #[.int .i64 0, .int .i64 0, .int .i64 0, .slice none 0 0] 39)) = w3 at *
        generalize w2.heap.size = P at *
        refine wpAnyH_ready (rs := [3]) (by kernel_rfl) (by simp) ?_
        refine AllReadyH.cons rfl (fun K2 hK2 => ?_) AllReadyH.nil
        go_simp
        refine ((HC w3).out).mono ?_
        rintro e w' ⟨rfl, hw⟩
        subst w'
        refine hK2.out _ _ hr (fun _ => ?_)
        clear hK2 K2
        refine wpAnyH_take (i := 7) (v := .agg #[.int .i64 B, .int .i64 B, .int .i64 0, .slice (some ⟨G, 0, none⟩) n n]) rfl (by kernel_rfl) (by kernel_rfl) (by kernel_rfl) (fun _ _ _ h => h) (Yields.yieldsIf (Or.inl ⟨by kernel_rfl, fun _ => by go_simp⟩)) hr ?_
        refine wpAnyH_ready (rs := [9]) (by kernel_rfl) (by simp) ?_
        refine AllReadyH.cons rfl (fun K2 hK2 => ?_) AllReadyH.nil
        have g0 := HP.c0
        have g1 := HP.c1
        have g2 := HP.c2
        have g3 := HP.c3
        have t0 := HP.thaw 0
        have t1 := HP.thaw 1
        have t2 := HP.thaw 2
        have t3 := HP.thaw 3
        have z1 : (w3.setCell ⟨P, 0, none⟩ (.int .i64 B)).cell? ⟨P, 1, none⟩ = some (.int .i64 0) := by rw [World.cell?_setCell_other _ _ _ _ (by intro e; cases e)]; exact g1
        have z2 : ((w3.setCell ⟨P, 0, none⟩ (.int .i64 B)).setCell ⟨P, 1, none⟩ (.int .i64 B)).cell? ⟨P, 2, none⟩ = some (.int .i64 0) := by rw [World.cell?_setCell_other _ _ _ _ (by intro e; cases e), World.cell?_setCell_other _ _ _ _ (by intro e; cases e)]; exact g2
        go_simp
        refine hK2.out _ _ hr (fun _ => ?_)
        clear hK2 K2 z1 z2
        refine wpAnyH_done (by kernel_rfl) ?_ _
        exact REST _ _ _ _ _ _ _ _ P G _ HP.put ((((HG.other HPG.symm).other HPG.symm).other HPG.symm).other HPG.symm) (by simpa [World.setCell] using lG) sP sG HPG ((((hb.setCell (p := ⟨P, 0, none⟩) sP _).setCell (p := ⟨P, 1, none⟩) sP _).setCell (p := ⟨P, 2, none⟩) sP _).setCell (p := ⟨P, 3, none⟩) sP _)
    · go_simp
      have bb : Below w1.heap.size w1 (w1.alloc (.cells #[.int .i64 0, .int .i64 0, .int .i64 0, .slice none 0 0] 39)) := (Below.refl _ _).alloc (Nat.le_refl _) _
      have HP : Raw4 (w1.alloc (.cells #[.int .i64 0, .int .i64 0, .int .i64 0, .slice none 0 0] 39)) w1.heap.size := Raw4.made w1 _
      have lP : w1.heap.size < (w1.alloc (.cells #[.int .i64 0, .int .i64 0, .int .i64 0, .slice none 0 0] 39)).heap.size := by simp
      replace hb := hb.trans (bb.mono hz)
      have sP := hz
      replace hz := Nat.le_trans hz bb.size
      refine hK2.out _ _ hr (fun _ => ?_)
      clear hK2 K2 bb
      generalize (w1.alloc (.cells #[.int .i64 0, .int .i64 0, .int .i64 0, .slice none 0 0] 39)) = w2 at *
      generalize w1.heap.size = P at *
      refine wpAnyH_ready (rs := [3, 6]) (by kernel_rfl) (by simp) ?_
      refine AllReadyH.cons rfl (fun K2 hK2 => ?_) (AllReadyH.cons rfl (fun K2 hK2 => ?_) AllReadyH.nil)
      · go_simp
        refine ((HC w2).out).mono ?_
        rintro e w' ⟨rfl, hw⟩
        subst w'
        refine hK2.out _ _ hr (fun _ => ?_)
        clear hK2 K2
        refine wpAnyH_ready (rs := [6]) (by kernel_rfl) (by simp) ?_
        refine AllReadyH.cons rfl (fun K2 hK2 => ?_) AllReadyH.nil
        have hmk := make_nums n w2 hn
        go_simp
        have bb : Below w2.heap.size w2 (w2.alloc (.cells (madeCells #[.int .i64 0] n) 3)) := (Below.refl _ _).alloc (Nat.le_refl _) _
        have HG : IRow (w2.alloc (.cells (madeCells #[.int .i64 0] n) 3)) w2.heap.size n (fun _ => 0) := IRow.made w2 n
        have lG : w2.heap.size < (w2.alloc (.cells (madeCells #[.int .i64 0] n) 3)).heap.size := by simp
        have HPG : P ≠ w2.heap.size := Nat.ne_of_lt lP
        replace HP := HP.grew bb
        replace lP := Nat.lt_of_lt_of_le lP bb.size
        replace hb := hb.trans (bb.mono hz)
        have sG := hz
        replace hz := Nat.le_trans hz bb.size
        clear hmk
        refine hK2.out _ _ hr (fun _ => ?_)
        clear hK2 K2 bb
        generalize (w2.alloc (.cells (madeCells #[.int .i64 0] n) 3)) = w3 at *
        generalize w2.heap.size = G at *
        refine wpAnyH_take (i := 7) (v := .agg #[.int .i64 B, .int .i64 B, .int .i64 0, .slice (some ⟨G, 0, none⟩) n n]) rfl (by kernel_rfl) (by kernel_rfl) (by kernel_rfl) (fun _ _ _ h => h) (Yields.yieldsIf (Or.inl ⟨by kernel_rfl, fun _ => by go_simp⟩)) hr ?_
        refine wpAnyH_ready (rs := [9]) (by kernel_rfl) (by simp) ?_
        refine AllReadyH.cons rfl (fun K2 hK2 => ?_) AllReadyH.nil
        have g0 := HP.c0
        have g1 := HP.c1
        have g2 := HP.c2
        have g3 := HP.c3
        have t0 := HP.thaw 0
        have t1 := HP.thaw 1
        have t2 := HP.thaw 2
        have t3 := HP.thaw 3
        have z1 : (w3.setCell ⟨P, 0, none⟩ (.int .i64 B)).cell? ⟨P, 1, none⟩ = some (.int .i64 0) := by rw [World.cell?_setCell_other _ _ _ _ (by intro e; cases e)]; exact g1
        have z2 : ((w3.setCell ⟨P, 0, none⟩ (.int .i64 B)).setCell ⟨P, 1, none⟩ (.int .i64 B)).cell? ⟨P, 2, none⟩ = some (.int .i64 0) := by rw [World.cell?_setCell_other _ _ _ _ (by intro e; cases e), World.cell?_setCell_other _ _ _ _ (by intro e; cases e)]; exact g2
        go_simp
        refine hK2.out _ _ hr (fun _ => ?_)
        clear hK2 K2 z1 z2
        refine wpAnyH_done (by kernel_rfl) ?_ _
        exact REST _ _ _ _ _ _ _ _ P G _ HP.put ((((HG.other HPG.symm).other HPG.symm).other HPG.symm).other HPG.symm) (by simpa [World.setCell] using lG) sP sG HPG ((((hb.setCell (p := ⟨P, 0, none⟩) sP _).setCell (p := ⟨P, 1, none⟩) sP _).setCell (p := ⟨P, 2, none⟩) sP _).setCell (p := ⟨P, 3, none⟩) sP _)
      · have hmk := make_nums n w2 hn
        go_simp
        have bb : Below w2.heap.size w2 (w2.alloc (.cells (madeCells #[.int .i64 0] n) 3)) := (Below.refl _ _).alloc (Nat.le_refl _) _
        have HG : IRow (w2.alloc (.cells (madeCells #[.int .i64 0] n) 3)) w2.heap.size n (fun _ => 0) := IRow.made w2 n
        have lG : w2.heap.size < (w2.alloc (.cells (madeCells #[.int .i64 0] n) 3)).heap.size := by simp
        have HPG : P ≠ w2.heap.size := Nat.ne_of_lt lP
        replace HP := HP.grew bb
        replace lP := Nat.lt_of_lt_of_le lP bb.size
        replace hb := hb.trans (bb.mono hz)
        have sG := hz
        replace hz := Nat.le_trans hz bb.size
        clear hmk
        refine hK2.out _ _ hr (fun _ => ?_)
        clear hK2 K2 bb
        generalize (w2.alloc (.cells (madeCells #[.int .i64 0] n) 3)) = w3 at *
        generalize w2.heap.size = G at *
        refine wpAnyH_ready (rs := [3]) (by kernel_rfl) (by simp) ?_
        refine AllReadyH.cons rfl (fun K2 hK2 => ?_) AllReadyH.nil
        go_simp
        refine ((HC w3).out).mono ?_
        rintro e w' ⟨rfl, hw⟩
        subst w'
        refine hK2.out _ _ hr (fun _ => ?_)
        clear hK2 K2
        refine wpAnyH_take (i := 7) (v := .agg #[.int .i64 B, .int .i64 B, .int .i64 0, .slice (some ⟨G, 0, none⟩) n n]) rfl (by kernel_rfl) (by kernel_rfl) (by kernel_rfl) (fun _ _ _ h => h) (Yields.yieldsIf (Or.inl ⟨by kernel_rfl, fun _ => by go_simp⟩)) hr ?_
        refine wpAnyH_ready (rs := [9]) (by kernel_rfl) (by simp) ?_
        refine AllReadyH.cons rfl (fun K2 hK2 => ?_) AllReadyH.nil
        have g0 := HP.c0
        have g1 := HP.c1
        have g2 := HP.c2
        have g3 := HP.c3
        have t0 := HP.thaw 0
        have t1 := HP.thaw 1
        have t2 := HP.thaw 2
        have t3 := HP.thaw 3
        have z1 : (w3.setCell ⟨P, 0, none⟩ (.int .i64 B)).cell? ⟨P, 1, none⟩ = some (.int .i64 0) := by rw [World.cell?_setCell_other _ _ _ _ (by intro e; cases e)]; exact g1
        have z2 : ((w3.setCell ⟨P, 0, none⟩ (.int .i64 B)).setCell ⟨P, 1, none⟩ (.int .i64 B)).cell? ⟨P, 2, none⟩ = some (.int .i64 0) := by rw [World.cell?_setCell_other _ _ _ _ (by intro e; cases e), World.cell?_setCell_other _ _ _ _ (by intro e; cases e)]; exact g2
        go_simp
        refine hK2.out _ _ hr (fun _ => ?_)
        clear hK2 K2 z1 z2
        refine wpAnyH_done (by kernel_rfl) ?_ _
        exact REST _ _ _ _ _ _ _ _ P G _ HP.put ((((HG.other HPG.symm).other HPG.symm).other HPG.symm).other HPG.symm) (by simpa [World.setCell] using lG) sP sG HPG ((((hb.setCell (p := ⟨P, 0, none⟩) sP _).setCell (p := ⟨P, 1, none⟩) sP _).setCell (p := ⟨P, 2, none⟩) sP _).setCell (p := ⟨P, 3, none⟩) sP _)
  · have hmk := make_nums n w1 hn
    go_simp
    have bb : Below w1.heap.size w1 (w1.alloc (.cells (madeCells #[.int .i64 0] n) 3)) := (Below.refl _ _).alloc (Nat.le_refl _) _
    have HG : IRow (w1.alloc (.cells (madeCells #[.int .i64 0] n) 3)) w1.heap.size n (fun _ => 0) := IRow.made w1 n
    have lG : w1.heap.size < (w1.alloc (.cells (madeCells #[.int .i64 0] n) 3)).heap.size := by simp
    replace hb := hb.trans (bb.mono hz)
    have sG := hz
    replace hz := Nat.le_trans hz bb.size
    clear hmk
    refine hK2.out _ _ hr (fun _ => ?_)
    clear hK2 K2 bb
    generalize (w1.alloc (.cells (madeCells #[.int .i64 0] n) 3)) = w2 at *
    generalize w1.heap.size = G at *
    refine wpAnyH_ready (rs := [1, 8]) (by kernel_rfl) (by simp) ?_
    refine AllReadyH.cons rfl (fun K2 hK2 => ?_) (AllReadyH.cons rfl (fun K2 hK2 => ?_) AllReadyH.nil)
    · go_simp
      refine ((HC w2).out).mono ?_
      rintro e w' ⟨rfl, hw⟩
      subst w'
      refine hK2.out _ _ hr (fun _ => ?_)
      clear hK2 K2
      refine wpAnyH_ready (rs := [3, 8]) (by kernel_rfl) (by simp) ?_
      refine AllReadyH.cons rfl (fun K2 hK2 => ?_) (AllReadyH.cons rfl (fun K2 hK2 => ?_) AllReadyH.nil)
      · go_simp
        refine ((HC w2).out).mono ?_
        rintro e w' ⟨rfl, hw⟩
        subst w'
        refine hK2.out _ _ hr (fun _ => ?_)
        clear hK2 K2
        refine wpAnyH_take (i := 7) (v := .agg #[.int .i64 B, .int .i64 B, .int .i64 0, .slice (some ⟨G, 0, none⟩) n n]) rfl (by kernel_rfl) (by kernel_rfl) (by kernel_rfl) (fun _ _ _ h => h) (Yields.yieldsIf (Or.inl ⟨by kernel_rfl, fun _ => by go_simp⟩)) hr ?_
        refine wpAnyH_ready (rs := [8]) (by kernel_rfl) (by simp) ?_
        refine AllReadyH.cons rfl (fun K2 hK2 => ?_) AllReadyH.nil
        go_simp
        have bb : Below w2.heap.size w2 (w2.alloc (.cells #[.int .i64 0, .int .i64 0, .int .i64 0, .slice none 0 0] 39)) := (Below.refl _ _).alloc (Nat.le_refl _) _
        have HP : Raw4 (w2.alloc (.cells #[.int .i64 0, .int .i64 0, .int .i64 0, .slice none 0 0] 39)) w2.heap.size := Raw4.made w2 _
        have lP : w2.heap.size < (w2.alloc (.cells #[.int .i64 0, .int .i64 0, .int .i64 0, .slice none 0 0] 39)).heap.size := by simp
        have HPG : w2.heap.size ≠ G := Nat.ne_of_gt lG
        replace HG := HG.grew bb lG
        replace lG := Nat.lt_of_lt_of_le lG bb.size
        replace hb := hb.trans (bb.mono hz)
        have sP := hz
        replace hz := Nat.le_trans hz bb.size
        refine hK2.out _ _ hr (fun _ => ?_)
        clear hK2 K2 bb
        generalize (w2.alloc (.cells #[.int .i64 0, .int .i64 0, .int .i64 0, .slice none 0 0] 39)) = w3 at *
        generalize w2.heap.size = P at *
        refine wpAnyH_ready (rs := [9]) (by kernel_rfl) (by simp) ?_
        refine AllReadyH.cons rfl (fun K2 hK2 => ?_) AllReadyH.nil
        have g0 := HP.c0
        have g1 := HP.c1
        have g2 := HP.c2
        have g3 := HP.c3
        have t0 := HP.thaw 0
        have t1 := HP.thaw 1
        have t2 := HP.thaw 2
        have t3 := HP.thaw 3
        have z1 : (w3.setCell ⟨P, 0, none⟩ (.int .i64 B)).cell? ⟨P, 1, none⟩ = some (.int .i64 0) := by rw [World.cell?_setCell_other _ _ _ _ (by intro e; cases e)]; exact g1
        have z2 : ((w3.setCell ⟨P, 0, none⟩ (.int .i64 B)).setCell ⟨P, 1, none⟩ (.int .i64 B)).cell? ⟨P, 2, none⟩ = some (.int .i64 0) := by rw [World.cell?_setCell_other _ _ _ _ (by intro e; cases e), World.cell?_setCell_other _ _ _ _ (by intro e; cases e)]; exact g2
        go_simp
        refine hK2.out _ _ hr (fun _ => ?_)
        clear hK2 K2 z1 z2
        refine wpAnyH_done (by kernel_rfl) ?_ _
        exact REST _ _ _ _ _ _ _ _ P G _ HP.put ((((HG.other HPG.symm).other HPG.symm).other HPG.symm).other HPG.symm) (by simpa [World.setCell] using lG) sP sG HPG ((((hb.setCell (p := ⟨P, 0, none⟩) sP _).setCell (p := ⟨P, 1, none⟩) sP _).setCell (p := ⟨P, 2, none⟩) sP _).setCell (p := ⟨P, 3, none⟩) sP _)
      · go_simp
        have bb : Below w2.heap.size w2 (w2.alloc (.cells #[.int .i64 0, .int .i64 0, .int .i64 0, .slice none 0 0] 39)) := (Below.refl _ _).alloc (Nat.le_refl _) _
        have HP : Raw4 (w2.alloc (.cells #[.int .i64 0, .int .i64 0, .int .i64 0, .slice none 0 0] 39)) w2.heap.size := Raw4.made w2 _
        have lP : w2.heap.size < (w2.alloc (.cells #[.int .i64 0, .int .i64 0, .int .i64 0, .slice none 0 0] 39)).heap.size := by simp
        have HPG : w2.heap.size ≠ G := Nat.ne_of_gt lG
        replace HG := HG.grew bb lG
        replace lG := Nat.lt_of_lt_of_le lG bb.size
        replace hb := hb.trans (bb.mono hz)
        have sP := hz
        replace hz := Nat.le_trans hz bb.size
        refine hK2.out _ _ hr (fun _ => ?_)
        clear hK2 K2 bb
        generalize (w2.alloc (.cells #[.int .i64 0, .int .i64 0, .int .i64 0, .slice none 0 0] 39)) = w3 at *
        generalize w2.heap.size = P at *
        refine wpAnyH_ready (rs := [3]) (by kernel_rfl) (by simp) ?_
        refine AllReadyH.cons rfl (fun K2 hK2 => ?_) AllReadyH.nil
        go_simp
        refine ((HC w3).out).mono ?_
        rintro e w' ⟨rfl, hw⟩
        subst w'
        refine hK2.out _ _ hr (fun _ => ?_)
        clear hK2 K2
        refine wpAnyH_take (i := 7) (v := .agg #[.int .i64 B, .int .i64 B, .int .i64 0, .slice (some ⟨G, 0, none⟩) n n]) rfl (by kernel_rfl) (by kernel_rfl) (by kernel_rfl) (fun _ _ _ h => h) (Yields.yieldsIf (Or.inl ⟨by kernel_rfl, fun _ => by go_simp⟩)) hr ?_
        refine wpAnyH_ready (rs := [9]) (by kernel_rfl) (by simp) ?_
        refine AllReadyH.cons rfl (fun K2 hK2 => ?_) AllReadyH.nil
        have g0 := HP.c0
        have g1 := HP.c1
        have g2 := HP.c2
        have g3 := HP.c3
        have t0 := HP.thaw 0
        have t1 := HP.thaw 1
        have t2 := HP.thaw 2
        have t3 := HP.thaw 3
        have z1 : (w3.setCell ⟨P, 0, none⟩ (.int .i64 B)).cell? ⟨P, 1, none⟩ = some (.int .i64 0) := by rw [World.cell?_setCell_other _ _ _ _ (by intro e; cases e)]; exact g1
        have z2 : ((w3.setCell ⟨P, 0, none⟩ (.int .i64 B)).setCell ⟨P, 1, none⟩ (.int .i64 B)).cell? ⟨P, 2, none⟩ = some (.int .i64 0) := by rw [World.cell?_setCell_other _ _ _ _ (by intro e; cases e), World.cell?_setCell_other _ _ _ _ (by intro e; cases e)]; exact g2
        go_simp
        refine hK2.out _ _ hr (fun _ => ?_)
        clear hK2 K2 z1 z2
        refine wpAnyH_done (by kernel_rfl) ?_ _
        exact REST _ _ _ _ _ _ _ _ P G _ HP.put ((((HG.other HPG.symm).other HPG.symm).other HPG.symm).other HPG.symm) (by simpa [World.setCell] using lG) sP sG HPG ((((hb.setCell (p := ⟨P, 0, none⟩) sP _).setCell (p := ⟨P, 1, none⟩) sP _).setCell (p := ⟨P, 2, none⟩) sP _).setCell (p := ⟨P, 3, none⟩) sP _)
    · go_simp
      have bb : Below w2.heap.size w2 (w2.alloc (.cells #[.int .i64 0, .int .i64 0, .int .i64 0, .slice none 0 0] 39)) := (Below.refl _ _).alloc (Nat.le_refl _) _
      have HP : Raw4 (w2.alloc (.cells #[.int .i64 0, .int .i64 0, .int .i64 0, .slice none 0 0] 39)) w2.heap.size := Raw4.made w2 _
      have lP : w2.heap.size < (w2.alloc (.cells #[.int .i64 0, .int .i64 0, .int .i64 0, .slice none 0 0] 39)).heap.size := by simp
      have HPG : w2.heap.size ≠ G := Nat.ne_of_gt lG
      replace HG := HG.grew bb lG
      replace lG := Nat.lt_of_lt_of_le lG bb.size
      replace hb := hb.trans (bb.mono hz)
      have sP := hz
      replace hz := Nat.le_trans hz bb.size
      refine hK2.out _ _ hr (fun _ => ?_)
      clear hK2 K2 bb
      generalize (w2.alloc (.cells #[.int .i64 0, .int .i64 0, .int .i64 0, .slice none 0 0] 39)) = w3 at *
      generalize w2.heap.size = P at *
      refine wpAnyH_ready (rs := [1]) (by kernel_rfl) (by simp) ?_
      refine AllReadyH.cons rfl (fun K2 hK2 => ?_) AllReadyH.nil
      go_simp
      refine ((HC w3).out).mono ?_
      rintro e w' ⟨rfl, hw⟩
      subst w'
      refine hK2.out _ _ hr (fun _ => ?_)
      clear hK2 K2
      refine wpAnyH_ready (rs := [3]) (by kernel_rfl) (by simp) ?_
      refine AllReadyH.cons rfl (fun K2 hK2 => ?_) AllReadyH.nil
      go_simp
      refine ((HC w3).out).mono ?_
      rintro e w' ⟨rfl, hw⟩
      subst w'
      refine hK2.out _ _ hr (fun _ => ?_)
      clear hK2 K2
      refine wpAnyH_take (i := 7) (v := .agg #[.int .i64 B, .int .i64 B, .int .i64 0, .slice (some ⟨G, 0, none⟩) n n]) rfl (by kernel_rfl) (by kernel_rfl) (by kernel_rfl) (fun _ _ _ h => h) (Yields.yieldsIf (Or.inl ⟨by kernel_rfl, fun _ => by go_simp⟩)) hr ?_
      refine wpAnyH_ready (rs := [9]) (by kernel_rfl) (by simp) ?_
      refine AllReadyH.cons rfl (fun K2 hK2 => ?_) AllReadyH.nil
      have g0 := HP.c0
      have g1 := HP.c1
      have g2 := HP.c2
      have g3 := HP.c3
      have t0 := HP.thaw 0
      have t1 := HP.thaw 1
      have t2 := HP.thaw 2
      have t3 := HP.thaw 3
      have z1 : (w3.setCell ⟨P, 0, none⟩ (.int .i64 B)).cell? ⟨P, 1, none⟩ = some (.int .i64 0) := by rw [World.cell?_setCell_other _ _ _ _ (by intro e; cases e)]; exact g1
      have z2 : ((w3.setCell ⟨P, 0, none⟩ (.int .i64 B)).setCell ⟨P, 1, none⟩ (.int .i64 B)).cell? ⟨P, 2, none⟩ = some (.int .i64 0) := by rw [World.cell?_setCell_other _ _ _ _ (by intro e; cases e), World.cell?_setCell_other _ _ _ _ (by intro e; cases e)]; exact g2
      go_simp
      refine hK2.out _ _ hr (fun _ => ?_)
      clear hK2 K2 z1 z2
      refine wpAnyH_done (by kernel_rfl) ?_ _
      exact REST _ _ _ _ _ _ _ _ P G _ HP.put ((((HG.other HPG.symm).other HPG.symm).other HPG.symm).other HPG.symm) (by simpa [World.setCell] using lG) sP sG HPG ((((hb.setCell (p := ⟨P, 0, none⟩) sP _).setCell (p := ⟨P, 1, none⟩) sP _).setCell (p := ⟨P, 2, none⟩) sP _).setCell (p := ⟨P, 3, none⟩) sP _)
  · go_simp
    have bb : Below w1.heap.size w1 (w1.alloc (.cells #[.int .i64 0, .int .i64 0, .int .i64 0, .slice none 0 0] 39)) := (Below.refl _ _).alloc (Nat.le_refl _) _
    have HP : Raw4 (w1.alloc (.cells #[.int .i64 0, .int .i64 0, .int .i64 0, .slice none 0 0] 39)) w1.heap.size := Raw4.made w1 _
    have lP : w1.heap.size < (w1.alloc (.cells #[.int .i64 0, .int .i64 0, .int .i64 0, .slice none 0 0] 39)).heap.size := by simp
    replace hb := hb.trans (bb.mono hz)
    have sP := hz
    replace hz := Nat.le_trans hz bb.size
    refine hK2.out _ _ hr (fun _ => ?_)
    clear hK2 K2 bb
    generalize (w1.alloc (.cells #[.int .i64 0, .int .i64 0, .int .i64 0, .slice none 0 0] 39)) = w2 at *
    generalize w1.heap.size = P at *
    refine wpAnyH_ready (rs := [1, 6]) (by kernel_rfl) (by simp) ?_
    refine AllReadyH.cons rfl (fun K2 hK2 => ?_) (AllReadyH.cons rfl (fun K2 hK2 => ?_) AllReadyH.nil)
    · go_simp
      refine ((HC w2).out).mono ?_
      rintro e w' ⟨rfl, hw⟩
      subst w'
      refine hK2.out _ _ hr (fun _ => ?_)
      clear hK2 K2
      refine wpAnyH_ready (rs := [3, 6]) (by kernel_rfl) (by simp) ?_
      refine AllReadyH.cons rfl (fun K2 hK2 => ?_) (AllReadyH.cons rfl (fun K2 hK2 => ?_) AllReadyH.nil)
      · go_simp
        refine ((HC w2).out).mono ?_
        rintro e w' ⟨rfl, hw⟩
        subst w'
        refine hK2.out _ _ hr (fun _ => ?_)
        clear hK2 K2
        refine wpAnyH_ready (rs := [6]) (by kernel_rfl) (by simp) ?_
        refine AllReadyH.cons rfl (fun K2 hK2 => ?_) AllReadyH.nil
        have hmk := make_nums n w2 hn
        go_simp
        have bb : Below w2.heap.size w2 (w2.alloc (.cells (madeCells #[.int .i64 0] n) 3)) := (Below.refl _ _).alloc (Nat.le_refl _) _
        have HG : IRow (w2.alloc (.cells (madeCells #[.int .i64 0] n) 3)) w2.heap.size n (fun _ => 0) := IRow.made w2 n
        have lG : w2.heap.size < (w2.alloc (.cells (madeCells #[.int .i64 0] n) 3)).heap.size := by simp
        have HPG : P ≠ w2.heap.size := Nat.ne_of_lt lP
        replace HP := HP.grew bb
        replace lP := Nat.lt_of_lt_of_le lP bb.size
        replace hb := hb.trans (bb.mono hz)
        have sG := hz
        replace hz := Nat.le_trans hz bb.size
        clear hmk
        refine hK2.out _ _ hr (fun _ => ?_)
        clear hK2 K2 bb
        generalize (w2.alloc (.cells (madeCells #[.int .i64 0] n) 3)) = w3 at *
        generalize w2.heap.size = G at *
        refine wpAnyH_take (i := 7) (v := .agg #[.int .i64 B, .int .i64 B, .int .i64 0, .slice (some ⟨G, 0, none⟩) n n]) rfl (by kernel_rfl) (by kernel_rfl) (by kernel_rfl) (fun _ _ _ h => h) (Yields.yieldsIf (Or.inl ⟨by kernel_rfl, fun _ => by go_simp⟩)) hr ?_
        refine wpAnyH_ready (rs := [9]) (by kernel_rfl) (by simp) ?_
        refine AllReadyH.cons rfl (fun K2 hK2 => ?_) AllReadyH.nil
        have g0 := HP.c0
        have g1 := HP.c1
        have g2 := HP.c2
        have g3 := HP.c3
        have t0 := HP.thaw 0
        have t1 := HP.thaw 1
        have t2 := HP.thaw 2
        have t3 := HP.thaw 3
        have z1 : (w3.setCell ⟨P, 0, none⟩ (.int .i64 B)).cell? ⟨P, 1, none⟩ = some (.int .i64 0) := by rw [World.cell?_setCell_other _ _ _ _ (by intro e; cases e)]; exact g1
        have z2 : ((w3.setCell ⟨P, 0, none⟩ (.int .i64 B)).setCell ⟨P, 1, none⟩ (.int .i64 B)).cell? ⟨P, 2, none⟩ = some (.int .i64 0) := by rw [World.cell?_setCell_other _ _ _ _ (by intro e; cases e), World.cell?_setCell_other _ _ _ _ (by intro e; cases e)]; exact g2
        go_simp
        refine hK2.out _ _ hr (fun _ => ?_)
        clear hK2 K2 z1 z2
        refine wpAnyH_done (by kernel_rfl) ?_ _
        exact REST _ _ _ _ _ _ _ _ P G _ HP.put ((((HG.other HPG.symm).other HPG.symm).other HPG.symm).other HPG.symm) (by simpa [World.setCell] using lG) sP sG HPG ((((hb.setCell (p := ⟨P, 0, none⟩) sP _).setCell (p := ⟨P, 1, none⟩) sP _).setCell (p := ⟨P, 2, none⟩) sP _).setCell (p := ⟨P, 3, none⟩) sP _)
      · have hmk := make_nums n w2 hn
        go_simp
        have bb : Below w2.heap.size w2 (w2.alloc (.cells (madeCells #[.int .i64 0] n) 3)) := (Below.refl _ _).alloc (Nat.le_refl _) _
        have HG : IRow (w2.alloc (.cells (madeCells #[.int .i64 0] n) 3)) w2.heap.size n (fun _ => 0) := IRow.made w2 n
        have lG : w2.heap.size < (w2.alloc (.cells (madeCells #[.int .i64 0] n) 3)).heap.size := by simp
        have HPG : P ≠ w2.heap.size := Nat.ne_of_lt lP
        replace HP := HP.grew bb
        replace lP := Nat.lt_of_lt_of_le lP bb.size
        replace hb := hb.trans (bb.mono hz)
        have sG := hz
        replace hz := Nat.le_trans hz bb.size
        clear hmk
        refine hK2.out _ _ hr (fun _ => ?_)
        clear hK2 K2 bb
        generalize (w2.alloc (.cells (madeCells #[.int .i64 0] n) 3)) = w3 at *
        generalize w2.heap.size = G at *
        refine wpAnyH_ready (rs := [3]) (by kernel_rfl) (by simp) ?_
        refine AllReadyH.cons rfl (fun K2 hK2 => ?_) AllReadyH.nil
        go_simp
        refine ((HC w3).out).mono ?_
        rintro e w' ⟨rfl, hw⟩
        subst w'
        refine hK2.out _ _ hr (fun _ => ?_)
        clear hK2 K2
        refine wpAnyH_take (i := 7) (v := .agg #[.int .i64 B, .int .i64 B, .int .i64 0, .slice (some ⟨G, 0, none⟩) n n]) rfl (by kernel_rfl) (by kernel_rfl) (by kernel_rfl) (fun _ _ _ h => h) (Yields.yieldsIf (Or.inl ⟨by kernel_rfl, fun _ => by go_simp⟩)) hr ?_
        refine wpAnyH_ready (rs := [9]) (by kernel_rfl) (by simp) ?_
        refine AllReadyH.cons rfl (fun K2 hK2 => ?_) AllReadyH.nil
        have g0 := HP.c0
        have g1 := HP.c1
        have g2 := HP.c2
        have g3 := HP.c3
        have t0 := HP.thaw 0
        have t1 := HP.thaw 1
        have t2 := HP.thaw 2
        have t3 := HP.thaw 3
        have z1 : (w3.setCell ⟨P, 0, none⟩ (.int .i64 B)).cell? ⟨P, 1, none⟩ = some (.int .i64 0) := by rw [World.cell?_setCell_other _ _ _ _ (by intro e; cases e)]; exact g1
        have z2 : ((w3.setCell ⟨P, 0, none⟩ (.int .i64 B)).setCell ⟨P, 1, none⟩ (.int .i64 B)).cell? ⟨P, 2, none⟩ = some (.int .i64 0) := by rw [World.cell?_setCell_other _ _ _ _ (by intro e; cases e), World.cell?_setCell_other _ _ _ _ (by intro e; cases e)]; exact g2
        go_simp
        refine hK2.out _ _ hr (fun _ => ?_)
        clear hK2 K2 z1 z2
        refine wpAnyH_done (by kernel_rfl) ?_ _
        exact REST _ _ _ _ _ _ _ _ P G _ HP.put ((((HG.other HPG.symm).other HPG.symm).other HPG.symm).other HPG.symm) (by simpa [World.setCell] using lG) sP sG HPG ((((hb.setCell (p := ⟨P, 0, none⟩) sP _).setCell (p := ⟨P, 1, none⟩) sP _).setCell (p := ⟨P, 2, none⟩) sP _).setCell (p := ⟨P, 3, none⟩) sP _)
    · have hmk := make_nums n w2 hn
      go_simp
      have bb : Below w2.heap.size w2 (w2.alloc (.cells (madeCells #[.int .i64 0] n) 3)) := (Below.refl _ _).alloc (Nat.le_refl _) _
      have HG : IRow (w2.alloc (.cells (madeCells #[.int .i64 0] n) 3)) w2.heap.size n (fun _ => 0) := IRow.made w2 n
      have lG : w2.heap.size < (w2.alloc (.cells (madeCells #[.int .i64 0] n) 3)).heap.size := by simp
      have HPG : P ≠ w2.heap.size := Nat.ne_of_lt lP
      replace HP := HP.grew bb
      replace lP := Nat.lt_of_lt_of_le lP bb.size
      replace hb := hb.trans (bb.mono hz)
      have sG := hz
      replace hz := Nat.le_trans hz bb.size
      clear hmk
      refine hK2.out _ _ hr (fun _ => ?_)
      clear hK2 K2 bb
      generalize (w2.alloc (.cells (madeCells #[.int .i64 0] n) 3)) = w3 at *
      generalize w2.heap.size = G at *
      refine wpAnyH_ready (rs := [1]) (by kernel_rfl) (by simp) ?_
      refine AllReadyH.cons rfl (fun K2 hK2 => ?_) AllReadyH.nil
      go_simp
      refine ((HC w3).out).mono ?_
      rintro e w' ⟨rfl, hw⟩
      subst w'
      refine hK2.out _ _ hr (fun _ => ?_)
      clear hK2 K2
      refine wpAnyH_ready (rs := [3]) (by kernel_rfl) (by simp) ?_
      refine AllReadyH.cons rfl (fun K2 hK2 => ?_) AllReadyH.nil
      go_simp
      refine ((HC w3).out).mono ?_
      rintro e w' ⟨rfl, hw⟩
      subst w'
      refine hK2.out _ _ hr (fun _ => ?_)
      clear hK2 K2
      refine wpAnyH_take (i := 7) (v := .agg #[.int .i64 B, .int .i64 B, .int .i64 0, .slice (some ⟨G, 0, none⟩) n n]) rfl (by kernel_rfl) (by kernel_rfl) (by kernel_rfl) (fun _ _ _ h => h) (Yields.yieldsIf (Or.inl ⟨by kernel_rfl, fun _ => by go_simp⟩)) hr ?_
      refine wpAnyH_ready (rs := [9]) (by kernel_rfl) (by simp) ?_
      refine AllReadyH.cons rfl (fun K2 hK2 => ?_) AllReadyH.nil
      have g0 := HP.c0
      have g1 := HP.c1
      have g2 := HP.c2
      have g3 := HP.c3
      have t0 := HP.thaw 0
      have t1 := HP.thaw 1
      have t2 := HP.thaw 2
      have t3 := HP.thaw 3
      have z1 : (w3.setCell ⟨P, 0, none⟩ (.int .i64 B)).cell? ⟨P, 1, none⟩ = some (.int .i64 0) := by rw [World.cell?_setCell_other _ _ _ _ (by intro e; cases e)]; exact g1
      have z2 : ((w3.setCell ⟨P, 0, none⟩ (.int .i64 B)).setCell ⟨P, 1, none⟩ (.int .i64 B)).cell? ⟨P, 2, none⟩ = some (.int .i64 0) := by rw [World.cell?_setCell_other _ _ _ _ (by intro e; cases e), World.cell?_setCell_other _ _ _ _ (by intro e; cases e)]; exact g2
      go_simp
      refine hK2.out _ _ hr (fun _ => ?_)
      clear hK2 K2 z1 z2
      refine wpAnyH_done (by kernel_rfl) ?_ _
      exact REST _ _ _ _ _ _ _ _ P G _ HP.put ((((HG.other HPG.symm).other HPG.symm).other HPG.symm).other HPG.symm) (by simpa [World.setCell] using lG) sP sG HPG ((((hb.setCell (p := ⟨P, 0, none⟩) sP _).setCell (p := ⟨P, 1, none⟩) sP _).setCell (p := ⟨P, 2, none⟩) sP _).setCell (p := ⟨P, 3, none⟩) sP _)
end Go.Proofs.YtijjhjlopfbeiaaDoor
