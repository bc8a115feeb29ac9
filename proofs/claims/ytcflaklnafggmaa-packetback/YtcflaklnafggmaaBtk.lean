/-
  Package back: TakeReport, TakeNack, TakeGone.
-/
import Derived.Test.YtcflaklnafggmaaBpu
import Derived.Deep.RegionWith
namespace Go.Proofs.Ytcflaklnafggmaa
open Go.RowKit Go.Deep

/-- The variables of TakeReport, from B on; the last is the reader: what is left. -/
structure Kr (w : World) (B t l g u j : Nat) (a : Option Addr) (L c : Nat) : Prop where
  rep : RepAt w B t l g u j
  er : w.cell? ⟨B + 1, 0, none⟩ = some (.int .i64 0)
  erT : w.frozen? ⟨B + 1, 0, none⟩ = false
  rd : w.cell? ⟨B + 1 + 1, 0, none⟩ = some (.slice a L c)
  rdT : w.frozen? ⟨B + 1 + 1, 0, none⟩ = false
theorem Kr.next {w : World} {B t l g u j : Nat} {a : Option Addr} {L c : Nat} (h : Kr w B t l g u j a L c) (a' : Option Addr) (L' c' : Nat) : Kr (w.setCell ⟨B + 1 + 1, 0, none⟩ (.slice a' L' c')) B t l g u j a' L' c' :=
  ⟨h.rep.other _ (by omega), (World.cell?_setCell_other _ _ _ _ (blk_ne (by omega))).trans h.er, by rw [World.frozen?_setCell]; exact h.erT, World.cell?_setCell_same _ _ _ h.rd, by rw [World.frozen?_setCell]; exact h.rdT⟩
theorem Kr.part0 {w : World} {B t l g u j : Nat} {a : Option Addr} {L c : Nat} (h : Kr w B t l g u j a L c) (t' : Nat) : Kr (w.setCell ⟨B, 0, none⟩ (.int .u64 (t' : Int))) B t' l g u j a L c :=
  ⟨h.rep.top t', (World.cell?_setCell_other _ _ _ _ (blk_ne (by omega))).trans h.er, by rw [World.frozen?_setCell]; exact h.erT, (World.cell?_setCell_other _ _ _ _ (blk_ne (by omega))).trans h.rd, by rw [World.frozen?_setCell]; exact h.rdT⟩
theorem Kr.part1 {w : World} {B t l g u j : Nat} {a : Option Addr} {L c : Nat} (h : Kr w B t l g u j a L c) (l' : Nat) : Kr (w.setCell ⟨B, 1, none⟩ (.int .u32 (l' : Int))) B t l' g u j a L c :=
  ⟨h.rep.lost l', (World.cell?_setCell_other _ _ _ _ (blk_ne (by omega))).trans h.er, by rw [World.frozen?_setCell]; exact h.erT, (World.cell?_setCell_other _ _ _ _ (blk_ne (by omega))).trans h.rd, by rw [World.frozen?_setCell]; exact h.rdT⟩
theorem Kr.part2 {w : World} {B t l g u j : Nat} {a : Option Addr} {L c : Nat} (h : Kr w B t l g u j a L c) (g' : Nat) : Kr (w.setCell ⟨B, 2, none⟩ (.int .u32 (g' : Int))) B t l g' u j a L c :=
  ⟨h.rep.got g', (World.cell?_setCell_other _ _ _ _ (blk_ne (by omega))).trans h.er, by rw [World.frozen?_setCell]; exact h.erT, (World.cell?_setCell_other _ _ _ _ (blk_ne (by omega))).trans h.rd, by rw [World.frozen?_setCell]; exact h.rdT⟩
theorem Kr.part3 {w : World} {B t l g u j : Nat} {a : Option Addr} {L c : Nat} (h : Kr w B t l g u j a L c) (u' : Nat) : Kr (w.setCell ⟨B, 3, none⟩ (.int .u16 (u' : Int))) B t l g u' j a L c :=
  ⟨h.rep.burst u', (World.cell?_setCell_other _ _ _ _ (blk_ne (by omega))).trans h.er, by rw [World.frozen?_setCell]; exact h.erT, (World.cell?_setCell_other _ _ _ _ (blk_ne (by omega))).trans h.rd, by rw [World.frozen?_setCell]; exact h.rdT⟩
theorem Kr.part4 {w : World} {B t l g u j : Nat} {a : Option Addr} {L c : Nat} (h : Kr w B t l g u j a L c) (j' : Nat) : Kr (w.setCell ⟨B, 4, none⟩ (.int .u16 (j' : Int))) B t l g u j' a L c :=
  ⟨h.rep.jitter j', (World.cell?_setCell_other _ _ _ _ (blk_ne (by omega))).trans h.er, by rw [World.frozen?_setCell]; exact h.erT, (World.cell?_setCell_other _ _ _ _ (blk_ne (by omega))).trans h.rd, by rw [World.frozen?_setCell]; exact h.rdT⟩
theorem Kr.made (w : World) (T0 U V : TypeId) (a : Option Addr) (L c : Nat) :
    Kr (((w.alloc (.cells #[.int .u64 0, .int .u32 0, .int .u32 0, .int .u16 0, .int .u16 0] T0)).alloc (.cells #[.int .i64 0] U)).alloc (.cells #[.slice a L c] V)) w.heap.size 0 0 0 0 0 a L c := by
  have b0 : Below w.heap.size w (w.alloc (.cells #[.int .u64 0, .int .u32 0, .int .u32 0, .int .u16 0, .int .u16 0] T0)) := (Below.refl _ _).alloc (Nat.le_refl _) _
  have b1 : Below (w.alloc (.cells #[.int .u64 0, .int .u32 0, .int .u32 0, .int .u16 0, .int .u16 0] T0)).heap.size (w.alloc (.cells #[.int .u64 0, .int .u32 0, .int .u32 0, .int .u16 0, .int .u16 0] T0)) ((w.alloc (.cells #[.int .u64 0, .int .u32 0, .int .u32 0, .int .u16 0, .int .u16 0] T0)).alloc (.cells #[.int .i64 0] U)) := (Below.refl _ _).alloc (Nat.le_refl _) _
  have b2 : Below ((w.alloc (.cells #[.int .u64 0, .int .u32 0, .int .u32 0, .int .u16 0, .int .u16 0] T0)).alloc (.cells #[.int .i64 0] U)).heap.size ((w.alloc (.cells #[.int .u64 0, .int .u32 0, .int .u32 0, .int .u16 0, .int .u16 0] T0)).alloc (.cells #[.int .i64 0] U)) (((w.alloc (.cells #[.int .u64 0, .int .u32 0, .int .u32 0, .int .u16 0, .int .u16 0] T0)).alloc (.cells #[.int .i64 0] U)).alloc (.cells #[.slice a L c] V)) := (Below.refl _ _).alloc (Nat.le_refl _) _
  have e1 : ((w.alloc (.cells #[.int .u64 0, .int .u32 0, .int .u32 0, .int .u16 0, .int .u16 0] T0)).alloc (.cells #[.int .i64 0] U)).cell? ⟨w.heap.size + 1, 0, none⟩ = some (.int .i64 0) := by rw [World.cell?_alloc_at _ _ _ _ (by simp)]; rfl
  have f1 : ((w.alloc (.cells #[.int .u64 0, .int .u32 0, .int .u32 0, .int .u16 0, .int .u16 0] T0)).alloc (.cells #[.int .i64 0] U)).frozen? ⟨w.heap.size + 1, 0, none⟩ = false := by rw [World.frozen?_alloc_at _ _ _ _ (by simp)]
  have l1 : w.heap.size + 1 < ((w.alloc (.cells #[.int .u64 0, .int .u32 0, .int .u32 0, .int .u16 0, .int .u16 0] T0)).alloc (.cells #[.int .i64 0] U)).heap.size := cell_lt e1
  have e1 := (b2.cell (p := ⟨w.heap.size + 1, 0, none⟩) l1).trans e1
  have f1 := (World.frozen?_of_block (a := ⟨w.heap.size + 1, 0, none⟩) (b2.block _ l1)).trans f1
  have e2 : (((w.alloc (.cells #[.int .u64 0, .int .u32 0, .int .u32 0, .int .u16 0, .int .u16 0] T0)).alloc (.cells #[.int .i64 0] U)).alloc (.cells #[.slice a L c] V)).cell? ⟨w.heap.size + 1 + 1, 0, none⟩ = some (.slice a L c) := by rw [World.cell?_alloc_at _ _ _ _ (by simp)]; rfl
  have f2 : (((w.alloc (.cells #[.int .u64 0, .int .u32 0, .int .u32 0, .int .u16 0, .int .u16 0] T0)).alloc (.cells #[.int .i64 0] U)).alloc (.cells #[.slice a L c] V)).frozen? ⟨w.heap.size + 1 + 1, 0, none⟩ = false := by rw [World.frozen?_alloc_at _ _ _ _ (by simp)]
  exact ⟨((RepAt.made w T0 0 0 0 0 0).grew b1).grew b2, e1, f1, e2, f2⟩

theorem kidler (p0 p1 : Addr) (w : World) :
    CallsD Try.prog 61 #[.pointer (some p0), .pointer (some p1)] .returning w fun e u' w' => e = .returned (.tuple #[]) ∧ u' = .returning ∧ w' = w := by
  refine callsD_of_wpS Try.func61 rfl fun c₀ cs hu => ?_
  apply wpS_seq
  apply wpS_region
  simp [wpOpsS, go_sem, recoverD, hu, Try.ntmps61, Exit.thenS]
  refine wpS_cond (t := false) (by simp [Act.eval, Array.replicate]) ?_
  simp only [Bool.false_eq_true, if_false]
  refine wpS_of_wp (wp_skip ?_)
  cases c₀
  simp_all [bodyPostS, results, Try.results61]

theorem kcatchr (B t l g u j : Nat) (a : Option Addr) (L c : Nat) (older : List PanicEntry) (w : World) (h : Kr w B t l g u j a L c) :
    CallsD Try.prog 61 #[.pointer (some ⟨B, 0, none⟩), .pointer (some ⟨B + 1, 0, none⟩)] (.panicking ({ v := .iface 97 (.agg #[]), recovered := false } :: older)) w fun e u' w' =>
      e = .returned (.tuple #[]) ∧ u' = .panicking ({ v := .iface 97 (.agg #[]), recovered := true } :: older) ∧ (w'.cell? ⟨B, 0, none⟩ = some (.int .u64 0) ∧ w'.cell? ⟨B, 1, none⟩ = some (.int .u32 0) ∧ w'.cell? ⟨B, 2, none⟩ = some (.int .u32 0) ∧ w'.cell? ⟨B, 3, none⟩ = some (.int .u16 0) ∧ w'.cell? ⟨B, 4, none⟩ = some (.int .u16 0) ∧ w'.cell? ⟨B + 1, 0, none⟩ = some (.int .i64 2)) ∧ Below B w w' := by
  have q0 := h.rep.c0
  have z0 := h.rep.frz 0
  have q1 := h.rep.c1
  have z1 := h.rep.frz 1
  have q2 := h.rep.c2
  have z2 := h.rep.frz 2
  have q3 := h.rep.c3
  have z3 := h.rep.frz 3
  have q4 := h.rep.c4
  have z4 := h.rep.frz 4
  have qe := h.er
  have ze := h.erT
  refine callsD_of_wpS Try.func61 rfl fun c₀ cs hu => ?_
  apply wpS_seq
  apply wpS_region
  simp [wpOpsS, go_sem, recoverD, hu, Try.ntmps61, Exit.thenS]
  refine wpS_cond (t := true) (by simp [Act.eval, Array.replicate]) ?_
  simp only [if_true]
  apply wpS_region
  simp [wpOpsS, go_sem, q0, z0, q1, z1, q2, z2, q3, z3, q4, z4, qe, ze, bodyPostS, results, Try.results61]
  exact ((((((Below.refl B w).setCell (p := ⟨B, 0, none⟩) (show B ≤ B by omega) _).setCell (p := ⟨B, 1, none⟩) (show B ≤ B by omega) _).setCell (p := ⟨B, 2, none⟩) (show B ≤ B by omega) _).setCell (p := ⟨B, 3, none⟩) (show B ≤ B by omega) _).setCell (p := ⟨B, 4, none⟩) (show B ≤ B by omega) _).setCell (p := ⟨B + 1, 0, none⟩) (show B ≤ B + 1 by omega) _

set_option maxRecDepth 100000 in
set_option maxHeartbeats 1000000 in
theorem ktaker_any (a : Option Addr) (L c : Nat) (x : Nat → Nat) (w : World) (hx : BytesAt w a L x) (hc : L ≤ c) :
    Calls Try.prog 49 #[.slice a L c] w fun e w' => RepTake w L x e w' := by
  have hmf : ∀ (fn : Fn) (first cap : Array Value) (w : World), (Instr.makeFunc fn first cap).run Try.prog w = .ok (.func fn first cap) w := fun _ _ _ _ => rfl
  have K1 : Hid (Kr (((w.alloc (.cells #[.int .u64 0, .int .u32 0, .int .u32 0, .int .u16 0, .int .u16 0] 29)).alloc (.cells #[.int .i64 0] 34)).alloc (.cells #[.slice a L c] 89)) w.heap.size 0 0 0 0 0 a L c) := Kr.made w _ _ _ a L c
  have b1 : Hid (Below w.heap.size w (((w.alloc (.cells #[.int .u64 0, .int .u32 0, .int .u32 0, .int .u16 0, .int .u16 0] 29)).alloc (.cells #[.int .i64 0] 34)).alloc (.cells #[.slice a L c] 89))) := ((((Below.refl _ w).alloc (Nat.le_refl _) _).alloc (by simp) _).alloc (by simp; omega) _)
  have B1 : Hid (BytesAt (((w.alloc (.cells #[.int .u64 0, .int .u32 0, .int .u32 0, .int .u16 0, .int .u16 0] 29)).alloc (.cells #[.int .i64 0] 34)).alloc (.cells #[.slice a L c] 89)) a L x) := hx.grew b1.out
  clear hx
  go_enter_defers Try.func49, Try.ntmps49
  go_wp2_with fail
  generalize (((w.alloc (.cells #[.int .u64 0, .int .u32 0, .int .u32 0, .int .u16 0, .int .u16 0] 29)).alloc (.cells #[.int .i64 0] 34)).alloc (.cells #[.slice a L c] 89)) = w1 at *
  by_cases h8 : ¬ 8 ≤ L
  · refine (knumber_no (w.heap.size + 1 + 1) _ (L) (c) 8 _ K1.out.rd (by omega)).mono ?_
    rintro e w' ⟨rfl, rfl⟩
    go_wp2
    refine leaves_cons (f := 61) (args := #[.pointer (some ⟨w.heap.size, 0, none⟩), .pointer (some ⟨w.heap.size + 1, 0, none⟩)]) (by simp) (by simp [go_sem]) ?_
    refine (kcatchr _ _ _ _ _ _ _ _ _ [] _ K1.out).mono ?_
    rintro e u' w'' ⟨rfl, rfl, ⟨q0, q1, q2, q3, q4, qe⟩, d⟩
    have HA : Hid (RepTake w L x (.returned (.tuple #[.agg #[.int .u64 0, .int .u32 0, .int .u32 0, .int .u16 0, .int .u16 0], .int .i64 2])) w'') := RepTake.no (by omega) (b1.out.trans d)
    clear d
    simp [Leaves, settle, results, Try.results49, go_sem, q0, q1, q2, q3, q4, qe]
    exact HA.out
  refine (knumber_yes (w.heap.size + 1 + 1) _ (L) (c) 8 _ _ B1.out (by omega) K1.out.rd K1.out.rdT (by decide) (by decide) (by omega)).mono ?_
  rintro e w' ⟨a2, rfl, rfl, X2⟩
  have E2 : Hid (Kr (w1.setCell ⟨w.heap.size + 1 + 1, 0, none⟩ (.slice a2 (L - 8) (c - 8))) w.heap.size 0 0 0 0 0 a2 (L - 8) (c - 8)) := K1.out.next _ _ _
  have d2 : Hid (Below w.heap.size w (w1.setCell ⟨w.heap.size + 1 + 1, 0, none⟩ (.slice a2 (L - 8) (c - 8)))) := b1.out.setCell (show w.heap.size ≤ w.heap.size + 1 + 1 by omega) _
  have lt : Crc.numTo (x) 8 < 18446744073709551616 := Crc.numTo_lt 8 fun i hi => B1.out.lt i (by omega)
  obtain ⟨t, ht⟩ : ∃ t, t = Crc.numTo (x) 8 := ⟨_, rfl⟩
  rw [← ht] at lt ⊢
  have Ht : Hid (t = Crc.numTo (x) 8) := ht
  clear ht
  generalize w1.setCell ⟨w.heap.size + 1 + 1, 0, none⟩ (.slice a2 (L - 8) (c - 8)) = v2 at *
  have X2 : BytesAt v2 a2 (L - 8) (fun i => x (8 + i)) := X2.congr fun i _ => congrArg x (by omega)
  have q := E2.out.rep.c0
  have z := E2.out.rep.frz 0
  have K2 : Hid (Kr (v2.setCell ⟨w.heap.size, 0, none⟩ (.int .u64 (t : Int))) w.heap.size t 0 0 0 0 a2 (L - 8) (c - 8)) := E2.out.part0 t
  have b2 : Hid (Below w.heap.size w (v2.setCell ⟨w.heap.size, 0, none⟩ (.int .u64 (t : Int)))) := d2.out.setCell (show w.heap.size ≤ w.heap.size by omega) _
  have B2 : Hid (BytesAt (v2.setCell ⟨w.heap.size, 0, none⟩ (.int .u64 (t : Int))) a2 (L - 8) (fun i => x (8 + i))) := X2.setNum q (by decide)
  clear X2 E2 d2 K1 b1 B1
  go_wp2_with fail
  generalize v2.setCell ⟨w.heap.size, 0, none⟩ (.int .u64 (t : Int)) = w2 at *
  clear q z
  by_cases h12 : ¬ 12 ≤ L
  · refine (knumber_no (w.heap.size + 1 + 1) _ (L - 8) (c - 8) 4 _ K2.out.rd (by omega)).mono ?_
    rintro e w' ⟨rfl, rfl⟩
    go_wp2
    refine leaves_cons (f := 61) (args := #[.pointer (some ⟨w.heap.size, 0, none⟩), .pointer (some ⟨w.heap.size + 1, 0, none⟩)]) (by simp) (by simp [go_sem]) ?_
    refine (kcatchr _ _ _ _ _ _ _ _ _ [] _ K2.out).mono ?_
    rintro e u' w'' ⟨rfl, rfl, ⟨q0, q1, q2, q3, q4, qe⟩, d⟩
    have HA : Hid (RepTake w L x (.returned (.tuple #[.agg #[.int .u64 0, .int .u32 0, .int .u32 0, .int .u16 0, .int .u16 0], .int .i64 2])) w'') := RepTake.no (by omega) (b2.out.trans d)
    clear d
    simp [Leaves, settle, results, Try.results49, go_sem, q0, q1, q2, q3, q4, qe]
    exact HA.out
  refine (knumber_yes (w.heap.size + 1 + 1) _ (L - 8) (c - 8) 4 _ _ B2.out (by omega) K2.out.rd K2.out.rdT (by decide) (by decide) (by omega)).mono ?_
  rintro e w' ⟨a3, rfl, rfl, X3⟩
  have E3 : Hid (Kr (w2.setCell ⟨w.heap.size + 1 + 1, 0, none⟩ (.slice a3 (L - 8 - 4) (c - 8 - 4))) w.heap.size t 0 0 0 0 a3 (L - 8 - 4) (c - 8 - 4)) := K2.out.next _ _ _
  have d3 : Hid (Below w.heap.size w (w2.setCell ⟨w.heap.size + 1 + 1, 0, none⟩ (.slice a3 (L - 8 - 4) (c - 8 - 4)))) := b2.out.setCell (show w.heap.size ≤ w.heap.size + 1 + 1 by omega) _
  have ll : Crc.numTo (fun i => x (8 + i)) 4 < 4294967296 := Crc.numTo_lt 4 fun i hi => B2.out.lt i (by omega)
  obtain ⟨l, hl⟩ : ∃ l, l = Crc.numTo (fun i => x (8 + i)) 4 := ⟨_, rfl⟩
  rw [← hl] at ll ⊢
  have Hl : Hid (l = Crc.numTo (fun i => x (8 + i)) 4) := hl
  clear hl
  generalize w2.setCell ⟨w.heap.size + 1 + 1, 0, none⟩ (.slice a3 (L - 8 - 4) (c - 8 - 4)) = v3 at *
  have X3 : BytesAt v3 a3 (L - 8 - 4) (fun i => x (12 + i)) := X3.congr fun i _ => congrArg x (by omega)
  have q := E3.out.rep.c1
  have z := E3.out.rep.frz 1
  have K3 : Hid (Kr (v3.setCell ⟨w.heap.size, 1, none⟩ (.int .u32 (l : Int))) w.heap.size t l 0 0 0 a3 (L - 8 - 4) (c - 8 - 4)) := E3.out.part1 l
  have b3 : Hid (Below w.heap.size w (v3.setCell ⟨w.heap.size, 1, none⟩ (.int .u32 (l : Int)))) := d3.out.setCell (show w.heap.size ≤ w.heap.size by omega) _
  have B3 : Hid (BytesAt (v3.setCell ⟨w.heap.size, 1, none⟩ (.int .u32 (l : Int))) a3 (L - 8 - 4) (fun i => x (12 + i))) := X3.setNum q (by decide)
  clear X3 E3 d3 K2 b2 B2
  go_wp2_with fail
  generalize v3.setCell ⟨w.heap.size, 1, none⟩ (.int .u32 (l : Int)) = w3 at *
  clear q z
  by_cases h16 : ¬ 16 ≤ L
  · refine (knumber_no (w.heap.size + 1 + 1) _ (L - 8 - 4) (c - 8 - 4) 4 _ K3.out.rd (by omega)).mono ?_
    rintro e w' ⟨rfl, rfl⟩
    go_wp2
    refine leaves_cons (f := 61) (args := #[.pointer (some ⟨w.heap.size, 0, none⟩), .pointer (some ⟨w.heap.size + 1, 0, none⟩)]) (by simp) (by simp [go_sem]) ?_
    refine (kcatchr _ _ _ _ _ _ _ _ _ [] _ K3.out).mono ?_
    rintro e u' w'' ⟨rfl, rfl, ⟨q0, q1, q2, q3, q4, qe⟩, d⟩
    have HA : Hid (RepTake w L x (.returned (.tuple #[.agg #[.int .u64 0, .int .u32 0, .int .u32 0, .int .u16 0, .int .u16 0], .int .i64 2])) w'') := RepTake.no (by omega) (b3.out.trans d)
    clear d
    simp [Leaves, settle, results, Try.results49, go_sem, q0, q1, q2, q3, q4, qe]
    exact HA.out
  refine (knumber_yes (w.heap.size + 1 + 1) _ (L - 8 - 4) (c - 8 - 4) 4 _ _ B3.out (by omega) K3.out.rd K3.out.rdT (by decide) (by decide) (by omega)).mono ?_
  rintro e w' ⟨a4, rfl, rfl, X4⟩
  have E4 : Hid (Kr (w3.setCell ⟨w.heap.size + 1 + 1, 0, none⟩ (.slice a4 (L - 8 - 4 - 4) (c - 8 - 4 - 4))) w.heap.size t l 0 0 0 a4 (L - 8 - 4 - 4) (c - 8 - 4 - 4)) := K3.out.next _ _ _
  have d4 : Hid (Below w.heap.size w (w3.setCell ⟨w.heap.size + 1 + 1, 0, none⟩ (.slice a4 (L - 8 - 4 - 4) (c - 8 - 4 - 4)))) := b3.out.setCell (show w.heap.size ≤ w.heap.size + 1 + 1 by omega) _
  have lg : Crc.numTo (fun i => x (12 + i)) 4 < 4294967296 := Crc.numTo_lt 4 fun i hi => B3.out.lt i (by omega)
  obtain ⟨g, hg⟩ : ∃ g, g = Crc.numTo (fun i => x (12 + i)) 4 := ⟨_, rfl⟩
  rw [← hg] at lg ⊢
  have Hg : Hid (g = Crc.numTo (fun i => x (12 + i)) 4) := hg
  clear hg
  generalize w3.setCell ⟨w.heap.size + 1 + 1, 0, none⟩ (.slice a4 (L - 8 - 4 - 4) (c - 8 - 4 - 4)) = v4 at *
  have X4 : BytesAt v4 a4 (L - 8 - 4 - 4) (fun i => x (16 + i)) := X4.congr fun i _ => congrArg x (by omega)
  have q := E4.out.rep.c2
  have z := E4.out.rep.frz 2
  have K4 : Hid (Kr (v4.setCell ⟨w.heap.size, 2, none⟩ (.int .u32 (g : Int))) w.heap.size t l g 0 0 a4 (L - 8 - 4 - 4) (c - 8 - 4 - 4)) := E4.out.part2 g
  have b4 : Hid (Below w.heap.size w (v4.setCell ⟨w.heap.size, 2, none⟩ (.int .u32 (g : Int)))) := d4.out.setCell (show w.heap.size ≤ w.heap.size by omega) _
  have B4 : Hid (BytesAt (v4.setCell ⟨w.heap.size, 2, none⟩ (.int .u32 (g : Int))) a4 (L - 8 - 4 - 4) (fun i => x (16 + i))) := X4.setNum q (by decide)
  clear X4 E4 d4 K3 b3 B3
  go_wp2_with fail
  generalize v4.setCell ⟨w.heap.size, 2, none⟩ (.int .u32 (g : Int)) = w4 at *
  clear q z
  by_cases h18 : ¬ 18 ≤ L
  · refine (knumber_no (w.heap.size + 1 + 1) _ (L - 8 - 4 - 4) (c - 8 - 4 - 4) 2 _ K4.out.rd (by omega)).mono ?_
    rintro e w' ⟨rfl, rfl⟩
    go_wp2
    refine leaves_cons (f := 61) (args := #[.pointer (some ⟨w.heap.size, 0, none⟩), .pointer (some ⟨w.heap.size + 1, 0, none⟩)]) (by simp) (by simp [go_sem]) ?_
    refine (kcatchr _ _ _ _ _ _ _ _ _ [] _ K4.out).mono ?_
    rintro e u' w'' ⟨rfl, rfl, ⟨q0, q1, q2, q3, q4, qe⟩, d⟩
    have HA : Hid (RepTake w L x (.returned (.tuple #[.agg #[.int .u64 0, .int .u32 0, .int .u32 0, .int .u16 0, .int .u16 0], .int .i64 2])) w'') := RepTake.no (by omega) (b4.out.trans d)
    clear d
    simp [Leaves, settle, results, Try.results49, go_sem, q0, q1, q2, q3, q4, qe]
    exact HA.out
  refine (knumber_yes (w.heap.size + 1 + 1) _ (L - 8 - 4 - 4) (c - 8 - 4 - 4) 2 _ _ B4.out (by omega) K4.out.rd K4.out.rdT (by decide) (by decide) (by omega)).mono ?_
  rintro e w' ⟨a5, rfl, rfl, X5⟩
  have E5 : Hid (Kr (w4.setCell ⟨w.heap.size + 1 + 1, 0, none⟩ (.slice a5 (L - 8 - 4 - 4 - 2) (c - 8 - 4 - 4 - 2))) w.heap.size t l g 0 0 a5 (L - 8 - 4 - 4 - 2) (c - 8 - 4 - 4 - 2)) := K4.out.next _ _ _
  have d5 : Hid (Below w.heap.size w (w4.setCell ⟨w.heap.size + 1 + 1, 0, none⟩ (.slice a5 (L - 8 - 4 - 4 - 2) (c - 8 - 4 - 4 - 2)))) := b4.out.setCell (show w.heap.size ≤ w.heap.size + 1 + 1 by omega) _
  have lu : Crc.numTo (fun i => x (16 + i)) 2 < 65536 := Crc.numTo_lt 2 fun i hi => B4.out.lt i (by omega)
  obtain ⟨u, hu⟩ : ∃ u, u = Crc.numTo (fun i => x (16 + i)) 2 := ⟨_, rfl⟩
  rw [← hu] at lu ⊢
  have Hu : Hid (u = Crc.numTo (fun i => x (16 + i)) 2) := hu
  clear hu
  generalize w4.setCell ⟨w.heap.size + 1 + 1, 0, none⟩ (.slice a5 (L - 8 - 4 - 4 - 2) (c - 8 - 4 - 4 - 2)) = v5 at *
  have X5 : BytesAt v5 a5 (L - 8 - 4 - 4 - 2) (fun i => x (18 + i)) := X5.congr fun i _ => congrArg x (by omega)
  have q := E5.out.rep.c3
  have z := E5.out.rep.frz 3
  have K5 : Hid (Kr (v5.setCell ⟨w.heap.size, 3, none⟩ (.int .u16 (u : Int))) w.heap.size t l g u 0 a5 (L - 8 - 4 - 4 - 2) (c - 8 - 4 - 4 - 2)) := E5.out.part3 u
  have b5 : Hid (Below w.heap.size w (v5.setCell ⟨w.heap.size, 3, none⟩ (.int .u16 (u : Int)))) := d5.out.setCell (show w.heap.size ≤ w.heap.size by omega) _
  have B5 : Hid (BytesAt (v5.setCell ⟨w.heap.size, 3, none⟩ (.int .u16 (u : Int))) a5 (L - 8 - 4 - 4 - 2) (fun i => x (18 + i))) := X5.setNum q (by decide)
  clear X5 E5 d5 K4 b4 B4
  go_wp2_with fail
  generalize v5.setCell ⟨w.heap.size, 3, none⟩ (.int .u16 (u : Int)) = w5 at *
  clear q z
  by_cases h20 : ¬ 20 ≤ L
  · refine (knumber_no (w.heap.size + 1 + 1) _ (L - 8 - 4 - 4 - 2) (c - 8 - 4 - 4 - 2) 2 _ K5.out.rd (by omega)).mono ?_
    rintro e w' ⟨rfl, rfl⟩
    go_wp2
    refine leaves_cons (f := 61) (args := #[.pointer (some ⟨w.heap.size, 0, none⟩), .pointer (some ⟨w.heap.size + 1, 0, none⟩)]) (by simp) (by simp [go_sem]) ?_
    refine (kcatchr _ _ _ _ _ _ _ _ _ [] _ K5.out).mono ?_
    rintro e u' w'' ⟨rfl, rfl, ⟨q0, q1, q2, q3, q4, qe⟩, d⟩
    have HA : Hid (RepTake w L x (.returned (.tuple #[.agg #[.int .u64 0, .int .u32 0, .int .u32 0, .int .u16 0, .int .u16 0], .int .i64 2])) w'') := RepTake.no (by omega) (b5.out.trans d)
    clear d
    simp [Leaves, settle, results, Try.results49, go_sem, q0, q1, q2, q3, q4, qe]
    exact HA.out
  refine (knumber_yes (w.heap.size + 1 + 1) _ (L - 8 - 4 - 4 - 2) (c - 8 - 4 - 4 - 2) 2 _ _ B5.out (by omega) K5.out.rd K5.out.rdT (by decide) (by decide) (by omega)).mono ?_
  rintro e w' ⟨a6, rfl, rfl, X6⟩
  have E6 : Hid (Kr (w5.setCell ⟨w.heap.size + 1 + 1, 0, none⟩ (.slice a6 (L - 8 - 4 - 4 - 2 - 2) (c - 8 - 4 - 4 - 2 - 2))) w.heap.size t l g u 0 a6 (L - 8 - 4 - 4 - 2 - 2) (c - 8 - 4 - 4 - 2 - 2)) := K5.out.next _ _ _
  have d6 : Hid (Below w.heap.size w (w5.setCell ⟨w.heap.size + 1 + 1, 0, none⟩ (.slice a6 (L - 8 - 4 - 4 - 2 - 2) (c - 8 - 4 - 4 - 2 - 2)))) := b5.out.setCell (show w.heap.size ≤ w.heap.size + 1 + 1 by omega) _
  have lj : Crc.numTo (fun i => x (18 + i)) 2 < 65536 := Crc.numTo_lt 2 fun i hi => B5.out.lt i (by omega)
  obtain ⟨j, hj⟩ : ∃ j, j = Crc.numTo (fun i => x (18 + i)) 2 := ⟨_, rfl⟩
  rw [← hj] at lj ⊢
  have Hj : Hid (j = Crc.numTo (fun i => x (18 + i)) 2) := hj
  clear hj
  generalize w5.setCell ⟨w.heap.size + 1 + 1, 0, none⟩ (.slice a6 (L - 8 - 4 - 4 - 2 - 2) (c - 8 - 4 - 4 - 2 - 2)) = v6 at *
  have X6 : BytesAt v6 a6 (L - 8 - 4 - 4 - 2 - 2) (fun i => x (20 + i)) := X6.congr fun i _ => congrArg x (by omega)
  have q := E6.out.rep.c4
  have z := E6.out.rep.frz 4
  have K6 : Hid (Kr (v6.setCell ⟨w.heap.size, 4, none⟩ (.int .u16 (j : Int))) w.heap.size t l g u j a6 (L - 8 - 4 - 4 - 2 - 2) (c - 8 - 4 - 4 - 2 - 2)) := E6.out.part4 j
  have b6 : Hid (Below w.heap.size w (v6.setCell ⟨w.heap.size, 4, none⟩ (.int .u16 (j : Int)))) := d6.out.setCell (show w.heap.size ≤ w.heap.size by omega) _
  have B6 : Hid (BytesAt (v6.setCell ⟨w.heap.size, 4, none⟩ (.int .u16 (j : Int))) a6 (L - 8 - 4 - 4 - 2 - 2) (fun i => x (20 + i))) := X6.setNum q (by decide)
  clear X6 E6 d6 K5 b5 B5
  go_wp2_with fail
  generalize v6.setCell ⟨w.heap.size, 4, none⟩ (.int .u16 (j : Int)) = w6 at *
  clear q z
  by_cases hE : L - 8 - 4 - 4 - 2 - 2 ≠ 0
  · refine (kend_no (w.heap.size + 1 + 1) _ (L - 8 - 4 - 4 - 2 - 2) (c - 8 - 4 - 4 - 2 - 2) _ K6.out.rd hE).mono ?_
    rintro e w' ⟨rfl, rfl⟩
    go_wp2
    refine leaves_cons (f := 61) (args := #[.pointer (some ⟨w.heap.size, 0, none⟩), .pointer (some ⟨w.heap.size + 1, 0, none⟩)]) (by simp) (by simp [go_sem]) ?_
    refine (kcatchr _ _ _ _ _ _ _ _ _ [] _ K6.out).mono ?_
    rintro e u' w'' ⟨rfl, rfl, ⟨q0, q1, q2, q3, q4, qe⟩, d⟩
    have HA : Hid (RepTake w L x (.returned (.tuple #[.agg #[.int .u64 0, .int .u32 0, .int .u32 0, .int .u16 0, .int .u16 0], .int .i64 2])) w'') := RepTake.no (by omega) (b6.out.trans d)
    clear d
    simp [Leaves, settle, results, Try.results49, go_sem, q0, q1, q2, q3, q4, qe]
    exact HA.out
  have hL : L = 20 := by omega
  refine (kend_yes (w.heap.size + 1 + 1) _ (L - 8 - 4 - 4 - 2 - 2) (c - 8 - 4 - 4 - 2 - 2) _ K6.out.rd (by omega)).mono ?_
  rintro e w6 ⟨rfl, rfl⟩
  have q0 := K6.out.rep.c0
  have z0 := K6.out.rep.frz 0
  have q1 := K6.out.rep.c1
  have z1 := K6.out.rep.frz 1
  have q2 := K6.out.rep.c2
  have z2 := K6.out.rep.frz 2
  have q3 := K6.out.rep.c3
  have z3 := K6.out.rep.frz 3
  have q4 := K6.out.rep.c4
  have z4 := K6.out.rep.frz 4
  have qe := K6.out.er
  have ze := K6.out.erT
  have KK := (((((K6.out.part0 t).part1 l).part2 g).part3 u).part4 j)
  have r0 : ((((((w6.setCell ⟨w.heap.size, 0, none⟩ (.int .u64 (t : Int))).setCell ⟨w.heap.size, 1, none⟩ (.int .u32 (l : Int))).setCell ⟨w.heap.size, 2, none⟩ (.int .u32 (g : Int))).setCell ⟨w.heap.size, 3, none⟩ (.int .u16 (u : Int))).setCell ⟨w.heap.size, 4, none⟩ (.int .u16 (j : Int))).setCell ⟨w.heap.size + 1, 0, none⟩ (.int .i64 0)).cell? ⟨w.heap.size, 0, none⟩ = some (.int .u64 (t : Int)) := (World.cell?_setCell_other _ _ _ _ (blk_ne (by omega))).trans KK.rep.c0
  have r1 : ((((((w6.setCell ⟨w.heap.size, 0, none⟩ (.int .u64 (t : Int))).setCell ⟨w.heap.size, 1, none⟩ (.int .u32 (l : Int))).setCell ⟨w.heap.size, 2, none⟩ (.int .u32 (g : Int))).setCell ⟨w.heap.size, 3, none⟩ (.int .u16 (u : Int))).setCell ⟨w.heap.size, 4, none⟩ (.int .u16 (j : Int))).setCell ⟨w.heap.size + 1, 0, none⟩ (.int .i64 0)).cell? ⟨w.heap.size, 1, none⟩ = some (.int .u32 (l : Int)) := (World.cell?_setCell_other _ _ _ _ (blk_ne (by omega))).trans KK.rep.c1
  have r2 : ((((((w6.setCell ⟨w.heap.size, 0, none⟩ (.int .u64 (t : Int))).setCell ⟨w.heap.size, 1, none⟩ (.int .u32 (l : Int))).setCell ⟨w.heap.size, 2, none⟩ (.int .u32 (g : Int))).setCell ⟨w.heap.size, 3, none⟩ (.int .u16 (u : Int))).setCell ⟨w.heap.size, 4, none⟩ (.int .u16 (j : Int))).setCell ⟨w.heap.size + 1, 0, none⟩ (.int .i64 0)).cell? ⟨w.heap.size, 2, none⟩ = some (.int .u32 (g : Int)) := (World.cell?_setCell_other _ _ _ _ (blk_ne (by omega))).trans KK.rep.c2
  have r3 : ((((((w6.setCell ⟨w.heap.size, 0, none⟩ (.int .u64 (t : Int))).setCell ⟨w.heap.size, 1, none⟩ (.int .u32 (l : Int))).setCell ⟨w.heap.size, 2, none⟩ (.int .u32 (g : Int))).setCell ⟨w.heap.size, 3, none⟩ (.int .u16 (u : Int))).setCell ⟨w.heap.size, 4, none⟩ (.int .u16 (j : Int))).setCell ⟨w.heap.size + 1, 0, none⟩ (.int .i64 0)).cell? ⟨w.heap.size, 3, none⟩ = some (.int .u16 (u : Int)) := (World.cell?_setCell_other _ _ _ _ (blk_ne (by omega))).trans KK.rep.c3
  have r4 : ((((((w6.setCell ⟨w.heap.size, 0, none⟩ (.int .u64 (t : Int))).setCell ⟨w.heap.size, 1, none⟩ (.int .u32 (l : Int))).setCell ⟨w.heap.size, 2, none⟩ (.int .u32 (g : Int))).setCell ⟨w.heap.size, 3, none⟩ (.int .u16 (u : Int))).setCell ⟨w.heap.size, 4, none⟩ (.int .u16 (j : Int))).setCell ⟨w.heap.size + 1, 0, none⟩ (.int .i64 0)).cell? ⟨w.heap.size, 4, none⟩ = some (.int .u16 (j : Int)) := (World.cell?_setCell_other _ _ _ _ (blk_ne (by omega))).trans KK.rep.c4
  have re : ((((((w6.setCell ⟨w.heap.size, 0, none⟩ (.int .u64 (t : Int))).setCell ⟨w.heap.size, 1, none⟩ (.int .u32 (l : Int))).setCell ⟨w.heap.size, 2, none⟩ (.int .u32 (g : Int))).setCell ⟨w.heap.size, 3, none⟩ (.int .u16 (u : Int))).setCell ⟨w.heap.size, 4, none⟩ (.int .u16 (j : Int))).setCell ⟨w.heap.size + 1, 0, none⟩ (.int .i64 0)).cell? ⟨w.heap.size + 1, 0, none⟩ = some (.int .i64 0) := World.cell?_setCell_same _ _ _ KK.er
  have bb : Below w.heap.size w ((((((w6.setCell ⟨w.heap.size, 0, none⟩ (.int .u64 (t : Int))).setCell ⟨w.heap.size, 1, none⟩ (.int .u32 (l : Int))).setCell ⟨w.heap.size, 2, none⟩ (.int .u32 (g : Int))).setCell ⟨w.heap.size, 3, none⟩ (.int .u16 (u : Int))).setCell ⟨w.heap.size, 4, none⟩ (.int .u16 (j : Int))).setCell ⟨w.heap.size + 1, 0, none⟩ (.int .i64 0)) := ((((((b6.out.setCell (p := ⟨w.heap.size, 0, none⟩) (show w.heap.size ≤ w.heap.size by omega) (.int .u64 (t : Int))).setCell (p := ⟨w.heap.size, 1, none⟩) (show w.heap.size ≤ w.heap.size by omega) (.int .u32 (l : Int))).setCell (p := ⟨w.heap.size, 2, none⟩) (show w.heap.size ≤ w.heap.size by omega) (.int .u32 (g : Int))).setCell (p := ⟨w.heap.size, 3, none⟩) (show w.heap.size ≤ w.heap.size by omega) (.int .u16 (u : Int))).setCell (p := ⟨w.heap.size, 4, none⟩) (show w.heap.size ≤ w.heap.size by omega) (.int .u16 (j : Int))).setCell (p := ⟨w.heap.size + 1, 0, none⟩) (show w.heap.size ≤ w.heap.size + 1 by omega) (.int .i64 0))
  have HA : Hid (RepTake w L x (.returned (.tuple #[.agg #[.int .u64 (t : Int), .int .u32 (l : Int), .int .u32 (g : Int), .int .u16 (u : Int), .int .u16 (j : Int)], .int .i64 0])) ((((((w6.setCell ⟨w.heap.size, 0, none⟩ (.int .u64 (t : Int))).setCell ⟨w.heap.size, 1, none⟩ (.int .u32 (l : Int))).setCell ⟨w.heap.size, 2, none⟩ (.int .u32 (g : Int))).setCell ⟨w.heap.size, 3, none⟩ (.int .u16 (u : Int))).setCell ⟨w.heap.size, 4, none⟩ (.int .u16 (j : Int))).setCell ⟨w.heap.size + 1, 0, none⟩ (.int .i64 0))) := by
    subst hL
    exact RepTake.yes Ht.out Hl.out Hg.out Hu.out Hj.out bb
  clear KK bb K6 b6 B6 Ht Hl Hg Hu Hj
  go_wp2
  generalize ((((((w6.setCell ⟨w.heap.size, 0, none⟩ (.int .u64 (t : Int))).setCell ⟨w.heap.size, 1, none⟩ (.int .u32 (l : Int))).setCell ⟨w.heap.size, 2, none⟩ (.int .u32 (g : Int))).setCell ⟨w.heap.size, 3, none⟩ (.int .u16 (u : Int))).setCell ⟨w.heap.size, 4, none⟩ (.int .u16 (j : Int))).setCell ⟨w.heap.size + 1, 0, none⟩ (.int .i64 0)) = w7 at *
  clear q0 z0 q1 z1 q2 z2 q3 z3 q4 z4 qe ze
  refine leaves_cons (f := 61) (args := #[.pointer (some ⟨w.heap.size, 0, none⟩), .pointer (some ⟨w.heap.size + 1, 0, none⟩)]) (by simp) (by simp [go_sem]) ?_
  refine (kidler ⟨w.heap.size, 0, none⟩ ⟨w.heap.size + 1, 0, none⟩ _).mono ?_
  rintro e u' w'' ⟨rfl, rfl, rfl⟩
  simp [Leaves, settle, results, Try.results49, go_sem, r0, r1, r2, r3, r4, re]
  exact HA.out

/-- The variables of TakeNack, from B on; the last is the reader: what is left. -/
structure Kn (w : World) (B f k : Nat) (a : Option Addr) (L c : Nat) : Prop where
  c0 : w.cell? ⟨B, 0, none⟩ = some (.int .u32 (f : Int))
  z0 : w.frozen? ⟨B, 0, none⟩ = false
  c1 : w.cell? ⟨B + 1, 0, none⟩ = some (.int .u16 (k : Int))
  z1 : w.frozen? ⟨B + 1, 0, none⟩ = false
  er : w.cell? ⟨B + 1 + 1, 0, none⟩ = some (.int .i64 0)
  erT : w.frozen? ⟨B + 1 + 1, 0, none⟩ = false
  rd : w.cell? ⟨B + 1 + 1 + 1, 0, none⟩ = some (.slice a L c)
  rdT : w.frozen? ⟨B + 1 + 1 + 1, 0, none⟩ = false
theorem Kn.next {w : World} {B f k : Nat} {a : Option Addr} {L c : Nat} (h : Kn w B f k a L c) (a' : Option Addr) (L' c' : Nat) : Kn (w.setCell ⟨B + 1 + 1 + 1, 0, none⟩ (.slice a' L' c')) B f k a' L' c' :=
  ⟨(World.cell?_setCell_other _ _ _ _ (blk_ne (by omega))).trans h.c0, by rw [World.frozen?_setCell]; exact h.z0, (World.cell?_setCell_other _ _ _ _ (blk_ne (by omega))).trans h.c1, by rw [World.frozen?_setCell]; exact h.z1, (World.cell?_setCell_other _ _ _ _ (blk_ne (by omega))).trans h.er, by rw [World.frozen?_setCell]; exact h.erT, World.cell?_setCell_same _ _ _ h.rd, by rw [World.frozen?_setCell]; exact h.rdT⟩
theorem Kn.part0 {w : World} {B f k : Nat} {a : Option Addr} {L c : Nat} (h : Kn w B f k a L c) (f' : Nat) : Kn (w.setCell ⟨B, 0, none⟩ (.int .u32 (f' : Int))) B f' k a L c :=
  ⟨World.cell?_setCell_same _ _ _ h.c0, by rw [World.frozen?_setCell]; exact h.z0, (World.cell?_setCell_other _ _ _ _ (blk_ne (by omega))).trans h.c1, by rw [World.frozen?_setCell]; exact h.z1, (World.cell?_setCell_other _ _ _ _ (blk_ne (by omega))).trans h.er, by rw [World.frozen?_setCell]; exact h.erT, (World.cell?_setCell_other _ _ _ _ (blk_ne (by omega))).trans h.rd, by rw [World.frozen?_setCell]; exact h.rdT⟩
theorem Kn.part1 {w : World} {B f k : Nat} {a : Option Addr} {L c : Nat} (h : Kn w B f k a L c) (k' : Nat) : Kn (w.setCell ⟨B + 1, 0, none⟩ (.int .u16 (k' : Int))) B f k' a L c :=
  ⟨(World.cell?_setCell_other _ _ _ _ (blk_ne (by omega))).trans h.c0, by rw [World.frozen?_setCell]; exact h.z0, World.cell?_setCell_same _ _ _ h.c1, by rw [World.frozen?_setCell]; exact h.z1, (World.cell?_setCell_other _ _ _ _ (blk_ne (by omega))).trans h.er, by rw [World.frozen?_setCell]; exact h.erT, (World.cell?_setCell_other _ _ _ _ (blk_ne (by omega))).trans h.rd, by rw [World.frozen?_setCell]; exact h.rdT⟩
theorem Kn.made (w : World) (T0 T1 U V : TypeId) (a : Option Addr) (L c : Nat) :
    Kn ((((w.alloc (.cells #[.int .u32 0] T0)).alloc (.cells #[.int .u16 0] T1)).alloc (.cells #[.int .i64 0] U)).alloc (.cells #[.slice a L c] V)) w.heap.size 0 0 a L c := by
  have b0 : Below w.heap.size w (w.alloc (.cells #[.int .u32 0] T0)) := (Below.refl _ _).alloc (Nat.le_refl _) _
  have b1 : Below (w.alloc (.cells #[.int .u32 0] T0)).heap.size (w.alloc (.cells #[.int .u32 0] T0)) ((w.alloc (.cells #[.int .u32 0] T0)).alloc (.cells #[.int .u16 0] T1)) := (Below.refl _ _).alloc (Nat.le_refl _) _
  have b2 : Below ((w.alloc (.cells #[.int .u32 0] T0)).alloc (.cells #[.int .u16 0] T1)).heap.size ((w.alloc (.cells #[.int .u32 0] T0)).alloc (.cells #[.int .u16 0] T1)) (((w.alloc (.cells #[.int .u32 0] T0)).alloc (.cells #[.int .u16 0] T1)).alloc (.cells #[.int .i64 0] U)) := (Below.refl _ _).alloc (Nat.le_refl _) _
  have b3 : Below (((w.alloc (.cells #[.int .u32 0] T0)).alloc (.cells #[.int .u16 0] T1)).alloc (.cells #[.int .i64 0] U)).heap.size (((w.alloc (.cells #[.int .u32 0] T0)).alloc (.cells #[.int .u16 0] T1)).alloc (.cells #[.int .i64 0] U)) ((((w.alloc (.cells #[.int .u32 0] T0)).alloc (.cells #[.int .u16 0] T1)).alloc (.cells #[.int .i64 0] U)).alloc (.cells #[.slice a L c] V)) := (Below.refl _ _).alloc (Nat.le_refl _) _
  have e0 : (w.alloc (.cells #[.int .u32 0] T0)).cell? ⟨w.heap.size, 0, none⟩ = some (.int .u32 0) := by rw [World.cell?_alloc_at _ _ _ _ (by simp)]; rfl
  have f0 : (w.alloc (.cells #[.int .u32 0] T0)).frozen? ⟨w.heap.size, 0, none⟩ = false := by rw [World.frozen?_alloc_at _ _ _ _ (by simp)]
  have l0 : w.heap.size < (w.alloc (.cells #[.int .u32 0] T0)).heap.size := cell_lt e0
  have e0 := (b1.cell (p := ⟨w.heap.size, 0, none⟩) l0).trans e0
  have f0 := (World.frozen?_of_block (a := ⟨w.heap.size, 0, none⟩) (b1.block _ l0)).trans f0
  have l0 : w.heap.size < ((w.alloc (.cells #[.int .u32 0] T0)).alloc (.cells #[.int .u16 0] T1)).heap.size := cell_lt e0
  have e0 := (b2.cell (p := ⟨w.heap.size, 0, none⟩) l0).trans e0
  have f0 := (World.frozen?_of_block (a := ⟨w.heap.size, 0, none⟩) (b2.block _ l0)).trans f0
  have l0 : w.heap.size < (((w.alloc (.cells #[.int .u32 0] T0)).alloc (.cells #[.int .u16 0] T1)).alloc (.cells #[.int .i64 0] U)).heap.size := cell_lt e0
  have e0 := (b3.cell (p := ⟨w.heap.size, 0, none⟩) l0).trans e0
  have f0 := (World.frozen?_of_block (a := ⟨w.heap.size, 0, none⟩) (b3.block _ l0)).trans f0
  have e1 : ((w.alloc (.cells #[.int .u32 0] T0)).alloc (.cells #[.int .u16 0] T1)).cell? ⟨w.heap.size + 1, 0, none⟩ = some (.int .u16 0) := by rw [World.cell?_alloc_at _ _ _ _ (by simp)]; rfl
  have f1 : ((w.alloc (.cells #[.int .u32 0] T0)).alloc (.cells #[.int .u16 0] T1)).frozen? ⟨w.heap.size + 1, 0, none⟩ = false := by rw [World.frozen?_alloc_at _ _ _ _ (by simp)]
  have l1 : w.heap.size + 1 < ((w.alloc (.cells #[.int .u32 0] T0)).alloc (.cells #[.int .u16 0] T1)).heap.size := cell_lt e1
  have e1 := (b2.cell (p := ⟨w.heap.size + 1, 0, none⟩) l1).trans e1
  have f1 := (World.frozen?_of_block (a := ⟨w.heap.size + 1, 0, none⟩) (b2.block _ l1)).trans f1
  have l1 : w.heap.size + 1 < (((w.alloc (.cells #[.int .u32 0] T0)).alloc (.cells #[.int .u16 0] T1)).alloc (.cells #[.int .i64 0] U)).heap.size := cell_lt e1
  have e1 := (b3.cell (p := ⟨w.heap.size + 1, 0, none⟩) l1).trans e1
  have f1 := (World.frozen?_of_block (a := ⟨w.heap.size + 1, 0, none⟩) (b3.block _ l1)).trans f1
  have e2 : (((w.alloc (.cells #[.int .u32 0] T0)).alloc (.cells #[.int .u16 0] T1)).alloc (.cells #[.int .i64 0] U)).cell? ⟨w.heap.size + 1 + 1, 0, none⟩ = some (.int .i64 0) := by rw [World.cell?_alloc_at _ _ _ _ (by simp)]; rfl
  have f2 : (((w.alloc (.cells #[.int .u32 0] T0)).alloc (.cells #[.int .u16 0] T1)).alloc (.cells #[.int .i64 0] U)).frozen? ⟨w.heap.size + 1 + 1, 0, none⟩ = false := by rw [World.frozen?_alloc_at _ _ _ _ (by simp)]
  have l2 : w.heap.size + 1 + 1 < (((w.alloc (.cells #[.int .u32 0] T0)).alloc (.cells #[.int .u16 0] T1)).alloc (.cells #[.int .i64 0] U)).heap.size := cell_lt e2
  have e2 := (b3.cell (p := ⟨w.heap.size + 1 + 1, 0, none⟩) l2).trans e2
  have f2 := (World.frozen?_of_block (a := ⟨w.heap.size + 1 + 1, 0, none⟩) (b3.block _ l2)).trans f2
  have e3 : ((((w.alloc (.cells #[.int .u32 0] T0)).alloc (.cells #[.int .u16 0] T1)).alloc (.cells #[.int .i64 0] U)).alloc (.cells #[.slice a L c] V)).cell? ⟨w.heap.size + 1 + 1 + 1, 0, none⟩ = some (.slice a L c) := by rw [World.cell?_alloc_at _ _ _ _ (by simp)]; rfl
  have f3 : ((((w.alloc (.cells #[.int .u32 0] T0)).alloc (.cells #[.int .u16 0] T1)).alloc (.cells #[.int .i64 0] U)).alloc (.cells #[.slice a L c] V)).frozen? ⟨w.heap.size + 1 + 1 + 1, 0, none⟩ = false := by rw [World.frozen?_alloc_at _ _ _ _ (by simp)]
  exact ⟨e0, f0, e1, f1, e2, f2, e3, f3⟩

theorem kidlen (p0 p1 p2 : Addr) (w : World) :
    CallsD Try.prog 64 #[.pointer (some p0), .pointer (some p1), .pointer (some p2)] .returning w fun e u' w' => e = .returned (.tuple #[]) ∧ u' = .returning ∧ w' = w := by
  refine callsD_of_wpS Try.func64 rfl fun c₀ cs hu => ?_
  apply wpS_seq
  apply wpS_region
  simp [wpOpsS, go_sem, recoverD, hu, Try.ntmps64, Exit.thenS]
  refine wpS_cond (t := false) (by simp [Act.eval, Array.replicate]) ?_
  simp only [Bool.false_eq_true, if_false]
  refine wpS_of_wp (wp_skip ?_)
  cases c₀
  simp_all [bodyPostS, results, Try.results64]

theorem kcatchn (B f k : Nat) (a : Option Addr) (L c : Nat) (older : List PanicEntry) (w : World) (h : Kn w B f k a L c) :
    CallsD Try.prog 64 #[.pointer (some ⟨B, 0, none⟩), .pointer (some ⟨B + 1, 0, none⟩), .pointer (some ⟨B + 1 + 1, 0, none⟩)] (.panicking ({ v := .iface 97 (.agg #[]), recovered := false } :: older)) w fun e u' w' =>
      e = .returned (.tuple #[]) ∧ u' = .panicking ({ v := .iface 97 (.agg #[]), recovered := true } :: older) ∧ (w'.cell? ⟨B, 0, none⟩ = some (.int .u32 0) ∧ w'.cell? ⟨B + 1, 0, none⟩ = some (.int .u16 0) ∧ w'.cell? ⟨B + 1 + 1, 0, none⟩ = some (.int .i64 2)) ∧ Below B w w' := by
  have q0 := h.c0
  have z0 := h.z0
  have q1 := h.c1
  have z1 := h.z1
  have qe := h.er
  have ze := h.erT
  refine callsD_of_wpS Try.func64 rfl fun c₀ cs hu => ?_
  apply wpS_seq
  apply wpS_region
  simp [wpOpsS, go_sem, recoverD, hu, Try.ntmps64, Exit.thenS]
  refine wpS_cond (t := true) (by simp [Act.eval, Array.replicate]) ?_
  simp only [if_true]
  apply wpS_region
  simp [wpOpsS, go_sem, q0, z0, q1, z1, qe, ze, bodyPostS, results, Try.results64]
  exact (((Below.refl B w).setCell (p := ⟨B, 0, none⟩) (show B ≤ B by omega) _).setCell (p := ⟨B + 1, 0, none⟩) (show B ≤ B + 1 by omega) _).setCell (p := ⟨B + 1 + 1, 0, none⟩) (show B ≤ B + 1 + 1 by omega) _

set_option maxRecDepth 100000 in
set_option maxHeartbeats 1000000 in
theorem ktaken_any (a : Option Addr) (L c : Nat) (x : Nat → Nat) (w : World) (hx : BytesAt w a L x) (hc : L ≤ c) :
    Calls Try.prog 51 #[.slice a L c] w fun e w' => NackTake w L x e w' := by
  have hmf : ∀ (fn : Fn) (first cap : Array Value) (w : World), (Instr.makeFunc fn first cap).run Try.prog w = .ok (.func fn first cap) w := fun _ _ _ _ => rfl
  have K1 : Hid (Kn ((((w.alloc (.cells #[.int .u32 0] 23)).alloc (.cells #[.int .u16 0] 22)).alloc (.cells #[.int .i64 0] 34)).alloc (.cells #[.slice a L c] 89)) w.heap.size 0 0 a L c) := Kn.made w _ _ _ _ a L c
  have b1 : Hid (Below w.heap.size w ((((w.alloc (.cells #[.int .u32 0] 23)).alloc (.cells #[.int .u16 0] 22)).alloc (.cells #[.int .i64 0] 34)).alloc (.cells #[.slice a L c] 89))) := (((((Below.refl _ w).alloc (Nat.le_refl _) _).alloc (by simp) _).alloc (by simp; omega) _).alloc (by simp; omega) _)
  have B1 : Hid (BytesAt ((((w.alloc (.cells #[.int .u32 0] 23)).alloc (.cells #[.int .u16 0] 22)).alloc (.cells #[.int .i64 0] 34)).alloc (.cells #[.slice a L c] 89)) a L x) := hx.grew b1.out
  clear hx
  go_enter_defers Try.func51, Try.ntmps51
  go_wp2_with fail
  generalize ((((w.alloc (.cells #[.int .u32 0] 23)).alloc (.cells #[.int .u16 0] 22)).alloc (.cells #[.int .i64 0] 34)).alloc (.cells #[.slice a L c] 89)) = w1 at *
  by_cases h4 : ¬ 4 ≤ L
  · refine (knumber_no (w.heap.size + 1 + 1 + 1) _ (L) (c) 4 _ K1.out.rd (by omega)).mono ?_
    rintro e w' ⟨rfl, rfl⟩
    go_wp2
    refine leaves_cons (f := 64) (args := #[.pointer (some ⟨w.heap.size, 0, none⟩), .pointer (some ⟨w.heap.size + 1, 0, none⟩), .pointer (some ⟨w.heap.size + 1 + 1, 0, none⟩)]) (by simp) (by simp [go_sem]) ?_
    refine (kcatchn _ _ _ _ _ _ [] _ K1.out).mono ?_
    rintro e u' w'' ⟨rfl, rfl, ⟨q0, q1, qe⟩, d⟩
    have HA : Hid (NackTake w L x (.returned (.tuple #[.int .u32 0, .int .u16 0, .int .i64 2])) w'') := NackTake.no (by omega) (b1.out.trans d)
    clear d
    simp [Leaves, settle, results, Try.results51, go_sem, q0, q1, qe]
    exact HA.out
  refine (knumber_yes (w.heap.size + 1 + 1 + 1) _ (L) (c) 4 _ _ B1.out (by omega) K1.out.rd K1.out.rdT (by decide) (by decide) (by omega)).mono ?_
  rintro e w' ⟨a2, rfl, rfl, X2⟩
  have E2 : Hid (Kn (w1.setCell ⟨w.heap.size + 1 + 1 + 1, 0, none⟩ (.slice a2 (L - 4) (c - 4))) w.heap.size 0 0 a2 (L - 4) (c - 4)) := K1.out.next _ _ _
  have d2 : Hid (Below w.heap.size w (w1.setCell ⟨w.heap.size + 1 + 1 + 1, 0, none⟩ (.slice a2 (L - 4) (c - 4)))) := b1.out.setCell (show w.heap.size ≤ w.heap.size + 1 + 1 + 1 by omega) _
  have lf : Crc.numTo (x) 4 < 4294967296 := Crc.numTo_lt 4 fun i hi => B1.out.lt i (by omega)
  obtain ⟨f, hf⟩ : ∃ f, f = Crc.numTo (x) 4 := ⟨_, rfl⟩
  rw [← hf] at lf ⊢
  have Hf : Hid (f = Crc.numTo (x) 4) := hf
  clear hf
  generalize w1.setCell ⟨w.heap.size + 1 + 1 + 1, 0, none⟩ (.slice a2 (L - 4) (c - 4)) = v2 at *
  have X2 : BytesAt v2 a2 (L - 4) (fun i => x (4 + i)) := X2.congr fun i _ => congrArg x (by omega)
  have q := E2.out.c0
  have z := E2.out.z0
  have K2 : Hid (Kn (v2.setCell ⟨w.heap.size, 0, none⟩ (.int .u32 (f : Int))) w.heap.size f 0 a2 (L - 4) (c - 4)) := E2.out.part0 f
  have b2 : Hid (Below w.heap.size w (v2.setCell ⟨w.heap.size, 0, none⟩ (.int .u32 (f : Int)))) := d2.out.setCell (show w.heap.size ≤ w.heap.size by omega) _
  have B2 : Hid (BytesAt (v2.setCell ⟨w.heap.size, 0, none⟩ (.int .u32 (f : Int))) a2 (L - 4) (fun i => x (4 + i))) := X2.setNum q (by decide)
  clear X2 E2 d2 K1 b1 B1
  go_wp2_with fail
  generalize v2.setCell ⟨w.heap.size, 0, none⟩ (.int .u32 (f : Int)) = w2 at *
  clear q z
  by_cases h6 : ¬ 6 ≤ L
  · refine (knumber_no (w.heap.size + 1 + 1 + 1) _ (L - 4) (c - 4) 2 _ K2.out.rd (by omega)).mono ?_
    rintro e w' ⟨rfl, rfl⟩
    go_wp2
    refine leaves_cons (f := 64) (args := #[.pointer (some ⟨w.heap.size, 0, none⟩), .pointer (some ⟨w.heap.size + 1, 0, none⟩), .pointer (some ⟨w.heap.size + 1 + 1, 0, none⟩)]) (by simp) (by simp [go_sem]) ?_
    refine (kcatchn _ _ _ _ _ _ [] _ K2.out).mono ?_
    rintro e u' w'' ⟨rfl, rfl, ⟨q0, q1, qe⟩, d⟩
    have HA : Hid (NackTake w L x (.returned (.tuple #[.int .u32 0, .int .u16 0, .int .i64 2])) w'') := NackTake.no (by omega) (b2.out.trans d)
    clear d
    simp [Leaves, settle, results, Try.results51, go_sem, q0, q1, qe]
    exact HA.out
  refine (knumber_yes (w.heap.size + 1 + 1 + 1) _ (L - 4) (c - 4) 2 _ _ B2.out (by omega) K2.out.rd K2.out.rdT (by decide) (by decide) (by omega)).mono ?_
  rintro e w' ⟨a3, rfl, rfl, X3⟩
  have E3 : Hid (Kn (w2.setCell ⟨w.heap.size + 1 + 1 + 1, 0, none⟩ (.slice a3 (L - 4 - 2) (c - 4 - 2))) w.heap.size f 0 a3 (L - 4 - 2) (c - 4 - 2)) := K2.out.next _ _ _
  have d3 : Hid (Below w.heap.size w (w2.setCell ⟨w.heap.size + 1 + 1 + 1, 0, none⟩ (.slice a3 (L - 4 - 2) (c - 4 - 2)))) := b2.out.setCell (show w.heap.size ≤ w.heap.size + 1 + 1 + 1 by omega) _
  have lk : Crc.numTo (fun i => x (4 + i)) 2 < 65536 := Crc.numTo_lt 2 fun i hi => B2.out.lt i (by omega)
  obtain ⟨k, hk⟩ : ∃ k, k = Crc.numTo (fun i => x (4 + i)) 2 := ⟨_, rfl⟩
  rw [← hk] at lk ⊢
  have Hk : Hid (k = Crc.numTo (fun i => x (4 + i)) 2) := hk
  clear hk
  generalize w2.setCell ⟨w.heap.size + 1 + 1 + 1, 0, none⟩ (.slice a3 (L - 4 - 2) (c - 4 - 2)) = v3 at *
  have X3 : BytesAt v3 a3 (L - 4 - 2) (fun i => x (6 + i)) := X3.congr fun i _ => congrArg x (by omega)
  have q := E3.out.c1
  have z := E3.out.z1
  have K3 : Hid (Kn (v3.setCell ⟨w.heap.size + 1, 0, none⟩ (.int .u16 (k : Int))) w.heap.size f k a3 (L - 4 - 2) (c - 4 - 2)) := E3.out.part1 k
  have b3 : Hid (Below w.heap.size w (v3.setCell ⟨w.heap.size + 1, 0, none⟩ (.int .u16 (k : Int)))) := d3.out.setCell (show w.heap.size ≤ w.heap.size + 1 by omega) _
  have B3 : Hid (BytesAt (v3.setCell ⟨w.heap.size + 1, 0, none⟩ (.int .u16 (k : Int))) a3 (L - 4 - 2) (fun i => x (6 + i))) := X3.setNum q (by decide)
  clear X3 E3 d3 K2 b2 B2
  go_wp2_with fail
  generalize v3.setCell ⟨w.heap.size + 1, 0, none⟩ (.int .u16 (k : Int)) = w3 at *
  clear q z
  by_cases hE : L - 4 - 2 ≠ 0
  · refine (kend_no (w.heap.size + 1 + 1 + 1) _ (L - 4 - 2) (c - 4 - 2) _ K3.out.rd hE).mono ?_
    rintro e w' ⟨rfl, rfl⟩
    go_wp2
    refine leaves_cons (f := 64) (args := #[.pointer (some ⟨w.heap.size, 0, none⟩), .pointer (some ⟨w.heap.size + 1, 0, none⟩), .pointer (some ⟨w.heap.size + 1 + 1, 0, none⟩)]) (by simp) (by simp [go_sem]) ?_
    refine (kcatchn _ _ _ _ _ _ [] _ K3.out).mono ?_
    rintro e u' w'' ⟨rfl, rfl, ⟨q0, q1, qe⟩, d⟩
    have HA : Hid (NackTake w L x (.returned (.tuple #[.int .u32 0, .int .u16 0, .int .i64 2])) w'') := NackTake.no (by omega) (b3.out.trans d)
    clear d
    simp [Leaves, settle, results, Try.results51, go_sem, q0, q1, qe]
    exact HA.out
  have hL : L = 6 := by omega
  refine (kend_yes (w.heap.size + 1 + 1 + 1) _ (L - 4 - 2) (c - 4 - 2) _ K3.out.rd (by omega)).mono ?_
  rintro e w6 ⟨rfl, rfl⟩
  have q0 := K3.out.c0
  have z0 := K3.out.z0
  have q1 := K3.out.c1
  have z1 := K3.out.z1
  have qe := K3.out.er
  have ze := K3.out.erT
  have KK := ((K3.out.part0 f).part1 k)
  have r0 : (((w6.setCell ⟨w.heap.size, 0, none⟩ (.int .u32 (f : Int))).setCell ⟨w.heap.size + 1, 0, none⟩ (.int .u16 (k : Int))).setCell ⟨w.heap.size + 1 + 1, 0, none⟩ (.int .i64 0)).drew.cell? ⟨w.heap.size, 0, none⟩ = some (.int .u32 (f : Int)) := (World.cell?_setCell_other _ _ _ _ (blk_ne (by omega))).trans KK.c0
  have r1 : (((w6.setCell ⟨w.heap.size, 0, none⟩ (.int .u32 (f : Int))).setCell ⟨w.heap.size + 1, 0, none⟩ (.int .u16 (k : Int))).setCell ⟨w.heap.size + 1 + 1, 0, none⟩ (.int .i64 0)).drew.cell? ⟨w.heap.size + 1, 0, none⟩ = some (.int .u16 (k : Int)) := (World.cell?_setCell_other _ _ _ _ (blk_ne (by omega))).trans KK.c1
  have re : (((w6.setCell ⟨w.heap.size, 0, none⟩ (.int .u32 (f : Int))).setCell ⟨w.heap.size + 1, 0, none⟩ (.int .u16 (k : Int))).setCell ⟨w.heap.size + 1 + 1, 0, none⟩ (.int .i64 0)).drew.cell? ⟨w.heap.size + 1 + 1, 0, none⟩ = some (.int .i64 0) := World.cell?_setCell_same _ _ _ KK.er
  have bb : Below w.heap.size w (((w6.setCell ⟨w.heap.size, 0, none⟩ (.int .u32 (f : Int))).setCell ⟨w.heap.size + 1, 0, none⟩ (.int .u16 (k : Int))).setCell ⟨w.heap.size + 1 + 1, 0, none⟩ (.int .i64 0)).drew := (((b3.out.setCell (p := ⟨w.heap.size, 0, none⟩) (show w.heap.size ≤ w.heap.size by omega) (.int .u32 (f : Int))).setCell (p := ⟨w.heap.size + 1, 0, none⟩) (show w.heap.size ≤ w.heap.size + 1 by omega) (.int .u16 (k : Int))).setCell (p := ⟨w.heap.size + 1 + 1, 0, none⟩) (show w.heap.size ≤ w.heap.size + 1 + 1 by omega) (.int .i64 0)).drew
  have HA : Hid (NackTake w L x (.returned (.tuple #[.int .u32 (f : Int), .int .u16 (k : Int), .int .i64 0])) (((w6.setCell ⟨w.heap.size, 0, none⟩ (.int .u32 (f : Int))).setCell ⟨w.heap.size + 1, 0, none⟩ (.int .u16 (k : Int))).setCell ⟨w.heap.size + 1 + 1, 0, none⟩ (.int .i64 0)).drew) := by
    subst hL
    exact NackTake.yes Hf.out Hk.out bb
  clear KK bb K3 b3 B3 Hf Hk
  go_wp2_with fail
  go_region
  go_wp2
  generalize (((w6.setCell ⟨w.heap.size, 0, none⟩ (.int .u32 (f : Int))).setCell ⟨w.heap.size + 1, 0, none⟩ (.int .u16 (k : Int))).setCell ⟨w.heap.size + 1 + 1, 0, none⟩ (.int .i64 0)).drew = w7 at *
  clear q0 z0 q1 z1 qe ze
  refine leaves_cons (f := 64) (args := #[.pointer (some ⟨w.heap.size, 0, none⟩), .pointer (some ⟨w.heap.size + 1, 0, none⟩), .pointer (some ⟨w.heap.size + 1 + 1, 0, none⟩)]) (by simp) (by simp [go_sem]) ?_
  refine (kidlen ⟨w.heap.size, 0, none⟩ ⟨w.heap.size + 1, 0, none⟩ ⟨w.heap.size + 1 + 1, 0, none⟩ _).mono ?_
  rintro e u' w'' ⟨rfl, rfl, rfl⟩
  simp [Leaves, settle, results, Try.results51, go_sem, r0, r1, re]
  exact HA.out

/-- The variables of TakeGone, from B on; the last is the reader: what is left. -/
structure Kg (w : World) (B f : Nat) (a : Option Addr) (L c : Nat) : Prop where
  c0 : w.cell? ⟨B, 0, none⟩ = some (.int .u32 (f : Int))
  z0 : w.frozen? ⟨B, 0, none⟩ = false
  er : w.cell? ⟨B + 1, 0, none⟩ = some (.int .i64 0)
  erT : w.frozen? ⟨B + 1, 0, none⟩ = false
  rd : w.cell? ⟨B + 1 + 1, 0, none⟩ = some (.slice a L c)
  rdT : w.frozen? ⟨B + 1 + 1, 0, none⟩ = false
theorem Kg.next {w : World} {B f : Nat} {a : Option Addr} {L c : Nat} (h : Kg w B f a L c) (a' : Option Addr) (L' c' : Nat) : Kg (w.setCell ⟨B + 1 + 1, 0, none⟩ (.slice a' L' c')) B f a' L' c' :=
  ⟨(World.cell?_setCell_other _ _ _ _ (blk_ne (by omega))).trans h.c0, by rw [World.frozen?_setCell]; exact h.z0, (World.cell?_setCell_other _ _ _ _ (blk_ne (by omega))).trans h.er, by rw [World.frozen?_setCell]; exact h.erT, World.cell?_setCell_same _ _ _ h.rd, by rw [World.frozen?_setCell]; exact h.rdT⟩
theorem Kg.part0 {w : World} {B f : Nat} {a : Option Addr} {L c : Nat} (h : Kg w B f a L c) (f' : Nat) : Kg (w.setCell ⟨B, 0, none⟩ (.int .u32 (f' : Int))) B f' a L c :=
  ⟨World.cell?_setCell_same _ _ _ h.c0, by rw [World.frozen?_setCell]; exact h.z0, (World.cell?_setCell_other _ _ _ _ (blk_ne (by omega))).trans h.er, by rw [World.frozen?_setCell]; exact h.erT, (World.cell?_setCell_other _ _ _ _ (blk_ne (by omega))).trans h.rd, by rw [World.frozen?_setCell]; exact h.rdT⟩
theorem Kg.made (w : World) (T0 U V : TypeId) (a : Option Addr) (L c : Nat) :
    Kg (((w.alloc (.cells #[.int .u32 0] T0)).alloc (.cells #[.int .i64 0] U)).alloc (.cells #[.slice a L c] V)) w.heap.size 0 a L c := by
  have b0 : Below w.heap.size w (w.alloc (.cells #[.int .u32 0] T0)) := (Below.refl _ _).alloc (Nat.le_refl _) _
  have b1 : Below (w.alloc (.cells #[.int .u32 0] T0)).heap.size (w.alloc (.cells #[.int .u32 0] T0)) ((w.alloc (.cells #[.int .u32 0] T0)).alloc (.cells #[.int .i64 0] U)) := (Below.refl _ _).alloc (Nat.le_refl _) _
  have b2 : Below ((w.alloc (.cells #[.int .u32 0] T0)).alloc (.cells #[.int .i64 0] U)).heap.size ((w.alloc (.cells #[.int .u32 0] T0)).alloc (.cells #[.int .i64 0] U)) (((w.alloc (.cells #[.int .u32 0] T0)).alloc (.cells #[.int .i64 0] U)).alloc (.cells #[.slice a L c] V)) := (Below.refl _ _).alloc (Nat.le_refl _) _
  have e0 : (w.alloc (.cells #[.int .u32 0] T0)).cell? ⟨w.heap.size, 0, none⟩ = some (.int .u32 0) := by rw [World.cell?_alloc_at _ _ _ _ (by simp)]; rfl
  have f0 : (w.alloc (.cells #[.int .u32 0] T0)).frozen? ⟨w.heap.size, 0, none⟩ = false := by rw [World.frozen?_alloc_at _ _ _ _ (by simp)]
  have l0 : w.heap.size < (w.alloc (.cells #[.int .u32 0] T0)).heap.size := cell_lt e0
  have e0 := (b1.cell (p := ⟨w.heap.size, 0, none⟩) l0).trans e0
  have f0 := (World.frozen?_of_block (a := ⟨w.heap.size, 0, none⟩) (b1.block _ l0)).trans f0
  have l0 : w.heap.size < ((w.alloc (.cells #[.int .u32 0] T0)).alloc (.cells #[.int .i64 0] U)).heap.size := cell_lt e0
  have e0 := (b2.cell (p := ⟨w.heap.size, 0, none⟩) l0).trans e0
  have f0 := (World.frozen?_of_block (a := ⟨w.heap.size, 0, none⟩) (b2.block _ l0)).trans f0
  have e1 : ((w.alloc (.cells #[.int .u32 0] T0)).alloc (.cells #[.int .i64 0] U)).cell? ⟨w.heap.size + 1, 0, none⟩ = some (.int .i64 0) := by rw [World.cell?_alloc_at _ _ _ _ (by simp)]; rfl
  have f1 : ((w.alloc (.cells #[.int .u32 0] T0)).alloc (.cells #[.int .i64 0] U)).frozen? ⟨w.heap.size + 1, 0, none⟩ = false := by rw [World.frozen?_alloc_at _ _ _ _ (by simp)]
  have l1 : w.heap.size + 1 < ((w.alloc (.cells #[.int .u32 0] T0)).alloc (.cells #[.int .i64 0] U)).heap.size := cell_lt e1
  have e1 := (b2.cell (p := ⟨w.heap.size + 1, 0, none⟩) l1).trans e1
  have f1 := (World.frozen?_of_block (a := ⟨w.heap.size + 1, 0, none⟩) (b2.block _ l1)).trans f1
  have e2 : (((w.alloc (.cells #[.int .u32 0] T0)).alloc (.cells #[.int .i64 0] U)).alloc (.cells #[.slice a L c] V)).cell? ⟨w.heap.size + 1 + 1, 0, none⟩ = some (.slice a L c) := by rw [World.cell?_alloc_at _ _ _ _ (by simp)]; rfl
  have f2 : (((w.alloc (.cells #[.int .u32 0] T0)).alloc (.cells #[.int .i64 0] U)).alloc (.cells #[.slice a L c] V)).frozen? ⟨w.heap.size + 1 + 1, 0, none⟩ = false := by rw [World.frozen?_alloc_at _ _ _ _ (by simp)]
  exact ⟨e0, f0, e1, f1, e2, f2⟩

theorem kidleg (p0 p1 : Addr) (w : World) :
    CallsD Try.prog 65 #[.pointer (some p0), .pointer (some p1)] .returning w fun e u' w' => e = .returned (.tuple #[]) ∧ u' = .returning ∧ w' = w := by
  refine callsD_of_wpS Try.func65 rfl fun c₀ cs hu => ?_
  apply wpS_seq
  apply wpS_region
  simp [wpOpsS, go_sem, recoverD, hu, Try.ntmps65, Exit.thenS]
  refine wpS_cond (t := false) (by simp [Act.eval, Array.replicate]) ?_
  simp only [Bool.false_eq_true, if_false]
  refine wpS_of_wp (wp_skip ?_)
  cases c₀
  simp_all [bodyPostS, results, Try.results65]

theorem kcatchg (B f : Nat) (a : Option Addr) (L c : Nat) (older : List PanicEntry) (w : World) (h : Kg w B f a L c) :
    CallsD Try.prog 65 #[.pointer (some ⟨B, 0, none⟩), .pointer (some ⟨B + 1, 0, none⟩)] (.panicking ({ v := .iface 97 (.agg #[]), recovered := false } :: older)) w fun e u' w' =>
      e = .returned (.tuple #[]) ∧ u' = .panicking ({ v := .iface 97 (.agg #[]), recovered := true } :: older) ∧ (w'.cell? ⟨B, 0, none⟩ = some (.int .u32 0) ∧ w'.cell? ⟨B + 1, 0, none⟩ = some (.int .i64 2)) ∧ Below B w w' := by
  have q0 := h.c0
  have z0 := h.z0
  have qe := h.er
  have ze := h.erT
  refine callsD_of_wpS Try.func65 rfl fun c₀ cs hu => ?_
  apply wpS_seq
  apply wpS_region
  simp [wpOpsS, go_sem, recoverD, hu, Try.ntmps65, Exit.thenS]
  refine wpS_cond (t := true) (by simp [Act.eval, Array.replicate]) ?_
  simp only [if_true]
  apply wpS_region
  simp [wpOpsS, go_sem, q0, z0, qe, ze, bodyPostS, results, Try.results65]
  exact ((Below.refl B w).setCell (p := ⟨B, 0, none⟩) (show B ≤ B by omega) _).setCell (p := ⟨B + 1, 0, none⟩) (show B ≤ B + 1 by omega) _

set_option maxRecDepth 100000 in
set_option maxHeartbeats 1000000 in
theorem ktakeg_any (a : Option Addr) (L c : Nat) (x : Nat → Nat) (w : World) (hx : BytesAt w a L x) (hc : L ≤ c) :
    Calls Try.prog 53 #[.slice a L c] w fun e w' => GoneTake w L x e w' := by
  have hmf : ∀ (fn : Fn) (first cap : Array Value) (w : World), (Instr.makeFunc fn first cap).run Try.prog w = .ok (.func fn first cap) w := fun _ _ _ _ => rfl
  have K1 : Hid (Kg (((w.alloc (.cells #[.int .u32 0] 23)).alloc (.cells #[.int .i64 0] 34)).alloc (.cells #[.slice a L c] 89)) w.heap.size 0 a L c) := Kg.made w _ _ _ a L c
  have b1 : Hid (Below w.heap.size w (((w.alloc (.cells #[.int .u32 0] 23)).alloc (.cells #[.int .i64 0] 34)).alloc (.cells #[.slice a L c] 89))) := ((((Below.refl _ w).alloc (Nat.le_refl _) _).alloc (by simp) _).alloc (by simp; omega) _)
  have B1 : Hid (BytesAt (((w.alloc (.cells #[.int .u32 0] 23)).alloc (.cells #[.int .i64 0] 34)).alloc (.cells #[.slice a L c] 89)) a L x) := hx.grew b1.out
  clear hx
  go_enter_defers Try.func53, Try.ntmps53
  go_wp2_with fail
  generalize (((w.alloc (.cells #[.int .u32 0] 23)).alloc (.cells #[.int .i64 0] 34)).alloc (.cells #[.slice a L c] 89)) = w1 at *
  by_cases h4 : ¬ 4 ≤ L
  · refine (knumber_no (w.heap.size + 1 + 1) _ (L) (c) 4 _ K1.out.rd (by omega)).mono ?_
    rintro e w' ⟨rfl, rfl⟩
    go_wp2
    refine leaves_cons (f := 65) (args := #[.pointer (some ⟨w.heap.size, 0, none⟩), .pointer (some ⟨w.heap.size + 1, 0, none⟩)]) (by simp) (by simp [go_sem]) ?_
    refine (kcatchg _ _ _ _ _ [] _ K1.out).mono ?_
    rintro e u' w'' ⟨rfl, rfl, ⟨q0, qe⟩, d⟩
    have HA : Hid (GoneTake w L x (.returned (.tuple #[.int .u32 0, .int .i64 2])) w'') := GoneTake.no (by omega) (b1.out.trans d)
    clear d
    simp [Leaves, settle, results, Try.results53, go_sem, q0, qe]
    exact HA.out
  refine (knumber_yes (w.heap.size + 1 + 1) _ (L) (c) 4 _ _ B1.out (by omega) K1.out.rd K1.out.rdT (by decide) (by decide) (by omega)).mono ?_
  rintro e w' ⟨a2, rfl, rfl, X2⟩
  have E2 : Hid (Kg (w1.setCell ⟨w.heap.size + 1 + 1, 0, none⟩ (.slice a2 (L - 4) (c - 4))) w.heap.size 0 a2 (L - 4) (c - 4)) := K1.out.next _ _ _
  have d2 : Hid (Below w.heap.size w (w1.setCell ⟨w.heap.size + 1 + 1, 0, none⟩ (.slice a2 (L - 4) (c - 4)))) := b1.out.setCell (show w.heap.size ≤ w.heap.size + 1 + 1 by omega) _
  have lf : Crc.numTo (x) 4 < 4294967296 := Crc.numTo_lt 4 fun i hi => B1.out.lt i (by omega)
  obtain ⟨f, hf⟩ : ∃ f, f = Crc.numTo (x) 4 := ⟨_, rfl⟩
  rw [← hf] at lf ⊢
  have Hf : Hid (f = Crc.numTo (x) 4) := hf
  clear hf
  generalize w1.setCell ⟨w.heap.size + 1 + 1, 0, none⟩ (.slice a2 (L - 4) (c - 4)) = v2 at *
  have X2 : BytesAt v2 a2 (L - 4) (fun i => x (4 + i)) := X2.congr fun i _ => congrArg x (by omega)
  have q := E2.out.c0
  have z := E2.out.z0
  have K2 : Hid (Kg (v2.setCell ⟨w.heap.size, 0, none⟩ (.int .u32 (f : Int))) w.heap.size f a2 (L - 4) (c - 4)) := E2.out.part0 f
  have b2 : Hid (Below w.heap.size w (v2.setCell ⟨w.heap.size, 0, none⟩ (.int .u32 (f : Int)))) := d2.out.setCell (show w.heap.size ≤ w.heap.size by omega) _
  have B2 : Hid (BytesAt (v2.setCell ⟨w.heap.size, 0, none⟩ (.int .u32 (f : Int))) a2 (L - 4) (fun i => x (4 + i))) := X2.setNum q (by decide)
  clear X2 E2 d2 K1 b1 B1
  go_wp2_with fail
  generalize v2.setCell ⟨w.heap.size, 0, none⟩ (.int .u32 (f : Int)) = w2 at *
  clear q z
  by_cases hE : L - 4 ≠ 0
  · refine (kend_no (w.heap.size + 1 + 1) _ (L - 4) (c - 4) _ K2.out.rd hE).mono ?_
    rintro e w' ⟨rfl, rfl⟩
    go_wp2
    refine leaves_cons (f := 65) (args := #[.pointer (some ⟨w.heap.size, 0, none⟩), .pointer (some ⟨w.heap.size + 1, 0, none⟩)]) (by simp) (by simp [go_sem]) ?_
    refine (kcatchg _ _ _ _ _ [] _ K2.out).mono ?_
    rintro e u' w'' ⟨rfl, rfl, ⟨q0, qe⟩, d⟩
    have HA : Hid (GoneTake w L x (.returned (.tuple #[.int .u32 0, .int .i64 2])) w'') := GoneTake.no (by omega) (b2.out.trans d)
    clear d
    simp [Leaves, settle, results, Try.results53, go_sem, q0, qe]
    exact HA.out
  have hL : L = 4 := by omega
  refine (kend_yes (w.heap.size + 1 + 1) _ (L - 4) (c - 4) _ K2.out.rd (by omega)).mono ?_
  rintro e w6 ⟨rfl, rfl⟩
  have q0 := K2.out.c0
  have z0 := K2.out.z0
  have qe := K2.out.er
  have ze := K2.out.erT
  have KK := (K2.out.part0 f)
  have r0 : ((w6.setCell ⟨w.heap.size, 0, none⟩ (.int .u32 (f : Int))).setCell ⟨w.heap.size + 1, 0, none⟩ (.int .i64 0)).cell? ⟨w.heap.size, 0, none⟩ = some (.int .u32 (f : Int)) := (World.cell?_setCell_other _ _ _ _ (blk_ne (by omega))).trans KK.c0
  have re : ((w6.setCell ⟨w.heap.size, 0, none⟩ (.int .u32 (f : Int))).setCell ⟨w.heap.size + 1, 0, none⟩ (.int .i64 0)).cell? ⟨w.heap.size + 1, 0, none⟩ = some (.int .i64 0) := World.cell?_setCell_same _ _ _ KK.er
  have bb : Below w.heap.size w ((w6.setCell ⟨w.heap.size, 0, none⟩ (.int .u32 (f : Int))).setCell ⟨w.heap.size + 1, 0, none⟩ (.int .i64 0)) := ((b2.out.setCell (p := ⟨w.heap.size, 0, none⟩) (show w.heap.size ≤ w.heap.size by omega) (.int .u32 (f : Int))).setCell (p := ⟨w.heap.size + 1, 0, none⟩) (show w.heap.size ≤ w.heap.size + 1 by omega) (.int .i64 0))
  have HA : Hid (GoneTake w L x (.returned (.tuple #[.int .u32 (f : Int), .int .i64 0])) ((w6.setCell ⟨w.heap.size, 0, none⟩ (.int .u32 (f : Int))).setCell ⟨w.heap.size + 1, 0, none⟩ (.int .i64 0))) := by
    subst hL
    exact GoneTake.yes Hf.out bb
  clear KK bb K2 b2 B2 Hf
  go_wp2
  generalize ((w6.setCell ⟨w.heap.size, 0, none⟩ (.int .u32 (f : Int))).setCell ⟨w.heap.size + 1, 0, none⟩ (.int .i64 0)) = w7 at *
  clear q0 z0 qe ze
  refine leaves_cons (f := 65) (args := #[.pointer (some ⟨w.heap.size, 0, none⟩), .pointer (some ⟨w.heap.size + 1, 0, none⟩)]) (by simp) (by simp [go_sem]) ?_
  refine (kidleg ⟨w.heap.size, 0, none⟩ ⟨w.heap.size + 1, 0, none⟩ _).mono ?_
  rintro e u' w'' ⟨rfl, rfl, rfl⟩
  simp [Leaves, settle, results, Try.results53, go_sem, r0, re]
  exact HA.out

end Go.Proofs.Ytcflaklnafggmaa
