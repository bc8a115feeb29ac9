/-
  Package head: Take.
-/
import Derived.Test.YtcflaklnafggmaaHtk
namespace Go.Proofs.Ytcflaklnafggmaa
open Go.RowKit Go.Deep

/-- Take's variables, at B (the data), B + 1 (the error), B + 1 + 1 (the reader: what is left). -/
structure Tk (w : World) (B s t f y : Nat) (a : Option Addr) (L c : Nat) : Prop where
  dat : DatAt w B s t f y none 0 0
  er : w.cell? ⟨B + 1, 0, none⟩ = some (.int .i64 0)
  erT : w.frozen? ⟨B + 1, 0, none⟩ = false
  rd : w.cell? ⟨B + 1 + 1, 0, none⟩ = some (.slice a L c)
  rdT : w.frozen? ⟨B + 1 + 1, 0, none⟩ = false

theorem catchH_idle (p q : Addr) (w : World) :
    CallsD Try.prog 57 #[.pointer (some p), .pointer (some q)] .returning w fun e u' w' => e = .returned (.tuple #[]) ∧ u' = .returning ∧ w' = w := by
  refine callsD_of_wpS Try.func57 rfl fun c₀ cs hu => ?_
  apply wpS_seq
  apply wpS_region
  simp [wpOpsS, go_sem, recoverD, hu, Try.ntmps57, Exit.thenS]
  refine wpS_cond (t := false) (by simp [Act.eval, Array.replicate]) ?_
  simp only [Bool.false_eq_true, if_false]
  refine wpS_of_wp (wp_skip ?_)
  cases c₀
  simp_all [bodyPostS, results, Try.results57]

theorem catchH_yes (B s t f y : Nat) (a : Option Addr) (L c : Nat) (older : List PanicEntry) (w : World) (h : Tk w B s t f y a L c) :
    CallsD Try.prog 57 #[.pointer (some ⟨B, 0, none⟩), .pointer (some ⟨B + 1, 0, none⟩)] (.panicking ({ v := .iface 96 (.agg #[]), recovered := false } :: older)) w fun e u' w' =>
      e = .returned (.tuple #[]) ∧ u' = .panicking ({ v := .iface 96 (.agg #[]), recovered := true } :: older) ∧ DatAt w' B 0 0 0 0 none 0 0 ∧ w'.cell? ⟨B + 1, 0, none⟩ = some (.int .i64 2) ∧ Below B w w' := by
  have q0 := h.dat.c0
  have q1 := h.dat.c1
  have q2 := h.dat.c2
  have q3 := h.dat.c3
  have q4 := h.dat.c4
  have z0 := h.dat.frz 0
  have z1 := h.dat.frz 1
  have z2 := h.dat.frz 2
  have z3 := h.dat.frz 3
  have z4 := h.dat.frz 4
  have q5 := h.er
  have z5 := h.erT
  refine callsD_of_wpS Try.func57 rfl fun c₀ cs hu => ?_
  apply wpS_seq
  apply wpS_region
  simp [wpOpsS, go_sem, recoverD, hu, Try.ntmps57, Exit.thenS]
  refine wpS_cond (t := true) (by simp [Act.eval, Array.replicate]) ?_
  simp only [if_true]
  apply wpS_region
  simp [wpOpsS, go_sem, q0, q1, q2, q3, q4, q5, z0, z1, z2, z3, z4, z5, bodyPostS, results, Try.results57]
  have D : DatAt ((((((w.setCell ⟨B, 0, none⟩ (.int .u16 0)).setCell ⟨B, 1, none⟩ (.int .u16 0)).setCell ⟨B, 2, none⟩ (.int .u32 0)).setCell ⟨B, 3, none⟩ (.int .u16 0)).setCell ⟨B, 4, none⟩ (.slice none 0 0)).setCell ⟨B + 1, 0, none⟩ (.int .i64 2)) B 0 0 0 0 none 0 0 :=
    DatAt.other ((((((h.dat.seq 0).stamp 0).frame 0).symbol 0).body none 0 0)) _ (by omega)
  exact ⟨D, ((((((Below.refl B w).setCell (Nat.le_refl _) _).setCell (Nat.le_refl _) _).setCell (Nat.le_refl _) _).setCell (Nat.le_refl _) _).setCell (Nat.le_refl _) _).setCell (Nat.le_succ _) _⟩

theorem Tk.made (w : World) (T U V : TypeId) (a : Option Addr) (L c : Nat) :
    Tk (((w.alloc (.cells #[.int .u16 0, .int .u16 0, .int .u32 0, .int .u16 0, .slice none 0 0] T)).alloc (.cells #[.int .i64 0] U)).alloc (.cells #[.slice a L c] V)) w.heap.size 0 0 0 0 a L c := by
  have D := DatAt.made w T 0 0 0 0 none 0 0
  have b3 := (Below.refl ((w.alloc (.cells #[.int .u16 0, .int .u16 0, .int .u32 0, .int .u16 0, .slice none 0 0] T)).alloc (.cells #[.int .i64 0] U)).heap.size ((w.alloc (.cells #[.int .u16 0, .int .u16 0, .int .u32 0, .int .u16 0, .slice none 0 0] T)).alloc (.cells #[.int .i64 0] U))).alloc (Nat.le_refl _) (.cells #[.slice a L c] V)
  have E : ((w.alloc (.cells #[.int .u16 0, .int .u16 0, .int .u32 0, .int .u16 0, .slice none 0 0] T)).alloc (.cells #[.int .i64 0] U)).cell? ⟨w.heap.size + 1, 0, none⟩ = some (.int .i64 0) := by
    rw [World.cell?_alloc_at _ _ _ _ (by simp)]; rfl
  have F : ((w.alloc (.cells #[.int .u16 0, .int .u16 0, .int .u32 0, .int .u16 0, .slice none 0 0] T)).alloc (.cells #[.int .i64 0] U)).frozen? ⟨w.heap.size + 1, 0, none⟩ = false := by
    rw [World.frozen?_alloc_at _ _ _ _ (by simp)]
  refine ⟨(D.grew ((Below.refl _ _).alloc (Nat.le_refl _) _)).grew b3, (b3.cell (p := ⟨w.heap.size + 1, 0, none⟩) (cell_lt E)).trans E, (World.frozen?_of_block (a := ⟨w.heap.size + 1, 0, none⟩) (b3.block _ (cell_lt E))).trans F, ?_, ?_⟩
  · rw [World.cell?_alloc_at _ _ _ _ (by simp)]; rfl
  · rw [World.frozen?_alloc_at _ _ _ _ (by simp)]
/-- The reader goes on. -/
theorem Tk.next {w : World} {B s t f y : Nat} {a : Option Addr} {L c : Nat} (h : Tk w B s t f y a L c) (a' : Option Addr) (L' c' : Nat) : Tk (w.setCell ⟨B + 1 + 1, 0, none⟩ (.slice a' L' c')) B s t f y a' L' c' :=
  ⟨h.dat.other _ (by omega), (World.cell?_setCell_other _ _ _ _ (blk_ne (by omega))).trans h.er, by rw [World.frozen?_setCell]; exact h.erT, World.cell?_setCell_same _ _ _ h.rd, by rw [World.frozen?_setCell]; exact h.rdT⟩
/-- A part of the data is written. -/
theorem Tk.part {w : World} {B s t f y s' t' f' y' i : Nat} {a : Option Addr} {L c : Nat} {v : Value} (h : Tk w B s t f y a L c) (hd : DatAt (w.setCell ⟨B, i, none⟩ v) B s' t' f' y' none 0 0) : Tk (w.setCell ⟨B, i, none⟩ v) B s' t' f' y' a L c := by
  exact ⟨hd, (World.cell?_setCell_other _ _ _ _ (blk_ne (by omega))).trans h.er, by rw [World.frozen?_setCell]; exact h.erT, (World.cell?_setCell_other _ _ _ _ (blk_ne (by omega))).trans h.rd, by rw [World.frozen?_setCell]; exact h.rdT⟩
theorem Tk.grew {w w' : World} {B s t f y : Nat} {a : Option Addr} {L c : Nat} (h : Tk w B s t f y a L c) (hb : Below w.heap.size w w') : Tk w' B s t f y a L c :=
  ⟨h.dat.grew hb, (hb.cell (p := ⟨B + 1, 0, none⟩) (cell_lt h.er)).trans h.er, (World.frozen?_of_block (a := ⟨B + 1, 0, none⟩) (hb.block _ (cell_lt h.er))).trans h.erT, (hb.cell (p := ⟨B + 1 + 1, 0, none⟩) (cell_lt h.rd)).trans h.rd, (World.frozen?_of_block (a := ⟨B + 1 + 1, 0, none⟩) (hb.block _ (cell_lt h.rd))).trans h.rdT⟩
-- the walk of Take, by htake.py
set_option maxRecDepth 100000 in
set_option maxHeartbeats 1000000 in
theorem htake_any (a : Option Addr) (L c : Nat) (x : Nat → Nat) (w : World) (hx : BytesAt w a L x) (hc : L ≤ c) :
    Calls Try.prog 47 #[.slice a L c] w fun e w' => TakeIs w L x e w' := by
  have hmf : ∀ (fn : Fn) (first cap : Array Value) (w : World), (Instr.makeFunc fn first cap).run Try.prog w = .ok (.func fn first cap) w := fun _ _ _ _ => rfl
  have K1 : Hid (Tk (((w.alloc (.cells #[.int .u16 0, .int .u16 0, .int .u32 0, .int .u16 0, .slice none 0 0] 26)).alloc (.cells #[.int .i64 0] 34)).alloc (.cells #[.slice a L c] 85)) w.heap.size 0 0 0 0 a L c) := Tk.made w _ _ _ a L c
  have b1 : Hid (Below w.heap.size w (((w.alloc (.cells #[.int .u16 0, .int .u16 0, .int .u32 0, .int .u16 0, .slice none 0 0] 26)).alloc (.cells #[.int .i64 0] 34)).alloc (.cells #[.slice a L c] 85))) := ((((Below.refl _ w).alloc (Nat.le_refl _) _).alloc (by simp) _).alloc (by simp; omega) _)
  have B1 : Hid (BytesAt (((w.alloc (.cells #[.int .u16 0, .int .u16 0, .int .u32 0, .int .u16 0, .slice none 0 0] 26)).alloc (.cells #[.int .i64 0] 34)).alloc (.cells #[.slice a L c] 85)) a L x) := hx.grew b1.out
  clear hx
  go_enter_defers Try.func47, Try.ntmps47
  go_wp2_with fail
  generalize (((w.alloc (.cells #[.int .u16 0, .int .u16 0, .int .u32 0, .int .u16 0, .slice none 0 0] 26)).alloc (.cells #[.int .i64 0] 34)).alloc (.cells #[.slice a L c] 85)) = w1 at *
  by_cases h2 : ¬ 2 ≤ L
  · refine (hnumber_no (w.heap.size + 1 + 1) _ (L) (c) 2 _ K1.out.rd (by omega)).mono ?_
    rintro e w' ⟨rfl, rfl⟩
    go_wp2
    refine leaves_cons (f := 57) (args := #[.pointer (some ⟨w.heap.size, 0, none⟩), .pointer (some ⟨w.heap.size + 1, 0, none⟩)]) (by simp) (by simp [go_sem]) ?_
    refine (catchH_yes _ _ _ _ _ _ _ _ [] _ K1.out).mono ?_
    rintro e u' w'' ⟨rfl, rfl, D, q5, d⟩
    have HA : Hid (TakeIs w L x (.returned (.tuple #[.agg #[.int .u16 0, .int .u16 0, .int .u32 0, .int .u16 0, .slice none 0 0], .int .i64 2])) w'') := TakeIs.no (by omega) (b1.out.trans d)
    have q0 := D.c0
    have q1 := D.c1
    have q2 := D.c2
    have q3 := D.c3
    have q4 := D.c4
    clear D d
    simp [Leaves, settle, results, Try.results47, go_sem, q0, q1, q2, q3, q4, q5]
    exact HA.out
  refine (hnumber_yes (w.heap.size + 1 + 1) _ (L) (c) 2 _ _ B1.out (by omega) K1.out.rd K1.out.rdT (by decide) (by decide) (by omega)).mono ?_
  rintro e w' ⟨a2, rfl, rfl, X2⟩
  have E2 : Hid (Tk (w1.setCell ⟨w.heap.size + 1 + 1, 0, none⟩ (.slice a2 (L - 2) (c - 2))) w.heap.size 0 0 0 0 a2 (L - 2) (c - 2)) := K1.out.next _ _ _
  have d2 : Hid (Below w.heap.size w (w1.setCell ⟨w.heap.size + 1 + 1, 0, none⟩ (.slice a2 (L - 2) (c - 2)))) := b1.out.setCell (show w.heap.size ≤ w.heap.size + 1 + 1 by omega) _
  have ls : Crc.numTo (x) 2 < 65536 := Crc.numTo_lt 2 fun i hi => B1.out.lt i (by omega)
  obtain ⟨s, hs⟩ : ∃ s, s = Crc.numTo (x) 2 := ⟨_, rfl⟩
  rw [← hs] at ls ⊢
  have Hs : Hid (s = Crc.numTo (x) 2) := hs
  clear hs
  generalize w1.setCell ⟨w.heap.size + 1 + 1, 0, none⟩ (.slice a2 (L - 2) (c - 2)) = v2 at *
  have X2 : BytesAt v2 a2 (L - 2) (fun i => x (2 + i)) := X2.congr fun i _ => congrArg x (by omega)
  have q := E2.out.dat.c0
  have z := E2.out.dat.frz 0
  have K2 : Hid (Tk (v2.setCell ⟨w.heap.size, 0, none⟩ (.int .u16 (s : Int))) w.heap.size s 0 0 0 a2 (L - 2) (c - 2)) := E2.out.part (E2.out.dat.seq s)
  have b2 : Hid (Below w.heap.size w (v2.setCell ⟨w.heap.size, 0, none⟩ (.int .u16 (s : Int)))) := d2.out.setCell (Nat.le_refl _) _
  have B2 : Hid (BytesAt (v2.setCell ⟨w.heap.size, 0, none⟩ (.int .u16 (s : Int))) a2 (L - 2) (fun i => x (2 + i))) := X2.setNum q (by decide)
  clear X2 E2 d2 K1 b1 B1
  go_wp2_with fail
  generalize v2.setCell ⟨w.heap.size, 0, none⟩ (.int .u16 (s : Int)) = w2 at *
  clear q z
  by_cases h4 : ¬ 4 ≤ L
  · refine (hnumber_no (w.heap.size + 1 + 1) _ (L - 2) (c - 2) 2 _ K2.out.rd (by omega)).mono ?_
    rintro e w' ⟨rfl, rfl⟩
    go_wp2
    refine leaves_cons (f := 57) (args := #[.pointer (some ⟨w.heap.size, 0, none⟩), .pointer (some ⟨w.heap.size + 1, 0, none⟩)]) (by simp) (by simp [go_sem]) ?_
    refine (catchH_yes _ _ _ _ _ _ _ _ [] _ K2.out).mono ?_
    rintro e u' w'' ⟨rfl, rfl, D, q5, d⟩
    have HA : Hid (TakeIs w L x (.returned (.tuple #[.agg #[.int .u16 0, .int .u16 0, .int .u32 0, .int .u16 0, .slice none 0 0], .int .i64 2])) w'') := TakeIs.no (by omega) (b2.out.trans d)
    have q0 := D.c0
    have q1 := D.c1
    have q2 := D.c2
    have q3 := D.c3
    have q4 := D.c4
    clear D d
    simp [Leaves, settle, results, Try.results47, go_sem, q0, q1, q2, q3, q4, q5]
    exact HA.out
  refine (hnumber_yes (w.heap.size + 1 + 1) _ (L - 2) (c - 2) 2 _ _ B2.out (by omega) K2.out.rd K2.out.rdT (by decide) (by decide) (by omega)).mono ?_
  rintro e w' ⟨a3, rfl, rfl, X3⟩
  have E3 : Hid (Tk (w2.setCell ⟨w.heap.size + 1 + 1, 0, none⟩ (.slice a3 (L - 2 - 2) (c - 2 - 2))) w.heap.size s 0 0 0 a3 (L - 2 - 2) (c - 2 - 2)) := K2.out.next _ _ _
  have d3 : Hid (Below w.heap.size w (w2.setCell ⟨w.heap.size + 1 + 1, 0, none⟩ (.slice a3 (L - 2 - 2) (c - 2 - 2)))) := b2.out.setCell (show w.heap.size ≤ w.heap.size + 1 + 1 by omega) _
  have lt : Crc.numTo (fun i => x (2 + i)) 2 < 65536 := Crc.numTo_lt 2 fun i hi => B2.out.lt i (by omega)
  obtain ⟨t, ht⟩ : ∃ t, t = Crc.numTo (fun i => x (2 + i)) 2 := ⟨_, rfl⟩
  rw [← ht] at lt ⊢
  have Ht : Hid (t = Crc.numTo (fun i => x (2 + i)) 2) := ht
  clear ht
  generalize w2.setCell ⟨w.heap.size + 1 + 1, 0, none⟩ (.slice a3 (L - 2 - 2) (c - 2 - 2)) = v3 at *
  have X3 : BytesAt v3 a3 (L - 2 - 2) (fun i => x (4 + i)) := X3.congr fun i _ => congrArg x (by omega)
  have q := E3.out.dat.c1
  have z := E3.out.dat.frz 1
  have K3 : Hid (Tk (v3.setCell ⟨w.heap.size, 1, none⟩ (.int .u16 (t : Int))) w.heap.size s t 0 0 a3 (L - 2 - 2) (c - 2 - 2)) := E3.out.part (E3.out.dat.stamp t)
  have b3 : Hid (Below w.heap.size w (v3.setCell ⟨w.heap.size, 1, none⟩ (.int .u16 (t : Int)))) := d3.out.setCell (Nat.le_refl _) _
  have B3 : Hid (BytesAt (v3.setCell ⟨w.heap.size, 1, none⟩ (.int .u16 (t : Int))) a3 (L - 2 - 2) (fun i => x (4 + i))) := X3.setNum q (by decide)
  clear X3 E3 d3 K2 b2 B2
  go_wp2_with fail
  generalize v3.setCell ⟨w.heap.size, 1, none⟩ (.int .u16 (t : Int)) = w3 at *
  clear q z
  by_cases h8 : ¬ 8 ≤ L
  · refine (hnumber_no (w.heap.size + 1 + 1) _ (L - 2 - 2) (c - 2 - 2) 4 _ K3.out.rd (by omega)).mono ?_
    rintro e w' ⟨rfl, rfl⟩
    go_wp2
    refine leaves_cons (f := 57) (args := #[.pointer (some ⟨w.heap.size, 0, none⟩), .pointer (some ⟨w.heap.size + 1, 0, none⟩)]) (by simp) (by simp [go_sem]) ?_
    refine (catchH_yes _ _ _ _ _ _ _ _ [] _ K3.out).mono ?_
    rintro e u' w'' ⟨rfl, rfl, D, q5, d⟩
    have HA : Hid (TakeIs w L x (.returned (.tuple #[.agg #[.int .u16 0, .int .u16 0, .int .u32 0, .int .u16 0, .slice none 0 0], .int .i64 2])) w'') := TakeIs.no (by omega) (b3.out.trans d)
    have q0 := D.c0
    have q1 := D.c1
    have q2 := D.c2
    have q3 := D.c3
    have q4 := D.c4
    clear D d
    simp [Leaves, settle, results, Try.results47, go_sem, q0, q1, q2, q3, q4, q5]
    exact HA.out
  refine (hnumber_yes (w.heap.size + 1 + 1) _ (L - 2 - 2) (c - 2 - 2) 4 _ _ B3.out (by omega) K3.out.rd K3.out.rdT (by decide) (by decide) (by omega)).mono ?_
  rintro e w' ⟨a4, rfl, rfl, X4⟩
  have E4 : Hid (Tk (w3.setCell ⟨w.heap.size + 1 + 1, 0, none⟩ (.slice a4 (L - 2 - 2 - 4) (c - 2 - 2 - 4))) w.heap.size s t 0 0 a4 (L - 2 - 2 - 4) (c - 2 - 2 - 4)) := K3.out.next _ _ _
  have d4 : Hid (Below w.heap.size w (w3.setCell ⟨w.heap.size + 1 + 1, 0, none⟩ (.slice a4 (L - 2 - 2 - 4) (c - 2 - 2 - 4)))) := b3.out.setCell (show w.heap.size ≤ w.heap.size + 1 + 1 by omega) _
  have lf : Crc.numTo (fun i => x (4 + i)) 4 < 4294967296 := Crc.numTo_lt 4 fun i hi => B3.out.lt i (by omega)
  obtain ⟨f, hf⟩ : ∃ f, f = Crc.numTo (fun i => x (4 + i)) 4 := ⟨_, rfl⟩
  rw [← hf] at lf ⊢
  have Hf : Hid (f = Crc.numTo (fun i => x (4 + i)) 4) := hf
  clear hf
  generalize w3.setCell ⟨w.heap.size + 1 + 1, 0, none⟩ (.slice a4 (L - 2 - 2 - 4) (c - 2 - 2 - 4)) = v4 at *
  have X4 : BytesAt v4 a4 (L - 2 - 2 - 4) (fun i => x (8 + i)) := X4.congr fun i _ => congrArg x (by omega)
  have q := E4.out.dat.c2
  have z := E4.out.dat.frz 2
  have K4 : Hid (Tk (v4.setCell ⟨w.heap.size, 2, none⟩ (.int .u32 (f : Int))) w.heap.size s t f 0 a4 (L - 2 - 2 - 4) (c - 2 - 2 - 4)) := E4.out.part (E4.out.dat.frame f)
  have b4 : Hid (Below w.heap.size w (v4.setCell ⟨w.heap.size, 2, none⟩ (.int .u32 (f : Int)))) := d4.out.setCell (Nat.le_refl _) _
  have B4 : Hid (BytesAt (v4.setCell ⟨w.heap.size, 2, none⟩ (.int .u32 (f : Int))) a4 (L - 2 - 2 - 4) (fun i => x (8 + i))) := X4.setNum q (by decide)
  clear X4 E4 d4 K3 b3 B3
  go_wp2_with fail
  generalize v4.setCell ⟨w.heap.size, 2, none⟩ (.int .u32 (f : Int)) = w4 at *
  clear q z
  by_cases h10 : ¬ 10 ≤ L
  · refine (hnumber_no (w.heap.size + 1 + 1) _ (L - 2 - 2 - 4) (c - 2 - 2 - 4) 2 _ K4.out.rd (by omega)).mono ?_
    rintro e w' ⟨rfl, rfl⟩
    go_wp2
    refine leaves_cons (f := 57) (args := #[.pointer (some ⟨w.heap.size, 0, none⟩), .pointer (some ⟨w.heap.size + 1, 0, none⟩)]) (by simp) (by simp [go_sem]) ?_
    refine (catchH_yes _ _ _ _ _ _ _ _ [] _ K4.out).mono ?_
    rintro e u' w'' ⟨rfl, rfl, D, q5, d⟩
    have HA : Hid (TakeIs w L x (.returned (.tuple #[.agg #[.int .u16 0, .int .u16 0, .int .u32 0, .int .u16 0, .slice none 0 0], .int .i64 2])) w'') := TakeIs.no (by omega) (b4.out.trans d)
    have q0 := D.c0
    have q1 := D.c1
    have q2 := D.c2
    have q3 := D.c3
    have q4 := D.c4
    clear D d
    simp [Leaves, settle, results, Try.results47, go_sem, q0, q1, q2, q3, q4, q5]
    exact HA.out
  refine (hnumber_yes (w.heap.size + 1 + 1) _ (L - 2 - 2 - 4) (c - 2 - 2 - 4) 2 _ _ B4.out (by omega) K4.out.rd K4.out.rdT (by decide) (by decide) (by omega)).mono ?_
  rintro e w' ⟨a5, rfl, rfl, X5⟩
  have E5 : Hid (Tk (w4.setCell ⟨w.heap.size + 1 + 1, 0, none⟩ (.slice a5 (L - 2 - 2 - 4 - 2) (c - 2 - 2 - 4 - 2))) w.heap.size s t f 0 a5 (L - 2 - 2 - 4 - 2) (c - 2 - 2 - 4 - 2)) := K4.out.next _ _ _
  have d5 : Hid (Below w.heap.size w (w4.setCell ⟨w.heap.size + 1 + 1, 0, none⟩ (.slice a5 (L - 2 - 2 - 4 - 2) (c - 2 - 2 - 4 - 2)))) := b4.out.setCell (show w.heap.size ≤ w.heap.size + 1 + 1 by omega) _
  have ly : Crc.numTo (fun i => x (8 + i)) 2 < 65536 := Crc.numTo_lt 2 fun i hi => B4.out.lt i (by omega)
  obtain ⟨y, hy⟩ : ∃ y, y = Crc.numTo (fun i => x (8 + i)) 2 := ⟨_, rfl⟩
  rw [← hy] at ly ⊢
  have Hy : Hid (y = Crc.numTo (fun i => x (8 + i)) 2) := hy
  clear hy
  generalize w4.setCell ⟨w.heap.size + 1 + 1, 0, none⟩ (.slice a5 (L - 2 - 2 - 4 - 2) (c - 2 - 2 - 4 - 2)) = v5 at *
  have X5 : BytesAt v5 a5 (L - 2 - 2 - 4 - 2) (fun i => x (10 + i)) := X5.congr fun i _ => congrArg x (by omega)
  have q := E5.out.dat.c3
  have z := E5.out.dat.frz 3
  have K5 : Hid (Tk (v5.setCell ⟨w.heap.size, 3, none⟩ (.int .u16 (y : Int))) w.heap.size s t f y a5 (L - 2 - 2 - 4 - 2) (c - 2 - 2 - 4 - 2)) := E5.out.part (E5.out.dat.symbol y)
  have b5 : Hid (Below w.heap.size w (v5.setCell ⟨w.heap.size, 3, none⟩ (.int .u16 (y : Int)))) := d5.out.setCell (Nat.le_refl _) _
  have B5 : Hid (BytesAt (v5.setCell ⟨w.heap.size, 3, none⟩ (.int .u16 (y : Int))) a5 (L - 2 - 2 - 4 - 2) (fun i => x (10 + i))) := X5.setNum q (by decide)
  clear X5 E5 d5 K4 b4 B4
  go_wp2_with fail
  generalize v5.setCell ⟨w.heap.size, 3, none⟩ (.int .u16 (y : Int)) = w5 at *
  clear q z
  by_cases h11 : ¬ (1 ≤ L - 2 - 2 - 4 - 2 ∧ L - 2 - 2 - 4 - 2 ≤ 64)
  · refine (hbody_no (w.heap.size + 1 + 1) _ (L - 2 - 2 - 4 - 2) (c - 2 - 2 - 4 - 2) _ K5.out.rd h11).mono ?_
    rintro e w' ⟨rfl, rfl⟩
    go_wp2
    refine leaves_cons (f := 57) (args := #[.pointer (some ⟨w.heap.size, 0, none⟩), .pointer (some ⟨w.heap.size + 1, 0, none⟩)]) (by simp) (by simp [go_sem]) ?_
    refine (catchH_yes _ _ _ _ _ _ _ _ [] _ K5.out).mono ?_
    rintro e u' w'' ⟨rfl, rfl, D, q5, d⟩
    have HA : Hid (TakeIs w L x (.returned (.tuple #[.agg #[.int .u16 0, .int .u16 0, .int .u32 0, .int .u16 0, .slice none 0 0], .int .i64 2])) w'') := TakeIs.no (by omega) (b5.out.trans d)
    have q0 := D.c0
    have q1 := D.c1
    have q2 := D.c2
    have q3 := D.c3
    have q4 := D.c4
    clear D d
    simp [Leaves, settle, results, Try.results47, go_sem, q0, q1, q2, q3, q4, q5]
    exact HA.out
  obtain ⟨m, hm⟩ : ∃ m, m = L - 2 - 2 - 4 - 2 := ⟨_, rfl⟩
  have hm1 : 11 ≤ L := by omega
  have hm2 : L ≤ 74 := by omega
  have HM : Hid (m = L - 10) := by show _ = _; omega
  refine (hbody_yes (w.heap.size + 1 + 1) _ (L - 2 - 2 - 4 - 2) (c - 2 - 2 - 4 - 2) _ _ B5.out K5.out.rd (by omega) (by omega)).mono ?_
  rintro e w6 ⟨rfl, X6, d6⟩
  rw [← hm] at X6 ⊢
  have T6 : Tk w6 w.heap.size s t f y a5 (L - 2 - 2 - 4 - 2) (c - 2 - 2 - 4 - 2) := K5.out.grew d6
  have l5 := b5.out.size
  generalize w5.heap.size = G at *
  have q0 := T6.dat.c0
  have q1 := T6.dat.c1
  have q2 := T6.dat.c2
  have q3 := T6.dat.c3
  have q4 := T6.dat.c4
  have z0 := T6.dat.frz 0
  have z1 := T6.dat.frz 1
  have z2 := T6.dat.frz 2
  have z3 := T6.dat.frz 3
  have z4 := T6.dat.frz 4
  have q5 := T6.er
  have z5 := T6.erT
  have D1 := T6.dat.body (some ⟨G, 0, none⟩) m m
  have D2 := D1.seq s
  have D3 := D2.stamp t
  have D4 := D3.frame f
  have D5 := D4.symbol y
  have D6 := D5.body (some ⟨G, 0, none⟩) m m
  have e6 := (World.cell?_setCell_other _ ⟨w.heap.size, 4, none⟩ ⟨w.heap.size + 1, 0, none⟩ (.slice (some ⟨G, 0, none⟩) m m) (blk_ne (by omega))).trans q5
  have e6 := (World.cell?_setCell_other _ ⟨w.heap.size, 0, none⟩ ⟨w.heap.size + 1, 0, none⟩ (.int .u16 (s : Int)) (blk_ne (by omega))).trans e6
  have e6 := (World.cell?_setCell_other _ ⟨w.heap.size, 1, none⟩ ⟨w.heap.size + 1, 0, none⟩ (.int .u16 (t : Int)) (blk_ne (by omega))).trans e6
  have e6 := (World.cell?_setCell_other _ ⟨w.heap.size, 2, none⟩ ⟨w.heap.size + 1, 0, none⟩ (.int .u32 (f : Int)) (blk_ne (by omega))).trans e6
  have e6 := (World.cell?_setCell_other _ ⟨w.heap.size, 3, none⟩ ⟨w.heap.size + 1, 0, none⟩ (.int .u16 (y : Int)) (blk_ne (by omega))).trans e6
  have e6 := (World.cell?_setCell_other _ ⟨w.heap.size, 4, none⟩ ⟨w.heap.size + 1, 0, none⟩ (.slice (some ⟨G, 0, none⟩) m m) (blk_ne (by omega))).trans e6
  have X := ((((((X6.setSlice (v := .slice (some ⟨G, 0, none⟩) m m) q4).setNum (v := .int .u16 (s : Int)) D1.c0 (by decide)).setNum (v := .int .u16 (t : Int)) D2.c1 (by decide)).setNum (v := .int .u32 (f : Int)) D3.c2 (by decide)).setNum (v := .int .u16 (y : Int)) D4.c3 (by decide)).setSlice (v := .slice (some ⟨G, 0, none⟩) m m) D5.c4).setNum (v := .int .i64 0) e6 (by decide)
  have D := D6.other (R := w.heap.size + 1) (i := 0) (.int .i64 0) (by omega)
  have e7 := World.cell?_setCell_same _ ⟨w.heap.size + 1, 0, none⟩ (.int .i64 0) e6
  have b6 : Below w.heap.size w w6 := b5.out.trans (d6.mono l5)
  have b7 := ((((((b6.setCell (p := ⟨w.heap.size, 4, none⟩) (Nat.le_refl _) (.slice (some ⟨G, 0, none⟩) m m)).setCell (p := ⟨w.heap.size, 0, none⟩) (Nat.le_refl _) (.int .u16 (s : Int))).setCell (p := ⟨w.heap.size, 1, none⟩) (Nat.le_refl _) (.int .u16 (t : Int))).setCell (p := ⟨w.heap.size, 2, none⟩) (Nat.le_refl _) (.int .u32 (f : Int))).setCell (p := ⟨w.heap.size, 3, none⟩) (Nat.le_refl _) (.int .u16 (y : Int))).setCell (p := ⟨w.heap.size, 4, none⟩) (Nat.le_refl _) (.slice (some ⟨G, 0, none⟩) m m)).setCell (p := ⟨w.heap.size + 1, 0, none⟩) (Nat.le_succ _) (.int .i64 0)
  clear D1 D2 D3 D4 D5 D6 e6 T6 hm X6 b6 d6 K5 b5 B5 X5 X4 X3 X2
  go_wp2
  generalize ((((((w6.setCell ⟨w.heap.size, 4, none⟩ (.slice (some ⟨G, 0, none⟩) m m)).setCell ⟨w.heap.size, 0, none⟩ (.int .u16 (s : Int))).setCell ⟨w.heap.size, 1, none⟩ (.int .u16 (t : Int))).setCell ⟨w.heap.size, 2, none⟩ (.int .u32 (f : Int))).setCell ⟨w.heap.size, 3, none⟩ (.int .u16 (y : Int))).setCell ⟨w.heap.size, 4, none⟩ (.slice (some ⟨G, 0, none⟩) m m)).setCell ⟨w.heap.size + 1, 0, none⟩ (.int .i64 0) = w7 at *
  clear q0 q1 q2 q3 q4 z0 z1 z2 z3 z4 q5 z5
  have HA : Hid (TakeIs w L x (.returned (.tuple #[.agg #[.int .u16 (s : Int), .int .u16 (t : Int), .int .u32 (f : Int), .int .u16 (y : Int), .slice (some ⟨G, 0, none⟩) m m], .int .i64 0])) w7) := by
    have hm := HM.out
    subst hm
    exact TakeIs.yes hm1 hm2 Hs.out Ht.out Hf.out Hy.out (Nat.le_refl _) ⟨G, rfl, l5⟩ X b7
  have q0 := D.c0
  have q1 := D.c1
  have q2 := D.c2
  have q3 := D.c3
  have q4 := D.c4
  clear D X b7 Hs Ht Hf Hy HM
  refine leaves_cons (f := 57) (args := #[.pointer (some ⟨w.heap.size, 0, none⟩), .pointer (some ⟨w.heap.size + 1, 0, none⟩)]) (by simp) (by simp [go_sem]) ?_
  refine (catchH_idle ⟨w.heap.size, 0, none⟩ ⟨w.heap.size + 1, 0, none⟩ _).mono ?_
  rintro e u' w'' ⟨rfl, rfl, rfl⟩
  simp [Leaves, settle, results, Try.results47, go_sem, q0, q1, q2, q3, q4, e7]
  exact HA.out
end Go.Proofs.Ytcflaklnafggmaa
