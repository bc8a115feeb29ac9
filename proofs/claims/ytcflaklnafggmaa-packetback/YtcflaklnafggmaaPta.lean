/-
  Package packet: Take.
-/
import Derived.Test.YtcflaklnafggmaaPpu
namespace Go.Proofs.Ytcflaklnafggmaa
open Go.RowKit Go.Deep

/-- Take's variables, at B (the packet), B + 1 (the error). -/
structure Tv (w : World) (B : Nat) : Prop where
  pk : PkAt w B Pk.zero none 0
  er : w.cell? ⟨B + 1, 0, none⟩ = some (.int .i64 0)
  erT : w.frozen? ⟨B + 1, 0, none⟩ = false
theorem Tv.below {w w' : World} {B N : Nat} (h : Tv w B) (hb : Below N w w') (hN : B + 1 < N) : Tv w' B :=
  ⟨⟨fun i hi => (hb.cell (p := ⟨B, i, none⟩) (show B < N by omega)).trans (h.pk.cell i hi), fun i => (World.frozen?_of_block (a := ⟨B, i, none⟩) (hb.block B (by omega))).trans (h.pk.frz i)⟩,
   (hb.cell (p := ⟨B + 1, 0, none⟩) hN).trans h.er, (World.frozen?_of_block (a := ⟨B + 1, 0, none⟩) (hb.block _ hN)).trans h.erT⟩
theorem Tv.lt {w : World} {B : Nat} (h : Tv w B) : B + 1 < w.heap.size := cell_lt h.er
theorem Tv.grew {w w' : World} {B : Nat} (h : Tv w B) (hb : Below w.heap.size w w') : Tv w' B := h.below hb h.lt
theorem Tv.made {u : World} (T : TypeId) {B : Nat} (D : PkAt u B Pk.zero none 0) (hs : u.heap.size = B + 1) : Tv (u.alloc (.cells #[.int .i64 0] T)) B := by
  have a1 : Below u.heap.size u (u.alloc (.cells #[.int .i64 0] T)) := (Below.refl _ _).alloc (Nat.le_refl _) _
  refine ⟨D.grew a1, ?_, ?_⟩
  · rw [← hs, World.cell?_alloc_at _ _ _ _ rfl]; rfl
  · rw [← hs, World.frozen?_alloc_at _ _ _ _ rfl]
theorem free_take (i : Nat) (v : Value) (h2 : i ≠ 2) (h3 : i ≠ 3) (t : Array Value) : results Try.f11 (t.setIfInBounds i v) = results Try.f11 t := by
  simp [results, Try.results11, Array.getElem?_setIfInBounds, h2, h3]
theorem inP_k {k m : Nat} {y : Nat → Nat} {q : Pk} (h : inP k m y = some q) : q.k = (k : Int) ∧ 1 ≤ k ∧ k ≤ 4 := by
  unfold inP at h
  repeat' split at h
  all_goals cases h
  all_goals
    subst k
    exact ⟨rfl, by decide, by decide⟩
theorem field_take (f g : Nat) (w : World) : (Instr.field 54 (.agg #[.func (.func f) #[] #[], .func (.func g) #[] #[]]) 1).run Try.prog w = .ok (.func (.func g) #[] #[]) w := by kernel_rfl

set_option maxRecDepth 100000 in
set_option maxHeartbeats 2000000 in
theorem packtake_shut (a : Option Addr) (L c : Nat) (x : Nat → Nat) (w : World) (hx : BytesAt w a L x) (hc : L ≤ c) (hn : L ≤ 1000000) (h0 : opB x L = false) :
    Calls Try.prog 11 #[.slice a L c] w fun e w' => TkIs w L x e w' := by
  have h1 : opN x L = 0 := by unfold opN; rw [h0]; rfl
  have hmf : ∀ (fn : Fn) (first cap : Array Value) (w : World), (Instr.makeFunc fn first cap).run Try.prog w = .ok (.func fn first cap) w := fun _ _ _ _ => rfl
  have V2 : Hid (Tv ((w.alloc (.cells #[.int .i64 0, .int .u16 0, .int .u16 0, .int .u32 0, .int .u16 0, .slice none 0 0, .int .u64 0, .int .u32 0, .int .u32 0, .int .u16 0, .int .u16 0, .int .u32 0, .int .u16 0] 31)).alloc (.cells #[.int .i64 0] 34)) w.heap.size) := Tv.made _ (PkAt.made w _ Pk.zero none 0) (by simp)
  have b2 : Hid (Below w.heap.size w ((w.alloc (.cells #[.int .i64 0, .int .u16 0, .int .u16 0, .int .u32 0, .int .u16 0, .slice none 0 0, .int .u64 0, .int .u32 0, .int .u32 0, .int .u16 0, .int .u16 0, .int .u32 0, .int .u16 0] 31)).alloc (.cells #[.int .i64 0] 34))) := ((Below.refl _ _).alloc (Nat.le_refl _) _).alloc (by simp) _
  have HX : Hid (BytesAt w a L x) := hx
  clear hx
  go_enter_defers Try.func11, Try.ntmps11
  go_wp2_with fail
  generalize ((w.alloc (.cells #[.int .i64 0, .int .u16 0, .int .u16 0, .int .u32 0, .int .u16 0, .slice none 0 0, .int .u64 0, .int .u32 0, .int .u32 0, .int .u16 0, .int .u16 0, .int .u32 0, .int .u16 0] 31)).alloc (.cells #[.int .i64 0] 34)) = w2 at *
  refine (open_any a L c x w2 (HX.out.grew b2.out) hc hn).mono ?_
  intro e w3 h
  rw [h0, h1] at h
  obtain ⟨r3, c3, rfl, k1, -, k3, k4, d3⟩ := h
  have V3 := V2.out.grew d3
  have b3 := b2.out.trans (d3.mono b2.out.size)
  clear V2 b2 d3
  clear k1 k3 k4
  go_wp2_with fail
  refine (pdemand_no _ _ _ rfl).mono ?_
  rintro e w4 ⟨rfl, rfl⟩
  go_wp2
  refine leaves_cons (f := 25) (args := #[.pointer (some ⟨w.heap.size, 0, none⟩), .pointer (some ⟨w.heap.size + 1, 0, none⟩)]) (by simp) (by simp [go_sem]) ?_
  refine (catchT_yes w.heap.size (w.heap.size + 1) w.heap.size Pk.zero none 0 _ 3 [] w4 V3.pk V3.er V3.erT (by omega) (by omega) (by omega)).mono ?_
  rintro e u' w'' ⟨rfl, rfl, D, ce, d⟩
  have HA : Hid (TkIs w L x (.returned (.tuple #[.agg #[.int .i64 0, .int .u16 0, .int .u16 0, .int .u32 0, .int .u16 0, .slice none 0 0, .int .u64 0, .int .u32 0, .int .u32 0, .int .u16 0, .int .u16 0, .int .u32 0, .int .u16 0], .int .i64 3])) w'') := TkIs.shut h0 (b3.trans d)
  have c0 : w''.cell? ⟨w.heap.size, 0, none⟩ = some (.int .i64 0) := D.cell 0 (by decide)
  have c1 : w''.cell? ⟨w.heap.size, 1, none⟩ = some (.int .u16 0) := D.cell 1 (by decide)
  have c2 : w''.cell? ⟨w.heap.size, 2, none⟩ = some (.int .u16 0) := D.cell 2 (by decide)
  have cc3 : w''.cell? ⟨w.heap.size, 3, none⟩ = some (.int .u32 0) := D.cell 3 (by decide)
  have c4 : w''.cell? ⟨w.heap.size, 4, none⟩ = some (.int .u16 0) := D.cell 4 (by decide)
  have c5 : w''.cell? ⟨w.heap.size, 5, none⟩ = some (.slice none 0 0) := D.cell 5 (by decide)
  have c6 : w''.cell? ⟨w.heap.size, 6, none⟩ = some (.int .u64 0) := D.cell 6 (by decide)
  have c7 : w''.cell? ⟨w.heap.size, 7, none⟩ = some (.int .u32 0) := D.cell 7 (by decide)
  have c8 : w''.cell? ⟨w.heap.size, 8, none⟩ = some (.int .u32 0) := D.cell 8 (by decide)
  have c9 : w''.cell? ⟨w.heap.size, 9, none⟩ = some (.int .u16 0) := D.cell 9 (by decide)
  have c10 : w''.cell? ⟨w.heap.size, 10, none⟩ = some (.int .u16 0) := D.cell 10 (by decide)
  have c11 : w''.cell? ⟨w.heap.size, 11, none⟩ = some (.int .u32 0) := D.cell 11 (by decide)
  have c12 : w''.cell? ⟨w.heap.size, 12, none⟩ = some (.int .u16 0) := D.cell 12 (by decide)
  clear D d
  simp [Leaves, settle, results, Try.results11, go_sem, c0, c1, c2, cc3, c4, c5, c6, c7, c8, c9, c10, c11, c12, ce]
  exact HA.out

set_option maxRecDepth 100000 in
set_option maxHeartbeats 2000000 in
theorem packtake_bare (a : Option Addr) (L c : Nat) (x : Nat → Nat) (w : World) (hx : BytesAt w a L x) (hc : L ≤ c) (hn : L ≤ 1000000) (h0 : opB x L = true) (h1 : opN x L = 0) :
    Calls Try.prog 11 #[.slice a L c] w fun e w' => TkIs w L x e w' := by
  have hmf : ∀ (fn : Fn) (first cap : Array Value) (w : World), (Instr.makeFunc fn first cap).run Try.prog w = .ok (.func fn first cap) w := fun _ _ _ _ => rfl
  have V2 : Hid (Tv ((w.alloc (.cells #[.int .i64 0, .int .u16 0, .int .u16 0, .int .u32 0, .int .u16 0, .slice none 0 0, .int .u64 0, .int .u32 0, .int .u32 0, .int .u16 0, .int .u16 0, .int .u32 0, .int .u16 0] 31)).alloc (.cells #[.int .i64 0] 34)) w.heap.size) := Tv.made _ (PkAt.made w _ Pk.zero none 0) (by simp)
  have b2 : Hid (Below w.heap.size w ((w.alloc (.cells #[.int .i64 0, .int .u16 0, .int .u16 0, .int .u32 0, .int .u16 0, .slice none 0 0, .int .u64 0, .int .u32 0, .int .u32 0, .int .u16 0, .int .u16 0, .int .u32 0, .int .u16 0] 31)).alloc (.cells #[.int .i64 0] 34))) := ((Below.refl _ _).alloc (Nat.le_refl _) _).alloc (by simp) _
  have HX : Hid (BytesAt w a L x) := hx
  clear hx
  go_enter_defers Try.func11, Try.ntmps11
  go_wp2_with fail
  generalize ((w.alloc (.cells #[.int .i64 0, .int .u16 0, .int .u16 0, .int .u32 0, .int .u16 0, .slice none 0 0, .int .u64 0, .int .u32 0, .int .u32 0, .int .u16 0, .int .u16 0, .int .u32 0, .int .u16 0] 31)).alloc (.cells #[.int .i64 0] 34)) = w2 at *
  refine (open_any a L c x w2 (HX.out.grew b2.out) hc hn).mono ?_
  intro e w3 h
  rw [h0, h1] at h
  obtain ⟨r3, c3, rfl, k1, -, k3, k4, d3⟩ := h
  have V3 := V2.out.grew d3
  have b3 := b2.out.trans (d3.mono b2.out.size)
  clear V2 b2 d3
  clear k1 k3 k4
  go_wp2_with fail
  refine (pdemand_yes _ _ _ rfl).mono ?_
  rintro e w4 ⟨rfl, rfl⟩
  go_wp2_with fail
  refine (pdemand_no _ _ _ (by simp)).mono ?_
  rintro e w4' ⟨rfl, rfl⟩
  go_wp2
  refine leaves_cons (f := 25) (args := #[.pointer (some ⟨w.heap.size, 0, none⟩), .pointer (some ⟨w.heap.size + 1, 0, none⟩)]) (by simp) (by simp [go_sem]) ?_
  refine (catchT_yes w.heap.size (w.heap.size + 1) w.heap.size Pk.zero none 0 _ 2 [] w4' V3.pk V3.er V3.erT (by omega) (by omega) (by omega)).mono ?_
  rintro e u' w'' ⟨rfl, rfl, D, ce, d⟩
  have HA : Hid (TkIs w L x (.returned (.tuple #[.agg #[.int .i64 0, .int .u16 0, .int .u16 0, .int .u32 0, .int .u16 0, .slice none 0 0, .int .u64 0, .int .u32 0, .int .u32 0, .int .u16 0, .int .u16 0, .int .u32 0, .int .u16 0], .int .i64 2])) w'') := TkIs.form h0 (tk_bare h1) (b3.trans d)
  have c0 : w''.cell? ⟨w.heap.size, 0, none⟩ = some (.int .i64 0) := D.cell 0 (by decide)
  have c1 : w''.cell? ⟨w.heap.size, 1, none⟩ = some (.int .u16 0) := D.cell 1 (by decide)
  have c2 : w''.cell? ⟨w.heap.size, 2, none⟩ = some (.int .u16 0) := D.cell 2 (by decide)
  have cc3 : w''.cell? ⟨w.heap.size, 3, none⟩ = some (.int .u32 0) := D.cell 3 (by decide)
  have c4 : w''.cell? ⟨w.heap.size, 4, none⟩ = some (.int .u16 0) := D.cell 4 (by decide)
  have c5 : w''.cell? ⟨w.heap.size, 5, none⟩ = some (.slice none 0 0) := D.cell 5 (by decide)
  have c6 : w''.cell? ⟨w.heap.size, 6, none⟩ = some (.int .u64 0) := D.cell 6 (by decide)
  have c7 : w''.cell? ⟨w.heap.size, 7, none⟩ = some (.int .u32 0) := D.cell 7 (by decide)
  have c8 : w''.cell? ⟨w.heap.size, 8, none⟩ = some (.int .u32 0) := D.cell 8 (by decide)
  have c9 : w''.cell? ⟨w.heap.size, 9, none⟩ = some (.int .u16 0) := D.cell 9 (by decide)
  have c10 : w''.cell? ⟨w.heap.size, 10, none⟩ = some (.int .u16 0) := D.cell 10 (by decide)
  have c11 : w''.cell? ⟨w.heap.size, 11, none⟩ = some (.int .u32 0) := D.cell 11 (by decide)
  have c12 : w''.cell? ⟨w.heap.size, 12, none⟩ = some (.int .u16 0) := D.cell 12 (by decide)
  clear D d
  simp [Leaves, settle, results, Try.results11, go_sem, c0, c1, c2, cc3, c4, c5, c6, c7, c8, c9, c10, c11, c12, ce]
  exact HA.out

set_option maxRecDepth 100000 in
set_option maxHeartbeats 2000000 in
theorem packtake_kind (a : Option Addr) (L c : Nat) (x : Nat → Nat) (w : World) (hx : BytesAt w a L x) (hc : L ≤ c) (hn : L ≤ 1000000) (m k : Nat) (h0 : opB x L = true) (h1 : opN x L = m + 1) (hk : x 0 = k) (hK : ¬ (1 ≤ k ∧ k ≤ 4)) :
    Calls Try.prog 11 #[.slice a L c] w fun e w' => TkIs w L x e w' := by
  have hmf : ∀ (fn : Fn) (first cap : Array Value) (w : World), (Instr.makeFunc fn first cap).run Try.prog w = .ok (.func fn first cap) w := fun _ _ _ _ => rfl
  have V2 : Hid (Tv ((w.alloc (.cells #[.int .i64 0, .int .u16 0, .int .u16 0, .int .u32 0, .int .u16 0, .slice none 0 0, .int .u64 0, .int .u32 0, .int .u32 0, .int .u16 0, .int .u16 0, .int .u32 0, .int .u16 0] 31)).alloc (.cells #[.int .i64 0] 34)) w.heap.size) := Tv.made _ (PkAt.made w _ Pk.zero none 0) (by simp)
  have b2 : Hid (Below w.heap.size w ((w.alloc (.cells #[.int .i64 0, .int .u16 0, .int .u16 0, .int .u32 0, .int .u16 0, .slice none 0 0, .int .u64 0, .int .u32 0, .int .u32 0, .int .u16 0, .int .u16 0, .int .u32 0, .int .u16 0] 31)).alloc (.cells #[.int .i64 0] 34))) := ((Below.refl _ _).alloc (Nat.le_refl _) _).alloc (by simp) _
  have HX : Hid (BytesAt w a L x) := hx
  clear hx
  go_enter_defers Try.func11, Try.ntmps11
  go_wp2_with fail
  generalize ((w.alloc (.cells #[.int .i64 0, .int .u16 0, .int .u16 0, .int .u32 0, .int .u16 0, .slice none 0 0, .int .u64 0, .int .u32 0, .int .u32 0, .int .u16 0, .int .u16 0, .int .u32 0, .int .u16 0] 31)).alloc (.cells #[.int .i64 0] 34)) = w2 at *
  refine (open_any a L c x w2 (HX.out.grew b2.out) hc hn).mono ?_
  intro e w3 h
  rw [h0, h1] at h
  obtain ⟨r3, c3, rfl, k1, -, k3, k4, d3⟩ := h
  have V3 := V2.out.grew d3
  have b3 := b2.out.trans (d3.mono b2.out.size)
  clear V2 b2 d3
  obtain ⟨g3, rfl, -⟩ := k3 (by omega)
  have q := bytes_cell k4 0 (by omega)
  rw [Nat.add_zero] at q
  have lk := k4.lt 0 (by omega)
  obtain ⟨a5, hsl, B5⟩ := slice_left (some ⟨g3, 0, none⟩) (m + 1) c3 1 x w3 k4 (by omega) (by omega) k1
  rw [Nat.add_sub_cancel] at hsl B5
  have hsl : ∀ W, (Instr.slice 24 (.slice (some ⟨g3, 0, none⟩) (m + 1) c3) (some (.int .i64 1)) none none).run Try.prog W = .ok (.slice a5 m (c3 - 1)) W := hsl
  clear k3 k4
  rw [hk] at q lk
  have a4 : Below w3.heap.size w3 (w3.alloc (.cells #[.int .i64 (k : Int), .int .u16 0, .int .u16 0, .int .u32 0, .int .u16 0, .slice none 0 0, .int .u64 0, .int .u32 0, .int .u32 0, .int .u16 0, .int .u16 0, .int .u32 0, .int .u16 0] 56)) := (Below.refl _ _).alloc (Nat.le_refl _) _
  have HV : Hid (Tv (w3.alloc (.cells #[.int .i64 (k : Int), .int .u16 0, .int .u16 0, .int .u32 0, .int .u16 0, .slice none 0 0, .int .u64 0, .int .u32 0, .int .u32 0, .int .u16 0, .int .u16 0, .int .u32 0, .int .u16 0] 56)) w.heap.size) := V3.grew a4
  have HB : Hid (Below w.heap.size w (w3.alloc (.cells #[.int .i64 (k : Int), .int .u16 0, .int .u16 0, .int .u32 0, .int .u16 0, .slice none 0 0, .int .u64 0, .int .u32 0, .int .u32 0, .int .u16 0, .int .u16 0, .int .u32 0, .int .u16 0] 56))) := b3.trans (a4.mono b3.size)
  have HY : Hid (BytesAt (w3.alloc (.cells #[.int .i64 (k : Int), .int .u16 0, .int .u16 0, .int .u32 0, .int .u16 0, .slice none 0 0, .int .u64 0, .int .u32 0, .int .u32 0, .int .u16 0, .int .u16 0, .int .u32 0, .int .u16 0] 56)) a5 m (fun i => x (1 + i))) := B5.grew a4
  have HD : Hid (PkAt (w3.alloc (.cells #[.int .i64 (k : Int), .int .u16 0, .int .u16 0, .int .u32 0, .int .u16 0, .slice none 0 0, .int .u64 0, .int .u32 0, .int .u32 0, .int .u16 0, .int .u16 0, .int .u32 0, .int .u16 0] 56)) w3.heap.size (pKind k) none 0) := PkAt.made w3 56 (pKind k) none 0
  have hG : w.heap.size + 1 < w3.heap.size := V3.lt
  have HK : Hid (x 0 = k) := hk
  have hc3 : Hid (m ≤ c3 - 1) := by show _ ≤ _; omega
  have i1 : (0 : Int) < (m : Int) + 1 := by omega
  clear V3 b3 a4 B5 hk
  go_wp2_with fail
  refine (pdemand_yes _ _ _ rfl).mono ?_
  rintro e w4 ⟨rfl, rfl⟩
  go_wp2_with fail
  refine (pdemand_yes _ _ _ (by simp <;> omega)).mono ?_
  rintro e w4' ⟨rfl, rfl⟩
  go_wp2_with fail
  generalize (w4'.alloc (.cells #[.int .i64 (k : Int), .int .u16 0, .int .u16 0, .int .u32 0, .int .u16 0, .slice none 0 0, .int .u64 0, .int .u32 0, .int .u32 0, .int .u16 0, .int .u16 0, .int .u32 0, .int .u16 0] 56)) = w5 at *
  generalize w4'.heap.size = G at *
  clear q
  refine wp_region_held (S := fun w' => w'.cell? ⟨G, 0, none⟩ = some (.int .i64 (k : Int))) (by kernel_rfl) ?_
  change wpAnyH _ _ _ _ _ _ _ _ w5.drew
  have a6 : Below w5.heap.size w5 w5.drew := (Below.refl _ _).drew
  have V6 := HV.out.grew a6
  have D6 := HD.out.grew a6
  have Y6 := HY.out.grew a6
  have b6 : Below w.heap.size w w5.drew := HB.out.drew
  have hr : w5.drew.cell? ⟨G, 0, none⟩ = some (.int .i64 (k : Int)) := D6.cell 0 (by decide)
  clear HV HD HB HY a6
  generalize w5.drew = w6 at *
  refine wpAnyH_take (i := 0) (v := .pointer (some ⟨G, 0, none⟩)) rfl (by kernel_rfl) (by kernel_rfl) (by kernel_rfl) (put_free (free_take 24 _ (by decide) (by decide))) (Yields.yieldsIf (Or.inl ⟨by kernel_rfl, fun _ => by go_simp⟩)) hr ?_
  refine wpAnyH_take (i := 1) (v := .int .i64 (k : Int)) rfl (by kernel_rfl) (by kernel_rfl) (by kernel_rfl) (put_free (free_take 25 _ (by decide) (by decide))) (Or.inl ⟨by kernel_rfl, fun W hW => by have g := hW; go_simp⟩) hr ?_
  refine wpAnyH_take (i := 4) (v := .slice (some ⟨g3, 0, none⟩) (m + 1) c3) rfl (by kernel_rfl) (by kernel_rfl) (by kernel_rfl) (put_free (free_take 28 _ (by decide) (by decide))) (Yields.yieldsIf (Or.inl ⟨by kernel_rfl, fun _ => by kernel_rfl⟩)) hr ?_
  refine wpAnyH_take (i := 5) (v := .slice a5 m (c3 - 1)) rfl (by kernel_rfl) (by kernel_rfl) (by kernel_rfl) (put_free (free_take 29 _ (by decide) (by decide))) (Yields.yieldsIf (Or.inl ⟨by kernel_rfl, fun _ => by go_simp⟩)) hr ?_
  refine wpAnyH_ready (rs := [2]) (by kernel_rfl) (by simp) ?_
  refine AllReadyH.cons rfl (fun K2 hK2 => ?_) AllReadyH.nil
  go_simp
  refine Calls.mono (way_no (k : Int) 2 w6 (by omega)) ?_
  rintro e w7 ⟨rfl, d7⟩
  have V7 := V6.grew d7
  have b7 := b6.trans (d7.mono b6.size)
  refine leaves_cons (f := 25) (args := #[.pointer (some ⟨w.heap.size, 0, none⟩), .pointer (some ⟨w.heap.size + 1, 0, none⟩)]) (by simp) (by simp [go_sem]) ?_
  refine (catchT_yes w.heap.size (w.heap.size + 1) w.heap.size Pk.zero none 0 _ 2 [] w7 V7.pk V7.er V7.erT (by omega) (by omega) (by omega)).mono ?_
  rintro e u' w'' ⟨rfl, rfl, D, ce, d⟩
  have HA : Hid (TkIs w L x (.returned (.tuple #[.agg #[.int .i64 0, .int .u16 0, .int .u16 0, .int .u32 0, .int .u16 0, .slice none 0 0, .int .u64 0, .int .u32 0, .int .u32 0, .int .u16 0, .int .u16 0, .int .u32 0, .int .u16 0], .int .i64 2])) w'') := TkIs.form h0 ((tk_in h1).trans (by rw [HK.out]; exact inP_kind hK)) (b7.trans d)
  have c0 : w''.cell? ⟨w.heap.size, 0, none⟩ = some (.int .i64 0) := D.cell 0 (by decide)
  have c1 : w''.cell? ⟨w.heap.size, 1, none⟩ = some (.int .u16 0) := D.cell 1 (by decide)
  have c2 : w''.cell? ⟨w.heap.size, 2, none⟩ = some (.int .u16 0) := D.cell 2 (by decide)
  have cc3 : w''.cell? ⟨w.heap.size, 3, none⟩ = some (.int .u32 0) := D.cell 3 (by decide)
  have c4 : w''.cell? ⟨w.heap.size, 4, none⟩ = some (.int .u16 0) := D.cell 4 (by decide)
  have c5 : w''.cell? ⟨w.heap.size, 5, none⟩ = some (.slice none 0 0) := D.cell 5 (by decide)
  have c6 : w''.cell? ⟨w.heap.size, 6, none⟩ = some (.int .u64 0) := D.cell 6 (by decide)
  have c7 : w''.cell? ⟨w.heap.size, 7, none⟩ = some (.int .u32 0) := D.cell 7 (by decide)
  have c8 : w''.cell? ⟨w.heap.size, 8, none⟩ = some (.int .u32 0) := D.cell 8 (by decide)
  have c9 : w''.cell? ⟨w.heap.size, 9, none⟩ = some (.int .u16 0) := D.cell 9 (by decide)
  have c10 : w''.cell? ⟨w.heap.size, 10, none⟩ = some (.int .u16 0) := D.cell 10 (by decide)
  have c11 : w''.cell? ⟨w.heap.size, 11, none⟩ = some (.int .u32 0) := D.cell 11 (by decide)
  have c12 : w''.cell? ⟨w.heap.size, 12, none⟩ = some (.int .u16 0) := D.cell 12 (by decide)
  clear D d
  simp [Leaves, settle, results, Try.results11, go_sem, c0, c1, c2, cc3, c4, c5, c6, c7, c8, c9, c10, c11, c12, ce]
  exact HA.out

set_option maxRecDepth 100000 in
set_option maxHeartbeats 2000000 in
theorem packtake_form (a : Option Addr) (L c : Nat) (x : Nat → Nat) (w : World) (hx : BytesAt w a L x) (hc : L ≤ c) (hn : L ≤ 1000000) (m k : Nat) (h0 : opB x L = true) (h1 : opN x L = m + 1) (hk : x 0 = k) (hK : 1 ≤ k ∧ k ≤ 4) (hI : inP k m (fun i => x (1 + i)) = none) :
    Calls Try.prog 11 #[.slice a L c] w fun e w' => TkIs w L x e w' := by
  have hmf : ∀ (fn : Fn) (first cap : Array Value) (w : World), (Instr.makeFunc fn first cap).run Try.prog w = .ok (.func fn first cap) w := fun _ _ _ _ => rfl
  have V2 : Hid (Tv ((w.alloc (.cells #[.int .i64 0, .int .u16 0, .int .u16 0, .int .u32 0, .int .u16 0, .slice none 0 0, .int .u64 0, .int .u32 0, .int .u32 0, .int .u16 0, .int .u16 0, .int .u32 0, .int .u16 0] 31)).alloc (.cells #[.int .i64 0] 34)) w.heap.size) := Tv.made _ (PkAt.made w _ Pk.zero none 0) (by simp)
  have b2 : Hid (Below w.heap.size w ((w.alloc (.cells #[.int .i64 0, .int .u16 0, .int .u16 0, .int .u32 0, .int .u16 0, .slice none 0 0, .int .u64 0, .int .u32 0, .int .u32 0, .int .u16 0, .int .u16 0, .int .u32 0, .int .u16 0] 31)).alloc (.cells #[.int .i64 0] 34))) := ((Below.refl _ _).alloc (Nat.le_refl _) _).alloc (by simp) _
  have HX : Hid (BytesAt w a L x) := hx
  clear hx
  go_enter_defers Try.func11, Try.ntmps11
  go_wp2_with fail
  generalize ((w.alloc (.cells #[.int .i64 0, .int .u16 0, .int .u16 0, .int .u32 0, .int .u16 0, .slice none 0 0, .int .u64 0, .int .u32 0, .int .u32 0, .int .u16 0, .int .u16 0, .int .u32 0, .int .u16 0] 31)).alloc (.cells #[.int .i64 0] 34)) = w2 at *
  refine (open_any a L c x w2 (HX.out.grew b2.out) hc hn).mono ?_
  intro e w3 h
  rw [h0, h1] at h
  obtain ⟨r3, c3, rfl, k1, -, k3, k4, d3⟩ := h
  have V3 := V2.out.grew d3
  have b3 := b2.out.trans (d3.mono b2.out.size)
  clear V2 b2 d3
  obtain ⟨g3, rfl, -⟩ := k3 (by omega)
  have q := bytes_cell k4 0 (by omega)
  rw [Nat.add_zero] at q
  have lk := k4.lt 0 (by omega)
  obtain ⟨a5, hsl, B5⟩ := slice_left (some ⟨g3, 0, none⟩) (m + 1) c3 1 x w3 k4 (by omega) (by omega) k1
  rw [Nat.add_sub_cancel] at hsl B5
  have hsl : ∀ W, (Instr.slice 24 (.slice (some ⟨g3, 0, none⟩) (m + 1) c3) (some (.int .i64 1)) none none).run Try.prog W = .ok (.slice a5 m (c3 - 1)) W := hsl
  clear k3 k4
  rw [hk] at q lk
  have a4 : Below w3.heap.size w3 (w3.alloc (.cells #[.int .i64 (k : Int), .int .u16 0, .int .u16 0, .int .u32 0, .int .u16 0, .slice none 0 0, .int .u64 0, .int .u32 0, .int .u32 0, .int .u16 0, .int .u16 0, .int .u32 0, .int .u16 0] 56)) := (Below.refl _ _).alloc (Nat.le_refl _) _
  have HV : Hid (Tv (w3.alloc (.cells #[.int .i64 (k : Int), .int .u16 0, .int .u16 0, .int .u32 0, .int .u16 0, .slice none 0 0, .int .u64 0, .int .u32 0, .int .u32 0, .int .u16 0, .int .u16 0, .int .u32 0, .int .u16 0] 56)) w.heap.size) := V3.grew a4
  have HB : Hid (Below w.heap.size w (w3.alloc (.cells #[.int .i64 (k : Int), .int .u16 0, .int .u16 0, .int .u32 0, .int .u16 0, .slice none 0 0, .int .u64 0, .int .u32 0, .int .u32 0, .int .u16 0, .int .u16 0, .int .u32 0, .int .u16 0] 56))) := b3.trans (a4.mono b3.size)
  have HY : Hid (BytesAt (w3.alloc (.cells #[.int .i64 (k : Int), .int .u16 0, .int .u16 0, .int .u32 0, .int .u16 0, .slice none 0 0, .int .u64 0, .int .u32 0, .int .u32 0, .int .u16 0, .int .u16 0, .int .u32 0, .int .u16 0] 56)) a5 m (fun i => x (1 + i))) := B5.grew a4
  have HD : Hid (PkAt (w3.alloc (.cells #[.int .i64 (k : Int), .int .u16 0, .int .u16 0, .int .u32 0, .int .u16 0, .slice none 0 0, .int .u64 0, .int .u32 0, .int .u32 0, .int .u16 0, .int .u16 0, .int .u32 0, .int .u16 0] 56)) w3.heap.size (pKind k) none 0) := PkAt.made w3 56 (pKind k) none 0
  have hG : w.heap.size + 1 < w3.heap.size := V3.lt
  have HK : Hid (x 0 = k) := hk
  have hc3 : Hid (m ≤ c3 - 1) := by show _ ≤ _; omega
  have i1 : (0 : Int) < (m : Int) + 1 := by omega
  clear V3 b3 a4 B5 hk
  go_wp2_with fail
  refine (pdemand_yes _ _ _ rfl).mono ?_
  rintro e w4 ⟨rfl, rfl⟩
  go_wp2_with fail
  refine (pdemand_yes _ _ _ (by simp <;> omega)).mono ?_
  rintro e w4' ⟨rfl, rfl⟩
  go_wp2_with fail
  generalize (w4'.alloc (.cells #[.int .i64 (k : Int), .int .u16 0, .int .u16 0, .int .u32 0, .int .u16 0, .slice none 0 0, .int .u64 0, .int .u32 0, .int .u32 0, .int .u16 0, .int .u16 0, .int .u32 0, .int .u16 0] 56)) = w5 at *
  generalize w4'.heap.size = G at *
  clear q
  refine wp_region_held (S := fun w' => w'.cell? ⟨G, 0, none⟩ = some (.int .i64 (k : Int))) (by kernel_rfl) ?_
  change wpAnyH _ _ _ _ _ _ _ _ w5.drew
  have a6 : Below w5.heap.size w5 w5.drew := (Below.refl _ _).drew
  have V6 := HV.out.grew a6
  have D6 := HD.out.grew a6
  have Y6 := HY.out.grew a6
  have b6 : Below w.heap.size w w5.drew := HB.out.drew
  have hr : w5.drew.cell? ⟨G, 0, none⟩ = some (.int .i64 (k : Int)) := D6.cell 0 (by decide)
  clear HV HD HB HY a6
  generalize w5.drew = w6 at *
  refine wpAnyH_take (i := 0) (v := .pointer (some ⟨G, 0, none⟩)) rfl (by kernel_rfl) (by kernel_rfl) (by kernel_rfl) (put_free (free_take 24 _ (by decide) (by decide))) (Yields.yieldsIf (Or.inl ⟨by kernel_rfl, fun _ => by go_simp⟩)) hr ?_
  refine wpAnyH_take (i := 1) (v := .int .i64 (k : Int)) rfl (by kernel_rfl) (by kernel_rfl) (by kernel_rfl) (put_free (free_take 25 _ (by decide) (by decide))) (Or.inl ⟨by kernel_rfl, fun W hW => by have g := hW; go_simp⟩) hr ?_
  refine wpAnyH_take (i := 4) (v := .slice (some ⟨g3, 0, none⟩) (m + 1) c3) rfl (by kernel_rfl) (by kernel_rfl) (by kernel_rfl) (put_free (free_take 28 _ (by decide) (by decide))) (Yields.yieldsIf (Or.inl ⟨by kernel_rfl, fun _ => by kernel_rfl⟩)) hr ?_
  refine wpAnyH_take (i := 5) (v := .slice a5 m (c3 - 1)) rfl (by kernel_rfl) (by kernel_rfl) (by kernel_rfl) (put_free (free_take 29 _ (by decide) (by decide))) (Yields.yieldsIf (Or.inl ⟨by kernel_rfl, fun _ => by go_simp⟩)) hr ?_
  refine wpAnyH_ready (rs := [2]) (by kernel_rfl) (by simp) ?_
  refine AllReadyH.cons rfl (fun K2 hK2 => ?_) AllReadyH.nil
  go_simp
  refine Calls.mono (way_yes k 2 w6 hK.1 hK.2) ?_
  rintro e w7 ⟨rfl, d7⟩
  have V7 := V6.grew d7
  have D7 := D6.grew d7
  have Y7 := Y6.grew d7
  have b7 := b6.trans (d7.mono b6.size)
  refine hK2.out _ _ ((d7.cell (p := ⟨G, 0, none⟩) (cell_lt hr)).trans hr) (fun hr => ?_)
  clear hK2 K2 d7 V6 D6 Y6 b6
  have hcf := fun args W => enter_t k args W hK.1 hK.2
  have hfd := field_take (pF k) (tF k)
  refine wpAnyH_take (i := 3) (v := .func (.func (tF k)) #[] #[]) rfl (by kernel_rfl) (by kernel_rfl) (by kernel_rfl) (put_free (free_take 27 _ (by decide) (by decide))) (Yields.yieldsIf (Or.inl ⟨by kernel_rfl, fun _ => by go_simp⟩)) hr ?_
  refine wpAnyH_ready (rs := [6]) (by kernel_rfl) (by simp) ?_
  refine AllReadyH.cons rfl (fun K2 hK2 => ?_) AllReadyH.nil
  go_simp
  refine Calls.mono (ptake_no G k a5 m (c3 - 1) _ w7 hK.1 hK.2 D7.lt Y7 hc3.out hI) ?_
  rintro e w8 ⟨rfl, d8⟩
  have V8 := V7.below d8 hG
  have b8 := b7.trans (d8.mono (by omega))
  refine leaves_cons (f := 25) (args := #[.pointer (some ⟨w.heap.size, 0, none⟩), .pointer (some ⟨w.heap.size + 1, 0, none⟩)]) (by simp) (by simp [go_sem]) ?_
  refine (catchT_yes w.heap.size (w.heap.size + 1) w.heap.size Pk.zero none 0 _ 2 [] w8 V8.pk V8.er V8.erT (by omega) (by omega) (by omega)).mono ?_
  rintro e u' w'' ⟨rfl, rfl, D, ce, d⟩
  have HA : Hid (TkIs w L x (.returned (.tuple #[.agg #[.int .i64 0, .int .u16 0, .int .u16 0, .int .u32 0, .int .u16 0, .slice none 0 0, .int .u64 0, .int .u32 0, .int .u32 0, .int .u16 0, .int .u16 0, .int .u32 0, .int .u16 0], .int .i64 2])) w'') := TkIs.form h0 ((tk_in h1).trans (by rw [HK.out]; exact hI)) (b8.trans d)
  have c0 : w''.cell? ⟨w.heap.size, 0, none⟩ = some (.int .i64 0) := D.cell 0 (by decide)
  have c1 : w''.cell? ⟨w.heap.size, 1, none⟩ = some (.int .u16 0) := D.cell 1 (by decide)
  have c2 : w''.cell? ⟨w.heap.size, 2, none⟩ = some (.int .u16 0) := D.cell 2 (by decide)
  have cc3 : w''.cell? ⟨w.heap.size, 3, none⟩ = some (.int .u32 0) := D.cell 3 (by decide)
  have c4 : w''.cell? ⟨w.heap.size, 4, none⟩ = some (.int .u16 0) := D.cell 4 (by decide)
  have c5 : w''.cell? ⟨w.heap.size, 5, none⟩ = some (.slice none 0 0) := D.cell 5 (by decide)
  have c6 : w''.cell? ⟨w.heap.size, 6, none⟩ = some (.int .u64 0) := D.cell 6 (by decide)
  have c7 : w''.cell? ⟨w.heap.size, 7, none⟩ = some (.int .u32 0) := D.cell 7 (by decide)
  have c8 : w''.cell? ⟨w.heap.size, 8, none⟩ = some (.int .u32 0) := D.cell 8 (by decide)
  have c9 : w''.cell? ⟨w.heap.size, 9, none⟩ = some (.int .u16 0) := D.cell 9 (by decide)
  have c10 : w''.cell? ⟨w.heap.size, 10, none⟩ = some (.int .u16 0) := D.cell 10 (by decide)
  have c11 : w''.cell? ⟨w.heap.size, 11, none⟩ = some (.int .u32 0) := D.cell 11 (by decide)
  have c12 : w''.cell? ⟨w.heap.size, 12, none⟩ = some (.int .u16 0) := D.cell 12 (by decide)
  clear D d
  simp [Leaves, settle, results, Try.results11, go_sem, c0, c1, c2, cc3, c4, c5, c6, c7, c8, c9, c10, c11, c12, ce]
  exact HA.out

set_option maxRecDepth 100000 in
set_option maxHeartbeats 2000000 in
theorem packtake_some (a : Option Addr) (L c : Nat) (x : Nat → Nat) (w : World) (hx : BytesAt w a L x) (hc : L ≤ c) (hn : L ≤ 1000000) (m k : Nat) (h0 : opB x L = true) (h1 : opN x L = m + 1) (hk : x 0 = k) (q : Pk) (hI : inP k m (fun i => x (1 + i)) = some q) :
    Calls Try.prog 11 #[.slice a L c] w fun e w' => TkIs w L x e w' := by
  have hK := (inP_k hI).2
  have hmf : ∀ (fn : Fn) (first cap : Array Value) (w : World), (Instr.makeFunc fn first cap).run Try.prog w = .ok (.func fn first cap) w := fun _ _ _ _ => rfl
  have V2 : Hid (Tv ((w.alloc (.cells #[.int .i64 0, .int .u16 0, .int .u16 0, .int .u32 0, .int .u16 0, .slice none 0 0, .int .u64 0, .int .u32 0, .int .u32 0, .int .u16 0, .int .u16 0, .int .u32 0, .int .u16 0] 31)).alloc (.cells #[.int .i64 0] 34)) w.heap.size) := Tv.made _ (PkAt.made w _ Pk.zero none 0) (by simp)
  have b2 : Hid (Below w.heap.size w ((w.alloc (.cells #[.int .i64 0, .int .u16 0, .int .u16 0, .int .u32 0, .int .u16 0, .slice none 0 0, .int .u64 0, .int .u32 0, .int .u32 0, .int .u16 0, .int .u16 0, .int .u32 0, .int .u16 0] 31)).alloc (.cells #[.int .i64 0] 34))) := ((Below.refl _ _).alloc (Nat.le_refl _) _).alloc (by simp) _
  have HX : Hid (BytesAt w a L x) := hx
  clear hx
  go_enter_defers Try.func11, Try.ntmps11
  go_wp2_with fail
  generalize ((w.alloc (.cells #[.int .i64 0, .int .u16 0, .int .u16 0, .int .u32 0, .int .u16 0, .slice none 0 0, .int .u64 0, .int .u32 0, .int .u32 0, .int .u16 0, .int .u16 0, .int .u32 0, .int .u16 0] 31)).alloc (.cells #[.int .i64 0] 34)) = w2 at *
  refine (open_any a L c x w2 (HX.out.grew b2.out) hc hn).mono ?_
  intro e w3 h
  rw [h0, h1] at h
  obtain ⟨r3, c3, rfl, k1, -, k3, k4, d3⟩ := h
  have V3 := V2.out.grew d3
  have b3 := b2.out.trans (d3.mono b2.out.size)
  clear V2 b2 d3
  obtain ⟨g3, rfl, -⟩ := k3 (by omega)
  have q := bytes_cell k4 0 (by omega)
  rw [Nat.add_zero] at q
  have lk := k4.lt 0 (by omega)
  obtain ⟨a5, hsl, B5⟩ := slice_left (some ⟨g3, 0, none⟩) (m + 1) c3 1 x w3 k4 (by omega) (by omega) k1
  rw [Nat.add_sub_cancel] at hsl B5
  have hsl : ∀ W, (Instr.slice 24 (.slice (some ⟨g3, 0, none⟩) (m + 1) c3) (some (.int .i64 1)) none none).run Try.prog W = .ok (.slice a5 m (c3 - 1)) W := hsl
  clear k3 k4
  rw [hk] at q lk
  have a4 : Below w3.heap.size w3 (w3.alloc (.cells #[.int .i64 (k : Int), .int .u16 0, .int .u16 0, .int .u32 0, .int .u16 0, .slice none 0 0, .int .u64 0, .int .u32 0, .int .u32 0, .int .u16 0, .int .u16 0, .int .u32 0, .int .u16 0] 56)) := (Below.refl _ _).alloc (Nat.le_refl _) _
  have HV : Hid (Tv (w3.alloc (.cells #[.int .i64 (k : Int), .int .u16 0, .int .u16 0, .int .u32 0, .int .u16 0, .slice none 0 0, .int .u64 0, .int .u32 0, .int .u32 0, .int .u16 0, .int .u16 0, .int .u32 0, .int .u16 0] 56)) w.heap.size) := V3.grew a4
  have HB : Hid (Below w.heap.size w (w3.alloc (.cells #[.int .i64 (k : Int), .int .u16 0, .int .u16 0, .int .u32 0, .int .u16 0, .slice none 0 0, .int .u64 0, .int .u32 0, .int .u32 0, .int .u16 0, .int .u16 0, .int .u32 0, .int .u16 0] 56))) := b3.trans (a4.mono b3.size)
  have HY : Hid (BytesAt (w3.alloc (.cells #[.int .i64 (k : Int), .int .u16 0, .int .u16 0, .int .u32 0, .int .u16 0, .slice none 0 0, .int .u64 0, .int .u32 0, .int .u32 0, .int .u16 0, .int .u16 0, .int .u32 0, .int .u16 0] 56)) a5 m (fun i => x (1 + i))) := B5.grew a4
  have HD : Hid (PkAt (w3.alloc (.cells #[.int .i64 (k : Int), .int .u16 0, .int .u16 0, .int .u32 0, .int .u16 0, .slice none 0 0, .int .u64 0, .int .u32 0, .int .u32 0, .int .u16 0, .int .u16 0, .int .u32 0, .int .u16 0] 56)) w3.heap.size (pKind k) none 0) := PkAt.made w3 56 (pKind k) none 0
  have hG : w.heap.size + 1 < w3.heap.size := V3.lt
  have HK : Hid (x 0 = k) := hk
  have hc3 : Hid (m ≤ c3 - 1) := by show _ ≤ _; omega
  have i1 : (0 : Int) < (m : Int) + 1 := by omega
  clear V3 b3 a4 B5 hk
  go_wp2_with fail
  refine (pdemand_yes _ _ _ rfl).mono ?_
  rintro e w4 ⟨rfl, rfl⟩
  go_wp2_with fail
  refine (pdemand_yes _ _ _ (by simp <;> omega)).mono ?_
  rintro e w4' ⟨rfl, rfl⟩
  go_wp2_with fail
  generalize (w4'.alloc (.cells #[.int .i64 (k : Int), .int .u16 0, .int .u16 0, .int .u32 0, .int .u16 0, .slice none 0 0, .int .u64 0, .int .u32 0, .int .u32 0, .int .u16 0, .int .u16 0, .int .u32 0, .int .u16 0] 56)) = w5 at *
  generalize w4'.heap.size = G at *
  clear q
  refine wp_region_held (S := fun w' => w'.cell? ⟨G, 0, none⟩ = some (.int .i64 (k : Int))) (by kernel_rfl) ?_
  change wpAnyH _ _ _ _ _ _ _ _ w5.drew
  have a6 : Below w5.heap.size w5 w5.drew := (Below.refl _ _).drew
  have V6 := HV.out.grew a6
  have D6 := HD.out.grew a6
  have Y6 := HY.out.grew a6
  have b6 : Below w.heap.size w w5.drew := HB.out.drew
  have hr : w5.drew.cell? ⟨G, 0, none⟩ = some (.int .i64 (k : Int)) := D6.cell 0 (by decide)
  clear HV HD HB HY a6
  generalize w5.drew = w6 at *
  refine wpAnyH_take (i := 0) (v := .pointer (some ⟨G, 0, none⟩)) rfl (by kernel_rfl) (by kernel_rfl) (by kernel_rfl) (put_free (free_take 24 _ (by decide) (by decide))) (Yields.yieldsIf (Or.inl ⟨by kernel_rfl, fun _ => by go_simp⟩)) hr ?_
  refine wpAnyH_take (i := 1) (v := .int .i64 (k : Int)) rfl (by kernel_rfl) (by kernel_rfl) (by kernel_rfl) (put_free (free_take 25 _ (by decide) (by decide))) (Or.inl ⟨by kernel_rfl, fun W hW => by have g := hW; go_simp⟩) hr ?_
  refine wpAnyH_take (i := 4) (v := .slice (some ⟨g3, 0, none⟩) (m + 1) c3) rfl (by kernel_rfl) (by kernel_rfl) (by kernel_rfl) (put_free (free_take 28 _ (by decide) (by decide))) (Yields.yieldsIf (Or.inl ⟨by kernel_rfl, fun _ => by kernel_rfl⟩)) hr ?_
  refine wpAnyH_take (i := 5) (v := .slice a5 m (c3 - 1)) rfl (by kernel_rfl) (by kernel_rfl) (by kernel_rfl) (put_free (free_take 29 _ (by decide) (by decide))) (Yields.yieldsIf (Or.inl ⟨by kernel_rfl, fun _ => by go_simp⟩)) hr ?_
  refine wpAnyH_ready (rs := [2]) (by kernel_rfl) (by simp) ?_
  refine AllReadyH.cons rfl (fun K2 hK2 => ?_) AllReadyH.nil
  go_simp
  refine Calls.mono (way_yes k 2 w6 hK.1 hK.2) ?_
  rintro e w7 ⟨rfl, d7⟩
  have V7 := V6.grew d7
  have D7 := D6.grew d7
  have Y7 := Y6.grew d7
  have b7 := b6.trans (d7.mono b6.size)
  refine hK2.out _ _ ((d7.cell (p := ⟨G, 0, none⟩) (cell_lt hr)).trans hr) (fun hr => ?_)
  clear hK2 K2 d7 V6 D6 Y6 b6
  have hcf := fun args W => enter_t k args W hK.1 hK.2
  have hfd := field_take (pF k) (tF k)
  refine wpAnyH_take (i := 3) (v := .func (.func (tF k)) #[] #[]) rfl (by kernel_rfl) (by kernel_rfl) (by kernel_rfl) (put_free (free_take 27 _ (by decide) (by decide))) (Yields.yieldsIf (Or.inl ⟨by kernel_rfl, fun _ => by go_simp⟩)) hr ?_
  refine wpAnyH_ready (rs := [6]) (by kernel_rfl) (by simp) ?_
  refine AllReadyH.cons rfl (fun K2 hK2 => ?_) AllReadyH.nil
  go_simp
  refine Calls.mono (ptake_yes G k a5 m (c3 - 1) _ w7 q hK.1 hK.2 D7 Y7 hc3.out hI) ?_
  rintro e w8 ⟨rfl, r8, c8, n8, g8, D8, B8, d8⟩
  have V8 := V7.below d8 hG
  have b8 := b7.trans (d8.mono (by omega))
  have l7 := b7.size
  have hr8 : w8.cell? ⟨G, 0, none⟩ = some (.int .i64 (k : Int)) := by rw [← (inP_k hI).1]; exact D8.cell 0 (by decide)
  refine hK2.out _ _ hr8 (fun hr => ?_)
  clear hK2 K2 d8 V7 D7 Y7 b7 hr8 hr
  refine wpAnyH_done (by kernel_rfl) ?_ _
  have k0 : PkAt (((((((((((((w8.setCell ⟨w.heap.size, 0, none⟩ (.int .i64 q.k)).setCell ⟨w.heap.size, 1, none⟩ (.int .u16 (q.s : Int))).setCell ⟨w.heap.size, 2, none⟩ (.int .u16 (q.t : Int))).setCell ⟨w.heap.size, 3, none⟩ (.int .u32 (q.f : Int))).setCell ⟨w.heap.size, 4, none⟩ (.int .u16 (q.y : Int))).setCell ⟨w.heap.size, 5, none⟩ (.slice r8 q.n c8)).setCell ⟨w.heap.size, 6, none⟩ (.int .u64 (q.T : Int))).setCell ⟨w.heap.size, 7, none⟩ (.int .u32 (q.l : Int))).setCell ⟨w.heap.size, 8, none⟩ (.int .u32 (q.g : Int))).setCell ⟨w.heap.size, 9, none⟩ (.int .u16 (q.u : Int))).setCell ⟨w.heap.size, 10, none⟩ (.int .u16 (q.j : Int))).setCell ⟨w.heap.size, 11, none⟩ (.int .u32 (q.F : Int))).setCell ⟨w.heap.size, 12, none⟩ (.int .u16 (q.d : Int))) w.heap.size q r8 c8 := V8.pk.write q r8 c8
  have k1 : (((((((((((((w8.setCell ⟨w.heap.size, 0, none⟩ (.int .i64 q.k)).setCell ⟨w.heap.size, 1, none⟩ (.int .u16 (q.s : Int))).setCell ⟨w.heap.size, 2, none⟩ (.int .u16 (q.t : Int))).setCell ⟨w.heap.size, 3, none⟩ (.int .u32 (q.f : Int))).setCell ⟨w.heap.size, 4, none⟩ (.int .u16 (q.y : Int))).setCell ⟨w.heap.size, 5, none⟩ (.slice r8 q.n c8)).setCell ⟨w.heap.size, 6, none⟩ (.int .u64 (q.T : Int))).setCell ⟨w.heap.size, 7, none⟩ (.int .u32 (q.l : Int))).setCell ⟨w.heap.size, 8, none⟩ (.int .u32 (q.g : Int))).setCell ⟨w.heap.size, 9, none⟩ (.int .u16 (q.u : Int))).setCell ⟨w.heap.size, 10, none⟩ (.int .u16 (q.j : Int))).setCell ⟨w.heap.size, 11, none⟩ (.int .u32 (q.F : Int))).setCell ⟨w.heap.size, 12, none⟩ (.int .u16 (q.d : Int))).cell? ⟨w.heap.size + 1, 0, none⟩ = some (.int .i64 0) := puts_cell (by omega) [.int .i64 q.k, .int .u16 (q.s : Int), .int .u16 (q.t : Int), .int .u32 (q.f : Int), .int .u16 (q.y : Int), .slice r8 q.n c8, .int .u64 (q.T : Int), .int .u32 (q.l : Int), .int .u32 (q.g : Int), .int .u16 (q.u : Int), .int .u16 (q.j : Int), .int .u32 (q.F : Int), .int .u16 (q.d : Int)] 0 V8.er
  have k2 : BytesAt (((((((((((((w8.setCell ⟨w.heap.size, 0, none⟩ (.int .i64 q.k)).setCell ⟨w.heap.size, 1, none⟩ (.int .u16 (q.s : Int))).setCell ⟨w.heap.size, 2, none⟩ (.int .u16 (q.t : Int))).setCell ⟨w.heap.size, 3, none⟩ (.int .u32 (q.f : Int))).setCell ⟨w.heap.size, 4, none⟩ (.int .u16 (q.y : Int))).setCell ⟨w.heap.size, 5, none⟩ (.slice r8 q.n c8)).setCell ⟨w.heap.size, 6, none⟩ (.int .u64 (q.T : Int))).setCell ⟨w.heap.size, 7, none⟩ (.int .u32 (q.l : Int))).setCell ⟨w.heap.size, 8, none⟩ (.int .u32 (q.g : Int))).setCell ⟨w.heap.size, 9, none⟩ (.int .u16 (q.u : Int))).setCell ⟨w.heap.size, 10, none⟩ (.int .u16 (q.j : Int))).setCell ⟨w.heap.size, 11, none⟩ (.int .u32 (q.F : Int))).setCell ⟨w.heap.size, 12, none⟩ (.int .u16 (q.d : Int))) r8 q.n q.x := BytesAt.puts [.int .i64 q.k, .int .u16 (q.s : Int), .int .u16 (q.t : Int), .int .u32 (q.f : Int), .int .u16 (q.y : Int), .slice r8 q.n c8, .int .u64 (q.T : Int), .int .u32 (q.l : Int), .int .u32 (q.g : Int), .int .u16 (q.u : Int), .int .u16 (q.j : Int), .int .u32 (q.F : Int), .int .u16 (q.d : Int)] 0 B8 V8.pk.vat (Nat.le_refl 13) (Pk.noByte _ _ _)
  have k3 : Below w.heap.size w (((((((((((((w8.setCell ⟨w.heap.size, 0, none⟩ (.int .i64 q.k)).setCell ⟨w.heap.size, 1, none⟩ (.int .u16 (q.s : Int))).setCell ⟨w.heap.size, 2, none⟩ (.int .u16 (q.t : Int))).setCell ⟨w.heap.size, 3, none⟩ (.int .u32 (q.f : Int))).setCell ⟨w.heap.size, 4, none⟩ (.int .u16 (q.y : Int))).setCell ⟨w.heap.size, 5, none⟩ (.slice r8 q.n c8)).setCell ⟨w.heap.size, 6, none⟩ (.int .u64 (q.T : Int))).setCell ⟨w.heap.size, 7, none⟩ (.int .u32 (q.l : Int))).setCell ⟨w.heap.size, 8, none⟩ (.int .u32 (q.g : Int))).setCell ⟨w.heap.size, 9, none⟩ (.int .u16 (q.u : Int))).setCell ⟨w.heap.size, 10, none⟩ (.int .u16 (q.j : Int))).setCell ⟨w.heap.size, 11, none⟩ (.int .u32 (q.F : Int))).setCell ⟨w.heap.size, 12, none⟩ (.int .u16 (q.d : Int))) := puts_below (Nat.le_refl _) [.int .i64 q.k, .int .u16 (q.s : Int), .int .u16 (q.t : Int), .int .u32 (q.f : Int), .int .u16 (q.y : Int), .slice r8 q.n c8, .int .u64 (q.T : Int), .int .u32 (q.l : Int), .int .u32 (q.g : Int), .int .u16 (q.u : Int), .int .u16 (q.j : Int), .int .u32 (q.F : Int), .int .u16 (q.d : Int)] 0 b8
  have KK : ∀ V : World, PkAt V w.heap.size q r8 c8 → V.cell? ⟨w.heap.size + 1, 0, none⟩ = some (.int .i64 0) → BytesAt V r8 q.n q.x → Below w.heap.size w V →
      PkAt (V.setCell ⟨w.heap.size + 1, 0, none⟩ (.int .i64 0)) w.heap.size q r8 c8 ∧ (V.setCell ⟨w.heap.size + 1, 0, none⟩ (.int .i64 0)).cell? ⟨w.heap.size + 1, 0, none⟩ = some (.int .i64 0) ∧ BytesAt (V.setCell ⟨w.heap.size + 1, 0, none⟩ (.int .i64 0)) r8 q.n q.x ∧ Below w.heap.size w (V.setCell ⟨w.heap.size + 1, 0, none⟩ (.int .i64 0)) :=
    fun V p1 p2 p3 p4 => ⟨p1.other _ (by omega), World.cell?_setCell_same _ _ _ p2, p3.setNum p2 (by decide), p4.setCell (p := ⟨w.heap.size + 1, 0, none⟩) (Nat.le_succ _) _⟩
  have HA : Hid (PkAt ((((((((((((((w8.setCell ⟨w.heap.size, 0, none⟩ (.int .i64 q.k)).setCell ⟨w.heap.size, 1, none⟩ (.int .u16 (q.s : Int))).setCell ⟨w.heap.size, 2, none⟩ (.int .u16 (q.t : Int))).setCell ⟨w.heap.size, 3, none⟩ (.int .u32 (q.f : Int))).setCell ⟨w.heap.size, 4, none⟩ (.int .u16 (q.y : Int))).setCell ⟨w.heap.size, 5, none⟩ (.slice r8 q.n c8)).setCell ⟨w.heap.size, 6, none⟩ (.int .u64 (q.T : Int))).setCell ⟨w.heap.size, 7, none⟩ (.int .u32 (q.l : Int))).setCell ⟨w.heap.size, 8, none⟩ (.int .u32 (q.g : Int))).setCell ⟨w.heap.size, 9, none⟩ (.int .u16 (q.u : Int))).setCell ⟨w.heap.size, 10, none⟩ (.int .u16 (q.j : Int))).setCell ⟨w.heap.size, 11, none⟩ (.int .u32 (q.F : Int))).setCell ⟨w.heap.size, 12, none⟩ (.int .u16 (q.d : Int))).setCell ⟨w.heap.size + 1, 0, none⟩ (.int .i64 0)) w.heap.size q r8 c8 ∧ ((((((((((((((w8.setCell ⟨w.heap.size, 0, none⟩ (.int .i64 q.k)).setCell ⟨w.heap.size, 1, none⟩ (.int .u16 (q.s : Int))).setCell ⟨w.heap.size, 2, none⟩ (.int .u16 (q.t : Int))).setCell ⟨w.heap.size, 3, none⟩ (.int .u32 (q.f : Int))).setCell ⟨w.heap.size, 4, none⟩ (.int .u16 (q.y : Int))).setCell ⟨w.heap.size, 5, none⟩ (.slice r8 q.n c8)).setCell ⟨w.heap.size, 6, none⟩ (.int .u64 (q.T : Int))).setCell ⟨w.heap.size, 7, none⟩ (.int .u32 (q.l : Int))).setCell ⟨w.heap.size, 8, none⟩ (.int .u32 (q.g : Int))).setCell ⟨w.heap.size, 9, none⟩ (.int .u16 (q.u : Int))).setCell ⟨w.heap.size, 10, none⟩ (.int .u16 (q.j : Int))).setCell ⟨w.heap.size, 11, none⟩ (.int .u32 (q.F : Int))).setCell ⟨w.heap.size, 12, none⟩ (.int .u16 (q.d : Int))).setCell ⟨w.heap.size + 1, 0, none⟩ (.int .i64 0)).cell? ⟨w.heap.size + 1, 0, none⟩ = some (.int .i64 0) ∧ BytesAt ((((((((((((((w8.setCell ⟨w.heap.size, 0, none⟩ (.int .i64 q.k)).setCell ⟨w.heap.size, 1, none⟩ (.int .u16 (q.s : Int))).setCell ⟨w.heap.size, 2, none⟩ (.int .u16 (q.t : Int))).setCell ⟨w.heap.size, 3, none⟩ (.int .u32 (q.f : Int))).setCell ⟨w.heap.size, 4, none⟩ (.int .u16 (q.y : Int))).setCell ⟨w.heap.size, 5, none⟩ (.slice r8 q.n c8)).setCell ⟨w.heap.size, 6, none⟩ (.int .u64 (q.T : Int))).setCell ⟨w.heap.size, 7, none⟩ (.int .u32 (q.l : Int))).setCell ⟨w.heap.size, 8, none⟩ (.int .u32 (q.g : Int))).setCell ⟨w.heap.size, 9, none⟩ (.int .u16 (q.u : Int))).setCell ⟨w.heap.size, 10, none⟩ (.int .u16 (q.j : Int))).setCell ⟨w.heap.size, 11, none⟩ (.int .u32 (q.F : Int))).setCell ⟨w.heap.size, 12, none⟩ (.int .u16 (q.d : Int))).setCell ⟨w.heap.size + 1, 0, none⟩ (.int .i64 0)) r8 q.n q.x ∧ Below w.heap.size w ((((((((((((((w8.setCell ⟨w.heap.size, 0, none⟩ (.int .i64 q.k)).setCell ⟨w.heap.size, 1, none⟩ (.int .u16 (q.s : Int))).setCell ⟨w.heap.size, 2, none⟩ (.int .u16 (q.t : Int))).setCell ⟨w.heap.size, 3, none⟩ (.int .u32 (q.f : Int))).setCell ⟨w.heap.size, 4, none⟩ (.int .u16 (q.y : Int))).setCell ⟨w.heap.size, 5, none⟩ (.slice r8 q.n c8)).setCell ⟨w.heap.size, 6, none⟩ (.int .u64 (q.T : Int))).setCell ⟨w.heap.size, 7, none⟩ (.int .u32 (q.l : Int))).setCell ⟨w.heap.size, 8, none⟩ (.int .u32 (q.g : Int))).setCell ⟨w.heap.size, 9, none⟩ (.int .u16 (q.u : Int))).setCell ⟨w.heap.size, 10, none⟩ (.int .u16 (q.j : Int))).setCell ⟨w.heap.size, 11, none⟩ (.int .u32 (q.F : Int))).setCell ⟨w.heap.size, 12, none⟩ (.int .u16 (q.d : Int))).setCell ⟨w.heap.size + 1, 0, none⟩ (.int .i64 0))) := KK _ k0 k1 k2 k3
  have q0 : w8.cell? ⟨G, 0, none⟩ = some (.int .i64 q.k) := D8.cell 0 (by decide)
  have q1 : w8.cell? ⟨G, 1, none⟩ = some (.int .u16 (q.s : Int)) := D8.cell 1 (by decide)
  have q2 : w8.cell? ⟨G, 2, none⟩ = some (.int .u16 (q.t : Int)) := D8.cell 2 (by decide)
  have q3 : w8.cell? ⟨G, 3, none⟩ = some (.int .u32 (q.f : Int)) := D8.cell 3 (by decide)
  have q4 : w8.cell? ⟨G, 4, none⟩ = some (.int .u16 (q.y : Int)) := D8.cell 4 (by decide)
  have q5 : w8.cell? ⟨G, 5, none⟩ = some (.slice r8 q.n c8) := D8.cell 5 (by decide)
  have q6 : w8.cell? ⟨G, 6, none⟩ = some (.int .u64 (q.T : Int)) := D8.cell 6 (by decide)
  have q7 : w8.cell? ⟨G, 7, none⟩ = some (.int .u32 (q.l : Int)) := D8.cell 7 (by decide)
  have q8 : w8.cell? ⟨G, 8, none⟩ = some (.int .u32 (q.g : Int)) := D8.cell 8 (by decide)
  have q9 : w8.cell? ⟨G, 9, none⟩ = some (.int .u16 (q.u : Int)) := D8.cell 9 (by decide)
  have q10 : w8.cell? ⟨G, 10, none⟩ = some (.int .u16 (q.j : Int)) := D8.cell 10 (by decide)
  have q11 : w8.cell? ⟨G, 11, none⟩ = some (.int .u32 (q.F : Int)) := D8.cell 11 (by decide)
  have q12 : w8.cell? ⟨G, 12, none⟩ = some (.int .u16 (q.d : Int)) := D8.cell 12 (by decide)
  have p0 : w8.cell? ⟨w.heap.size, 0, none⟩ = some (.int .i64 0) := V8.pk.cell 0 (by decide)
  have p1 : w8.cell? ⟨w.heap.size, 1, none⟩ = some (.int .u16 0) := V8.pk.cell 1 (by decide)
  have p2 : w8.cell? ⟨w.heap.size, 2, none⟩ = some (.int .u16 0) := V8.pk.cell 2 (by decide)
  have p3 : w8.cell? ⟨w.heap.size, 3, none⟩ = some (.int .u32 0) := V8.pk.cell 3 (by decide)
  have p4 : w8.cell? ⟨w.heap.size, 4, none⟩ = some (.int .u16 0) := V8.pk.cell 4 (by decide)
  have p5 : w8.cell? ⟨w.heap.size, 5, none⟩ = some (.slice none 0 0) := V8.pk.cell 5 (by decide)
  have p6 : w8.cell? ⟨w.heap.size, 6, none⟩ = some (.int .u64 0) := V8.pk.cell 6 (by decide)
  have p7 : w8.cell? ⟨w.heap.size, 7, none⟩ = some (.int .u32 0) := V8.pk.cell 7 (by decide)
  have p8 : w8.cell? ⟨w.heap.size, 8, none⟩ = some (.int .u32 0) := V8.pk.cell 8 (by decide)
  have p9 : w8.cell? ⟨w.heap.size, 9, none⟩ = some (.int .u16 0) := V8.pk.cell 9 (by decide)
  have p10 : w8.cell? ⟨w.heap.size, 10, none⟩ = some (.int .u16 0) := V8.pk.cell 10 (by decide)
  have p11 : w8.cell? ⟨w.heap.size, 11, none⟩ = some (.int .u32 0) := V8.pk.cell 11 (by decide)
  have p12 : w8.cell? ⟨w.heap.size, 12, none⟩ = some (.int .u16 0) := V8.pk.cell 12 (by decide)
  have z0 := V8.pk.frz 0
  have z1 := V8.pk.frz 1
  have z2 := V8.pk.frz 2
  have z3 := V8.pk.frz 3
  have z4 := V8.pk.frz 4
  have z5 := V8.pk.frz 5
  have z6 := V8.pk.frz 6
  have z7 := V8.pk.frz 7
  have z8 := V8.pk.frz 8
  have z9 := V8.pk.frz 9
  have z10 := V8.pk.frz 10
  have z11 := V8.pk.frz 11
  have z12 := V8.pk.frz 12
  have pe := V8.er
  have ze := V8.erT
  clear KK k0 k1 k2 k3 D8 V8 B8 b8 hcf hsl
  go_wp2
  generalize ((((((((((((((w8.setCell ⟨w.heap.size, 0, none⟩ (.int .i64 q.k)).setCell ⟨w.heap.size, 1, none⟩ (.int .u16 (q.s : Int))).setCell ⟨w.heap.size, 2, none⟩ (.int .u16 (q.t : Int))).setCell ⟨w.heap.size, 3, none⟩ (.int .u32 (q.f : Int))).setCell ⟨w.heap.size, 4, none⟩ (.int .u16 (q.y : Int))).setCell ⟨w.heap.size, 5, none⟩ (.slice r8 q.n c8)).setCell ⟨w.heap.size, 6, none⟩ (.int .u64 (q.T : Int))).setCell ⟨w.heap.size, 7, none⟩ (.int .u32 (q.l : Int))).setCell ⟨w.heap.size, 8, none⟩ (.int .u32 (q.g : Int))).setCell ⟨w.heap.size, 9, none⟩ (.int .u16 (q.u : Int))).setCell ⟨w.heap.size, 10, none⟩ (.int .u16 (q.j : Int))).setCell ⟨w.heap.size, 11, none⟩ (.int .u32 (q.F : Int))).setCell ⟨w.heap.size, 12, none⟩ (.int .u16 (q.d : Int))).setCell ⟨w.heap.size + 1, 0, none⟩ (.int .i64 0)) = w10 at *
  clear q0 q1 q2 q3 q4 q5 q6 q7 q8 q9 q10 q11 q12 p0 p1 p2 p3 p4 p5 p6 p7 p8 p9 p10 p11 p12 z0 z1 z2 z3 z4 z5 z6 z7 z8 z9 z10 z11 z12 pe ze
  obtain ⟨D, e10, B10, b10⟩ := HA.out
  refine leaves_cons (f := 25) (args := #[.pointer (some ⟨w.heap.size, 0, none⟩), .pointer (some ⟨w.heap.size + 1, 0, none⟩)]) (by simp) (by simp [go_sem]) ?_
  refine (catchT_idle ⟨w.heap.size, 0, none⟩ ⟨w.heap.size + 1, 0, none⟩ _).mono ?_
  rintro e u' w'' ⟨rfl, rfl, d⟩
  have D := D.grew d
  have ce := (d.cell (p := ⟨w.heap.size + 1, 0, none⟩) (cell_lt e10)).trans e10
  have HA : Hid (TkIs w L x (.returned (.tuple #[.agg #[.int .i64 q.k, .int .u16 (q.s : Int), .int .u16 (q.t : Int), .int .u32 (q.f : Int), .int .u16 (q.y : Int), .slice r8 q.n c8, .int .u64 (q.T : Int), .int .u32 (q.l : Int), .int .u32 (q.g : Int), .int .u16 (q.u : Int), .int .u16 (q.j : Int), .int .u32 (q.F : Int), .int .u16 (q.d : Int)], .int .i64 0])) w'') := TkIs.yes h0 ((tk_in h1).trans (by rw [HK.out]; exact hI)) n8 (fun h => (g8 h).imp fun g e => ⟨e.1, Nat.le_trans l7 e.2⟩) (B10.grew d) (b10.trans (d.mono b10.size))
  have s0 : w''.cell? ⟨w.heap.size, 0, none⟩ = some (.int .i64 q.k) := D.cell 0 (by decide)
  have s1 : w''.cell? ⟨w.heap.size, 1, none⟩ = some (.int .u16 (q.s : Int)) := D.cell 1 (by decide)
  have s2 : w''.cell? ⟨w.heap.size, 2, none⟩ = some (.int .u16 (q.t : Int)) := D.cell 2 (by decide)
  have s3 : w''.cell? ⟨w.heap.size, 3, none⟩ = some (.int .u32 (q.f : Int)) := D.cell 3 (by decide)
  have s4 : w''.cell? ⟨w.heap.size, 4, none⟩ = some (.int .u16 (q.y : Int)) := D.cell 4 (by decide)
  have s5 : w''.cell? ⟨w.heap.size, 5, none⟩ = some (.slice r8 q.n c8) := D.cell 5 (by decide)
  have s6 : w''.cell? ⟨w.heap.size, 6, none⟩ = some (.int .u64 (q.T : Int)) := D.cell 6 (by decide)
  have s7 : w''.cell? ⟨w.heap.size, 7, none⟩ = some (.int .u32 (q.l : Int)) := D.cell 7 (by decide)
  have s8 : w''.cell? ⟨w.heap.size, 8, none⟩ = some (.int .u32 (q.g : Int)) := D.cell 8 (by decide)
  have s9 : w''.cell? ⟨w.heap.size, 9, none⟩ = some (.int .u16 (q.u : Int)) := D.cell 9 (by decide)
  have s10 : w''.cell? ⟨w.heap.size, 10, none⟩ = some (.int .u16 (q.j : Int)) := D.cell 10 (by decide)
  have s11 : w''.cell? ⟨w.heap.size, 11, none⟩ = some (.int .u32 (q.F : Int)) := D.cell 11 (by decide)
  have s12 : w''.cell? ⟨w.heap.size, 12, none⟩ = some (.int .u16 (q.d : Int)) := D.cell 12 (by decide)
  clear D d e10 B10 b10
  simp [Leaves, settle, results, Try.results11, go_sem, s0, s1, s2, s3, s4, s5, s6, s7, s8, s9, s10, s11, s12, ce]
  exact HA.out

theorem packtake_any (a : Option Addr) (L c : Nat) (x : Nat → Nat) (w : World) (hx : BytesAt w a L x) (hc : L ≤ c) (hn : L ≤ 1000000) :
    Calls Try.prog 11 #[.slice a L c] w fun e w' => TkIs w L x e w' := by
  cases h0 : opB x L with
  | false => exact packtake_shut a L c x w hx hc hn h0
  | true =>
    cases h1 : opN x L with
    | zero => exact packtake_bare a L c x w hx hc hn h0 h1
    | succ m =>
      by_cases hK : 1 ≤ x 0 ∧ x 0 ≤ 4
      · cases hI : inP (x 0) m (fun i => x (1 + i)) with
        | none => exact packtake_form a L c x w hx hc hn m (x 0) h0 h1 rfl hK hI
        | some q => exact packtake_some a L c x w hx hc hn m (x 0) h0 h1 rfl q hI
      · exact packtake_kind a L c x w hx hc hn m (x 0) h0 h1 rfl hK
end Go.Proofs.Ytcflaklnafggmaa
