/-
  Package packet: what is put behind a Kind, and taken from there, by each Kind's methods.
-/
import Derived.Test.YtcflaklnafggmaaPwy
import Derived.Test.YtcflaklnafggmaaHpt
import Derived.Test.YtcflaklnafggmaaHta
import Derived.Test.YtcflaklnafggmaaBpu
import Derived.Test.YtcflaklnafggmaaBtk
namespace Go.Proofs.Ytcflaklnafggmaa
open Go.RowKit Go.Deep

theorem PutIs.row {w w' : World} {k E : Nat} {z : Nat → Nat} {e : Ending} (h : PutIs w k z E e w') (hk : 0 < k) : ∃ g c, e = .returned (.tuple #[.slice (some ⟨g, 0, none⟩) k c, .int .i64 (E : Int)]) ∧ w.heap.size ≤ g ∧ k ≤ c ∧ BytesAt w' (some ⟨g, 0, none⟩) k z ∧ Below w.heap.size w w' := by
  obtain ⟨r, c, rfl, h1, h2, h3, h4⟩ := h
  obtain ⟨g, rfl, h5⟩ := h2 hk
  exact ⟨g, c, rfl, h5, h1, h3, h4⟩

set_option maxRecDepth 100000 in
theorem putData_yes (B : Nat) (p : Pk) (r : Option Addr) (c : Nat) (w : World) (D : PkAt w B p r c) (o : p.Ok) (hx : BytesAt w r p.n p.x) (h1 : 1 ≤ p.n) (h2 : p.n ≤ 64) :
    Calls Try.prog 35 #[.pointer (some ⟨B, 0, none⟩)] w fun e w' => NewRow w (10 + p.n) (laid p.s p.t p.f p.y p.x) e w' := by
  have q1 : w.cell? ⟨B, 1, none⟩ = some (.int .u16 (p.s : Int)) := D.cell 1 (by decide)
  have q2 : w.cell? ⟨B, 2, none⟩ = some (.int .u16 (p.t : Int)) := D.cell 2 (by decide)
  have q3 : w.cell? ⟨B, 3, none⟩ = some (.int .u32 (p.f : Int)) := D.cell 3 (by decide)
  have q4 : w.cell? ⟨B, 4, none⟩ = some (.int .u16 (p.y : Int)) := D.cell 4 (by decide)
  have q5 : w.cell? ⟨B, 5, none⟩ = some (.slice r p.n c) := D.cell 5 (by decide)
  clear D
  go_enter Try.func35, Try.ntmps35
  go_wp2_with fail
  refine (hput_yes p.s p.t p.f p.y r p.n c p.x w hx h1 h2 o.ls o.lt o.lf o.ly).mono ?_
  intro e w1 h
  obtain ⟨g, cg, rfl, k1, k2, k3, k4⟩ := h.row (by omega)
  go_wp2_with fail
  refine (pdemand_yes _ _ _ (by simp)).mono ?_
  rintro e w2 ⟨rfl, rfl⟩
  have HA : Hid (NewRow w (10 + p.n) (laid p.s p.t p.f p.y p.x) (.returned (.slice (some ⟨g, 0, none⟩) (10 + p.n) cg)) w2) := ⟨g, cg, rfl, k1, k2, k3, k4⟩
  clear h k1 k2 k3 k4 q1 q2 q3 q4 q5
  go_wp2
  go_ret
  exact HA.out

set_option maxRecDepth 100000 in
theorem putData_no (B : Nat) (p : Pk) (r : Option Addr) (c : Nat) (w : World) (D : PkAt w B p r c) (h : ¬ (1 ≤ p.n ∧ p.n ≤ 64)) :
    Calls Try.prog 35 #[.pointer (some ⟨B, 0, none⟩)] w fun e w' => e = .panicked (refusedP 4) ∧ Below w.heap.size w w' := by
  have q1 : w.cell? ⟨B, 1, none⟩ = some (.int .u16 (p.s : Int)) := D.cell 1 (by decide)
  have q2 : w.cell? ⟨B, 2, none⟩ = some (.int .u16 (p.t : Int)) := D.cell 2 (by decide)
  have q3 : w.cell? ⟨B, 3, none⟩ = some (.int .u32 (p.f : Int)) := D.cell 3 (by decide)
  have q4 : w.cell? ⟨B, 4, none⟩ = some (.int .u16 (p.y : Int)) := D.cell 4 (by decide)
  have q5 : w.cell? ⟨B, 5, none⟩ = some (.slice r p.n c) := D.cell 5 (by decide)
  clear D
  go_enter Try.func35, Try.ntmps35
  go_wp2_with fail
  refine (hput_no p.s p.t p.f p.y r p.n c w h (fun _ => 0)).mono ?_
  rintro e w1 ⟨r', c', rfl, -, -, -, d1⟩
  go_wp2_with fail
  refine (pdemand_no _ _ _ (by simp)).mono ?_
  rintro e w2 ⟨rfl, rfl⟩
  go_wp2
  exact ⟨rfl, rfl, d1⟩

set_option maxRecDepth 100000 in
theorem putReport_yes (B : Nat) (p : Pk) (r : Option Addr) (c : Nat) (w : World) (D : PkAt w B p r c) (o : p.Ok) :
    Calls Try.prog 37 #[.pointer (some ⟨B, 0, none⟩)] w fun e w' => NewRow w 20 (repLaid p.T p.l p.g p.u p.j) e w' := by
  have q6 : w.cell? ⟨B, 6, none⟩ = some (.int .u64 (p.T : Int)) := D.cell 6 (by decide)
  have q7 : w.cell? ⟨B, 7, none⟩ = some (.int .u32 (p.l : Int)) := D.cell 7 (by decide)
  have q8 : w.cell? ⟨B, 8, none⟩ = some (.int .u32 (p.g : Int)) := D.cell 8 (by decide)
  have q9 : w.cell? ⟨B, 9, none⟩ = some (.int .u16 (p.u : Int)) := D.cell 9 (by decide)
  have q10 : w.cell? ⟨B, 10, none⟩ = some (.int .u16 (p.j : Int)) := D.cell 10 (by decide)
  clear D
  go_enter Try.func37, Try.ntmps37
  go_wp2_with fail
  refine (kputr_any p.T p.l p.g p.u p.j w o.lT o.ll o.lg o.lu o.lj).mono ?_
  rintro e w1 ⟨g, cg, rfl, k1, k2, k3, k4⟩
  have HA : Hid (NewRow w 20 (repLaid p.T p.l p.g p.u p.j) (.returned (.slice (some ⟨g, 0, none⟩) 20 cg)) w1) := ⟨g, cg, rfl, k1, k2, k3, k4⟩
  clear k1 k2 k3 k4 q6 q7 q8 q9 q10
  go_wp2
  go_ret
  exact HA.out

set_option maxRecDepth 100000 in
theorem putGone_yes (B : Nat) (p : Pk) (r : Option Addr) (c : Nat) (w : World) (D : PkAt w B p r c) (o : p.Ok) :
    Calls Try.prog 41 #[.pointer (some ⟨B, 0, none⟩)] w fun e w' => NewRow w 4 (goneLaid p.F) e w' := by
  have q11 : w.cell? ⟨B, 11, none⟩ = some (.int .u32 (p.F : Int)) := D.cell 11 (by decide)
  clear D
  go_enter Try.func41, Try.ntmps41
  go_wp2_with fail
  refine (kputg_any p.F w o.lF).mono ?_
  rintro e w1 ⟨g, cg, rfl, k1, k2, k3, k4⟩
  have HA : Hid (NewRow w 4 (goneLaid p.F) (.returned (.slice (some ⟨g, 0, none⟩) 4 cg)) w1) := ⟨g, cg, rfl, k1, k2, k3, k4⟩
  clear k1 k2 k3 k4 q11
  go_wp2
  go_ret
  exact HA.out

set_option maxRecDepth 100000 in
theorem putNack_yes (B : Nat) (p : Pk) (r : Option Addr) (c : Nat) (w : World) (D : PkAt w B p r c) (o : p.Ok) :
    Calls Try.prog 39 #[.pointer (some ⟨B, 0, none⟩)] w fun e w' => NewRow w 6 (nackLaid p.F p.d) e w' := by
  go_enter Try.func39, Try.ntmps39
  go_wp2_with fail
  refine wp_region_held (S := fun w' => PkAt w' B p r c) (by kernel_rfl) ?_
  change wpAnyH _ _ _ _ _ _ _ _ w.drew
  have hr : PkAt w.drew B p r c := D.grew (Below.refl _ _).drew
  have b1 : Below w.heap.size w w.drew := (Below.refl _ _).drew
  have s1 : w.drew.heap.size = w.heap.size := rfl
  clear D
  generalize w.drew = w1 at *
  refine wpAnyH_take (i := 0) (v := .pointer (some ⟨B, 0, none⟩)) rfl (by kernel_rfl) (by kernel_rfl) (by kernel_rfl) (fun _ _ _ h => h) (Yields.yieldsIf (Or.inl ⟨by kernel_rfl, fun _ => by kernel_rfl⟩)) hr ?_
  refine wpAnyH_take (i := 1) (v := .pointer (some ⟨B, 0, none⟩)) rfl (by kernel_rfl) (by kernel_rfl) (by kernel_rfl) (fun _ _ _ h => h) (Yields.yieldsIf (Or.inl ⟨by kernel_rfl, fun _ => by go_simp⟩)) hr ?_
  refine wpAnyH_take (i := 2) (v := .pointer (some ⟨B, 11, none⟩)) rfl (by kernel_rfl) (by kernel_rfl) (by kernel_rfl) (fun _ _ _ h => h) (Yields.yieldsIf (Or.inl ⟨by kernel_rfl, fun _ => by go_simp⟩)) hr ?_
  refine wpAnyH_take (i := 3) (v := .int .u32 (p.F : Int)) rfl (by kernel_rfl) (by kernel_rfl) (by kernel_rfl) (fun _ _ _ h => h) (Or.inl ⟨by kernel_rfl, fun W hW => by have g11 : W.cell? ⟨B, 11, none⟩ = some (.int .u32 (p.F : Int)) := hW.cell 11 (by decide); go_simp⟩) hr ?_
  refine wpAnyH_take (i := 4) (v := .pointer (some ⟨B, 0, none⟩)) rfl (by kernel_rfl) (by kernel_rfl) (by kernel_rfl) (fun _ _ _ h => h) (Yields.yieldsIf (Or.inl ⟨by kernel_rfl, fun _ => by kernel_rfl⟩)) hr ?_
  refine wpAnyH_take (i := 5) (v := .pointer (some ⟨B, 0, none⟩)) rfl (by kernel_rfl) (by kernel_rfl) (by kernel_rfl) (fun _ _ _ h => h) (Yields.yieldsIf (Or.inl ⟨by kernel_rfl, fun _ => by go_simp⟩)) hr ?_
  refine wpAnyH_take (i := 6) (v := .pointer (some ⟨B, 12, none⟩)) rfl (by kernel_rfl) (by kernel_rfl) (by kernel_rfl) (fun _ _ _ h => h) (Yields.yieldsIf (Or.inl ⟨by kernel_rfl, fun _ => by go_simp⟩)) hr ?_
  refine wpAnyH_take (i := 7) (v := .int .u16 (p.d : Int)) rfl (by kernel_rfl) (by kernel_rfl) (by kernel_rfl) (fun _ _ _ h => h) (Or.inl ⟨by kernel_rfl, fun W hW => by have g12 : W.cell? ⟨B, 12, none⟩ = some (.int .u16 (p.d : Int)) := hW.cell 12 (by decide); go_simp⟩) hr ?_
  refine wpAnyH_ready (rs := [8]) (by kernel_rfl) (by simp) ?_
  refine AllReadyH.cons rfl (fun K2 hK2 => ?_) AllReadyH.nil
  go_simp
  refine Calls.mono (kputn_any p.F p.d w1 o.lF o.ld) ?_
  rintro e w2 ⟨g, cg, rfl, k1, k2, k3, k4⟩
  refine hK2.out _ _ (hr.grew k4) (fun hr => ?_)
  clear hK2 K2
  have HA : Hid (NewRow w 6 (nackLaid p.F p.d) (.returned (.slice (some ⟨g, 0, none⟩) 6 cg)) w2) := ⟨g, cg, rfl, by omega, k2, k3, b1.trans (k4.mono (by omega))⟩
  clear k1 k2 k3 k4 b1 s1
  refine wpAnyH_take (i := 9) (v := .slice (some ⟨g, 0, none⟩) 6 cg) rfl (by kernel_rfl) (by kernel_rfl) (by kernel_rfl) (fun _ _ _ h => h) (Yields.yieldsIf (Or.inl ⟨by kernel_rfl, fun _ => by kernel_rfl⟩)) hr ?_
  refine wpAnyH_done (by kernel_rfl) ?_ _
  clear hr
  go_wp2
  go_ret
  exact HA.out

/-- What a packet of a Kind that may be has behind it. -/
theorem pput_yes (B : Nat) (p : Pk) (r : Option Addr) (c : Nat) (w : World) (D : PkAt w B p r c) (o : p.Ok) (hx : BytesAt w r p.n p.x) (k : Nat) (hk : p.k = (k : Int)) (h1 : 1 ≤ k) (h2 : k ≤ 4) (hE : bE p = 0) :
    Calls Try.prog (pF k) #[.pointer (some ⟨B, 0, none⟩)] w fun e w' => NewRow w (bN p) (bX p) e w' := by
  match k, h1, h2 with
  | 1, _, _ =>
    obtain ⟨e1, e2, e3⟩ := b_data hk
    rw [e1, e2]
    rw [e3] at hE
    by_cases h : 1 ≤ p.n ∧ p.n ≤ 64
    · exact putData_yes B p r c w D o hx h.1 h.2
    · rw [(put_unfit (fit_no h)).2] at hE; exact absurd hE (by decide)
  | 2, _, _ =>
    obtain ⟨e1, e2, -⟩ := b_rep hk
    rw [e1, e2]
    exact putReport_yes B p r c w D o
  | 3, _, _ =>
    obtain ⟨e1, e2, -⟩ := b_nack hk
    rw [e1, e2]
    exact putNack_yes B p r c w D o
  | 4, _, _ =>
    obtain ⟨e1, e2, -⟩ := b_gone hk
    rw [e1, e2]
    exact putGone_yes B p r c w D o
theorem pput_no (B : Nat) (p : Pk) (r : Option Addr) (c : Nat) (w : World) (D : PkAt w B p r c) (k : Nat) (hk : p.k = (k : Int)) (h1 : 1 ≤ k) (h2 : k ≤ 4) (hE : bE p ≠ 0) :
    Calls Try.prog (pF k) #[.pointer (some ⟨B, 0, none⟩)] w fun e w' => e = .panicked (refusedP (bE p : Int)) ∧ Below w.heap.size w w' := by
  match k, h1, h2 with
  | 1, _, _ =>
    rw [(b_data hk).2.2] at hE ⊢
    by_cases h : 1 ≤ p.n ∧ p.n ≤ 64
    · rw [(put_fit (fit_yes h.1 h.2)).2] at hE; exact absurd rfl hE
    · rw [(put_unfit (fit_no h)).2]; exact putData_no B p r c w D h
  | 2, _, _ => exact absurd (b_rep hk).2.2 hE
  | 3, _, _ => exact absurd (b_nack hk).2.2 hE
  | 4, _, _ => exact absurd (b_gone hk).2.2 hE

/-- The packet q stands in block B, its Body in new memory. -/
def TookAt (w : World) (B : Nat) (q : Pk) (w' : World) : Prop := ∃ r c, q.n ≤ c ∧ (0 < q.n → ∃ g, r = some ⟨g, 0, none⟩ ∧ w.heap.size ≤ g) ∧ PkAt w' B q r c ∧ BytesAt w' r q.n q.x ∧ Below B w w'

set_option maxRecDepth 100000 in
set_option maxHeartbeats 400000 in
theorem takeData_yes (B : Nat) (a : Option Addr) (m c : Nat) (z : Nat → Nat) (w : World) (D : PkAt w B (pKind 1) none 0) (hz : BytesAt w a m z) (hc : m ≤ c) (s t f y n : Nat) (x : Nat → Nat) (HT : ∀ e w', TakeIs w m z e w' → DatIs w s t f y n x 0 e w') :
    Calls Try.prog 36 #[.pointer (some ⟨B, 0, none⟩), .slice a m c] w fun e w' => e = .returned (.tuple #[]) ∧ TookAt w B (pData s t f y n x) w' := by
  have lB := D.lt
  have HD : Hid (PkAt w B (pKind 1) none 0) := D
  clear D
  go_enter Try.func36, Try.ntmps36
  go_wp2_with fail
  refine (htake_any a m c z w hz hc).mono ?_
  intro e w1 h
  obtain ⟨r', c', rfl, k1, k2, k3, k4⟩ := HT _ _ h
  have D1 := HD.out.grew k4
  have a2 : Below w1.heap.size w1 (w1.alloc (.cells #[.int .u16 (s : Int), .int .u16 (t : Int), .int .u32 (f : Int), .int .u16 (y : Int), .slice r' n c'] 26)) := (Below.refl _ _).alloc (Nat.le_refl _) _
  have D2 := D1.grew a2
  have G := DatAt.made w1 26 s t f y r' n c'
  have g0 := G.c0
  have g1 := G.c1
  have g2 := G.c2
  have g3 := G.c3
  have g4 := G.c4
  have b2 : Below B w (w1.alloc (.cells #[.int .u16 (s : Int), .int .u16 (t : Int), .int .u32 (f : Int), .int .u16 (y : Int), .slice r' n c'] 26)) := (k4.mono (Nat.le_of_lt lB)).trans (a2.mono (Nat.le_trans (Nat.le_of_lt lB) k4.size))
  have q1 : (w1.alloc (.cells #[.int .u16 (s : Int), .int .u16 (t : Int), .int .u32 (f : Int), .int .u16 (y : Int), .slice r' n c'] 26)).cell? ⟨B, 1, none⟩ = some (.int .u16 0) := D2.cell 1 (by decide)
  have q2 : (w1.alloc (.cells #[.int .u16 (s : Int), .int .u16 (t : Int), .int .u32 (f : Int), .int .u16 (y : Int), .slice r' n c'] 26)).cell? ⟨B, 2, none⟩ = some (.int .u16 0) := D2.cell 2 (by decide)
  have q3 : (w1.alloc (.cells #[.int .u16 (s : Int), .int .u16 (t : Int), .int .u32 (f : Int), .int .u16 (y : Int), .slice r' n c'] 26)).cell? ⟨B, 3, none⟩ = some (.int .u32 0) := D2.cell 3 (by decide)
  have q4 : (w1.alloc (.cells #[.int .u16 (s : Int), .int .u16 (t : Int), .int .u32 (f : Int), .int .u16 (y : Int), .slice r' n c'] 26)).cell? ⟨B, 4, none⟩ = some (.int .u16 0) := D2.cell 4 (by decide)
  have q5 : (w1.alloc (.cells #[.int .u16 (s : Int), .int .u16 (t : Int), .int .u32 (f : Int), .int .u16 (y : Int), .slice r' n c'] 26)).cell? ⟨B, 5, none⟩ = some (.slice none 0 0) := D2.cell 5 (by decide)
  have z1 := D2.frz 1
  have z2 := D2.frz 2
  have z3 := D2.frz 3
  have z4 := D2.frz 4
  have z5 := D2.frz 5
  have D3 : PkAt ((((((w1.alloc (.cells #[.int .u16 (s : Int), .int .u16 (t : Int), .int .u32 (f : Int), .int .u16 (y : Int), .slice r' n c'] 26)).setCell ⟨B, 1, none⟩ (.int .u16 (s : Int))).setCell ⟨B, 2, none⟩ (.int .u16 (t : Int))).setCell ⟨B, 3, none⟩ (.int .u32 (f : Int))).setCell ⟨B, 4, none⟩ (.int .u16 (y : Int))).setCell ⟨B, 5, none⟩ (.slice r' n c')) B (pData s t f y n x) r' c' := D2.run 1 [.int .u16 (s : Int), .int .u16 (t : Int), .int .u32 (f : Int), .int .u16 (y : Int), .slice r' n c'] (Nat.le_of_ble_eq_true rfl) fun j hj => match j, hj with
    | 0, _ => rfl
    | 1, _ => rfl
    | 2, _ => rfl
    | 3, _ => rfl
    | 4, _ => rfl
    | 5, _ => rfl
    | 6, _ => rfl
    | 7, _ => rfl
    | 8, _ => rfl
    | 9, _ => rfl
    | 10, _ => rfl
    | 11, _ => rfl
    | 12, _ => rfl
  have HA : Hid (TookAt w B (pData s t f y n x) ((((((w1.alloc (.cells #[.int .u16 (s : Int), .int .u16 (t : Int), .int .u32 (f : Int), .int .u16 (y : Int), .slice r' n c'] 26)).setCell ⟨B, 1, none⟩ (.int .u16 (s : Int))).setCell ⟨B, 2, none⟩ (.int .u16 (t : Int))).setCell ⟨B, 3, none⟩ (.int .u32 (f : Int))).setCell ⟨B, 4, none⟩ (.int .u16 (y : Int))).setCell ⟨B, 5, none⟩ (.slice r' n c'))) := ⟨r', c', k1, k2, D3, BytesAt.puts [.int .u16 (s : Int), .int .u16 (t : Int), .int .u32 (f : Int), .int .u16 (y : Int), .slice r' n c'] 1 (k3.grew a2) D2 (Nat.le_of_ble_eq_true rfl) (Pk.noByte _ _ _), puts_below (Nat.le_refl _) [.int .u16 (s : Int), .int .u16 (t : Int), .int .u32 (f : Int), .int .u16 (y : Int), .slice r' n c'] 1 b2⟩
  clear h HD D1 D2 D3 b2 k4 a2 G k1 k2 k3
  go_wp2_with fail
  refine (pdemand_yes _ _ _ (by simp)).mono ?_
  rintro e w2 ⟨rfl, rfl⟩
  go_wp2
  go_end0
  exact ⟨rfl, HA.out⟩

set_option maxRecDepth 100000 in
set_option maxHeartbeats 400000 in
theorem takeReport_yes (B : Nat) (a : Option Addr) (m c : Nat) (z : Nat → Nat) (w : World) (D : PkAt w B (pKind 2) none 0) (hz : BytesAt w a m z) (hc : m ≤ c) (T l g u j : Nat) (HT : ∀ e w', RepTake w m z e w' → RepIs w T l g u j 0 e w') :
    Calls Try.prog 38 #[.pointer (some ⟨B, 0, none⟩), .slice a m c] w fun e w' => e = .returned (.tuple #[]) ∧ TookAt w B (pRep T l g u j) w' := by
  have lB := D.lt
  have HD : Hid (PkAt w B (pKind 2) none 0) := D
  clear D
  go_enter Try.func38, Try.ntmps38
  go_wp2_with fail
  refine (ktaker_any a m c z w hz hc).mono ?_
  intro e w1 h
  obtain ⟨rfl, k4⟩ := HT _ _ h
  have D1 := HD.out.grew k4
  have a2 : Below w1.heap.size w1 (w1.alloc (.cells #[.int .u64 (T : Int), .int .u32 (l : Int), .int .u32 (g : Int), .int .u16 (u : Int), .int .u16 (j : Int)] 29)) := (Below.refl _ _).alloc (Nat.le_refl _) _
  have D2 := D1.grew a2
  have G := RepAt.made w1 29 T l g u j
  have g0 := G.c0
  have g1 := G.c1
  have g2 := G.c2
  have g3 := G.c3
  have g4 := G.c4
  have b2 : Below B w (w1.alloc (.cells #[.int .u64 (T : Int), .int .u32 (l : Int), .int .u32 (g : Int), .int .u16 (u : Int), .int .u16 (j : Int)] 29)) := (k4.mono (Nat.le_of_lt lB)).trans (a2.mono (Nat.le_trans (Nat.le_of_lt lB) k4.size))
  have q6 : (w1.alloc (.cells #[.int .u64 (T : Int), .int .u32 (l : Int), .int .u32 (g : Int), .int .u16 (u : Int), .int .u16 (j : Int)] 29)).cell? ⟨B, 6, none⟩ = some (.int .u64 0) := D2.cell 6 (by decide)
  have q7 : (w1.alloc (.cells #[.int .u64 (T : Int), .int .u32 (l : Int), .int .u32 (g : Int), .int .u16 (u : Int), .int .u16 (j : Int)] 29)).cell? ⟨B, 7, none⟩ = some (.int .u32 0) := D2.cell 7 (by decide)
  have q8 : (w1.alloc (.cells #[.int .u64 (T : Int), .int .u32 (l : Int), .int .u32 (g : Int), .int .u16 (u : Int), .int .u16 (j : Int)] 29)).cell? ⟨B, 8, none⟩ = some (.int .u32 0) := D2.cell 8 (by decide)
  have q9 : (w1.alloc (.cells #[.int .u64 (T : Int), .int .u32 (l : Int), .int .u32 (g : Int), .int .u16 (u : Int), .int .u16 (j : Int)] 29)).cell? ⟨B, 9, none⟩ = some (.int .u16 0) := D2.cell 9 (by decide)
  have q10 : (w1.alloc (.cells #[.int .u64 (T : Int), .int .u32 (l : Int), .int .u32 (g : Int), .int .u16 (u : Int), .int .u16 (j : Int)] 29)).cell? ⟨B, 10, none⟩ = some (.int .u16 0) := D2.cell 10 (by decide)
  have z6 := D2.frz 6
  have z7 := D2.frz 7
  have z8 := D2.frz 8
  have z9 := D2.frz 9
  have z10 := D2.frz 10
  have D3 : PkAt ((((((w1.alloc (.cells #[.int .u64 (T : Int), .int .u32 (l : Int), .int .u32 (g : Int), .int .u16 (u : Int), .int .u16 (j : Int)] 29)).setCell ⟨B, 6, none⟩ (.int .u64 (T : Int))).setCell ⟨B, 7, none⟩ (.int .u32 (l : Int))).setCell ⟨B, 8, none⟩ (.int .u32 (g : Int))).setCell ⟨B, 9, none⟩ (.int .u16 (u : Int))).setCell ⟨B, 10, none⟩ (.int .u16 (j : Int))) B (pRep T l g u j) none 0 := D2.run 6 [.int .u64 (T : Int), .int .u32 (l : Int), .int .u32 (g : Int), .int .u16 (u : Int), .int .u16 (j : Int)] (Nat.le_of_ble_eq_true rfl) fun j hj => match j, hj with
    | 0, _ => rfl
    | 1, _ => rfl
    | 2, _ => rfl
    | 3, _ => rfl
    | 4, _ => rfl
    | 5, _ => rfl
    | 6, _ => rfl
    | 7, _ => rfl
    | 8, _ => rfl
    | 9, _ => rfl
    | 10, _ => rfl
    | 11, _ => rfl
    | 12, _ => rfl
  have HA : Hid (TookAt w B (pRep T l g u j) ((((((w1.alloc (.cells #[.int .u64 (T : Int), .int .u32 (l : Int), .int .u32 (g : Int), .int .u16 (u : Int), .int .u16 (j : Int)] 29)).setCell ⟨B, 6, none⟩ (.int .u64 (T : Int))).setCell ⟨B, 7, none⟩ (.int .u32 (l : Int))).setCell ⟨B, 8, none⟩ (.int .u32 (g : Int))).setCell ⟨B, 9, none⟩ (.int .u16 (u : Int))).setCell ⟨B, 10, none⟩ (.int .u16 (j : Int)))) := ⟨none, 0, Nat.le_refl _, fun h => absurd h (Nat.lt_irrefl 0), D3, nil_bytes _ _, puts_below (Nat.le_refl _) [.int .u64 (T : Int), .int .u32 (l : Int), .int .u32 (g : Int), .int .u16 (u : Int), .int .u16 (j : Int)] 6 b2⟩
  clear h HD D1 D2 D3 b2 k4 a2 G
  go_wp2_with fail
  refine (pdemand_yes _ _ _ (by simp)).mono ?_
  rintro e w2 ⟨rfl, rfl⟩
  go_wp2
  go_end0
  exact ⟨rfl, HA.out⟩

set_option maxRecDepth 100000 in
set_option maxHeartbeats 400000 in
theorem takeNack_yes (B : Nat) (a : Option Addr) (m c : Nat) (z : Nat → Nat) (w : World) (D : PkAt w B (pKind 3) none 0) (hz : BytesAt w a m z) (hc : m ≤ c) (f d : Nat) (HT : ∀ e w', NackTake w m z e w' → NackIs w f d 0 e w') :
    Calls Try.prog 40 #[.pointer (some ⟨B, 0, none⟩), .slice a m c] w fun e w' => e = .returned (.tuple #[]) ∧ TookAt w B (pNack f d) w' := by
  have lB := D.lt
  have HD : Hid (PkAt w B (pKind 3) none 0) := D
  clear D
  go_enter Try.func40, Try.ntmps40
  go_wp2_with fail
  refine (ktaken_any a m c z w hz hc).mono ?_
  intro e w1 h
  obtain ⟨rfl, k4⟩ := HT _ _ h
  have D1 := HD.out.grew k4
  have D2 := D1
  have b2 : Below B w w1 := k4.mono (Nat.le_of_lt lB)
  have q11 : w1.cell? ⟨B, 11, none⟩ = some (.int .u32 0) := D2.cell 11 (by decide)
  have q12 : w1.cell? ⟨B, 12, none⟩ = some (.int .u16 0) := D2.cell 12 (by decide)
  have z11 := D2.frz 11
  have z12 := D2.frz 12
  have D3 : PkAt ((w1.setCell ⟨B, 11, none⟩ (.int .u32 (f : Int))).setCell ⟨B, 12, none⟩ (.int .u16 (d : Int))) B (pNack f d) none 0 := D2.run 11 [.int .u32 (f : Int), .int .u16 (d : Int)] (Nat.le_of_ble_eq_true rfl) fun j hj => match j, hj with
    | 0, _ => rfl
    | 1, _ => rfl
    | 2, _ => rfl
    | 3, _ => rfl
    | 4, _ => rfl
    | 5, _ => rfl
    | 6, _ => rfl
    | 7, _ => rfl
    | 8, _ => rfl
    | 9, _ => rfl
    | 10, _ => rfl
    | 11, _ => rfl
    | 12, _ => rfl
  have HA : Hid (TookAt w B (pNack f d) ((w1.setCell ⟨B, 11, none⟩ (.int .u32 (f : Int))).setCell ⟨B, 12, none⟩ (.int .u16 (d : Int)))) := ⟨none, 0, Nat.le_refl _, fun h => absurd h (Nat.lt_irrefl 0), D3, nil_bytes _ _, puts_below (Nat.le_refl _) [.int .u32 (f : Int), .int .u16 (d : Int)] 11 b2⟩
  clear h HD D1 D2 D3 b2 k4
  go_wp2_with fail
  refine (pdemand_yes _ _ _ (by simp)).mono ?_
  rintro e w2 ⟨rfl, rfl⟩
  go_wp2
  go_end0
  exact ⟨rfl, HA.out⟩

set_option maxRecDepth 100000 in
set_option maxHeartbeats 400000 in
theorem takeGone_yes (B : Nat) (a : Option Addr) (m c : Nat) (z : Nat → Nat) (w : World) (D : PkAt w B (pKind 4) none 0) (hz : BytesAt w a m z) (hc : m ≤ c) (f : Nat) (HT : ∀ e w', GoneTake w m z e w' → GoneIs w f 0 e w') :
    Calls Try.prog 42 #[.pointer (some ⟨B, 0, none⟩), .slice a m c] w fun e w' => e = .returned (.tuple #[]) ∧ TookAt w B (pGone f) w' := by
  have lB := D.lt
  have HD : Hid (PkAt w B (pKind 4) none 0) := D
  clear D
  go_enter Try.func42, Try.ntmps42
  go_wp2_with fail
  refine (ktakeg_any a m c z w hz hc).mono ?_
  intro e w1 h
  obtain ⟨rfl, k4⟩ := HT _ _ h
  have D1 := HD.out.grew k4
  have D2 := D1
  have b2 : Below B w w1 := k4.mono (Nat.le_of_lt lB)
  have q11 : w1.cell? ⟨B, 11, none⟩ = some (.int .u32 0) := D2.cell 11 (by decide)
  have z11 := D2.frz 11
  have D3 : PkAt (w1.setCell ⟨B, 11, none⟩ (.int .u32 (f : Int))) B (pGone f) none 0 := D2.run 11 [.int .u32 (f : Int)] (Nat.le_of_ble_eq_true rfl) fun j hj => match j, hj with
    | 0, _ => rfl
    | 1, _ => rfl
    | 2, _ => rfl
    | 3, _ => rfl
    | 4, _ => rfl
    | 5, _ => rfl
    | 6, _ => rfl
    | 7, _ => rfl
    | 8, _ => rfl
    | 9, _ => rfl
    | 10, _ => rfl
    | 11, _ => rfl
    | 12, _ => rfl
  have HA : Hid (TookAt w B (pGone f) (w1.setCell ⟨B, 11, none⟩ (.int .u32 (f : Int)))) := ⟨none, 0, Nat.le_refl _, fun h => absurd h (Nat.lt_irrefl 0), D3, nil_bytes _ _, puts_below (Nat.le_refl _) [.int .u32 (f : Int)] 11 b2⟩
  clear h HD D1 D2 D3 b2 k4
  go_wp2_with fail
  refine (pdemand_yes _ _ _ (by simp)).mono ?_
  rintro e w2 ⟨rfl, rfl⟩
  go_wp2
  go_end0
  exact ⟨rfl, HA.out⟩

set_option maxRecDepth 100000 in
theorem takeData_no (B : Nat) (a : Option Addr) (m c : Nat) (z : Nat → Nat) (w : World) (hB : B < w.heap.size) (hz : BytesAt w a m z) (hc : m ≤ c) (HT : ∀ e w', TakeIs w m z e w' → DatIs w 0 0 0 0 0 (fun i => z (10 + i)) 2 e w') :
    Calls Try.prog 36 #[.pointer (some ⟨B, 0, none⟩), .slice a m c] w fun e w' => e = .panicked (refusedP 2) ∧ Below B w w' := by
  go_enter Try.func36, Try.ntmps36
  go_wp2_with fail
  refine (htake_any a m c z w hz hc).mono ?_
  intro e w1 h
  obtain ⟨r', c', rfl, -, -, -, k4⟩ := HT _ _ h
  go_wp2_with fail
  refine (pdemand_no _ _ _ (by simp)).mono ?_
  rintro e w2 ⟨rfl, rfl⟩
  go_wp2
  exact ⟨rfl, rfl, (k4.mono (Nat.le_of_lt hB)).alloc (Nat.le_trans (Nat.le_of_lt hB) k4.size) _⟩

set_option maxRecDepth 100000 in
theorem takeReport_no (B : Nat) (a : Option Addr) (m c : Nat) (z : Nat → Nat) (w : World) (hB : B < w.heap.size) (hz : BytesAt w a m z) (hc : m ≤ c) (HT : ∀ e w', RepTake w m z e w' → RepIs w 0 0 0 0 0 2 e w') :
    Calls Try.prog 38 #[.pointer (some ⟨B, 0, none⟩), .slice a m c] w fun e w' => e = .panicked (refusedP 2) ∧ Below B w w' := by
  go_enter Try.func38, Try.ntmps38
  go_wp2_with fail
  refine (ktaker_any a m c z w hz hc).mono ?_
  intro e w1 h
  obtain ⟨rfl, k4⟩ := HT _ _ h
  go_wp2_with fail
  refine (pdemand_no _ _ _ (by simp)).mono ?_
  rintro e w2 ⟨rfl, rfl⟩
  go_wp2
  exact ⟨rfl, rfl, (k4.mono (Nat.le_of_lt hB)).alloc (Nat.le_trans (Nat.le_of_lt hB) k4.size) _⟩

set_option maxRecDepth 100000 in
theorem takeNack_no (B : Nat) (a : Option Addr) (m c : Nat) (z : Nat → Nat) (w : World) (hB : B < w.heap.size) (hz : BytesAt w a m z) (hc : m ≤ c) (HT : ∀ e w', NackTake w m z e w' → NackIs w 0 0 2 e w') :
    Calls Try.prog 40 #[.pointer (some ⟨B, 0, none⟩), .slice a m c] w fun e w' => e = .panicked (refusedP 2) ∧ Below B w w' := by
  go_enter Try.func40, Try.ntmps40
  go_wp2_with fail
  refine (ktaken_any a m c z w hz hc).mono ?_
  intro e w1 h
  obtain ⟨rfl, k4⟩ := HT _ _ h
  go_wp2_with fail
  refine (pdemand_no _ _ _ (by simp)).mono ?_
  rintro e w2 ⟨rfl, rfl⟩
  go_wp2
  exact ⟨rfl, rfl, k4.mono (Nat.le_of_lt hB)⟩

set_option maxRecDepth 100000 in
theorem takeGone_no (B : Nat) (a : Option Addr) (m c : Nat) (z : Nat → Nat) (w : World) (hB : B < w.heap.size) (hz : BytesAt w a m z) (hc : m ≤ c) (HT : ∀ e w', GoneTake w m z e w' → GoneIs w 0 2 e w') :
    Calls Try.prog 42 #[.pointer (some ⟨B, 0, none⟩), .slice a m c] w fun e w' => e = .panicked (refusedP 2) ∧ Below B w w' := by
  go_enter Try.func42, Try.ntmps42
  go_wp2_with fail
  refine (ktakeg_any a m c z w hz hc).mono ?_
  intro e w1 h
  obtain ⟨rfl, k4⟩ := HT _ _ h
  go_wp2_with fail
  refine (pdemand_no _ _ _ (by simp)).mono ?_
  rintro e w2 ⟨rfl, rfl⟩
  go_wp2
  exact ⟨rfl, rfl, k4.mono (Nat.le_of_lt hB)⟩

/-- What is taken behind a Kind that may be. -/
theorem ptake_yes (B k : Nat) (a : Option Addr) (m c : Nat) (z : Nat → Nat) (w : World) (q : Pk) (h1 : 1 ≤ k) (h2 : k ≤ 4) (D : PkAt w B (pKind k) none 0) (hz : BytesAt w a m z) (hc : m ≤ c) (h : inP k m z = some q) :
    Calls Try.prog (tF k) #[.pointer (some ⟨B, 0, none⟩), .slice a m c] w fun e w' => e = .returned (.tuple #[]) ∧ TookAt w B q w' := by
  match k, h1, h2 with
  | 1, _, _ =>
    by_cases hm : 11 ≤ m ∧ m ≤ 74
    · rw [inP_data (tk_yes hm.1 hm.2)] at h
      obtain rfl := Option.some.inj h
      exact takeData_yes B a m c z w D hz hc _ _ _ _ _ _ fun e w' h => h.some hm.1 hm.2
    · rw [inP_data_no (tk_no hm)] at h; exact nomatch h
  | 2, _, _ =>
    by_cases hm : m = 20
    · subst hm
      obtain rfl := Option.some.inj ((inP_rep z).symm.trans h)
      exact takeReport_yes B a 20 c z w D hz hc _ _ _ _ _ fun e w' h => h.some
    · rw [inP_rep_no hm] at h; exact nomatch h
  | 3, _, _ =>
    by_cases hm : m = 6
    · subst hm
      obtain rfl := Option.some.inj ((inP_nack z).symm.trans h)
      exact takeNack_yes B a 6 c z w D hz hc _ _ fun e w' h => h.some
    · rw [inP_nack_no hm] at h; exact nomatch h
  | 4, _, _ =>
    by_cases hm : m = 4
    · subst hm
      obtain rfl := Option.some.inj ((inP_gone z).symm.trans h)
      exact takeGone_yes B a 4 c z w D hz hc _ fun e w' h => h.some
    · rw [inP_gone_no hm] at h; exact nomatch h
theorem ptake_no (B k : Nat) (a : Option Addr) (m c : Nat) (z : Nat → Nat) (w : World) (h1 : 1 ≤ k) (h2 : k ≤ 4) (hB : B < w.heap.size) (hz : BytesAt w a m z) (hc : m ≤ c) (h : inP k m z = none) :
    Calls Try.prog (tF k) #[.pointer (some ⟨B, 0, none⟩), .slice a m c] w fun e w' => e = .panicked (refusedP 2) ∧ Below B w w' := by
  match k, h1, h2 with
  | 1, _, _ =>
    by_cases hm : 11 ≤ m ∧ m ≤ 74
    · rw [inP_data (tk_yes hm.1 hm.2)] at h; exact nomatch h
    · exact takeData_no B a m c z w hB hz hc fun e w' h => h.none hm
  | 2, _, _ =>
    by_cases hm : m = 20
    · subst hm; exact nomatch ((inP_rep z).symm.trans h)
    · exact takeReport_no B a m c z w hB hz hc fun e w' h => h.none hm
  | 3, _, _ =>
    by_cases hm : m = 6
    · subst hm; exact nomatch ((inP_nack z).symm.trans h)
    · exact takeNack_no B a m c z w hB hz hc fun e w' h => h.none hm
  | 4, _, _ =>
    by_cases hm : m = 4
    · subst hm; exact nomatch ((inP_gone z).symm.trans h)
    · exact takeGone_no B a m c z w hB hz hc fun e w' h => h.none hm
end Go.Proofs.Ytcflaklnafggmaa
