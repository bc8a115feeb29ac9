/-
  Package packet: Put.
-/
import Derived.Test.YtcflaklnafggmaaPcl
import Derived.Test.YtcflaklnafggmaaDfr
namespace Go.Proofs.Ytcflaklnafggmaa
open Go.RowKit Go.Deep

/-- Put's variables, at B (the packet), B + 1 (the bytes), B + 1 + 1 (the error). -/
structure Pv (w : World) (B : Nat) (p : Pk) (r : Option Addr) (c : Nat) : Prop where
  pk : PkAt w B p r c
  b : w.cell? ⟨B + 1, 0, none⟩ = some (.slice none 0 0)
  bT : w.frozen? ⟨B + 1, 0, none⟩ = false
  er : w.cell? ⟨B + 1 + 1, 0, none⟩ = some (.int .i64 0)
  erT : w.frozen? ⟨B + 1 + 1, 0, none⟩ = false
theorem Pv.grew {w w' : World} {B : Nat} {p : Pk} {r : Option Addr} {c : Nat} (h : Pv w B p r c) (hb : Below w.heap.size w w') : Pv w' B p r c :=
  ⟨h.pk.grew hb, (hb.cell (p := ⟨B + 1, 0, none⟩) (cell_lt h.b)).trans h.b, (World.frozen?_of_block (a := ⟨B + 1, 0, none⟩) (hb.block _ (cell_lt h.b))).trans h.bT, (hb.cell (p := ⟨B + 1 + 1, 0, none⟩) (cell_lt h.er)).trans h.er, (World.frozen?_of_block (a := ⟨B + 1 + 1, 0, none⟩) (hb.block _ (cell_lt h.er))).trans h.erT⟩
theorem Pv.made {u : World} (T U : TypeId) {B : Nat} {p : Pk} {r : Option Addr} {c : Nat} (D : PkAt u B p r c) (hs : u.heap.size = B + 1) : Pv ((u.alloc (.cells #[.slice none 0 0] T)).alloc (.cells #[.int .i64 0] U)) B p r c := by
  have a1 : Below u.heap.size u (u.alloc (.cells #[.slice none 0 0] T)) := (Below.refl _ _).alloc (Nat.le_refl _) _
  have a2 := (Below.refl (u.alloc (.cells #[.slice none 0 0] T)).heap.size (u.alloc (.cells #[.slice none 0 0] T))).alloc (Nat.le_refl _) (.cells #[.int .i64 0] U)
  have e1 : (u.alloc (.cells #[.slice none 0 0] T)).cell? ⟨B + 1, 0, none⟩ = some (.slice none 0 0) := by rw [← hs, World.cell?_alloc_at _ _ _ _ rfl]; rfl
  have e2 : (u.alloc (.cells #[.slice none 0 0] T)).frozen? ⟨B + 1, 0, none⟩ = false := by rw [← hs, World.frozen?_alloc_at _ _ _ _ rfl]
  have s2 : (u.alloc (.cells #[.slice none 0 0] T)).heap.size = B + 1 + 1 := by simp [hs]
  refine ⟨(D.grew a1).grew a2, (a2.cell (p := ⟨B + 1, 0, none⟩) (cell_lt e1)).trans e1, (World.frozen?_of_block (a := ⟨B + 1, 0, none⟩) (a2.block _ (cell_lt e1))).trans e2, ?_, ?_⟩
  · rw [← s2, World.cell?_alloc_at _ _ _ _ rfl]; rfl
  · rw [← s2, World.frozen?_alloc_at _ _ _ _ rfl]
/-- The Kind's functions are entered. -/
theorem enter_p (k : Nat) (args : Array Value) (w : World) (h1 : 1 ≤ k) (h2 : k ≤ 4) : (callFunc (pF k) args).run Try.prog w = .ok (.enter (pF k) args) w :=
  match k, h1, h2 with
  | 1, _, _ => by kernel_rfl
  | 2, _, _ => by kernel_rfl
  | 3, _, _ => by kernel_rfl
  | 4, _, _ => by kernel_rfl
theorem enter_t (k : Nat) (args : Array Value) (w : World) (h1 : 1 ≤ k) (h2 : k ≤ 4) : (callFunc (tF k) args).run Try.prog w = .ok (.enter (tF k) args) w :=
  match k, h1, h2 with
  | 1, _, _ => by kernel_rfl
  | 2, _, _ => by kernel_rfl
  | 3, _, _ => by kernel_rfl
  | 4, _, _ => by kernel_rfl
theorem free_put (i : Nat) (v : Value) (h2 : i ≠ 2) (h3 : i ≠ 3) (t : Array Value) : results Try.f9 (t.setIfInBounds i v) = results Try.f9 t := by
  simp [results, Try.results9, Array.getElem?_setIfInBounds, h2, h3]
theorem holdP {w w' : World} {B G : Nat} {p : Pk} {r : Option Addr} {c : Nat} {v : Value} (h : PkAt w B p r c ∧ w.cell? ⟨G, 0, none⟩ = some v) (hb : Below w.heap.size w w') : PkAt w' B p r c ∧ w'.cell? ⟨G, 0, none⟩ = some v :=
  ⟨h.1.grew hb, (hb.cell (p := ⟨G, 0, none⟩) (cell_lt h.2)).trans h.2⟩
theorem setP {w : World} {B G R : Nat} {p : Pk} {r : Option Addr} {c : Nat} {v u : Value} (h : PkAt w B p r c ∧ w.cell? ⟨G, 0, none⟩ = some v) (h1 : R ≠ B) (h2 : R ≠ G) : PkAt (w.setCell ⟨R, 0, none⟩ u) B p r c ∧ (w.setCell ⟨R, 0, none⟩ u).cell? ⟨G, 0, none⟩ = some v :=
  ⟨h.1.other u h1, (World.cell?_setCell_other _ _ _ _ (blk_ne h2)).trans h.2⟩
theorem wire_one (k : Nat) (z : Nat → Nat) : ∀ i, i < 1 → (fun _ : Nat => k) i = wire k z i := by
  intro i hi
  obtain rfl : i = 0 := by omega
  rfl
theorem one_row (w : World) (k : Nat) (T : TypeId) : (w.alloc (.cells #[.int .u8 (k : Int)] T)).rowIs w.heap.size T 1 (byteAt fun _ => k) :=
  World.rowIs_alloc w #[.int .u8 (k : Int)] T (byteAt fun _ => k) fun i hi => by
    obtain rfl : i = 0 := by simpa using hi
    rfl
theorem bN_le {p : Pk} (h : bE p = 0) : bN p ≤ 74 := by
  by_cases h1 : p.k = 1
  · obtain ⟨e1, -, e3⟩ := b_data h1
    rw [e3] at h
    by_cases hn : 1 ≤ p.n ∧ p.n ≤ 64
    · rw [e1]; omega
    · rw [(put_unfit (fit_no hn)).2] at h; exact absurd h (by decide)
  · unfold bN; rw [if_neg h1]; split
    · omega
    · split <;> omega

set_option maxRecDepth 100000 in
set_option maxHeartbeats 400000 in
theorem packput_kind (p : Pk) (r : Option Addr) (c : Nat) (w : World) (h : ¬ (1 ≤ p.k ∧ p.k ≤ 4)) :
    Calls Try.prog 9 #[.agg #[.int .i64 p.k, .int .u16 (p.s : Int), .int .u16 (p.t : Int), .int .u32 (p.f : Int), .int .u16 (p.y : Int), .slice r p.n c, .int .u64 (p.T : Int), .int .u32 (p.l : Int), .int .u32 (p.g : Int), .int .u16 (p.u : Int), .int .u16 (p.j : Int), .int .u32 (p.F : Int), .int .u16 (p.d : Int)]] w fun e w' => PutIs w (ptN p) (ptX p) (bE p) e w' := by
  have hT : bE p = 1 := b_other h
  have hE : bE p ≠ 0 := by rw [hT]; decide
  have hmf : ∀ (fn : Fn) (first cap : Array Value) (w : World), (Instr.makeFunc fn first cap).run Try.prog w = .ok (.func fn first cap) w := fun _ _ _ _ => rfl
  have V3 : Hid (Pv (((w.alloc (.cells #[.int .i64 p.k, .int .u16 (p.s : Int), .int .u16 (p.t : Int), .int .u32 (p.f : Int), .int .u16 (p.y : Int), .slice r p.n c, .int .u64 (p.T : Int), .int .u32 (p.l : Int), .int .u32 (p.g : Int), .int .u16 (p.u : Int), .int .u16 (p.j : Int), .int .u32 (p.F : Int), .int .u16 (p.d : Int)] 31)).alloc (.cells #[.slice none 0 0] 24)).alloc (.cells #[.int .i64 0] 34)) w.heap.size p r c) := Pv.made _ _ (PkAt.made w _ p r c) (by simp)
  have b3 : Hid (Below w.heap.size w (((w.alloc (.cells #[.int .i64 p.k, .int .u16 (p.s : Int), .int .u16 (p.t : Int), .int .u32 (p.f : Int), .int .u16 (p.y : Int), .slice r p.n c, .int .u64 (p.T : Int), .int .u32 (p.l : Int), .int .u32 (p.g : Int), .int .u16 (p.u : Int), .int .u16 (p.j : Int), .int .u32 (p.F : Int), .int .u16 (p.d : Int)] 31)).alloc (.cells #[.slice none 0 0] 24)).alloc (.cells #[.int .i64 0] 34))) := (((Below.refl _ _).alloc (Nat.le_refl _) _).alloc (by simp) _).alloc (by simp; omega) _
  have q0 : (((w.alloc (.cells #[.int .i64 p.k, .int .u16 (p.s : Int), .int .u16 (p.t : Int), .int .u32 (p.f : Int), .int .u16 (p.y : Int), .slice r p.n c, .int .u64 (p.T : Int), .int .u32 (p.l : Int), .int .u32 (p.g : Int), .int .u16 (p.u : Int), .int .u16 (p.j : Int), .int .u32 (p.F : Int), .int .u16 (p.d : Int)] 31)).alloc (.cells #[.slice none 0 0] 24)).alloc (.cells #[.int .i64 0] 34)).cell? ⟨w.heap.size, 0, none⟩ = some (.int .i64 p.k) := V3.out.pk.cell 0 (by decide)
  go_enter_defers Try.func9, Try.ntmps9
  go_wp2_with fail
  generalize (((w.alloc (.cells #[.int .i64 p.k, .int .u16 (p.s : Int), .int .u16 (p.t : Int), .int .u32 (p.f : Int), .int .u16 (p.y : Int), .slice r p.n c, .int .u64 (p.T : Int), .int .u32 (p.l : Int), .int .u32 (p.g : Int), .int .u16 (p.u : Int), .int .u16 (p.j : Int), .int .u32 (p.F : Int), .int .u16 (p.d : Int)] 31)).alloc (.cells #[.slice none 0 0] 24)).alloc (.cells #[.int .i64 0] 34)) = w3 at *
  clear q0
  refine (way_no p.k 1 w3 h).mono ?_
  rintro e w4 ⟨rfl, d4⟩
  have V4 := V3.out.grew d4
  have b4 := b3.out.trans (d4.mono b3.out.size)
  clear V3 b3 d4
  go_wp2
  refine leaves_cons (f := 18) (args := #[.pointer (some ⟨w.heap.size + 1, 0, none⟩), .pointer (some ⟨w.heap.size + 1 + 1, 0, none⟩)]) (by simp) (by simp [go_sem]) ?_
  refine (catchP_yes (w.heap.size + 1) (w.heap.size + 1 + 1) w.heap.size _ _ 1 [] w4 V4.b V4.bT V4.er V4.erT (by omega) (by omega) (by omega)).mono ?_
  rintro e u' w'' ⟨rfl, rfl, c1, c2, d⟩
  have HA : Hid (PutIs w (ptN p) (ptX p) (bE p) (.returned (.tuple #[.slice none 0 0, .int .i64 (1)])) w'') := by
    show PutIs _ _ _ _ _ _
    rw [ptN_no hE]
    exact hT ▸ PutIs.nothing (b4.trans d)
  clear d
  simp [Leaves, settle, results, Try.results9, go_sem, c1, c2]
  exact HA.out

set_option maxRecDepth 100000 in
set_option maxHeartbeats 2000000 in
theorem packput_yes (p : Pk) (r : Option Addr) (c : Nat) (w : World) (o : p.Ok) (hx : BytesAt w r p.n p.x) (k : Nat) (hk : p.k = (k : Int)) (h1 : 1 ≤ k) (h2 : k ≤ 4) (hE : bE p = 0) :
    Calls Try.prog 9 #[.agg #[.int .i64 p.k, .int .u16 (p.s : Int), .int .u16 (p.t : Int), .int .u32 (p.f : Int), .int .u16 (p.y : Int), .slice r p.n c, .int .u64 (p.T : Int), .int .u32 (p.l : Int), .int .u32 (p.g : Int), .int .u16 (p.u : Int), .int .u16 (p.j : Int), .int .u32 (p.F : Int), .int .u16 (p.d : Int)]] w fun e w' => PutIs w (ptN p) (ptX p) (bE p) e w' := by
  have HK : Hid (p.k = (k : Int)) := hk
  clear hk
  have hmf : ∀ (fn : Fn) (first cap : Array Value) (w : World), (Instr.makeFunc fn first cap).run Try.prog w = .ok (.func fn first cap) w := fun _ _ _ _ => rfl
  have V3 : Hid (Pv (((w.alloc (.cells #[.int .i64 p.k, .int .u16 (p.s : Int), .int .u16 (p.t : Int), .int .u32 (p.f : Int), .int .u16 (p.y : Int), .slice r p.n c, .int .u64 (p.T : Int), .int .u32 (p.l : Int), .int .u32 (p.g : Int), .int .u16 (p.u : Int), .int .u16 (p.j : Int), .int .u32 (p.F : Int), .int .u16 (p.d : Int)] 31)).alloc (.cells #[.slice none 0 0] 24)).alloc (.cells #[.int .i64 0] 34)) w.heap.size p r c) := Pv.made _ _ (PkAt.made w _ p r c) (by simp)
  have b3 : Hid (Below w.heap.size w (((w.alloc (.cells #[.int .i64 p.k, .int .u16 (p.s : Int), .int .u16 (p.t : Int), .int .u32 (p.f : Int), .int .u16 (p.y : Int), .slice r p.n c, .int .u64 (p.T : Int), .int .u32 (p.l : Int), .int .u32 (p.g : Int), .int .u16 (p.u : Int), .int .u16 (p.j : Int), .int .u32 (p.F : Int), .int .u16 (p.d : Int)] 31)).alloc (.cells #[.slice none 0 0] 24)).alloc (.cells #[.int .i64 0] 34))) := (((Below.refl _ _).alloc (Nat.le_refl _) _).alloc (by simp) _).alloc (by simp; omega) _
  have q0 : (((w.alloc (.cells #[.int .i64 p.k, .int .u16 (p.s : Int), .int .u16 (p.t : Int), .int .u32 (p.f : Int), .int .u16 (p.y : Int), .slice r p.n c, .int .u64 (p.T : Int), .int .u32 (p.l : Int), .int .u32 (p.g : Int), .int .u16 (p.u : Int), .int .u16 (p.j : Int), .int .u32 (p.F : Int), .int .u16 (p.d : Int)] 31)).alloc (.cells #[.slice none 0 0] 24)).alloc (.cells #[.int .i64 0] 34)).cell? ⟨w.heap.size, 0, none⟩ = some (.int .i64 p.k) := V3.out.pk.cell 0 (by decide)
  go_enter_defers Try.func9, Try.ntmps9
  go_wp2_with fail
  generalize (((w.alloc (.cells #[.int .i64 p.k, .int .u16 (p.s : Int), .int .u16 (p.t : Int), .int .u32 (p.f : Int), .int .u16 (p.y : Int), .slice r p.n c, .int .u64 (p.T : Int), .int .u32 (p.l : Int), .int .u32 (p.g : Int), .int .u16 (p.u : Int), .int .u16 (p.j : Int), .int .u32 (p.F : Int), .int .u16 (p.d : Int)] 31)).alloc (.cells #[.slice none 0 0] 24)).alloc (.cells #[.int .i64 0] 34)) = w3 at *
  clear q0
  have hw := way_yes k 1 w3 h1 h2
  rw [← HK.out] at hw
  refine hw.mono ?_
  rintro e w4 ⟨rfl, d4⟩
  have V4 := V3.out.grew d4
  have b4 := b3.out.trans (d4.mono b3.out.size)
  have a5 : Below w4.heap.size w4 (w4.alloc (.cells #[.func (.func (pF k)) #[] #[], .func (.func (tF k)) #[] #[]] 54)) := (Below.refl _ _).alloc (Nat.le_refl _) _
  have V5 := V4.grew a5
  have b5 := b4.trans (a5.mono b4.size)
  have e5 : (w4.alloc (.cells #[.func (.func (pF k)) #[] #[], .func (.func (tF k)) #[] #[]] 54)).cell? ⟨w4.heap.size, 0, none⟩ = some (.func (.func (pF k)) #[] #[]) := by rw [World.cell?_alloc_at _ _ _ _ rfl]; rfl
  have s5 : (w4.alloc (.cells #[.func (.func (pF k)) #[] #[], .func (.func (tF k)) #[] #[]] 54)).heap.size = w4.heap.size + 1 := by simp
  have D6 := PkAt.made (w4.alloc (.cells #[.func (.func (pF k)) #[] #[], .func (.func (tF k)) #[] #[]] 54)) 56 p r c
  rw [s5] at D6
  have a6 : Below (w4.alloc (.cells #[.func (.func (pF k)) #[] #[], .func (.func (tF k)) #[] #[]] 54)).heap.size (w4.alloc (.cells #[.func (.func (pF k)) #[] #[], .func (.func (tF k)) #[] #[]] 54)) ((w4.alloc (.cells #[.func (.func (pF k)) #[] #[], .func (.func (tF k)) #[] #[]] 54)).alloc (.cells #[.int .i64 p.k, .int .u16 (p.s : Int), .int .u16 (p.t : Int), .int .u32 (p.f : Int), .int .u16 (p.y : Int), .slice r p.n c, .int .u64 (p.T : Int), .int .u32 (p.l : Int), .int .u32 (p.g : Int), .int .u16 (p.u : Int), .int .u16 (p.j : Int), .int .u32 (p.F : Int), .int .u16 (p.d : Int)] 56)) := (Below.refl _ _).alloc (Nat.le_refl _) _
  have HG : Hid (((w4.alloc (.cells #[.func (.func (pF k)) #[] #[], .func (.func (tF k)) #[] #[]] 54)).alloc (.cells #[.int .i64 p.k, .int .u16 (p.s : Int), .int .u16 (p.t : Int), .int .u32 (p.f : Int), .int .u16 (p.y : Int), .slice r p.n c, .int .u64 (p.T : Int), .int .u32 (p.l : Int), .int .u32 (p.g : Int), .int .u16 (p.u : Int), .int .u16 (p.j : Int), .int .u32 (p.F : Int), .int .u16 (p.d : Int)] 56)).cell? ⟨w4.heap.size, 0, none⟩ = some (.func (.func (pF k)) #[] #[])) := (a6.cell (p := ⟨w4.heap.size, 0, none⟩) (cell_lt e5)).trans e5
  have HV : Hid (Pv ((w4.alloc (.cells #[.func (.func (pF k)) #[] #[], .func (.func (tF k)) #[] #[]] 54)).alloc (.cells #[.int .i64 p.k, .int .u16 (p.s : Int), .int .u16 (p.t : Int), .int .u32 (p.f : Int), .int .u16 (p.y : Int), .slice r p.n c, .int .u64 (p.T : Int), .int .u32 (p.l : Int), .int .u32 (p.g : Int), .int .u16 (p.u : Int), .int .u16 (p.j : Int), .int .u32 (p.F : Int), .int .u16 (p.d : Int)] 56)) w.heap.size p r c) := V5.grew a6
  have HD : Hid (PkAt ((w4.alloc (.cells #[.func (.func (pF k)) #[] #[], .func (.func (tF k)) #[] #[]] 54)).alloc (.cells #[.int .i64 p.k, .int .u16 (p.s : Int), .int .u16 (p.t : Int), .int .u32 (p.f : Int), .int .u16 (p.y : Int), .slice r p.n c, .int .u64 (p.T : Int), .int .u32 (p.l : Int), .int .u32 (p.g : Int), .int .u16 (p.u : Int), .int .u16 (p.j : Int), .int .u32 (p.F : Int), .int .u16 (p.d : Int)] 56)) (w4.heap.size + 1) p r c) := D6
  have HB : Hid (Below w.heap.size w ((w4.alloc (.cells #[.func (.func (pF k)) #[] #[], .func (.func (tF k)) #[] #[]] 54)).alloc (.cells #[.int .i64 p.k, .int .u16 (p.s : Int), .int .u16 (p.t : Int), .int .u32 (p.f : Int), .int .u16 (p.y : Int), .slice r p.n c, .int .u64 (p.T : Int), .int .u32 (p.l : Int), .int .u32 (p.g : Int), .int .u16 (p.u : Int), .int .u16 (p.j : Int), .int .u32 (p.F : Int), .int .u16 (p.d : Int)] 56))) := b5.trans (a6.mono b5.size)
  have q0 : (w4.alloc (.cells #[.func (.func (pF k)) #[] #[], .func (.func (tF k)) #[] #[]] 54)).cell? ⟨w.heap.size, 0, none⟩ = some (.int .i64 p.k) := V5.pk.cell 0 (by decide)
  have q1 : (w4.alloc (.cells #[.func (.func (pF k)) #[] #[], .func (.func (tF k)) #[] #[]] 54)).cell? ⟨w.heap.size, 1, none⟩ = some (.int .u16 (p.s : Int)) := V5.pk.cell 1 (by decide)
  have q2 : (w4.alloc (.cells #[.func (.func (pF k)) #[] #[], .func (.func (tF k)) #[] #[]] 54)).cell? ⟨w.heap.size, 2, none⟩ = some (.int .u16 (p.t : Int)) := V5.pk.cell 2 (by decide)
  have q3 : (w4.alloc (.cells #[.func (.func (pF k)) #[] #[], .func (.func (tF k)) #[] #[]] 54)).cell? ⟨w.heap.size, 3, none⟩ = some (.int .u32 (p.f : Int)) := V5.pk.cell 3 (by decide)
  have q4 : (w4.alloc (.cells #[.func (.func (pF k)) #[] #[], .func (.func (tF k)) #[] #[]] 54)).cell? ⟨w.heap.size, 4, none⟩ = some (.int .u16 (p.y : Int)) := V5.pk.cell 4 (by decide)
  have q5 : (w4.alloc (.cells #[.func (.func (pF k)) #[] #[], .func (.func (tF k)) #[] #[]] 54)).cell? ⟨w.heap.size, 5, none⟩ = some (.slice r p.n c) := V5.pk.cell 5 (by decide)
  have q6 : (w4.alloc (.cells #[.func (.func (pF k)) #[] #[], .func (.func (tF k)) #[] #[]] 54)).cell? ⟨w.heap.size, 6, none⟩ = some (.int .u64 (p.T : Int)) := V5.pk.cell 6 (by decide)
  have q7 : (w4.alloc (.cells #[.func (.func (pF k)) #[] #[], .func (.func (tF k)) #[] #[]] 54)).cell? ⟨w.heap.size, 7, none⟩ = some (.int .u32 (p.l : Int)) := V5.pk.cell 7 (by decide)
  have q8 : (w4.alloc (.cells #[.func (.func (pF k)) #[] #[], .func (.func (tF k)) #[] #[]] 54)).cell? ⟨w.heap.size, 8, none⟩ = some (.int .u32 (p.g : Int)) := V5.pk.cell 8 (by decide)
  have q9 : (w4.alloc (.cells #[.func (.func (pF k)) #[] #[], .func (.func (tF k)) #[] #[]] 54)).cell? ⟨w.heap.size, 9, none⟩ = some (.int .u16 (p.u : Int)) := V5.pk.cell 9 (by decide)
  have q10 : (w4.alloc (.cells #[.func (.func (pF k)) #[] #[], .func (.func (tF k)) #[] #[]] 54)).cell? ⟨w.heap.size, 10, none⟩ = some (.int .u16 (p.j : Int)) := V5.pk.cell 10 (by decide)
  have q11 : (w4.alloc (.cells #[.func (.func (pF k)) #[] #[], .func (.func (tF k)) #[] #[]] 54)).cell? ⟨w.heap.size, 11, none⟩ = some (.int .u32 (p.F : Int)) := V5.pk.cell 11 (by decide)
  have q12 : (w4.alloc (.cells #[.func (.func (pF k)) #[] #[], .func (.func (tF k)) #[] #[]] 54)).cell? ⟨w.heap.size, 12, none⟩ = some (.int .u16 (p.d : Int)) := V5.pk.cell 12 (by decide)
  have hG : w.heap.size + 1 + 1 < w4.heap.size := cell_lt V4.er
  clear V3 b3 d4 hw V4 b4 a5 V5 b5 e5 s5 D6 a6
  go_wp2_with fail
  generalize ((w4.alloc (.cells #[.func (.func (pF k)) #[] #[], .func (.func (tF k)) #[] #[]] 54)).alloc (.cells #[.int .i64 p.k, .int .u16 (p.s : Int), .int .u16 (p.t : Int), .int .u32 (p.f : Int), .int .u16 (p.y : Int), .slice r p.n c, .int .u64 (p.T : Int), .int .u32 (p.l : Int), .int .u32 (p.g : Int), .int .u16 (p.u : Int), .int .u16 (p.j : Int), .int .u32 (p.F : Int), .int .u16 (p.d : Int)] 56)) = w6 at *
  generalize w4.heap.size = G at *
  clear q0 q1 q2 q3 q4 q5 q6 q7 q8 q9 q10 q11 q12
  refine wp_region_held (S := fun w' => PkAt w' w.heap.size p r c ∧ w'.cell? ⟨G, 0, none⟩ = some (.func (.func (pF k)) #[] #[])) (by kernel_rfl) ?_
  change wpAnyH _ _ _ _ _ _ _ _ w6.drew
  have a7 : Below w6.heap.size w6 w6.drew := (Below.refl _ _).drew
  have V7 := HV.out.grew a7
  have D7 := HD.out.grew a7
  have hr : PkAt w6.drew w.heap.size p r c ∧ w6.drew.cell? ⟨G, 0, none⟩ = some (.func (.func (pF k)) #[] #[]) := ⟨V7.pk, HG.out⟩
  have b7 : Below w.heap.size w w6.drew := HB.out.drew
  clear HV HD HB HG a7
  generalize w6.drew = w7 at *
  refine wpAnyH_take (i := 0) (v := .pointer (some ⟨w.heap.size, 0, none⟩)) rfl (by kernel_rfl) (by kernel_rfl) (by kernel_rfl) (put_free (free_put 11 _ (by decide) (by decide))) (Yields.yieldsIf (Or.inl ⟨by kernel_rfl, fun _ => by go_simp⟩)) hr ?_
  refine wpAnyH_take (i := 1) (v := .int .i64 p.k) rfl (by kernel_rfl) (by kernel_rfl) (by kernel_rfl) (put_free (free_put 12 _ (by decide) (by decide))) (Or.inl ⟨by kernel_rfl, fun W hW => by have g : W.cell? ⟨w.heap.size, 0, none⟩ = some (.int .i64 p.k) := hW.1.cell 0 (by decide); go_simp⟩) hr ?_
  refine wpAnyH_take (i := 2) (v := .int .u8 (k : Int)) rfl (by kernel_rfl) (by kernel_rfl) (by kernel_rfl) (put_free (free_put 13 _ (by decide) (by decide))) (Yields.yieldsIf (Or.inl ⟨by kernel_rfl, fun _ => by go_simp; rw [HK.out, IntKind.wrap_u8]; omega⟩)) hr ?_
  refine wpAnyH_take (i := 4) (v := .pointer (some ⟨G, 0, none⟩)) rfl (by kernel_rfl) (by kernel_rfl) (by kernel_rfl) (put_free (free_put 15 _ (by decide) (by decide))) (Yields.yieldsIf (Or.inl ⟨by kernel_rfl, fun _ => by go_simp⟩)) hr ?_
  refine wpAnyH_take (i := 5) (v := .func (.func (pF k)) #[] #[]) rfl (by kernel_rfl) (by kernel_rfl) (by kernel_rfl) (put_free (free_put 16 _ (by decide) (by decide))) (Or.inl ⟨by kernel_rfl, fun W hW => by have g := hW.2; go_simp⟩) hr ?_
  have hcf := fun args W => enter_p k args W h1 h2
  have hr0 := hr
  refine wpAnyH_ready (rs := [3, 6]) (by kernel_rfl) (by simp) ?_
  refine AllReadyH.cons rfl (fun K2 hK2 => ?_) (AllReadyH.cons rfl (fun K2 hK2 => ?_) AllReadyH.nil)
  · skip
    go_simp
    have a8 : Below w7.heap.size w7 (w7.alloc (.cells #[.int .u8 (k : Int)] 5)) := (Below.refl _ _).alloc (Nat.le_refl _) _
    have R8 := one_row w7 k 5
    refine hK2.out _ _ (holdP hr a8) (fun hr => ?_)
    clear hK2 K2
    generalize (w7.alloc (.cells #[.int .u8 (k : Int)] 5)) = w8 at *
    refine wpAnyH_ready (rs := [6]) (by kernel_rfl) (by simp) ?_
    refine AllReadyH.cons rfl (fun K2 hK2 => ?_) AllReadyH.nil
    go_simp
    refine Calls.mono (pput_yes (G + 1) p r c w8 (D7.grew a8) o ((hx.grew b7).grew a8) k HK.out h1 h2 hE) ?_
    rintro e w9 ⟨g, cg, rfl, k1, k2, k3, k4⟩
    refine hK2.out _ _ (holdP hr k4) (fun hr => ?_)
    clear hK2 K2
    have O9 : Ror w9 w7.heap.size (.slice (some ⟨w7.heap.size, 0, none⟩) 1 1) 1 (fun _ => k) := (ror_made R8 (Nat.le_refl _) (by decide)).grown k4
    have B9 := k3
    have d9 := a8.trans (k4.mono a8.size)
    clear k1 k2 k3 k4 R8 a8
    have lN := bN_le hE
    obtain ⟨v10, w10, happ, O10, g10⟩ := O9.push (c := cg) (z := wire k (bX p)) 24 B9 (by omega) d9.size (wire_one k (bX p)) (fun i _ => (wire_succ k (bX p) i).symm)
    have d10 := grown_below O9 g10 d9 d9.size
    refine wpAnyH_ready (rs := [7]) (by kernel_rfl) (by simp) ?_
    refine AllReadyH.cons rfl (fun K2 hK2 => ?_) AllReadyH.nil
    refine step_append_run rfl (.tmp 14) (.tmp 17) 24 rfl _ _ rfl rfl _ _ happ ?_
    refine hK2.out _ _ (holdP hr0 d10) (fun hr => ?_)
    clear hK2 K2 happ g10 O9 B9 d9
    obtain ⟨r10, c10, rfl, -, -, -, B10⟩ := ror_any O10 (fun i hi => wire_lt (k := k) (by omega) (fun i hi => bX_lt o i hi) i hi)
    refine wpAnyH_ready (rs := [8]) (by kernel_rfl) (by simp) ?_
    refine AllReadyH.cons rfl (fun K2 hK2 => ?_) AllReadyH.nil
    go_simp
    refine Calls.mono (seal_any r10 (1 + bN p) c10 _ w10 B10 (by omega)) ?_
    rintro e w11 ⟨rfl, R11, d11⟩
    refine hK2.out _ _ (holdP hr d11) (fun hr => ?_)
    clear hK2 K2
    have D11 := d10.trans (d11.mono d10.size)
    have V11 := V7.grew D11
    have b11 := b7.trans (D11.mono b7.size)
    have B11 : BytesAt w11 (some ⟨w10.heap.size, 0, none⟩) (1 + bN p + 4) (ptX p) := row_bytes' R11 (fun i _ => by unfold ptX; rw [HK.out]; rfl) (fun i _ => by unfold ptX; exact Crc.seal_lt (fun i hi => wire_lt (by rw [HK.out]; omega) (fun i hi => bX_lt o i hi) i hi) i)
    have l10 := d10.size
    have l7 := b7.size
    clear R11 d11 D11 d10 O10 B10 V7 b7 D7 hr0
    have q1 := V11.b
    have z1 := V11.bT
    refine wpAnyH_ready (rs := [9]) (by kernel_rfl) (by simp) ?_
    refine AllReadyH.cons rfl (fun K2 hK2 => ?_) AllReadyH.nil
    go_simp
    refine hK2.out _ _ (setP hr (by omega) (by omega)) (fun hr => ?_)
    clear hK2 K2
    have q2 : (w11.setCell ⟨w.heap.size + 1, 0, none⟩ (.slice (some ⟨w10.heap.size, 0, none⟩) (1 + bN p + 4) (1 + bN p + 4))).cell? ⟨w.heap.size + 1 + 1, 0, none⟩ = some (.int .i64 0) := (World.cell?_setCell_other _ _ _ _ (blk_ne (by omega))).trans V11.er
    have z2 : (w11.setCell ⟨w.heap.size + 1, 0, none⟩ (.slice (some ⟨w10.heap.size, 0, none⟩) (1 + bN p + 4) (1 + bN p + 4))).frozen? ⟨w.heap.size + 1 + 1, 0, none⟩ = false := by rw [World.frozen?_setCell]; exact V11.erT
    have q3 : (w11.setCell ⟨w.heap.size + 1, 0, none⟩ (.slice (some ⟨w10.heap.size, 0, none⟩) (1 + bN p + 4) (1 + bN p + 4))).cell? ⟨w.heap.size + 1, 0, none⟩ = some (.slice (some ⟨w10.heap.size, 0, none⟩) (1 + bN p + 4) (1 + bN p + 4)) := World.cell?_setCell_same _ _ _ q1
    have B12 : BytesAt (w11.setCell ⟨w.heap.size + 1, 0, none⟩ (.slice (some ⟨w10.heap.size, 0, none⟩) (1 + bN p + 4) (1 + bN p + 4))) (some ⟨w10.heap.size, 0, none⟩) (1 + bN p + 4) (ptX p) := B11.setSlice q1
    have b12 : Below w.heap.size w (w11.setCell ⟨w.heap.size + 1, 0, none⟩ (.slice (some ⟨w10.heap.size, 0, none⟩) (1 + bN p + 4) (1 + bN p + 4))) := b11.setCell (p := ⟨w.heap.size + 1, 0, none⟩) (Nat.le_succ _) _
    clear q1 z1 V11 B11 b11
    generalize w11.setCell ⟨w.heap.size + 1, 0, none⟩ (.slice (some ⟨w10.heap.size, 0, none⟩) (1 + bN p + 4) (1 + bN p + 4)) = w12 at *
    refine wpAnyH_ready (rs := [10]) (by kernel_rfl) (by simp) ?_
    refine AllReadyH.cons rfl (fun K2 hK2 => ?_) AllReadyH.nil
    go_simp
    refine hK2.out _ _ (setP hr (by omega) (by omega)) (fun hr => ?_)
    clear hK2 K2
    have q4 : (w12.setCell ⟨w.heap.size + 1 + 1, 0, none⟩ (.int .i64 0)).cell? ⟨w.heap.size + 1 + 1, 0, none⟩ = some (.int .i64 0) := World.cell?_setCell_same _ _ _ q2
    have q5 : (w12.setCell ⟨w.heap.size + 1 + 1, 0, none⟩ (.int .i64 0)).cell? ⟨w.heap.size + 1, 0, none⟩ = some (.slice (some ⟨w10.heap.size, 0, none⟩) (1 + bN p + 4) (1 + bN p + 4)) := (World.cell?_setCell_other _ _ _ _ (blk_ne (by omega))).trans q3
    have B13 : BytesAt (w12.setCell ⟨w.heap.size + 1 + 1, 0, none⟩ (.int .i64 0)) (some ⟨w10.heap.size, 0, none⟩) (1 + bN p + 4) (ptX p) := B12.setNum q2 (by decide)
    have b13 : Below w.heap.size w (w12.setCell ⟨w.heap.size + 1 + 1, 0, none⟩ (.int .i64 0)) := b12.setCell (p := ⟨w.heap.size + 1 + 1, 0, none⟩) (by show _ ≤ w.heap.size + 1 + 1; omega) _
    clear q2 z2 q3 B12 b12
    generalize w12.setCell ⟨w.heap.size + 1 + 1, 0, none⟩ (.int .i64 0) = w13 at *
    refine wpAnyH_done (by kernel_rfl) ?_ _
    clear hr hcf
    go_wp2
    refine leaves_cons (f := 18) (args := #[.pointer (some ⟨w.heap.size + 1, 0, none⟩), .pointer (some ⟨w.heap.size + 1 + 1, 0, none⟩)]) (by simp) (by simp [go_sem]) ?_
    refine (catchP_idle ⟨w.heap.size + 1, 0, none⟩ ⟨w.heap.size + 1 + 1, 0, none⟩ _).mono ?_
    rintro e u' w'' ⟨rfl, rfl, d⟩
    have c1 := (d.cell (p := ⟨w.heap.size + 1, 0, none⟩) (cell_lt q5)).trans q5
    have c2 := (d.cell (p := ⟨w.heap.size + 1 + 1, 0, none⟩) (cell_lt q4)).trans q4
    have HA : Hid (PutIs w (ptN p) (ptX p) (bE p) (.returned (.tuple #[(.slice (some ⟨w10.heap.size, 0, none⟩) (1 + bN p + 4) (1 + bN p + 4)), .int .i64 0])) w'') := by
      show PutIs _ _ _ _ _ _
      rw [ptN_yes hE, hE]
      exact ⟨_, _, rfl, Nat.le_refl _, fun _ => ⟨_, rfl, by omega⟩, B13.grew d, b13.trans (d.mono b13.size)⟩
    clear d q4 q5 B13 b13
    simp [Leaves, settle, results, Try.results9, go_sem, c1, c2]
    exact HA.out
  · skip
    go_simp
    refine Calls.mono (pput_yes (G + 1) p r c w7 D7 o (hx.grew b7) k HK.out h1 h2 hE) ?_
    rintro e w8 ⟨g, cg, rfl, k1, k2, k3, k4⟩
    refine hK2.out _ _ (holdP hr k4) (fun hr => ?_)
    clear hK2 K2
    refine wpAnyH_ready (rs := [3]) (by kernel_rfl) (by simp) ?_
    refine AllReadyH.cons rfl (fun K2 hK2 => ?_) AllReadyH.nil
    go_simp
    have a9 : Below w8.heap.size w8 (w8.alloc (.cells #[.int .u8 (k : Int)] 5)) := (Below.refl _ _).alloc (Nat.le_refl _) _
    have R9 := one_row w8 k 5
    refine hK2.out _ _ (holdP hr a9) (fun hr => ?_)
    clear hK2 K2
    generalize (w8.alloc (.cells #[.int .u8 (k : Int)] 5)) = w9 at *
    have O9 : Ror w9 w7.heap.size (.slice (some ⟨w8.heap.size, 0, none⟩) 1 1) 1 (fun _ => k) := ror_made R9 k4.size (by decide)
    have B9 := k3.grew a9
    have d9 := k4.trans (a9.mono k4.size)
    clear k1 k2 k3 k4 R9 a9
    have lN := bN_le hE
    obtain ⟨v10, w10, happ, O10, g10⟩ := O9.push (c := cg) (z := wire k (bX p)) 24 B9 (by omega) d9.size (wire_one k (bX p)) (fun i _ => (wire_succ k (bX p) i).symm)
    have d10 := grown_below O9 g10 d9 d9.size
    refine wpAnyH_ready (rs := [7]) (by kernel_rfl) (by simp) ?_
    refine AllReadyH.cons rfl (fun K2 hK2 => ?_) AllReadyH.nil
    refine step_append_run rfl (.tmp 14) (.tmp 17) 24 rfl _ _ rfl rfl _ _ happ ?_
    refine hK2.out _ _ (holdP hr0 d10) (fun hr => ?_)
    clear hK2 K2 happ g10 O9 B9 d9
    obtain ⟨r10, c10, rfl, -, -, -, B10⟩ := ror_any O10 (fun i hi => wire_lt (k := k) (by omega) (fun i hi => bX_lt o i hi) i hi)
    refine wpAnyH_ready (rs := [8]) (by kernel_rfl) (by simp) ?_
    refine AllReadyH.cons rfl (fun K2 hK2 => ?_) AllReadyH.nil
    go_simp
    refine Calls.mono (seal_any r10 (1 + bN p) c10 _ w10 B10 (by omega)) ?_
    rintro e w11 ⟨rfl, R11, d11⟩
    refine hK2.out _ _ (holdP hr d11) (fun hr => ?_)
    clear hK2 K2
    have D11 := d10.trans (d11.mono d10.size)
    have V11 := V7.grew D11
    have b11 := b7.trans (D11.mono b7.size)
    have B11 : BytesAt w11 (some ⟨w10.heap.size, 0, none⟩) (1 + bN p + 4) (ptX p) := row_bytes' R11 (fun i _ => by unfold ptX; rw [HK.out]; rfl) (fun i _ => by unfold ptX; exact Crc.seal_lt (fun i hi => wire_lt (by rw [HK.out]; omega) (fun i hi => bX_lt o i hi) i hi) i)
    have l10 := d10.size
    have l7 := b7.size
    clear R11 d11 D11 d10 O10 B10 V7 b7 D7 hr0
    have q1 := V11.b
    have z1 := V11.bT
    refine wpAnyH_ready (rs := [9]) (by kernel_rfl) (by simp) ?_
    refine AllReadyH.cons rfl (fun K2 hK2 => ?_) AllReadyH.nil
    go_simp
    refine hK2.out _ _ (setP hr (by omega) (by omega)) (fun hr => ?_)
    clear hK2 K2
    have q2 : (w11.setCell ⟨w.heap.size + 1, 0, none⟩ (.slice (some ⟨w10.heap.size, 0, none⟩) (1 + bN p + 4) (1 + bN p + 4))).cell? ⟨w.heap.size + 1 + 1, 0, none⟩ = some (.int .i64 0) := (World.cell?_setCell_other _ _ _ _ (blk_ne (by omega))).trans V11.er
    have z2 : (w11.setCell ⟨w.heap.size + 1, 0, none⟩ (.slice (some ⟨w10.heap.size, 0, none⟩) (1 + bN p + 4) (1 + bN p + 4))).frozen? ⟨w.heap.size + 1 + 1, 0, none⟩ = false := by rw [World.frozen?_setCell]; exact V11.erT
    have q3 : (w11.setCell ⟨w.heap.size + 1, 0, none⟩ (.slice (some ⟨w10.heap.size, 0, none⟩) (1 + bN p + 4) (1 + bN p + 4))).cell? ⟨w.heap.size + 1, 0, none⟩ = some (.slice (some ⟨w10.heap.size, 0, none⟩) (1 + bN p + 4) (1 + bN p + 4)) := World.cell?_setCell_same _ _ _ q1
    have B12 : BytesAt (w11.setCell ⟨w.heap.size + 1, 0, none⟩ (.slice (some ⟨w10.heap.size, 0, none⟩) (1 + bN p + 4) (1 + bN p + 4))) (some ⟨w10.heap.size, 0, none⟩) (1 + bN p + 4) (ptX p) := B11.setSlice q1
    have b12 : Below w.heap.size w (w11.setCell ⟨w.heap.size + 1, 0, none⟩ (.slice (some ⟨w10.heap.size, 0, none⟩) (1 + bN p + 4) (1 + bN p + 4))) := b11.setCell (p := ⟨w.heap.size + 1, 0, none⟩) (Nat.le_succ _) _
    clear q1 z1 V11 B11 b11
    generalize w11.setCell ⟨w.heap.size + 1, 0, none⟩ (.slice (some ⟨w10.heap.size, 0, none⟩) (1 + bN p + 4) (1 + bN p + 4)) = w12 at *
    refine wpAnyH_ready (rs := [10]) (by kernel_rfl) (by simp) ?_
    refine AllReadyH.cons rfl (fun K2 hK2 => ?_) AllReadyH.nil
    go_simp
    refine hK2.out _ _ (setP hr (by omega) (by omega)) (fun hr => ?_)
    clear hK2 K2
    have q4 : (w12.setCell ⟨w.heap.size + 1 + 1, 0, none⟩ (.int .i64 0)).cell? ⟨w.heap.size + 1 + 1, 0, none⟩ = some (.int .i64 0) := World.cell?_setCell_same _ _ _ q2
    have q5 : (w12.setCell ⟨w.heap.size + 1 + 1, 0, none⟩ (.int .i64 0)).cell? ⟨w.heap.size + 1, 0, none⟩ = some (.slice (some ⟨w10.heap.size, 0, none⟩) (1 + bN p + 4) (1 + bN p + 4)) := (World.cell?_setCell_other _ _ _ _ (blk_ne (by omega))).trans q3
    have B13 : BytesAt (w12.setCell ⟨w.heap.size + 1 + 1, 0, none⟩ (.int .i64 0)) (some ⟨w10.heap.size, 0, none⟩) (1 + bN p + 4) (ptX p) := B12.setNum q2 (by decide)
    have b13 : Below w.heap.size w (w12.setCell ⟨w.heap.size + 1 + 1, 0, none⟩ (.int .i64 0)) := b12.setCell (p := ⟨w.heap.size + 1 + 1, 0, none⟩) (by show _ ≤ w.heap.size + 1 + 1; omega) _
    clear q2 z2 q3 B12 b12
    generalize w12.setCell ⟨w.heap.size + 1 + 1, 0, none⟩ (.int .i64 0) = w13 at *
    refine wpAnyH_done (by kernel_rfl) ?_ _
    clear hr hcf
    go_wp2
    refine leaves_cons (f := 18) (args := #[.pointer (some ⟨w.heap.size + 1, 0, none⟩), .pointer (some ⟨w.heap.size + 1 + 1, 0, none⟩)]) (by simp) (by simp [go_sem]) ?_
    refine (catchP_idle ⟨w.heap.size + 1, 0, none⟩ ⟨w.heap.size + 1 + 1, 0, none⟩ _).mono ?_
    rintro e u' w'' ⟨rfl, rfl, d⟩
    have c1 := (d.cell (p := ⟨w.heap.size + 1, 0, none⟩) (cell_lt q5)).trans q5
    have c2 := (d.cell (p := ⟨w.heap.size + 1 + 1, 0, none⟩) (cell_lt q4)).trans q4
    have HA : Hid (PutIs w (ptN p) (ptX p) (bE p) (.returned (.tuple #[(.slice (some ⟨w10.heap.size, 0, none⟩) (1 + bN p + 4) (1 + bN p + 4)), .int .i64 0])) w'') := by
      show PutIs _ _ _ _ _ _
      rw [ptN_yes hE, hE]
      exact ⟨_, _, rfl, Nat.le_refl _, fun _ => ⟨_, rfl, by omega⟩, B13.grew d, b13.trans (d.mono b13.size)⟩
    clear d q4 q5 B13 b13
    simp [Leaves, settle, results, Try.results9, go_sem, c1, c2]
    exact HA.out

set_option maxRecDepth 100000 in
set_option maxHeartbeats 2000000 in
theorem packput_no (p : Pk) (r : Option Addr) (c : Nat) (w : World) (k : Nat) (hk : p.k = (k : Int)) (h1 : 1 ≤ k) (h2 : k ≤ 4) (hE : bE p ≠ 0) :
    Calls Try.prog 9 #[.agg #[.int .i64 p.k, .int .u16 (p.s : Int), .int .u16 (p.t : Int), .int .u32 (p.f : Int), .int .u16 (p.y : Int), .slice r p.n c, .int .u64 (p.T : Int), .int .u32 (p.l : Int), .int .u32 (p.g : Int), .int .u16 (p.u : Int), .int .u16 (p.j : Int), .int .u32 (p.F : Int), .int .u16 (p.d : Int)]] w fun e w' => PutIs w (ptN p) (ptX p) (bE p) e w' := by
  have HK : Hid (p.k = (k : Int)) := hk
  clear hk
  have hmf : ∀ (fn : Fn) (first cap : Array Value) (w : World), (Instr.makeFunc fn first cap).run Try.prog w = .ok (.func fn first cap) w := fun _ _ _ _ => rfl
  have V3 : Hid (Pv (((w.alloc (.cells #[.int .i64 p.k, .int .u16 (p.s : Int), .int .u16 (p.t : Int), .int .u32 (p.f : Int), .int .u16 (p.y : Int), .slice r p.n c, .int .u64 (p.T : Int), .int .u32 (p.l : Int), .int .u32 (p.g : Int), .int .u16 (p.u : Int), .int .u16 (p.j : Int), .int .u32 (p.F : Int), .int .u16 (p.d : Int)] 31)).alloc (.cells #[.slice none 0 0] 24)).alloc (.cells #[.int .i64 0] 34)) w.heap.size p r c) := Pv.made _ _ (PkAt.made w _ p r c) (by simp)
  have b3 : Hid (Below w.heap.size w (((w.alloc (.cells #[.int .i64 p.k, .int .u16 (p.s : Int), .int .u16 (p.t : Int), .int .u32 (p.f : Int), .int .u16 (p.y : Int), .slice r p.n c, .int .u64 (p.T : Int), .int .u32 (p.l : Int), .int .u32 (p.g : Int), .int .u16 (p.u : Int), .int .u16 (p.j : Int), .int .u32 (p.F : Int), .int .u16 (p.d : Int)] 31)).alloc (.cells #[.slice none 0 0] 24)).alloc (.cells #[.int .i64 0] 34))) := (((Below.refl _ _).alloc (Nat.le_refl _) _).alloc (by simp) _).alloc (by simp; omega) _
  have q0 : (((w.alloc (.cells #[.int .i64 p.k, .int .u16 (p.s : Int), .int .u16 (p.t : Int), .int .u32 (p.f : Int), .int .u16 (p.y : Int), .slice r p.n c, .int .u64 (p.T : Int), .int .u32 (p.l : Int), .int .u32 (p.g : Int), .int .u16 (p.u : Int), .int .u16 (p.j : Int), .int .u32 (p.F : Int), .int .u16 (p.d : Int)] 31)).alloc (.cells #[.slice none 0 0] 24)).alloc (.cells #[.int .i64 0] 34)).cell? ⟨w.heap.size, 0, none⟩ = some (.int .i64 p.k) := V3.out.pk.cell 0 (by decide)
  go_enter_defers Try.func9, Try.ntmps9
  go_wp2_with fail
  generalize (((w.alloc (.cells #[.int .i64 p.k, .int .u16 (p.s : Int), .int .u16 (p.t : Int), .int .u32 (p.f : Int), .int .u16 (p.y : Int), .slice r p.n c, .int .u64 (p.T : Int), .int .u32 (p.l : Int), .int .u32 (p.g : Int), .int .u16 (p.u : Int), .int .u16 (p.j : Int), .int .u32 (p.F : Int), .int .u16 (p.d : Int)] 31)).alloc (.cells #[.slice none 0 0] 24)).alloc (.cells #[.int .i64 0] 34)) = w3 at *
  clear q0
  have hw := way_yes k 1 w3 h1 h2
  rw [← HK.out] at hw
  refine hw.mono ?_
  rintro e w4 ⟨rfl, d4⟩
  have V4 := V3.out.grew d4
  have b4 := b3.out.trans (d4.mono b3.out.size)
  have a5 : Below w4.heap.size w4 (w4.alloc (.cells #[.func (.func (pF k)) #[] #[], .func (.func (tF k)) #[] #[]] 54)) := (Below.refl _ _).alloc (Nat.le_refl _) _
  have V5 := V4.grew a5
  have b5 := b4.trans (a5.mono b4.size)
  have e5 : (w4.alloc (.cells #[.func (.func (pF k)) #[] #[], .func (.func (tF k)) #[] #[]] 54)).cell? ⟨w4.heap.size, 0, none⟩ = some (.func (.func (pF k)) #[] #[]) := by rw [World.cell?_alloc_at _ _ _ _ rfl]; rfl
  have s5 : (w4.alloc (.cells #[.func (.func (pF k)) #[] #[], .func (.func (tF k)) #[] #[]] 54)).heap.size = w4.heap.size + 1 := by simp
  have D6 := PkAt.made (w4.alloc (.cells #[.func (.func (pF k)) #[] #[], .func (.func (tF k)) #[] #[]] 54)) 56 p r c
  rw [s5] at D6
  have a6 : Below (w4.alloc (.cells #[.func (.func (pF k)) #[] #[], .func (.func (tF k)) #[] #[]] 54)).heap.size (w4.alloc (.cells #[.func (.func (pF k)) #[] #[], .func (.func (tF k)) #[] #[]] 54)) ((w4.alloc (.cells #[.func (.func (pF k)) #[] #[], .func (.func (tF k)) #[] #[]] 54)).alloc (.cells #[.int .i64 p.k, .int .u16 (p.s : Int), .int .u16 (p.t : Int), .int .u32 (p.f : Int), .int .u16 (p.y : Int), .slice r p.n c, .int .u64 (p.T : Int), .int .u32 (p.l : Int), .int .u32 (p.g : Int), .int .u16 (p.u : Int), .int .u16 (p.j : Int), .int .u32 (p.F : Int), .int .u16 (p.d : Int)] 56)) := (Below.refl _ _).alloc (Nat.le_refl _) _
  have HG : Hid (((w4.alloc (.cells #[.func (.func (pF k)) #[] #[], .func (.func (tF k)) #[] #[]] 54)).alloc (.cells #[.int .i64 p.k, .int .u16 (p.s : Int), .int .u16 (p.t : Int), .int .u32 (p.f : Int), .int .u16 (p.y : Int), .slice r p.n c, .int .u64 (p.T : Int), .int .u32 (p.l : Int), .int .u32 (p.g : Int), .int .u16 (p.u : Int), .int .u16 (p.j : Int), .int .u32 (p.F : Int), .int .u16 (p.d : Int)] 56)).cell? ⟨w4.heap.size, 0, none⟩ = some (.func (.func (pF k)) #[] #[])) := (a6.cell (p := ⟨w4.heap.size, 0, none⟩) (cell_lt e5)).trans e5
  have HV : Hid (Pv ((w4.alloc (.cells #[.func (.func (pF k)) #[] #[], .func (.func (tF k)) #[] #[]] 54)).alloc (.cells #[.int .i64 p.k, .int .u16 (p.s : Int), .int .u16 (p.t : Int), .int .u32 (p.f : Int), .int .u16 (p.y : Int), .slice r p.n c, .int .u64 (p.T : Int), .int .u32 (p.l : Int), .int .u32 (p.g : Int), .int .u16 (p.u : Int), .int .u16 (p.j : Int), .int .u32 (p.F : Int), .int .u16 (p.d : Int)] 56)) w.heap.size p r c) := V5.grew a6
  have HD : Hid (PkAt ((w4.alloc (.cells #[.func (.func (pF k)) #[] #[], .func (.func (tF k)) #[] #[]] 54)).alloc (.cells #[.int .i64 p.k, .int .u16 (p.s : Int), .int .u16 (p.t : Int), .int .u32 (p.f : Int), .int .u16 (p.y : Int), .slice r p.n c, .int .u64 (p.T : Int), .int .u32 (p.l : Int), .int .u32 (p.g : Int), .int .u16 (p.u : Int), .int .u16 (p.j : Int), .int .u32 (p.F : Int), .int .u16 (p.d : Int)] 56)) (w4.heap.size + 1) p r c) := D6
  have HB : Hid (Below w.heap.size w ((w4.alloc (.cells #[.func (.func (pF k)) #[] #[], .func (.func (tF k)) #[] #[]] 54)).alloc (.cells #[.int .i64 p.k, .int .u16 (p.s : Int), .int .u16 (p.t : Int), .int .u32 (p.f : Int), .int .u16 (p.y : Int), .slice r p.n c, .int .u64 (p.T : Int), .int .u32 (p.l : Int), .int .u32 (p.g : Int), .int .u16 (p.u : Int), .int .u16 (p.j : Int), .int .u32 (p.F : Int), .int .u16 (p.d : Int)] 56))) := b5.trans (a6.mono b5.size)
  have q0 : (w4.alloc (.cells #[.func (.func (pF k)) #[] #[], .func (.func (tF k)) #[] #[]] 54)).cell? ⟨w.heap.size, 0, none⟩ = some (.int .i64 p.k) := V5.pk.cell 0 (by decide)
  have q1 : (w4.alloc (.cells #[.func (.func (pF k)) #[] #[], .func (.func (tF k)) #[] #[]] 54)).cell? ⟨w.heap.size, 1, none⟩ = some (.int .u16 (p.s : Int)) := V5.pk.cell 1 (by decide)
  have q2 : (w4.alloc (.cells #[.func (.func (pF k)) #[] #[], .func (.func (tF k)) #[] #[]] 54)).cell? ⟨w.heap.size, 2, none⟩ = some (.int .u16 (p.t : Int)) := V5.pk.cell 2 (by decide)
  have q3 : (w4.alloc (.cells #[.func (.func (pF k)) #[] #[], .func (.func (tF k)) #[] #[]] 54)).cell? ⟨w.heap.size, 3, none⟩ = some (.int .u32 (p.f : Int)) := V5.pk.cell 3 (by decide)
  have q4 : (w4.alloc (.cells #[.func (.func (pF k)) #[] #[], .func (.func (tF k)) #[] #[]] 54)).cell? ⟨w.heap.size, 4, none⟩ = some (.int .u16 (p.y : Int)) := V5.pk.cell 4 (by decide)
  have q5 : (w4.alloc (.cells #[.func (.func (pF k)) #[] #[], .func (.func (tF k)) #[] #[]] 54)).cell? ⟨w.heap.size, 5, none⟩ = some (.slice r p.n c) := V5.pk.cell 5 (by decide)
  have q6 : (w4.alloc (.cells #[.func (.func (pF k)) #[] #[], .func (.func (tF k)) #[] #[]] 54)).cell? ⟨w.heap.size, 6, none⟩ = some (.int .u64 (p.T : Int)) := V5.pk.cell 6 (by decide)
  have q7 : (w4.alloc (.cells #[.func (.func (pF k)) #[] #[], .func (.func (tF k)) #[] #[]] 54)).cell? ⟨w.heap.size, 7, none⟩ = some (.int .u32 (p.l : Int)) := V5.pk.cell 7 (by decide)
  have q8 : (w4.alloc (.cells #[.func (.func (pF k)) #[] #[], .func (.func (tF k)) #[] #[]] 54)).cell? ⟨w.heap.size, 8, none⟩ = some (.int .u32 (p.g : Int)) := V5.pk.cell 8 (by decide)
  have q9 : (w4.alloc (.cells #[.func (.func (pF k)) #[] #[], .func (.func (tF k)) #[] #[]] 54)).cell? ⟨w.heap.size, 9, none⟩ = some (.int .u16 (p.u : Int)) := V5.pk.cell 9 (by decide)
  have q10 : (w4.alloc (.cells #[.func (.func (pF k)) #[] #[], .func (.func (tF k)) #[] #[]] 54)).cell? ⟨w.heap.size, 10, none⟩ = some (.int .u16 (p.j : Int)) := V5.pk.cell 10 (by decide)
  have q11 : (w4.alloc (.cells #[.func (.func (pF k)) #[] #[], .func (.func (tF k)) #[] #[]] 54)).cell? ⟨w.heap.size, 11, none⟩ = some (.int .u32 (p.F : Int)) := V5.pk.cell 11 (by decide)
  have q12 : (w4.alloc (.cells #[.func (.func (pF k)) #[] #[], .func (.func (tF k)) #[] #[]] 54)).cell? ⟨w.heap.size, 12, none⟩ = some (.int .u16 (p.d : Int)) := V5.pk.cell 12 (by decide)
  have hG : w.heap.size + 1 + 1 < w4.heap.size := cell_lt V4.er
  clear V3 b3 d4 hw V4 b4 a5 V5 b5 e5 s5 D6 a6
  go_wp2_with fail
  generalize ((w4.alloc (.cells #[.func (.func (pF k)) #[] #[], .func (.func (tF k)) #[] #[]] 54)).alloc (.cells #[.int .i64 p.k, .int .u16 (p.s : Int), .int .u16 (p.t : Int), .int .u32 (p.f : Int), .int .u16 (p.y : Int), .slice r p.n c, .int .u64 (p.T : Int), .int .u32 (p.l : Int), .int .u32 (p.g : Int), .int .u16 (p.u : Int), .int .u16 (p.j : Int), .int .u32 (p.F : Int), .int .u16 (p.d : Int)] 56)) = w6 at *
  generalize w4.heap.size = G at *
  clear q0 q1 q2 q3 q4 q5 q6 q7 q8 q9 q10 q11 q12
  refine wp_region_held (S := fun w' => PkAt w' w.heap.size p r c ∧ w'.cell? ⟨G, 0, none⟩ = some (.func (.func (pF k)) #[] #[])) (by kernel_rfl) ?_
  change wpAnyH _ _ _ _ _ _ _ _ w6.drew
  have a7 : Below w6.heap.size w6 w6.drew := (Below.refl _ _).drew
  have V7 := HV.out.grew a7
  have D7 := HD.out.grew a7
  have hr : PkAt w6.drew w.heap.size p r c ∧ w6.drew.cell? ⟨G, 0, none⟩ = some (.func (.func (pF k)) #[] #[]) := ⟨V7.pk, HG.out⟩
  have b7 : Below w.heap.size w w6.drew := HB.out.drew
  clear HV HD HB HG a7
  generalize w6.drew = w7 at *
  refine wpAnyH_take (i := 0) (v := .pointer (some ⟨w.heap.size, 0, none⟩)) rfl (by kernel_rfl) (by kernel_rfl) (by kernel_rfl) (put_free (free_put 11 _ (by decide) (by decide))) (Yields.yieldsIf (Or.inl ⟨by kernel_rfl, fun _ => by go_simp⟩)) hr ?_
  refine wpAnyH_take (i := 1) (v := .int .i64 p.k) rfl (by kernel_rfl) (by kernel_rfl) (by kernel_rfl) (put_free (free_put 12 _ (by decide) (by decide))) (Or.inl ⟨by kernel_rfl, fun W hW => by have g : W.cell? ⟨w.heap.size, 0, none⟩ = some (.int .i64 p.k) := hW.1.cell 0 (by decide); go_simp⟩) hr ?_
  refine wpAnyH_take (i := 2) (v := .int .u8 (k : Int)) rfl (by kernel_rfl) (by kernel_rfl) (by kernel_rfl) (put_free (free_put 13 _ (by decide) (by decide))) (Yields.yieldsIf (Or.inl ⟨by kernel_rfl, fun _ => by go_simp; rw [HK.out, IntKind.wrap_u8]; omega⟩)) hr ?_
  refine wpAnyH_take (i := 4) (v := .pointer (some ⟨G, 0, none⟩)) rfl (by kernel_rfl) (by kernel_rfl) (by kernel_rfl) (put_free (free_put 15 _ (by decide) (by decide))) (Yields.yieldsIf (Or.inl ⟨by kernel_rfl, fun _ => by go_simp⟩)) hr ?_
  refine wpAnyH_take (i := 5) (v := .func (.func (pF k)) #[] #[]) rfl (by kernel_rfl) (by kernel_rfl) (by kernel_rfl) (put_free (free_put 16 _ (by decide) (by decide))) (Or.inl ⟨by kernel_rfl, fun W hW => by have g := hW.2; go_simp⟩) hr ?_
  have hcf := fun args W => enter_p k args W h1 h2
  refine wpAnyH_ready (rs := [3, 6]) (by kernel_rfl) (by simp) ?_
  refine AllReadyH.cons rfl (fun K2 hK2 => ?_) (AllReadyH.cons rfl (fun K2 hK2 => ?_) AllReadyH.nil)
  · skip
    go_simp
    have a8 : Below w7.heap.size w7 (w7.alloc (.cells #[.int .u8 (k : Int)] 5)) := (Below.refl _ _).alloc (Nat.le_refl _) _
    have R8 := one_row w7 k 5
    refine hK2.out _ _ (holdP hr a8) (fun hr => ?_)
    clear hK2 K2
    generalize (w7.alloc (.cells #[.int .u8 (k : Int)] 5)) = w8 at *
    refine wpAnyH_ready (rs := [6]) (by kernel_rfl) (by simp) ?_
    refine AllReadyH.cons rfl (fun K2 hK2 => ?_) AllReadyH.nil
    go_simp
    refine Calls.mono (pput_no (G + 1) p r c w8 (D7.grew a8) k HK.out h1 h2 hE) ?_
    rintro e w9 ⟨rfl, k4⟩
    have d9 := a8.trans (k4.mono a8.size)
    have b9 := b7.trans (d9.mono b7.size)
    have V9 := V7.grew d9
    refine leaves_cons (f := 18) (args := #[.pointer (some ⟨w.heap.size + 1, 0, none⟩), .pointer (some ⟨w.heap.size + 1 + 1, 0, none⟩)]) (by simp) (by simp [go_sem]) ?_
    refine (catchP_yes (w.heap.size + 1) (w.heap.size + 1 + 1) w.heap.size _ _ (bE p : Int) [] w9 V9.b V9.bT V9.er V9.erT (by omega) (by omega) (by omega)).mono ?_
    rintro e u' w'' ⟨rfl, rfl, c1, c2, d⟩
    have HA : Hid (PutIs w (ptN p) (ptX p) (bE p) (.returned (.tuple #[.slice none 0 0, .int .i64 ((bE p : Int))])) w'') := by
      show PutIs _ _ _ _ _ _
      rw [ptN_no hE]
      exact PutIs.nothing (b9.trans d)
    clear d
    simp [Leaves, settle, results, Try.results9, go_sem, c1, c2]
    exact HA.out
  · skip
    go_simp
    refine Calls.mono (pput_no (G + 1) p r c w7 D7 k HK.out h1 h2 hE) ?_
    rintro e w8 ⟨rfl, k4⟩
    have d8 := k4
    have b8 := b7.trans (d8.mono b7.size)
    have V8 := V7.grew d8
    refine leaves_cons (f := 18) (args := #[.pointer (some ⟨w.heap.size + 1, 0, none⟩), .pointer (some ⟨w.heap.size + 1 + 1, 0, none⟩)]) (by simp) (by simp [go_sem]) ?_
    refine (catchP_yes (w.heap.size + 1) (w.heap.size + 1 + 1) w.heap.size _ _ (bE p : Int) [] w8 V8.b V8.bT V8.er V8.erT (by omega) (by omega) (by omega)).mono ?_
    rintro e u' w'' ⟨rfl, rfl, c1, c2, d⟩
    have HA : Hid (PutIs w (ptN p) (ptX p) (bE p) (.returned (.tuple #[.slice none 0 0, .int .i64 ((bE p : Int))])) w'') := by
      show PutIs _ _ _ _ _ _
      rw [ptN_no hE]
      exact PutIs.nothing (b8.trans d)
    clear d
    simp [Leaves, settle, results, Try.results9, go_sem, c1, c2]
    exact HA.out

theorem packput_any (p : Pk) (r : Option Addr) (c : Nat) (w : World) (o : p.Ok) (hx : BytesAt w r p.n p.x) :
    Calls Try.prog 9 #[.agg #[.int .i64 p.k, .int .u16 (p.s : Int), .int .u16 (p.t : Int), .int .u32 (p.f : Int), .int .u16 (p.y : Int), .slice r p.n c, .int .u64 (p.T : Int), .int .u32 (p.l : Int), .int .u32 (p.g : Int), .int .u16 (p.u : Int), .int .u16 (p.j : Int), .int .u32 (p.F : Int), .int .u16 (p.d : Int)]] w fun e w' => PutIs w (ptN p) (ptX p) (bE p) e w' := by
  by_cases h : 1 ≤ p.k ∧ p.k ≤ 4
  · by_cases hE : bE p = 0
    · exact packput_yes p r c w o hx p.k.toNat (by omega) (by omega) (by omega) hE
    · exact packput_no p r c w p.k.toNat (by omega) (by omega) (by omega) hE
  · exact packput_kind p r c w h
end Go.Proofs.Ytcflaklnafggmaa
