/-
  A Basis in memory, what stays of it while others go on, and New.
-/
import Derived.Test.YtgbeklifcchmlaaBld
import Derived.Test.YtgbeklifcchmlaaNil
import Derived.Deep.RegionHeld3
namespace Go.Proofs.Ytgbeklifcchmlaa
open Go.RowKit Go.Deep

/-- What stands at a place of the rows' room: nil, or a row of n bytes. -/
def RowVal (w : World) (n : Nat) (v : Value) : Option (Nat → Nat) → Prop
  | none => v = .slice none 0 0
  | some r => ∃ b c, v = .slice (some ⟨b, 0, none⟩) n c ∧ n ≤ c ∧ BytesAt w (some ⟨b, 0, none⟩) n r

/-- The block B holds a Basis of k unknowns of size bytes, block R the room of its rows: S tells which row leads at which place. -/
structure BasisAt (w : World) (B R k size : Nat) (S : Nat → Option (Nat → Nat)) : Prop where
  field : FieldAt w B
  sz : w.cell? ⟨B, 766, none⟩ = some (.int .i64 (size : Int))
  rows : w.cell? ⟨B, 767, none⟩ = some (.slice (some ⟨R, 0, none⟩) k k)
  room : ∃ A : Nat → Value, w.rowIs R 34 k A ∧ ∀ i, i < k → RowVal w (k + size) (A i) (S i)
  k1 : 1 ≤ k
  k32 : k ≤ 32
  s1 : 1 ≤ size
  s64 : size ≤ 64

theorem BasisAt.apart {w : World} {B R k size : Nat} {S : Nat → Option (Nat → Nat)} (h : BasisAt w B R k size S) : Apart w R := by
  rintro b o κ z hc rfl
  obtain ⟨A, ⟨c, hb, hs, hA⟩, hv⟩ := h.room
  have e : c[o]? = some (.int κ z) := by simpa [World.cell?, hb] using hc
  have ho : o < k := by have := (Array.getElem?_eq_some_iff.1 e).1; omega
  rw [hA o ho] at e
  have := hv o ho
  rw [Option.some.inj e] at this
  cases hS : S o with
  | none => rw [hS] at this; cases this
  | some r => rw [hS] at this; obtain ⟨_, _, g, _⟩ := this; cases g

theorem FieldAt.kept {w w' : World} {b R : Nat} (h : FieldAt w b) (hk : Kept R w w') (ha : Apart w R) : FieldAt w' b :=
  ⟨fun i hi => hk.cell (h.powers i hi) (ha _ _ _ _ (h.powers i hi)), fun a hi => hk.cell (h.logs a hi) (ha _ _ _ _ (h.logs a hi))⟩
theorem RowVal.kept {w w' : World} {n R : Nat} {v : Value} {s : Option (Nat → Nat)} (h : RowVal w n v s) (hk : Kept R w w') (ha : Apart w R) : RowVal w' n v s := by
  cases s with
  | none => exact h
  | some r => obtain ⟨b, c, e, hn, hB⟩ := h; exact ⟨b, c, e, hn, hB.kept hk ha⟩
/-- A Basis stays as it is while another one goes on. -/
theorem BasisAt.kept {w w' : World} {B R R' k size : Nat} {S : Nat → Option (Nat → Nat)} (h : BasisAt w B R k size S) (hk : Kept R' w w') (ha : Apart w R') (hne : R ≠ R') : BasisAt w' B R k size S := by
  have hB : B ≠ R' := ha _ _ _ _ h.sz
  refine ⟨h.field.kept hk ha, hk.cell h.sz hB, hk.cell h.rows hB, ?_, h.k1, h.k32, h.s1, h.s64⟩
  obtain ⟨A, hr, hv⟩ := h.room
  exact ⟨A, hr.of_block (hk.block R hr.lt hne), fun i hi => (hv i hi).kept hk ha⟩
theorem RowVal.grew {w w' : World} {n : Nat} {v : Value} {s : Option (Nat → Nat)} (h : RowVal w n v s) (hb : Below w.heap.size w w') : RowVal w' n v s := by
  cases s with
  | none => exact h
  | some r => obtain ⟨b, c, e, hn, hB⟩ := h; exact ⟨b, c, e, hn, hB.grew hb⟩
theorem BasisAt.lt {w : World} {B R k size : Nat} {S : Nat → Option (Nat → Nat)} (h : BasisAt w B R k size S) : B < w.heap.size ∧ R < w.heap.size := by
  obtain ⟨A, hr, -⟩ := h.room
  exact ⟨cell_lt h.sz, hr.lt⟩
theorem BasisAt.grew {w w' : World} {B R k size : Nat} {S : Nat → Option (Nat → Nat)} (h : BasisAt w B R k size S) (hb : Below w.heap.size w w') : BasisAt w' B R k size S := by
  have hl := h.lt
  refine ⟨h.field.below hb hl.1, (hb.cell (p := ⟨B, 766, none⟩) hl.1).trans h.sz, (hb.cell (p := ⟨B, 767, none⟩) hl.1).trans h.rows, ?_, h.k1, h.k32, h.s1, h.s64⟩
  obtain ⟨A, hr, hv⟩ := h.room
  exact ⟨A, hr.of_block (hb.block R hr.lt), fun i hi => (hv i hi).grew hb⟩
theorem BasisAt.same {w w' : World} {B R k size : Nat} {S : Nat → Option (Nat → Nat)} (h : BasisAt w B R k size S) (hb : Same w w') : BasisAt w' B R k size S := h.grew (hb.below _)

set_option maxRecDepth 100000 in
set_option maxHeartbeats 400000 in
theorem reckons_yes (p : Nat) (w : World) (h : FieldAt w p) :
    Calls Try.prog 45 #[.pointer (some ⟨p, 0, none⟩)] w fun e w' => e = .returned (.bool true) ∧ Same w w' := by
  go_enter Try.func45, Try.ntmps45
  go_wp2_with fail
  refine (inv_at p 1 1 _ h (by decide) (by decide) (by decide +kernel)).mono ?_
  rintro e w' ⟨rfl, hq⟩
  go_wp2
  go_ret
  exact ⟨rfl, hq⟩

/-- Nothing but nil and no was answered. -/
def NoBasis (w : World) (e : Ending) (w' : World) : Prop := e = .returned (.tuple #[.pointer none, .bool false]) ∧ Same w w'
/-- A new Basis without rows was answered. -/
def NewBasis (w : World) (k size : Nat) (e : Ending) (w' : World) : Prop :=
  ∃ B R, e = .returned (.tuple #[.pointer (some ⟨B, 0, none⟩), .bool true]) ∧ w.heap.size ≤ B ∧ w.heap.size ≤ R ∧ BasisAt w' B R k size (fun _ => none) ∧ Below w.heap.size w w'

theorem basisCells_at (size : Int) (R k : Nat) (w : World) : FieldAt (w.alloc (.cells (basisCells size R k).toArray 79)) w.heap.size ∧
    (w.alloc (.cells (basisCells size R k).toArray 79)).cell? ⟨w.heap.size, 766, none⟩ = some (.int .i64 size) ∧
    (w.alloc (.cells (basisCells size R k).toArray 79)).cell? ⟨w.heap.size, 767, none⟩ = some (.slice (some ⟨R, 0, none⟩) k k) := by
  have hl := fieldCells_len
  refine ⟨⟨fun i hi => ?_, fun a ha => ?_⟩, ?_, ?_⟩
  · rw [World.cell?_alloc_at _ _ _ _ rfl]
    simp only [basisCells, List.getElem?_toArray]
    rw [List.getElem?_append_left (by omega), fieldCells_pw i hi]
  · rw [World.cell?_alloc_at _ _ _ _ rfl]
    simp only [basisCells, List.getElem?_toArray]
    rw [List.getElem?_append_left (by omega), fieldCells_lg a ha]
  · rw [World.cell?_alloc_at _ _ _ _ rfl]
    simp only [basisCells, List.getElem?_toArray]
    rw [List.getElem?_append_right (by omega), hl]; rfl
  · rw [World.cell?_alloc_at _ _ _ _ rfl]
    simp only [basisCells, List.getElem?_toArray]
    rw [List.getElem?_append_right (by omega), hl]; rfl

/-- The cells of a field and of a Basis, as letters. -/
theorem cells_letters (size k : Nat) : ∃ (cs : List Value) (C : Nat → Array Value), (∀ w p, FieldAt w p → w.rangeAt p 0 cs) ∧ (Try.prog.info? 63).map (·.size) = some cs.length ∧
    (∀ R w, (Instr.build 79 #[(0, .agg cs.toArray), (1, .int .i64 (size : Int)), (2, .slice (some ⟨R, 0, none⟩) k k)]).run Try.prog w = .ok (.agg (C R)) w) ∧ Hid (∀ R, C R = (basisCells (size : Int) R k).toArray) :=
  ⟨fieldCells, fun R => (basisCells (size : Int) R k).toArray, fun _ _ h => h.range, by rw [fieldCells_len]; exact info_field, fun R => build_basis (size : Int) R k, fun _ => rfl⟩

theorem basis_new (size k B R : Nat) (w : World) (C : Nat → Array Value) (HC : ∀ R, C R = (basisCells (size : Int) R k).toArray) (k1 : 1 ≤ k) (k2 : k ≤ 32) (s1 : 1 ≤ size) (s2 : size ≤ 64) (hB : w.heap.size = B) (hw : w.rowIs R 34 k (fun _ => .slice none 0 0)) :
    BasisAt (w.alloc (.cells (C R) 79)) B R k size (fun _ => none) := by
  subst hB
  rw [HC]
  obtain ⟨h1, h2, h3⟩ := basisCells_at (size : Int) R k w
  exact ⟨h1, h2, h3, ⟨_, hw.alloc _, fun _ _ => rfl⟩, k1, k2, s1, s2⟩

set_option maxRecDepth 100000 in
set_option maxHeartbeats 400000 in
theorem newBasis_yes (p k size : Nat) (w : World) (h : FieldAt w p) (k1 : 1 ≤ k) (k2 : k ≤ 32) (s1 : 1 ≤ size) (s2 : size ≤ 64) :
    Calls Try.prog 28 #[.pointer (some ⟨p, 0, none⟩), .int .i64 (k : Int), .int .i64 (size : Int)] w fun e w' => NewBasis w k size e w' := by
  obtain ⟨cs, C, hra, hi, hbu, HC⟩ := cells_letters size k
  have hmk := run_make_row' (P := Try.prog) 24 34 (.slice none 0 0) 24 Try.underlying24 Try.infoRow rfl .i64 .i64 k (by omega) (by omega)
  go_enter Try.func28, Try.ntmps28
  go_wp2_with fail
  refine (reckons_yes p _ h).mono ?_
  rintro e w1 ⟨rfl, q1⟩
  have hr := hra _ _ (q1.field h)
  have hu := Try.underlying63
  have HQ : Hid (Same w w1) := q1
  clear hra q1 h
  go_wp2_with fail
  refine wp_region_held (S := fun w' => w'.rangeAt p 0 cs) (by kernel_rfl) ?_
  refine wpAnyH_take (i := 0) (v := .pointer (some ⟨p, 0, none⟩)) rfl (by kernel_rfl) (by kernel_rfl) (by kernel_rfl) (fun _ _ _ h => h) (Yields.yieldsIf (Or.inl ⟨by kernel_rfl, fun _ => by kernel_rfl⟩)) hr ?_
  refine wpAnyH_take (i := 1) (v := .pointer (some ⟨p, 0, none⟩)) rfl (by kernel_rfl) (by kernel_rfl) (by kernel_rfl) (fun _ _ _ h => h) (Yields.yieldsIf (Or.inl ⟨by kernel_rfl, fun _ => by kernel_rfl⟩)) hr ?_
  refine wpAnyH_take (i := 2) (v := .agg cs.toArray) rfl (by kernel_rfl) (by kernel_rfl) (by kernel_rfl) (fun _ _ _ h => h) (yieldsIf_load_mid (by kernel_rfl) _ _ rfl p 0 rfl cs _ (fun _ h => h) hu rfl hi) hr ?_
  refine wpAnyH_take (i := 3) (v := .int .i64 (size : Int)) rfl (by kernel_rfl) (by kernel_rfl) (by kernel_rfl) (fun _ _ _ h => h) (Yields.yieldsIf (Or.inl ⟨by kernel_rfl, fun _ => by kernel_rfl⟩)) hr ?_
  refine wpAnyH_take (i := 4) (v := .int .i64 (k : Int)) rfl (by kernel_rfl) (by kernel_rfl) (by kernel_rfl) (fun _ _ _ h => h) (Yields.yieldsIf (Or.inl ⟨by kernel_rfl, fun _ => by kernel_rfl⟩)) hr ?_
  refine wpAnyH_ready (rs := [5]) (by kernel_rfl) (by simp) ?_
  refine AllReadyH.cons rfl (fun K2 hK2 => ?_) AllReadyH.nil
  go_simp
  refine hK2.out _ _ (World.rangeAt_alloc hr _) (fun hr => ?_)
  clear hK2 K2
  have hy : ∀ W, ((do pure (Next.value (← Instr.build 79 #[(0, .agg cs.toArray), (1, .int .i64 (size : Int)), (2, .slice (some ⟨w1.heap.size, 0, none⟩) k k)])) : Sem Next)).run Try.prog W = .ok (.value (.agg (C w1.heap.size))) W := by
    intro W
    rw [Sem.run_bind, hbu]
    rfl
  refine wpAnyH_take (i := 6) (v := .agg (C w1.heap.size)) rfl (by kernel_rfl) (by kernel_rfl) (by kernel_rfl) (fun _ _ _ h => h) (Yields.yieldsIf (Or.inl ⟨by kernel_rfl, fun W => Eq.trans (by kernel_rfl) (hy W)⟩)) hr ?_
  refine wpAnyH_ready (rs := [7]) (by kernel_rfl) (by simp) ?_
  refine AllReadyH.cons rfl (fun K2 hK2 => ?_) AllReadyH.nil
  go_simp
  refine hK2.out _ _ (World.rangeAt_alloc hr _) (fun hr => ?_)
  clear hK2 K2
  refine wpAnyH_ready (rs := [8]) (by kernel_rfl) (by simp) ?_
  refine AllReadyH.cons rfl (fun K2 hK2 => ?_) AllReadyH.nil
  go_simp
  refine hK2.out _ _ (hr) (fun hr => ?_)
  clear hK2 K2
  refine wpAnyH_ready (rs := [9]) (by kernel_rfl) (by simp) ?_
  refine AllReadyH.cons rfl (fun K2 hK2 => ?_) AllReadyH.nil
  go_simp
  refine hK2.out _ _ (hr) (fun hr => ?_)
  clear hK2 K2
  refine wpAnyH_done (by kernel_rfl) ?_ _
  go_wp2
  go_ret2
  have hs := HQ.out.size
  refine ⟨w1.heap.size + 1, w1.heap.size, rfl, by omega, by omega, ?_, ?_⟩
  · exact (basis_new size k (w1.heap.size + 1) w1.heap.size (w1.alloc (.cells (madeCells #[.slice none 0 0] k) 34)) C HC.out k1 k2 s1 s2 (by simp) (World.rowIs_made w1 _ k _)).same ⟨1, rfl⟩
  · have b1 : Below w1.heap.size w1 (w1.alloc (.cells (madeCells #[.slice none 0 0] k) 34)) := (Below.refl _ _).alloc (Nat.le_refl _) _
    exact (HQ.out.below _).trans ((b1.alloc (by simp) _).drew.mono (by omega))

set_option maxRecDepth 100000 in
set_option maxHeartbeats 400000 in
theorem newBasis_no (p : Nat) (k size : Int) (w : World) (h : FieldAt w p) (hno : ¬ (1 ≤ k ∧ k ≤ 32 ∧ 1 ≤ size ∧ size ≤ 64)) :
    Calls Try.prog 28 #[.pointer (some ⟨p, 0, none⟩), .int .i64 k, .int .i64 size] w fun e w' => NoBasis w e w' := by
  have hb : (decide (k < 1) || decide (32 < k) || decide (size < 1) || decide (64 < size)) = true := by simp; omega
  go_enter Try.func28, Try.ntmps28
  go_wp2_with fail
  refine (reckons_yes p _ h).mono ?_
  rintro e w1 ⟨rfl, q1⟩
  by_cases c1 : k < 1
  · go_wp2
    go_ret2
    exact ⟨rfl, q1⟩
  by_cases c2 : 32 < k
  · go_wp2
    go_ret2
    exact ⟨rfl, q1⟩
  by_cases c3 : size < 1
  · go_wp2
    go_ret2
    exact ⟨rfl, q1⟩
  have c4 : 64 < size := by omega
  go_wp2
  go_ret2
  exact ⟨rfl, q1⟩

set_option maxRecDepth 100000 in
set_option maxHeartbeats 400000 in
theorem reckons_nil (w : World) :
    Calls Try.prog 45 #[.pointer none] w fun e w' => e = .returned (.bool false) ∧ w' = w := by
  go_enter Try.func45, Try.ntmps45
  go_wp2_with (go_at_call 61; refine (nil_inv 1 _).mono ?_; rintro e w' ⟨rfl, rfl⟩)
  go_ret
  exact ⟨rfl, rfl⟩
set_option maxRecDepth 100000 in
set_option maxHeartbeats 400000 in
theorem newBasis_nil (k size : Int) (w : World) :
    Calls Try.prog 28 #[.pointer none, .int .i64 k, .int .i64 size] w fun e w' => NoBasis w e w' := by
  go_enter Try.func28, Try.ntmps28
  go_wp2_with fail
  refine (reckons_nil _).mono ?_
  rintro e w1 ⟨rfl, rfl⟩
  go_wp2
  go_ret2
  exact ⟨rfl, Same.refl _⟩
end Go.Proofs.Ytgbeklifcchmlaa
