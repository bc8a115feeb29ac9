/-
  Package purse: the claims in the order in which they are served.
-/
import Derived.Test.YtijjhjlopfbeiaaDoorPcm
import Derived.Test.YtijjhjlopfbeiaaDoorMmx
namespace Go.Proofs.YtijjhjlopfbeiaaDoor
open Go.RowKit Go.Deep Go.Shelf Go.Sort

/-- A claim: what is wanted, at which place. -/
def clv (c : Wt × Nat) : Nat → Value
  | 0 => .int .u32 c.1.id
  | 1 => .int .i64 c.1.r
  | 2 => .int .i64 c.1.b
  | _ => .int .i64 (c.2 : Int)
/-- The block B holds m claims, and may be written. -/
def CsAt (w : World) (B m : Nat) (C : Nat → Wt × Nat) : Prop := w.rowIs B 43 (m * 4) (fun i => clv (C (i / 4)) (i % 4))
theorem CsAt.lt {w : World} {B m : Nat} {C : Nat → Wt × Nat} (h : CsAt w B m C) : B < w.heap.size := World.rowIs.lt h
theorem CsAt.congr {w : World} {B m : Nat} {C D : Nat → Wt × Nat} (h : CsAt w B m C) (e : ∀ i, i < m → C i = D i) : CsAt w B m D := World.rowIs.congr h fun i hi => by
  show clv (C (i / 4)) (i % 4) = clv (D (i / 4)) (i % 4)
  rw [e (i / 4) (by omega)]
theorem CsAt.grew {w w' : World} {B m : Nat} {C : Nat → Wt × Nat} (h : CsAt w B m C) (hb : Below w.heap.size w w') : CsAt w' B m C := World.rowIs.of_block h (hb.block B h.lt)
theorem CsAt.cell {w : World} {B m : Nat} {C : Nat → Wt × Nat} (h : CsAt w B m C) (i j n : Nat) (hi : i < m) (hj : j < 4) (hn : n = i * 4 + j) : w.cell? ⟨B, n, none⟩ = some (clv (C i) j) := by
  subst hn
  have := World.rowIs.cell (i := i * 4 + j) h (by omega)
  simp only [show (i * 4 + j) / 4 = i by omega, show (i * 4 + j) % 4 = j by omega] at this
  exact this
theorem CsAt.frz {w : World} {B m : Nat} {C : Nat → Wt × Nat} (h : CsAt w B m C) (n : Nat) : w.frozen? ⟨B, n, none⟩ = false := World.rowIs.frozen h n
/-- One claim is written. -/
theorem CsAt.write {w : World} {B m : Nat} {C : Nat → Wt × Nat} (h : CsAt w B m C) (i n : Nat) (a : Wt) (p : Nat) (hn : n = i * 4) :
    CsAt ((((w.setCell ⟨B, n, none⟩ (.int .u32 a.id)).setCell ⟨B, n + 1, none⟩ (.int .i64 a.r)).setCell ⟨B, n + 2, none⟩ (.int .i64 a.b)).setCell ⟨B, n + 3, none⟩ (.int .i64 (p : Int))) B m (fun q => if q = i then (a, p) else C q) := by
  subst hn
  refine World.rowIs.congr (World.rowIs.set (World.rowIs.set (World.rowIs.set (World.rowIs.set h (i * 4) _) (i * 4 + 1) _) (i * 4 + 2) _) (i * 4 + 3) _) fun q hq => ?_
  by_cases e : q / 4 = i
  · have hq : q = i * 4 ∨ q = i * 4 + 1 ∨ q = i * 4 + 2 ∨ q = i * 4 + 3 := by omega
    rcases hq with rfl | rfl | rfl | rfl
    · have e1 : i * 4 % 4 = 0 := by omega
      simp [e, e1, clv]
    · have e1 : (i * 4 + 1) % 4 = 1 := by omega
      simp [e, e1, clv]
    · have e1 : (i * 4 + 2) % 4 = 2 := by omega
      simp [e, e1, clv]
    · have e1 : (i * 4 + 3) % 4 = 3 := by omega
      simp [e, e1, clv]
  · rw [if_neg (by omega), if_neg (by omega), if_neg (by omega), if_neg (by omega)]
    show clv (C (q / 4)) (q % 4) = clv (if q / 4 = i then (a, p) else C (q / 4)) (q % 4)
    rw [if_neg e]
theorem Kept.write4 {R : Nat} {w w' : World} (h : Kept R w w') (n : Nat) (v0 v1 v2 v3 : Value) : Kept R w ((((w'.setCell ⟨R, n, none⟩ v0).setCell ⟨R, n + 1, none⟩ v1).setCell ⟨R, n + 2, none⟩ v2).setCell ⟨R, n + 3, none⟩ v3) :=
  ((((h.trans (Kept.set _ _ _)).trans (Kept.set _ _ _)).trans (Kept.set _ _ _)).trans (Kept.set _ _ _))
theorem Tryd.infoClaim : (Tryd.prog.info? 43).map (fun i => (i.zero, i.size, i.bytes)) = some (some (.agg #[.int .u32 0, .int .i64 0, .int .i64 0, .int .i64 0]), 4, 32) := by kernel_rfl
theorem make_claims (m : Nat) (w : World) (hm : m ≤ 1000) : (Instr.makeSlice 40 (.int .i64 (m : Int)) (.int .i64 (m : Int))).run Tryd.prog w = .ok (.slice (some ⟨w.heap.size, 0, none⟩) m m) (w.alloc (.cells (madeCells #[.int .u32 0, .int .i64 0, .int .i64 0, .int .i64 0] (m * 4)) 43)) := by
  obtain ⟨i0, hi, hz0, hz1, hz2⟩ := info_parts Tryd.infoClaim
  have := run_makeSlice (P := Tryd.prog) w 40 43 i0 _ Tryd.underlying40 hi hz0 .i64 .i64 (m : Int) (m : Int) (by omega) (Int.le_refl _) (by rw [hz1]; simp; omega) (by rw [hz2]; omega) (by omega)
  rw [hz1] at this
  simpa [Value.cells] using this
def none4 : Wt × Nat := (⟨0, 0, 0⟩, 0)
theorem CsAt.made (w : World) (m : Nat) : CsAt (w.alloc (.cells (madeCells #[.int .u32 0, .int .i64 0, .int .i64 0, .int .i64 0] (m * 4)) 43)) w.heap.size m (fun _ => none4) := by
  refine ⟨madeCells #[.int .u32 0, .int .i64 0, .int .i64 0, .int .i64 0] (m * 4), heap_alloc_new w _, size_madeCells _ _, fun i hi => ?_⟩
  simp only [madeCells]
  simp [hi]
  have hq : i % 4 = 0 ∨ i % 4 = 1 ∨ i % 4 = 2 ∨ i % 4 = 3 := by omega
  rcases hq with e | e | e | e <;> rw [e] <;> rfl

/-- A claim's cells, by its place. -/
def cenc (K : Nat → Wt) (p : Nat) : List Value := [.int .u32 (K p).id, .int .i64 (K p).r, .int .i64 (K p).b, .int .i64 (p : Int)]
/-- How places stand to each other. -/
def cplc (K : Nat → Wt) (i j : Nat) : Int := or3 (cmpI (K i).r (K j).r) (cmpI (K i).id (K j).id) (cmpI (i : Int) (j : Int))
theorem or3_neg (x y z : Int) : or3 x y z < 0 ↔ x < 0 ∨ (x = 0 ∧ (y < 0 ∨ (y = 0 ∧ z < 0))) := by
  unfold or3
  repeat' split
  all_goals omega
theorem cmpI_neg (a b : Int) : cmpI a b < 0 ↔ a < b := by
  unfold cmpI
  repeat' split
  all_goals omega
theorem cmpI_zero (a b : Int) : cmpI a b = 0 ↔ a = b := by
  unfold cmpI
  repeat' split
  all_goals omega
theorem cplc_lt (K : Nat → Wt) (i j : Nat) : ltOf (cplc K) i j = decide (Pu.lt K i j) := by
  unfold ltOf cplc Pu.lt
  refine decide_eq_decide.2 ?_
  rw [or3_neg, cmpI_neg, cmpI_neg, cmpI_neg, cmpI_zero, cmpI_zero]
  omega
theorem cplc_swo (K : Nat → Wt) : SWO (ltOf (cplc K)) where
  irrefl x := by rw [cplc_lt]; exact decide_eq_false (Pu.lt_irrefl K x)
  trans x y z h1 h2 := by
    rw [cplc_lt] at *
    exact decide_eq_true (Pu.lt_trans (of_decide_eq_true h1) (of_decide_eq_true h2))
  ntrans x y z h1 h2 := by
    rw [cplc_lt] at *
    refine decide_eq_false fun h => ?_
    have a := of_decide_eq_false h1
    have b := of_decide_eq_false h2
    clear h1 h2
    unfold Pu.lt at a b h
    omega
theorem cplc_lays (K : Nat → Wt) (blk off size : Nat) (w : World) : CmpLays Tryd.prog 21 #[] (cenc K) 4 (cplc K) blk off size w :=
  fun _ _ _ _ x y => compare_any (K x).id (K x).r (K x).b (x : Int) (K y).id (K y).r (K y).b (y : Int) _
theorem CsAt.holds {w : World} {B m : Nat} {K : Nat → Wt} (h : CsAt w B m (fun i => (K i, i))) : HoldsK (cenc K) 4 w B 0 (Array.range m) := fun j hj => by
  have hj' : j < (Array.range m).size * 4 := by simpa [flatK] using hj
  have hm : j < m * 4 := by simpa using hj'
  rw [get_flatK _ _ _ _ hj']
  have e : (Array.range m)[j / 4]! = j / 4 := by rw [getElem!_pos _ _ (by simp; omega)]; simp
  rw [e, Nat.zero_add, h.cell (j / 4) (j % 4) j (by omega) (by omega) (by omega)]
  refine ⟨?_, h.frz j⟩
  have hq : j % 4 = 0 ∨ j % 4 = 1 ∨ j % 4 = 2 ∨ j % 4 = 3 := by omega
  rcases hq with e | e | e | e <;> rw [e] <;> rfl
/-- The block B holds m claims: the t-th that of place o t. -/
def ClsAt (w : World) (B m : Nat) (K : Nat → Wt) (o : Nat → Nat) : Prop := ∀ t, t < m → w.cell? ⟨B, t * 4, none⟩ = some (.int .u32 (K (o t)).id) ∧ w.cell? ⟨B, t * 4 + 1, none⟩ = some (.int .i64 (K (o t)).r) ∧ w.cell? ⟨B, t * 4 + 2, none⟩ = some (.int .i64 (K (o t)).b) ∧ w.cell? ⟨B, t * 4 + 3, none⟩ = some (.int .i64 (o t : Int))
theorem ClsAt.block {w w' : World} {B m : Nat} {K : Nat → Wt} {o : Nat → Nat} (h : ClsAt w B m K o) (e : w'.heap[B]? = w.heap[B]?) : ClsAt w' B m K o := fun t ht => by
  have q : ∀ j, w'.cell? ⟨B, j, none⟩ = w.cell? ⟨B, j, none⟩ := fun j => World.cell?_of_block (a := ⟨B, j, none⟩) e
  rw [q, q, q, q]
  exact h t ht
theorem HoldsK.cls {w : World} {B m : Nat} {K : Nat → Wt} {d : Array Nat} (h : HoldsK (cenc K) 4 w B 0 d) (hd : d.size = m) : ClsAt w B m K (fun t => d[t]!) := fun t ht => by
  have e : ∀ c, c < 4 → w.cell? ⟨B, t * 4 + c, none⟩ = some (cenc K d[t]!)[c]! := fun c hc => by
    have := (Go.Sort.HoldsK.cell h (i := t) (c := c) (by omega) hc).1
    rwa [Nat.zero_add] at this
  exact ⟨e 0 (by decide), e 1 (by decide), e 2 (by decide), e 3 (by decide)⟩
/-- What the sort's world keeps. -/
theorem sortWorldK_kept (enc : Nat → List Value) (k : Nat) (w : World) (B m : Nat) (d : Array Nat) (os : Array Obj) : Kept B w (sortWorldK enc k w B 0 m d os) := by
  refine ⟨rfl, rfl, rfl, ?_, fun i hi hB => ?_⟩
  · show w.heap.size ≤ (_ ++ os).size
    rw [Array.size_append]
    have : (putRowK enc k (Go.Sort.ahead w m) B 0 d).heap.size = w.heap.size := by simp [putRowK, putRow, mapBlock, Go.Sort.ahead]
    omega
  · show (_ ++ os)[i]? = _
    have : (putRowK enc k (Go.Sort.ahead w m) B 0 d).heap.size = w.heap.size := by simp [putRowK, putRow, mapBlock, Go.Sort.ahead]
    rw [Array.getElem?_append_left (by omega)]
    simp [putRowK, putRow, mapBlock, Go.Sort.ahead, Array.getElem?_modify, Ne.symm hB]
theorem ord_of {K : Nat → Wt} {m : Nat} {d : Array Nat} (hp : PermIn 0 (Array.range m).size (Array.range m) d) (hs : SortedIn (ltOf (cplc K)) 0 (Array.range m).size d) : d.size = m ∧ Pu.Ord K m (fun t => d[t]!) := by
  obtain ⟨h1, -, h3⟩ := hp
  rw [Array.size_range] at *
  have hl : (List.range m).map (fun t => d[t]!) = d.toList := by
    refine List.ext_getElem? fun i => ?_
    have e : d.toList[i]? = d[i]? := Array.getElem?_toList
    rw [e]
    by_cases hi : i < m
    · rw [Array.getElem?_eq_getElem (show i < d.size by omega)]
      simp [hi, getElem!_pos, h1]
    · rw [Array.getElem?_eq_none (show d.size ≤ i by omega)]
      simp [hi]
  have pp : ((List.range m).map (fun t => d[t]!)).Perm (List.range m) := by
    rw [hl]
    have e1 : d.extract 0 m = d := by rw [← h1]; simp
    have e2 : (Array.range m).extract 0 m = Array.range m := by
      have := Array.extract_size (xs := Array.range m)
      rwa [Array.size_range] at this
    rw [e1, e2] at h3
    simpa using h3
  refine ⟨h1, pp, fun s t hst ht => ?_⟩
  have hn := hs s t (Nat.zero_le _) hst ht
  rw [cplc_lt] at hn
  have hn := of_decide_eq_false hn
  by_cases e : d[s]! = d[t]!
  · exfalso
    have nd : ((List.range m).map (fun t => d[t]!)).Nodup := pp.nodup_iff.2 List.nodup_range
    have := List.pairwise_iff_getElem.1 nd s t (by simp; omega) (by simp; omega) hst
    apply this
    simp [e]
  · rcases Pu.lt_total K e with g | g
    · exact g
    · exact absurd g hn
end Go.Proofs.YtijjhjlopfbeiaaDoor
