/-
  A report in memory, and as bytes; what is told of bytes as a report, a nack, a gone.
-/
import Derived.Test.YtcflaklnafggmaaByt
namespace Go.Proofs.Ytcflaklnafggmaa
open Go.RowKit Go.Deep

/-- The block B holds a report: Top t, Lost l, Got g, Burst u, Jitter j. -/
structure RepAt (w : World) (B t l g u j : Nat) : Prop where
  c0 : w.cell? ⟨B, 0, none⟩ = some (.int .u64 (t : Int))
  c1 : w.cell? ⟨B, 1, none⟩ = some (.int .u32 (l : Int))
  c2 : w.cell? ⟨B, 2, none⟩ = some (.int .u32 (g : Int))
  c3 : w.cell? ⟨B, 3, none⟩ = some (.int .u16 (u : Int))
  c4 : w.cell? ⟨B, 4, none⟩ = some (.int .u16 (j : Int))
  frz : ∀ i, w.frozen? ⟨B, i, none⟩ = false
theorem RepAt.made (w : World) (T : TypeId) (t l g u j : Nat) :
    RepAt (w.alloc (.cells #[.int .u64 (t : Int), .int .u32 (l : Int), .int .u32 (g : Int), .int .u16 (u : Int), .int .u16 (j : Int)] T)) w.heap.size t l g u j :=
  ⟨by rw [World.cell?_alloc_at _ _ _ _ rfl]; rfl, by rw [World.cell?_alloc_at _ _ _ _ rfl]; rfl, by rw [World.cell?_alloc_at _ _ _ _ rfl]; rfl, by rw [World.cell?_alloc_at _ _ _ _ rfl]; rfl, by rw [World.cell?_alloc_at _ _ _ _ rfl]; rfl,
   fun i => by rw [World.frozen?_alloc_at _ _ _ _ rfl]⟩
theorem RepAt.lt {w : World} {B t l g u j : Nat} (h : RepAt w B t l g u j) : B < w.heap.size := cell_lt h.c0
theorem RepAt.grew {w w' : World} {B t l g u j : Nat} (h : RepAt w B t l g u j) (hb : Below w.heap.size w w') : RepAt w' B t l g u j :=
  ⟨(hb.cell (p := ⟨B, 0, none⟩) h.lt).trans h.c0, (hb.cell (p := ⟨B, 1, none⟩) h.lt).trans h.c1, (hb.cell (p := ⟨B, 2, none⟩) h.lt).trans h.c2, (hb.cell (p := ⟨B, 3, none⟩) h.lt).trans h.c3, (hb.cell (p := ⟨B, 4, none⟩) h.lt).trans h.c4,
   fun i => (World.frozen?_of_block (a := ⟨B, i, none⟩) (hb.block B h.lt)).trans (h.frz i)⟩
theorem RepAt.top {w : World} {B t l g u j : Nat} (h : RepAt w B t l g u j) (t' : Nat) : RepAt (w.setCell ⟨B, 0, none⟩ (.int .u64 (t' : Int))) B t' l g u j :=
  ⟨World.cell?_setCell_same _ _ _ h.c0, (World.cell?_setCell_other _ _ _ _ (by simp)).trans h.c1, (World.cell?_setCell_other _ _ _ _ (by simp)).trans h.c2, (World.cell?_setCell_other _ _ _ _ (by simp)).trans h.c3, (World.cell?_setCell_other _ _ _ _ (by simp)).trans h.c4, fun i => by rw [World.frozen?_setCell]; exact h.frz i⟩
theorem RepAt.lost {w : World} {B t l g u j : Nat} (h : RepAt w B t l g u j) (l' : Nat) : RepAt (w.setCell ⟨B, 1, none⟩ (.int .u32 (l' : Int))) B t l' g u j :=
  ⟨(World.cell?_setCell_other _ _ _ _ (by simp)).trans h.c0, World.cell?_setCell_same _ _ _ h.c1, (World.cell?_setCell_other _ _ _ _ (by simp)).trans h.c2, (World.cell?_setCell_other _ _ _ _ (by simp)).trans h.c3, (World.cell?_setCell_other _ _ _ _ (by simp)).trans h.c4, fun i => by rw [World.frozen?_setCell]; exact h.frz i⟩
theorem RepAt.got {w : World} {B t l g u j : Nat} (h : RepAt w B t l g u j) (g' : Nat) : RepAt (w.setCell ⟨B, 2, none⟩ (.int .u32 (g' : Int))) B t l g' u j :=
  ⟨(World.cell?_setCell_other _ _ _ _ (by simp)).trans h.c0, (World.cell?_setCell_other _ _ _ _ (by simp)).trans h.c1, World.cell?_setCell_same _ _ _ h.c2, (World.cell?_setCell_other _ _ _ _ (by simp)).trans h.c3, (World.cell?_setCell_other _ _ _ _ (by simp)).trans h.c4, fun i => by rw [World.frozen?_setCell]; exact h.frz i⟩
theorem RepAt.burst {w : World} {B t l g u j : Nat} (h : RepAt w B t l g u j) (u' : Nat) : RepAt (w.setCell ⟨B, 3, none⟩ (.int .u16 (u' : Int))) B t l g u' j :=
  ⟨(World.cell?_setCell_other _ _ _ _ (by simp)).trans h.c0, (World.cell?_setCell_other _ _ _ _ (by simp)).trans h.c1, (World.cell?_setCell_other _ _ _ _ (by simp)).trans h.c2, World.cell?_setCell_same _ _ _ h.c3, (World.cell?_setCell_other _ _ _ _ (by simp)).trans h.c4, fun i => by rw [World.frozen?_setCell]; exact h.frz i⟩
theorem RepAt.jitter {w : World} {B t l g u j : Nat} (h : RepAt w B t l g u j) (j' : Nat) : RepAt (w.setCell ⟨B, 4, none⟩ (.int .u16 (j' : Int))) B t l g u j' :=
  ⟨(World.cell?_setCell_other _ _ _ _ (by simp)).trans h.c0, (World.cell?_setCell_other _ _ _ _ (by simp)).trans h.c1, (World.cell?_setCell_other _ _ _ _ (by simp)).trans h.c2, (World.cell?_setCell_other _ _ _ _ (by simp)).trans h.c3, World.cell?_setCell_same _ _ _ h.c4, fun i => by rw [World.frozen?_setCell]; exact h.frz i⟩
theorem RepAt.other {w : World} {B t l g u j : Nat} (h : RepAt w B t l g u j) {R i : Nat} (v : Value) (hne : R ≠ B) : RepAt (w.setCell ⟨R, i, none⟩ v) B t l g u j := by
  have e : ∀ j, (⟨R, i, none⟩ : Addr) ≠ ⟨B, j, none⟩ := fun j e => hne (Addr.mk.inj e).1
  exact ⟨(World.cell?_setCell_other _ _ _ _ (e _)).trans h.c0, (World.cell?_setCell_other _ _ _ _ (e _)).trans h.c1, (World.cell?_setCell_other _ _ _ _ (e _)).trans h.c2, (World.cell?_setCell_other _ _ _ _ (e _)).trans h.c3, (World.cell?_setCell_other _ _ _ _ (e _)).trans h.c4, fun i => by rw [World.frozen?_setCell]; exact h.frz i⟩

/-- The bytes that a report is. -/
def repLaid (t l g u j : Nat) : Nat → Nat := cat (cat (cat (cat (cat (fun _ => 0) (high t 8) 0) (high l 4) 8) (high g 4) 12) (high u 2) 16) (high j 2) 18
theorem repLaid_lt (t l g u j : Nat) (i : Nat) (hi : i < 20) : repLaid t l g u j i < 256 := by
  unfold repLaid cat
  repeat' split
  all_goals first | exact high_lt _ _ _ | omega
theorem repLaid_top (t l g u j : Nat) (i : Nat) (h : i < 8) : repLaid t l g u j (0 + i) = high t 8 i := by
  unfold repLaid cat
  rw [if_pos (by omega), if_pos (by omega), if_pos (by omega), if_pos (by omega), if_neg (by omega), Nat.add_sub_cancel_left]
theorem repLaid_lost (t l g u j : Nat) (i : Nat) (h : i < 4) : repLaid t l g u j (8 + i) = high l 4 i := by
  unfold repLaid cat
  rw [if_pos (by omega), if_pos (by omega), if_pos (by omega), if_neg (by omega), Nat.add_sub_cancel_left]
theorem repLaid_got (t l g u j : Nat) (i : Nat) (h : i < 4) : repLaid t l g u j (12 + i) = high g 4 i := by
  unfold repLaid cat
  rw [if_pos (by omega), if_pos (by omega), if_neg (by omega), Nat.add_sub_cancel_left]
theorem repLaid_burst (t l g u j : Nat) (i : Nat) (h : i < 2) : repLaid t l g u j (16 + i) = high u 2 i := by
  unfold repLaid cat
  rw [if_pos (by omega), if_neg (by omega), Nat.add_sub_cancel_left]
theorem repLaid_jitter (t l g u j : Nat) (i : Nat) (h : i < 2) : repLaid t l g u j (18 + i) = high j 2 i := by
  unfold repLaid cat
  rw [if_neg (by omega), Nat.add_sub_cancel_left]
/-- The bytes that a nack is, and a gone. -/
def nackLaid (f k : Nat) : Nat → Nat := cat (cat (fun _ => 0) (high f 4) 0) (high k 2) 4
def goneLaid (f : Nat) : Nat → Nat := cat (fun _ => 0) (high f 4) 0
theorem goneLaid_is (f i : Nat) : goneLaid f i = high f 4 i := by unfold goneLaid cat; rw [if_neg (by omega)]; rfl
theorem nackLaid_lt (f k : Nat) (i : Nat) (hi : i < 6) : nackLaid f k i < 256 := by
  unfold nackLaid cat
  repeat' split
  all_goals first | exact high_lt _ _ _ | omega
theorem goneLaid_lt (f : Nat) (i : Nat) : goneLaid f i < 256 := by rw [goneLaid_is]; exact high_lt _ _ _
theorem nackLaid_frame (f k : Nat) (i : Nat) (h : i < 4) : nackLaid f k i = high f 4 i := by
  unfold nackLaid cat
  rw [if_pos (by omega), if_neg (by omega)]; rfl
theorem nackLaid_need (f k : Nat) (i : Nat) (h : i < 2) : nackLaid f k (4 + i) = high k 2 i := by
  unfold nackLaid cat
  rw [if_neg (by omega), Nat.add_sub_cancel_left]

/-- What n bytes tell where N are asked for, and the error. -/
def lenV (N n v : Nat) : Nat := if n = N then v else 0
def lenE (N n : Nat) : Nat := if n = N then 0 else 2
theorem lenV_yes (N v : Nat) : lenV N N v = v := if_pos rfl
theorem lenE_yes (N : Nat) : lenE N N = 0 := if_pos rfl
theorem lenV_no {N n : Nat} (v : Nat) (h : n ≠ N) : lenV N n v = 0 := if_neg h
theorem lenE_no {N n : Nat} (h : n ≠ N) : lenE N n = 2 := if_neg h
theorem lenV_lt {N n v b : Nat} (h : n = N → v < b) (h0 : 0 < b) : lenV N n v < b := by
  unfold lenV
  split
  · exact h (by assumption)
  · exact h0

/-- A report, and the error E, were answered. -/
def RepIs (w : World) (t l g u j E : Nat) (e : Ending) (w' : World) : Prop := e = .returned (.tuple #[.agg #[.int .u64 (t : Int), .int .u32 (l : Int), .int .u32 (g : Int), .int .u16 (u : Int), .int .u16 (j : Int)], .int .i64 (E : Int)]) ∧ Below w.heap.size w w'
/-- What n bytes x are taken as. -/
def RepTake (w : World) (n : Nat) (x : Nat → Nat) (e : Ending) (w' : World) : Prop :=
  RepIs w (lenV 20 n (Crc.numTo x 8)) (lenV 20 n (Crc.numTo (fun i => x (8 + i)) 4)) (lenV 20 n (Crc.numTo (fun i => x (12 + i)) 4)) (lenV 20 n (Crc.numTo (fun i => x (16 + i)) 2)) (lenV 20 n (Crc.numTo (fun i => x (18 + i)) 2)) (lenE 20 n) e w'
theorem RepTake.no {w w' : World} {n : Nat} {x : Nat → Nat} (h : n ≠ 20) (hb : Below w.heap.size w w') : RepTake w n x (.returned (.tuple #[.agg #[.int .u64 0, .int .u32 0, .int .u32 0, .int .u16 0, .int .u16 0], .int .i64 2])) w' := by
  unfold RepTake
  rw [lenV_no _ h, lenV_no _ h, lenV_no _ h, lenV_no _ h, lenV_no _ h, lenE_no h]
  exact ⟨rfl, hb⟩
theorem RepTake.yes {w w' : World} {t l g u j : Nat} {x : Nat → Nat} (ht : t = Crc.numTo x 8) (hl : l = Crc.numTo (fun i => x (8 + i)) 4) (hg : g = Crc.numTo (fun i => x (12 + i)) 4) (hu : u = Crc.numTo (fun i => x (16 + i)) 2) (hj : j = Crc.numTo (fun i => x (18 + i)) 2) (hb : Below w.heap.size w w') : RepTake w 20 x (.returned (.tuple #[.agg #[.int .u64 (t : Int), .int .u32 (l : Int), .int .u32 (g : Int), .int .u16 (u : Int), .int .u16 (j : Int)], .int .i64 0])) w' := by
  unfold RepTake
  rw [lenV_yes, lenV_yes, lenV_yes, lenV_yes, lenV_yes, lenE_yes, ← ht, ← hl, ← hg, ← hu, ← hj]
  exact ⟨rfl, hb⟩
theorem RepTake.some {w w' : World} {x : Nat → Nat} {e : Ending} (h : RepTake w 20 x e w') : RepIs w (Crc.numTo x 8) (Crc.numTo (fun i => x (8 + i)) 4) (Crc.numTo (fun i => x (12 + i)) 4) (Crc.numTo (fun i => x (16 + i)) 2) (Crc.numTo (fun i => x (18 + i)) 2) 0 e w' := by
  unfold RepTake at h
  rw [lenV_yes, lenV_yes, lenV_yes, lenV_yes, lenV_yes, lenE_yes] at h
  exact h
theorem RepTake.none {w w' : World} {n : Nat} {x : Nat → Nat} {e : Ending} (h : RepTake w n x e w') (hn : n ≠ 20) : RepIs w 0 0 0 0 0 2 e w' := by
  unfold RepTake at h
  rw [lenV_no _ hn, lenV_no _ hn, lenV_no _ hn, lenV_no _ hn, lenV_no _ hn, lenE_no hn] at h
  exact h
/-- What is put is taken. -/
theorem RepTake.ofPut {w w' : World} {t l g u j : Nat} {e : Ending} (h : RepTake w 20 (repLaid t l g u j) e w') (lt : t < 18446744073709551616) (ll : l < 4294967296) (lg : g < 4294967296) (lu : u < 65536) (lj : j < 65536) : RepIs w t l g u j 0 e w' := by
  have h := h.some
  rw [numTo_congr 8 (y := high t 8) (fun i hi => by have := repLaid_top t l g u j i hi; rwa [Nat.zero_add] at this), numTo_congr 4 (y := high l 4) (fun i hi => repLaid_lost t l g u j i hi), numTo_congr 4 (y := high g 4) (fun i hi => repLaid_got t l g u j i hi), numTo_congr 2 (y := high u 2) (fun i hi => repLaid_burst t l g u j i hi), numTo_congr 2 (y := high j 2) (fun i hi => repLaid_jitter t l g u j i hi),
    numTo_high t 8 lt, numTo_high l 4 ll, numTo_high g 4 lg, numTo_high u 2 lu, numTo_high j 2 lj] at h
  exact h
/-- The bytes of what 20 bytes are taken as. -/
theorem repLaid_taken {x : Nat → Nat} (hx : ∀ i, i < 20 → x i < 256) (i : Nat) (hi : i < 20) : repLaid (Crc.numTo x 8) (Crc.numTo (fun i => x (8 + i)) 4) (Crc.numTo (fun i => x (12 + i)) 4) (Crc.numTo (fun i => x (16 + i)) 2) (Crc.numTo (fun i => x (18 + i)) 2) i = x i := by
  by_cases g8 : i < 8
  · have e := repLaid_top (Crc.numTo x 8) (Crc.numTo (fun i => x (8 + i)) 4) (Crc.numTo (fun i => x (12 + i)) 4) (Crc.numTo (fun i => x (16 + i)) 2) (Crc.numTo (fun i => x (18 + i)) 2) i g8
    rw [Nat.zero_add] at e
    rw [e, high_numTo (fun j hj => hx j (by omega)) g8]
  by_cases g12 : i < 12
  · obtain ⟨q, rfl⟩ : ∃ q, i = 8 + q := ⟨i - 8, by omega⟩
    rw [repLaid_lost _ _ _ _ _ q (by omega), high_numTo (fun j hj => hx _ (by omega)) (by omega)]
  by_cases g16 : i < 16
  · obtain ⟨q, rfl⟩ : ∃ q, i = 12 + q := ⟨i - 12, by omega⟩
    rw [repLaid_got _ _ _ _ _ q (by omega), high_numTo (fun j hj => hx _ (by omega)) (by omega)]
  by_cases g18 : i < 18
  · obtain ⟨q, rfl⟩ : ∃ q, i = 16 + q := ⟨i - 16, by omega⟩
    rw [repLaid_burst _ _ _ _ _ q (by omega), high_numTo (fun j hj => hx _ (by omega)) (by omega)]
  · obtain ⟨q, rfl⟩ : ∃ q, i = 18 + q := ⟨i - 18, by omega⟩
    rw [repLaid_jitter _ _ _ _ _ q (by omega), high_numTo (fun j hj => hx _ (by omega)) (by omega)]

/-- A nack, and the error E, were answered. -/
def NackIs (w : World) (f k E : Nat) (e : Ending) (w' : World) : Prop := e = .returned (.tuple #[.int .u32 (f : Int), .int .u16 (k : Int), .int .i64 (E : Int)]) ∧ Below w.heap.size w w'
def NackTake (w : World) (n : Nat) (x : Nat → Nat) (e : Ending) (w' : World) : Prop := NackIs w (lenV 6 n (Crc.numTo x 4)) (lenV 6 n (Crc.numTo (fun i => x (4 + i)) 2)) (lenE 6 n) e w'
theorem NackTake.no {w w' : World} {n : Nat} {x : Nat → Nat} (h : n ≠ 6) (hb : Below w.heap.size w w') : NackTake w n x (.returned (.tuple #[.int .u32 0, .int .u16 0, .int .i64 2])) w' := by
  unfold NackTake
  rw [lenV_no _ h, lenV_no _ h, lenE_no h]
  exact ⟨rfl, hb⟩
theorem NackTake.yes {w w' : World} {f k : Nat} {x : Nat → Nat} (hf : f = Crc.numTo x 4) (hk : k = Crc.numTo (fun i => x (4 + i)) 2) (hb : Below w.heap.size w w') : NackTake w 6 x (.returned (.tuple #[.int .u32 (f : Int), .int .u16 (k : Int), .int .i64 0])) w' := by
  unfold NackTake
  rw [lenV_yes, lenV_yes, lenE_yes, ← hf, ← hk]
  exact ⟨rfl, hb⟩
theorem NackTake.some {w w' : World} {x : Nat → Nat} {e : Ending} (h : NackTake w 6 x e w') : NackIs w (Crc.numTo x 4) (Crc.numTo (fun i => x (4 + i)) 2) 0 e w' := by
  unfold NackTake at h
  rw [lenV_yes, lenV_yes, lenE_yes] at h
  exact h
theorem NackTake.none {w w' : World} {n : Nat} {x : Nat → Nat} {e : Ending} (h : NackTake w n x e w') (hn : n ≠ 6) : NackIs w 0 0 2 e w' := by
  unfold NackTake at h
  rw [lenV_no _ hn, lenV_no _ hn, lenE_no hn] at h
  exact h
theorem NackTake.ofPut {w w' : World} {f k : Nat} {e : Ending} (h : NackTake w 6 (nackLaid f k) e w') (lf : f < 4294967296) (lk : k < 65536) : NackIs w f k 0 e w' := by
  have h := h.some
  rw [numTo_congr 4 (fun i hi => nackLaid_frame f k i hi), numTo_congr 2 (y := high k 2) (fun i hi => nackLaid_need f k i hi), numTo_high f 4 lf, numTo_high k 2 lk] at h
  exact h
theorem nackLaid_taken {x : Nat → Nat} (hx : ∀ i, i < 6 → x i < 256) (i : Nat) (hi : i < 6) : nackLaid (Crc.numTo x 4) (Crc.numTo (fun i => x (4 + i)) 2) i = x i := by
  by_cases g4 : i < 4
  · rw [nackLaid_frame _ _ i g4, high_numTo (fun j hj => hx j (by omega)) g4]
  · obtain ⟨q, rfl⟩ : ∃ q, i = 4 + q := ⟨i - 4, by omega⟩
    rw [nackLaid_need _ _ q (by omega), high_numTo (fun j hj => hx _ (by omega)) (by omega)]
/-- A gone, and the error E, were answered. -/
def GoneIs (w : World) (f E : Nat) (e : Ending) (w' : World) : Prop := e = .returned (.tuple #[.int .u32 (f : Int), .int .i64 (E : Int)]) ∧ Below w.heap.size w w'
def GoneTake (w : World) (n : Nat) (x : Nat → Nat) (e : Ending) (w' : World) : Prop := GoneIs w (lenV 4 n (Crc.numTo x 4)) (lenE 4 n) e w'
theorem GoneTake.no {w w' : World} {n : Nat} {x : Nat → Nat} (h : n ≠ 4) (hb : Below w.heap.size w w') : GoneTake w n x (.returned (.tuple #[.int .u32 0, .int .i64 2])) w' := by
  unfold GoneTake
  rw [lenV_no _ h, lenE_no h]
  exact ⟨rfl, hb⟩
theorem GoneTake.yes {w w' : World} {f : Nat} {x : Nat → Nat} (hf : f = Crc.numTo x 4) (hb : Below w.heap.size w w') : GoneTake w 4 x (.returned (.tuple #[.int .u32 (f : Int), .int .i64 0])) w' := by
  unfold GoneTake
  rw [lenV_yes, lenE_yes, ← hf]
  exact ⟨rfl, hb⟩
theorem GoneTake.some {w w' : World} {x : Nat → Nat} {e : Ending} (h : GoneTake w 4 x e w') : GoneIs w (Crc.numTo x 4) 0 e w' := by
  unfold GoneTake at h
  rw [lenV_yes, lenE_yes] at h
  exact h
theorem GoneTake.none {w w' : World} {n : Nat} {x : Nat → Nat} {e : Ending} (h : GoneTake w n x e w') (hn : n ≠ 4) : GoneIs w 0 2 e w' := by
  unfold GoneTake at h
  rw [lenV_no _ hn, lenE_no hn] at h
  exact h
theorem GoneTake.ofPut {w w' : World} {f : Nat} {e : Ending} (h : GoneTake w 4 (goneLaid f) e w') (lf : f < 4294967296) : GoneIs w f 0 e w' := by
  have h := h.some
  rw [numTo_congr 4 (fun i _ => goneLaid_is f i), numTo_high f 4 lf] at h
  exact h
theorem goneLaid_taken {x : Nat → Nat} (hx : ∀ i, i < 4 → x i < 256) (i : Nat) (hi : i < 4) : goneLaid (Crc.numTo x 4) i = x i := by
  rw [goneLaid_is, high_numTo hx hi]
end Go.Proofs.Ytcflaklnafggmaa
