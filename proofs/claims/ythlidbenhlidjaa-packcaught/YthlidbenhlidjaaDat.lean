/-
  A symbol's data in memory, and as bytes.
-/
import Derived.Test.YthlidbenhlidjaaByt
namespace Go.Proofs.Ythlidbenhlidjaa
open Go.RowKit Go.Deep

/-- The block B holds data: Seq s, Stamp t, Frame f, Symbol y, Body (a, n, c). -/
structure DatAt (w : World) (B s t f y : Nat) (a : Option Addr) (n c : Nat) : Prop where
  c0 : w.cell? ⟨B, 0, none⟩ = some (.int .u16 (s : Int))
  c1 : w.cell? ⟨B, 1, none⟩ = some (.int .u16 (t : Int))
  c2 : w.cell? ⟨B, 2, none⟩ = some (.int .u32 (f : Int))
  c3 : w.cell? ⟨B, 3, none⟩ = some (.int .u16 (y : Int))
  c4 : w.cell? ⟨B, 4, none⟩ = some (.slice a n c)
  frz : ∀ i, w.frozen? ⟨B, i, none⟩ = false
theorem DatAt.made (w : World) (T : TypeId) (s t f y : Nat) (a : Option Addr) (n c : Nat) :
    DatAt (w.alloc (.cells #[.int .u16 (s : Int), .int .u16 (t : Int), .int .u32 (f : Int), .int .u16 (y : Int), .slice a n c] T)) w.heap.size s t f y a n c :=
  ⟨by rw [World.cell?_alloc_at _ _ _ _ rfl]; rfl, by rw [World.cell?_alloc_at _ _ _ _ rfl]; rfl, by rw [World.cell?_alloc_at _ _ _ _ rfl]; rfl, by rw [World.cell?_alloc_at _ _ _ _ rfl]; rfl, by rw [World.cell?_alloc_at _ _ _ _ rfl]; rfl,
   fun i => by rw [World.frozen?_alloc_at _ _ _ _ rfl]⟩
theorem DatAt.lt {w : World} {B s t f y : Nat} {a : Option Addr} {n c : Nat} (h : DatAt w B s t f y a n c) : B < w.heap.size := cell_lt h.c0
theorem DatAt.grew {w w' : World} {B s t f y : Nat} {a : Option Addr} {n c : Nat} (h : DatAt w B s t f y a n c) (hb : Below w.heap.size w w') : DatAt w' B s t f y a n c :=
  ⟨(hb.cell (p := ⟨B, 0, none⟩) h.lt).trans h.c0, (hb.cell (p := ⟨B, 1, none⟩) h.lt).trans h.c1, (hb.cell (p := ⟨B, 2, none⟩) h.lt).trans h.c2, (hb.cell (p := ⟨B, 3, none⟩) h.lt).trans h.c3, (hb.cell (p := ⟨B, 4, none⟩) h.lt).trans h.c4,
   fun i => (World.frozen?_of_block (a := ⟨B, i, none⟩) (hb.block B h.lt)).trans (h.frz i)⟩
theorem DatAt.seq {w : World} {B s t f y : Nat} {a : Option Addr} {n c : Nat} (h : DatAt w B s t f y a n c) (s' : Nat) : DatAt (w.setCell ⟨B, 0, none⟩ (.int .u16 (s' : Int))) B s' t f y a n c := by
  exact ⟨World.cell?_setCell_same _ _ _ h.c0, (World.cell?_setCell_other _ _ _ _ (by simp)).trans h.c1, (World.cell?_setCell_other _ _ _ _ (by simp)).trans h.c2, (World.cell?_setCell_other _ _ _ _ (by simp)).trans h.c3, (World.cell?_setCell_other _ _ _ _ (by simp)).trans h.c4, fun i => by rw [World.frozen?_setCell]; exact h.frz i⟩
theorem DatAt.stamp {w : World} {B s t f y : Nat} {a : Option Addr} {n c : Nat} (h : DatAt w B s t f y a n c) (t' : Nat) : DatAt (w.setCell ⟨B, 1, none⟩ (.int .u16 (t' : Int))) B s t' f y a n c := by
  exact ⟨(World.cell?_setCell_other _ _ _ _ (by simp)).trans h.c0, World.cell?_setCell_same _ _ _ h.c1, (World.cell?_setCell_other _ _ _ _ (by simp)).trans h.c2, (World.cell?_setCell_other _ _ _ _ (by simp)).trans h.c3, (World.cell?_setCell_other _ _ _ _ (by simp)).trans h.c4, fun i => by rw [World.frozen?_setCell]; exact h.frz i⟩
theorem DatAt.frame {w : World} {B s t f y : Nat} {a : Option Addr} {n c : Nat} (h : DatAt w B s t f y a n c) (f' : Nat) : DatAt (w.setCell ⟨B, 2, none⟩ (.int .u32 (f' : Int))) B s t f' y a n c := by
  exact ⟨(World.cell?_setCell_other _ _ _ _ (by simp)).trans h.c0, (World.cell?_setCell_other _ _ _ _ (by simp)).trans h.c1, World.cell?_setCell_same _ _ _ h.c2, (World.cell?_setCell_other _ _ _ _ (by simp)).trans h.c3, (World.cell?_setCell_other _ _ _ _ (by simp)).trans h.c4, fun i => by rw [World.frozen?_setCell]; exact h.frz i⟩
theorem DatAt.symbol {w : World} {B s t f y : Nat} {a : Option Addr} {n c : Nat} (h : DatAt w B s t f y a n c) (y' : Nat) : DatAt (w.setCell ⟨B, 3, none⟩ (.int .u16 (y' : Int))) B s t f y' a n c := by
  exact ⟨(World.cell?_setCell_other _ _ _ _ (by simp)).trans h.c0, (World.cell?_setCell_other _ _ _ _ (by simp)).trans h.c1, (World.cell?_setCell_other _ _ _ _ (by simp)).trans h.c2, World.cell?_setCell_same _ _ _ h.c3, (World.cell?_setCell_other _ _ _ _ (by simp)).trans h.c4, fun i => by rw [World.frozen?_setCell]; exact h.frz i⟩
theorem DatAt.body {w : World} {B s t f y : Nat} {a : Option Addr} {n c : Nat} (h : DatAt w B s t f y a n c) (r : Option Addr) (m d : Nat) : DatAt (w.setCell ⟨B, 4, none⟩ (.slice r m d)) B s t f y r m d := by
  exact ⟨(World.cell?_setCell_other _ _ _ _ (by simp)).trans h.c0, (World.cell?_setCell_other _ _ _ _ (by simp)).trans h.c1, (World.cell?_setCell_other _ _ _ _ (by simp)).trans h.c2, (World.cell?_setCell_other _ _ _ _ (by simp)).trans h.c3, World.cell?_setCell_same _ _ _ h.c4, fun i => by rw [World.frozen?_setCell]; exact h.frz i⟩
theorem DatAt.other {w : World} {B s t f y : Nat} {a : Option Addr} {n c : Nat} (h : DatAt w B s t f y a n c) {R i : Nat} (v : Value) (hne : R ≠ B) : DatAt (w.setCell ⟨R, i, none⟩ v) B s t f y a n c := by
  have e : ∀ j, (⟨R, i, none⟩ : Addr) ≠ ⟨B, j, none⟩ := fun j e => hne (Addr.mk.inj e).1
  exact ⟨(World.cell?_setCell_other _ _ _ _ (e _)).trans h.c0, (World.cell?_setCell_other _ _ _ _ (e _)).trans h.c1, (World.cell?_setCell_other _ _ _ _ (e _)).trans h.c2, (World.cell?_setCell_other _ _ _ _ (e _)).trans h.c3, (World.cell?_setCell_other _ _ _ _ (e _)).trans h.c4, fun i => by rw [World.frozen?_setCell]; exact h.frz i⟩

/-- The bytes that data are. -/
def laid (s t f y : Nat) (x : Nat → Nat) : Nat → Nat := cat (cat (cat (cat (cat (fun _ => 0) (high s 2) 0) (high t 2) 2) (high f 4) 4) (high y 2) 8) x 10
theorem laid_lt {s t f y n : Nat} {x : Nat → Nat} (hx : ∀ i, i < n → x i < 256) (i : Nat) (hi : i < 10 + n) : laid s t f y x i < 256 := by
  unfold laid cat
  repeat' split
  all_goals first | exact high_lt _ _ _ | exact hx _ (by omega) | omega
theorem laid_seq (s t f y : Nat) (x : Nat → Nat) (i : Nat) (h : i < 2) : laid s t f y x i = high s 2 i := by
  unfold laid cat
  rw [if_pos (by omega), if_pos (by omega), if_pos (by omega), if_pos (by omega), if_neg (by omega)]; rfl
theorem laid_stamp (s t f y : Nat) (x : Nat → Nat) (i : Nat) (h : i < 2) : laid s t f y x (2 + i) = high t 2 i := by
  unfold laid cat
  rw [if_pos (by omega), if_pos (by omega), if_pos (by omega), if_neg (by omega), Nat.add_sub_cancel_left]
theorem laid_frame (s t f y : Nat) (x : Nat → Nat) (i : Nat) (h : i < 4) : laid s t f y x (4 + i) = high f 4 i := by
  unfold laid cat
  rw [if_pos (by omega), if_pos (by omega), if_neg (by omega), Nat.add_sub_cancel_left]
theorem laid_symbol (s t f y : Nat) (x : Nat → Nat) (i : Nat) (h : i < 2) : laid s t f y x (8 + i) = high y 2 i := by
  unfold laid cat
  rw [if_pos (by omega), if_neg (by omega), Nat.add_sub_cancel_left]
theorem laid_body (s t f y : Nat) (x : Nat → Nat) (i : Nat) : laid s t f y x (10 + i) = x i := by
  unfold laid cat
  rw [if_neg (by omega), Nat.add_sub_cancel_left]

/-- Which bodies may be. -/
def fitB (n : Nat) : Bool := decide (1 ≤ n ∧ n ≤ 64)
/-- How many bytes Put tells, and its error. -/
def putN (n : Nat) : Nat := if fitB n then 10 + n else 0
def putE (n : Nat) : Nat := if fitB n then 0 else 4
theorem fit_yes {n : Nat} (h1 : 1 ≤ n) (h2 : n ≤ 64) : fitB n = true := decide_eq_true ⟨h1, h2⟩
theorem fit_no {n : Nat} (h : ¬ (1 ≤ n ∧ n ≤ 64)) : fitB n = false := decide_eq_false h
theorem put_fit {n : Nat} (h : fitB n = true) : putN n = 10 + n ∧ putE n = 0 := by unfold putN putE; rw [h]; exact ⟨rfl, rfl⟩
theorem put_unfit {n : Nat} (h : fitB n = false) : putN n = 0 ∧ putE n = 4 := by unfold putN putE; rw [h]; exact ⟨rfl, rfl⟩
/-- k bytes z in new memory, and the error E, were answered. -/
def PutIs (w : World) (k : Nat) (z : Nat → Nat) (E : Nat) (e : Ending) (w' : World) : Prop :=
  ∃ r c, e = .returned (.tuple #[.slice r k c, .int .i64 (E : Int)]) ∧ k ≤ c ∧ (0 < k → ∃ g, r = some ⟨g, 0, none⟩ ∧ w.heap.size ≤ g) ∧ BytesAt w' r k z ∧ Below w.heap.size w w'
theorem PutIs.no {w w' : World} {z : Nat → Nat} (h : Below w.heap.size w w') : PutIs w 0 z 4 (.returned (.tuple #[.slice none 0 0, .int .i64 4])) w' :=
  ⟨none, 0, rfl, Nat.le_refl _, fun h => absurd h (by omega), nil_bytes _ _, h⟩

/-- May n bytes be data? What they tell. -/
def tkB (n : Nat) : Bool := decide (11 ≤ n ∧ n ≤ 74)
def tkV (n v : Nat) : Nat := if tkB n then v else 0
def tkE (n : Nat) : Nat := if tkB n then 0 else 2
theorem tk_yes {n : Nat} (h1 : 11 ≤ n) (h2 : n ≤ 74) : tkB n = true := decide_eq_true ⟨h1, h2⟩
theorem tk_no {n : Nat} (h : ¬ (11 ≤ n ∧ n ≤ 74)) : tkB n = false := decide_eq_false h
theorem tkV_yes {n v : Nat} (h : tkB n = true) : tkV n v = v := by unfold tkV; rw [h]; rfl
theorem tkV_no {n v : Nat} (h : tkB n = false) : tkV n v = 0 := by unfold tkV; rw [h]; rfl
/-- Data, its body of k bytes z in new memory, and the error E, were answered. -/
def DatIs (w : World) (s t f y k : Nat) (z : Nat → Nat) (E : Nat) (e : Ending) (w' : World) : Prop :=
  ∃ r c, e = .returned (.tuple #[.agg #[.int .u16 (s : Int), .int .u16 (t : Int), .int .u32 (f : Int), .int .u16 (y : Int), .slice r k c], .int .i64 (E : Int)]) ∧ k ≤ c ∧ (0 < k → ∃ g, r = some ⟨g, 0, none⟩ ∧ w.heap.size ≤ g) ∧ BytesAt w' r k z ∧ Below w.heap.size w w'
/-- What n bytes x are taken as. -/
def TakeIs (w : World) (n : Nat) (x : Nat → Nat) (e : Ending) (w' : World) : Prop :=
  DatIs w (tkV n (Crc.numTo x 2)) (tkV n (Crc.numTo (fun i => x (2 + i)) 2)) (tkV n (Crc.numTo (fun i => x (4 + i)) 4)) (tkV n (Crc.numTo (fun i => x (8 + i)) 2)) (tkV n (n - 10)) (fun i => x (10 + i)) (tkE n) e w'
theorem TakeIs.no {w w' : World} {n : Nat} {x : Nat → Nat} (h : ¬ (11 ≤ n ∧ n ≤ 74)) (hb : Below w.heap.size w w') : TakeIs w n x (.returned (.tuple #[.agg #[.int .u16 0, .int .u16 0, .int .u32 0, .int .u16 0, .slice none 0 0], .int .i64 2])) w' := by
  have e := tk_no h
  unfold TakeIs tkE
  rw [tkV_no e, tkV_no e, tkV_no e, tkV_no e, tkV_no e, e]
  exact ⟨none, 0, rfl, Nat.le_refl _, fun h => absurd h (by omega), nil_bytes _ _, hb⟩
theorem TakeIs.yes {w w' : World} {n s t f y c : Nat} {x : Nat → Nat} {r : Option Addr} (h1 : 11 ≤ n) (h2 : n ≤ 74) (hs : s = Crc.numTo x 2) (ht : t = Crc.numTo (fun i => x (2 + i)) 2) (hf : f = Crc.numTo (fun i => x (4 + i)) 4) (hy : y = Crc.numTo (fun i => x (8 + i)) 2)
    (hc : n - 10 ≤ c) (hg : ∃ g, r = some ⟨g, 0, none⟩ ∧ w.heap.size ≤ g) (hB : BytesAt w' r (n - 10) (fun i => x (10 + i))) (hb : Below w.heap.size w w') : TakeIs w n x (.returned (.tuple #[.agg #[.int .u16 (s : Int), .int .u16 (t : Int), .int .u32 (f : Int), .int .u16 (y : Int), .slice r (n - 10) c], .int .i64 0])) w' := by
  have e := tk_yes h1 h2
  unfold TakeIs tkE
  rw [tkV_yes e, tkV_yes e, tkV_yes e, tkV_yes e, tkV_yes e, e, ← hs, ← ht, ← hf, ← hy]
  exact ⟨r, c, rfl, hc, fun _ => hg, hB, hb⟩
/-- What is put is taken. -/
theorem TakeIs.ofPut {w w' : World} {n s t f y : Nat} {x : Nat → Nat} {e : Ending} (h : TakeIs w (10 + n) (laid s t f y x) e w') (n1 : 1 ≤ n) (n2 : n ≤ 64) (ls : s < 65536) (lt : t < 65536) (lf : f < 4294967296) (ly : y < 65536) : DatIs w s t f y n x 0 e w' := by
  have q := tk_yes (n := 10 + n) (by omega) (by omega)
  have hE : tkE (10 + n) = 0 := by unfold tkE; rw [q]; rfl
  unfold TakeIs at h
  rw [tkV_yes q, tkV_yes q, tkV_yes q, tkV_yes q, tkV_yes q, hE, Nat.add_sub_cancel_left,
    numTo_congr 2 (fun i hi => laid_seq s t f y x i hi), numTo_congr 2 (y := high t 2) (fun i hi => laid_stamp s t f y x i hi), numTo_congr 4 (y := high f 4) (fun i hi => laid_frame s t f y x i hi), numTo_congr 2 (y := high y 2) (fun i hi => laid_symbol s t f y x i hi),
    numTo_high s 2 ls, numTo_high t 2 lt, numTo_high f 4 lf, numTo_high y 2 ly, show (fun i => laid s t f y x (10 + i)) = x from funext fun i => laid_body s t f y x i] at h
  exact h
theorem TakeIs.none {w w' : World} {n : Nat} {x : Nat → Nat} {e : Ending} (h : TakeIs w n x e w') (hn : ¬ (11 ≤ n ∧ n ≤ 74)) : DatIs w 0 0 0 0 0 (fun i => x (10 + i)) 2 e w' := by
  have q := tk_no hn
  have hE : tkE n = 2 := by unfold tkE; rw [q]; rfl
  unfold TakeIs at h
  rw [tkV_no q, tkV_no q, tkV_no q, tkV_no q, tkV_no q, hE] at h
  exact h
theorem TakeIs.some {w w' : World} {n : Nat} {x : Nat → Nat} {e : Ending} (h : TakeIs w n x e w') (h1 : 11 ≤ n) (h2 : n ≤ 74) :
    DatIs w (Crc.numTo x 2) (Crc.numTo (fun i => x (2 + i)) 2) (Crc.numTo (fun i => x (4 + i)) 4) (Crc.numTo (fun i => x (8 + i)) 2) (n - 10) (fun i => x (10 + i)) 0 e w' := by
  have q := tk_yes h1 h2
  have hE : tkE n = 0 := by unfold tkE; rw [q]; rfl
  unfold TakeIs at h
  rw [tkV_yes q, tkV_yes q, tkV_yes q, tkV_yes q, tkV_yes q, hE] at h
  exact h
/-- The bytes of what n bytes are taken as. -/
theorem laid_taken {x : Nat → Nat} {n : Nat} (h1 : 10 ≤ n) (hx : ∀ i, i < n → x i < 256) (i : Nat) : laid (Crc.numTo x 2) (Crc.numTo (fun i => x (2 + i)) 2) (Crc.numTo (fun i => x (4 + i)) 4) (Crc.numTo (fun i => x (8 + i)) 2) (fun i => x (10 + i)) i = x i := by
  by_cases g10 : i < 10
  · by_cases g8 : i < 8
    · by_cases g4 : i < 4
      · by_cases g2 : i < 2
        · rw [laid_seq _ _ _ _ _ i g2, high_numTo (fun j hj => hx j (by omega)) g2]
        · obtain ⟨j, rfl⟩ : ∃ j, i = 2 + j := ⟨i - 2, by omega⟩
          rw [laid_stamp _ _ _ _ _ j (by omega), high_numTo (fun j hj => hx _ (by omega)) (by omega)]
      · obtain ⟨j, rfl⟩ : ∃ j, i = 4 + j := ⟨i - 4, by omega⟩
        rw [laid_frame _ _ _ _ _ j (by omega), high_numTo (fun j hj => hx _ (by omega)) (by omega)]
    · obtain ⟨j, rfl⟩ : ∃ j, i = 8 + j := ⟨i - 8, by omega⟩
      rw [laid_symbol _ _ _ _ _ j (by omega), high_numTo (fun j hj => hx _ (by omega)) (by omega)]
  · obtain ⟨j, rfl⟩ : ∃ j, i = 10 + j := ⟨i - 10, by omega⟩
    rw [laid_body]
end Go.Proofs.Ythlidbenhlidjaa
