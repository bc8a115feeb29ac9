/-
  The document's Ledger in memory: NewLedger, Left, Close.
-/
import Derived.Test.YtjmfhkpaloipkaaLg0
import Derived.Test.YtjmfhkpaloipkaaMpi
namespace Go.Proofs.Ytjmfhkpaloipkaa
open Go.RowKit Go.Deep Go.Maps

/-- How many symbols an open frame has; nought of one that is not open. -/
def Lg.kk : Option (Nat × Nat) → Nat
  | some p => p.1
  | none => 0
/-- Block r is the document's Ledger, its maps bk and bn. -/
structure RLedAt (w : World) (r bk bn t : Nat) (G : Lg.St) : Prop where
  cK : w.cell? ⟨r, 0, none⟩ = some (.map (some bk))
  cN : w.cell? ⟨r, 1, none⟩ = some (.map (some bn))
  maps : ∃ FK FN, IdxAt w bk t FK ∧ IdxAt w bn t FN ∧ (∀ x, FK x = (G x).map Prod.fst) ∧ ∀ x p, G x = some p → FN x = some p.2
  wf : Lg.Wf G
  n1 : r ≠ bk
  n2 : r ≠ bn
  n3 : bk ≠ bn
theorem RLedAt.lt {w : World} {r bk bn t : Nat} {G : Lg.St} (h : RLedAt w r bk bn t G) : r < w.heap.size ∧ bk < w.heap.size ∧ bn < w.heap.size := by
  obtain ⟨FK, FN, h1, h2, -⟩ := h.maps
  exact ⟨cell_lt h.cK, h1.lt, h2.lt⟩
theorem RLedAt.kept {w w' : World} {r bk bn t : Nat} {G : Lg.St} {F : Nat → Prop} (h : RLedAt w r bk bn t G) (k : KeptF F w w') (h1 : ¬ F r) (h2 : ¬ F bk) (h3 : ¬ F bn) : RLedAt w' r bk bn t G := by
  obtain ⟨l1, l2, l3⟩ := h.lt
  obtain ⟨FK, FN, m1, m2, m3⟩ := h.maps
  exact ⟨(World.cell?_of_block (k.block r l1 h1)).trans h.cK, (World.cell?_of_block (k.block r l1 h1)).trans h.cN, ⟨FK, FN, m1.block (k.block bk l2 h2), m2.block (k.block bn l3 h3), m3⟩, h.wf, h.n1, h.n2, h.n3⟩
theorem RLedAt.mono {w : World} {r bk bn t t' : Nat} {G : Lg.St} (h : RLedAt w r bk bn t G) (ht : t ≤ t') : RLedAt w r bk bn t' G := by
  obtain ⟨FK, FN, m1, m2, m3⟩ := h.maps
  exact ⟨h.cK, h.cN, ⟨FK, FN, m1.mono ht, m2.mono ht, m3⟩, h.wf, h.n1, h.n2, h.n3⟩
theorem RLedAt.grew {w w' : World} {r bk bn t : Nat} {G : Lg.St} (h : RLedAt w r bk bn t G) (k : Below w.heap.size w w') : RLedAt w' r bk bn t G :=
  h.kept (F := fun _ => False) (KeptF.of_below k) id id id
theorem RLedAt.lookK {w : World} {r bk bn t x : Nat} {G : Lg.St} (h : RLedAt w r bk bn t G) (hx : x < 4294967296) :
    (Instr.lookup 43 (.map (some bk)) (.int .u32 (x : Int)) false).run Try.prog w = .ok (.int .i64 (Lg.kk (G x) : Int)) w := by
  obtain ⟨FK, FN, m1, -, m3, -⟩ := h.maps
  have := m1.read hx
  rw [m3 x] at this
  rw [this]
  cases G x <;> rfl
theorem RLedAt.lookN {w : World} {r bk bn t x : Nat} {p : Nat × Nat} {G : Lg.St} (h : RLedAt w r bk bn t G) (hx : x < 4294967296) (hp : G x = some p) :
    (Instr.lookup 43 (.map (some bn)) (.int .u32 (x : Int)) false).run Try.prog w = .ok (.int .i64 (p.2 : Int)) w := by
  obtain ⟨FK, FN, -, m2, -, m4⟩ := h.maps
  exact m2.plain hx (m4 x p hp)
/-- What the document's Ledger may write. -/
def RLedOwn (bk bn : Nat) (i : Nat) : Prop := i = bk ∨ i = bn

set_option maxRecDepth 100000 in
set_option maxHeartbeats 400000 in
theorem rlnew_any (w : World) :
    Calls Try.prog 9 #[] w fun e w' => ∃ r bk bn, e = .returned (.pointer (some ⟨r, 0, none⟩)) ∧ RLedAt w' r bk bn 0 (fun _ => none) ∧ Below w.heap.size w w' ∧ w.heap.size ≤ r ∧ w.heap.size ≤ bk ∧ w.heap.size ≤ bn := by
  have mk : ∀ u : World, (Instr.makeMap 43 none).run Try.prog u = .ok (.map (some u.heap.size)) (u.alloc (.map #[] 0)) := fun u => by simp [Instr.makeMap, Result.andThen]
  have k1 := mk w
  have k2 := mk (w.alloc (.map #[] 0))
  go_enter Try.func9, Try.ntmps9
  go_wp2
  go_ret
  have s1 : (w.alloc (Obj.map #[] 0)).heap.size = w.heap.size + 1 := by simp
  have s2 : ((w.alloc (Obj.map #[] 0)).alloc (Obj.map #[] 0)).heap.size = w.heap.size + 1 + 1 := by simp
  have a1 : Below w.heap.size w (w.alloc (Obj.map #[] 0)) := (Below.refl _ _).alloc (Nat.le_refl _) _
  have a2 : Below (w.alloc (Obj.map #[] 0)).heap.size (w.alloc (Obj.map #[] 0)) ((w.alloc (Obj.map #[] 0)).alloc (Obj.map #[] 0)) := (Below.refl _ _).alloc (Nat.le_refl _) _
  have m1 := IdxAt.made w
  have m2 := IdxAt.made (w.alloc (Obj.map #[] 0))
  rw [s1] at m2
  generalize (w.alloc (Obj.map #[] 0)).alloc (Obj.map #[] 0) = W at *
  have m1' := m1.below (B := (w.alloc (Obj.map #[] 0)).heap.size) a2 (Nat.le_refl _)
  have a3 : Below W.heap.size W (W.alloc (Obj.cells #[Value.map (some w.heap.size), Value.map (some (w.heap.size + 1))] 45)) := (Below.refl _ _).alloc (Nat.le_refl _) _
  refine ⟨w.heap.size + 1 + 1, w.heap.size, w.heap.size + 1, rfl, ⟨?_, ?_, ⟨_, _, m1'.below a3 (Nat.le_refl _), m2.below a3 (Nat.le_refl _), fun _ => rfl, fun _ _ e => by cases e⟩, Lg.wf_none, by omega, by omega, by omega⟩, (a1.trans (a2.mono a1.size)).trans (a3.mono (by rw [s2]; omega)), by omega, Nat.le_refl _, by omega⟩
  · rw [← s2, World.cell?_alloc_at _ _ _ _ rfl]; rfl
  · rw [← s2, World.cell?_alloc_at _ _ _ _ rfl]; rfl
set_option maxRecDepth 100000 in
set_option maxHeartbeats 400000 in
theorem rlleft_none (r bk bn t x : Nat) (G : Lg.St) (w : World) (h : RLedAt w r bk bn t G) (hx : x < 4294967296) (g : G x = none) :
    Calls Try.prog 17 #[.pointer (some ⟨r, 0, none⟩), .int .u32 (x : Int)] w fun e w' => e = .returned (.int .i64 0) ∧ w' = w := by
  have hl := h.lookK hx
  rw [g] at hl
  have hl' : (Instr.lookup 43 (.map (some bk)) (.int .u32 (x : Int)) false).run Try.prog w = .ok (.int .i64 0) w := hl
  have hc := h.cK
  clear h hl
  go_enter Try.func17, Try.ntmps17
  go_wp2
  go_ret
  exact ⟨rfl, rfl⟩
set_option maxRecDepth 100000 in
set_option maxHeartbeats 400000 in
theorem rlleft_some (r bk bn t x k n : Nat) (G : Lg.St) (w : World) (h : RLedAt w r bk bn t G) (hx : x < 4294967296) (g : G x = some (k, n)) :
    Calls Try.prog 17 #[.pointer (some ⟨r, 0, none⟩), .int .u32 (x : Int)] w fun e w' => e = .returned (.int .i64 ((64 - n : Nat) : Int)) ∧ w' = w := by
  have hl := h.lookK hx
  rw [g] at hl
  have hl' : (Instr.lookup 43 (.map (some bk)) (.int .u32 (x : Int)) false).run Try.prog w = .ok (.int .i64 (k : Int)) w := hl
  have hn : (Instr.lookup 43 (.map (some bn)) (.int .u32 (x : Int)) false).run Try.prog w = .ok (.int .i64 (n : Int)) w := h.lookN hx g
  have hc := h.cK
  have hd := h.cN
  obtain ⟨w1, w2, w3⟩ := h.wf x k n g
  have z : ((k : Int) == 0) = false := by simp; omega
  have m : IntKind.i64.wrap (64 - (n : Int)) = ((64 - n : Nat) : Int) := by simp [IntKind.wrap, IntKind.bits, IntKind.signed]; omega
  clear h hl w1 w2 w3
  go_enter Try.func17, Try.ntmps17
  go_wp2
  go_ret
  exact ⟨rfl, rfl⟩
theorem rlleft_any (r bk bn t x : Nat) (G : Lg.St) (w : World) (h : RLedAt w r bk bn t G) (hx : x < 4294967296) :
    Calls Try.prog 17 #[.pointer (some ⟨r, 0, none⟩), .int .u32 (x : Int)] w fun e w' => e = .returned (.int .i64 (Lg.lft (G x) : Int)) ∧ w' = w := by
  cases g : G x with
  | none => exact rlleft_none r bk bn t x G w h hx g
  | some p => exact rlleft_some r bk bn t x p.1 p.2 G w h hx g
set_option maxRecDepth 100000 in
set_option maxHeartbeats 400000 in
theorem rlclose_any (r bk bn t x : Nat) (G : Lg.St) (w : World) (h : RLedAt w r bk bn t G) (hx : x < 4294967296) :
    Calls Try.prog 13 #[.pointer (some ⟨r, 0, none⟩), .int .u32 (x : Int)] w fun e w' => e = .returned (.bool (G x).isSome) ∧ RLedAt w' r bk bn t (Lg.put G x none) ∧ KeptF (RLedOwn bk bn) w w' := by
  have hl := h.lookK hx
  have hc := h.cK
  have q : decide (0 < Lg.kk (G x)) = (G x).isSome := by
    cases g : G x with
    | none => rfl
    | some p => have := h.wf x p.1 p.2 g; exact decide_eq_true (by show 0 < p.1; omega)
  have q' : decide (0 < (Lg.kk (G x) : Int)) = (G x).isSome := by rw [← q]; simp
  obtain ⟨FK, FN, m1, m2, m3, m4⟩ := h.maps
  obtain ⟨w2, d1, d2, d3, d4⟩ := m1.drop 0 hx
  obtain ⟨l1, l2, l3⟩ := h.lt
  have K1 : KeptF (RLedOwn bk bn) w w2 := KeptF.of_grown d3 fun R e => .inl (Option.some.inj e).symm
  have b1 := d3.block r l1 fun e => h.n1 (Option.some.inj e)
  have HE : Hid (RLedAt w2 r bk bn t (Lg.put G x none) ∧ KeptF (RLedOwn bk bn) w w2) := by
    refine ⟨⟨(World.cell?_of_block b1).trans h.cK, (World.cell?_of_block b1).trans h.cN, ⟨_, FN, d2, m2.block (d3.block bn l3 fun e => h.n3 (Option.some.inj e).symm), fun y => ?_, fun y p hy => ?_⟩, Lg.wf_put h.wf x none fun _ _ q => (by cases q), h.n1, h.n2, h.n3⟩, K1⟩
    · by_cases e : y = x
      · subst e; rw [Lg.put_same, if_pos rfl]; rfl
      · rw [Lg.put_other _ _ e, if_neg e]; exact m3 y
    · by_cases e : y = x
      · subst e; rw [Lg.put_same] at hy; cases hy
      · rw [Lg.put_other _ _ e] at hy; exact m4 y p hy
  generalize (G x).isSome = A at *
  generalize Lg.kk (G x) = kx at *
  clear h m1 m2 m3 m4 d2 d3 d4 K1 b1
  go_enter Try.func13, Try.ntmps13
  go_wp2
  go_ret
  exact ⟨rfl, HE.out⟩
end Go.Proofs.Ytjmfhkpaloipkaa
