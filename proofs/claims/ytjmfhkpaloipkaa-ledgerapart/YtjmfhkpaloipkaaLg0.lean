/-
  Package ledger's memory: a map from frames to what is left of each, which may be nil, and a Ledger.
-/
import Derived.Test.YtjmfhkpaloipkaaMky
namespace Go.Proofs.Ytjmfhkpaloipkaa
open Go.RowKit Go.Deep Go.Maps

namespace Lg
/-- Which frames are open: of how many symbols, and how many were told. -/
abbrev St := Nat → Option (Nat × Nat)
def nxt : Option (Nat × Nat) → Nat
  | some (k, n) => k + n
  | none => 0
def lft : Option (Nat × Nat) → Nat
  | some (_, n) => 64 - n
  | none => 0
def told : Option (Nat × Nat) → Option (Nat × Nat)
  | some (k, n) => some (k, n + 1)
  | none => none
def put (G : St) (f : Nat) (o : Option (Nat × Nat)) : St := fun y => if y = f then o else G y
/-- May frame f be opened with k symbols? -/
def okay (o : Option (Nat × Nat)) (k : Int) : Bool := o.isNone && decide (1 ≤ k) && decide (k ≤ 32)
def opened (G : St) (f : Nat) (k : Int) : St := if okay (G f) k then put G f (some (k.toNat, 0)) else G
def next (G : St) (f : Nat) : St := if lft (G f) = 0 then G else put G f (told (G f))
def ans (o : Option (Nat × Nat)) : Nat := if lft o = 0 then 0 else nxt o
def yes (o : Option (Nat × Nat)) : Bool := decide (0 < lft o)
def Wf (G : St) : Prop := ∀ x k n, G x = some (k, n) → 1 ≤ k ∧ k ≤ 32 ∧ n ≤ 64
theorem put_same (G : St) (f : Nat) (o : Option (Nat × Nat)) : put G f o f = o := if_pos rfl
theorem put_other (G : St) {f y : Nat} (o : Option (Nat × Nat)) (h : y ≠ f) : put G f o y = G y := if_neg h
theorem lft_le (o : Option (Nat × Nat)) : lft o ≤ 64 := by
  cases o with
  | none => exact Nat.zero_le _
  | some p => exact Nat.sub_le _ _
theorem nxt_le {G : St} (h : Wf G) (f : Nat) : nxt (G f) ≤ 96 := by
  cases e : G f with
  | none => exact Nat.zero_le _
  | some p =>
    have := h f p.1 p.2 e
    show p.1 + p.2 ≤ 96
    omega
theorem wf_none : Wf fun _ => none := fun _ _ _ h => by cases h
theorem wf_put {G : St} (h : Wf G) (f : Nat) (o : Option (Nat × Nat)) (ho : ∀ k n, o = some (k, n) → 1 ≤ k ∧ k ≤ 32 ∧ n ≤ 64) : Wf (put G f o) := by
  intro x k n e
  by_cases g : x = f
  · subst g; rw [put_same] at e; exact ho k n e
  · rw [put_other G o g] at e; exact h x k n e
theorem wf_opened {G : St} (h : Wf G) (f : Nat) (k : Int) : Wf (opened G f k) := by
  unfold opened
  split
  · rename_i e
    refine wf_put h f _ fun a b q => ?_
    simp [okay] at e
    cases q
    omega
  · exact h
theorem told_wf {G : St} (h : Wf G) (f : Nat) (h0 : ¬ lft (G f) = 0) : ∀ k n, told (G f) = some (k, n) → 1 ≤ k ∧ k ≤ 32 ∧ n ≤ 64 := by
  intro k n q
  cases g : G f with
  | none => rw [g] at q; cases q
  | some p =>
    rw [g] at q h0
    have := h f p.1 p.2 g
    have h1 : ¬ 64 - p.2 = 0 := h0
    cases q
    omega
theorem wf_next {G : St} (h : Wf G) (f : Nat) : Wf (next G f) := by
  unfold next
  split
  · exact h
  · rename_i e
    exact wf_put h f _ (told_wf h f e)
theorem nxt_told {o : Option (Nat × Nat)} (h : ¬ lft o = 0) : nxt (told o) = nxt o + 1 := by
  cases o with
  | none => exact absurd rfl h
  | some p => show p.1 + (p.2 + 1) = p.1 + p.2 + 1; omega
theorem lft_told {o : Option (Nat × Nat)} (h : ¬ lft o = 0) : lft (told o) = lft o - 1 := by
  cases o with
  | none => exact absurd rfl h
  | some p => show 64 - (p.2 + 1) = 64 - p.2 - 1; omega
theorem told_some {o : Option (Nat × Nat)} (h : ¬ lft o = 0) : (told o).isSome = true := by
  cases o with
  | none => exact absurd rfl h
  | some p => rfl
end Lg

theorem Try.zeroSym (w : World) : (zeroValue 47).run Try.prog w = .ok (.agg #[.int .i64 0, .int .i64 0]) w := by kernel_rfl

/-- How an element reads: two numbers. -/
def symElem : Value → Option (DataW Unit × List MemPlace)
  | .agg cs => match cs.toList with
    | [.int .i64 a, .int .i64 b] => some (.agg [.lit (.int .i64 a), .lit (.int .i64 b)], [])
    | _ => none
  | _ => none
def symEnc (o : Option (Nat × Nat)) : DataW Unit := .agg [.lit (.int .i64 (Lg.nxt o : Int)), .lit (.int .i64 (Lg.lft o : Int))]
def symVal (o : Option (Nat × Nat)) : Value := .agg #[.int .i64 (Lg.nxt o : Int), .int .i64 (Lg.lft o : Int)]
theorem symElem_mk (o : Option (Nat × Nat)) : symElem (symVal o) = some (symEnc o, []) := rfl
theorem symElem_inv {v : Value} {o : Option (Nat × Nat)} {ps : List MemPlace} (h : symElem v = some (symEnc o, ps)) : v = symVal o := by
  unfold symElem at h
  cases v <;> try (simp at h; done)
  rename_i cs
  simp only at h
  split at h
  · rename_i a b e
    simp [symEnc] at h
    obtain ⟨⟨h1, h2⟩, -⟩ := h
    have e' : cs = #[.int .i64 a, .int .i64 b] := Array.ext' e
    rw [e', h1, h2]
    rfl
  · cases h

/-- Block b is a map of symbols. -/
def SymAt (w : World) (b t : Nat) (G : Lg.St) : Prop :=
  ∃ D : DataW Unit, w.ownsMap Try.prog 28 symElem b t D ∧ ∀ x : Nat, x < 4294967296 → Maps.has D (.int .u32 (x : Int)) = (G x).isSome ∧ D.atKey (.int .u32 (x : Int)) (symEnc none) = symEnc (G x)
theorem SymAt.made (w : World) : SymAt (w.alloc (.map #[] 0)) w.heap.size 0 (fun _ => none) := ⟨_, World.ownsMap_made w _ _ _, fun _ _ => ⟨rfl, rfl⟩⟩
theorem SymAt.lt {w : World} {b t : Nat} {G : Lg.St} (h : SymAt w b t G) : b < w.heap.size := by
  obtain ⟨D, h, -⟩ := h
  exact h.lt
theorem SymAt.block {w w' : World} {b t : Nat} {G : Lg.St} (h : SymAt w b t G) (e : w'.heap[b]? = w.heap[b]?) : SymAt w' b t G := by
  obtain ⟨D, ⟨es, clock, hb, h⟩, hf⟩ := h
  exact ⟨D, ⟨es, clock, e.trans hb, h⟩, hf⟩
theorem SymAt.look_ok {w : World} {b t x : Nat} {G : Lg.St} (h : SymAt w b t G) (hx : x < 4294967296) :
    (Instr.lookup 40 (.map (some b)) (.int .u32 (x : Int)) true).run Try.prog w = .ok (.tuple #[symVal (G x), .bool (G x).isSome]) w := by
  obtain ⟨D, h, hf⟩ := h
  obtain ⟨v, ps, hrun, hv⟩ := h.look_ok Try.keyU32 Try.underlying40 (Try.zeroSym w) (symElem_mk none) (key_u32 x hx)
  obtain ⟨f1, f2⟩ := hf x hx
  rw [f2] at hv
  rw [hrun, f1, symElem_inv hv]
theorem SymAt.look {w : World} {b t x : Nat} {G : Lg.St} (h : SymAt w b t G) (hx : x < 4294967296) :
    (Instr.lookup 40 (.map (some b)) (.int .u32 (x : Int)) false).run Try.prog w = .ok (symVal (G x)) w := by
  obtain ⟨D, h, hf⟩ := h
  obtain ⟨v, ps, hrun, hv⟩ := h.lookup Try.keyU32 Try.underlying40 (Try.zeroSym w) (symElem_mk none) (key_u32 x hx)
  rw [(hf x hx).2] at hv
  rw [hrun, symElem_inv hv]
theorem SymAt.put {w : World} {b t x : Nat} {G : Lg.St} {o : Option (Nat × Nat)} (h : SymAt w b t G) (hx : x < 4294967296) (ho : o.isSome = true) (ht : t ≤ 1000000) :
    ∃ w', (Instr.mapUpdate 40 (.map (some b)) (.int .u32 (x : Int)) (symVal o)).run Try.prog w = .ok () w' ∧ SymAt w' b (t + 1) (Lg.put G x o) ∧ w.grownBy w' (some b) ∧ w'.heap.size = w.heap.size := by
  obtain ⟨D, h, hf⟩ := h
  obtain ⟨w', hrun, hown, hg⟩ := h.store Try.keyU32 Try.underlying40 (by unfold maxLen; omega) (key_u32 x hx) (symElem_mk o)
  refine ⟨w', hrun, ⟨_, hown, fun y hy => ?_⟩, hg.grown, turned_size hg⟩
  by_cases e : y = x
  · subst e
    rw [has_put_same h.isMap (Try.keyU32.key (key_u32 y hy)), atKey_put_same h.isMap (Try.keyU32.key (key_u32 y hy)), Lg.put_same]
    exact ⟨ho.symm, rfl⟩
  · rw [has_put_other (lit_ne e), atKey_put_other (lit_ne e), Lg.put_other _ _ e]
    exact hf y hy
theorem SymAt.drop {w : World} {b t x : Nat} {G : Lg.St} (ty : TypeId) (h : SymAt w b t G) (hx : x < 4294967296) :
    ∃ w', (Builtin.delete_ #[40, 28] ty #[.map (some b), .int .u32 (x : Int)]).run Try.prog w = .ok (.tuple #[]) w' ∧ SymAt w' b t (Lg.put G x none) ∧ w.grownBy w' (some b) ∧ w'.heap.size = w.heap.size := by
  obtain ⟨D, h, hf⟩ := h
  obtain ⟨w', hrun, ho, hg⟩ := h.drop Try.keyU32 Try.underlying40 (key_u32 x hx) ty
  refine ⟨w', hrun, ⟨_, ho, fun y hy => ?_⟩, hg.grown, turned_size hg⟩
  by_cases e : y = x
  · subst e
    rw [Maps.has_del_same, atKey_del_same, Lg.put_same]
    exact ⟨rfl, rfl⟩
  · rw [Maps.has_del_other (lit_ne e), atKey_del_other (lit_ne e), Lg.put_other _ _ e]
    exact hf y hy

/-- A map of symbols, nil or not. -/
def MapAt (w : World) (v : Option Nat) (t : Nat) (G : Lg.St) : Prop := (v = none ∧ ∀ x, G x = none) ∨ ∃ b, v = some b ∧ SymAt w b t G
theorem MapAt.block {w w' : World} {v : Option Nat} {t : Nat} {G : Lg.St} (h : MapAt w v t G) (e : ∀ b, v = some b → w'.heap[b]? = w.heap[b]?) : MapAt w' v t G := by
  rcases h with ⟨rfl, h⟩ | ⟨b, rfl, h⟩
  · exact .inl ⟨rfl, h⟩
  · exact .inr ⟨b, rfl, h.block (e b rfl)⟩
theorem MapAt.lt {w : World} {t b : Nat} {G : Lg.St} (h : MapAt w (some b) t G) : b < w.heap.size := by
  rcases h with ⟨h, -⟩ | ⟨c, e, h⟩
  · cases h
  · cases e; exact h.lt
theorem MapAt.look_ok {w : World} {v : Option Nat} {t x : Nat} {G : Lg.St} (h : MapAt w v t G) (hx : x < 4294967296) :
    (Instr.lookup 40 (.map v) (.int .u32 (x : Int)) true).run Try.prog w = .ok (.tuple #[symVal (G x), .bool (G x).isSome]) w := by
  rcases h with ⟨rfl, h⟩ | ⟨b, rfl, h⟩
  · rw [h x]
    exact Maps.look_nil true Try.keyU32 Try.underlying40 (Try.zeroSym w) (key_u32 x hx)
  · exact h.look_ok hx
theorem MapAt.look {w : World} {v : Option Nat} {t x : Nat} {G : Lg.St} (h : MapAt w v t G) (hx : x < 4294967296) :
    (Instr.lookup 40 (.map v) (.int .u32 (x : Int)) false).run Try.prog w = .ok (symVal (G x)) w := by
  rcases h with ⟨rfl, h⟩ | ⟨b, rfl, h⟩
  · rw [h x]
    exact Maps.look_nil false Try.keyU32 Try.underlying40 (Try.zeroSym w) (key_u32 x hx)
  · exact h.look hx
theorem MapAt.drop {w : World} {v : Option Nat} {t x : Nat} {G : Lg.St} (ty : TypeId) (h : MapAt w v t G) (hx : x < 4294967296) :
    ∃ w', (Builtin.delete_ #[40, 28] ty #[.map v, .int .u32 (x : Int)]).run Try.prog w = .ok (.tuple #[]) w' ∧ MapAt w' v t (Lg.put G x none) ∧ w.grownBy w' v ∧ w'.heap.size = w.heap.size := by
  rcases h with ⟨rfl, h⟩ | ⟨b, rfl, h⟩
  · refine ⟨w, Maps.drop_nil Try.keyU32 Try.underlying40 (key_u32 x hx) ty, .inl ⟨rfl, fun y => ?_⟩, ⟨rfl, rfl, rfl, Nat.le_refl _, fun _ _ _ => rfl⟩, rfl⟩
    by_cases e : y = x
    · subst e; exact Lg.put_same _ _ _
    · rw [Lg.put_other _ _ e]; exact h y
  · obtain ⟨w', h1, h2, h3, h4⟩ := h.drop ty hx
    exact ⟨w', h1, .inr ⟨b, rfl, h2⟩, h3, h4⟩
theorem make_sym (w : World) : (Instr.makeMap 40 none).run Try.prog w = .ok (.map (some w.heap.size)) (w.alloc (.map #[] 0)) := by
  simp [Instr.makeMap, Result.andThen]
theorem sym_equalIn (n : Nat) (o : Option Nat) (w : World) : (Op.equalIn (n + 1) 40 (.map o) (.map none)).run Try.prog w = .ok o.isNone w := by
  cases o <;> simp [Op.equalIn, run_underlying Try.underlying40]
theorem sym_eql (o : Option Nat) (w : World) : (binOp .eql 40 (.map o) (.map none)).run Try.prog w = .ok (.bool o.isNone) w := by
  simp only [binOp]
  simp [Op.equal, Op.maxDepth, sym_equalIn 9999]

/-- Block a is a Ledger, its map v. -/
structure LedAt (w : World) (a : Nat) (v : Option Nat) (t : Nat) (G : Lg.St) : Prop where
  cell : w.cell? ⟨a, 0, none⟩ = some (.map v)
  frz : w.frozen? ⟨a, 0, none⟩ = false
  map : MapAt w v t G
  wf : Lg.Wf G
  ne : v ≠ some a
theorem LedAt.lt {w : World} {a t : Nat} {v : Option Nat} {G : Lg.St} (h : LedAt w a v t G) : a < w.heap.size := cell_lt h.cell
theorem MapAt.mono {w : World} {v : Option Nat} {t t' : Nat} {G : Lg.St} (h : MapAt w v t G) (ht : t ≤ t') : MapAt w v t' G := by
  rcases h with h | ⟨b, e, D, h, hf⟩
  · exact .inl h
  · exact .inr ⟨b, e, D, h.mono ht, hf⟩
theorem LedAt.mono {w : World} {a t t' : Nat} {v : Option Nat} {G : Lg.St} (h : LedAt w a v t G) (ht : t ≤ t') : LedAt w a v t' G := ⟨h.cell, h.frz, h.map.mono ht, h.wf, h.ne⟩
theorem LedAt.kept {w w' : World} {a t : Nat} {v : Option Nat} {G : Lg.St} {F : Nat → Prop} (h : LedAt w a v t G) (k : KeptF F w w') (ha : ¬ F a) (hv : ∀ b, v = some b → ¬ F b) : LedAt w' a v t G :=
  ⟨(World.cell?_of_block (k.block a h.lt ha)).trans h.cell, (World.frozen?_of_block (a := ⟨a, 0, none⟩) (k.block a h.lt ha)).trans h.frz, h.map.block fun b e => k.block b (by subst e; exact h.map.lt) (hv b e), h.wf, h.ne⟩
theorem LedAt.grew {w w' : World} {a t : Nat} {v : Option Nat} {G : Lg.St} (h : LedAt w a v t G) (k : Below w.heap.size w w') : LedAt w' a v t G :=
  h.kept (F := fun _ => False) (KeptF.of_below k) id fun _ _ => id
theorem LedAt.congr {w : World} {a t : Nat} {v : Option Nat} {G H : Lg.St} (h : LedAt w a v t G) (e : G = H) : LedAt w a v t H := e ▸ h
/-- What a Ledger may write. -/
def LedOwn (a : Nat) (v : Option Nat) (i : Nat) : Prop := i = a ∨ v = some i
/-- Where a Ledger's map lies behind a deed: as it did, or in a new block. -/
def LedTo (w : World) (v v' : Option Nat) : Prop := v' = v ∨ ∃ b, v' = some b ∧ w.heap.size ≤ b
end Go.Proofs.Ytjmfhkpaloipkaa
