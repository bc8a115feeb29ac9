/-
  A Basis's own block: how 766 cells of a field, a size and a room are read and laid at once.
-/
import Derived.Test.YtgbeklifcchmlaaCon
import Derived.Deep.MidRow
import Derived.Laws.Tables
namespace Go.Proofs.Ytgbeklifcchmlaa
open Go.RowKit Go.Deep

/-- The cells of a field with its tables. -/
def fieldCells : List Value := (List.range 510).map (fun i => Value.int .u8 (Gf.pw i)) ++ (List.range 256).map (fun a => Value.int .u8 (Gf.lg a))
theorem fieldCells_len : fieldCells.length = 766 := by simp [fieldCells]
theorem fieldCells_pw (i : Nat) (h : i < 510) : fieldCells[i]? = some (.int .u8 (Gf.pw i)) := by
  unfold fieldCells
  rw [List.getElem?_append_left (by simpa using h)]
  simp [h]
theorem fieldCells_lg (a : Nat) (h : a < 256) : fieldCells[510 + a]? = some (.int .u8 (Gf.lg a)) := by
  unfold fieldCells
  rw [List.getElem?_append_right (by simp)]
  simp [h]
theorem FieldAt.range {w : World} {p : Nat} (h : FieldAt w p) : w.rangeAt p 0 fieldCells := by
  intro j v hj
  have hl : j < 766 := by have := (List.getElem?_eq_some_iff.1 hj).1; rwa [fieldCells_len] at this
  rw [Nat.zero_add]
  by_cases g : j < 510
  · rw [fieldCells_pw j g] at hj
    rw [h.powers j g, hj]
  · obtain ⟨a, rfl⟩ : ∃ a, j = 510 + a := ⟨j - 510, by omega⟩
    rw [fieldCells_lg a (by omega)] at hj
    rw [h.logs a (by omega), hj]

theorem info_field : (Try.prog.info? 63).map (·.size) = some 766 := by kernel_rfl

theorem load_field (p : Nat) (w : World) (h : FieldAt w p) : (Instr.loadAt 63 (.pointer (some ⟨p, 0, none⟩))).run Try.prog w = .ok (.agg fieldCells.toArray) w :=
  run_loadAt_mid w p 0 _ fieldCells _ h.range Try.underlying63 rfl (by rw [fieldCells_len]; exact info_field)

/-- The cells of a Basis. -/
def basisCells (size : Int) (R k : Nat) : List Value := fieldCells ++ [.int .i64 size, .slice (some ⟨R, 0, none⟩) k k]

def basisZero : Array Value := Array.replicate 766 (.int .u8 0) ++ #[.int .i64 0, .slice none 0 0]
theorem info_basis : (Try.prog.info? 79).map (fun i => (i.zero, i.size)) = some (some (.agg basisZero), 768) := by kernel_rfl

theorem fold_size (cs : List Value) : ∀ (s off : Nat) (a : Array Value), ((cs.zipIdx s).foldl (fun acc p => acc.setIfInBounds (off + p.2) p.1) a).size = a.size := by
  induction cs with
  | nil => intro s off a; rfl
  | cons c cs ih => intro s off a; rw [List.zipIdx_cons, List.foldl_cons, ih]; simp
theorem fold_get (cs : List Value) : ∀ (s off : Nat) (a : Array Value), off + s + cs.length ≤ a.size → ∀ i,
    ((cs.zipIdx s).foldl (fun acc p => acc.setIfInBounds (off + p.2) p.1) a)[i]? = if off + s ≤ i ∧ i < off + s + cs.length then cs[i - (off + s)]? else a[i]? := by
  induction cs with
  | nil => intro s off a _ i; simp; intro h1 h2; omega
  | cons c cs ih =>
    intro s off a h i
    simp only [List.length_cons] at h
    rw [List.zipIdx_cons, List.foldl_cons, ih (s + 1) off _ (by simp; omega) i]
    simp only [List.length_cons]
    by_cases h1 : off + (s + 1) ≤ i ∧ i < off + (s + 1) + cs.length
    · rw [if_pos h1, if_pos (by omega), show i - (off + s) = (i - (off + (s + 1))) + 1 by omega, List.getElem?_cons_succ]
    · rw [if_neg h1]
      by_cases h2 : i = off + s
      · subst h2
        rw [if_pos (by omega), Nat.sub_self, Array.getElem?_setIfInBounds, if_pos rfl, if_pos (by omega)]
        rfl
      · rw [if_neg (by omega), Array.getElem?_setIfInBounds, if_neg (by omega)]

/-- What a part of a struct leaves of the cells. -/
def laid (off : Nat) (cs : List Value) (a : Array Value) : Array Value := (cs.zipIdx 0).foldl (fun acc p => acc.setIfInBounds (off + p.2) p.1) a
theorem laid_eq (off : Nat) (cs : List Value) (a : Array Value) : cs.toArray.zipIdx.foldl (fun acc (c, j) => acc.setIfInBounds (off + j) c) a = laid off cs a := by
  unfold laid
  rw [← Array.foldl_toList]
  simp
theorem laid_size (off : Nat) (cs : List Value) (a : Array Value) : (laid off cs a).size = a.size := fold_size cs 0 off a
theorem laid_get (off : Nat) (cs : List Value) (a : Array Value) (h : off + cs.length ≤ a.size) (i : Nat) : (laid off cs a)[i]? = if off ≤ i ∧ i < off + cs.length then cs[i - off]? else a[i]? := by
  have := fold_get cs 0 off a (by omega) i
  simpa [laid] using this

theorem fill_step (place : Nat → Option (Nat × Nat)) (a : Array Value) (i off size : Nat) (v : Value) (cs : List Value) (rest : List (Nat × Value)) (hp : place i = some (off, size)) (hv : v.cells = cs.toArray) (hs : cs.length = size) (ho : off + size ≤ a.size) :
    Instr.fill place a ((i, v) :: rest) = Instr.fill place (laid off cs a) rest := by
  have h1 : ¬ (cs.toArray.size ≠ size || decide (off + cs.toArray.size > a.size)) = true := by
    simp [hs]; omega
  rw [Instr.fill, hp]
  simp only [hv]
  rw [if_neg h1, laid_eq]

theorem places_basis (fields : Array Field) (h : Try.prog.underlying 79 = some (.struct fields)) :
    fields.toList.mapM (fun f => (Try.prog.info? f.type).map fun i => (f.offset, i.size)) = some [(0, 766), (766, 1), (767, 1)] := by
  rw [Try.underlying79] at h
  cases h
  kernel_rfl

set_option maxRecDepth 100000 in
theorem built_basis (size : Int) (R k : Nat) :
    Try.prog.built 79 [(0, .agg fieldCells.toArray), (1, .int .i64 size), (2, .slice (some ⟨R, 0, none⟩) k k)] = some (basisCells size R k).toArray := by
  have hl := fieldCells_len
  obtain ⟨it, hit, hz⟩ := Option.map_eq_some_iff.1 info_basis
  simp only [Prod.mk.injEq] at hz
  have hpl := places_basis _ Try.underlying79
  unfold Program.built basisCells
  rw [hit, Try.underlying79]
  simp only [hz.1]
  rw [hpl]
  show Instr.fill _ basisZero _ = _
  have hsz : basisZero.size = 768 := by simp [basisZero]
  generalize basisZero = z at *
  generalize fieldCells = cs at *
  rw [fill_step _ z 0 0 766 (.agg cs.toArray) cs _ rfl rfl hl (by omega)]
  have h1 := laid_size 0 cs z
  rw [fill_step _ _ 1 766 1 (.int .i64 size) [.int .i64 size] _ rfl rfl rfl (by omega)]
  have h2 := laid_size 766 [.int .i64 size] (laid 0 cs z)
  rw [fill_step _ _ 2 767 1 (.slice (some ⟨R, 0, none⟩) k k) [.slice (some ⟨R, 0, none⟩) k k] _ rfl rfl rfl (by omega)]
  have h3 := laid_size 767 [.slice (some ⟨R, 0, none⟩) k k] (laid 766 [.int .i64 size] (laid 0 cs z))
  rw [Instr.fill]
  congr 1
  refine Array.ext_getElem? fun i => ?_
  rw [laid_get _ _ _ (by simp; omega), laid_get _ _ _ (by simp; omega), laid_get _ _ _ (by simp; omega)]
  simp only [List.length_cons, List.length_nil, Nat.zero_add, hl, List.getElem?_toArray]
  by_cases g1 : i < 766
  · rw [if_neg (by omega), if_neg (by omega), if_pos (by omega), List.getElem?_append_left (by omega), Nat.sub_zero]
  · rw [List.getElem?_append_right (by omega), hl]
    by_cases g2 : i = 766
    · subst g2; rw [if_neg (by omega), if_pos (by omega)]; rfl
    · by_cases g3 : i = 767
      · subst g3; rw [if_pos (by omega)]; rfl
      · rw [if_neg (by omega), if_neg (by omega), if_neg (by omega), List.getElem?_eq_none (by simp; omega)]
        exact Array.getElem?_eq_none (by omega)

set_option maxRecDepth 100000 in
theorem build_basis (size : Int) (R k : Nat) (w : World) :
    (Instr.build 79 #[(0, .agg fieldCells.toArray), (1, .int .i64 size), (2, .slice (some ⟨R, 0, none⟩) k k)]).run Try.prog w = .ok (.agg (basisCells size R k).toArray) w :=
  run_build w _ _ _ (built_basis size R k)
end Go.Proofs.Ytgbeklifcchmlaa
