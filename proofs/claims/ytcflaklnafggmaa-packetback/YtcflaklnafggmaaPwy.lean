/-
  Package packet: its refusals, and the way of each Kind.
-/
import Derived.Test.YtcflaklnafggmaaPkt
import Derived.Defers
import Derived.Recover
import Derived.Laws.EntriesVeiled
namespace Go.Proofs.Ytcflaklnafggmaa
open Go.RowKit Go.Deep

/-- What package packet panics with. -/
def refusedP (E : Int) : List PanicEntry := [{ v := .iface 49 (.agg #[.int .i64 E]), recovered := false }]

theorem pdemand_yes (b : Bool) (E : Int) (w : World) (h : b = true) :
    Calls Try.prog 27 #[.bool b, .int .i64 E] w fun e w' => e = .returned (.tuple #[]) ∧ w' = w := by
  subst h
  go_enter Try.func27, Try.ntmps27
  go_wp2
  go_end0
  exact ⟨rfl, rfl⟩
theorem pdemand_no (b : Bool) (E : Int) (w : World) (h : b = false) :
    Calls Try.prog 27 #[.bool b, .int .i64 E] w fun e w' => e = .panicked (refusedP E) ∧ w' = w := by
  subst h
  go_enter Try.func27, Try.ntmps27
  go_wp2
  exact ⟨rfl, rfl, rfl⟩

/-- Which functions the Kind k has. -/
def pF (k : Nat) : Nat := if k = 1 then 35 else if k = 2 then 37 else if k = 3 then 39 else 41
def tF (k : Nat) : Nat := if k = 1 then 36 else if k = 2 then 38 else if k = 3 then 40 else 42

set_option maxRecDepth 100000 in
theorem way_no (k why : Int) (w : World) (h : ¬ (1 ≤ k ∧ k ≤ 4)) :
    Calls Try.prog 19 #[.int .i64 k, .int .i64 why] w fun e w' => e = .panicked (refusedP why) ∧ Below w.heap.size w w' := by
  by_cases h1 : 1 ≤ k
  · have i1 : decide (k ≤ 4) = false := by simp; omega
    go_enter Try.func19, Try.ntmps19
    go_wp2_with fail
    refine (pdemand_no _ _ _ (by simp <;> omega)).mono ?_
    rintro e w1 ⟨rfl, rfl⟩
    go_wp2
    exact ⟨rfl, rfl, (Below.refl _ _).alloc (Nat.le_refl _) _⟩
  · have i1 : decide (1 ≤ k) = false := by simp; omega
    go_enter Try.func19, Try.ntmps19
    go_wp2_with fail
    refine (pdemand_no _ _ _ (by simp <;> omega)).mono ?_
    rintro e w1 ⟨rfl, rfl⟩
    go_wp2
    exact ⟨rfl, rfl, (Below.refl _ _).alloc (Nat.le_refl _) _⟩

set_option maxRecDepth 100000 in
theorem way_1 (why : Int) (w : World) :
    Calls Try.prog 19 #[.int .i64 1, .int .i64 why] w fun e w' => e = .returned (.agg #[.func (.func (pF 1)) #[] #[], .func (.func (tF 1)) #[] #[]]) ∧ Below w.heap.size w w' := by
  have V0 : VAt ((w.alloc (.cells #[.func (.func 35) #[] #[], .func (.func 36) #[] #[]] 54)).alloc (.cells #[.nilFunc, .nilFunc, .func (.func 35) #[] #[], .func (.func 36) #[] #[], .func (.func 37) #[] #[], .func (.func 38) #[] #[], .func (.func 39) #[] #[], .func (.func 40) #[] #[], .func (.func 41) #[] #[], .func (.func 42) #[] #[]] 76)) w.heap.size (1 + 1) (fun i => if i = 0 then .func (.func 35) #[] #[] else .func (.func 36) #[] #[]) := VAt.grew (VAt.made fun i hi => match i, hi with
    | 0, _ => rfl
    | 1, _ => rfl) ((Below.refl _ _).alloc (Nat.le_refl _) _)
  have q0 : ((w.alloc (.cells #[.func (.func 35) #[] #[], .func (.func 36) #[] #[]] 54)).alloc (.cells #[.nilFunc, .nilFunc, .func (.func 35) #[] #[], .func (.func 36) #[] #[], .func (.func 37) #[] #[], .func (.func 38) #[] #[], .func (.func 39) #[] #[], .func (.func 40) #[] #[], .func (.func 41) #[] #[], .func (.func 42) #[] #[]] 76)).cell? ⟨w.heap.size, 0, none⟩ = some (.func (.func 35) #[] #[]) := V0.cell 0 (by decide)
  have q1 : ((w.alloc (.cells #[.func (.func 35) #[] #[], .func (.func 36) #[] #[]] 54)).alloc (.cells #[.nilFunc, .nilFunc, .func (.func 35) #[] #[], .func (.func 36) #[] #[], .func (.func 37) #[] #[], .func (.func 38) #[] #[], .func (.func 39) #[] #[], .func (.func 40) #[] #[], .func (.func 41) #[] #[], .func (.func 42) #[] #[]] 76)).cell? ⟨w.heap.size, 1, none⟩ = some (.func (.func 36) #[] #[]) := V0.cell 1 (by decide)
  have HB : Hid (Below w.heap.size w ((w.alloc (.cells #[.func (.func 35) #[] #[], .func (.func 36) #[] #[]] 54)).alloc (.cells #[.nilFunc, .nilFunc, .func (.func 35) #[] #[], .func (.func 36) #[] #[], .func (.func 37) #[] #[], .func (.func 38) #[] #[], .func (.func 39) #[] #[], .func (.func 40) #[] #[], .func (.func 41) #[] #[], .func (.func 42) #[] #[]] 76))) := ((Below.refl _ _).alloc (Nat.le_refl _) _).alloc (by simp) _
  clear V0
  go_enter Try.func19, Try.ntmps19
  go_wp2_with fail
  refine (pdemand_yes _ _ _ rfl).mono ?_
  rintro e w1 ⟨rfl, rfl⟩
  go_wp2
  refine bodyPost_ret (v := .agg #[.func (.func 35) #[] #[], .func (.func 36) #[] #[]]) ?_ rfl ⟨rfl, HB.out⟩
  simp [results, Try.results19, go_sem, q0, q1]

set_option maxRecDepth 100000 in
theorem way_2 (why : Int) (w : World) :
    Calls Try.prog 19 #[.int .i64 2, .int .i64 why] w fun e w' => e = .returned (.agg #[.func (.func (pF 2)) #[] #[], .func (.func (tF 2)) #[] #[]]) ∧ Below w.heap.size w w' := by
  have V0 : VAt ((w.alloc (.cells #[.func (.func 37) #[] #[], .func (.func 38) #[] #[]] 54)).alloc (.cells #[.nilFunc, .nilFunc, .func (.func 35) #[] #[], .func (.func 36) #[] #[], .func (.func 37) #[] #[], .func (.func 38) #[] #[], .func (.func 39) #[] #[], .func (.func 40) #[] #[], .func (.func 41) #[] #[], .func (.func 42) #[] #[]] 76)) w.heap.size (1 + 1) (fun i => if i = 0 then .func (.func 37) #[] #[] else .func (.func 38) #[] #[]) := VAt.grew (VAt.made fun i hi => match i, hi with
    | 0, _ => rfl
    | 1, _ => rfl) ((Below.refl _ _).alloc (Nat.le_refl _) _)
  have q0 : ((w.alloc (.cells #[.func (.func 37) #[] #[], .func (.func 38) #[] #[]] 54)).alloc (.cells #[.nilFunc, .nilFunc, .func (.func 35) #[] #[], .func (.func 36) #[] #[], .func (.func 37) #[] #[], .func (.func 38) #[] #[], .func (.func 39) #[] #[], .func (.func 40) #[] #[], .func (.func 41) #[] #[], .func (.func 42) #[] #[]] 76)).cell? ⟨w.heap.size, 0, none⟩ = some (.func (.func 37) #[] #[]) := V0.cell 0 (by decide)
  have q1 : ((w.alloc (.cells #[.func (.func 37) #[] #[], .func (.func 38) #[] #[]] 54)).alloc (.cells #[.nilFunc, .nilFunc, .func (.func 35) #[] #[], .func (.func 36) #[] #[], .func (.func 37) #[] #[], .func (.func 38) #[] #[], .func (.func 39) #[] #[], .func (.func 40) #[] #[], .func (.func 41) #[] #[], .func (.func 42) #[] #[]] 76)).cell? ⟨w.heap.size, 1, none⟩ = some (.func (.func 38) #[] #[]) := V0.cell 1 (by decide)
  have HB : Hid (Below w.heap.size w ((w.alloc (.cells #[.func (.func 37) #[] #[], .func (.func 38) #[] #[]] 54)).alloc (.cells #[.nilFunc, .nilFunc, .func (.func 35) #[] #[], .func (.func 36) #[] #[], .func (.func 37) #[] #[], .func (.func 38) #[] #[], .func (.func 39) #[] #[], .func (.func 40) #[] #[], .func (.func 41) #[] #[], .func (.func 42) #[] #[]] 76))) := ((Below.refl _ _).alloc (Nat.le_refl _) _).alloc (by simp) _
  clear V0
  go_enter Try.func19, Try.ntmps19
  go_wp2_with fail
  refine (pdemand_yes _ _ _ rfl).mono ?_
  rintro e w1 ⟨rfl, rfl⟩
  go_wp2
  refine bodyPost_ret (v := .agg #[.func (.func 37) #[] #[], .func (.func 38) #[] #[]]) ?_ rfl ⟨rfl, HB.out⟩
  simp [results, Try.results19, go_sem, q0, q1]

set_option maxRecDepth 100000 in
theorem way_3 (why : Int) (w : World) :
    Calls Try.prog 19 #[.int .i64 3, .int .i64 why] w fun e w' => e = .returned (.agg #[.func (.func (pF 3)) #[] #[], .func (.func (tF 3)) #[] #[]]) ∧ Below w.heap.size w w' := by
  have V0 : VAt ((w.alloc (.cells #[.func (.func 39) #[] #[], .func (.func 40) #[] #[]] 54)).alloc (.cells #[.nilFunc, .nilFunc, .func (.func 35) #[] #[], .func (.func 36) #[] #[], .func (.func 37) #[] #[], .func (.func 38) #[] #[], .func (.func 39) #[] #[], .func (.func 40) #[] #[], .func (.func 41) #[] #[], .func (.func 42) #[] #[]] 76)) w.heap.size (1 + 1) (fun i => if i = 0 then .func (.func 39) #[] #[] else .func (.func 40) #[] #[]) := VAt.grew (VAt.made fun i hi => match i, hi with
    | 0, _ => rfl
    | 1, _ => rfl) ((Below.refl _ _).alloc (Nat.le_refl _) _)
  have q0 : ((w.alloc (.cells #[.func (.func 39) #[] #[], .func (.func 40) #[] #[]] 54)).alloc (.cells #[.nilFunc, .nilFunc, .func (.func 35) #[] #[], .func (.func 36) #[] #[], .func (.func 37) #[] #[], .func (.func 38) #[] #[], .func (.func 39) #[] #[], .func (.func 40) #[] #[], .func (.func 41) #[] #[], .func (.func 42) #[] #[]] 76)).cell? ⟨w.heap.size, 0, none⟩ = some (.func (.func 39) #[] #[]) := V0.cell 0 (by decide)
  have q1 : ((w.alloc (.cells #[.func (.func 39) #[] #[], .func (.func 40) #[] #[]] 54)).alloc (.cells #[.nilFunc, .nilFunc, .func (.func 35) #[] #[], .func (.func 36) #[] #[], .func (.func 37) #[] #[], .func (.func 38) #[] #[], .func (.func 39) #[] #[], .func (.func 40) #[] #[], .func (.func 41) #[] #[], .func (.func 42) #[] #[]] 76)).cell? ⟨w.heap.size, 1, none⟩ = some (.func (.func 40) #[] #[]) := V0.cell 1 (by decide)
  have HB : Hid (Below w.heap.size w ((w.alloc (.cells #[.func (.func 39) #[] #[], .func (.func 40) #[] #[]] 54)).alloc (.cells #[.nilFunc, .nilFunc, .func (.func 35) #[] #[], .func (.func 36) #[] #[], .func (.func 37) #[] #[], .func (.func 38) #[] #[], .func (.func 39) #[] #[], .func (.func 40) #[] #[], .func (.func 41) #[] #[], .func (.func 42) #[] #[]] 76))) := ((Below.refl _ _).alloc (Nat.le_refl _) _).alloc (by simp) _
  clear V0
  go_enter Try.func19, Try.ntmps19
  go_wp2_with fail
  refine (pdemand_yes _ _ _ rfl).mono ?_
  rintro e w1 ⟨rfl, rfl⟩
  go_wp2
  refine bodyPost_ret (v := .agg #[.func (.func 39) #[] #[], .func (.func 40) #[] #[]]) ?_ rfl ⟨rfl, HB.out⟩
  simp [results, Try.results19, go_sem, q0, q1]

set_option maxRecDepth 100000 in
theorem way_4 (why : Int) (w : World) :
    Calls Try.prog 19 #[.int .i64 4, .int .i64 why] w fun e w' => e = .returned (.agg #[.func (.func (pF 4)) #[] #[], .func (.func (tF 4)) #[] #[]]) ∧ Below w.heap.size w w' := by
  have V0 : VAt ((w.alloc (.cells #[.func (.func 41) #[] #[], .func (.func 42) #[] #[]] 54)).alloc (.cells #[.nilFunc, .nilFunc, .func (.func 35) #[] #[], .func (.func 36) #[] #[], .func (.func 37) #[] #[], .func (.func 38) #[] #[], .func (.func 39) #[] #[], .func (.func 40) #[] #[], .func (.func 41) #[] #[], .func (.func 42) #[] #[]] 76)) w.heap.size (1 + 1) (fun i => if i = 0 then .func (.func 41) #[] #[] else .func (.func 42) #[] #[]) := VAt.grew (VAt.made fun i hi => match i, hi with
    | 0, _ => rfl
    | 1, _ => rfl) ((Below.refl _ _).alloc (Nat.le_refl _) _)
  have q0 : ((w.alloc (.cells #[.func (.func 41) #[] #[], .func (.func 42) #[] #[]] 54)).alloc (.cells #[.nilFunc, .nilFunc, .func (.func 35) #[] #[], .func (.func 36) #[] #[], .func (.func 37) #[] #[], .func (.func 38) #[] #[], .func (.func 39) #[] #[], .func (.func 40) #[] #[], .func (.func 41) #[] #[], .func (.func 42) #[] #[]] 76)).cell? ⟨w.heap.size, 0, none⟩ = some (.func (.func 41) #[] #[]) := V0.cell 0 (by decide)
  have q1 : ((w.alloc (.cells #[.func (.func 41) #[] #[], .func (.func 42) #[] #[]] 54)).alloc (.cells #[.nilFunc, .nilFunc, .func (.func 35) #[] #[], .func (.func 36) #[] #[], .func (.func 37) #[] #[], .func (.func 38) #[] #[], .func (.func 39) #[] #[], .func (.func 40) #[] #[], .func (.func 41) #[] #[], .func (.func 42) #[] #[]] 76)).cell? ⟨w.heap.size, 1, none⟩ = some (.func (.func 42) #[] #[]) := V0.cell 1 (by decide)
  have HB : Hid (Below w.heap.size w ((w.alloc (.cells #[.func (.func 41) #[] #[], .func (.func 42) #[] #[]] 54)).alloc (.cells #[.nilFunc, .nilFunc, .func (.func 35) #[] #[], .func (.func 36) #[] #[], .func (.func 37) #[] #[], .func (.func 38) #[] #[], .func (.func 39) #[] #[], .func (.func 40) #[] #[], .func (.func 41) #[] #[], .func (.func 42) #[] #[]] 76))) := ((Below.refl _ _).alloc (Nat.le_refl _) _).alloc (by simp) _
  clear V0
  go_enter Try.func19, Try.ntmps19
  go_wp2_with fail
  refine (pdemand_yes _ _ _ rfl).mono ?_
  rintro e w1 ⟨rfl, rfl⟩
  go_wp2
  refine bodyPost_ret (v := .agg #[.func (.func 41) #[] #[], .func (.func 42) #[] #[]]) ?_ rfl ⟨rfl, HB.out⟩
  simp [results, Try.results19, go_sem, q0, q1]

theorem way_yes (k : Nat) (why : Int) (w : World) (h1 : 1 ≤ k) (h2 : k ≤ 4) :
    Calls Try.prog 19 #[.int .i64 (k : Int), .int .i64 why] w fun e w' => e = .returned (.agg #[.func (.func (pF k)) #[] #[], .func (.func (tF k)) #[] #[]]) ∧ Below w.heap.size w w' :=
  match k, h1, h2 with
  | 1, _, _ => way_1 why w
  | 2, _, _ => way_2 why w
  | 3, _, _ => way_3 why w
  | 4, _, _ => way_4 why w
end Go.Proofs.Ytcflaklnafggmaa
