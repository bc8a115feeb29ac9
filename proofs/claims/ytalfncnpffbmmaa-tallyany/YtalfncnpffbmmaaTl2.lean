/-
  A Tally in memory: New, none, begin.
-/
import Derived.Test.YtalfncnpffbmmaaSer
import Derived.Test.YtalfncnpffbmmaaTl1
namespace Go.Proofs.Ytalfncnpffbmmaa
open Go.RowKit Go.Deep

theorem nine {j : Nat} (h : j < 9) : j = 0 ∨ j = 1 ∨ j = 2 ∨ j = 3 ∨ j = 4 ∨ j = 5 ∨ j = 6 ∨ j = 7 ∨ j = 8 := by omega
/-- Nine cells of block B hold v, and may be written. -/
structure GAt (w : World) (B : Nat) (v : Nat → Value) : Prop where
  cell : ∀ i, i < 9 → w.cell? ⟨B, i, none⟩ = some (v i)
  frz : ∀ i, w.frozen? ⟨B, i, none⟩ = false
theorem GAt.lt {w : World} {B : Nat} {v : Nat → Value} (h : GAt w B v) : B < w.heap.size := cell_lt (h.cell 0 (by decide))
theorem GAt.congr {w : World} {B : Nat} {v u : Nat → Value} (h : GAt w B v) (e : ∀ i, i < 9 → v i = u i) : GAt w B u := ⟨fun i hi => e i hi ▸ h.cell i hi, h.frz⟩
theorem GAt.block {w w' : World} {B : Nat} {v : Nat → Value} (h : GAt w B v) (e : w'.heap[B]? = w.heap[B]?) : GAt w' B v :=
  ⟨fun i hi => (World.cell?_of_block e).trans (h.cell i hi), fun i => (World.frozen?_of_block (a := ⟨B, i, none⟩) e).trans (h.frz i)⟩
theorem GAt.same {w w' : World} {B : Nat} {v : Nat → Value} (h : GAt w B v) (q : Same w w') : GAt w' B v := by
  obtain ⟨n, rfl⟩ := q
  exact h.block rfl
theorem GAt.set {w : World} {B : Nat} {v : Nat → Value} (h : GAt w B v) (i : Nat) (u : Value) : GAt (w.setCell ⟨B, i, none⟩ u) B (fun j => if j = i then u else v j) := by
  refine ⟨fun j hj => ?_, fun j => by rw [World.frozen?_setCell]; exact h.frz j⟩
  by_cases e : j = i
  · subst e; rw [if_pos rfl]; exact World.cell?_setCell_same _ _ _ (h.cell j hj)
  · rw [if_neg e, World.cell?_setCell_other _ _ _ _ (fun q => e (Addr.mk.inj q).2.1.symm)]; exact h.cell j hj
theorem GAt.made {w : World} {T : TypeId} {cs : Array Value} {v : Nat → Value} (h : ∀ i, i < 9 → cs[i]? = some (v i)) : GAt (w.alloc (.cells cs T)) w.heap.size v :=
  ⟨fun i hi => by rw [World.cell?_alloc_at _ _ _ _ rfl]; exact h i hi, fun i => by rw [World.frozen?_alloc_at _ _ _ _ rfl]⟩

/-- What a Tally counts. -/
structure Tl where
  top : Nat
  since : Nat
  got : Nat
  settled : Nat
  burst : Nat
  late : Nat
  twice : Nat
  d : Array Int
  S : Nat → Bool
/-- Its nine cells. -/
def tlV (e cm : Nat) (fv : Value) (s : Tl) : Nat → Value
  | 0 => .pointer (some ⟨e, 0, none⟩)
  | 1 => .map (some cm)
  | 2 => .int .u64 (s.since : Int)
  | 3 => .int .u64 (s.got : Int)
  | 4 => fv
  | 5 => .int .u64 (s.settled : Int)
  | 6 => .int .u64 (s.burst : Int)
  | 7 => .int .u64 (s.late : Int)
  | _ => .int .u64 (s.twice : Int)
def fresh (fb m n : Nat) : Value := .slice (some ⟨fb, 0, none⟩) n m
/-- Five blocks, no two the same. -/
def Five (g e cm im fb : Nat) : Prop := g ≠ e ∧ g ≠ cm ∧ g ≠ im ∧ g ≠ fb ∧ e ≠ cm ∧ e ≠ im ∧ e ≠ fb ∧ cm ≠ im ∧ cm ≠ fb ∧ im ≠ fb
/-- A Tally that was handed numbers of the second half round alone. -/
structure TlAt (w : World) (g e cm im fb m k : Nat) (s : Tl) : Prop where
  G : GAt w g (tlV e cm (fresh fb m s.d.size) s)
  ext : ExtAt w e s.top
  hal : HalfAt w cm 1 (fun y => if y = 2 then some im else none)
  set : SetAt w im k s.S
  row : Srow w fb 0 m s.d
  cap : m ≤ maxLen
  five : Five g e cm im fb
theorem TlAt.same {w w' : World} {g e cm im fb m k : Nat} {s : Tl} (h : TlAt w g e cm im fb m k s) (q : Same w w') : TlAt w' g e cm im fb m k s := by
  obtain ⟨n, rfl⟩ := q
  exact ⟨h.G.block rfl, h.ext.same ⟨n, rfl⟩, h.hal.block rfl, h.set.block rfl, h.row.block rfl, h.cap, h.five⟩
/-- One that was handed nothing. -/
structure TlNew (w : World) (g e cm : Nat) : Prop where
  G : GAt w g (tlV e cm (.slice none 0 0) ⟨0, 0, 0, 0, 0, 0, 0, #[], fun _ => false⟩)
  ext : ExtAt w e 0
  hal : HalfAt w cm 0 (fun _ => none)
  ge : g ≠ e
  gc : g ≠ cm
  ec : e ≠ cm

/-- Block F's own world: all that lay in w and not in F stays. -/
structure KeptF (F : Nat → Prop) (w w' : World) : Prop where
  os : w'.os = w.os
  tape : w'.tape = w.tape
  output : w'.output = w.output
  size : w.heap.size ≤ w'.heap.size
  block : ∀ k, k < w.heap.size → ¬ F k → w'.heap[k]? = w.heap[k]?
theorem KeptF.refl (F : Nat → Prop) (w : World) : KeptF F w w := ⟨rfl, rfl, rfl, Nat.le_refl _, fun _ _ _ => rfl⟩
theorem KeptF.of_kept {F : Nat → Prop} {R : Nat} {w w' : World} (h : Kept R w w') (hR : F R) : KeptF F w w' :=
  ⟨h.os, h.tape, h.output, h.size, fun k hk hF => h.block k hk (fun e => hF (e ▸ hR))⟩
theorem KeptF.of_same {F : Nat → Prop} {w w' : World} (h : Same w w') : KeptF F w w' := by
  obtain ⟨n, rfl⟩ := h
  exact ⟨rfl, rfl, rfl, Nat.le_refl _, fun _ _ _ => rfl⟩
theorem KeptF.of_below {F : Nat → Prop} {w w' : World} (h : Below w.heap.size w w') : KeptF F w w' := ⟨h.os, h.tape, h.output, h.size, fun k hk _ => h.block k hk⟩
theorem KeptF.trans {F : Nat → Prop} {a b c : World} (h : KeptF F a b) (k : KeptF F b c) : KeptF F a c :=
  ⟨k.os.trans h.os, k.tape.trans h.tape, k.output.trans h.output, Nat.le_trans h.size k.size, fun i hi hF => (k.block i (Nat.lt_of_lt_of_le hi h.size) hF).trans (h.block i hi hF)⟩
theorem KeptF.of_grown {F : Nat → Prop} {w w' : World} {row : Option Nat} (h : w.grownBy w' row) (hF : ∀ R, row = some R → F R) : KeptF F w w' :=
  ⟨h.os, h.tape, h.output, h.size, fun k hk hn => h.block k hk (fun e => hn (hF k e.symm))⟩

set_option maxRecDepth 100000 in
set_option maxHeartbeats 400000 in
theorem tnone_any (g : Nat) (a : Addr) (w : World) (h : w.cell? ⟨g, 0, none⟩ = some (.pointer (some a))) :
    Calls Try.prog 11 #[.pointer (some ⟨g, 0, none⟩)] w fun e w' => e = .returned (.bool false) ∧ w' = w := by
  go_enter Try.func11, Try.ntmps11
  go_wp2
  go_ret
  exact ⟨rfl, rfl⟩
set_option maxRecDepth 100000 in
set_option maxHeartbeats 400000 in
theorem tbegin_any (g x : Nat) (v : Nat → Value) (w : World) (h : GAt w g v) :
    Calls Try.prog 14 #[.pointer (some ⟨g, 0, none⟩), .int .u64 (x : Int)] w fun e w' => e = .returned (.tuple #[]) ∧
      GAt w' g (fun j => if j = 6 then .int .u64 0 else if j = 3 then .int .u64 0 else if j = 5 then .int .u64 (x : Int) else if j = 2 then .int .u64 (x : Int) else v j) ∧ Kept g w w' := by
  have c2 := h.cell 2 (by decide)
  have c3 := h.cell 3 (by decide)
  have c5 := h.cell 5 (by decide)
  have c6 := h.cell 6 (by decide)
  have f2 := h.frz 2
  have f3 := h.frz 3
  have f5 := h.frz 5
  have f6 := h.frz 6
  have H := (((h.set 2 (.int .u64 (x : Int))).set 5 (.int .u64 (x : Int))).set 3 (.int .u64 0)).set 6 (.int .u64 0)
  have K : Kept g w ((((w.setCell ⟨g, 2, none⟩ (.int .u64 (x : Int))).setCell ⟨g, 5, none⟩ (.int .u64 (x : Int))).setCell ⟨g, 3, none⟩ (.int .u64 0)).setCell ⟨g, 6, none⟩ (.int .u64 0)) := (((Kept.set _ _ _).trans (Kept.set _ _ _)).trans (Kept.set _ _ _)).trans (Kept.set _ _ _)
  have HH := And.intro H K
  have HQ : Hid (GAt ((((w.setCell ⟨g, 2, none⟩ (.int .u64 (x : Int))).setCell ⟨g, 5, none⟩ (.int .u64 (x : Int))).setCell ⟨g, 3, none⟩ (.int .u64 0)).setCell ⟨g, 6, none⟩ (.int .u64 0)) g (fun j => if j = 6 then .int .u64 0 else if j = 3 then .int .u64 0 else if j = 5 then .int .u64 (x : Int) else if j = 2 then .int .u64 (x : Int) else v j) ∧ Kept g w ((((w.setCell ⟨g, 2, none⟩ (.int .u64 (x : Int))).setCell ⟨g, 5, none⟩ (.int .u64 (x : Int))).setCell ⟨g, 3, none⟩ (.int .u64 0)).setCell ⟨g, 6, none⟩ (.int .u64 0))) := HH
  clear H K HH h
  go_enter Try.func14, Try.ntmps14
  go_wp2
  exact bodyPost_end (results_none Try.results14 _ _ _) rfl ⟨rfl, HQ.out.1, HQ.out.2⟩
theorem make_half (w : World) : (Instr.makeMap 38 none).run Try.prog w = .ok (.map (some w.heap.size)) (w.alloc (.map #[] 0)) := by
  simp [Instr.makeMap, Result.andThen]
theorem make_set (w : World) : (Instr.makeMap 47 none).run Try.prog w = .ok (.map (some w.heap.size)) (w.alloc (.map #[] 0)) := by
  simp [Instr.makeMap, Result.andThen]
set_option maxRecDepth 100000 in
set_option maxHeartbeats 400000 in
theorem tnew_any (w : World) :
    Calls Try.prog 5 #[] w fun e w' => ∃ g ex cm, e = .returned (.pointer (some ⟨g, 0, none⟩)) ∧ TlNew w' g ex cm ∧ Below w.heap.size w w' ∧ w.heap.size ≤ g ∧ w.heap.size ≤ ex ∧ w.heap.size ≤ cm := by
  go_enter Try.func5, Try.ntmps5
  go_wp2_with fail
  refine (ext_new w).mono ?_
  rintro e w1 ⟨rfl, E1, b1, z1⟩
  have H1 := HalfAt.made w1
  have b2 : Below w1.heap.size w1 (w1.alloc (.map #[] 0)) := (Below.refl _ _).alloc (Nat.le_refl _) _
  have E2 := E1.grew b2
  have hmk := make_half w1
  have s2 : (w1.alloc (.map #[] 0)).heap.size = w1.heap.size + 1 := by simp
  have HB2 : Hid (Below w1.heap.size w1 (w1.alloc (.map #[] 0))) := b2
  have HH : Hid (HalfAt (w1.alloc (.map #[] 0)) w1.heap.size 0 (fun _ => none)) := H1
  have HE : Hid (ExtAt (w1.alloc (.map #[] 0)) w.heap.size 0) := E2
  have HB1 : Hid (Below w.heap.size w w1) := b1
  have HZ : Hid (w1.heap.size = w.heap.size + 1) := z1
  clear b1 b2 E1 E2 H1 z1
  go_wp2
  have G := GAt.made (w := w1.alloc (.map #[] 0)) (T := 41) (cs := #[.pointer (some ⟨w.heap.size, 0, none⟩), .map (some w1.heap.size), .int .u64 0, .int .u64 0, .slice none 0 0, .int .u64 0, .int .u64 0, .int .u64 0, .int .u64 0]) (v := tlV w.heap.size w1.heap.size (.slice none 0 0) ⟨0, 0, 0, 0, 0, 0, 0, #[], fun _ => false⟩) (fun i hi => by rcases nine hi with rfl | rfl | rfl | rfl | rfl | rfl | rfl | rfl | rfl <;> rfl)
  rw [s2] at G
  have b3 : ∀ o, Below (w1.alloc (.map #[] 0)).heap.size (w1.alloc (.map #[] 0)) ((w1.alloc (.map #[] 0)).alloc o) := fun o => (Below.refl _ _).alloc (Nat.le_refl _) o
  have z := HZ.out
  have bw := HB1.out.size
  go_ret
  exact ⟨w1.heap.size + 1, w.heap.size, w1.heap.size, rfl, ⟨G, HE.out.grew (b3 _), HH.out.block ((b3 _).block _ (by rw [s2]; omega)), by omega, by omega, by omega⟩, (HB1.out.trans (HB2.out.mono bw)).trans ((b3 _).mono (by rw [s2]; omega)), by omega, by omega, by omega⟩
end Go.Proofs.Ytalfncnpffbmmaa
