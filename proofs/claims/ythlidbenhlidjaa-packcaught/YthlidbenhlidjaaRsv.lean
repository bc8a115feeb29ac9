/-
  The document's Basis: Solve.
-/
import Derived.Test.YthlidbenhlidjaaRad
namespace Go.Proofs.Ythlidbenhlidjaa
open Go.RowKit Go.Deep

set_option maxRecDepth 100000 in
set_option maxHeartbeats 1000000 in
theorem rsolve_no (D R k size d : Nat) (V : Nat → Nat → Nat) (w : World) (h : RefAt w D R k size d V) (hd : d < k) :
    Calls Try.prog 28 #[.pointer (some ⟨D, 0, none⟩)] w fun e w' => e = .returned (.tuple #[.slice none 0 0, .bool false]) ∧ Same w w' := by
  obtain ⟨va, p1, p2, -⟩ := h.rows
  obtain ⟨ra, cva, rfl⟩ := p2.form
  have kc := h.kc
  have i1 : (d : Int) < (k : Int) := by omega
  clear h p2
  go_enter Try.func28, Try.ntmps28
  go_wp2_with fail
  go_quiet (fail)
  go_wp2
  go_ret2
  exact ⟨rfl, nq, rfl⟩

/-- The symbols were answered. -/
def RSolved (w : World) (k size d : Nat) (V : Nat → Nat → Nat) (e : Ending) (w' : World) : Prop :=
  ∃ (gb cb n : Nat) (Vr : Nat → Nat → Nat) (T : Nat → Option (Nat → Nat)), e = .returned (.tuple #[.slice (some ⟨gb, 0, none⟩) d cb, .bool true]) ∧ Stg d k n V Vr T ∧ Lst w' gb cb d size (fun i t => Vr i (k + t)) ∧ Below w.heap.size w w'

set_option maxRecDepth 100000 in
set_option maxHeartbeats 1000000 in
theorem rsolve_yes (D R k size d : Nat) (V : Nat → Nat → Nat) (w : World) (h : RefAt w D R k size d V) (hd : k ≤ d) (hV : ∀ t, t < d → Byt (V t)) (k1 : 1 ≤ k) (k2 : k ≤ 32) (s1 : 1 ≤ size) (s2 : size ≤ 64) (d2 : d ≤ 50) :
    Calls Try.prog 28 #[.pointer (some ⟨D, 0, none⟩)] w fun e w' => RSolved w k size d V e w' := by
  obtain ⟨va, p1, p2, -⟩ := h.rows
  obtain ⟨vb, q1, q2, -⟩ := h.data
  obtain ⟨ga, ca, rfl, -, LA⟩ := p2.lst (by omega) (by omega)
  obtain ⟨gb, cb, rfl, -, LB⟩ := q2.lst (by omega) (by omega)
  have kc := h.kc
  have i1 : ¬ ((d : Int) < (k : Int)) := by omega
  have RD : Hid (∀ t, Calls Try.prog 33 #[.int .i64 (k : Int), .slice (some ⟨ga, 0, none⟩) d ca, .slice (some ⟨gb, 0, none⟩) d cb] (w.drewN t) fun e w' => Reduced (w.drewN t) d k size V e w') := fun t =>
    reduced_any k size d ga gb ca cb V (w.drewN t) k1 k2 s1 s2 (by omega) (by omega) (LA.grew (below_drews t)).src (LB.grew (below_drews t)).src hV
  clear h p2 q2 LA LB hV
  go_enter Try.func28, Try.ntmps28
  go_wp2_with fail
  go_quiet (fail)
  have p1 : (w.drewN nq).cell? ⟨D, 2, none⟩ = some (.slice (some ⟨ga, 0, none⟩) d ca) := p1
  have q1 : (w.drewN nq).cell? ⟨D, 3, none⟩ = some (.slice (some ⟨gb, 0, none⟩) d cb) := q1
  have kc : (w.drewN nq).cell? ⟨D, 0, none⟩ = some (.int .i64 (k : Int)) := kc
  have RD1 : Hid (Calls Try.prog 33 #[.int .i64 (k : Int), .slice (some ⟨ga, 0, none⟩) d ca, .slice (some ⟨gb, 0, none⟩) d cb] (w.drewN nq).drew fun e w' => Reduced (w.drewN nq).drew d k size V e w') := RD.out (nq + 1)
  have Q1 : Hid (Below w.heap.size w (w.drewN nq).drew) := (below_drews nq).drew
  clear RD
  generalize w.drewN nq = w1 at *
  go_wp2_with fail
  refine Hld.begin (fun listed w' => listed.getD 12 true = false → w'.cell? ⟨D, 0, none⟩ = some (.int .i64 (k : Int)) ∧ w'.cell? ⟨D, 2, none⟩ = some (.slice (some ⟨ga, 0, none⟩) d ca) ∧ w'.cell? ⟨D, 3, none⟩ = some (.slice (some ⟨gb, 0, none⟩) d cb)) (by kernel_rfl) ?_
  refine Hld.take (i := 0) (v := .pointer (some ⟨D, 0, none⟩)) rfl (by kernel_rfl) (by kernel_rfl) (by kernel_rfl) (fun _ _ _ h => h) (fun listed w h hl => h (by rw [getD_set_ne true (by decide)]; exact hl)) (Or.inl ⟨by kernel_rfl, fun _ => by kernel_rfl⟩) (fun _ => ⟨kc, p1, q1⟩) ?_
  refine Hld.take (i := 1) (v := .pointer (some ⟨D, 0, none⟩)) rfl (by kernel_rfl) (by kernel_rfl) (by kernel_rfl) (fun _ _ _ h => h) (fun listed w h hl => h (by rw [getD_set_ne true (by decide)]; exact hl)) (Or.inl ⟨by kernel_rfl, fun _ => by kernel_rfl⟩) (fun _ => ⟨kc, p1, q1⟩) ?_
  refine Hld.take (i := 2) (v := .pointer (some ⟨D, 0, none⟩)) rfl (by kernel_rfl) (by kernel_rfl) (by kernel_rfl) (fun _ _ _ h => h) (fun listed w h hl => h (by rw [getD_set_ne true (by decide)]; exact hl)) (Or.inl ⟨by kernel_rfl, fun _ => by kernel_rfl⟩) (fun _ => ⟨kc, p1, q1⟩) ?_
  refine Hld.takeT (i := 3) (v := .int .i64 (k : Int)) 12 (fun w' => w'.cell? ⟨D, 0, none⟩ = some (.int .i64 (k : Int))) rfl (by kernel_rfl) (by kernel_rfl) (by kernel_rfl) (by kernel_rfl) (by kernel_rfl) (fun _ _ _ h => h) (fun listed w h hl => h (by rw [getD_set_ne true (by decide)]; exact hl)) (fun listed w hl h => (h hl).1) (Or.inl ⟨by kernel_rfl, fun W hW => by have g := hW; go_simp⟩) (fun _ => ⟨kc, p1, q1⟩) ?_
  refine Hld.take (i := 4) (v := .pointer (some ⟨D, 0, none⟩)) rfl (by kernel_rfl) (by kernel_rfl) (by kernel_rfl) (fun _ _ _ h => h) (fun listed w h hl => h (by rw [getD_set_ne true (by decide)]; exact hl)) (Or.inl ⟨by kernel_rfl, fun _ => by kernel_rfl⟩) (fun _ => ⟨kc, p1, q1⟩) ?_
  refine Hld.take (i := 5) (v := .pointer (some ⟨D, 0, none⟩)) rfl (by kernel_rfl) (by kernel_rfl) (by kernel_rfl) (fun _ _ _ h => h) (fun listed w h hl => h (by rw [getD_set_ne true (by decide)]; exact hl)) (Or.inl ⟨by kernel_rfl, fun _ => by kernel_rfl⟩) (fun _ => ⟨kc, p1, q1⟩) ?_
  refine Hld.take (i := 6) (v := .pointer (some ⟨D, 2, none⟩)) rfl (by kernel_rfl) (by kernel_rfl) (by kernel_rfl) (fun _ _ _ h => h) (fun listed w h hl => h (by rw [getD_set_ne true (by decide)]; exact hl)) (Or.inl ⟨by kernel_rfl, fun _ => by kernel_rfl⟩) (fun _ => ⟨kc, p1, q1⟩) ?_
  refine Hld.takeT (i := 7) (v := .slice (some ⟨ga, 0, none⟩) d ca) 12 (fun w' => w'.cell? ⟨D, 2, none⟩ = some (.slice (some ⟨ga, 0, none⟩) d ca)) rfl (by kernel_rfl) (by kernel_rfl) (by kernel_rfl) (by kernel_rfl) (by kernel_rfl) (fun _ _ _ h => h) (fun listed w h hl => h (by rw [getD_set_ne true (by decide)]; exact hl)) (fun listed w hl h => (h hl).2.1) (Or.inl ⟨by kernel_rfl, fun W hW => by have g := hW; go_simp⟩) (fun _ => ⟨kc, p1, q1⟩) ?_
  refine Hld.take (i := 8) (v := .pointer (some ⟨D, 0, none⟩)) rfl (by kernel_rfl) (by kernel_rfl) (by kernel_rfl) (fun _ _ _ h => h) (fun listed w h hl => h (by rw [getD_set_ne true (by decide)]; exact hl)) (Or.inl ⟨by kernel_rfl, fun _ => by kernel_rfl⟩) (fun _ => ⟨kc, p1, q1⟩) ?_
  refine Hld.take (i := 9) (v := .pointer (some ⟨D, 0, none⟩)) rfl (by kernel_rfl) (by kernel_rfl) (by kernel_rfl) (fun _ _ _ h => h) (fun listed w h hl => h (by rw [getD_set_ne true (by decide)]; exact hl)) (Or.inl ⟨by kernel_rfl, fun _ => by kernel_rfl⟩) (fun _ => ⟨kc, p1, q1⟩) ?_
  refine Hld.take (i := 10) (v := .pointer (some ⟨D, 3, none⟩)) rfl (by kernel_rfl) (by kernel_rfl) (by kernel_rfl) (fun _ _ _ h => h) (fun listed w h hl => h (by rw [getD_set_ne true (by decide)]; exact hl)) (Or.inl ⟨by kernel_rfl, fun _ => by kernel_rfl⟩) (fun _ => ⟨kc, p1, q1⟩) ?_
  refine Hld.takeT (i := 11) (v := .slice (some ⟨gb, 0, none⟩) d cb) 12 (fun w' => w'.cell? ⟨D, 3, none⟩ = some (.slice (some ⟨gb, 0, none⟩) d cb)) rfl (by kernel_rfl) (by kernel_rfl) (by kernel_rfl) (by kernel_rfl) (by kernel_rfl) (fun _ _ _ h => h) (fun listed w h hl => h (by rw [getD_set_ne true (by decide)]; exact hl)) (fun listed w hl h => (h hl).2.2) (Or.inl ⟨by kernel_rfl, fun W hW => by have g := hW; go_simp⟩) (fun _ => ⟨kc, p1, q1⟩) ?_
  refine Hld.next (i := 12) (by kernel_rfl) rfl (fun K2 hK2 => ?_)
  go_simp
  refine Calls.mono (Hid.out RD1) ?_
  rintro e W7 ⟨ga7, gb7, ca7, cb7, n, Vr, T, rfl, st, -, L7, -, -, -, b7⟩
  have FIN : Hid (Stg d k n V Vr T ∧ Lst W7 gb7 cb7 d size (fun i t => Vr i (k + t)) ∧ Below w.heap.size w W7) := ⟨st, L7, Q1.out.trans (b7.mono Q1.out.size)⟩
  clear st L7 b7
  refine hK2.out _ _ (fun h => absurd (Eq.trans (Eq.symm (by kernel_rfl)) h) (by decide : ¬ (true = false))) ?_
  clear hK2 K2
  refine Hld.take (i := 13) (v := .tuple #[.slice (some ⟨ga7, 0, none⟩) d ca7, .slice (some ⟨gb7, 0, none⟩) d cb7, .int .i64 (n : Int)]) rfl (by kernel_rfl) (by kernel_rfl) (by kernel_rfl) (fun _ _ _ h => h) (fun listed w h hl => h (by rw [getD_set_ne true (by decide)]; exact hl)) (Or.inl ⟨by kernel_rfl, fun _ => by kernel_rfl⟩) (fun h => absurd (Eq.trans (Eq.symm (by kernel_rfl)) h) (by decide : ¬ (true = false))) ?_
  refine Hld.take (i := 14) (v := .slice (some ⟨ga7, 0, none⟩) d ca7) rfl (by kernel_rfl) (by kernel_rfl) (by kernel_rfl) (fun _ _ _ h => h) (fun listed w h hl => h (by rw [getD_set_ne true (by decide)]; exact hl)) (Or.inl ⟨by kernel_rfl, fun _ => by kernel_rfl⟩) (fun h => absurd (Eq.trans (Eq.symm (by kernel_rfl)) h) (by decide : ¬ (true = false))) ?_
  refine Hld.take (i := 15) (v := .slice (some ⟨gb7, 0, none⟩) d cb7) rfl (by kernel_rfl) (by kernel_rfl) (by kernel_rfl) (fun _ _ _ h => h) (fun listed w h hl => h (by rw [getD_set_ne true (by decide)]; exact hl)) (Or.inl ⟨by kernel_rfl, fun _ => by kernel_rfl⟩) (fun h => absurd (Eq.trans (Eq.symm (by kernel_rfl)) h) (by decide : ¬ (true = false))) ?_
  refine Hld.take (i := 16) (v := .int .i64 (n : Int)) rfl (by kernel_rfl) (by kernel_rfl) (by kernel_rfl) (fun _ _ _ h => h) (fun listed w h hl => h (by rw [getD_set_ne true (by decide)]; exact hl)) (Or.inl ⟨by kernel_rfl, fun _ => by kernel_rfl⟩) (fun h => absurd (Eq.trans (Eq.symm (by kernel_rfl)) h) (by decide : ¬ (true = false))) ?_
  refine Hld.next (i := 17) (by kernel_rfl) rfl (fun K2 hK2 => ?_)
  go_simp
  refine hK2.out _ _ (fun h => absurd (Eq.trans (Eq.symm (by kernel_rfl)) h) (by decide : ¬ (true = false))) ?_
  clear hK2 K2
  refine Hld.next (i := 18) (by kernel_rfl) rfl (fun K2 hK2 => ?_)
  go_simp
  refine hK2.out _ _ (fun h => absurd (Eq.trans (Eq.symm (by kernel_rfl)) h) (by decide : ¬ (true = false))) ?_
  clear hK2 K2
  refine Hld.next (i := 19) (by kernel_rfl) rfl (fun K2 hK2 => ?_)
  go_simp
  refine hK2.out _ _ (fun h => absurd (Eq.trans (Eq.symm (by kernel_rfl)) h) (by decide : ¬ (true = false))) ?_
  clear hK2 K2
  refine Hld.done (by kernel_rfl) ?_ _
  go_wp2
  go_ret2
  exact ⟨gb7, cb7, n, Vr, T, rfl, FIN.out.1, FIN.out.2.1, FIN.out.2.2⟩
end Go.Proofs.Ythlidbenhlidjaa
