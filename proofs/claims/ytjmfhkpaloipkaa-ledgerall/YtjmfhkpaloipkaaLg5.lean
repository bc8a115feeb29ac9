/-
  The document's Ledger in memory: Open, Next.
-/
import Derived.Test.YtjmfhkpaloipkaaLg4
namespace Go.Proofs.Ytjmfhkpaloipkaa
open Go.RowKit Go.Deep Go.Maps

set_option maxRecDepth 100000 in
set_option maxHeartbeats 1000000 in
theorem rlopen_was (r bk bn t x : Nat) (k : Int) (G : Lg.St) (w : World) (h : RLedAt w r bk bn t G) (hx : x < 4294967296) (g : (G x).isSome = true) :
    Calls Try.prog 11 #[.pointer (some ⟨r, 0, none⟩), .int .u32 (x : Int), .int .i64 k] w fun e w' => e = .returned (.bool false) ∧ w' = w := by
  have hl := h.lookK hx
  have hc := h.cK
  have q : 0 < Lg.kk (G x) := by
    cases e : G x with
    | none => rw [e] at g; cases g
    | some p => have := h.wf x p.1 p.2 e; show 0 < p.1; omega
  generalize Lg.kk (G x) = kx at *
  have q1 : decide (0 < kx) = true := decide_eq_true q
  have q2 : decide (0 < (kx : Int)) = true := decide_eq_true (by omega)
  clear h g q
  go_enter Try.func11, Try.ntmps11
  go_wp2
  go_ret
  exact ⟨rfl, rfl⟩
set_option maxRecDepth 100000 in
set_option maxHeartbeats 1000000 in
theorem rlopen_few (r bk bn t x : Nat) (k : Int) (G : Lg.St) (w : World) (h : RLedAt w r bk bn t G) (hx : x < 4294967296) (g : G x = none) (hk : k < 1) :
    Calls Try.prog 11 #[.pointer (some ⟨r, 0, none⟩), .int .u32 (x : Int), .int .i64 k] w fun e w' => e = .returned (.bool false) ∧ w' = w := by
  have hl := h.lookK hx
  rw [g] at hl
  have hl' : (Instr.lookup 43 (.map (some bk)) (.int .u32 (x : Int)) false).run Try.prog w = .ok (.int .i64 0) w := hl
  have hc := h.cK
  have k1 : decide (k < 1) = true := decide_eq_true hk
  clear h g hl hk
  go_enter Try.func11, Try.ntmps11
  go_wp2
  go_ret
  exact ⟨rfl, rfl⟩
set_option maxRecDepth 100000 in
set_option maxHeartbeats 1000000 in
theorem rlopen_many (r bk bn t x : Nat) (k : Int) (G : Lg.St) (w : World) (h : RLedAt w r bk bn t G) (hx : x < 4294967296) (g : G x = none) (hk : 32 < k) :
    Calls Try.prog 11 #[.pointer (some ⟨r, 0, none⟩), .int .u32 (x : Int), .int .i64 k] w fun e w' => e = .returned (.bool false) ∧ w' = w := by
  have hl := h.lookK hx
  rw [g] at hl
  have hl' : (Instr.lookup 43 (.map (some bk)) (.int .u32 (x : Int)) false).run Try.prog w = .ok (.int .i64 0) w := hl
  have hc := h.cK
  have k1 : decide (k < 1) = false := decide_eq_false (by omega)
  have k2 : decide (32 < k) = true := decide_eq_true hk
  clear h g hl hk
  go_enter Try.func11, Try.ntmps11
  go_wp2
  go_ret
  exact ⟨rfl, rfl⟩
set_option maxRecDepth 100000 in
set_option maxHeartbeats 2000000 in
theorem rlopen_yes (r bk bn t x k : Nat) (G : Lg.St) (w : World) (h : RLedAt w r bk bn t G) (hx : x < 4294967296) (g : G x = none) (h1 : 1 ≤ k) (h2 : k ≤ 32) (ht : t < 1000000) :
    Calls Try.prog 11 #[.pointer (some ⟨r, 0, none⟩), .int .u32 (x : Int), .int .i64 (k : Int)] w fun e w' => e = .returned (.bool true) ∧ RLedAt w' r bk bn (t + 2) (Lg.put G x (some (k, 0))) ∧ KeptF (RLedOwn bk bn) w w' := by
  have hl := h.lookK hx
  rw [g] at hl
  have hl' : (Instr.lookup 43 (.map (some bk)) (.int .u32 (x : Int)) false).run Try.prog w = .ok (.int .i64 0) w := hl
  have hc := h.cK
  have hd := h.cN
  have k1 : decide ((k : Int) < 1) = false := decide_eq_false (by omega)
  have k2 : decide (32 < (k : Int)) = false := decide_eq_false (by omega)
  obtain ⟨FK, FN, m1, m2, m3, m4⟩ := h.maps
  obtain ⟨l1, l2, l3⟩ := h.lt
  have ne1 : ∀ {i : Nat}, i ≠ bk → some i ≠ some bk := fun e q => e (Option.some.inj q)
  have ne2 : ∀ {i : Nat}, i ≠ bn → some i ≠ some bn := fun e q => e (Option.some.inj q)
  have m1d : IdxAt w.drew bk t FK := m1.block rfl
  obtain ⟨v1, s1, w1, a1, a2, a3, a4⟩ := m1d.entry (x := x) hx ht
  obtain ⟨w2, b1, b2, b3, b4⟩ := a4 w1 k (by omega) rfl
  have G2 : w.drew.grownBy w2 (some bk) := a2.trans b3
  have m2d : IdxAt w2 bn t FN := m2.block (G2.block bn l3 (ne1 h.n3.symm))
  obtain ⟨v3, s3, w3, c1, c2, c3, c4⟩ := m2d.entry (x := x) hx ht
  obtain ⟨w4, d1, d2, d3, d4⟩ := c4 w3 0 (by omega) rfl
  have d1' : (Instr.entryStore 43 (.map (some bn)) (.int .i64 s3) (.int .i64 0)).run Try.prog w3 = .ok () w4 := d1
  have G4 : w2.grownBy w4 (some bn) := c2.trans d3
  have hc0 : w.drew.cell? ⟨r, 0, none⟩ = some (.map (some bk)) := hc
  have hd0 : w.drew.cell? ⟨r, 1, none⟩ = some (.map (some bn)) := hd
  have hd1 : w1.cell? ⟨r, 1, none⟩ = some (.map (some bn)) := (World.cell?_of_block (a2.block r l1 (ne1 h.n1))).trans hd
  have hd2 : w2.cell? ⟨r, 1, none⟩ = some (.map (some bn)) := (World.cell?_of_block (G2.block r l1 (ne1 h.n1))).trans hd
  have K2 : KeptF (RLedOwn bk bn) w w2 := (KeptF.of_below (F := RLedOwn bk bn) (w := w) (w' := w.drew) ⟨rfl, rfl, rfl, Nat.le_refl _, fun _ _ => rfl⟩).trans (KeptF.of_grown G2 fun R e => .inl (Option.some.inj e).symm)
  have K4 : KeptF (RLedOwn bk bn) w w4 := K2.trans (KeptF.of_grown G4 fun R e => .inr (Option.some.inj e).symm)
  have e4 : w4.heap[r]? = w.heap[r]? := (G4.block r (Nat.lt_of_lt_of_le l1 K2.size) (ne2 h.n2)).trans (G2.block r l1 (ne1 h.n1))
  have HE : Hid (RLedAt w4 r bk bn (t + 2) (Lg.put G x (some (k, 0))) ∧ KeptF (RLedOwn bk bn) w w4) := by
    refine ⟨⟨(World.cell?_of_block e4).trans h.cK, (World.cell?_of_block e4).trans h.cN, ⟨_, _, b2.block (G4.block bk (Nat.lt_of_lt_of_le l2 K2.size) (ne2 h.n3)), d2, fun y => ?_, fun y p hy => ?_⟩, Lg.wf_put h.wf x _ fun _ _ q => (by cases q; omega), h.n1, h.n2, h.n3⟩, K4⟩
    · by_cases e : y = x
      · subst e; rw [Lg.put_same, if_pos rfl]; rfl
      · rw [Lg.put_other _ _ e, if_neg e]; exact m3 y
    · by_cases e : y = x
      · subst e; rw [Lg.put_same] at hy; cases hy; exact if_pos rfl
      · rw [Lg.put_other _ _ e] at hy; rw [if_neg e]; exact m4 y p hy
  clear h g hl h1 h2 m1 m2 m3 m4 l1 l2 l3 ne1 ne2 m1d a2 a3 a4 b2 b3 b4 G2 m2d c2 c3 c4 d1 d2 d3 d4 G4 K2 K4 e4
  go_enter Try.func11, Try.ntmps11
  go_wp2_with fail
  go_region
  go_wp2
  go_ret
  exact ⟨rfl, HE.out⟩
theorem rlopen_any (r bk bn t x : Nat) (k : Int) (G : Lg.St) (w : World) (h : RLedAt w r bk bn t G) (hx : x < 4294967296) (ht : t < 1000000) :
    Calls Try.prog 11 #[.pointer (some ⟨r, 0, none⟩), .int .u32 (x : Int), .int .i64 k] w fun e w' => e = .returned (.bool (Lg.okay (G x) k)) ∧ RLedAt w' r bk bn (t + 2) (Lg.opened G x k) ∧ KeptF (RLedOwn bk bn) w w' := by
  have no : Lg.okay (G x) k = false → (∀ e w', e = Ending.returned (.bool false) ∧ w' = w → e = .returned (.bool (Lg.okay (G x) k)) ∧ RLedAt w' r bk bn (t + 2) (Lg.opened G x k) ∧ KeptF (RLedOwn bk bn) w w') := by
    rintro e0 e w' ⟨rfl, rfl⟩
    have e1 : Lg.opened G x k = G := by unfold Lg.opened; rw [e0]; rfl
    rw [e0, e1]
    exact ⟨rfl, h.mono (by omega), KeptF.refl _ _⟩
  by_cases g : (G x).isSome = true
  · exact (rlopen_was r bk bn t x k G w h hx g).mono fun e w' => no (by
      cases q : G x with
      | none => rw [q] at g; cases g
      | some p => rfl) e w'
  have gn : G x = none := by simpa using g
  by_cases k1 : k < 1
  · exact (rlopen_few r bk bn t x k G w h hx gn k1).mono fun e w' => no (by simp [Lg.okay, gn]; omega) e w'
  by_cases k2 : 32 < k
  · exact (rlopen_many r bk bn t x k G w h hx gn k2).mono fun e w' => no (by simp [Lg.okay, gn]; omega) e w'
  have yes : Lg.okay (G x) k = true := by simp [Lg.okay, gn]; omega
  obtain ⟨n, rfl⟩ : ∃ n : Nat, k = n := ⟨k.toNat, by omega⟩
  have e1 : Lg.opened G x (n : Int) = Lg.put G x (some (n, 0)) := by unfold Lg.opened; rw [yes]; rfl
  rw [yes, e1]
  exact rlopen_yes r bk bn t x n G w h hx gn (by omega) (by omega) ht
set_option maxRecDepth 100000 in
set_option maxHeartbeats 1000000 in
theorem rlnext_none (r bk bn t x : Nat) (G : Lg.St) (w : World) (h : RLedAt w r bk bn t G) (hx : x < 4294967296) (h0 : Lg.lft (G x) = 0) :
    Calls Try.prog 15 #[.pointer (some ⟨r, 0, none⟩), .int .u32 (x : Int)] w fun e w' => e = .returned (.tuple #[.int .i64 0, .bool false]) ∧ w' = w := by
  have hL := rlleft_any r bk bn t x G w h hx
  rw [h0] at hL
  go_enter Try.func15, Try.ntmps15
  go_wp2_with fail
  refine hL.mono ?_
  rintro e w' ⟨rfl, rfl⟩
  go_wp2
  go_ret2
  exact ⟨rfl, rfl⟩
set_option maxRecDepth 100000 in
set_option maxHeartbeats 2000000 in
theorem rlnext_yes (r bk bn t x k n : Nat) (G : Lg.St) (w : World) (h : RLedAt w r bk bn t G) (hx : x < 4294967296) (g : G x = some (k, n)) (h0 : n < 64) (ht : t < 1000000) :
    Calls Try.prog 15 #[.pointer (some ⟨r, 0, none⟩), .int .u32 (x : Int)] w fun e w' => e = .returned (.tuple #[.int .i64 ((k + n : Nat) : Int), .bool true]) ∧ RLedAt w' r bk bn (t + 2) (Lg.put G x (some (k, n + 1))) ∧ KeptF (RLedOwn bk bn) w w' := by
  have hL := rlleft_some r bk bn t x k n G w h hx g
  have hl : (Instr.lookup 43 (.map (some bn)) (.int .u32 (x : Int)) false).run Try.prog w = .ok (.int .i64 (n : Int)) w := h.lookN hx g
  have hc := h.cK
  have hd := h.cN
  obtain ⟨g1, g2, g3⟩ := h.wf x k n g
  obtain ⟨FK, FN, m1, m2, m3, m4⟩ := h.maps
  obtain ⟨l1, l2, l3⟩ := h.lt
  obtain ⟨w1, a1, a2, a3⟩ := m2.put (x := x) (q := n + 1) hx (by omega) (by omega)
  have b1 := a3.block r l1 fun e => h.n2 (Option.some.inj e)
  have H1 : RLedAt w1 r bk bn (t + 2) (Lg.put G x (some (k, n + 1))) := by
    refine ⟨(World.cell?_of_block b1).trans h.cK, (World.cell?_of_block b1).trans h.cN, ⟨FK, _, (m1.block (a3.block bk l2 fun e => h.n3 (Option.some.inj e))).mono (by omega), a2.mono (by omega), fun y => ?_, fun y p hy => ?_⟩, Lg.wf_put h.wf x _ fun _ _ q => (by cases q; omega), h.n1, h.n2, h.n3⟩
    · by_cases e : y = x
      · subst e; rw [Lg.put_same, m3, g]; rfl
      · rw [Lg.put_other _ _ e]; exact m3 y
    · by_cases e : y = x
      · subst e; rw [Lg.put_same] at hy; cases hy; exact if_pos rfl
      · rw [Lg.put_other _ _ e] at hy; rw [if_neg e]; exact m4 y p hy
  have Hd : RLedAt w1.drew r bk bn (t + 2) (Lg.put G x (some (k, n + 1))) := H1.grew (below_drews 1)
  have q1 : (Instr.lookup 43 (.map (some bk)) (.int .u32 (x : Int)) false).run Try.prog w1.drew = .ok (.int .i64 (k : Int)) w1.drew := by
    have := Hd.lookK hx
    rw [Lg.put_same] at this
    exact this
  have q2 : (Instr.lookup 43 (.map (some bn)) (.int .u32 (x : Int)) false).run Try.prog w1.drew = .ok (.int .i64 ((n : Int) + 1)) w1.drew := Hd.lookN hx (Lg.put_same _ _ _)
  have hc1 := H1.cK
  have hd1 := H1.cN
  have K1 : KeptF (RLedOwn bk bn) w w1 := KeptF.of_grown a3 fun R e => .inr (Option.some.inj e).symm
  have e1 : IntKind.i64.wrap ((n : Int) + 1) = (n : Int) + 1 := by simp [IntKind.wrap, IntKind.bits, IntKind.signed]; omega
  have e2 : IntKind.i64.wrap ((k : Int) + ((n : Int) + 1)) = (k : Int) + ((n : Int) + 1) := by simp [IntKind.wrap, IntKind.bits, IntKind.signed]; omega
  have e3 : IntKind.i64.wrap ((k : Int) + ((n : Int) + 1) - 1) = ((k + n : Nat) : Int) := by simp [IntKind.wrap, IntKind.bits, IntKind.signed]; omega
  have a1' : (Instr.mapUpdate 43 (.map (some bn)) (.int .u32 (x : Int)) (.int .i64 ((n : Int) + 1))).run Try.prog w = .ok () w1 := a1
  have HE : Hid (RLedAt w1.drew r bk bn (t + 2) (Lg.put G x (some (k, n + 1))) ∧ KeptF (RLedOwn bk bn) w w1.drew) := ⟨Hd, K1.trans (KeptF.of_below (below_drews 1))⟩
  have hz : (((64 - n : Nat) : Int) == 0) = false := by rw [beq_eq_false_iff_ne]; omega
  obtain ⟨L, eL⟩ : ∃ L, 64 - n = L := ⟨_, rfl⟩
  rw [eL] at hL hz
  clear h g m1 m2 m3 m4 a2 a3 b1 H1 K1 a1 g1 g2 g3 eL l1 l2 l3 Hd
  go_enter Try.func15, Try.ntmps15
  go_wp2_with fail
  refine hL.mono ?_
  rintro e w' ⟨rfl, rfl⟩
  go_wp2_with fail
  go_region
  go_wp2
  go_ret2
  exact ⟨rfl, HE.out⟩
theorem rlnext_any (r bk bn t x : Nat) (G : Lg.St) (w : World) (h : RLedAt w r bk bn t G) (hx : x < 4294967296) (ht : t < 1000000) :
    Calls Try.prog 15 #[.pointer (some ⟨r, 0, none⟩), .int .u32 (x : Int)] w fun e w' => e = .returned (.tuple #[.int .i64 (Lg.ans (G x) : Int), .bool (Lg.yes (G x))]) ∧ RLedAt w' r bk bn (t + 2) (Lg.next G x) ∧ KeptF (RLedOwn bk bn) w w' := by
  by_cases h0 : Lg.lft (G x) = 0
  · refine (rlnext_none r bk bn t x G w h hx h0).mono ?_
    rintro e w' ⟨rfl, rfl⟩
    have e1 : Lg.next G x = G := by unfold Lg.next; rw [if_pos h0]
    have e2 : Lg.ans (G x) = 0 := by unfold Lg.ans; rw [if_pos h0]
    have e3 : Lg.yes (G x) = false := by unfold Lg.yes; rw [h0]; rfl
    rw [e1, e2, e3]
    exact ⟨rfl, h.mono (by omega), KeptF.refl _ _⟩
  · have e1 : Lg.next G x = Lg.put G x (Lg.told (G x)) := by unfold Lg.next; rw [if_neg h0]
    have e2 : Lg.ans (G x) = Lg.nxt (G x) := by unfold Lg.ans; rw [if_neg h0]
    have e3 : Lg.yes (G x) = true := by unfold Lg.yes; exact decide_eq_true (by omega)
    rw [e1, e2, e3]
    cases g : G x with
    | none => rw [g] at h0; exact absurd rfl h0
    | some p =>
      rw [g] at h0
      have h0' : ¬ 64 - p.2 = 0 := h0
      exact rlnext_yes r bk bn t x p.1 p.2 G w h hx g (by omega) ht
end Go.Proofs.Ytjmfhkpaloipkaa
