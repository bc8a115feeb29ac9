/-
  Package frame: what its demands come to.
-/
import Derived.Test.YtmbpfdnadjemcaaFrm
import Derived.Test.YtmbpfdnadjemcaaCnt
namespace Go.Proofs.Ytmbpfdnadjemcaa
open Go.RowKit Go.Deep

/-- What package frame panics with. -/
def why (E : Int) : List PanicEntry := [{ v := .iface 34 (.int .i64 E), recovered := false }]

theorem fdemand_yes (b : Bool) (E : Int) (w : World) (h : b = true) :
    Calls Try.prog 28 #[.bool b, .int .i64 E] w fun e w' => e = .returned (.tuple #[]) ∧ w' = w := by
  subst h
  go_enter Try.func28, Try.ntmps28
  go_wp2
  go_end0
  exact ⟨rfl, rfl⟩

theorem fdemand_no (b : Bool) (E : Int) (w : World) (h : b = false) :
    Calls Try.prog 28 #[.bool b, .int .i64 E] w fun e w' => e = .panicked (why E) ∧ w' = w := by
  subst h
  go_enter Try.func28, Try.ntmps28
  go_wp2
  exact ⟨rfl, rfl, rfl⟩

/-- The first demand that does not hold is told, or all hold. -/
def Asks (w : World) (E : Int) (ok : Prop) (e : Ending) (w' : World) : Prop :=
  Below w.heap.size w w' ∧ ((ok ∧ e = .returned (.tuple #[])) ∨ (¬ ok ∧ e = .panicked (why E)))

/-- Kind and times that a frame may have. -/
def Fr.terms (f : Fr) : Prop := (f.k = 1 ∨ f.k = 2 ∨ f.k = 3) ∧ 0 ≤ f.p ∧ f.p ≤ f.d ∧ f.d ≤ 1099511627776
/-- The world with a variable that holds f. -/
theorem box_below (w : World) (B : Obj) : Below w.heap.size w (w.alloc B) := (Below.refl _ _).alloc (Nat.le_refl _) _

set_option maxRecDepth 100000 in
theorem terms_any (f : Fr) (w : World) : Calls Try.prog 24 #[f.val] w (Asks w 1 f.terms) := by
  have HB : Hid (Below w.heap.size w (w.alloc (.cells #[.int .u32 (f.id : Int), .int .i64 f.k, .slice f.a f.n f.c, .int .i64 f.s, .int .i64 f.p, .int .i64 f.d] 26))) := box_below w _
  by_cases hk : f.k = 1 ∨ f.k = 2 ∨ f.k = 3
  · by_cases ht : 0 ≤ f.p ∧ f.p ≤ f.d ∧ f.d ≤ 1099511627776
    · have HT : Hid f.terms := ⟨hk, ht⟩
      obtain ⟨id, k, a, n, c, s, p, d⟩ := f
      obtain ⟨h1, h2, h3⟩ := ht
      simp only at hk h1 h2 h3 HB
      unfold Fr.val
      rcases hk with rfl | rfl | rfl
      all_goals
        go_enter Try.func24, Try.ntmps24
        go_wp2_with fail
        refine (fdemand_yes _ _ _ (by simp)).mono ?_
        rintro e w1 ⟨rfl, rfl⟩
        go_wp2_with fail
        refine (fdemand_yes _ _ _ (by simp <;> omega)).mono ?_
        rintro e w1 ⟨rfl, rfl⟩
        go_wp2
        go_end0
        exact ⟨HB.out, .inl ⟨HT.out, rfl⟩⟩
    · have HT : Hid (¬ f.terms) := fun h => ht h.2
      obtain ⟨id, k, a, n, c, s, p, d⟩ := f
      simp only at hk ht HB
      unfold Fr.val
      rcases hk with rfl | rfl | rfl
      all_goals
        go_enter Try.func24, Try.ntmps24
        go_wp2_with fail
        refine (fdemand_yes _ _ _ (by simp)).mono ?_
        rintro e w1 ⟨rfl, rfl⟩
        go_wp2_with fail
        all_goals
          refine (fdemand_no _ _ _ (by simp <;> omega)).mono ?_
          rintro e w1 ⟨rfl, rfl⟩
          go_wp2
          exact ⟨rfl, HB.out, .inr ⟨HT.out, rfl⟩⟩
  · have HT : Hid (¬ f.terms) := fun h => hk h.1
    obtain ⟨id, k, a, n, c, s, p, d⟩ := f
    simp only at hk HB
    have k1 : (k == 1) = false := by simp; omega
    have k2 : (k == 2) = false := by simp; omega
    have k3 : (k == 3) = false := by simp; omega
    unfold Fr.val
    go_enter Try.func24, Try.ntmps24
    go_wp2_with fail
    refine (fdemand_no _ _ _ (by simp <;> omega)).mono ?_
    rintro e w1 ⟨rfl, rfl⟩
    go_wp2
    exact ⟨rfl, HB.out, .inr ⟨HT.out, rfl⟩⟩

/-- Bytes that can be cut in such symbols. -/
def cuts (n s : Int) : Prop := 1 ≤ s ∧ s ≤ 64 ∧ 1 ≤ n ∧ n ≤ 32 * s
theorem size_any (n s : Int) (w : World) : Calls Try.prog 25 #[.int .i64 n, .int .i64 s] w (Asks w 4 (cuts n s)) := by
  by_cases h : cuts n s
  · have HT : Hid (cuts n s) := h
    obtain ⟨h1, h2, h3, h4⟩ := h
    obtain ⟨n, rfl⟩ : ∃ q : Nat, n = q := ⟨n.toNat, by omega⟩
    obtain ⟨s, rfl⟩ : ∃ q : Nat, s = q := ⟨s.toNat, by omega⟩
    go_enter Try.func25, Try.ntmps25
    go_wp2_with fail
    refine (face_count_yes n s _ (by omega) (by omega) (by omega) (by omega)).mono ?_
    rintro e w1 ⟨rfl, hb⟩
    go_wp2_with fail
    refine (fdemand_yes _ _ _ rfl).mono ?_
    rintro e w2 ⟨rfl, rfl⟩
    go_wp2
    go_end0
    exact ⟨hb, .inl ⟨HT.out, rfl⟩⟩
  · have HT : Hid (¬ cuts n s) := h
    go_enter Try.func25, Try.ntmps25
    go_wp2_with fail
    refine (face_count_no n s _ h).mono ?_
    clear h
    rintro e w1 ⟨rfl, hb⟩
    go_wp2_with fail
    refine (fdemand_no _ _ _ rfl).mono ?_
    rintro e w2 ⟨rfl, rfl⟩
    go_wp2
    exact ⟨rfl, hb, .inr ⟨HT.out, rfl⟩⟩

/-- Behind the last of the known ones. -/
def Fr.turn (f : Fr) (m : Nat) (K : Nat → Fr) : Prop := m = 0 ∨ ((K (m - 1)).id < f.id ∧ (K (m - 1)).p ≤ f.p ∧ (K (m - 1)).d ≤ f.d)
set_option maxRecDepth 100000 in
theorem order_any (f : Fr) (a : Option Addr) (m c : Nat) (K : Nat → Fr) (w : World) (hm : m ≤ 1000) (HK : Hid (FrsAt w a m K)) :
    Calls Try.prog 26 #[f.val, .slice a m c] w (Asks w 5 (f.turn m K)) := by
  have B1 : Below w.heap.size w (w.alloc (.cells #[.int .u32 (f.id : Int), .int .i64 f.k, .slice f.a f.n f.c, .int .i64 f.s, .int .i64 f.p, .int .i64 f.d] 26)) := box_below w _
  by_cases h0 : m = 0
  · subst h0
    have HB : Hid (Below w.heap.size w (w.alloc (.cells #[.int .u32 (f.id : Int), .int .i64 f.k, .slice f.a f.n f.c, .int .i64 f.s, .int .i64 f.p, .int .i64 f.d] 26))) := B1
    clear B1
    unfold Fr.val
    go_enter Try.func26, Try.ntmps26
    go_wp2
    go_end0
    exact ⟨HB.out, .inl ⟨.inl rfl, rfl⟩⟩
  · have h1 : ((m : Int) == 0) = false := by simp; omega
    obtain ⟨b, o, rfl⟩ := HK.out.addr (by omega)
    obtain ⟨q0, q1, q2, q3, q4, q5⟩ := (HK.out.grew B1).at (m - 1) (by omega)
    have HO : Hid (f.turn m K ↔ ((K (m - 1)).id < f.id ∧ (K (m - 1)).p ≤ f.p ∧ (K (m - 1)).d ≤ f.d)) := ⟨fun h => h.resolve_left h0, .inr⟩
    have F1 := FrAt.made w 26 f
    have B2 := box_below (w.alloc (.cells #[.int .u32 (f.id : Int), .int .i64 f.k, .slice f.a f.n f.c, .int .i64 f.s, .int .i64 f.p, .int .i64 f.d] 26)) (.cells #[.int .u32 ((K (m - 1)).id : Int), .int .i64 (K (m - 1)).k, .slice (K (m - 1)).a (K (m - 1)).n (K (m - 1)).c, .int .i64 (K (m - 1)).s, .int .i64 (K (m - 1)).p, .int .i64 (K (m - 1)).d] 26)
    have F2 := F1.grew B2
    have L2 := FrAt.made (w.alloc (.cells #[.int .u32 (f.id : Int), .int .i64 f.k, .slice f.a f.n f.c, .int .i64 f.s, .int .i64 f.p, .int .i64 f.d] 26)) 26 (K (m - 1))
    have HB : Hid (Below w.heap.size w ((w.alloc (.cells #[.int .u32 (f.id : Int), .int .i64 f.k, .slice f.a f.n f.c, .int .i64 f.s, .int .i64 f.p, .int .i64 f.d] 26)).alloc (.cells #[.int .u32 ((K (m - 1)).id : Int), .int .i64 (K (m - 1)).k, .slice (K (m - 1)).a (K (m - 1)).n (K (m - 1)).c, .int .i64 (K (m - 1)).s, .int .i64 (K (m - 1)).p, .int .i64 (K (m - 1)).d] 26))) := B1.trans (B2.mono B1.size)
    rw [show (w.alloc (.cells #[.int .u32 (f.id : Int), .int .i64 f.k, .slice f.a f.n f.c, .int .i64 f.s, .int .i64 f.p, .int .i64 f.d] 26)).heap.size = w.heap.size + 1 by simp] at L2
    obtain ⟨f0, f1, f2, f3, f4, f5, -⟩ := F2
    obtain ⟨l0, l1, l2, l3, l4, l5, -⟩ := L2
    clear B1 B2 F1
    by_cases ht : (K (m - 1)).id < f.id ∧ (K (m - 1)).p ≤ f.p ∧ (K (m - 1)).d ≤ f.d
    · have HT : Hid (f.turn m K) := HO.out.2 ht
      obtain ⟨t1, t2, t3⟩ := ht
      clear HO
      unfold Fr.val
      go_enter Try.func26, Try.ntmps26
      go_wp2_with fail
      refine (fdemand_yes _ _ _ (by simp <;> omega)).mono ?_
      rintro e w1 ⟨rfl, rfl⟩
      go_wp2
      go_end0
      exact ⟨HB.out, .inl ⟨HT.out, rfl⟩⟩
    · have HT : Hid (¬ f.turn m K) := fun h => ht (HO.out.1 h)
      clear HO
      unfold Fr.val
      go_enter Try.func26, Try.ntmps26
      go_wp2_with fail
      all_goals
        refine (fdemand_no _ _ _ (by simp <;> omega)).mono ?_
        rintro e w1 ⟨rfl, rfl⟩
        go_wp2
        exact ⟨rfl, HB.out, .inr ⟨HT.out, rfl⟩⟩
end Go.Proofs.Ytmbpfdnadjemcaa
