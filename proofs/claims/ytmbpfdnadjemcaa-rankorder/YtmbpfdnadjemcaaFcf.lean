/-
  Package frame: its face, Check.
-/
import Derived.Test.YtmbpfdnadjemcaaFcr
namespace Go.Proofs.Ytmbpfdnadjemcaa
open Go.RowKit Go.Deep

theorem assertF_no (w : World) : (Instr.typeAssert .nilIface 20 34 true).run Try.prog w = .ok (.tuple #[.int .i64 0, .bool false]) w := by kernel_rfl
theorem assertF_yes (E : Int) (w : World) : (Instr.typeAssert (.iface 34 (.int .i64 E)) 20 34 true).run Try.prog w = .ok (.tuple #[.int .i64 E, .bool true]) w := by kernel_rfl
theorem tmpsF (n : Nat) (a v2 v3 v4 v5 v6 v7 v8 : Value) : #[a] ++ (((((((Array.replicate (n + 7) undef).setIfInBounds 3 v5).setIfInBounds 4 v6).setIfInBounds 2 v4).setIfInBounds 5 v7).setIfInBounds 6 v8).setIfInBounds 0 v2).setIfInBounds 1 v3 = #[a, v2, v3, v4, v5, v6, v7, v8] ++ Array.replicate n undef := by
  apply Array.toList_inj.mp
  simp [List.replicate_succ]
theorem catchF_idle (B : Nat) (w : World) :
    CallsD Try.prog 23 #[.pointer (some ⟨B, 0, none⟩)] .returning w fun e u' w' => e = .returned (.tuple #[]) ∧ u' = .returning ∧ w' = w := by
  refine callsD_of_wpS Try.func23 rfl fun c₀ cs hu => ?_
  apply wpS_seq
  apply wpS_region
  simp [wpOpsS, go_sem, recoverD, hu, assertF_no, Try.ntmps23, Exit.thenS]
  refine wpS_of_wp ?_
  rw [tmpsF 2]
  go_wp2
  cases c₀
  simp_all [bodyPostS, results, Try.results23]
theorem catchF_yes (B : Nat) (x : Value) (E : Int) (older : List PanicEntry) (w : World) (hc : w.cell? ⟨B, 0, none⟩ = some x) (hz : w.frozen? ⟨B, 0, none⟩ = false) :
    CallsD Try.prog 23 #[.pointer (some ⟨B, 0, none⟩)] (.panicking ({ v := .iface 34 (.int .i64 E), recovered := false } :: older)) w fun e u' w' =>
      e = .returned (.tuple #[]) ∧ u' = .panicking ({ v := .iface 34 (.int .i64 E), recovered := true } :: older) ∧ w' = w.setCell ⟨B, 0, none⟩ (.int .i64 E) := by
  refine callsD_of_wpS Try.func23 rfl fun c₀ cs hu => ?_
  apply wpS_seq
  apply wpS_region
  simp [wpOpsS, go_sem, recoverD, hu, assertF_yes, Try.ntmps23, Exit.thenS]
  refine wpS_of_wp ?_
  rw [tmpsF 2]
  go_wp2
  cases c₀
  simp_all [bodyPostS, results, Try.results23]

instance (f : Fr) : Decidable f.terms := by unfold Fr.terms; infer_instance
instance (n s : Int) : Decidable (cuts n s) := by unfold cuts; infer_instance
instance (f : Fr) (m : Nat) (K : Nat → Fr) : Decidable (f.turn m K) := by unfold Fr.turn; infer_instance
instance (r : Nat → Int) (m : Nat) (K : Nat → Fr) (i : Nat) : Decidable (∃ q, q < m ∧ ((K q).id : Int) = r i) :=
  decidable_of_iff (¬ ∀ q, q < m → ((K q).id : Int) ≠ r i) ⟨fun h => Classical.byContradiction fun g => h fun q h1 h2 => g ⟨q, h1, h2⟩, fun ⟨q, h1, h2⟩ h => h q h1 h2⟩
instance (r : Nat → Int) (m : Nat) (K : Nat → Fr) (i : Nat) : Decidable (good r m K i) := by unfold good; infer_instance
instance (f : Fr) (r : Nat → Int) (m : Nat) (K : Nat → Fr) : Decidable (f.refs r m K) := by unfold Fr.refs; infer_instance
/-- What Check answers. -/
def chk (f : Fr) (r : Nat → Int) (m : Nat) (K : Nat → Fr) (t s : Int) : Int :=
  if ¬ f.terms then 1 else if ¬ cuts f.s s then 4 else if ¬ f.turn m K then 5 else if ¬ f.refs r m K then 6 else if f.d ≤ t then 7 else if 100 ≤ m then 8 else 0
/-- A frame's Refs, as they must be in memory. -/
structure RefsAt (w : World) (f : Fr) (r : Nat → Int) : Prop where
  nums : NumsAt .u32 w f.a f.n r
  cap : f.n ≤ f.c
  len : f.n ≤ 1000
theorem RefsAt.grew {w w' : World} {f : Fr} {r : Nat → Int} (h : RefsAt w f r) (hb : Below w.heap.size w w') : RefsAt w' f r := ⟨h.nums.grew hb, h.cap, h.len⟩

/-- The face's two variables: the frame, and what is told. -/
structure Fc (w : World) (B : Nat) (f : Fr) : Prop where
  fr : FrAt w B f
  res : w.cell? ⟨B + 1, 0, none⟩ = some (.int .i64 0)
  frz : w.frozen? ⟨B + 1, 0, none⟩ = false
theorem Fc.grew {w w' : World} {B : Nat} {f : Fr} (h : Fc w B f) (hb : Below w.heap.size w w') : Fc w' B f :=
  ⟨h.fr.grew hb, (hb.cell (p := ⟨B + 1, 0, none⟩) (cell_lt h.res)).trans h.res, (World.frozen?_of_block (a := ⟨B + 1, 0, none⟩) (hb.block (B + 1) (cell_lt h.res))).trans h.frz⟩
/-- A number, and nothing of what lay there turned. -/
def NumIs (w : World) (E : Int) (e : Ending) (w' : World) : Prop := e = .returned (.int .i64 E) ∧ Below w.heap.size w w'

set_option maxRecDepth 100000 in
set_option maxHeartbeats 1000000 in
theorem check_any (f : Fr) (r : Nat → Int) (a : Option Addr) (m c : Nat) (K : Nat → Fr) (t s : Int) (w : World) (hm : m ≤ 1000) (HR : Hid (RefsAt w f r)) (HK : Hid (FrsAt w a m K)) :
    Calls Try.prog 12 #[f.val, .slice a m c, .int .i64 t, .int .i64 s] w (NumIs w (chk f r m K t s)) := by
  have hmf : ∀ (fn : Fn) (first cap : Array Value) (w : World), (Instr.makeFunc fn first cap).run Try.prog w = .ok (.func fn first cap) w := fun _ _ _ _ => rfl
  have HX : Hid (chk f r m K t s = if ¬ f.terms then 1 else if ¬ cuts f.s s then 4 else if ¬ f.turn m K then 5 else if ¬ f.refs r m K then 6 else if f.d ≤ t then 7 else if 100 ≤ m then 8 else 0) := rfl
  generalize chk f r m K t s = E at *
  have B1 := box_below w (.cells #[.int .u32 (f.id : Int), .int .i64 f.k, .slice f.a f.n f.c, .int .i64 f.s, .int .i64 f.p, .int .i64 f.d] 26)
  have B2 := box_below (w.alloc (.cells #[.int .u32 (f.id : Int), .int .i64 f.k, .slice f.a f.n f.c, .int .i64 f.s, .int .i64 f.p, .int .i64 f.d] 26)) (.cells #[.int .i64 0] 34)
  have BB : Hid (Below w.heap.size w ((w.alloc (.cells #[.int .u32 (f.id : Int), .int .i64 f.k, .slice f.a f.n f.c, .int .i64 f.s, .int .i64 f.p, .int .i64 f.d] 26)).alloc (.cells #[.int .i64 0] 34))) := B1.trans (B2.mono B1.size)
  have sz : (w.alloc (.cells #[.int .u32 (f.id : Int), .int .i64 f.k, .slice f.a f.n f.c, .int .i64 f.s, .int .i64 f.p, .int .i64 f.d] 26)).heap.size = w.heap.size + 1 := by simp
  have FC : Hid (Fc ((w.alloc (.cells #[.int .u32 (f.id : Int), .int .i64 f.k, .slice f.a f.n f.c, .int .i64 f.s, .int .i64 f.p, .int .i64 f.d] 26)).alloc (.cells #[.int .i64 0] 34)) w.heap.size f) := ⟨(FrAt.made w _ f).grew B2, by rw [← sz, World.cell?_alloc_at _ _ _ _ rfl]; rfl, by rw [← sz, World.frozen?_alloc_at _ _ _ _ rfl]⟩
  have HR2 : Hid (RefsAt ((w.alloc (.cells #[.int .u32 (f.id : Int), .int .i64 f.k, .slice f.a f.n f.c, .int .i64 f.s, .int .i64 f.p, .int .i64 f.d] 26)).alloc (.cells #[.int .i64 0] 34)) f r) := HR.out.grew BB.out
  have HK2 : Hid (FrsAt ((w.alloc (.cells #[.int .u32 (f.id : Int), .int .i64 f.k, .slice f.a f.n f.c, .int .i64 f.s, .int .i64 f.p, .int .i64 f.d] 26)).alloc (.cells #[.int .i64 0] 34)) a m K) := HK.out.grew BB.out
  obtain ⟨⟨f0, f1, f2, f3, f4, f5, -⟩, -, -⟩ := FC.out
  clear B1 B2 sz HR HK
  unfold Fr.val
  go_enter_defers Try.func12, Try.ntmps12
  go_wp2_with fail
  generalize ((w.alloc (.cells #[.int .u32 (f.id : Int), .int .i64 f.k, .slice f.a f.n f.c, .int .i64 f.s, .int .i64 f.p, .int .i64 f.d] 26)).alloc (.cells #[.int .i64 0] 34)) = w2 at *
  have BW : Hid (Below w2.heap.size w2 w2) := Below.refl _ _
  refine (terms_any f w2).mono ?_
  rintro e w3 ⟨hb, ⟨h3, rfl⟩ | ⟨h3, rfl⟩⟩
  case inr =>
    have BW : Hid (Below w2.heap.size w2 w3) := BW.out.trans (hb.mono BW.out.size)
    have q3 : Hid (¬ f.terms) := h3
    clear hb h3
    have HE : Hid (1 = E) := by show 1 = E; rw [HX.out, if_pos q3.out]
    clear f0 f1 f2 f3 f4 f5
    have X := (FC.out.grew BW.out)
    go_wp2
    refine leaves_cons (f := 23) (args := #[.pointer (some ⟨w.heap.size + 1, 0, none⟩)]) (by simp) (by simp [go_sem]) ?_
    refine (catchF_yes (w.heap.size + 1) _ 1 [] _ X.res X.frz).mono ?_
    rintro e u' w'' ⟨rfl, rfl, rfl⟩
    have c1 := World.cell?_setCell_same w3 ⟨w.heap.size + 1, 0, none⟩ (.int .i64 1) X.res
    simp [Leaves, settle, results, Try.results12, go_sem, c1]
    refine ⟨by rw [HE.out], ?_⟩
    exact (BB.out.trans (BW.out.mono BB.out.size)).setCell (p := ⟨w.heap.size + 1, 0, none⟩) (Nat.le_succ _) _
  have BW : Hid (Below w2.heap.size w2 w3) := BW.out.trans (hb.mono BW.out.size)
  have q3 : Hid (f.terms) := h3
  clear hb h3 f0 f1 f2 f3 f4 f5
  obtain ⟨⟨f0, f1, f2, f3, f4, f5, -⟩, -, -⟩ := FC.out.grew BW.out
  go_wp2_with fail
  refine (size_any f.s s _).mono ?_
  rintro e w4 ⟨hb, ⟨h4, rfl⟩ | ⟨h4, rfl⟩⟩
  case inr =>
    have BW : Hid (Below w2.heap.size w2 w4) := BW.out.trans (hb.mono BW.out.size)
    have q4 : Hid (¬ cuts f.s s) := h4
    clear hb h4
    have HE : Hid (4 = E) := by show 4 = E; rw [HX.out, if_neg (not_not_intro q3.out), if_pos q4.out]
    clear f0 f1 f2 f3 f4 f5
    have X := (FC.out.grew BW.out)
    go_wp2
    refine leaves_cons (f := 23) (args := #[.pointer (some ⟨w.heap.size + 1, 0, none⟩)]) (by simp) (by simp [go_sem]) ?_
    refine (catchF_yes (w.heap.size + 1) _ 4 [] _ X.res X.frz).mono ?_
    rintro e u' w'' ⟨rfl, rfl, rfl⟩
    have c1 := World.cell?_setCell_same w4 ⟨w.heap.size + 1, 0, none⟩ (.int .i64 4) X.res
    simp [Leaves, settle, results, Try.results12, go_sem, c1]
    refine ⟨by rw [HE.out], ?_⟩
    exact (BB.out.trans (BW.out.mono BB.out.size)).setCell (p := ⟨w.heap.size + 1, 0, none⟩) (Nat.le_succ _) _
  have BW : Hid (Below w2.heap.size w2 w4) := BW.out.trans (hb.mono BW.out.size)
  have q4 : Hid (cuts f.s s) := h4
  clear hb h4 f0 f1 f2 f3 f4 f5
  obtain ⟨⟨f0, f1, f2, f3, f4, f5, -⟩, -, -⟩ := FC.out.grew BW.out
  go_wp2_with fail
  refine (order_any f a m c K _ hm (HK2.out.grew BW.out)).mono ?_
  rintro e w5 ⟨hb, ⟨h5, rfl⟩ | ⟨h5, rfl⟩⟩
  case inr =>
    have BW : Hid (Below w2.heap.size w2 w5) := BW.out.trans (hb.mono BW.out.size)
    have q5 : Hid (¬ f.turn m K) := h5
    clear hb h5
    have HE : Hid (5 = E) := by show 5 = E; rw [HX.out, if_neg (not_not_intro q3.out), if_neg (not_not_intro q4.out), if_pos q5.out]
    clear f0 f1 f2 f3 f4 f5
    have X := (FC.out.grew BW.out)
    go_wp2
    refine leaves_cons (f := 23) (args := #[.pointer (some ⟨w.heap.size + 1, 0, none⟩)]) (by simp) (by simp [go_sem]) ?_
    refine (catchF_yes (w.heap.size + 1) _ 5 [] _ X.res X.frz).mono ?_
    rintro e u' w'' ⟨rfl, rfl, rfl⟩
    have c1 := World.cell?_setCell_same w5 ⟨w.heap.size + 1, 0, none⟩ (.int .i64 5) X.res
    simp [Leaves, settle, results, Try.results12, go_sem, c1]
    refine ⟨by rw [HE.out], ?_⟩
    exact (BB.out.trans (BW.out.mono BB.out.size)).setCell (p := ⟨w.heap.size + 1, 0, none⟩) (Nat.le_succ _) _
  have BW : Hid (Below w2.heap.size w2 w5) := BW.out.trans (hb.mono BW.out.size)
  have q5 : Hid (f.turn m K) := h5
  clear hb h5 f0 f1 f2 f3 f4 f5
  obtain ⟨⟨f0, f1, f2, f3, f4, f5, -⟩, -, -⟩ := FC.out.grew BW.out
  go_wp2_with fail
  refine (refs_any f r a m c K _ hm HR2.out.len HR2.out.cap (HR2.out.grew BW.out).nums (HK2.out.grew BW.out)).mono ?_
  rintro e w6 ⟨hb, ⟨h6, rfl⟩ | ⟨h6, rfl⟩⟩
  case inr =>
    have BW : Hid (Below w2.heap.size w2 w6) := BW.out.trans (hb.mono BW.out.size)
    have q6 : Hid (¬ f.refs r m K) := h6
    clear hb h6
    have HE : Hid (6 = E) := by show 6 = E; rw [HX.out, if_neg (not_not_intro q3.out), if_neg (not_not_intro q4.out), if_neg (not_not_intro q5.out), if_pos q6.out]
    clear f0 f1 f2 f3 f4 f5
    have X := (FC.out.grew BW.out)
    go_wp2
    refine leaves_cons (f := 23) (args := #[.pointer (some ⟨w.heap.size + 1, 0, none⟩)]) (by simp) (by simp [go_sem]) ?_
    refine (catchF_yes (w.heap.size + 1) _ 6 [] _ X.res X.frz).mono ?_
    rintro e u' w'' ⟨rfl, rfl, rfl⟩
    have c1 := World.cell?_setCell_same w6 ⟨w.heap.size + 1, 0, none⟩ (.int .i64 6) X.res
    simp [Leaves, settle, results, Try.results12, go_sem, c1]
    refine ⟨by rw [HE.out], ?_⟩
    exact (BB.out.trans (BW.out.mono BB.out.size)).setCell (p := ⟨w.heap.size + 1, 0, none⟩) (Nat.le_succ _) _
  have BW : Hid (Below w2.heap.size w2 w6) := BW.out.trans (hb.mono BW.out.size)
  have q6 : Hid (f.refs r m K) := h6
  clear hb h6 f0 f1 f2 f3 f4 f5
  obtain ⟨⟨f0, f1, f2, f3, f4, f5, -⟩, -, -⟩ := FC.out.grew BW.out
  by_cases h7 : f.d ≤ t
  · have q7 : Hid (f.d ≤ t) := h7
    go_wp2_with fail
    refine (fdemand_no _ _ _ (by simp <;> omega)).mono ?_
    rintro e w7 ⟨rfl, rfl⟩
    clear h7
    have HE : Hid (7 = E) := by show 7 = E; rw [HX.out, if_neg (not_not_intro q3.out), if_neg (not_not_intro q4.out), if_neg (not_not_intro q5.out), if_neg (not_not_intro q6.out), if_pos q7.out]
    clear f0 f1 f2 f3 f4 f5
    have X := (FC.out.grew BW.out)
    go_wp2
    refine leaves_cons (f := 23) (args := #[.pointer (some ⟨w.heap.size + 1, 0, none⟩)]) (by simp) (by simp [go_sem]) ?_
    refine (catchF_yes (w.heap.size + 1) _ 7 [] _ X.res X.frz).mono ?_
    rintro e u' w'' ⟨rfl, rfl, rfl⟩
    have c1 := World.cell?_setCell_same w7 ⟨w.heap.size + 1, 0, none⟩ (.int .i64 7) X.res
    simp [Leaves, settle, results, Try.results12, go_sem, c1]
    refine ⟨by rw [HE.out], ?_⟩
    exact (BB.out.trans (BW.out.mono BB.out.size)).setCell (p := ⟨w.heap.size + 1, 0, none⟩) (Nat.le_succ _) _
  have q7 : Hid (¬ f.d ≤ t) := h7
  have d7 : t < f.d := by omega
  clear h7
  go_wp2_with fail
  refine (fdemand_yes _ _ _ (by simp <;> omega)).mono ?_
  rintro e w7 ⟨rfl, rfl⟩
  clear d7
  by_cases h8 : 100 ≤ m
  · have q8 : Hid (100 ≤ m) := h8
    go_wp2_with fail
    refine (fdemand_no _ _ _ (by simp <;> omega)).mono ?_
    rintro e w8 ⟨rfl, rfl⟩
    clear h8
    have HE : Hid (8 = E) := by show 8 = E; rw [HX.out, if_neg (not_not_intro q3.out), if_neg (not_not_intro q4.out), if_neg (not_not_intro q5.out), if_neg (not_not_intro q6.out), if_neg (show ¬ f.d ≤ t by have := q7.out; omega), if_pos q8.out]
    clear f0 f1 f2 f3 f4 f5
    have X := (FC.out.grew BW.out)
    go_wp2
    refine leaves_cons (f := 23) (args := #[.pointer (some ⟨w.heap.size + 1, 0, none⟩)]) (by simp) (by simp [go_sem]) ?_
    refine (catchF_yes (w.heap.size + 1) _ 8 [] _ X.res X.frz).mono ?_
    rintro e u' w'' ⟨rfl, rfl, rfl⟩
    have c1 := World.cell?_setCell_same w8 ⟨w.heap.size + 1, 0, none⟩ (.int .i64 8) X.res
    simp [Leaves, settle, results, Try.results12, go_sem, c1]
    refine ⟨by rw [HE.out], ?_⟩
    exact (BB.out.trans (BW.out.mono BB.out.size)).setCell (p := ⟨w.heap.size + 1, 0, none⟩) (Nat.le_succ _) _
  have q8 : Hid (¬ 100 ≤ m) := h8
  have d8 : (m : Int) < 100 := by omega
  clear h8
  go_wp2_with fail
  refine (fdemand_yes _ _ _ (by simp <;> omega)).mono ?_
  rintro e w8 ⟨rfl, rfl⟩
  have HE : Hid (0 = E) := by show 0 = E; rw [HX.out, if_neg (not_not_intro q3.out), if_neg (not_not_intro q4.out), if_neg (not_not_intro q5.out), if_neg (not_not_intro q6.out), if_neg (show ¬ f.d ≤ t by have := q7.out; omega), if_neg (show ¬ 100 ≤ m by have := q8.out; omega)]
  clear f0 f1 f2 f3 f4 f5 d8
  have X := (FC.out.grew BW.out)
  obtain ⟨-, x1, x2⟩ := X
  have c1 := World.cell?_setCell_same w8 ⟨w.heap.size + 1, 0, none⟩ (.int .i64 0) x1
  have HB : Hid (Below w.heap.size w (w8.setCell ⟨w.heap.size + 1, 0, none⟩ (.int .i64 0))) := (BB.out.trans (BW.out.mono BB.out.size)).setCell (p := ⟨w.heap.size + 1, 0, none⟩) (Nat.le_succ _) _
  go_wp2
  refine leaves_cons (f := 23) (args := #[.pointer (some ⟨w.heap.size + 1, 0, none⟩)]) (by simp) (by simp [go_sem]) ?_
  refine (catchF_idle (w.heap.size + 1) _).mono ?_
  rintro e u' w'' ⟨rfl, rfl, rfl⟩
  simp [Leaves, settle, results, Try.results12, go_sem, c1]
  exact ⟨by rw [HE.out], HB.out⟩
end Go.Proofs.Ytmbpfdnadjemcaa
