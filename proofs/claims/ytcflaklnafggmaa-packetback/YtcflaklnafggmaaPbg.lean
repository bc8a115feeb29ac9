/-
  Package packet: Size. Does packet do anything yet?
-/
import Derived.Test.YtcflaklnafggmaaPma
namespace Go.Proofs.Ytcflaklnafggmaa
open Go.RowKit Go.Deep

theorem psize_any (n : Int) (w : World) (h1 : -9223372036854775808 ≤ n) (h2 : n ≤ 1099511627776) :
    Calls Try.prog 16 #[.int .i64 n] w fun e w' => e = .returned (.int .i64 (n + 15)) ∧ w' = w := by
  have e1 : IntKind.i64.wrap (11 + n) = 11 + n := by rw [IntKind.wrap_i64]; omega
  have e2 : IntKind.i64.wrap (11 + n + 4) = n + 15 := by rw [IntKind.wrap_i64]; omega
  go_enter Try.func16, Try.ntmps16
  go_wp2
  go_ret
  exact ⟨ret_int (by first | rfl | omega), rfl⟩
theorem PkIs.gone {w w' : World} {F E : Nat} {e : Ending} (h : PkIs w (pGone F) E e w') : ∃ r c, e = .returned (.tuple #[.agg #[.int .i64 4, .int .u16 0, .int .u16 0, .int .u32 0, .int .u16 0, .slice r 0 c, .int .u64 0, .int .u32 0, .int .u32 0, .int .u16 0, .int .u16 0, .int .u32 (F : Int), .int .u16 0], .int .i64 (E : Int)]) ∧ Below w.heap.size w w' := by
  obtain ⟨r, c, rfl, -, -, -, d⟩ := h
  exact ⟨r, c, rfl, d⟩
theorem PkIs.nought {w w' : World} {E : Nat} {e : Ending} (h : PkIs w Pk.zero E e w') : ∃ r c, e = .returned (.tuple #[.agg #[.int .i64 0, .int .u16 0, .int .u16 0, .int .u32 0, .int .u16 0, .slice r 0 c, .int .u64 0, .int .u32 0, .int .u32 0, .int .u16 0, .int .u16 0, .int .u32 0, .int .u16 0], .int .i64 (E : Int)]) ∧ Below w.heap.size w w' := by
  obtain ⟨r, c, rfl, -, -, -, d⟩ := h
  exact ⟨r, c, rfl, d⟩
theorem TkIs.none {w w' : World} {L : Nat} {x : Nat → Nat} {e : Ending} (h : TkIs w L x e w') (h0 : opB x L = false) : PkIs w Pk.zero 3 e w' := by
  unfold TkIs at h
  rw [(tk_shut h0).1, (tk_shut h0).2] at h
  exact h
theorem ok_gone (F : Nat) (h : F < 4294967296) : (pGone F).Ok := ⟨z16, z16, z32, z16, z64, z32, z32, z16, z16, h, z16, fun i hi => absurd hi (Nat.not_lt_zero i)⟩
theorem ok_kind (k : Int) : (pKind k).Ok := ⟨z16, z16, z32, z16, z64, z32, z32, z16, z16, z32, z16, fun i hi => absurd hi (Nat.not_lt_zero i)⟩
/-- A packet of a Kind alone, put. -/
theorem put_kind (k : Int) (w : World) : Calls Try.prog 9 #[.agg #[.int .i64 k, .int .u16 0, .int .u16 0, .int .u32 0, .int .u16 0, .slice none 0 0, .int .u64 0, .int .u32 0, .int .u32 0, .int .u16 0, .int .u16 0, .int .u32 0, .int .u16 0]] w fun e w' => PutIs w (ptN (pKind k)) (ptX (pKind k)) (bE (pKind k)) e w' := packput_any (pKind k) none 0 w (ok_kind k) (nil_bytes _ _)
theorem put_gone (w : World) : Calls Try.prog 9 #[.agg #[.int .i64 4, .int .u16 0, .int .u16 0, .int .u32 0, .int .u16 0, .slice none 0 0, .int .u64 0, .int .u32 0, .int .u32 0, .int .u16 0, .int .u16 0, .int .u32 9, .int .u16 0]] w fun e w' => PutIs w 9 (ptX (pGone 9)) 0 e w' := packput_any (pGone 9) none 0 w (ok_gone 9 (by decide)) (nil_bytes _ _)

set_option maxRecDepth 100000 in
set_option maxHeartbeats 2000000 in
theorem begun11 (w : World) : Calls Try.prog 7 #[] w fun e w' => e = .returned (.bool true) ∧ Below w.heap.size w w' := by
  go_enter Try.func7, Try.ntmps7
  go_wp2_with fail
  refine (put_gone w).mono ?_
  rintro e w1 ⟨r1, c1, rfl, k1, -, B1, b1⟩
  go_wp2_with fail
  refine (packtake_any r1 9 c1 (ptX (pGone 9)) w1 B1 k1 (by decide)).mono ?_
  intro e w2 h2
  obtain ⟨r2, c2, rfl, d2⟩ := PkIs.gone (F := 9) (tk_back (p := pGone 9) (ok_gone 9 (by decide)) rfl h2)
  have b2 := b1.trans (d2.mono b1.size)
  have a3 : Below w2.heap.size w2 (w2.alloc (.cells #[.int .i64 4, .int .u16 0, .int .u16 0, .int .u32 0, .int .u16 0, .slice r2 0 c2, .int .u64 0, .int .u32 0, .int .u32 0, .int .u16 0, .int .u16 0, .int .u32 9, .int .u16 0] 31)) := (Below.refl _ _).alloc (Nat.le_refl _) _
  have q3 : (w2.alloc (.cells #[.int .i64 4, .int .u16 0, .int .u16 0, .int .u32 0, .int .u16 0, .slice r2 0 c2, .int .u64 0, .int .u32 0, .int .u32 0, .int .u16 0, .int .u16 0, .int .u32 9, .int .u16 0] 31)).cell? ⟨w2.heap.size, 11, none⟩ = some (.int .u32 9) := by rw [World.cell?_alloc_at _ _ _ _ rfl]; rfl
  have b3 := b2.trans (a3.mono b2.size)
  clear h2 d2 b2 a3 b1 B1 k1
  go_wp2_with fail
  generalize (w2.alloc (.cells #[.int .i64 4, .int .u16 0, .int .u16 0, .int .u32 0, .int .u16 0, .slice r2 0 c2, .int .u64 0, .int .u32 0, .int .u32 0, .int .u16 0, .int .u16 0, .int .u32 9, .int .u16 0] 31)) = w3 at *
  generalize w2.heap.size = G at *
  refine (packtake_any none 0 0 (fun _ => 0) w3 (nil_bytes _ _) (Nat.le_refl _) (by decide)).mono ?_
  intro e w4 h4
  obtain ⟨r3, c3, rfl, d4⟩ := PkIs.nought (TkIs.none h4 (op_few (by decide)).1)
  have q4 := (d4.cell (p := ⟨G, 11, none⟩) (cell_lt q3)).trans q3
  have b4 := b3.trans (d4.mono b3.size)
  have a5 : Below w4.heap.size w4 (w4.alloc (.cells #[.int .i64 0, .int .u16 0, .int .u16 0, .int .u32 0, .int .u16 0, .slice r3 0 c3, .int .u64 0, .int .u32 0, .int .u32 0, .int .u16 0, .int .u16 0, .int .u32 0, .int .u16 0] 31)) := (Below.refl _ _).alloc (Nat.le_refl _) _
  have q5 := (a5.cell (p := ⟨G, 11, none⟩) (cell_lt q4)).trans q4
  have b5 := b4.trans (a5.mono b4.size)
  clear h4 d4 q3 q4 b3 b4 a5
  go_wp2_with fail
  generalize (w4.alloc (.cells #[.int .i64 0, .int .u16 0, .int .u16 0, .int .u32 0, .int .u16 0, .slice r3 0 c3, .int .u64 0, .int .u32 0, .int .u32 0, .int .u16 0, .int .u16 0, .int .u32 0, .int .u16 0] 31)) = w5 at *
  refine (put_kind 9 w5).mono ?_
  rintro e w6 ⟨r6, c6, rfl, -, -, -, d6⟩
  have q6 := (d6.cell (p := ⟨G, 11, none⟩) (cell_lt q5)).trans q5
  have HB : Hid (Below w.heap.size w w6) := b5.trans (d6.mono b5.size)
  have e9 : ((bE (pKind 9) : Nat) : Int) = 1 := rfl
  rw [e9]
  clear d6 q5 b5 e9
  go_wp2_with fail
  refine (psize_any 4 w6 (by decide) (by decide)).mono ?_
  rintro e w7 ⟨rfl, rfl⟩
  go_wp2
  go_ret
  exact ⟨rfl, HB.out⟩
end Go.Proofs.Ytcflaklnafggmaa
