/-
  Package basin: a Basin in memory; New, Add, Missing, Payload, Bytes, Copy.
-/
import Derived.Test.YtgbeklifcchmlaaCop
import Derived.Test.YtgbeklifcchmlaaDrw
import Derived.Test.YtgbeklifcchmlaaJoi
namespace Go.Proofs.Ytgbeklifcchmlaa
open Go.RowKit Go.Deep

/-- The block N holds a Basin of the program's: a frame, how many bytes, of how many a symbol is, how many symbols, and where its Basis lies. -/
structure BasinAt (w : World) (N B R f n s k : Nat) (S : Nat → Option (Nat → Nat)) : Prop where
  fr : w.cell? ⟨N, 0, none⟩ = some (.int .u32 (f : Int))
  sz : w.cell? ⟨N, 1, none⟩ = some (.int .i64 (n : Int))
  sy : w.cell? ⟨N, 2, none⟩ = some (.int .i64 (s : Int))
  kc : w.cell? ⟨N, 3, none⟩ = some (.int .i64 (k : Int))
  ba : w.cell? ⟨N, 4, none⟩ = some (.pointer (some ⟨B, 0, none⟩))
  basis : BasisAt w B R k s S
theorem BasinAt.lt {w : World} {N B R f n s k : Nat} {S : Nat → Option (Nat → Nat)} (h : BasinAt w N B R f n s k S) : N < w.heap.size := cell_lt h.fr
theorem BasinAt.grew {w w' : World} {N B R f n s k : Nat} {S : Nat → Option (Nat → Nat)} (h : BasinAt w N B R f n s k S) (hb : Below w.heap.size w w') : BasinAt w' N B R f n s k S :=
  ⟨(hb.cell (p := ⟨N, 0, none⟩) h.lt).trans h.fr, (hb.cell (p := ⟨N, 1, none⟩) h.lt).trans h.sz, (hb.cell (p := ⟨N, 2, none⟩) h.lt).trans h.sy, (hb.cell (p := ⟨N, 3, none⟩) h.lt).trans h.kc, (hb.cell (p := ⟨N, 4, none⟩) h.lt).trans h.ba, h.basis.grew hb⟩
theorem BasinAt.same {w w' : World} {N B R f n s k : Nat} {S : Nat → Option (Nat → Nat)} (h : BasinAt w N B R f n s k S) (hb : Same w w') : BasinAt w' N B R f n s k S := h.grew (hb.below _)
theorem BasinAt.apart {w : World} {N B R f n s k : Nat} {S : Nat → Option (Nat → Nat)} (h : BasinAt w N B R f n s k S) : Apart w R := h.basis.apart
/-- Its Basis goes on. -/
theorem BasinAt.next {w w' : World} {N B R f n s k : Nat} {S S' : Nat → Option (Nat → Nat)} (h : BasinAt w N B R f n s k S) (hk : Kept R w w') (hb : BasisAt w' B R k s S') : BasinAt w' N B R f n s k S' := by
  have hN : N ≠ R := h.apart _ _ _ _ h.fr
  exact ⟨hk.cell h.fr hN, hk.cell h.sz hN, hk.cell h.sy hN, hk.cell h.kc hN, hk.cell h.ba hN, hb⟩
/-- It stays as it is while another one goes on. -/
theorem BasinAt.kept {w w' : World} {N B R R' f n s k : Nat} {S : Nat → Option (Nat → Nat)} (h : BasinAt w N B R f n s k S) (hk : Kept R' w w') (ha : Apart w R') (hne : R ≠ R') : BasinAt w' N B R f n s k S := by
  have hN : N ≠ R' := ha _ _ _ _ h.fr
  exact ⟨hk.cell h.fr hN, hk.cell h.sz hN, hk.cell h.sy hN, hk.cell h.kc hN, hk.cell h.ba hN, h.basis.kept hk ha hne⟩

/-- What stays while a block changes that begins with a number that is no byte. -/
theorem bytes_keptN {w w' : World} {b m g : Nat} {y : Nat → Nat} {κ : IntKind} {z : Int} (h : BytesAt w (some ⟨b, 0, none⟩) m y) (hk : Kept g w w') (hc : w.cell? ⟨g, 0, none⟩ = some (.int κ z)) (hκ : κ ≠ .u8) (hm : 0 < m) : BytesAt w' (some ⟨b, 0, none⟩) m y := by
  have hne : b ≠ g := by
    rintro rfl
    have := bytes_cell h 0 hm
    rw [Nat.add_zero, hc] at this
    cases this
    exact hκ rfl
  refine ⟨fun hn => ?_, h.lt⟩
  obtain ⟨b', o, e, hcc⟩ := h.cells hn
  cases e
  exact ⟨b, 0, rfl, fun i hi => hk.cell (hcc i hi) hne⟩
theorem BasisAt.keptN {w w' : World} {B R k size g : Nat} {S : Nat → Option (Nat → Nat)} {κ : IntKind} {z : Int} (h : BasisAt w B R k size S) (hk : Kept g w w') (hc : w.cell? ⟨g, 0, none⟩ = some (.int κ z)) (hκ : κ ≠ .u8) : BasisAt w' B R k size S := by
  have hB : B ≠ g := by
    rintro rfl
    have := h.field.powers 0 (by decide)
    rw [hc] at this
    cases this
    exact hκ rfl
  obtain ⟨A, hr, hA⟩ := h.room
  have hR : R ≠ g := Ne.symm (h.apart _ _ _ _ hc)
  refine ⟨⟨fun i hi => hk.cell (h.field.powers i hi) hB, fun a ha => hk.cell (h.field.logs a ha) hB⟩, hk.cell h.sz hB, hk.cell h.rows hB, ⟨A, hr.of_block (hk.block R hr.lt hR), fun i hi => ?_⟩, h.k1, h.k32, h.s1, h.s64⟩
  have hv := hA i hi
  cases hS : S i with
  | none => rw [hS] at hv; exact hv
  | some r =>
    rw [hS] at hv
    obtain ⟨b, c, e, hn, hB'⟩ := hv
    exact ⟨b, c, e, hn, bytes_keptN hB' hk hc hκ (by have := h.k1; omega)⟩
theorem BasinAt.keptN {w w' : World} {N B R f n s k g : Nat} {S : Nat → Option (Nat → Nat)} {κ : IntKind} {z : Int} (h : BasinAt w N B R f n s k S) (hk : Kept g w w') (hc : w.cell? ⟨g, 0, none⟩ = some (.int κ z)) (hκ : κ ≠ .u8) (hN : N ≠ g) : BasinAt w' N B R f n s k S :=
  ⟨hk.cell h.fr hN, hk.cell h.sz hN, hk.cell h.sy hN, hk.cell h.kc hN, hk.cell h.ba hN, h.basis.keptN hk hc hκ⟩

theorem nmade_nil (w : World) :
    Calls Try.prog 31 #[.pointer none] w fun e w' => e = .returned (.bool false) ∧ w' = w := by
  go_enter Try.func31, Try.ntmps31
  go_wp2
  go_ret
  exact ⟨rfl, rfl⟩
theorem nmade_yes (N B R f n s k : Nat) (S : Nat → Option (Nat → Nat)) (w : World) (h : BasinAt w N B R f n s k S) :
    Calls Try.prog 31 #[.pointer (some ⟨N, 0, none⟩)] w fun e w' => e = .returned (.bool true) ∧ w' = w := by
  have n4 := h.ba
  clear h
  go_enter Try.func31, Try.ntmps31
  go_wp2
  go_ret
  exact ⟨rfl, rfl⟩

/-- Nothing but nil and no was answered. -/
def NoBasin (w : World) (e : Ending) (w' : World) : Prop := e = .returned (.tuple #[.pointer none, .bool false]) ∧ Below w.heap.size w w'
/-- A new Basin without symbols was answered. -/
def NewBasin (w : World) (f n s k : Nat) (e : Ending) (w' : World) : Prop :=
  ∃ N B R, e = .returned (.tuple #[.pointer (some ⟨N, 0, none⟩), .bool true]) ∧ w.heap.size ≤ R ∧ BasinAt w' N B R f n s k (fun _ => none) ∧ Below w.heap.size w w'

set_option maxRecDepth 100000 in
set_option maxHeartbeats 400000 in
theorem basin_yes (p f n s k : Nat) (w : World) (h : FieldAt w p) (s1 : 1 ≤ s) (s2 : s ≤ 64) (n1 : 1 ≤ n) (n2 : n ≤ 32 * s) (hk : k = cntOf n s) (k1 : 1 ≤ k) (k2 : k ≤ 32) :
    Calls Try.prog 9 #[.pointer (some ⟨p, 0, none⟩), .int .u32 (f : Int), .int .i64 (n : Int), .int .i64 (s : Int)] w fun e w' => NewBasin w f n s k e w' := by
  have HK : Hid (k = cntOf n s) := hk
  clear hk
  go_enter Try.func9, Try.ntmps9
  go_wp2_with fail
  refine (face_count_yes n s _ s1 s2 n1 n2).mono ?_
  rintro e w1 ⟨rfl, b1⟩
  rw [← HK.out]
  go_wp2_with fail
  refine (newBasis_yes p k s _ (h.below b1 h.lt) k1 k2 s1 s2).mono ?_
  rintro e w2 ⟨B, R, rfl, hB, hR, B2, b2⟩
  have hbu : ∀ w, (Instr.build 59 #[(0, .int .u32 (f : Int)), (1, .int .i64 (n : Int)), (2, .int .i64 (s : Int)), (3, .int .i64 (k : Int)), (4, .pointer (some ⟨B, 0, none⟩))]).run Try.prog w = .ok (.agg #[.int .u32 (f : Int), .int .i64 (n : Int), .int .i64 (s : Int), .int .i64 (k : Int), .pointer (some ⟨B, 0, none⟩)]) w := fun w => by kernel_rfl
  have b3 : Below w2.heap.size w2 (w2.alloc (.cells #[.int .u32 (f : Int), .int .i64 (n : Int), .int .i64 (s : Int), .int .i64 (k : Int), .pointer (some ⟨B, 0, none⟩)] 59)) := (Below.refl _ _).alloc (Nat.le_refl _) _
  have N3 : Hid (BasinAt (w2.alloc (.cells #[.int .u32 (f : Int), .int .i64 (n : Int), .int .i64 (s : Int), .int .i64 (k : Int), .pointer (some ⟨B, 0, none⟩)] 59)) w2.heap.size B R f n s k (fun _ => none)) :=
    ⟨by rw [World.cell?_alloc_at _ _ _ _ rfl]; rfl, by rw [World.cell?_alloc_at _ _ _ _ rfl]; rfl, by rw [World.cell?_alloc_at _ _ _ _ rfl]; rfl, by rw [World.cell?_alloc_at _ _ _ _ rfl]; rfl, by rw [World.cell?_alloc_at _ _ _ _ rfl]; rfl, B2.grew b3⟩
  have B3 : Hid (Below w.heap.size w (w2.alloc (.cells #[.int .u32 (f : Int), .int .i64 (n : Int), .int .i64 (s : Int), .int .i64 (k : Int), .pointer (some ⟨B, 0, none⟩)] 59))) := (b1.trans (b2.mono b1.size)).trans (b3.mono (Nat.le_trans b1.size b2.size))
  have HR : Hid (w.heap.size ≤ R) := Nat.le_trans b1.size hR
  clear B2 b1 b2 b3 hB hR h
  go_wp2
  go_ret2
  exact ⟨w2.heap.size, B, R, rfl, HR.out, N3.out, B3.out⟩

set_option maxRecDepth 100000 in
set_option maxHeartbeats 400000 in
theorem basin_no (v : Value) (f n s : Int) (w : World) (hno : ¬ (1 ≤ s ∧ s ≤ 64 ∧ 1 ≤ n ∧ n ≤ 32 * s)) :
    Calls Try.prog 9 #[v, .int .u32 f, .int .i64 n, .int .i64 s] w fun e w' => NoBasin w e w' := by
  have HN : Hid (¬ (1 ≤ s ∧ s ≤ 64 ∧ 1 ≤ n ∧ n ≤ 32 * s)) := hno
  clear hno
  go_enter Try.func9, Try.ntmps9
  go_wp2_with fail
  refine (face_count_no n s _ HN.out).mono ?_
  rintro e w1 ⟨rfl, b1⟩
  have HB : Hid (Below w.heap.size w w1) := b1
  clear b1
  go_wp2
  go_ret2
  exact ⟨rfl, HB.out⟩

set_option maxRecDepth 100000 in
set_option maxHeartbeats 400000 in
theorem basin_nil (f n s : Nat) (w : World) (s1 : 1 ≤ s) (s2 : s ≤ 64) (n1 : 1 ≤ n) (n2 : n ≤ 32 * s) :
    Calls Try.prog 9 #[.pointer none, .int .u32 (f : Int), .int .i64 (n : Int), .int .i64 (s : Int)] w fun e w' => NoBasin w e w' := by
  go_enter Try.func9, Try.ntmps9
  go_wp2_with fail
  refine (face_count_yes n s _ s1 s2 n1 n2).mono ?_
  rintro e w1 ⟨rfl, b1⟩
  go_wp2_with fail
  refine (newBasis_nil (cntOf n s : Int) s _).mono ?_
  rintro e w2 ⟨rfl, q2⟩
  have HB : Hid (Below w.heap.size w w2) := b1.trans (q2.below _)
  clear b1 q2
  go_wp2
  go_ret2
  exact ⟨rfl, HB.out⟩

/-- What Add answers and leaves: v is the row with its data behind it. -/
def BAdded (w : World) (N B R f n s k : Nat) (S : Nat → Option (Nat → Nat)) (v : Nat → Nat) (e : Ending) (w' : World) : Prop :=
  e = .returned (.bool (addOf S k v).1) ∧ BasinAt w' N B R f n s k (addOf S k v).2 ∧ Kept R w w'
/-- Nothing was added. -/
def BNot (w : World) (e : Ending) (w' : World) : Prop := e = .returned (.bool false) ∧ Below w.heap.size w w'

set_option maxRecDepth 100000 in
set_option maxHeartbeats 400000 in
theorem badd_nil (v1 v2 : Value) (w : World) :
    Calls Try.prog 13 #[.pointer none, v1, v2] w fun e w' => e = .returned (.bool false) ∧ w' = w := by
  go_enter Try.func13, Try.ntmps13
  go_wp2_with (go_at_call 31; refine (nmade_nil _).mono ?_; rintro e w0 ⟨rfl, rfl⟩)
  go_ret
  exact ⟨rfl, rfl⟩

set_option maxRecDepth 100000 in
set_option maxHeartbeats 1000000 in
theorem badd_yes (N B R f n s k id c : Nat) (S : Nat → Option (Nat → Nat)) (y : Nat → Nat) (a : Option Addr) (w : World) (h : BasinAt w N B R f n s k S) (hy : BytesAt w a s y) (hf : f < 4294967296) (hi : id < k + 64) :
    Calls Try.prog 13 #[.pointer (some ⟨N, 0, none⟩), .int .i64 (id : Int), .slice a s c] w fun e w' => BAdded w N B R f n s k S (cat (Dice.rowOf f id k) y k) e w' := by
  have k1 := h.basis.k1
  have k2 := h.basis.k32
  have H : Hid (BasinAt w N B R f n s k S) := h
  have HY : Hid (BytesAt w a s y) := hy
  have n0 := h.fr
  have n3 := h.kc
  clear h hy
  go_enter Try.func13, Try.ntmps13
  go_wp2_with (go_at_call 31; refine (nmade_yes N B R f n s k S _ H.out).mono ?_; rintro e w0 ⟨rfl, rfl⟩)
  go_region_with (go_at_call 34; refine (drow_yes f id k _ hf k1 k2 hi).mono ?_; rintro e w1 ⟨r, rfl, -, B1, b1⟩; have bb : Below w0.heap.size w0 w1 := (by first | exact b1 | exact (below_drews _).trans b1 | exact (below_drews 1).trans b1); clear b1)
  all_goals
    have H1 : Hid (BasinAt w1 N B R f n s k S) := H.out.grew bb
    have HX : Hid (BytesAt w1 (some ⟨r, 0, none⟩) k (Dice.rowOf f id k)) := B1
    have HY1 : Hid (BytesAt w1 a s y) := HY.out.grew bb
    have HK : Hid (Kept R w0 w1) := Kept.of_below bb
    have n4 := H1.out.ba
    clear n0 n3 B1 bb H HY
    go_wp2_with fail
    refine (add_yes B R k s k c _ _ S _ _ _ H1.out.basis HX.out HY1.out).mono ?_
    rintro e w2 ⟨rfl, h2, k2'⟩
    have H2 : Hid (BasinAt w2 N B R f n s k (addOf S k (cat (Dice.rowOf f id k) y k)).2) := H1.out.next k2' h2
    have HK2 : Hid (Kept R w0 w2) := HK.out.trans k2'
    clear h2 k2' HK H1 HX HY1
    go_wp2
    go_ret
    exact ⟨rfl, H2.out, HK2.out⟩

set_option maxRecDepth 100000 in
set_option maxHeartbeats 1000000 in
theorem badd_len (N B R f n s k id m c : Nat) (S : Nat → Option (Nat → Nat)) (a : Option Addr) (w : World) (h : BasinAt w N B R f n s k S) (hf : f < 4294967296) (hi : id < k + 64) (hm : m ≠ s) :
    Calls Try.prog 13 #[.pointer (some ⟨N, 0, none⟩), .int .i64 (id : Int), .slice a m c] w fun e w' => BNot w e w' := by
  have k1 := h.basis.k1
  have k2 := h.basis.k32
  have H : Hid (BasinAt w N B R f n s k S) := h
  have n0 := h.fr
  have n3 := h.kc
  have HM : Hid (k ≠ k ∨ m ≠ s) := Or.inr hm
  clear h hm
  go_enter Try.func13, Try.ntmps13
  go_wp2_with (go_at_call 31; refine (nmade_yes N B R f n s k S _ H.out).mono ?_; rintro e w0 ⟨rfl, rfl⟩)
  go_region_with (go_at_call 34; refine (drow_yes f id k _ hf k1 k2 hi).mono ?_; rintro e w1 ⟨r, rfl, -, B1, b1⟩; have bb : Below w0.heap.size w0 w1 := (by first | exact b1 | exact (below_drews _).trans b1 | exact (below_drews 1).trans b1); clear b1 B1)
  all_goals
    have H1 : Hid (BasinAt w1 N B R f n s k S) := H.out.grew bb
    have HB : Hid (Below w0.heap.size w0 w1) := bb
    have n4 := H1.out.ba
    clear n0 n3 bb H
    go_wp2_with fail
    refine (add_no B R k s k m k c _ _ S _ H1.out.basis HM.out).mono ?_
    rintro e w2 ⟨rfl, rfl⟩
    clear H1
    go_wp2
    go_ret
    exact ⟨rfl, HB.out⟩

set_option maxRecDepth 100000 in
set_option maxHeartbeats 1000000 in
theorem badd_dice (N B R f n s k : Nat) (z : Int) (S : Nat → Option (Nat → Nat)) (v : Value) (w : World) (h : BasinAt w N B R f n s k S) (hno : ¬ (0 ≤ z ∧ z < (k : Int) + 64)) :
    Calls Try.prog 13 #[.pointer (some ⟨N, 0, none⟩), .int .i64 z, v] w fun e w' => BNot w e w' := by
  have H : Hid (BasinAt w N B R f n s k S) := h
  have n0 := h.fr
  have n3 := h.kc
  have HN : Hid (¬ (1 ≤ (k : Int) ∧ (k : Int) ≤ 32 ∧ 0 ≤ z ∧ z < (k : Int) + 64)) := fun g => hno ⟨g.2.2.1, g.2.2.2⟩
  clear h hno
  go_enter Try.func13, Try.ntmps13
  go_wp2_with (go_at_call 31; refine (nmade_yes N B R f n s k S _ H.out).mono ?_; rintro e w0 ⟨rfl, rfl⟩)
  go_quiet ((go_at_call 34; exact Calls.quiet_of_same (drow_no f z k _ HN.out)))
  go_wp2
  go_ret
  exact ⟨rfl, below_drews nq⟩

set_option maxRecDepth 100000 in
set_option maxHeartbeats 400000 in
theorem bmiss_nil (w : World) :
    Calls Try.prog 14 #[.pointer none] w fun e w' => e = .returned (.int .i64 0) ∧ w' = w := by
  go_enter Try.func14, Try.ntmps14
  go_wp2_with (go_at_call 31; refine (nmade_nil _).mono ?_; rintro e w0 ⟨rfl, rfl⟩)
  go_ret
  exact ⟨rfl, rfl⟩
set_option maxRecDepth 100000 in
set_option maxHeartbeats 400000 in
theorem bmiss_yes (N B R f n s k : Nat) (S : Nat → Option (Nat → Nat)) (w : World) (h : BasinAt w N B R f n s k S) :
    Calls Try.prog 14 #[.pointer (some ⟨N, 0, none⟩)] w fun e w' => e = .returned (.int .i64 ((k - rankTo S k : Nat) : Int)) ∧ Same w w' := by
  have H : Hid (BasinAt w N B R f n s k S) := h
  have n3 := h.kc
  have n4 := h.ba
  have hs : ∀ n', Hid (BasisAt (w.drewN n') B R k s S) := fun n' => h.basis.same ⟨n', rfl⟩
  have k2 := h.basis.k32
  have hr := rankTo_le S k
  clear h
  go_enter Try.func14, Try.ntmps14
  go_wp2_with (go_at_call 31; refine (nmade_yes N B R f n s k S _ H.out).mono ?_; rintro e w0 ⟨rfl, rfl⟩)
  go_quiet ((go_at_call 36; exact Calls.quiet_of_same (rank_any B R k s S _ (hs _).out)))
  go_wp2
  go_ret
  exact ⟨ret_int (by omega), nq, rfl⟩

set_option maxRecDepth 100000 in
set_option maxHeartbeats 400000 in
theorem bbytes_nil (w : World) :
    Calls Try.prog 15 #[.pointer none] w fun e w' => e = .returned (.int .i64 0) ∧ w' = w := by
  go_enter Try.func15, Try.ntmps15
  go_wp2_with (go_at_call 31; refine (nmade_nil _).mono ?_; rintro e w0 ⟨rfl, rfl⟩)
  go_ret
  exact ⟨rfl, rfl⟩
set_option maxRecDepth 100000 in
set_option maxHeartbeats 400000 in
theorem bbytes_yes (N B R f n s k : Nat) (S : Nat → Option (Nat → Nat)) (w : World) (h : BasinAt w N B R f n s k S) :
    Calls Try.prog 15 #[.pointer (some ⟨N, 0, none⟩)] w fun e w' => e = .returned (.int .i64 ((k * s : Nat) : Int)) ∧ Same w w' := by
  have H : Hid (BasinAt w N B R f n s k S) := h
  have n3 := h.kc
  have n2 := h.sy
  have hm := mul_fits k s (k * s) rfl (Nat.le_trans (Nat.mul_le_mul h.basis.k32 h.basis.s64) (by decide))
  clear h
  generalize k * s = m at *
  go_enter Try.func15, Try.ntmps15
  go_wp2_with (go_at_call 31; refine (nmade_yes N B R f n s k S _ H.out).mono ?_; rintro e w0 ⟨rfl, rfl⟩)
  go_quiet (fail)
  go_wp2
  go_ret
  exact ⟨rfl, nq, rfl⟩

/-- What the rows say, where there is one at each place. -/
def solOf (S : Nat → Option (Nat → Nat)) (k i t : Nat) : Nat := match S i with
  | some r => r (k + t)
  | none => 0

set_option maxRecDepth 100000 in
set_option maxHeartbeats 400000 in
theorem bpay_nil (w : World) :
    Calls Try.prog 12 #[.pointer none] w fun e w' => e = .returned (.tuple #[.slice none 0 0, .bool false]) ∧ w' = w := by
  go_enter Try.func12, Try.ntmps12
  go_wp2_with (go_at_call 31; refine (nmade_nil _).mono ?_; rintro e w0 ⟨rfl, rfl⟩)
  go_ret2
  exact ⟨rfl, rfl⟩
set_option maxRecDepth 100000 in
set_option maxHeartbeats 400000 in
theorem bpay_no (N B R f n s k : Nat) (S : Nat → Option (Nat → Nat)) (w : World) (h : BasinAt w N B R f n s k S) (hno : rankTo S k < k) :
    Calls Try.prog 12 #[.pointer (some ⟨N, 0, none⟩)] w fun e w' => e = .returned (.tuple #[.slice none 0 0, .bool false]) ∧ Same w w' := by
  have H : Hid (BasinAt w N B R f n s k S) := h
  have n4 := h.ba
  clear h
  go_enter Try.func12, Try.ntmps12
  go_wp2_with (go_at_call 31; refine (nmade_yes N B R f n s k S _ H.out).mono ?_; rintro e w0 ⟨rfl, rfl⟩)
  refine (solve_no B R k s S _ H.out.basis hno).mono ?_
  rintro e w1 ⟨rfl, q1⟩
  have HQ : Hid (Same w0 w1) := q1
  clear q1 n4
  go_wp2
  go_ret2
  exact ⟨rfl, HQ.out⟩
set_option maxRecDepth 100000 in
set_option maxHeartbeats 400000 in
theorem bpay_yes (N B R f n s k : Nat) (S : Nat → Option (Nat → Nat)) (w : World) (h : BasinAt w N B R f n s k S) (hyes : rankTo S k = k) (n1 : 1 ≤ n) (n2 : n ≤ 32 * s) (hk : cntOf n s = k) :
    Calls Try.prog 12 #[.pointer (some ⟨N, 0, none⟩)] w fun e w' => RowYes w n (joined (solOf S k) s) e w' := by
  have H : Hid (BasinAt w N B R f n s k S) := h
  have HK : Hid (cntOf n s = k) := hk
  have n4 := h.ba
  have k1 := h.basis.k1
  have k2 := h.basis.k32
  have s1 := h.basis.s1
  have s2 := h.basis.s64
  clear h hk
  go_enter Try.func12, Try.ntmps12
  go_wp2_with (go_at_call 31; refine (nmade_yes N B R f n s k S _ H.out).mono ?_; rintro e w0 ⟨rfl, rfl⟩)
  refine (solve_yes B R k s S _ H.out.basis hyes).mono ?_
  rintro e w1 ⟨L, A, rfl, -, hA, hY, b1⟩
  obtain ⟨BC, hBC⟩ : ∃ BC : Nat → Nat × Nat, ∀ i, i < k → A i = .slice (some ⟨(BC i).1, 0, none⟩) s (BC i).2 ∧ BytesAt w1 (some ⟨(BC i).1, 0, none⟩) s (solOf S k i) :=
    choose_lt (p := fun i (q : Nat × Nat) => A i = .slice (some ⟨q.1, 0, none⟩) s q.2 ∧ BytesAt w1 (some ⟨q.1, 0, none⟩) s (solOf S k i)) fun i hi => by
      obtain ⟨r, b, c, h1, h2, -, h4⟩ := hY i hi
      exact ⟨(b, c), h2, by unfold solOf; rw [h1]; exact h4⟩
  have HL : Hid (RowsAt w1 (some ⟨L, 0, none⟩) k (fun i => some ⟨(BC i).1, 0, none⟩) (fun _ => s) (fun i => (BC i).2) (solOf S k)) := fun _ => ⟨L, 0, rfl, fun i hi => by
    obtain ⟨h1, h4⟩ := hBC i hi
    exact ⟨by rw [Nat.zero_add, hA.cell hi, h1], h4⟩⟩
  have n1' := (H.out.grew b1).sz
  have HB : Hid (Below w0.heap.size w0 w1) := b1
  clear hA hY b1 n4 H hBC hyes
  go_wp2_with fail
  refine (face_join_is _ k k s n _ _ _ _ _ HL.out (by omega) (by omega) (fun _ _ => rfl) s1 s2 n1 n2 HK.out).mono ?_
  rintro e w2 ⟨b, c, rfl, hb, hc, hc2, B2, b2⟩
  have HR : Hid (w0.heap.size ≤ b ∧ n ≤ c ∧ c ≤ 1000000 ∧ BytesAt w2 (some ⟨b, 0, none⟩) n (joined (solOf S k) s) ∧ Below w0.heap.size w0 w2) := ⟨Nat.le_trans HB.out.size hb, hc, hc2, B2, HB.out.trans (b2.mono HB.out.size)⟩
  clear B2 b2 hb hc hc2 HL HB
  go_wp2
  go_ret2
  exact ⟨b, c, rfl, HR.out⟩

/-- Another Basin with the same symbols was answered. -/
def BCopied (w : World) (f n s k : Nat) (S : Nat → Option (Nat → Nat)) (e : Ending) (w' : World) : Prop :=
  ∃ N B R, e = .returned (.pointer (some ⟨N, 0, none⟩)) ∧ w.heap.size ≤ R ∧ BasinAt w' N B R f n s k S ∧ Below w.heap.size w w'

set_option maxRecDepth 100000 in
set_option maxHeartbeats 400000 in
theorem bcopy_nil (w : World) :
    Calls Try.prog 16 #[.pointer none] w fun e w' => e = .returned (.pointer none) ∧ w' = w := by
  go_enter Try.func16, Try.ntmps16
  go_wp2_with (go_at_call 31; refine (nmade_nil _).mono ?_; rintro e w0 ⟨rfl, rfl⟩)
  go_ret
  exact ⟨rfl, rfl⟩

set_option maxRecDepth 100000 in
set_option maxHeartbeats 400000 in
theorem bcopy_yes (N B R f n s k : Nat) (S : Nat → Option (Nat → Nat)) (w : World) (h : BasinAt w N B R f n s k S) :
    Calls Try.prog 16 #[.pointer (some ⟨N, 0, none⟩)] w fun e w' => BCopied w f n s k S e w' := by
  have H : Hid (BasinAt w N B R f n s k S) := h
  have n0 := h.fr
  have n1 := h.sz
  have n2 := h.sy
  have n3 := h.kc
  have n4 := h.ba
  have b1 : Below w.heap.size w (w.alloc (.cells #[.int .u32 (f : Int), .int .i64 (n : Int), .int .i64 (s : Int), .int .i64 (k : Int), .pointer (some ⟨B, 0, none⟩)] 59)) := (Below.refl _ _).alloc (Nat.le_refl _) _
  have m4 := (h.grew b1).ba
  have H1 : Hid (BasisAt (w.alloc (.cells #[.int .u32 (f : Int), .int .i64 (n : Int), .int .i64 (s : Int), .int .i64 (k : Int), .pointer (some ⟨B, 0, none⟩)] 59)) B R k s S) := (h.grew b1).basis
  have N1 : Hid (∀ i v, #[Value.int .u32 (f : Int), .int .i64 (n : Int), .int .i64 (s : Int), .int .i64 (k : Int), .pointer (some ⟨B, 0, none⟩)][i]? = some v → (w.alloc (.cells #[.int .u32 (f : Int), .int .i64 (n : Int), .int .i64 (s : Int), .int .i64 (k : Int), .pointer (some ⟨B, 0, none⟩)] 59)).cell? ⟨w.heap.size, i, none⟩ = some v) := fun i v hv => by rw [World.cell?_alloc_at _ _ _ _ rfl]; exact hv
  have F1 : Hid ((w.alloc (.cells #[.int .u32 (f : Int), .int .i64 (n : Int), .int .i64 (s : Int), .int .i64 (k : Int), .pointer (some ⟨B, 0, none⟩)] 59)).frozen? ⟨w.heap.size, 4, none⟩ = false) := by show _ = _; rw [frozen?_alloc_cells]; simp [World.frozen?]
  have S1 : Hid ((w.alloc (.cells #[.int .u32 (f : Int), .int .i64 (n : Int), .int .i64 (s : Int), .int .i64 (k : Int), .pointer (some ⟨B, 0, none⟩)] 59)).heap.size = w.heap.size + 1) := by show _ = _; simp
  have HB : Hid (Below w.heap.size w (w.alloc (.cells #[.int .u32 (f : Int), .int .i64 (n : Int), .int .i64 (s : Int), .int .i64 (k : Int), .pointer (some ⟨B, 0, none⟩)] 59))) := b1
  clear h b1
  go_enter Try.func16, Try.ntmps16
  go_wp2_with (go_at_call 31; refine (nmade_yes N B R f n s k S _ H.out).mono ?_; rintro e w0 ⟨rfl, rfl⟩)
  clear n0 n1 n2 n3 n4 m4 H
  generalize w0.alloc (.cells #[.int .u32 (f : Int), .int .i64 (n : Int), .int .i64 (s : Int), .int .i64 (k : Int), .pointer (some ⟨B, 0, none⟩)] 59) = w1 at *
  refine (copy_any B R k s S w1 H1.out).mono ?_
  rintro e w2 ⟨B2, R2, rfl, gB, gR, h2, b2⟩
  have hl : w0.heap.size < w1.heap.size := by rw [S1.out]; omega
  have up : ∀ i v, w1.cell? ⟨w0.heap.size, i, none⟩ = some v → w2.cell? ⟨w0.heap.size, i, none⟩ = some v := fun i v hv => (b2.cell (p := ⟨w0.heap.size, i, none⟩) hl).trans hv
  have c4 := up 4 _ (N1.out 4 _ rfl)
  have f4 : w2.frozen? ⟨w0.heap.size, 4, none⟩ = false := (b2.frozen (p := ⟨w0.heap.size, 4, none⟩) hl).trans F1.out
  have hk : Kept w0.heap.size w2 (w2.setCell ⟨w0.heap.size, 4, none⟩ (.pointer (some ⟨B2, 0, none⟩))) := Kept.set w2 4 _
  have cc : ∀ i v, i ≠ 4 → w1.cell? ⟨w0.heap.size, i, none⟩ = some v → (w2.setCell ⟨w0.heap.size, 4, none⟩ (.pointer (some ⟨B2, 0, none⟩))).cell? ⟨w0.heap.size, i, none⟩ = some v := fun i v hi hv => by
    rw [World.cell?_setCell_other _ _ _ _ (fun e => hi (Addr.mk.inj e).2.1.symm)]
    exact up i v hv
  have FIN : Hid (BasinAt (w2.setCell ⟨w0.heap.size, 4, none⟩ (.pointer (some ⟨B2, 0, none⟩))) w0.heap.size B2 R2 f n s k S) :=
    ⟨cc 0 _ (by decide) (N1.out 0 _ rfl), cc 1 _ (by decide) (N1.out 1 _ rfl), cc 2 _ (by decide) (N1.out 2 _ rfl), cc 3 _ (by decide) (N1.out 3 _ rfl), World.cell?_setCell_same _ _ _ c4, h2.keptN hk (up 0 _ (N1.out 0 _ rfl)) (by decide)⟩
  have GR : Hid (w0.heap.size ≤ R2) := by show _ ≤ _; omega
  have HB2 : Hid (Below w0.heap.size w0 (w2.setCell ⟨w0.heap.size, 4, none⟩ (.pointer (some ⟨B2, 0, none⟩)))) := (HB.out.trans (b2.mono HB.out.size)).setCell (Nat.le_refl _) _
  clear up cc hk N1 F1 S1 HB H1 gB gR h2 b2 hl
  go_wp2
  go_ret
  exact ⟨w0.heap.size, B2, R2, rfl, GR.out, FIN.out, HB2.out⟩
end Go.Proofs.Ytgbeklifcchmlaa
