/-
  Several texts, one behind the other.
-/
import Derived.Test.YthlidbenhlidjaaJ10
import Derived.Test.YthlidbenhlidjaaJ11
/-
  Symbols of rows of full rank are sums that only one text has. Plain mathematics.
-/
namespace Go.Proofs.Ythlidbenhlidjaa

/-- Rows of full rank have it each time. -/
theorem Stg.again {m k n : Nat} {V Vr Vr' : Nat → Nat → Nat} {T T' : Nat → Option (Nat → Nat)} (h : Stg m k m V Vr T) (h' : Stg m k n V Vr' T') : n = m := by
  have e : n = rankTo T k := by
    refine h'.rank h.red (fun g hg => ?_) (fun t ht => ⟨V t, ?_, fun _ _ => rfl⟩)
    · obtain ⟨i, hi, hr⟩ := hg
      rw [h.is i g hi hr]
      exact h.to _ (by have := rank_lt hi hr; have := h.nr; omega)
    · refine (h.back t ht).mono fun g hg => ?_
      obtain ⟨t', ht', rfl⟩ := hg
      obtain ⟨i, r, hi, hr, e⟩ := rank_hit (T := T) k t' (by rw [← h.nr]; exact ht')
      have e2 := h.is i r hi hr
      rw [e] at e2
      rw [← e2]
      exact Sp.gen ⟨i, hi, hr⟩ (h.red.byt i r hi hr)
  rw [e, ← h.nr]

/-- The row that says symbol i alone, and what it is. -/
def tru (Z : Nat → Nat → Nat) (k i : Nat) : Nat → Nat := cat (fun j => if j = i then 1 else 0) (Z i) k
def truS (Z : Nat → Nat → Nat) (k i : Nat) : Option (Nat → Nat) := if i < k then some (tru Z k i) else none
theorem truS_some {Z : Nat → Nat → Nat} {k i : Nat} {r : Nat → Nat} (h : truS Z k i = some r) : r = tru Z k i := by
  unfold truS at h
  split at h
  · exact (Option.some.inj h).symm
  · cases h
theorem tru_low (Z : Nat → Nat → Nat) {k i j : Nat} (hj : j < k) : tru Z k i j = if j = i then 1 else 0 := by unfold tru cat; rw [if_pos hj]
theorem tru_high (Z : Nat → Nat → Nat) {k i j : Nat} (hj : ¬ j < k) : tru Z k i j = Z i (j - k) := by unfold tru cat; rw [if_neg hj]
theorem tru_byt {Z : Nat → Nat → Nat} (hz : ∀ i j, Z i j < 256) (k i : Nat) : Byt (tru Z k i) := fun j => by
  by_cases hj : j < k
  · rw [tru_low Z hj]; split <;> decide
  · rw [tru_high Z hj]; exact hz _ _
theorem tru_red {Z : Nat → Nat → Nat} (hz : ∀ i j, Z i j < 256) (k : Nat) : Red (truS Z k) k := by
  refine ⟨fun i r hi hr => ?_, fun i r hi hr => ?_, fun i r hi hr i' r' hi' hne _ => ?_, fun i r hi hr j hj => ?_⟩
  all_goals rw [truS_some hr]
  · exact tru_byt hz k i
  · rw [tru_low Z hi, if_pos rfl]
  · rw [tru_low Z hi', if_neg hne]
  · rw [tru_low Z (by omega), if_neg (by omega)]

theorem mix_none (R : Nat → Nat) (W : Nat → Nat → Nat) (t j : Nat) (h : ∀ i, i < t → W i j = 0) : mixTo R W t j = 0 := by
  induction t with
  | zero => rfl
  | succ t ih => rw [mixTo_succ, ih (fun i hi => h i (by omega)), h t (by omega), Gf.mul_zero]; rfl
theorem mix_delta (R : Nat → Nat) (W : Nat → Nat → Nat) (t j : Nat) (hj : j < t) (hR : R j < 256) (h : ∀ i, i < t → W i j = if j = i then 1 else 0) : mixTo R W t j = R j := by
  induction t with
  | zero => omega
  | succ t ih =>
    rw [mixTo_succ, h t (by omega)]
    by_cases e : j = t
    · subst e
      rw [mix_none R W _ _ (fun i hi => by rw [h i (by omega), if_neg (by omega)]), if_pos rfl, Gf.mul_one _ hR, Nat.zero_xor]
    · rw [ih (by omega) (fun i hi => h i (by omega)), if_neg e, Gf.mul_zero, Nat.xor_zero]
theorem mix_shift (R : Nat → Nat) (W Z : Nat → Nat → Nat) (t j l : Nat) (h : ∀ i, i < t → W i j = Z i l) : mixTo R W t j = mixTo R Z t l := by
  induction t with
  | zero => rfl
  | succ t ih => rw [mixTo_succ, mixTo_succ, ih (fun i hi => h i (by omega)), h t (by omega)]
/-- A row and the symbol that it says, as a sum. -/
theorem mix_cat (R : Nat → Nat) (Z : Nat → Nat → Nat) (k : Nat) (hR : ∀ i, R i < 256) : cat R (mixTo R Z k) k = mixTo R (tru Z k) k := by
  funext j
  unfold cat
  by_cases hj : j < k
  · rw [if_pos hj, mix_delta R (tru Z k) k j hj (hR j) (fun i _ => tru_low Z hj)]
  · rw [if_neg hj, mix_shift R (tru Z k) Z k j (j - k) (fun i _ => tru_high Z hj)]
theorem mix_sp (R : Nat → Nat) (Z : Nat → Nat → Nat) (k : Nat) (hR : ∀ i, R i < 256) : ∀ t, t ≤ k → Sp (Rw (truS Z k) k) (mixTo R (tru Z k) t) := by
  intro t
  induction t with
  | zero => intro _; exact Sp.zero
  | succ t ih => intro h; exact Sp.step (ih (by omega)) ⟨t, by omega, if_pos (by omega)⟩ (hR t)
theorem row_sp (R : Nat → Nat) (Z : Nat → Nat → Nat) (k : Nat) (hR : ∀ i, R i < 256) : Sp (Rw (truS Z k) k) (cat R (mixTo R Z k) k) := by
  rw [mix_cat R Z k hR]
  exact mix_sp R Z k hR k (Nat.le_refl _)
theorem gives {k : Nat} {Z V Vr : Nat → Nat → Nat} {T : Nat → Option (Nat → Nat)} (hz : ∀ i j, Z i j < 256) (st : Stg k k k V Vr T) (hV : ∀ t, t < k → Sp (Rw (truS Z k) k) (V t)) (i : Nat) (hi : i < k) (t : Nat) : Vr i (k + t) = Z i t := by
  rw [st.full (tru_red hz k) hV i hi (tru Z k i) (if_pos hi), tru_high Z (by omega), Nat.add_sub_cancel_left]

/-- What the rows that were taken are: each said more, all are sums that the text has. -/
structure Took (k d : Nat) (Z V : Nat → Nat → Nat) : Prop where
  full : d = 0 ∨ ∃ Vr T, Stg d k d V Vr T
  sum : ∀ t, t < d → Sp (Rw (truS Z k) k) (V t)
theorem Took.none (k : Nat) (Z V : Nat → Nat → Nat) : Took k 0 Z V := ⟨.inl rfl, fun t ht => absurd ht (Nat.not_lt_zero t)⟩
theorem Took.le {k d : Nat} {Z V : Nat → Nat → Nat} (h : Took k d Z V) : d ≤ k := by
  rcases h.full with rfl | ⟨Vr, T, st⟩
  · exact Nat.zero_le _
  · have := rankTo_le T k
    have := st.nr
    omega
theorem Took.byt {k d : Nat} {Z V : Nat → Nat → Nat} (h : Took k d Z V) : ∀ t, t < d → Byt (V t) := fun t ht => (h.sum t ht).byt
theorem Took.more {k d n : Nat} {Z V Vr : Nat → Nat → Nat} {T : Nat → Option (Nat → Nat)} {v : Nat → Nat} (h : Took k d Z V) (hv : Sp (Rw (truS Z k) k) v) (st : Stg (d + 1) k n (Proofs.Ythlidbenhlidjaa.more V d v) Vr T) (hn : d < n) : Took k (d + 1) Z (Proofs.Ythlidbenhlidjaa.more V d v) := by
  have e : n = d + 1 := by have := st.le; omega
  subst e
  refine ⟨.inr ⟨Vr, T, st⟩, fun t ht => ?_⟩
  by_cases et : t = d
  · rw [et, more_new]; exact hv
  · rw [← more_old V d v t (by omega)]; exact h.sum t (by omega)
end Go.Proofs.Ythlidbenhlidjaa

/-
  The document's Basin: NewBasin, Add, Payload.
-/
namespace Go.Proofs.Ythlidbenhlidjaa
open Go.RowKit Go.Deep

/-- The block N holds a Basin of the document's: a frame, how many bytes, of how many a symbol is, and where its Basis lies. -/
structure BsnAt (w : World) (N D f n s : Nat) : Prop where
  fr : w.cell? ⟨N, 0, none⟩ = some (.int .u32 (f : Int))
  sz : w.cell? ⟨N, 1, none⟩ = some (.int .i64 (n : Int))
  sy : w.cell? ⟨N, 2, none⟩ = some (.int .i64 (s : Int))
  ba : w.cell? ⟨N, 3, none⟩ = some (.pointer (some ⟨D, 0, none⟩))
theorem BsnAt.lt {w : World} {N D f n s : Nat} (h : BsnAt w N D f n s) : N < w.heap.size := cell_lt h.fr
theorem BsnAt.grew {w w' : World} {N D f n s : Nat} (h : BsnAt w N D f n s) (hb : Below w.heap.size w w') : BsnAt w' N D f n s :=
  ⟨(hb.cell (p := ⟨N, 0, none⟩) h.lt).trans h.fr, (hb.cell (p := ⟨N, 1, none⟩) h.lt).trans h.sz, (hb.cell (p := ⟨N, 2, none⟩) h.lt).trans h.sy, (hb.cell (p := ⟨N, 3, none⟩) h.lt).trans h.ba⟩
theorem BsnAt.kept {w w' : World} {N D f n s : Nat} (h : BsnAt w N D f n s) (hk : Kept D w w') (hne : N ≠ D) : BsnAt w' N D f n s :=
  ⟨hk.cell h.fr hne, hk.cell h.sz hne, hk.cell h.sy hne, hk.cell h.ba hne⟩

/-- A new Basin was answered. -/
def BsnNew (w : World) (R f n s k : Nat) (e : Ending) (w' : World) : Prop :=
  ∃ N D, e = .returned (.tuple #[.pointer (some ⟨N, 0, none⟩), .bool true]) ∧ w.heap.size ≤ N ∧ w.heap.size ≤ D ∧ N ≠ D ∧ BsnAt w' N D f n s ∧ RefAt w' D R k s 0 (fun _ _ => 0) ∧ Below w.heap.size w w'

set_option maxRecDepth 100000 in
set_option maxHeartbeats 400000 in
theorem rbasin_new (R f n s k : Nat) (w : World) (s1 : 1 ≤ s) (s2 : s ≤ 64) (n1 : 1 ≤ n) (n2 : n ≤ 32 * s) (hk : k = cntOf n s) (k1 : 1 ≤ k) (k2 : k ≤ 32) :
    Calls Try.prog 16 #[.int .u32 (f : Int), .int .i64 (n : Int), .int .i64 (s : Int)] w fun e w' => BsnNew w R f n s k e w' := by
  have HK : Hid (k = cntOf n s) := hk
  clear hk
  go_enter Try.func16, Try.ntmps16
  go_wp2_with fail
  refine (rcount_yes n s _ s1 s2 n1 n2).mono ?_
  rintro e w1 ⟨rfl, hw⟩
  have hw := hw.symm
  subst hw
  rw [← HK.out]
  go_wp2_with fail
  refine (rnew_yes k s R _ k1 k2 s1 s2).mono ?_
  rintro e w2 ⟨D, rfl, hD, R2, b2⟩
  have hbu : ∀ w, (Instr.build 75 #[(0, .int .u32 (f : Int)), (1, .int .i64 (n : Int)), (2, .int .i64 (s : Int)), (3, .pointer (some ⟨D, 0, none⟩))]).run Try.prog w = .ok (.agg #[.int .u32 (f : Int), .int .i64 (n : Int), .int .i64 (s : Int), .pointer (some ⟨D, 0, none⟩)]) w := fun w => by kernel_rfl
  have b3 : Below w2.heap.size w2 (w2.alloc (.cells #[.int .u32 (f : Int), .int .i64 (n : Int), .int .i64 (s : Int), .pointer (some ⟨D, 0, none⟩)] 75)) := (Below.refl _ _).alloc (Nat.le_refl _) _
  have N3 : Hid (BsnAt (w2.alloc (.cells #[.int .u32 (f : Int), .int .i64 (n : Int), .int .i64 (s : Int), .pointer (some ⟨D, 0, none⟩)] 75)) w2.heap.size D f n s) :=
    ⟨by rw [World.cell?_alloc_at _ _ _ _ rfl]; rfl, by rw [World.cell?_alloc_at _ _ _ _ rfl]; rfl, by rw [World.cell?_alloc_at _ _ _ _ rfl]; rfl, by rw [World.cell?_alloc_at _ _ _ _ rfl]; rfl⟩
  have R3 : Hid (RefAt (w2.alloc (.cells #[.int .u32 (f : Int), .int .i64 (n : Int), .int .i64 (s : Int), .pointer (some ⟨D, 0, none⟩)] 75)) D R k s 0 (fun _ _ => 0)) := R2.grew b3
  have B3 : Hid (Below w.heap.size w (w2.alloc (.cells #[.int .u32 (f : Int), .int .i64 (n : Int), .int .i64 (s : Int), .pointer (some ⟨D, 0, none⟩)] 75))) := b2.trans (b3.mono b2.size)
  have HD : Hid (w.heap.size ≤ w2.heap.size ∧ w.heap.size ≤ D ∧ w2.heap.size ≠ D) := ⟨b2.size, hD, by have : D < w2.heap.size := cell_lt R2.kc; omega⟩
  clear R2 b2 b3 hD
  go_wp2
  go_ret2
  exact ⟨w2.heap.size, D, rfl, HD.out.1, HD.out.2.1, HD.out.2.2, N3.out, R3.out, B3.out⟩

theorem cat_low (x y : Nat → Nat) {n i : Nat} (h : i < n) : cat x y n i = x i := if_pos h
theorem cat_high (x y : Nat → Nat) (n : Nat) : (fun t => cat x y n (n + t)) = y := by
  funext t
  unfold cat
  rw [if_neg (by omega), Nat.add_sub_cancel_left]
theorem cat_byt {x y : Nat → Nat} {n : Nat} (hx : Byt x) (hy : Byt y) : Byt (cat x y n) := fun i => by
  unfold cat
  split
  · exact hx _
  · exact hy _

set_option maxRecDepth 100000 in
set_option maxHeartbeats 1000000 in
theorem rbadd_yes (N D R f n k s d id c : Nat) (V : Nat → Nat → Nat) (y : Nat → Nat) (a : Option Addr) (w : World) (hN : BsnAt w N D f n s) (h : RefAt w D R k s d V) (hy : BytesAt w a s y) (hyb : Byt y) (hV : ∀ t, t < d → Byt (V t))
    (hf : f < 4294967296) (k1 : 1 ≤ k) (k2 : k ≤ 32) (s1 : 1 ≤ s) (s2 : s ≤ 64) (hd : d ≤ 50) (hR : R < w.heap.size) (hi : id < k + 64) :
    Calls Try.prog 17 #[.pointer (some ⟨N, 0, none⟩), .int .i64 (id : Int), .slice a s c] w fun e w' => RAdded w D R k s d V (cat (Dice.rowOf f id k) y k) e w' := by
  have n0 := hN.fr
  have n3 := hN.ba
  have kc := h.kc
  have HN : Hid (BsnAt w N D f n s) := hN
  have HH : Hid (RefAt w D R k s d V) := h
  have HY : Hid (BytesAt w a s y) := hy
  have HV : Hid (∀ t, t < d → Byt (V t)) := hV
  have HYB : Hid (Byt y) := hyb
  clear hN h hy hV hyb
  go_enter Try.func17, Try.ntmps17
  go_wp2_with fail
  go_region_with (go_at_call 26; refine (rrow_yes f id k _ hf k1 k2 hi).mono ?_; rintro e w1 ⟨r, rfl, -, B1, b1⟩; have bb : Below w.heap.size w w1 := (by first | exact b1 | exact (below_drews _).trans b1); clear b1)
  all_goals
    have HK1 : Hid (Kept D w w1) := Kept.of_below bb
    have N1 := (HN.out.grew bb).ba
    have H1 : Hid (RefAt w1 D R k s d V) := HH.out.grew bb
    have HX : Hid (BytesAt w1 (some ⟨r, 0, none⟩) k (cat (Dice.rowOf f id k) y k)) := B1.congr fun i hi => (cat_low _ _ hi).symm
    have HY1 : Hid (BytesAt w1 a s (fun t => cat (Dice.rowOf f id k) y k (k + t))) := by show BytesAt _ _ _ _; rw [cat_high]; exact HY.out.grew bb
    have hR1 : R < w1.heap.size := Nat.lt_of_lt_of_le hR bb.size
    clear n0 n3 kc B1 bb HN HH
    go_wp2_with fail
    refine (radd_yes D R k s d k c V _ _ _ _ H1.out HX.out HY1.out HV.out (cat_byt (fun j => Dice.rowOf_lt f id k j) HYB.out) k1 k2 s1 s2 hd hR1).mono ?_
    rintro e w2 ⟨m, Vr, T, st, hh, hk2⟩
    have HS : Hid (Stg (d + 1) k m (more V d (cat (Dice.rowOf f id k) y k)) Vr T) := st
    have HK2 : Hid (Kept D w w2) := HK1.out.trans hk2
    clear st hk2 HX HY1 H1 HK1 N1
    rcases hh with ⟨m1, rfl, r2⟩ | ⟨m1, rfl, r2⟩
    · have HR2 : Hid (RefAt w2 D R k s d V) := r2
      clear r2
      go_wp2
      go_ret
      exact ⟨m, Vr, T, HS.out, .inl ⟨m1, rfl, HR2.out⟩, HK2.out⟩
    · have HR2 : Hid (RefAt w2 D R k s (d + 1) (more V d (cat (Dice.rowOf f id k) y k))) := r2
      clear r2
      go_wp2
      go_ret
      exact ⟨m, Vr, T, HS.out, .inr ⟨m1, rfl, HR2.out⟩, HK2.out⟩

theorem rbadd_is (N D R f n k s d id c : Nat) (z : Int) (V : Nat → Nat → Nat) (y : Nat → Nat) (a : Option Addr) (w : World) (hz : z = (id : Int)) (hN : BsnAt w N D f n s) (h : RefAt w D R k s d V) (hy : BytesAt w a s y) (hyb : Byt y) (hV : ∀ t, t < d → Byt (V t))
    (hf : f < 4294967296) (k1 : 1 ≤ k) (k2 : k ≤ 32) (s1 : 1 ≤ s) (s2 : s ≤ 64) (hd : d ≤ 50) (hR : R < w.heap.size) (hi : id < k + 64) :
    Calls Try.prog 17 #[.pointer (some ⟨N, 0, none⟩), .int .i64 z, .slice a s c] w fun e w' => RAdded w D R k s d V (cat (Dice.rowOf f id k) y k) e w' := by
  subst hz
  exact rbadd_yes N D R f n k s d id c V y a w hN h hy hyb hV hf k1 k2 s1 s2 hd hR hi

set_option maxRecDepth 100000 in
set_option maxHeartbeats 400000 in
theorem rpay_no (N D R f n k s d : Nat) (V : Nat → Nat → Nat) (w : World) (hN : BsnAt w N D f n s) (h : RefAt w D R k s d V) (hd : d < k) :
    Calls Try.prog 18 #[.pointer (some ⟨N, 0, none⟩)] w fun e w' => e = .returned (.tuple #[.slice none 0 0, .bool false]) ∧ Same w w' := by
  have n3 := hN.ba
  clear hN
  go_enter Try.func18, Try.ntmps18
  go_wp2_with fail
  refine (rsolve_no D R k s d V _ h hd).mono ?_
  rintro e w1 ⟨rfl, q1⟩
  have HQ : Hid (Same w w1) := q1
  clear q1 h n3
  go_wp2
  go_ret2
  exact ⟨rfl, HQ.out⟩

set_option maxRecDepth 100000 in
set_option maxHeartbeats 400000 in
theorem rpay_yes (N D R f n k s : Nat) (Z V : Nat → Nat → Nat) (w : World) (hN : BsnAt w N D f n s) (h : RefAt w D R k s k V) (hT : Took k k Z V) (hz : ∀ i j, Z i j < 256) (k1 : 1 ≤ k) (k2 : k ≤ 32) (s1 : 1 ≤ s) (s2 : s ≤ 64) (n1 : 1 ≤ n) (n2 : n ≤ 32 * s) (hk : cntOf n s = k) :
    Calls Try.prog 18 #[.pointer (some ⟨N, 0, none⟩)] w fun e w' => Got w n (joined Z s) e w' := by
  have n3 := hN.ba
  have HN : Hid (BsnAt w N D f n s) := hN
  have HK : Hid (cntOf n s = k) := hk
  clear hN hk
  go_enter Try.func18, Try.ntmps18
  go_wp2_with fail
  refine (rsolve_yes D R k s k V _ h (Nat.le_refl _) hT.byt k1 k2 s1 s2 (by omega)).mono ?_
  rintro e w1 ⟨gb, cb, m, Vr, T, rfl, st, L1, b1⟩
  have hm : m = k := by
    rcases hT.full with e | ⟨Vr0, T0, st0⟩
    · omega
    · exact st0.again st
  subst hm
  have L2 : Lst w1 gb cb m s Z := by
    obtain ⟨A, hr, hA⟩ := L1.row
    refine ⟨L1.le, ⟨A, hr, fun i hi => ?_⟩, L1.m1, L1.n1⟩
    obtain ⟨b, c, e, B⟩ := hA i hi
    exact ⟨b, c, e, B.congr fun j _ => gives hz st hT.sum i hi j⟩
  obtain ⟨BC, hBC⟩ : ∃ BC : Nat → Nat × Nat, ∀ i, i < m → w1.cell? ⟨gb, i, none⟩ = some (.slice (some ⟨(BC i).1, 0, none⟩) s (BC i).2) ∧ BytesAt w1 (some ⟨(BC i).1, 0, none⟩) s (Z i) :=
    choose_lt (p := fun i (q : Nat × Nat) => w1.cell? ⟨gb, i, none⟩ = some (.slice (some ⟨q.1, 0, none⟩) s q.2) ∧ BytesAt w1 (some ⟨q.1, 0, none⟩) s (Z i)) fun i hi => by
      obtain ⟨b, c, h1, h2, -⟩ := L2.at i hi
      exact ⟨(b, c), h1, h2⟩
  have HL : Hid (∀ i, i < m → w1.cell? ⟨gb, 0 + i, none⟩ = some (.slice (some ⟨(BC i).1, 0, none⟩) s (BC i).2) ∧ BytesAt w1 (some ⟨(BC i).1, 0, none⟩) s (Z i)) := fun i hi => by rw [Nat.zero_add]; exact hBC i hi
  have n2' := (HN.out.grew b1).sz
  have HB : Hid (Below w.heap.size w w1) := b1
  clear h hT st L1 L2 b1 hBC n3 HN
  go_wp2_with fail
  refine (rjoin_lists gb 0 m cb _ (fun _ => s) _ Z n _ HL.out k1 (by omega) (fun _ _ => by omega)).mono ?_
  rintro e w2 ⟨hg, -⟩
  obtain ⟨a2, c2, rfl, B2, b2⟩ := hg ⟨k1, fun _ _ => rfl, ⟨s1, s2, by omega, by show (n : Int) ≤ 32 * (s : Int); omega⟩, by rw [Int.toNat_natCast]; exact HK.out⟩
  rw [Int.toNat_natCast] at B2 ⊢
  have HB2 : Hid (BytesAt w2 a2 n (joined Z s)) := B2
  have HW : Hid (Below w.heap.size w w2) := HB.out.trans (b2.mono HB.out.size)
  clear B2 b2 HL
  go_wp2
  go_ret2
  exact ⟨_, _, rfl, HB2.out, HW.out⟩
end Go.Proofs.Ythlidbenhlidjaa
