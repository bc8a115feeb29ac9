/-
  The document's Symbol; that package fount's answers as it does.
-/
import Derived.Test.YthlidbenhlidjaaFou
import Derived.Test.YthlidbenhlidjaaRefRow
import Derived.Test.YthlidbenhlidjaaRcu
namespace Go.Proofs.Ythlidbenhlidjaa
open Go.RowKit Go.Deep

/-- A symbol was answered by the document's. -/
def RSymAns (w : World) (s : Nat) (y : Nat → Nat) (e : Ending) (w' : World) : Prop :=
  ∃ b c, e = .returned (.tuple #[.slice (some ⟨b, 0, none⟩) s c, .bool true]) ∧ w.heap.size ≤ b ∧ BytesAt w' (some ⟨b, 0, none⟩) s y ∧ Below w.heap.size w w'

set_option maxRecDepth 100000 in
theorem rsymbol_cut (f id s : Int) (a : Option Addr) (n c : Nat) (w : World) (hno : ¬ (1 ≤ s ∧ s ≤ 64 ∧ 1 ≤ (n : Int) ∧ (n : Int) ≤ 32 * s)) :
    Calls Try.prog 22 #[.int .u32 f, .slice a n c, .int .i64 s, .int .i64 id] w fun e w' => SymNo w e w' := by
  go_enter Try.func22, Try.ntmps22
  go_wp2_with fail
  refine (rsplit_no a n c s _ hno).mono ?_
  rintro e w2 ⟨rfl, rfl⟩
  go_wp2
  go_ret2
  exact ⟨rfl, Below.refl _ _⟩

set_option maxRecDepth 100000 in
theorem rsymbol_dice (f id : Int) (a : Option Addr) (n c s k : Nat) (x : Nat → Nat) (w : World) (hx : BytesAt w a n x) (s1 : 1 ≤ s) (s2 : s ≤ 64) (n1 : 1 ≤ n) (n2 : n ≤ 32 * s) (hk : k = cntOf n s) (k1 : 1 ≤ k) (hno : ¬ (0 ≤ id ∧ id < (k : Int) + 64)) :
    Calls Try.prog 22 #[.int .u32 f, .slice a n c, .int .i64 (s : Int), .int .i64 id] w fun e w' => SymNo w e w' := by
  have HK : Hid (k = cntOf n s) := hk
  clear hk
  go_enter Try.func22, Try.ntmps22
  go_wp2_with fail
  refine (rsplit_yes a n c s k x _ hx s1 s2 n1 n2 HK.out).mono ?_
  rintro e w2 ⟨v, rfl, O2, b2⟩
  obtain ⟨g, cap, rfl, -, -⟩ := O2.lst k1 s1
  have HB : Hid (Below w.heap.size w w2) := b2
  clear O2 b2 hx
  go_wp2_with fail
  refine (rrow_no f id k _ (by omega)).mono ?_
  rintro e w3 ⟨rfl, rfl⟩
  go_wp2
  go_ret2
  exact ⟨rfl, HB.out⟩

set_option maxRecDepth 100000 in
set_option maxHeartbeats 1000000 in
theorem rsymbol_yes (f id : Nat) (a : Option Addr) (n c s k : Nat) (x : Nat → Nat) (w : World) (hx : BytesAt w a n x) (hf : f < 4294967296) (s1 : 1 ≤ s) (s2 : s ≤ 64) (n1 : 1 ≤ n) (n2 : n ≤ 32 * s) (hk : k = cntOf n s) (k1 : 1 ≤ k) (k2 : k ≤ 32) (hi : id < k + 64) :
    Calls Try.prog 22 #[.int .u32 (f : Int), .slice a n c, .int .i64 (s : Int), .int .i64 (id : Int)] w fun e w' => RSymAns w s (symOf f x n s id) e w' := by
  have HK : Hid (k = cntOf n s) := hk
  have hmk := run_make_row' (P := Try.prog) 26 5 (.int .u8 0) 1 Try.underlying26 Try.infoByte rfl .i64 .i64 s (by omega) (by omega)
  clear hk
  go_enter Try.func22, Try.ntmps22
  go_wp2_with fail
  refine (rsplit_yes a n c s k x _ hx s1 s2 n1 n2 HK.out).mono ?_
  rintro e w2 ⟨v, rfl, O2, b2⟩
  obtain ⟨L, cap, rfl, -, L2⟩ := O2.lst k1 s1
  clear O2 hx
  go_wp2_with fail
  refine (rrow_yes f id k _ hf k1 k2 hi).mono ?_
  rintro e w3 ⟨q, rfl, -, Q3, b3⟩
  have B3 : Below w.heap.size w w3 := b2.trans (b3.mono b2.size)
  have L3 := L2.grew b3
  clear b3 b2 L2
  have HB3 : Hid (Below w.heap.size w w3) := B3
  have z3 := B3.size
  have HQ : Hid (BytesAt w3 (some ⟨q, 0, none⟩) k (Dice.rowOf f id k)) := Q3
  have HL : Hid (Lst w3 L cap k s (piece x n s)) := L3
  have Y4 : BytesAt (w3.alloc (.cells (madeCells #[.int .u8 0] s) 5)) (some ⟨w3.heap.size, 0, none⟩) s (fun _ => 0) :=
    ⟨fun _ => ⟨_, 0, rfl, fun i hi => by rw [Nat.zero_add]; exact (World.rowIs_made w3 (.int .u8 0) s 5).cell hi⟩, fun _ _ => by decide⟩
  have HR : Hid (∀ i, Dice.rowOf f id k i < 256) := fun i => Dice.rowOf_lt _ _ _ _
  have HS : Hid (symOf f x n s id = mixTo (Dice.rowOf f id k) (piece x n s) k) := by show symOf f x n s id = _; unfold symOf; rw [← HK.out]
  clear Q3 L3 B3
  generalize Dice.rowOf f id k = R at *
  go_wp2_with fail
  clear hmk
  go_loopw [14, 15] (fun v i wr => ∃ (j b cc : Nat), j ≤ k ∧ i = .int .i64 j ∧ v = .slice (some ⟨b, 0, none⟩) s cc ∧ w.heap.size ≤ b ∧ BytesAt wr (some ⟨b, 0, none⟩) s (mixTo R (piece x n s) j) ∧ Below w3.heap.size w3 wr) (fun _ i _ => k - (intOf i).toNat)
  case atStart => exact ⟨0, w3.heap.size, s, Nat.zero_le _, rfl, rfl, z3, Y4, (Below.refl _ _).alloc (Nat.le_refl _) _⟩
  case round =>
    obtain ⟨j, b, cc, hj, rfl, rfl, hb, BY, BE⟩ := hrel
    have HY : Hid (BytesAt wr (some ⟨b, 0, none⟩) s (mixTo R (piece x n s) j)) := BY
    have HB : Hid (Below w3.heap.size w3 wr) := BE
    clear BY BE Y4
    by_cases hjk : j < k
    · have i1 : (j : Int) < (k : Int) := by omega
      have c1 := bytes_cell (HQ.out.below HB.out (Nat.le_refl _)) j hjk
      rw [Nat.zero_add] at c1
      obtain ⟨b', c', c2, B2, -⟩ := (HL.out.grew HB.out).at j hjk
      have l1 := HR.out j
      have HB2 : Hid (BytesAt wr (some ⟨b', 0, none⟩) s (piece x n s j)) := B2
      have HX : Hid (mixTo R (piece x n s) (j + 1) = addUp (mixTo R (piece x n s) j) (piece x n s j) (R j)) := (rfl : _ = _)
      have z1 : w.heap.size ≤ wr.heap.size := Nat.le_trans z3 HB.out.size
      clear B2
      generalize R j = rj at *
      go_wp2_with fail
      go_region_with (go_at_call 32; refine (raxpy_new s cc c' rj _ _ (mixTo R (piece x n s) j) (piece x n s j) _ ?_ ?_ (by omega) (by omega) l1).mono ?_; (first | exact HY.out | exact HY.out.grew (below_drews 1)); (first | exact HB2.out | exact HB2.out.grew (below_drews 1)); rintro e w1 ⟨g1, d1, rfl, g2, B1, b1⟩)
      all_goals
        have HB3' : Hid (Below w3.heap.size w3 w1) := HB.out.trans (by first | exact b1.mono HB.out.size | exact (below_drews 1).trans (b1.mono HB.out.size))
        have HY3 : Hid (BytesAt w1 (some ⟨g1, 0, none⟩) s (mixTo R (piece x n s) (j + 1))) := by show BytesAt _ _ _ _; rw [HX.out]; exact B1
        have z2 : w.heap.size ≤ g1 := Nat.le_trans z1 g2
        clear B1 b1
        go_wp2
        go_roundw
        case rel => exact ⟨j + 1, g1, d1, by omega, by go_num, rfl, z2, HY3.out, HB3'.out⟩
        case measure => simp [intOf]; omega
    · obtain rfl : j = k := by omega
      clear hjk hj
      go_wp2
      go_ret2
      exact ⟨b, cc, rfl, hb, by rw [HS.out]; exact HY.out, HB3.out.trans (HB.out.mono z3)⟩

/-- A text, or none, was answered. -/
def SayAns (w : World) (S : ByteArray) (ok : Bool) (e : Ending) (w' : World) : Prop :=
  ∃ a n c x, e = .returned (.tuple #[.slice a n c, .bool ok]) ∧ BytesAt w' a n x ∧ strOf n x = S ∧ Below w.heap.size w w'
theorem bytes_none (w : World) (a : Option Addr) (x : Nat → Nat) : BytesAt w a 0 x := ⟨fun g => absurd g (by decide), fun i hi => absurd hi (Nat.not_lt_zero i)⟩
theorem SymNo.say {w : World} {e : Ending} {w' : World} (h : SymNo w e w') : SayAns w (strOf 0 (fun _ => 0)) false e w' := by
  obtain ⟨rfl, hb⟩ := h
  exact ⟨_, _, _, _, rfl, bytes_none _ _ _, rfl, hb⟩

theorem symOf_congr {f n s id : Nat} {x y : Nat → Nat} (h : ∀ i, i < n → x i = y i) : symOf f x n s id = symOf f y n s id := by
  have e : piece x n s = piece y n s := by
    funext i j
    unfold piece
    split
    · exact h _ (by assumption)
    · rfl
  unfold symOf
  rw [e]

/-- Both answer alike. -/
theorem symbol_both (f : Nat) (id s : Int) (n : Nat) (x : Nat → Nat) (hf : f < 4294967296) : ∃ (S : ByteArray) (ok : Bool),
    (∀ p a c w y, FieldAt w p → BytesAt w a n y → n ≤ c → (∀ i, i < n → y i = x i) → Calls Try.prog 30 #[.pointer (some ⟨p, 0, none⟩), .int .u32 (f : Int), .slice a n c, .int .i64 s, .int .i64 id] w fun e w' => SayAns w S ok e w') ∧
    (∀ a c w, BytesAt w a n x → Calls Try.prog 22 #[.int .u32 (f : Int), .slice a n c, .int .i64 s, .int .i64 id] w fun e w' => SayAns w S ok e w') := by
  by_cases h : 1 ≤ s ∧ s ≤ 64 ∧ 1 ≤ (n : Int) ∧ (n : Int) ≤ 32 * s
  · obtain ⟨b, rfl⟩ : ∃ b : Nat, s = b := ⟨s.toNat, by omega⟩
    have k1 : 1 ≤ cntOf n b := by
      unfold cntOf
      exact (Nat.le_div_iff_mul_le (by omega)).2 (by omega)
    have k2 : cntOf n b ≤ 32 := cnt_le n b (by omega) (by omega)
    by_cases g : 0 ≤ id ∧ id < (cntOf n b : Int) + 64
    · obtain ⟨i, rfl⟩ : ∃ i : Nat, id = i := ⟨id.toNat, by omega⟩
      refine ⟨strOf b (symOf f x n b i), true, fun p a c w y hp hy hc hxy => ?_, fun a c w hx => ?_⟩
      · refine (symbol_yes p f i a n c b _ y w hp hy hc hf (by omega) (by omega) (by omega) (by omega) rfl (by omega)).mono ?_
        rintro e w' ⟨r, rfl, -, R, hb⟩
        exact ⟨_, _, _, _, rfl, R, by rw [symOf_congr hxy], hb⟩
      · refine (rsymbol_yes f i a n c b _ x w hx hf (by omega) (by omega) (by omega) (by omega) rfl k1 k2 (by omega)).mono ?_
        rintro e w' ⟨r, cr, rfl, -, R, hb⟩
        exact ⟨_, _, _, _, rfl, R, rfl, hb⟩
    · exact ⟨_, _, fun p a c w y hp hy hc _ => (symbol_dice p f id a n c b _ y w hp hy hc (by omega) (by omega) (by omega) (by omega) rfl g).mono fun _ _ h => h.say,
        fun a c w hx => (rsymbol_dice f id a n c b _ x w hx (by omega) (by omega) (by omega) (by omega) rfl k1 g).mono fun _ _ h => h.say⟩
  · exact ⟨_, _, fun p a c w y hp _ _ _ => (symbol_cut p f id s a n c w hp h).mono fun _ _ h => h.say, fun a c w _ => (rsymbol_cut f id s a n c w h).mono fun _ _ h => h.say⟩
end Go.Proofs.Ythlidbenhlidjaa
