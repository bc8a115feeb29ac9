/-
  Package fount: Symbol.
-/
import Derived.Test.YthlidbenhlidjaaStr
import Derived.Test.YthlidbenhlidjaaNil
import Derived.Test.YthlidbenhlidjaaSpl
import Derived.Test.YthlidbenhlidjaaDrw
namespace Go.Proofs.Ythlidbenhlidjaa
open Go.RowKit Go.Deep

/-- The sum of the first t rows of Z, the i-th as often as R i says. -/
def mixTo (R : Nat → Nat) (Z : Nat → Nat → Nat) : Nat → Nat → Nat
  | 0 => fun _ => 0
  | t + 1 => addUp (mixTo R Z t) (Z t) (R t)
/-- Symbol id of the n bytes x in symbols of s bytes. -/
def symOf (f : Nat) (x : Nat → Nat) (n s id : Nat) : Nat → Nat := mixTo (Dice.rowOf f id (cntOf n s)) (piece x n s) (cntOf n s)

theorem freckons_yes (p : Nat) (w : World) (h : FieldAt w p) :
    Calls Try.prog 34 #[.pointer (some ⟨p, 0, none⟩)] w fun e w' => e = .returned (.bool true) ∧ Same w w' := by
  go_enter Try.func34, Try.ntmps34
  go_wp2_with fail
  refine (inv_at p 1 1 _ h (by decide) (by decide) (by decide +kernel)).mono ?_
  rintro e w' ⟨rfl, hq⟩
  go_wp2
  go_ret
  exact ⟨rfl, hq⟩
theorem freckons_nil (w : World) :
    Calls Try.prog 34 #[.pointer none] w fun e w' => e = .returned (.bool false) ∧ w' = w := by
  go_enter Try.func34, Try.ntmps34
  go_wp2_with fail
  refine (nil_inv 1 _).mono ?_
  rintro e w' ⟨rfl, rfl⟩
  go_wp2
  go_ret
  exact ⟨rfl, rfl⟩

/-- Of B and what came behind it, a row of s bytes was answered. -/
def MixAns (w : World) (B s : Nat) (y : Nat → Nat) (e : Ending) (w' : World) : Prop :=
  ∃ b, e = .returned (.slice (some ⟨b, 0, none⟩) s s) ∧ B ≤ b ∧ BytesAt w' (some ⟨b, 0, none⟩) s y ∧ Below w.heap.size w w'

theorem PcsTo.grew {w w' : World} {L n s j : Nat} {x : Nat → Nat} {A : Nat → Value} (h : PcsTo w L n s x j A) (hb : Below w.heap.size w w') : PcsTo w' L n s x j A := fun i hi => by
  obtain ⟨b, h1, h2, h3⟩ := h i hi
  exact ⟨b, h1, h2, h3.grew hb⟩

set_option maxRecDepth 100000 in
set_option maxHeartbeats 400000 in
theorem fmixed_any (p g q L n s k B : Nat) (x R : Nat → Nat) (A : Nat → Value) (w : World) (h : FieldAt w p) (hs : BytesAt w (some ⟨g, 0, none⟩) s (fun _ => 0)) (hr : BytesAt w (some ⟨q, 0, none⟩) k R) (hL : w.rowIs L 26 k A) (hP : PcsTo w L n s x k A)
    (k2 : k ≤ 32) (s2 : s ≤ 64) (h1 : B ≤ g) (h2 : B ≤ w.heap.size) :
    Calls Try.prog 37 #[.slice (some ⟨g, 0, none⟩) s s, .slice (some ⟨q, 0, none⟩) k k, .slice (some ⟨L, 0, none⟩) k k, .func (.func 38) #[.pointer (some ⟨p, 0, none⟩)] #[]] w fun e w' =>
      MixAns w B s (mixTo R (piece x n s) k) e w' := by
  go_enter Try.func37, Try.ntmps37
  go_wp2_with fail
  go_loopw [0, 13] (fun v i wr => ∃ (j b : Nat), j ≤ k ∧ i = .int .i64 j ∧ v = .slice (some ⟨b, 0, none⟩) s s ∧ B ≤ b ∧ BytesAt wr (some ⟨b, 0, none⟩) s (mixTo R (piece x n s) j) ∧ Below w.heap.size w wr) (fun _ i _ => k - (intOf i).toNat)
  case atStart => exact ⟨0, g, Nat.zero_le _, rfl, rfl, h1, hs, Below.refl _ _⟩
  case round =>
    obtain ⟨j, b, hj, rfl, rfl, hb, BY, BE⟩ := hrel
    have HY : Hid (BytesAt wr (some ⟨b, 0, none⟩) s (mixTo R (piece x n s) j)) := BY
    have HB : Hid (Below w.heap.size w wr) := BE
    clear BY BE hs
    by_cases hjk : j < k
    · have i1 : (j : Int) < (k : Int) := by omega
      have c1 := bytes_cell (hr.below HB.out (Nat.le_refl _)) j hjk
      rw [Nat.zero_add] at c1
      obtain ⟨b', e1, -, B1⟩ := hP j hjk
      have c2 : wr.cell? ⟨L, j, none⟩ = some (.slice (some ⟨b', 0, none⟩) s s) := by
        rw [← e1, ← hL.cell hjk]
        exact HB.out.cell (p := ⟨L, j, none⟩) hL.lt
      have B2 := B1.below HB.out (Nat.le_refl _)
      have F2 := h.below HB.out h.lt
      have l1 := hr.lt j hjk
      have HX : Hid (mixTo R (piece x n s) (j + 1) = addUp (mixTo R (piece x n s) j) (piece x n s j) (R j)) := (rfl : _ = _)
      clear h hr hL hP e1 B1
      go_wp2_with fail
      refine (axpy_bytes p s s s s (R j) _ _ _ _ _ F2 HY.out B2 (by omega) (by omega) l1 s (by omega)).mono ?_
      rintro e w1 ⟨rfl, B3, b3, -⟩
      have HB3 : Hid (Below w.heap.size w w1) := HB.out.trans (b3.mono HB.out.size)
      have HY3 : Hid (BytesAt w1 (some ⟨wr.heap.size, 0, none⟩) s (mixTo R (piece x n s) (j + 1))) := B3
      have z1 : B ≤ wr.heap.size := Nat.le_trans h2 HB.out.size
      clear B2 F2 B3 b3 HX HY HB c1 c2
      go_wp2
      go_roundw
      case rel => exact ⟨j + 1, wr.heap.size, by omega, by go_num, rfl, z1, HY3.out, HB3.out⟩
      case measure => simp [intOf]; omega
    · obtain rfl : j = k := by omega
      clear hjk hj h hr hL hP
      go_wp2
      go_ret
      exact ⟨b, rfl, hb, HY.out, HB.out⟩

/-- A symbol was answered. -/
def SymAns (w : World) (s : Nat) (y : Nat → Nat) (e : Ending) (w' : World) : Prop :=
  ∃ b, e = .returned (.tuple #[.slice (some ⟨b, 0, none⟩) s s, .bool true]) ∧ w.heap.size ≤ b ∧ BytesAt w' (some ⟨b, 0, none⟩) s y ∧ Below w.heap.size w w'
/-- No was answered. -/
def SymNo (w : World) (e : Ending) (w' : World) : Prop := e = .returned (.tuple #[.slice none 0 0, .bool false]) ∧ Below w.heap.size w w'

theorem symbol_nil (f b s id : Value) (w : World) :
    Calls Try.prog 30 #[.pointer none, f, b, s, id] w fun e w' => SymNo w e w' := by
  go_enter Try.func30, Try.ntmps30
  go_wp2_with fail
  refine (freckons_nil _).mono ?_
  rintro e w' ⟨rfl, rfl⟩
  go_wp2
  go_ret2
  exact ⟨rfl, Below.refl _ _⟩

set_option maxRecDepth 100000 in
theorem symbol_cut (p : Nat) (f id s : Int) (a : Option Addr) (n c : Nat) (w : World) (h : FieldAt w p) (hno : ¬ (1 ≤ s ∧ s ≤ 64 ∧ 1 ≤ (n : Int) ∧ (n : Int) ≤ 32 * s)) :
    Calls Try.prog 30 #[.pointer (some ⟨p, 0, none⟩), .int .u32 f, .slice a n c, .int .i64 s, .int .i64 id] w fun e w' => SymNo w e w' := by
  go_enter Try.func30, Try.ntmps30
  go_wp2_with fail
  refine (freckons_yes p _ h).mono ?_
  rintro e w1 ⟨rfl, q1⟩
  go_wp2_with fail
  refine (face_split_no a n c s _ hno).mono ?_
  rintro e w2 ⟨rfl, b2⟩
  have HB : Hid (Below w.heap.size w w2) := (q1.below _).trans (b2.mono (by rw [q1.size]; exact Nat.le_refl _))
  clear q1 b2
  go_wp2
  go_ret2
  exact ⟨rfl, HB.out⟩

set_option maxRecDepth 100000 in
theorem symbol_dice (p : Nat) (f id : Int) (a : Option Addr) (n c s k : Nat) (x : Nat → Nat) (w : World) (h : FieldAt w p) (hx : BytesAt w a n x) (hc : n ≤ c) (s1 : 1 ≤ s) (s2 : s ≤ 64) (n1 : 1 ≤ n) (n2 : n ≤ 32 * s) (hk : k = cntOf n s) (hno : ¬ (0 ≤ id ∧ id < (k : Int) + 64)) :
    Calls Try.prog 30 #[.pointer (some ⟨p, 0, none⟩), .int .u32 f, .slice a n c, .int .i64 (s : Int), .int .i64 id] w fun e w' => SymNo w e w' := by
  have HK : Hid (k = cntOf n s) := hk
  clear hk
  go_enter Try.func30, Try.ntmps30
  go_wp2_with fail
  refine (freckons_yes p _ h).mono ?_
  rintro e w1 ⟨rfl, q1⟩
  go_wp2_with fail
  refine (face_split_yes a n c s k x _ (q1.bytes hx) hc s1 s2 n1 n2 HK.out).mono ?_
  rintro e w2 ⟨L, A, rfl, -, -, -, b2⟩
  have HB : Hid (Below w.heap.size w w2) := (q1.below _).trans (b2.mono (by rw [q1.size]; exact Nat.le_refl _))
  clear q1 b2 hx h
  go_wp2_with fail
  refine (drow_no f id k _ (by omega)).mono ?_
  rintro e w3 ⟨rfl, rfl⟩
  go_wp2
  go_ret2
  exact ⟨rfl, HB.out⟩

set_option maxRecDepth 100000 in
set_option maxHeartbeats 400000 in
theorem symbol_yes (p f id : Nat) (a : Option Addr) (n c s k : Nat) (x : Nat → Nat) (w : World) (h : FieldAt w p) (hx : BytesAt w a n x) (hc : n ≤ c) (hf : f < 4294967296) (s1 : 1 ≤ s) (s2 : s ≤ 64) (n1 : 1 ≤ n) (n2 : n ≤ 32 * s) (hk : k = cntOf n s) (hi : id < k + 64) :
    Calls Try.prog 30 #[.pointer (some ⟨p, 0, none⟩), .int .u32 (f : Int), .slice a n c, .int .i64 (s : Int), .int .i64 (id : Int)] w fun e w' => SymAns w s (symOf f x n s id) e w' := by
  have HK : Hid (k = cntOf n s) := hk
  have k1 : 1 ≤ k := by
    rw [hk]
    unfold cntOf
    exact (Nat.le_div_iff_mul_le (by omega)).2 (by omega)
  have k2 : k ≤ 32 := hk ▸ cnt_le n s s1 n2
  have hmf : ∀ (fn : Fn) (first cap : Array Value) (w : World), (Instr.makeFunc fn first cap).run Try.prog w = .ok (.func fn first cap) w := fun _ _ _ _ => rfl
  have hmk := run_make_row' (P := Try.prog) 26 5 (.int .u8 0) 1 Try.underlying26 Try.infoByte rfl .i64 .i64 s (by omega) (by omega)
  clear hk
  go_enter Try.func30, Try.ntmps30
  go_wp2_with fail
  refine (freckons_yes p _ h).mono ?_
  rintro e w1 ⟨rfl, q1⟩
  have F1 := q1.field h
  go_wp2_with fail
  refine (face_split_yes a n c s k x _ (q1.bytes hx) hc s1 s2 n1 n2 HK.out).mono ?_
  rintro e w2 ⟨L, A, rfl, -, R2, P2, b2⟩
  have B2 : Below w.heap.size w w2 := (q1.below _).trans (b2.mono (by rw [q1.size]; exact Nat.le_refl _))
  have F2 := F1.below b2 F1.lt
  clear q1 b2 hx h F1
  go_wp2_with fail
  refine (drow_yes f id k _ hf k1 k2 hi).mono ?_
  rintro e w3 ⟨q, rfl, -, Q3, b3⟩
  have B3 : Below w.heap.size w w3 := B2.trans (b3.mono B2.size)
  have F3 := F2.below b3 F2.lt
  have P3 := P2.grew b3
  have R3 := R2.of_block (b3.block L R2.lt)
  clear b3 B2 F2 P2 R2
  have HB3 : Hid (Below w.heap.size w w3) := B3
  have z3 := B3.size
  have b4 : Below w3.heap.size w3 (w3.alloc (.cells (madeCells #[.int .u8 0] s) 5)) := (Below.refl _ _).alloc (Nat.le_refl _) _
  have Y4 : BytesAt (w3.alloc (.cells (madeCells #[.int .u8 0] s) 5)) (some ⟨w3.heap.size, 0, none⟩) s (fun _ => 0) :=
    ⟨fun _ => ⟨_, 0, rfl, fun i hi => by rw [Nat.zero_add]; exact (World.rowIs_made w3 (.int .u8 0) s 5).cell hi⟩, fun _ _ => by decide⟩
  have z4 : (w3.alloc (.cells (madeCells #[.int .u8 0] s) 5)).heap.size = w3.heap.size + 1 := by simp
  have F4 := F3.below b4 F3.lt
  have P4 := P3.grew b4
  have R4 := R3.of_block (b4.block L R3.lt)
  have Q4 := Q3.grew b4
  clear F3 P3 R3 Q3 B3
  go_wp2_with fail
  generalize (w3.alloc (.cells (madeCells #[.int .u8 0] s) 5)) = w4 at *
  refine (fmixed_any p w3.heap.size q L n s k w.heap.size x _ A _ F4 Y4 Q4 R4 P4 k2 s2 z3 (by omega)).mono ?_
  rintro e w5 ⟨b, rfl, z5, Y5, b5⟩
  have HB5 : Hid (Below w.heap.size w w5) := HB3.out.trans ((b4.mono z3).trans (b5.mono (by omega)))
  have HY5 : Hid (BytesAt w5 (some ⟨b, 0, none⟩) s (symOf f x n s id)) := by
    show BytesAt _ _ _ _
    unfold symOf
    rw [← HK.out]
    exact Y5
  clear F4 P4 R4 Q4 Y4 b4 b5 Y5 hmk hmf HB3
  go_wp2
  go_ret2
  exact ⟨b, rfl, z5, HY5.out, HB5.out⟩
theorem symbol_is (p f id : Nat) (z : Int) (a : Option Addr) (n c s k : Nat) (x : Nat → Nat) (w : World) (hz : z = (id : Int)) (h : FieldAt w p) (hx : BytesAt w a n x) (hc : n ≤ c) (hf : f < 4294967296) (s1 : 1 ≤ s) (s2 : s ≤ 64) (n1 : 1 ≤ n) (n2 : n ≤ 32 * s) (hk : k = cntOf n s) (hi : id < k + 64) :
    Calls Try.prog 30 #[.pointer (some ⟨p, 0, none⟩), .int .u32 (f : Int), .slice a n c, .int .i64 (s : Int), .int .i64 z] w fun e w' => SymAns w s (symOf f x n s id) e w' := by
  subst hz
  exact symbol_yes p f id a n c s k x w h hx hc hf s1 s2 n1 n2 hk hi
end Go.Proofs.Ythlidbenhlidjaa
