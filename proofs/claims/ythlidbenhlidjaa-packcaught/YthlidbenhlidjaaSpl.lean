/-
  Package cut: Split.
-/
import Derived.Test.YthlidbenhlidjaaCnt
import Derived.Test.YthlidbenhlidjaaCpn
namespace Go.Proofs.Ythlidbenhlidjaa
open Go.RowKit Go.Deep

/-- The i-th symbol of s bytes of the n bytes x. -/
def piece (x : Nat → Nat) (n s i j : Nat) : Nat := if i * s + j < n then x (i * s + j) else 0

theorem piece_lt {x : Nat → Nat} {n s i : Nat} (h : ∀ i, i < n → x i < 256) (j : Nat) : piece x n s i j < 256 := by
  unfold piece
  split
  · exact h _ (by assumption)
  · decide
/-- The first j symbols stand in the room L. -/
def PcsTo (w : World) (L n s : Nat) (x : Nat → Nat) (j : Nat) (A : Nat → Value) : Prop :=
  ∀ i, i < j → ∃ b, A i = .slice (some ⟨b, 0, none⟩) s s ∧ b ≠ L ∧ BytesAt w (some ⟨b, 0, none⟩) s (piece x n s i)

theorem cnt_le (n s : Nat) (s1 : 1 ≤ s) (n2 : n ≤ 32 * s) : cntOf n s ≤ 32 := by
  unfold cntOf
  have : (n + s - 1) / s < 33 := by rw [Nat.div_lt_iff_lt_mul (by omega)]; omega
  omega
theorem cnt_mul (n s i : Nat) (s1 : 1 ≤ s) (_n1 : 1 ≤ n) (h : i < cntOf n s) : i * s < n := by
  unfold cntOf at h
  have h2 : (i + 1) * s ≤ n + s - 1 := (Nat.le_div_iff_mul_le (by omega)).1 h
  rw [Nat.add_mul, Nat.one_mul] at h2
  omega
theorem mul_fits (j s m : Nat) (h : m = j * s) (hm : m ≤ 1000000) : IntKind.i64.wrap ((j : Int) * (s : Int)) = (m : Int) := by
  rw [show (j : Int) * (s : Int) = (m : Int) by rw [h, Int.natCast_mul], IntKind.wrap_i64]
  omega
set_option maxRecDepth 100000 in
set_option maxHeartbeats 400000 in
theorem split_yes (a : Option Addr) (n c s k : Nat) (x : Nat → Nat) (w : World) (hx : BytesAt w a n x) (hc : n ≤ c) (s1 : 1 ≤ s) (s2 : s ≤ 64) (n1 : 1 ≤ n) (n2 : n ≤ 32 * s) (hk : k = cntOf n s) :
    Calls Try.prog 43 #[.slice a n c, .int .i64 (s : Int)] w fun e w' => ∃ L A, e = .returned (.slice (some ⟨L, 0, none⟩) k k) ∧ w.heap.size ≤ L ∧ w'.rowIs L 26 k A ∧ PcsTo w' L n s x k A ∧ Below w.heap.size w w' := by
  have k32 : k ≤ 32 := by rw [hk]; exact cnt_le n s s1 n2
  have n3 : n ≤ 2048 := by omega
  have HM : Hid (∀ i, i < k → i * s < n) := fun i hi => cnt_mul n s i s1 n1 (hk ▸ hi)
  have HK : Hid (cntOf n s = k) := hk.symm
  clear hk
  have hmk := run_make_row' (P := Try.prog) 77 26 (.slice none 0 0) 24 Try.underlying77 Try.infoRow rfl .i64 .i64 k (by omega) (by omega)
  have hms := run_make_row' (P := Try.prog) 26 5 (.int .u8 0) 1 Try.underlying26 Try.infoByte rfl .i64 .i64 s (by omega) (by omega)
  obtain ⟨b0, o0, rfl⟩ := bytes_some hx n1
  have HX : Hid (BytesAt w (some ⟨b0, o0, none⟩) n x) := hx
  clear hx
  go_enter Try.func43, Try.ntmps43
  go_wp2_with fail
  refine (count_yes n s _ s1 s2 n1 n2).mono ?_
  rintro e w ⟨rfl, rfl⟩
  rw [HK.out]
  clear HK n2
  go_wp2_with fail
  clear hmk
  go_loopw [14] (fun i wr => ∃ j : Nat, j ≤ k ∧ i = .int .i64 j ∧ ∃ A, wr.rowIs w.heap.size 26 k A ∧ PcsTo wr w.heap.size n s x j A ∧ Below w.heap.size w wr) (fun i _ => k - (intOf i).toNat)
  case atStart => exact ⟨0, Nat.zero_le _, rfl, _, World.rowIs_made w _ k _, fun i hi => absurd hi (by omega), (Below.refl _ _).alloc (Nat.le_refl _) _⟩
  case round =>
    obtain ⟨j, hj, rfl, A, hrow, hP, hb⟩ := hrel
    by_cases hjk : j < k
    · have i1 : (j : Int) < (k : Int) := by omega
      obtain ⟨v3, c3⟩ : ∃ v, wr.cell? ⟨w.heap.size, j, none⟩ = some v := ⟨_, hrow.cell hjk⟩
      have f3 := hrow.frozen j
      have l3 := hrow.lt
      have jm := HM.out j hjk
      have HL : Hid (((wr.setCell ⟨w.heap.size, j, none⟩ (.slice (some ⟨wr.heap.size, 0, none⟩) s s)).alloc (.cells (madeCells #[.int .u8 0] s) 5)).rowIs w.heap.size 26 k (fun i => if i = j then .slice (some ⟨wr.heap.size, 0, none⟩) s s else A i)) := (hrow.set j _).alloc _
      have HG : Hid (((wr.setCell ⟨w.heap.size, j, none⟩ (.slice (some ⟨wr.heap.size, 0, none⟩) s s)).alloc (.cells (madeCells #[.int .u8 0] s) 5)).rowIs wr.heap.size 5 s (byteAt fun _ => 0)) := by
        have := World.rowIs_made (wr.setCell ⟨w.heap.size, j, none⟩ (.slice (some ⟨wr.heap.size, 0, none⟩) s s)) (.int .u8 0) s 5
        rw [show (wr.setCell ⟨w.heap.size, j, none⟩ (.slice (some ⟨wr.heap.size, 0, none⟩) s s)).heap.size = wr.heap.size by simp [World.setCell]] at this
        exact this
      have HB : Hid (Below w.heap.size w ((wr.setCell ⟨w.heap.size, j, none⟩ (.slice (some ⟨wr.heap.size, 0, none⟩) s s)).alloc (.cells (madeCells #[.int .u8 0] s) 5))) := (hb.setCell (Nat.le_refl _) _).alloc (by have := hb.size; simpa [World.setCell] using this) _
      have HP : Hid (∀ i, i < j → ∃ b, A i = .slice (some ⟨b, 0, none⟩) s s ∧ b ≠ w.heap.size ∧ b < wr.heap.size ∧ BytesAt ((wr.setCell ⟨w.heap.size, j, none⟩ (.slice (some ⟨wr.heap.size, 0, none⟩) s s)).alloc (.cells (madeCells #[.int .u8 0] s) 5)) (some ⟨b, 0, none⟩) s (piece x n s i)) := by
        intro i hi
        obtain ⟨b, h1, h2, h3⟩ := hP i hi
        exact ⟨b, h1, h2, cell_lt (bytes_cell h3 0 (by omega)), (h3.setOther h2).grew ((Below.refl _ _).alloc (Nat.le_refl _) _)⟩
      have HS : Hid (((wr.setCell ⟨w.heap.size, j, none⟩ (.slice (some ⟨wr.heap.size, 0, none⟩) s s)).alloc (.cells (madeCells #[.int .u8 0] s) 5)).heap.size = wr.heap.size + 1) := by show _ = _; simp [World.setCell]
      clear hrow hP hb
      go_wp2_with fail
      generalize (wr.setCell ⟨w.heap.size, j, none⟩ (.slice (some ⟨wr.heap.size, 0, none⟩) s s)).alloc (.cells (madeCells #[.int .u8 0] s) 5) = w3 at *
      have c4 := HL.out.cell hjk
      simp only [if_true] at c4
      obtain ⟨m, hm⟩ : ∃ m, m = j * s := ⟨_, rfl⟩
      have hw := mul_fits j s m hm (by omega)
      have hsl := fun W => slice_from b0 o0 n c m W (by omega) hc
      have HMJ : Hid (m = j * s) := hm
      have mn : m < n := by omega
      have mc : ¬ c = m := by omega
      have HY : Hid (BytesAt w3 (some ⟨b0, o0 + m, none⟩) (n - m) (fun t => x (m + t))) := by
        have B := HX.out.below HB.out (Nat.le_refl _)
        refine ⟨fun _ => ⟨b0, o0 + m, rfl, fun i hi => ?_⟩, fun i hi => B.lt _ (by omega)⟩
        have := bytes_cell B (m + i) (by omega)
        rwa [← Nat.add_assoc] at this
      clear hm jm c3 f3 
      go_region_law (refine step_copy_run rfl (.tmp 25) (.tmp 30) rfl wr.heap.size 0 s s s (fun _ => 0) (some ⟨b0, o0 + m, none⟩) (n - m) (c - m) (fun t => x (m + t)) rfl rfl (by exact HG.out) (by exact (HY.out.grew (below_drews 1))) (by omega) ?_; intro w4 R4 K4 S4)
      go_wp2
      go_roundw
      case rel =>
        have l4 : wr.heap.size ≠ w.heap.size := by omega
        have q4 : w3.drew.heap.size = w3.heap.size := rfl
        have q5 := HS.out
        have B3 : Below w.heap.size w w3.drew := HB.out.trans (below_drews 1)
        have B4 : Below w.heap.size w3.drew w4 := K4.out.below (by omega) (by omega)
        refine ⟨j + 1, by omega, by go_num, _, HL.out.of_block (K4.out.block w.heap.size (by omega) (Ne.symm l4)), fun i hi => ?_, B3.trans B4⟩
        by_cases e : i = j
        · subst e
          refine ⟨wr.heap.size, if_pos rfl, l4, row_bytes' R4.out (fun t ht => ?_) (fun t _ => piece_lt HX.out.lt t)⟩
          have hm := HMJ.out
          unfold over piece
          rw [← hm]
          by_cases g : m + t < n
          · rw [if_pos (by omega), if_pos g]
            rfl
          · rw [if_neg (by omega), if_neg g]
        · obtain ⟨b, h1, h2, h3, h4⟩ := HP.out i (by omega)
          refine ⟨b, (if_neg e).trans h1, h2, ⟨fun _ => ⟨b, 0, rfl, fun t ht => ?_⟩, h4.lt⟩⟩
          exact K4.out.cell (bytes_cell h4 t ht) (by omega)
      case measure => simp [intOf]; omega
    · obtain rfl : j = k := by omega
      have HL : Hid (wr.rowIs w.heap.size 26 j A) := hrow
      have HP : Hid (PcsTo wr w.heap.size n s x j A) := hP
      have HB : Hid (Below w.heap.size w wr) := hb
      clear hrow hP hb hjk hj
      go_wp2
      go_ret
      exact ⟨_, A, rfl, Nat.le_refl _, HL.out, HP.out, HB.out⟩

theorem split_no (a : Option Addr) (n c : Nat) (s : Int) (w : World) (h : ¬ (1 ≤ s ∧ s ≤ 64 ∧ 1 ≤ (n : Int) ∧ (n : Int) ≤ 32 * s)) :
    Calls Try.prog 43 #[.slice a n c, .int .i64 s] w fun e w' => e = .panicked noted ∧ w' = w := by
  go_enter Try.func43, Try.ntmps43
  go_wp2_with fail
  refine (count_no n s _ h).mono ?_
  rintro e w ⟨rfl, rfl⟩
  go_wp2
  exact ⟨rfl, rfl, rfl⟩

theorem catchS_yes (p q : Addr) (x y : Value) (older : List PanicEntry) (w : World) (hc : w.cell? p = some x) (hz : w.frozen? p = false) (hd : w.cell? q = some y) (hy : w.frozen? q = false) (hpq : p ≠ q) :
    CallsD Try.prog 42 #[.pointer (some p), .pointer (some q)] (.panicking ({ v := .iface 108 (.agg #[]), recovered := false } :: older)) w fun e u' w' =>
      e = .returned (.tuple #[]) ∧ u' = .panicking ({ v := .iface 108 (.agg #[]), recovered := true } :: older) ∧ w' = (w.setCell p (.slice none 0 0)).setCell q (.bool false) := by
  have hd' : (w.setCell p (.slice none 0 0)).cell? q = some y := (World.cell?_setCell_other _ _ _ _ hpq).trans hd
  refine callsD_of_wpS Try.func42 rfl fun c₀ cs hu => ?_
  apply wpS_seq
  apply wpS_region
  simp [wpOpsS, go_sem, recoverD, hu, Try.ntmps42, Exit.thenS]
  refine wpS_cond (t := true) (by simp [Act.eval, Array.replicate]) ?_
  simp only [if_true]
  apply wpS_region
  simp [wpOpsS, go_sem, hc, hz, hd', hy, bodyPostS, results, Try.results42]

theorem catchS_idle (p q : Addr) (w : World) :
    CallsD Try.prog 42 #[.pointer (some p), .pointer (some q)] .returning w fun e u' w' => e = .returned (.tuple #[]) ∧ u' = .returning ∧ w' = w := by
  refine callsD_of_wpS Try.func42 rfl fun c₀ cs hu => ?_
  apply wpS_seq
  apply wpS_region
  simp [wpOpsS, go_sem, recoverD, hu, Try.ntmps42, Exit.thenS]
  refine wpS_cond (t := false) (by simp [Act.eval, Array.replicate]) ?_
  simp only [Bool.false_eq_true, if_false]
  refine wpS_of_wp (wp_skip ?_)
  cases c₀
  simp_all [bodyPostS, results, Try.results42]

/-- A text's symbols were answered. -/
def SplitAns (w : World) (n s k : Nat) (x : Nat → Nat) (e : Ending) (w' : World) : Prop :=
  ∃ L A, e = .returned (.tuple #[.slice (some ⟨L, 0, none⟩) k k, .bool true]) ∧ w.heap.size ≤ L ∧ w'.rowIs L 26 k A ∧ PcsTo w' L n s x k A ∧ Below w.heap.size w w'

theorem duo_below {w0 w : World} {B : Nat} (hb : Below B w0 w) (x y : Value) : Below B w0 ((w.setCell ⟨B, 0, none⟩ x).setCell ⟨B + 1, 0, none⟩ y) :=
  (hb.setCell (Nat.le_refl _) _).setCell (Nat.le_succ _) _
theorem cell_ne {w : World} {b o b' o' : Nat} {v v' : Value} (h : w.cell? ⟨b, o, none⟩ = some v) (h' : w.cell? ⟨b', o', none⟩ = some v') (hb : b = b') (ho : o = o') : v = v' := by
  subst hb ho
  exact Option.some.inj (h.symm.trans h')

set_option maxRecDepth 100000 in
theorem face_split_yes (a : Option Addr) (n c s k : Nat) (x : Nat → Nat) (w : World) (hx : BytesAt w a n x) (hc : n ≤ c) (s1 : 1 ≤ s) (s2 : s ≤ 64) (n1 : 1 ≤ n) (n2 : n ≤ 32 * s) (hk : k = cntOf n s) :
    Calls Try.prog 35 #[.slice a n c, .int .i64 (s : Int)] w fun e w' => SplitAns w n s k x e w' := by
  have hmf : ∀ (fn : Fn) (first cap : Array Value) (w : World), (Instr.makeFunc fn first cap).run Try.prog w = .ok (.func fn first cap) w := fun _ _ _ _ => rfl
  have D := Duo.made w (.slice none 0 0) (.bool false) 77 4
  have B1 : Below w.heap.size w ((w.alloc (.cells #[.slice none 0 0] 77)).alloc (.cells #[.bool false] 4)) := ((Below.refl _ _).alloc (Nat.le_refl _) _).alloc (by simp) _
  have S1 : ((w.alloc (.cells #[.slice none 0 0] 77)).alloc (.cells #[.bool false] 4)).heap.size = w.heap.size + 2 := by simp
  go_enter_defers Try.func35, Try.ntmps35
  go_wp2_with fail
  generalize ((w.alloc (.cells #[.slice none 0 0] 77)).alloc (.cells #[.bool false] 4)) = w1 at *
  refine (split_yes a n c s k x w1 (hx.grew B1) hc s1 s2 n1 n2 hk).mono ?_
  rintro e w2 ⟨L, A, rfl, hL, hR, hP, hB⟩
  have D2 := D.grew hB
  have hd1 := D2.fst
  have hd2 := D2.fstT
  have hd3 := D2.snd
  have hd4 := D2.sndT
  have D3 := D2.set (.slice (some ⟨L, 0, none⟩) k k) (.bool true)
  have g1 := D3.fst
  have g2 := D3.snd
  have HB : Hid (Below w.heap.size w ((w2.setCell ⟨w.heap.size, 0, none⟩ (.slice (some ⟨L, 0, none⟩) k k)).setCell ⟨w.heap.size + 1, 0, none⟩ (.bool true))) := duo_below (B1.trans (hB.mono (by omega))) _ _
  have HR : Hid (((w2.setCell ⟨w.heap.size, 0, none⟩ (.slice (some ⟨L, 0, none⟩) k k)).setCell ⟨w.heap.size + 1, 0, none⟩ (.bool true)).rowIs L 26 k A) := (hR.setOther (by show L ≠ w.heap.size; omega) _).setOther (by show L ≠ w.heap.size + 1; omega) _
  have HP : Hid (PcsTo ((w2.setCell ⟨w.heap.size, 0, none⟩ (.slice (some ⟨L, 0, none⟩) k k)).setCell ⟨w.heap.size + 1, 0, none⟩ (.bool true)) L n s x k A) := by
    intro i hi
    obtain ⟨b, h1, h2, h3⟩ := hP i hi
    have h4 := bytes_cell h3 0 (by omega)
    have n1 : b ≠ w.heap.size := fun e => by have := cell_ne h4 hd1 e rfl; cases this
    have n2 : b ≠ w.heap.size + 1 := fun e => by have := cell_ne h4 hd3 e rfl; cases this
    exact ⟨b, h1, h2, (h3.setOther n1).setOther n2⟩
  clear D D2 D3 hR hP hB hk
  go_wp2
  refine leaves_cons (f := 42) (args := #[.pointer (some ⟨w.heap.size, 0, none⟩), .pointer (some ⟨w.heap.size + 1, 0, none⟩)]) (by simp) (by simp [go_sem]) ?_
  refine (catchS_idle ⟨w.heap.size, 0, none⟩ ⟨w.heap.size + 1, 0, none⟩ _).mono ?_
  rintro e u' w'' ⟨rfl, rfl, rfl⟩
  generalize ((w2.setCell ⟨w.heap.size, 0, none⟩ (.slice (some ⟨L, 0, none⟩) k k)).setCell ⟨w.heap.size + 1, 0, none⟩ (.bool true)) = w5 at *
  simp [Leaves, settle, results, Try.results35, go_sem, g1, g2]
  exact ⟨L, A, rfl, by omega, HR.out, HP.out, HB.out⟩

set_option maxRecDepth 100000 in
theorem face_split_no (a : Option Addr) (n c : Nat) (s : Int) (w : World) (h : ¬ (1 ≤ s ∧ s ≤ 64 ∧ 1 ≤ (n : Int) ∧ (n : Int) ≤ 32 * s)) :
    Calls Try.prog 35 #[.slice a n c, .int .i64 s] w fun e w' => e = .returned (.tuple #[.slice none 0 0, .bool false]) ∧ Below w.heap.size w w' := by
  have hmf : ∀ (fn : Fn) (first cap : Array Value) (w : World), (Instr.makeFunc fn first cap).run Try.prog w = .ok (.func fn first cap) w := fun _ _ _ _ => rfl
  go_enter_defers Try.func35, Try.ntmps35
  go_wp2_with fail
  refine (split_no a n c s _ h).mono ?_
  rintro e w1 ⟨rfl, rfl⟩
  go_wp2
  refine leaves_cons (f := 42) (args := #[.pointer (some ⟨w.heap.size, 0, none⟩), .pointer (some ⟨w.heap.size + 1, 0, none⟩)]) (by simp) (by simp [go_sem]) ?_
  have D := Duo.made w (.slice none 0 0) (.bool false) 77 4
  refine (catchS_yes ⟨w.heap.size, 0, none⟩ ⟨w.heap.size + 1, 0, none⟩ _ _ [] _ D.fst D.fstT D.snd D.sndT (Duo.ne _)).mono ?_
  rintro e u' w'' ⟨rfl, rfl, rfl⟩
  simp [Leaves, settle, results, Try.results35, go_sem]
  exact ((Below.refl _ _).alloc (Nat.le_refl _) _).alloc (by simp) _
end Go.Proofs.Ythlidbenhlidjaa
