/-
  Package cut: Join.
-/
import Derived.Test.YtgbeklifcchmlaaSpl
import Derived.Test.YtgbeklifcchmlaaOpn
namespace Go.Proofs.Ytgbeklifcchmlaa
open Go.RowKit Go.Deep

/-- As ListsAt, with no word on rooms. -/
def RowsAt (w : World) (a : Option Addr) (len : Nat) (A : Nat → Option Addr) (L C : Nat → Nat) (Z : Nat → Nat → Nat) : Prop :=
  0 < len → ∃ b o, a = some ⟨b, o, none⟩ ∧ ∀ i, i < len → w.cell? ⟨b, o + i, none⟩ = some (.slice (A i) (L i) (C i)) ∧ BytesAt w (A i) (L i) (Z i)
theorem ListsAt.rows {w : World} {a : Option Addr} {n : Nat} {A : Nat → Option Addr} {L C : Nat → Nat} {Z : Nat → Nat → Nat} (h : ListsAt w a n A L C Z) : RowsAt w a n A L C Z := fun hn => by
  obtain ⟨b, o, e, hc⟩ := h hn
  exact ⟨b, o, e, fun i hi => ⟨(hc i hi).1, (hc i hi).2.2.2⟩⟩
theorem RowsAt.grew {w w' : World} {a : Option Addr} {n : Nat} {A : Nat → Option Addr} {L C : Nat → Nat} {Z : Nat → Nat → Nat} (h : RowsAt w a n A L C Z) (hb : Below w.heap.size w w') : RowsAt w' a n A L C Z := by
  intro hn
  obtain ⟨b, o, e, hc⟩ := h hn
  refine ⟨b, o, e, fun i hi => ?_⟩
  obtain ⟨h1, h4⟩ := hc i hi
  exact ⟨(hb.cell (p := ⟨b, o + i, none⟩) (cell_lt h1)).trans h1, h4.grew hb⟩

set_option maxRecDepth 100000 in
set_option maxHeartbeats 400000 in
theorem width_is (a : Option Addr) (n c s : Nat) (A : Nat → Option Addr) (L C : Nat → Nat) (Z : Nat → Nat → Nat) (w : World) (h : RowsAt w a n A L C Z) (n1 : 0 < n) (n2 : n ≤ 1000000) (hs : ∀ i, i < n → L i = s) :
    Calls Try.prog 62 #[.slice a n c] w fun e w' => e = .returned (.int .i64 (s : Int)) ∧ w' = w := by
  obtain ⟨b, o, rfl, hc⟩ := h n1
  have c0 : w.cell? ⟨b, o, none⟩ = some (.slice (A 0) s (C 0)) := by have := (hc 0 n1).1; rw [hs 0 n1] at this; exact this
  have HC : Hid (∀ i, i < n → w.cell? ⟨b, o + i, none⟩ = some (.slice (A i) s (C i))) := fun i hi => by rw [(hc i hi).1, hs i hi]
  clear h hc
  go_enter Try.func62, Try.ntmps62
  go_wp2_with fail
  refine (demand_yes _ _ (by simp <;> omega)).mono ?_
  rintro e w ⟨rfl, rfl⟩
  go_wp2_with fail
  go_loopw [11] (fun i wi => ∃ m : Nat, m ≤ n ∧ i = .int .i64 m ∧ wi = w) (fun i _ => n - (intOf i).toNat)
  case atStart => exact ⟨0, Nat.zero_le _, rfl, rfl⟩
  case round =>
    obtain ⟨m, hm, rfl, hw⟩ := hrel
    subst wr
    by_cases hmn : m < n
    · have c1 := HC.out m hmn
      have i1 : (m : Int) < (n : Int) := by omega
      go_wp2_with fail
      refine (demand_yes _ _ (by simp)).mono ?_
      rintro e w' ⟨rfl, hw⟩
      have hw := hw.symm
      subst hw
      go_wp2
      go_roundw
      case rel => exact ⟨m + 1, by omega, by go_num, trivial⟩
      case measure => simp [intOf]; omega
    · obtain rfl : m = n := by omega
      go_wp2
      go_ret
      exact ⟨rfl, rfl⟩
theorem width_yes (a : Option Addr) (n c s : Nat) (A : Nat → Option Addr) (L C : Nat → Nat) (Z : Nat → Nat → Nat) (w : World) (h : ListsAt w a n A L C Z) (n1 : 0 < n) (n2 : n ≤ 1000000) (hs : ∀ i, i < n → L i = s) :
    Calls Try.prog 62 #[.slice a n c] w fun e w' => e = .returned (.int .i64 (s : Int)) ∧ w' = w :=
  width_is a n c s A L C Z w h.rows n1 n2 hs

theorem width_none (a : Option Addr) (c : Nat) (w : World) :
    Calls Try.prog 62 #[.slice a 0 c] w fun e w' => e = .panicked noted ∧ w' = w := by
  go_enter Try.func62, Try.ntmps62
  go_wp2_with fail
  refine (demand_no _ _ (by simp)).mono ?_
  rintro e w ⟨rfl, rfl⟩
  go_wp2
  exact ⟨rfl, rfl, rfl⟩

set_option maxRecDepth 100000 in
set_option maxHeartbeats 400000 in
theorem width_no (a : Option Addr) (n c : Nat) (A : Nat → Option Addr) (L C : Nat → Nat) (Z : Nat → Nat → Nat) (w : World) (h : ListsAt w a n A L C Z) (n1 : 0 < n) (n2 : n ≤ 1000000) (hs : ¬ ∀ i, i < n → L i = L 0) :
    Calls Try.prog 62 #[.slice a n c] w fun e w' => e = .panicked noted ∧ w' = w := by
  obtain ⟨b, o, rfl, hc⟩ := h n1
  have c0 : w.cell? ⟨b, o, none⟩ = some (.slice (A 0) (L 0) (C 0)) := (hc 0 n1).1
  have HC : Hid (∀ i, i < n → w.cell? ⟨b, o + i, none⟩ = some (.slice (A i) (L i) (C i))) := fun i hi => (hc i hi).1
  have HN : Hid (¬ ∀ i, i < n → L i = L 0) := hs
  clear h hc hs
  go_enter Try.func62, Try.ntmps62
  go_wp2_with fail
  refine (demand_yes _ _ (by simp <;> omega)).mono ?_
  rintro e w ⟨rfl, rfl⟩
  go_wp2_with fail
  go_loopw [11] (fun i wi => ∃ m : Nat, m ≤ n ∧ i = .int .i64 m ∧ (∀ i, i < m → L i = L 0) ∧ wi = w) (fun i _ => n - (intOf i).toNat)
  case atStart => exact ⟨0, Nat.zero_le _, rfl, fun i hi => absurd hi (by omega), rfl⟩
  case round =>
    obtain ⟨m, hm, rfl, hL, hw⟩ := hrel
    subst wr
    have HL : Hid (∀ i, i < m → L i = L 0) := hL
    clear hL
    by_cases hmn : m < n
    · have c1 := HC.out m hmn
      have i1 : (m : Int) < (n : Int) := by omega
      by_cases e : L m = L 0
      · rw [e] at c1
        go_wp2_with fail
        refine (demand_yes _ _ (by simp)).mono ?_
        rintro e w' ⟨rfl, hw⟩
        have hw := hw.symm
        subst hw
        go_wp2
        go_roundw
        case rel =>
          refine ⟨m + 1, by omega, by go_num, fun i hi => ?_, trivial⟩
          by_cases g : i = m
          · rw [g]; assumption
          · exact HL.out i (by omega)
        case measure => simp [intOf]; omega
      · go_wp2_with fail
        refine (demand_no _ _ (by simp <;> omega)).mono ?_
        rintro e w' ⟨rfl, hw⟩
        have hw := hw.symm
        subst hw
        go_wp2
        exact ⟨rfl, rfl, rfl⟩
    · obtain rfl : m = n := by omega
      exact absurd HL.out HN.out

/-- The bytes of symbols of s bytes, one behind the other. -/
def joined (Z : Nat → Nat → Nat) (s i : Nat) : Nat := Z (i / s) (i % s)
/-- .. behind j of them. -/
def joinTo (Z : Nat → Nat → Nat) (s j i : Nat) : Nat := if i < j * s then joined Z s i else 0

theorem join_step (Z : Nat → Nat → Nat) (s j m size i : Nat) (s1 : 1 ≤ s) (hm : m = j * s) (hi : i < size) : over (joinTo Z s j) (Z j) m (min s (size - m)) i = joinTo Z s (j + 1) i := by
  have e : (j + 1) * s = m + s := by rw [Nat.add_mul, Nat.one_mul, hm]
  unfold over joinTo
  rw [e, ← hm]
  by_cases h1 : i < m
  · rw [if_neg (by omega), if_pos h1, if_pos (by omega)]
  · by_cases h2 : i < m + s
    · rw [if_pos (by omega), if_pos h2]
      have h3 : i / s = j := Nat.div_eq_of_lt_le (by omega) (by omega)
      have h4 := Nat.div_add_mod i s
      rw [h3, Nat.mul_comm s j, ← hm] at h4
      unfold joined
      rw [h3, show i % s = i - m by omega]
    · rw [if_neg (by omega), if_neg h1, if_neg h2]
theorem cnt_ge (n s : Nat) (s1 : 1 ≤ s) : n ≤ cntOf n s * s := by
  have h : (n + s - 1) / s < (n + s - 1) / s + 1 := Nat.lt_succ_self _
  have h2 := (Nat.div_lt_iff_lt_mul (by omega)).1 h
  rw [Nat.add_mul, Nat.one_mul] at h2
  unfold cntOf
  omega

theorem joined_piece (x : Nat → Nat) (n s i : Nat) (hi : i < n) : joined (piece x n s) s i = x i := by
  have h := Nat.div_add_mod i s
  unfold joined piece
  rw [Nat.mul_comm (i / s) s, h, if_pos hi]
theorem ListsAt.grew {w w' : World} {a : Option Addr} {n : Nat} {A : Nat → Option Addr} {L C : Nat → Nat} {Z : Nat → Nat → Nat} (h : ListsAt w a n A L C Z) (hb : Below w.heap.size w w') : ListsAt w' a n A L C Z := by
  intro hn
  obtain ⟨b, o, e, hc⟩ := h hn
  refine ⟨b, o, e, fun i hi => ?_⟩
  obtain ⟨h1, h2, h3, h4⟩ := hc i hi
  exact ⟨(hb.cell (p := ⟨b, o + i, none⟩) (cell_lt h1)).trans h1, h2, h3, h4.grew hb⟩

/-- A refusal within: no answer. -/
def Refused (w : World) (e : Ending) (w' : World) : Prop := e = .panicked noted ∧ w' = w

theorem join_none (a : Option Addr) (c : Nat) (size : Int) (w : World) :
    Calls Try.prog 49 #[.slice a 0 c, .int .i64 size] w fun e w' => Refused w e w' := by
  go_enter Try.func49, Try.ntmps49
  go_wp2_with fail
  refine (width_none a c _).mono ?_
  rintro e w ⟨rfl, rfl⟩
  go_wp2
  exact ⟨rfl, rfl, rfl⟩
theorem join_odd (a : Option Addr) (n c : Nat) (A : Nat → Option Addr) (L C : Nat → Nat) (Z : Nat → Nat → Nat) (size : Int) (w : World) (h : ListsAt w a n A L C Z) (n1 : 0 < n) (n2 : n ≤ 1000000) (hs : ¬ ∀ i, i < n → L i = L 0) :
    Calls Try.prog 49 #[.slice a n c, .int .i64 size] w fun e w' => Refused w e w' := by
  go_enter Try.func49, Try.ntmps49
  go_wp2_with fail
  refine (width_no a n c A L C Z _ h n1 n2 hs).mono ?_
  rintro e w ⟨rfl, rfl⟩
  go_wp2
  exact ⟨rfl, rfl, rfl⟩
theorem join_far (a : Option Addr) (n c s : Nat) (A : Nat → Option Addr) (L C : Nat → Nat) (Z : Nat → Nat → Nat) (size : Int) (w : World) (h : ListsAt w a n A L C Z) (n1 : 0 < n) (n2 : n ≤ 1000000) (hs : ∀ i, i < n → L i = s) (hn : ¬ (1 ≤ (s : Int) ∧ (s : Int) ≤ 64 ∧ 1 ≤ size ∧ size ≤ 32 * (s : Int))) :
    Calls Try.prog 49 #[.slice a n c, .int .i64 size] w fun e w' => Refused w e w' := by
  have HN : Hid (¬ (1 ≤ (s : Int) ∧ (s : Int) ≤ 64 ∧ 1 ≤ size ∧ size ≤ 32 * (s : Int))) := hn
  clear hn
  go_enter Try.func49, Try.ntmps49
  go_wp2_with fail
  refine (width_yes a n c s A L C Z _ h n1 n2 hs).mono ?_
  rintro e w ⟨rfl, rfl⟩
  go_wp2_with fail
  refine (count_no size s _ HN.out).mono ?_
  rintro e w ⟨rfl, rfl⟩
  go_wp2
  exact ⟨rfl, rfl, rfl⟩
set_option maxRecDepth 100000 in
theorem join_wrong (a : Option Addr) (n c s size : Nat) (A : Nat → Option Addr) (L C : Nat → Nat) (Z : Nat → Nat → Nat) (w : World) (h : ListsAt w a n A L C Z) (n1 : 0 < n) (n2 : n ≤ 1000000) (hs : ∀ i, i < n → L i = s) (s1 : 1 ≤ s) (s2 : s ≤ 64) (z1 : 1 ≤ size) (z2 : size ≤ 32 * s) (hk : cntOf size s ≠ n) :
    Calls Try.prog 49 #[.slice a n c, .int .i64 (size : Int)] w fun e w' => Refused w e w' := by
  have HK : Hid (cntOf size s ≠ n) := hk
  clear hk
  go_enter Try.func49, Try.ntmps49
  go_wp2_with fail
  refine (width_yes a n c s A L C Z _ h n1 n2 hs).mono ?_
  rintro e w ⟨rfl, rfl⟩
  go_wp2_with fail
  refine (count_yes size s _ s1 s2 z1 z2).mono ?_
  rintro e w ⟨rfl, rfl⟩
  go_wp2_with fail
  refine (demand_no _ _ (by have := HK.out; simp <;> omega)).mono ?_
  rintro e w ⟨rfl, rfl⟩
  go_wp2
  exact ⟨rfl, rfl, rfl⟩

set_option maxRecDepth 100000 in
set_option maxHeartbeats 400000 in
theorem join_is (a : Option Addr) (n c s size : Nat) (A : Nat → Option Addr) (L C : Nat → Nat) (Z : Nat → Nat → Nat) (w : World) (h : RowsAt w a n A L C Z) (n1 : 0 < n) (n2 : n ≤ 1000000) (hs : ∀ i, i < n → L i = s) (s1 : 1 ≤ s) (s2 : s ≤ 64) (z1 : 1 ≤ size) (z2 : size ≤ 32 * s) (hk : cntOf size s = n) :
    Calls Try.prog 49 #[.slice a n c, .int .i64 (size : Int)] w fun e w' => e = .returned (.slice (some ⟨w.heap.size, 0, none⟩) size size) ∧ BytesAt w' (some ⟨w.heap.size, 0, none⟩) size (joined Z s) ∧ Below w.heap.size w w' := by
  have z3 : size ≤ 2048 := by omega
  have HM : Hid (∀ i, i < n → i * s < size) := fun i hi => cnt_mul size s i s1 z1 (hk ▸ hi)
  have HE : Hid (size ≤ n * s) := hk ▸ cnt_ge size s s1
  have HK : Hid (cntOf size s = n) := hk
  have hmk := run_make_row' (P := Try.prog) 34 5 (.int .u8 0) 1 Try.underlying34 Try.infoByte rfl .i64 .i64 size (by omega) (by omega)
  obtain ⟨b, o, rfl, hc⟩ := h n1
  have HC : Hid (∀ i, i < n → w.cell? ⟨b, o + i, none⟩ = some (.slice (A i) s (C i)) ∧ BytesAt w (A i) s (Z i)) := fun i hi => by
    obtain ⟨h1, h2⟩ := hc i hi
    rw [hs i hi] at h1 h2
    exact ⟨h1, h2⟩
  clear hk hc
  go_enter Try.func49, Try.ntmps49
  go_wp2_with fail
  refine (width_is _ n c s A L C Z _ h n1 n2 hs).mono ?_
  rintro e w ⟨rfl, rfl⟩
  clear h
  go_wp2_with fail
  refine (count_yes size s _ s1 s2 z1 z2).mono ?_
  rintro e w ⟨rfl, rfl⟩
  go_wp2_with fail
  refine (demand_yes _ _ (by have := HK.out; simp <;> omega)).mono ?_
  rintro e w ⟨rfl, rfl⟩
  go_wp2_with fail
  clear hmk HK hs
  go_loopw [22] (fun i wr => ∃ j : Nat, j ≤ n ∧ i = .int .i64 j ∧ wr.rowIs w.heap.size 5 size (byteAt (joinTo Z s j)) ∧ Below w.heap.size w wr) (fun i _ => n - (intOf i).toNat)
  case atStart => exact ⟨0, Nat.zero_le _, rfl, (World.rowIs_made w _ size _).congr fun i _ => by unfold byteAt joinTo; rw [if_neg (by omega)]; rfl, (Below.refl _ _).alloc (Nat.le_refl _) _⟩
  case round =>
    obtain ⟨j, hj, rfl, hrow, hb⟩ := hrel
    have HR : Hid (wr.rowIs w.heap.size 5 size (byteAt (joinTo Z s j))) := hrow
    have HB : Hid (Below w.heap.size w wr) := hb
    clear hrow hb
    by_cases hjn : j < n
    · have i1 : (j : Int) < (n : Int) := by omega
      have c1 : wr.cell? ⟨b, o + j, none⟩ = some (.slice (A j) s (C j)) := (HB.out.cell (p := ⟨b, o + j, none⟩) (cell_lt (HC.out j hjn).1)).trans (HC.out j hjn).1
      have HZ : Hid (BytesAt wr (A j) s (Z j)) := (HC.out j hjn).2.below HB.out (Nat.le_refl _)
      have jm := HM.out j hjn
      obtain ⟨m, hm⟩ : ∃ m, m = j * s := ⟨_, rfl⟩
      have HMJ : Hid (m = j * s) := hm
      have hw := mul_fits j s m hm (by omega)
      have hsl := fun W => slice_from w.heap.size 0 size size m W (by omega) (Nat.le_refl _)
      rw [Nat.zero_add] at hsl
      have mn : m < size := by omega
      have mc : ¬ size = m := by omega
      have l1 := HR.out.lt
      clear hm jm
      obtain ⟨w4, hcp, r4, k4, -⟩ := copy_run wr 3 w.heap.size m (size - m) (size - m) size (joinTo Z s j) (A j) s (C j) (Z j) HR.out HZ.out (by omega)
      have R4 : Hid (w4.rowIs w.heap.size 5 size (byteAt (over (joinTo Z s j) (Z j) m (min s (size - m))))) := r4
      have K4 : Hid (Kept w.heap.size wr w4) := k4
      clear r4 k4
      go_wp2
      go_roundw
      case rel =>
        refine ⟨j + 1, by omega, by go_num, R4.out.congr fun i hi => ?_, HB.out.trans (K4.out.below (Nat.le_refl _) (by omega))⟩
        unfold byteAt
        rw [join_step Z s j m size i s1 HMJ.out hi]
      case measure => simp [intOf]; omega
    · obtain rfl : j = n := by omega
      clear hjn hj
      go_wp2
      go_ret
      refine ⟨rfl, row_bytes' HR.out (fun i hi => ?_) (fun i hi => ?_), HB.out⟩
      · have := HE.out
        unfold joinTo
        rw [if_pos (by omega)]
      · have h1 : i / s < j := by
          have := HE.out
          rw [Nat.div_lt_iff_lt_mul (by omega)]
          omega
        exact (HC.out (i / s) h1).2.lt _ (Nat.mod_lt _ (by omega))
theorem join_yes (a : Option Addr) (n c s size : Nat) (A : Nat → Option Addr) (L C : Nat → Nat) (Z : Nat → Nat → Nat) (w : World) (h : ListsAt w a n A L C Z) (n1 : 0 < n) (n2 : n ≤ 1000000) (hs : ∀ i, i < n → L i = s) (s1 : 1 ≤ s) (s2 : s ≤ 64) (z1 : 1 ≤ size) (z2 : size ≤ 32 * s) (hk : cntOf size s = n) :
    Calls Try.prog 49 #[.slice a n c, .int .i64 (size : Int)] w fun e w' => e = .returned (.slice (some ⟨w.heap.size, 0, none⟩) size size) ∧ BytesAt w' (some ⟨w.heap.size, 0, none⟩) size (joined Z s) ∧ Below w.heap.size w w' :=
  join_is a n c s size A L C Z w h.rows n1 n2 hs s1 s2 z1 z2 hk

theorem catchJ_yes (p q : Addr) (x y : Value) (older : List PanicEntry) (w : World) (hc : w.cell? p = some x) (hz : w.frozen? p = false) (hd : w.cell? q = some y) (hy : w.frozen? q = false) (hpq : p ≠ q) :
    CallsD Try.prog 48 #[.pointer (some p), .pointer (some q)] (.panicking ({ v := .iface 101 (.agg #[]), recovered := false } :: older)) w fun e u' w' =>
      e = .returned (.tuple #[]) ∧ u' = .panicking ({ v := .iface 101 (.agg #[]), recovered := true } :: older) ∧ w' = (w.setCell p (.slice none 0 0)).setCell q (.bool false) := by
  have hd' : (w.setCell p (.slice none 0 0)).cell? q = some y := (World.cell?_setCell_other _ _ _ _ hpq).trans hd
  refine callsD_of_wpS Try.func48 rfl fun c₀ cs hu => ?_
  apply wpS_seq
  apply wpS_region
  simp [wpOpsS, go_sem, recoverD, hu, Try.ntmps48, Exit.thenS]
  refine wpS_cond (t := true) (by simp [Act.eval, Array.replicate]) ?_
  simp only [if_true]
  apply wpS_region
  simp [wpOpsS, go_sem, hc, hz, hd', hy, bodyPostS, results, Try.results48]

theorem catchJ_idle (p q : Addr) (w : World) :
    CallsD Try.prog 48 #[.pointer (some p), .pointer (some q)] .returning w fun e u' w' => e = .returned (.tuple #[]) ∧ u' = .returning ∧ w' = w := by
  refine callsD_of_wpS Try.func48 rfl fun c₀ cs hu => ?_
  apply wpS_seq
  apply wpS_region
  simp [wpOpsS, go_sem, recoverD, hu, Try.ntmps48, Exit.thenS]
  refine wpS_cond (t := false) (by simp [Act.eval, Array.replicate]) ?_
  simp only [Bool.false_eq_true, if_false]
  refine wpS_of_wp (wp_skip ?_)
  cases c₀
  simp_all [bodyPostS, results, Try.results48]

/-- A new row of n bytes x was answered, and yes. -/
def RowYes (w : World) (n : Nat) (x : Nat → Nat) (e : Ending) (w' : World) : Prop :=
  ∃ b c, e = .returned (.tuple #[.slice (some ⟨b, 0, none⟩) n c, .bool true]) ∧ w.heap.size ≤ b ∧ n ≤ c ∧ c ≤ 1000000 ∧ BytesAt w' (some ⟨b, 0, none⟩) n x ∧ Below w.heap.size w w'
/-- Nothing was answered, and no. -/
def RowNo (w : World) (e : Ending) (w' : World) : Prop := e = .returned (.tuple #[.slice none 0 0, .bool false]) ∧ Below w.heap.size w w'

set_option maxRecDepth 100000 in
theorem face_join_is (a : Option Addr) (n c s size : Nat) (A : Nat → Option Addr) (L C : Nat → Nat) (Z : Nat → Nat → Nat) (w : World) (h : RowsAt w a n A L C Z) (n1 : 0 < n) (n2 : n ≤ 1000000) (hs : ∀ i, i < n → L i = s) (s1 : 1 ≤ s) (s2 : s ≤ 64) (z1 : 1 ≤ size) (z2 : size ≤ 32 * s) (hk : cntOf size s = n) :
    Calls Try.prog 33 #[.slice a n c, .int .i64 (size : Int)] w fun e w' => RowYes w size (joined Z s) e w' := by
  have hmf : ∀ (fn : Fn) (first cap : Array Value) (w : World), (Instr.makeFunc fn first cap).run Try.prog w = .ok (.func fn first cap) w := fun _ _ _ _ => rfl
  have D := Duo.made w (.slice none 0 0) (.bool false) 34 4
  have B1 : Below w.heap.size w ((w.alloc (.cells #[.slice none 0 0] 34)).alloc (.cells #[.bool false] 4)) := ((Below.refl _ _).alloc (Nat.le_refl _) _).alloc (by simp) _
  have S1 : ((w.alloc (.cells #[.slice none 0 0] 34)).alloc (.cells #[.bool false] 4)).heap.size = w.heap.size + 2 := by simp
  go_enter_defers Try.func33, Try.ntmps33
  go_wp2_with fail
  generalize ((w.alloc (.cells #[.slice none 0 0] 34)).alloc (.cells #[.bool false] 4)) = w1 at *
  refine (join_is a n c s size A L C Z w1 (h.grew B1) n1 n2 hs s1 s2 z1 z2 hk).mono ?_
  rintro e w2 ⟨rfl, hR, hB⟩
  have D2 := D.grew hB
  have hd1 := D2.fst
  have hd2 := D2.fstT
  have hd3 := D2.snd
  have hd4 := D2.sndT
  have D3 := D2.set (.slice (some ⟨w1.heap.size, 0, none⟩) size size) (.bool true)
  have g1 := D3.fst
  have g2 := D3.snd
  have HB : Hid (Below w.heap.size w ((w2.setCell ⟨w.heap.size, 0, none⟩ (.slice (some ⟨w1.heap.size, 0, none⟩) size size)).setCell ⟨w.heap.size + 1, 0, none⟩ (.bool true))) := duo_below (B1.trans (hB.mono (by omega))) _ _
  have HR : Hid (BytesAt ((w2.setCell ⟨w.heap.size, 0, none⟩ (.slice (some ⟨w1.heap.size, 0, none⟩) size size)).setCell ⟨w.heap.size + 1, 0, none⟩ (.bool true)) (some ⟨w1.heap.size, 0, none⟩) size (joined Z s)) := (hR.setOther (by omega)).setOther (by omega)
  have HS : Hid (w.heap.size ≤ w1.heap.size) := by show _ ≤ _; omega
  clear D D2 D3 hR hB hk h hs S1
  go_wp2
  refine leaves_cons (f := 48) (args := #[.pointer (some ⟨w.heap.size, 0, none⟩), .pointer (some ⟨w.heap.size + 1, 0, none⟩)]) (by simp) (by simp [go_sem]) ?_
  refine (catchJ_idle ⟨w.heap.size, 0, none⟩ ⟨w.heap.size + 1, 0, none⟩ _).mono ?_
  rintro e u' w'' ⟨rfl, rfl, rfl⟩
  generalize ((w2.setCell ⟨w.heap.size, 0, none⟩ (.slice (some ⟨w1.heap.size, 0, none⟩) size size)).setCell ⟨w.heap.size + 1, 0, none⟩ (.bool true)) = w5 at *
  simp [Leaves, settle, results, Try.results33, go_sem, g1, g2]
  exact ⟨_, _, rfl, HS.out, Nat.le_refl _, by omega, HR.out, HB.out⟩
theorem face_join_yes (a : Option Addr) (n c s size : Nat) (A : Nat → Option Addr) (L C : Nat → Nat) (Z : Nat → Nat → Nat) (w : World) (h : ListsAt w a n A L C Z) (n1 : 0 < n) (n2 : n ≤ 1000000) (hs : ∀ i, i < n → L i = s) (s1 : 1 ≤ s) (s2 : s ≤ 64) (z1 : 1 ≤ size) (z2 : size ≤ 32 * s) (hk : cntOf size s = n) :
    Calls Try.prog 33 #[.slice a n c, .int .i64 (size : Int)] w fun e w' => RowYes w size (joined Z s) e w' :=
  face_join_is a n c s size A L C Z w h.rows n1 n2 hs s1 s2 z1 z2 hk

set_option maxRecDepth 100000 in
theorem face_join_no (a : Option Addr) (n c : Nat) (size : Int) (w : World) (h : ∀ w1, Below w.heap.size w w1 → Calls Try.prog 49 #[.slice a n c, .int .i64 size] w1 fun e w' => Refused w1 e w') :
    Calls Try.prog 33 #[.slice a n c, .int .i64 size] w fun e w' => RowNo w e w' := by
  have hmf : ∀ (fn : Fn) (first cap : Array Value) (w : World), (Instr.makeFunc fn first cap).run Try.prog w = .ok (.func fn first cap) w := fun _ _ _ _ => rfl
  go_enter_defers Try.func33, Try.ntmps33
  go_wp2_with fail
  refine (h _ (((Below.refl _ _).alloc (Nat.le_refl _) _).alloc (by simp) _)).mono ?_
  rintro e w1 ⟨rfl, rfl⟩
  go_wp2
  refine leaves_cons (f := 48) (args := #[.pointer (some ⟨w.heap.size, 0, none⟩), .pointer (some ⟨w.heap.size + 1, 0, none⟩)]) (by simp) (by simp [go_sem]) ?_
  have D := Duo.made w (.slice none 0 0) (.bool false) 34 4
  refine (catchJ_yes ⟨w.heap.size, 0, none⟩ ⟨w.heap.size + 1, 0, none⟩ _ _ [] _ D.fst D.fstT D.snd D.sndT (Duo.ne _)).mono ?_
  rintro e u' w'' ⟨rfl, rfl, rfl⟩
  simp [Leaves, settle, results, Try.results33, go_sem]
  exact ⟨rfl, ((Below.refl _ _).alloc (Nat.le_refl _) _).alloc (by simp) _⟩
end Go.Proofs.Ytgbeklifcchmlaa
