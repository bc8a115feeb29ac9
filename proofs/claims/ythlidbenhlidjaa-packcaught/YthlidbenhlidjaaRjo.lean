/-
  The document's Join; that two lists of texts are the same.
-/
import Derived.Test.YthlidbenhlidjaaRcu
import Derived.Test.YthlidbenhlidjaaJoi
import Derived.Test.YthlidbenhlidjaaRor
namespace Go.Proofs.Ythlidbenhlidjaa
open Go.RowKit Go.Deep

theorem joined_at (Z : Nat → Nat → Nat) (s j i : Nat) (hi : i < s) : joined Z s (j * s + i) = Z j i := by
  unfold joined
  rw [Nat.mul_comm, Nat.mul_add_div (by omega), Nat.mul_add_mod, Nat.div_eq_of_lt hi, Nat.mod_eq_of_lt hi, Nat.add_zero]

/-- Bytes were answered, and yes. -/
def Got (w : World) (n : Nat) (x : Nat → Nat) (e : Ending) (w' : World) : Prop :=
  ∃ a c, e = .returned (.tuple #[.slice a n c, .bool true]) ∧ BytesAt w' a n x ∧ Below w.heap.size w w'
/-- Texts of one length that are so many as size bytes have. -/
def Good (n : Nat) (L : Nat → Nat) (size : Int) : Prop := 0 < n ∧ (∀ i, i < n → L i = L 0) ∧ (1 ≤ L 0 ∧ L 0 ≤ 64 ∧ 1 ≤ size ∧ size ≤ 32 * (L 0 : Int)) ∧ cntOf size.toNat (L 0) = n
def JoinAns (w : World) (n : Nat) (L : Nat → Nat) (Z : Nat → Nat → Nat) (size : Int) (e : Ending) (w' : World) : Prop :=
  (Good n L size → Got w size.toNat (joined Z (L 0)) e w') ∧ (¬ Good n L size → RowNo w e w')

theorem rjoin_none (a : Option Addr) (c : Nat) (L : Nat → Nat) (Z : Nat → Nat → Nat) (size : Int) (w : World) :
    Calls Try.prog 29 #[.slice a 0 c, .int .i64 size] w fun e w' => JoinAns w 0 L Z size e w' := by
  go_enter Try.func29, Try.ntmps29
  go_wp2
  go_ret2
  exact ⟨fun g => absurd g.1 (by decide), fun _ => ⟨rfl, Below.refl _ _⟩⟩

set_option maxRecDepth 100000 in
set_option maxHeartbeats 1000000 in
theorem rjoin_lists (b o n c : Nat) (A : Nat → Option Addr) (L C : Nat → Nat) (Z : Nat → Nat → Nat) (size : Int) (w : World) (h : ∀ i, i < n → w.cell? ⟨b, o + i, none⟩ = some (.slice (A i) (L i) (C i)) ∧ BytesAt w (A i) (L i) (Z i)) (n1 : 0 < n) (n2 : n ≤ 40) (hL : ∀ i, i < n → L i ≤ 70) :
    Calls Try.prog 29 #[.slice (some ⟨b, o, none⟩) n c, .int .i64 size] w fun e w' => JoinAns w n L Z size e w' := by
  have c0 : w.cell? ⟨b, o, none⟩ = some (.slice (A 0) (L 0) (C 0)) := (h 0 n1).1
  have HC : Hid (∀ i, i < n → w.cell? ⟨b, o + i, none⟩ = some (.slice (A i) (L i) (C i)) ∧ BytesAt w (A i) (L i) (Z i)) := h
  have l0 := hL 0 n1
  have z0 : ((n : Int) == 0) = false := by simp; omega
  clear h
  go_enter Try.func29, Try.ntmps29
  go_wp2_with fail
  go_loopw [6, 7] (fun v i wr => ∃ j : Nat, j ≤ n ∧ i = .int .i64 j ∧ (∀ i, i < j → L i = L 0) ∧ Ror wr w.heap.size v (j * L 0) (joined Z (L 0)) ∧ Below w.heap.size w wr) (fun _ i _ => n - (intOf i).toNat)
  case atStart => exact ⟨0, Nat.zero_le _, rfl, fun i hi => absurd hi (by omega), by rw [Nat.zero_mul]; exact Ror.nil _ _ _, Below.refl _ _⟩
  case round =>
    obtain ⟨j, hj, rfl, he, hr, hb⟩ := hrel
    have HE : Hid (∀ i, i < j → L i = L 0) := he
    have HR : Hid (Ror wr w.heap.size u6 (j * L 0) (joined Z (L 0))) := hr
    have HB : Hid (Below w.heap.size w wr) := hb
    have c00 : wr.cell? ⟨b, o, none⟩ = some (.slice (A 0) (L 0) (C 0)) := (hb.cell (p := ⟨b, o, none⟩) (cell_lt c0)).trans c0
    clear he hr hb
    by_cases hjn : j < n
    · have i1 : (j : Int) < (n : Int) := by omega
      obtain ⟨d1, d2⟩ := HC.out j hjn
      have c1 : wr.cell? ⟨b, o + j, none⟩ = some (.slice (A j) (L j) (C j)) := (HB.out.cell (p := ⟨b, o + j, none⟩) (cell_lt d1)).trans d1
      have HD : Hid (BytesAt wr (A j) (L j) (Z j)) := d2.below HB.out (Nat.le_refl _)
      have lj := hL j hjn
      clear d1 d2
      by_cases e : L j = L 0
      · rw [e] at c1
        have HD2 : Hid (BytesAt wr (A j) (L 0) (Z j)) := by show BytesAt _ _ _ _; rw [← e]; exact HD.out
        have HE2 : Hid (∀ i, i < j + 1 → L i = L 0) := fun i hi => by
          by_cases g : i = j
          · rw [g]; exact e
          · exact HE.out i (by omega)
        clear HE HD e
        have A1 : Below wr.heap.size wr wr.drew := below_drews 1
        obtain ⟨v', w5, happ, hr5, hg5⟩ := (HR.out.grown A1).push (c := C j) (z := joined Z (L 0)) 26 (HD2.out.grew A1) (by have : j * L 0 ≤ 40 * 70 := Nat.mul_le_mul (by omega) l0; omega) HB.out.size (fun _ _ => rfl) (fun i hi => (joined_at Z (L 0) j i hi).symm)
        have HR5 : Hid (Ror w5 w.heap.size v' ((j + 1) * L 0) (joined Z (L 0))) := by show Ror _ _ _ _ _; rw [Nat.add_mul, Nat.one_mul]; exact hr5
        have HB5 : Hid (Below w.heap.size w w5) := (HB.out.trans (A1.mono HB.out.size)).grown hg5 HB.out.size (fun g e => (HR.out.lt g e).1)
        clear hr5 hg5 A1
        go_wp2_with fail
        go_region
        go_wp2_with (at_builtin; refine Go.Lib.wpList_append_run _ rfl (.tmp 29) (.tmp 33) 26 26 rfl _ _ rfl rfl _ _ happ ?_)
        go_roundw
        case rel => exact ⟨j + 1, by omega, by go_num, HE2.out, HR5.out, HB5.out⟩
        case measure => simp [intOf]; omega
      · have e1 : ((L j : Int) != (L 0 : Int)) = true := by simp; omega
        have HG : Hid (¬ Good n L size) := fun g => e (g.2.1 j hjn)
        clear HE e
        go_wp2_with fail
        go_region
        go_wp2
        go_ret2
        exact ⟨fun g => absurd g HG.out, fun _ => ⟨rfl, HB.out.trans (below_drews 1)⟩⟩
    · obtain rfl : j = n := by omega
      clear hjn hj
      by_cases g : 1 ≤ L 0 ∧ L 0 ≤ 64 ∧ 1 ≤ size ∧ size ≤ 32 * (L 0 : Int)
      · obtain ⟨z, rfl⟩ : ∃ z : Nat, size = z := ⟨size.toNat, by omega⟩
        obtain ⟨g1, g2, g3, g4⟩ := g
        go_wp2_with fail
        refine (rcount_yes z (L 0) _ g1 g2 (by omega) (by omega)).mono ?_
        rintro e w1 ⟨rfl, hw⟩
        have hw := hw.symm
        subst hw
        by_cases hk : cntOf z (L 0) = j
        · have HG : Hid (Good j L (z : Int)) := ⟨n1, HE.out, ⟨g1, g2, g3, g4⟩, by rw [Int.toNat_natCast]; exact hk⟩
          have hz : z ≤ j * L 0 := by rw [← hk]; exact cnt_ge z (L 0) g1
          obtain ⟨r, cap, rfl⟩ := ror_form HR.out (by omega)
          have hcap := ror_cap HR.out
          rw [hk]
          have hsl := slice_to (some ⟨r, 0, none⟩) (j * L 0) cap z wr (by omega)
          have HZ : Hid (BytesAt wr (some ⟨r, 0, none⟩) z (joined Z (L 0))) := (ror_bytes HR.out (fun i hi => ?_)).take hz
          · clear hk hz hcap
            go_wp2
            go_ret2
            exact ⟨fun _ => ⟨_, _, rfl, HZ.out, HB.out⟩, fun g => absurd HG.out g⟩
          · have h1 : i / L 0 < j := by rw [Nat.div_lt_iff_lt_mul (by omega)]; exact hi
            refine (HC.out (i / L 0) h1).2.lt _ ?_
            rw [HE.out _ h1]
            exact Nat.mod_lt _ (by omega)
        · have HG : Hid (¬ Good j L (z : Int)) := fun g => hk (by have := g.2.2.2; rwa [Int.toNat_natCast] at this)
          have e1 : ((cntOf z (L 0) : Int) != (j : Int)) = true := by simp; omega
          clear hk
          go_wp2
          go_ret2
          exact ⟨fun g => absurd g HG.out, fun _ => ⟨rfl, HB.out⟩⟩
      · have HG : Hid (¬ Good j L size) := fun h => g h.2.2.1
        go_wp2_with fail
        refine (rcount_no size (L 0) _ (by omega)).mono ?_
        rintro e w1 ⟨rfl, hw⟩
        have hw := hw.symm
        subst hw
        clear g
        go_wp2
        go_ret2
        exact ⟨fun g => absurd g HG.out, fun _ => ⟨rfl, HB.out⟩⟩

theorem rjoin_some (a : Option Addr) (n c : Nat) (A : Nat → Option Addr) (L C : Nat → Nat) (Z : Nat → Nat → Nat) (size : Int) (w : World) (h : ListsAt w a n A L C Z) (n1 : 0 < n) (n2 : n ≤ 40) (hL : ∀ i, i < n → L i ≤ 70) :
    Calls Try.prog 29 #[.slice a n c, .int .i64 size] w fun e w' => JoinAns w n L Z size e w' := by
  obtain ⟨b, o, rfl, hc⟩ := h n1
  exact rjoin_lists b o n c A L C Z size w (fun i hi => ⟨(hc i hi).1, (hc i hi).2.2.2⟩) n1 n2 hL

/-- The slice's address a leads to n texts, the i-th S i. -/
def TextsAt (w : World) (a : Option Addr) (n : Nat) (S : Nat → ByteArray) : Prop :=
  0 < n → ∃ b o, a = some ⟨b, o, none⟩ ∧ ∀ i, i < n → ∃ A L C x, w.cell? ⟨b, o + i, none⟩ = some (.slice A L C) ∧ BytesAt w A L x ∧ strOf L x = S i
theorem TextsAt.grew {w w' : World} {a : Option Addr} {n : Nat} {S : Nat → ByteArray} (h : TextsAt w a n S) (hb : Below w.heap.size w w') : TextsAt w' a n S := by
  intro hn
  obtain ⟨b, o, e, hc⟩ := h hn
  refine ⟨b, o, e, fun i hi => ?_⟩
  obtain ⟨A, L, C, x, h1, h2, h3⟩ := hc i hi
  exact ⟨A, L, C, x, (hb.cell (p := ⟨b, o + i, none⟩) (cell_lt h1)).trans h1, h2.grew hb, h3⟩

end Go.Proofs.Ythlidbenhlidjaa
