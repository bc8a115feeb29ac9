/-
  A Basis at work: made, Rank, eliminate, put, Add.
-/
import Derived.Test.YtgbeklifcchmlaaBas
import Derived.Test.YtgbeklifcchmlaaRan
namespace Go.Proofs.Ytgbeklifcchmlaa
open Go.RowKit Go.Deep

set_option maxRecDepth 100000 in
set_option maxHeartbeats 400000 in
theorem bmade_yes (B R k size : Nat) (S : Nat → Option (Nat → Nat)) (w : World) (h : BasisAt w B R k size S) :
    Calls Try.prog 46 #[.pointer (some ⟨B, 0, none⟩)] w fun e w' => e = .returned (.bool true) ∧ w' = w := by
  have c1 := h.rows
  have HK : Hid (decide (0 < k) = true) := decide_eq_true h.k1
  clear h
  go_enter Try.func46, Try.ntmps46
  go_wp2
  go_ret
  exact ⟨congrArg (fun b => Ending.returned (.bool b)) HK.out, rfl⟩
set_option maxRecDepth 100000 in
set_option maxHeartbeats 400000 in
theorem bmade_nil (w : World) :
    Calls Try.prog 46 #[.pointer none] w fun e w' => e = .returned (.bool false) ∧ w' = w := by
  go_enter Try.func46, Try.ntmps46
  go_wp2
  go_ret
  exact ⟨rfl, rfl⟩

/-- The value at a place. -/
theorem BasisAt.place {w : World} {B R k size : Nat} {S : Nat → Option (Nat → Nat)} (h : BasisAt w B R k size S) (i : Nat) (hi : i < k) :
    ∃ v, w.cell? ⟨R, i, none⟩ = some v ∧ RowVal w (k + size) v (S i) ∧ w.frozen? ⟨R, i, none⟩ = false := by
  obtain ⟨A, hr, hv⟩ := h.room
  exact ⟨A i, hr.cell hi, hv i hi, hr.frozen i⟩

set_option maxRecDepth 100000 in
set_option maxHeartbeats 400000 in
theorem rank_any (B R k size : Nat) (S : Nat → Option (Nat → Nat)) (w : World) (h : BasisAt w B R k size S) :
    Calls Try.prog 36 #[.pointer (some ⟨B, 0, none⟩)] w fun e w' => e = .returned (.int .i64 (rankTo S k : Int)) ∧ w' = w := by
  have c1 := h.rows
  have k32 := h.k32
  have H : Hid (BasisAt w B R k size S) := h
  clear h
  go_enter Try.func36, Try.ntmps36
  go_wp2_with (go_at_call 46; refine (bmade_yes B R k size S _ H.out).mono ?_; rintro e w' ⟨rfl, rfl⟩)
  go_loopw [3, 14] (fun r i wr => ∃ j : Nat, j ≤ k ∧ i = .int .i64 j ∧ r = .int .i64 (rankTo S j : Int) ∧ wr = w') (fun _ i _ => k - (intOf i).toNat)
  case atStart => exact ⟨0, Nat.zero_le _, rfl, rfl, rfl⟩
  case round =>
    obtain ⟨j, hj, rfl, rfl, hq⟩ := hrel
    subst wr
    by_cases hjk : j < k
    · obtain ⟨v, c2, hv, -⟩ := H.out.place j hjk
      have i1 : (j : Int) < (k : Int) := by omega
      have hle := rankTo_le S j
      have HR : Hid (rankTo S (j + 1) = rankTo S j + (if (S j).isSome then 1 else 0)) := rfl
      cases hS : S j with
      | none =>
        rw [hS] at hv
        cases hv
        rw [hS] at HR
        generalize rankTo S j = r at *
        go_wp2_with fail
        go_roundw
        case rel => exact ⟨j + 1, by omega, by go_num, by rw [HR.out]; rfl, trivial⟩
        case measure => simp [intOf]; omega
      | some t =>
        rw [hS] at hv
        obtain ⟨b, c, rfl, -⟩ := hv
        rw [hS] at HR
        generalize rankTo S j = r at *
        go_wp2_with fail
        go_roundw
        case rel => exact ⟨j + 1, by omega, by go_num, by rw [HR.out]; simp, trivial⟩
        case measure => simp [intOf]; omega
    · have hke : j = k := by omega
      subst hke
      go_wp2
      go_ret
      exact ⟨rfl, rfl⟩

/-- What is left of a row behind the first i places. -/
def elimTo (S : Nat → Option (Nat → Nat)) (r : Nat → Nat) : Nat → Nat → Nat
  | 0 => r
  | i + 1 => match S i with
    | none => elimTo S r i
    | some t => addUp (elimTo S r i) t (elimTo S r i i)

/-- A row of n bytes was answered, new or not; what lay there lies there. -/
def RowLeft (w : World) (n : Nat) (x : Nat → Nat) (e : Ending) (w' : World) : Prop :=
  ∃ b c, e = .returned (.slice (some ⟨b, 0, none⟩) n c) ∧ n ≤ c ∧ BytesAt w' (some ⟨b, 0, none⟩) n x ∧ Below w.heap.size w w'

set_option maxRecDepth 100000 in
set_option maxHeartbeats 1000000 in
theorem eliminate_any (B R k size b c : Nat) (S : Nat → Option (Nat → Nat)) (r : Nat → Nat) (w : World) (h : BasisAt w B R k size S) (hr : BytesAt w (some ⟨b, 0, none⟩) (k + size) r) (hcap : k + size ≤ c) :
    Calls Try.prog 54 #[.pointer (some ⟨B, 0, none⟩), .slice (some ⟨b, 0, none⟩) (k + size) c] w fun e w' => RowLeft w (k + size) (elimTo S r k) e w' := by
  have c1 := h.rows
  have k32 := h.k32
  have s64 := h.s64
  have H : Hid (BasisAt w B R k size S) := h
  have HRr : Hid (BytesAt w (some ⟨b, 0, none⟩) (k + size) r) := hr
  clear h hr
  go_enter Try.func54, Try.ntmps54
  go_wp2_with fail
  clear c1
  go_loopw [1, 12] (fun v i wr => ∃ j : Nat, j ≤ k ∧ i = .int .i64 j ∧ Below w.heap.size w wr ∧ ∃ b c, v = .slice (some ⟨b, 0, none⟩) (k + size) c ∧ k + size ≤ c ∧ BytesAt wr (some ⟨b, 0, none⟩) (k + size) (elimTo S r j)) (fun _ i _ => k - (intOf i).toNat)
  case atStart => exact ⟨0, Nat.zero_le _, rfl, Below.refl _ _, b, c, rfl, hcap, HRr.out⟩
  case round =>
    clear hcap b c HRr
    obtain ⟨j, hj, rfl, hb, b, c, rfl, hcap, hB⟩ := hrel
    by_cases hjk : j < k
    · have h2 := H.out.grew hb
      obtain ⟨v, c2, hv, -⟩ := h2.place j hjk
      have i1 : (j : Int) < (k : Int) := by omega
      cases hS : S j with
      | none =>
        rw [hS] at hv
        cases hv
        have HE : Hid (elimTo S r (j + 1) = elimTo S r j) := by show elimTo S r (j + 1) = _; simp only [elimTo, hS]
        clear h2
        go_wp2_with fail
        go_roundw
        case rel => exact ⟨j + 1, by omega, by go_num, hb, b, c, rfl, hcap, by rw [HE.out]; exact hB⟩
        case measure => simp [intOf]; omega
      | some t =>
        rw [hS] at hv
        obtain ⟨b2, cc2, rfl, -, hT⟩ := hv
        have HE : Hid (elimTo S r (j + 1) = addUp (elimTo S r j) t (elimTo S r j j)) := by show elimTo S r (j + 1) = _; simp only [elimTo, hS]
        have hf := h2.field
        have c3 : wr.cell? ⟨b, j, none⟩ = some (.int .u8 (elimTo S r j j)) := by have := bytes_cell hB j (by omega); rwa [Nat.zero_add] at this
        have l3 := hB.lt j (by omega)
        have i2 : (j : Int) < ((k + size : Nat) : Int) := by omega
        have i3 : (j : Int) < (k : Int) + (size : Int) := by omega
        generalize elimTo S r j = x at *
        generalize x j = u at *
        have HB : Hid (BytesAt wr (some ⟨b, 0, none⟩) (k + size) x) := hB
        have HT : Hid (BytesAt wr (some ⟨b2, 0, none⟩) (k + size) t) := hT
        have HF : Hid (FieldAt wr B) := hf
        clear h2 hB hT hf
        go_wp2_with fail
        go_region_with (go_at_call 63; refine (axpy_bytes B (k + size) (k + size) c cc2 u _ _ x t _ ?_ ?_ ?_ (by omega) (by omega) l3 (k + size) (by omega)).mono ?_; exact ⟨HF.out.powers, HF.out.logs⟩; exact ⟨HB.out.cells, HB.out.lt⟩; exact ⟨HT.out.cells, HT.out.lt⟩; rintro e w' ⟨rfl, hN, hb2, hs2⟩)
        all_goals
          go_wp2
          go_roundw
          case rel => exact ⟨j + 1, by omega, by go_num, hb.drew.trans (hb2.mono hb.size), _, _, rfl, Nat.le_refl _, by rw [HE.out]; exact hN⟩
          case measure => simp [intOf]; omega
    · have hke : j = k := by omega
      subst hke
      go_wp2
      go_ret
      exact ⟨b, c, rfl, hcap, hB, hb⟩
end Go.Proofs.Ytgbeklifcchmlaa
