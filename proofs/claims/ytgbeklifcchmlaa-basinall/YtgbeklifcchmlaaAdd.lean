/-
  Add: a row that says more is there behind it; one that does not, or of another length, is not.
-/
import Derived.Test.YtgbeklifcchmlaaPut
namespace Go.Proofs.Ytgbeklifcchmlaa
open Go.RowKit Go.Deep

/-- What Add answers and leaves: v is the row with its data behind it. -/
def addOf (S : Nat → Option (Nat → Nat)) (k : Nat) (v : Nat → Nat) : Bool × (Nat → Option (Nat → Nat)) :=
  let rest := elimTo S v k
  let p := leadOf rest k 0
  if p < 0 then (false, S) else (true, putS S (unitRow rest p.toNat) p.toNat)

theorem leadOf_spec (x : Nat → Nat) : ∀ (f i : Nat), (leadOf x f i = -1 ∧ ∀ j, i ≤ j → j < i + f → x j = 0) ∨ ∃ p : Nat, leadOf x f i = (p : Int) ∧ i ≤ p ∧ p < i + f ∧ x p ≠ 0 ∧ ∀ j, i ≤ j → j < p → x j = 0 := by
  intro f
  induction f with
  | zero => intro i; exact .inl ⟨rfl, fun j h1 h2 => by omega⟩
  | succ f ih =>
    intro i
    unfold leadOf
    by_cases h : x i = 0
    · rw [if_pos h]
      rcases ih (i + 1) with ⟨h1, h2⟩ | ⟨p, h1, h2, h3, h4, h5⟩
      · refine .inl ⟨h1, fun j g1 g2 => ?_⟩
        by_cases e : j = i
        · subst e; exact h
        · exact h2 j (by omega) (by omega)
      · refine .inr ⟨p, h1, by omega, by omega, h4, fun j g1 g2 => ?_⟩
        by_cases e : j = i
        · subst e; exact h
        · exact h5 j (by omega) g2
    · rw [if_neg h]
      exact .inr ⟨i, rfl, Nat.le_refl _, by omega, h, fun j g1 g2 => by omega⟩

/-- What Add leaves. -/
def Added (w : World) (B R k size : Nat) (S : Nat → Option (Nat → Nat)) (v : Nat → Nat) (e : Ending) (w' : World) : Prop :=
  e = .returned (.bool (addOf S k v).1) ∧ BasisAt w' B R k size (addOf S k v).2 ∧ Kept R w w'

theorem pair_cells (w : World) (u v : Value) : (w.alloc (.cells #[u, v] 34)).cell? ⟨w.heap.size, 0, none⟩ = some u ∧ (w.alloc (.cells #[u, v] 34)).cell? ⟨w.heap.size, 1, none⟩ = some v := by
  constructor <;> (rw [World.cell?_alloc_at _ _ _ _ rfl]; rfl)

set_option maxRecDepth 100000 in
set_option maxHeartbeats 1000000 in
theorem add_yes (B R k size c1 c2 : Nat) (a1 a2 : Option Addr) (S : Nat → Option (Nat → Nat)) (x y : Nat → Nat) (w : World) (h : BasisAt w B R k size S) (hx : BytesAt w a1 k x) (hy : BytesAt w a2 size y) :
    Calls Try.prog 35 #[.pointer (some ⟨B, 0, none⟩), .slice a1 k c1, .slice a2 size c2] w fun e w' => Added w B R k size S (cat x y k) e w' := by
  have k1 := h.k1
  have k32 := h.k32
  have s1 := h.s1
  have s64 := h.s64
  obtain ⟨b1, o1, rfl⟩ := bytes_some hx k1
  obtain ⟨b2, o2, rfl⟩ := bytes_some hy s1
  have r1 := h.rows
  have z1 := h.sz
  have H : Hid (BasisAt w B R k size S) := h
  have HX : Hid (BytesAt w (some ⟨b1, o1, none⟩) k x) := hx
  have HY : Hid (BytesAt w (some ⟨b2, o2, none⟩) size y) := hy
  clear h hx hy
  have HA : Hid (addOf S k (cat x y k) = (if leadOf (elimTo S (cat x y k) k) k 0 < 0 then (false, S) else (true, putS S (unitRow (elimTo S (cat x y k) k) (leadOf (elimTo S (cat x y k) k) k 0).toNat) (leadOf (elimTo S (cat x y k) k) k 0).toNat))) := rfl
  have HL := leadOf_spec (elimTo S (cat x y k) k) k 0
  have HL : Hid _ := HL
  unfold Added
  generalize addOf S k (cat x y k) = ao at *
  go_enter Try.func35, Try.ntmps35
  go_wp2_with (go_at_call 46; refine (bmade_yes B R k size S _ H.out).mono ?_; rintro e w0 ⟨rfl, rfl⟩)
  have hp := pair_cells w0 (.slice (some ⟨b1, o1, none⟩) k c1) (.slice (some ⟨b2, o2, none⟩) size c2)
  have hb0 : Below w0.heap.size w0 (w0.alloc (.cells #[.slice (some ⟨b1, o1, none⟩) k c1, .slice (some ⟨b2, o2, none⟩) size c2] 34)) := (Below.refl _ _).alloc (Nat.le_refl _) _
  have hq : (w0.alloc (.cells #[.slice (some ⟨b1, o1, none⟩) k c1, .slice (some ⟨b2, o2, none⟩) size c2] 34)).heap.size = w0.heap.size + 1 := by simp
  generalize hT : w0.heap.size = T at *
  generalize w0.alloc (.cells #[.slice (some ⟨b1, o1, none⟩) k c1, .slice (some ⟨b2, o2, none⟩) size c2] 34) = w1 at *
  subst hT
  refine (concat_any w0.heap.size k size c1 c2 b1 o1 b2 o2 x y w1 hp.1 hp.2 (HX.out.grew hb0) (HY.out.grew hb0) k1 s1 (by omega) (by omega)).mono ?_
  rintro e w2 ⟨g, cc, rfl, hg, hcc, hB2, hb2⟩
  have K2 : Kept R w0 w2 := (Kept.of_below hb0).trans (Kept.of_below hb2)
  have H2 : BasisAt w2 B R k size S := (H.out.grew hb0).grew hb2
  clear hp hb0 hq hg hb2 HX HY H r1 z1
  go_wp2_with fail
  refine (eliminate_any B R k size g cc S (cat x y k) w2 H2 hB2 hcc).mono ?_
  rintro e w3 ⟨b3, cc3, rfl, hcc3, hB3, hb3⟩
  have H3 : Hid (BasisAt w3 B R k size S) := H2.grew hb3
  have K3 : Hid (Kept R w0 w3) := K2.trans (Kept.of_below hb3)
  have r3 := H3.out.rows
  have HB3 : Hid (BytesAt w3 (some ⟨b3, 0, none⟩) (k + size) (elimTo S (cat x y k) k)) := hB3
  generalize elimTo S (cat x y k) k = z at *
  clear H2 K2 hB2 hB3 hb3
  have e3 := slice_to (some ⟨b3, 0, none⟩) (k + size) cc3 k w3 (by omega)
  go_wp2_with fail
  refine (lead_any (some ⟨b3, 0, none⟩) k cc3 z w3 (HB3.out.take (by omega)) (by omega)).mono ?_
  rintro e w4 ⟨rfl, rfl⟩
  clear e3
  rcases HL.out with ⟨hl, -⟩ | ⟨p, hl, -, hpk, hz, -⟩
  · rw [hl] at HA ⊢
    go_wp2
    go_ret
    rw [if_pos (by decide)] at HA
    rw [HA.out]
    exact ⟨rfl, H3.out, K3.out⟩
  · rw [hl] at HA ⊢
    rw [if_neg (by omega), Int.toNat_natCast] at HA
    have HP : Hid (p < 0 + k) := hpk
    have HZ : Hid (z p ≠ 0) := hz
    clear hz hl HL
    go_wp2_with fail
    refine (put_any B R k size b3 cc3 p S z w4 H3.out HB3.out (by have := HP.out; omega) HZ.out).mono ?_
    rintro e w5 ⟨rfl, h5, k5⟩
    go_wp2
    go_ret
    rw [HA.out]
    exact ⟨rfl, h5, K3.out.trans k5⟩

set_option maxRecDepth 100000 in
set_option maxHeartbeats 1000000 in
theorem add_no (B R k size n m c1 c2 : Nat) (a1 a2 : Option Addr) (S : Nat → Option (Nat → Nat)) (w : World) (h : BasisAt w B R k size S) (hno : n ≠ k ∨ m ≠ size) :
    Calls Try.prog 35 #[.pointer (some ⟨B, 0, none⟩), .slice a1 n c1, .slice a2 m c2] w fun e w' => e = .returned (.bool false) ∧ w' = w := by
  have r1 := h.rows
  have z1 := h.sz
  have H : Hid (BasisAt w B R k size S) := h
  clear h
  by_cases hn : n = k
  · have hm : m ≠ size := by omega
    have h1 : ((n : Int) == (k : Int)) = true := by simp [hn]
    have h2 : ((m : Int) == (size : Int)) = false := by simp; omega
    subst hn
    clear hno
    go_enter Try.func35, Try.ntmps35
    go_wp2_with (go_at_call 46; refine (bmade_yes B R _ size S _ H.out).mono ?_; rintro e w0 ⟨rfl, rfl⟩)
    go_ret
    exact ⟨rfl, rfl⟩
  · have h1 : ((n : Int) == (k : Int)) = false := by simp; omega
    clear hno
    go_enter Try.func35, Try.ntmps35
    go_wp2_with (go_at_call 46; refine (bmade_yes B R _ size S _ H.out).mono ?_; rintro e w0 ⟨rfl, rfl⟩)
    go_ret
    exact ⟨rfl, rfl⟩

set_option maxRecDepth 100000 in
set_option maxHeartbeats 1000000 in
theorem add_nil (v1 v2 : Value) (w : World) :
    Calls Try.prog 35 #[.pointer none, v1, v2] w fun e w' => e = .returned (.bool false) ∧ w' = w := by
  go_enter Try.func35, Try.ntmps35
  go_wp2_with (go_at_call 46; refine (bmade_nil _).mono ?_; rintro e w0 ⟨rfl, rfl⟩)
  go_ret
  exact ⟨rfl, rfl⟩
end Go.Proofs.Ytgbeklifcchmlaa
