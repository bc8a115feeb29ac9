/-
  put: an eliminated row takes its place.
-/
import Derived.Test.YtgbeklifcchmlaaEli
import Derived.Test.YtgbeklifcchmlaaZer
namespace Go.Proofs.Ytgbeklifcchmlaa
open Go.RowKit Go.Deep

theorem BasisAt.set {w : World} {B R k size : Nat} {S : Nat → Option (Nat → Nat)} (h : BasisAt w B R k size S) (j : Nat) (v : Value) (s : Option (Nat → Nat)) (hv : RowVal w (k + size) v s) (T : Nat → Option (Nat → Nat)) (hT : ∀ i, i < k → T i = if i = j then s else S i) :
    BasisAt (w.setCell ⟨R, j, none⟩ v) B R k size T := by
  have hk : Kept R w (w.setCell ⟨R, j, none⟩ v) := Kept.set w j v
  have ha := h.apart
  have hB : B ≠ R := ha _ _ _ _ h.sz
  refine ⟨h.field.kept hk ha, hk.cell h.sz hB, hk.cell h.rows hB, ?_, h.k1, h.k32, h.s1, h.s64⟩
  obtain ⟨A, hr, hA⟩ := h.room
  refine ⟨_, hr.set j v, fun i hi => ?_⟩
  rw [hT i hi]
  by_cases e : i = j
  · rw [if_pos e, if_pos e]; exact hv.kept hk ha
  · rw [if_neg e, if_neg e]; exact (hA i hi).kept hk ha
theorem BasisAt.congr {w : World} {B R k size : Nat} {S T : Nat → Option (Nat → Nat)} (h : BasisAt w B R k size S) (hT : ∀ i, i < k → T i = S i) : BasisAt w B R k size T := by
  refine ⟨h.field, h.sz, h.rows, ?_, h.k1, h.k32, h.s1, h.s64⟩
  obtain ⟨A, hr, hA⟩ := h.room
  exact ⟨A, hr, fun i hi => by rw [hT i hi]; exact hA i hi⟩

/-- The rows behind j rounds. -/
def putTo (S : Nat → Option (Nat → Nat)) (r : Nat → Nat) (place j : Nat) (i : Nat) : Option (Nat → Nat) := if i < j then (S i).map (fun t => addUp t r (t place)) else S i
/-- The rows once r leads at place. -/
def putS (S : Nat → Option (Nat → Nat)) (r : Nat → Nat) (place : Nat) (i : Nat) : Option (Nat → Nat) := if i = place then some r else (S i).map (fun t => addUp t r (t place))
/-- A row, made to have 1 at its place. -/
def unitRow (r : Nat → Nat) (place : Nat) : Nat → Nat := addUp (fun _ => 0) r (Gf.inv (r place))

set_option maxRecDepth 100000 in
set_option maxHeartbeats 1000000 in
theorem put_any (B R k size b c place : Nat) (S : Nat → Option (Nat → Nat)) (r : Nat → Nat) (w : World) (h : BasisAt w B R k size S) (hr : BytesAt w (some ⟨b, 0, none⟩) (k + size) r) (hp : place < k) (h0 : r place ≠ 0) :
    Calls Try.prog 57 #[.pointer (some ⟨B, 0, none⟩), .slice (some ⟨b, 0, none⟩) (k + size) c, .int .i64 (place : Int)] w fun e w' => e = .returned (.tuple #[]) ∧ BasisAt w' B R k size (putS S (unitRow r place) place) ∧ Kept R w w' := by
  have k32 := h.k32
  have s64 := h.s64
  have H : Hid (BasisAt w B R k size S) := h
  have HR : Hid (BytesAt w (some ⟨b, 0, none⟩) (k + size) r) := hr
  have c3 : w.cell? ⟨b, place, none⟩ = some (.int .u8 (r place)) := by have := bytes_cell hr place (by omega); rwa [Nat.zero_add] at this
  have l3 := hr.lt place (by omega)
  have i1 : (place : Int) < (k : Int) := by omega
  have i2 : (place : Int) < (k : Int) + (size : Int) := by omega
  have HP : Hid (place < k) := hp
  have HU : Hid (unitRow r place = addUp (fun _ => 0) r (Gf.inv (r place))) := rfl
  generalize unitRow r place = q at *
  clear h hr
  have hmk := run_make_row' (P := Try.prog) 34 5 (.int .u8 0) 1 Try.underlying34 Try.infoByte rfl .i64 .i64 (k + size) (by omega) (by omega)
  rw [show ((k + size : Nat) : Int) = (k : Int) + (size : Int) by omega] at hmk
  go_enter Try.func57, Try.ntmps57
  go_wp2_with fail
  go_quiet ((go_at_call 61; exact Calls.quiet_of (inv_is B (r place) _ (H.out.field.drewN _) l3 h0)))
  have hc := Gf.inv_lt (r place)
  generalize Gf.inv (r place) = iv at *
  clear c3 l3 h0
  have q1 : Same w (w.drewN nq) := ⟨nq, rfl⟩
  have H1 : Hid (BasisAt (w.drewN nq) B R k size S) := H.out.same q1
  have R1 : Hid (BytesAt (w.drewN nq) (some ⟨b, 0, none⟩) (k + size) r) := q1.bytes HR.out
  have K1 : Hid (Kept R w (w.drewN nq)) := Kept.of_same q1
  clear H HR q1
  generalize w.drewN nq = w1 at *
  have b2 : Below w1.heap.size w1 (w1.alloc (.cells (madeCells #[.int .u8 0] (k + size)) 5)) := (Below.refl _ _).alloc (Nat.le_refl _) _
  have Z2 : Hid (BytesAt (w1.alloc (.cells (madeCells #[.int .u8 0] (k + size)) 5)) (some ⟨w1.heap.size, 0, none⟩) (k + size) (fun _ => 0)) := zeros_at w1 (k + size)
  have F2 : Hid (FieldAt (w1.alloc (.cells (madeCells #[.int .u8 0] (k + size)) 5)) B) := H1.out.field.below b2 H1.out.lt.1
  have R2 : Hid (BytesAt (w1.alloc (.cells (madeCells #[.int .u8 0] (k + size)) 5)) (some ⟨b, 0, none⟩) (k + size) r) := R1.out.grew b2
  have B2 : Hid (Below w1.heap.size w1 (w1.alloc (.cells (madeCells #[.int .u8 0] (k + size)) 5))) := b2
  clear b2 R1
  go_wp2_with fail
  go_region_with (go_at_call 63; refine (axpy_bytes B (k + size) (k + size) (k + size) c iv _ _ (fun _ => 0) r _ ?_ ?_ ?_ (by omega) (by omega) hc (k + size) (by omega)).mono ?_; exact ⟨F2.out.powers, F2.out.logs⟩; exact ⟨Z2.out.cells, Z2.out.lt⟩; exact ⟨R2.out.cells, R2.out.lt⟩; rintro e w3 ⟨rfl, hN, hb3, hs3⟩)
  all_goals
    rw [← HU.out] at hN
    have B3 : Below w1.heap.size w1 w3 := B2.out.drew.trans (hb3.mono B2.out.size)
    have H3 : Hid (BasisAt w3 B R k size S) := H1.out.grew B3
    have K3 : Hid (Kept R w w3) := K1.out.trans (Kept.of_below B3)
    have c1 := H3.out.rows
    obtain ⟨g, hg⟩ : ∃ g, g = (w1.alloc (.cells (madeCells #[.int .u8 0] (k + size)) 5)).heap.size := ⟨_, rfl⟩
    have N3 : Hid (BytesAt w3 (some ⟨g, 0, none⟩) (k + size) q) := by rw [hg]; exact hN
    simp only [World.size_alloc] at hg
    rw [← hg]
    clear hN hb3 hs3 hg B3 hmk HU H1 K1 B2 R2 F2 Z2
    go_wp2_with fail
    go_loopw [35] (fun i wr => ∃ j : Nat, j ≤ k ∧ i = .int .i64 j ∧ BasisAt wr B R k size (putTo S q place j) ∧ BytesAt wr (some ⟨g, 0, none⟩) (k + size) q ∧ Kept R w wr) (fun i _ => k - (intOf i).toNat)
    case atStart => exact ⟨0, Nat.zero_le _, rfl, H3.out.congr (fun i _ => by unfold putTo; rw [if_neg (by omega)]), N3.out, K3.out⟩
    case round =>
      clear c1 N3 K3 H3
      obtain ⟨j, hj, rfl, h4, n4, k4⟩ := hrel
      have H4 : Hid (BasisAt wr B R k size (putTo S q place j)) := h4
      have N4 : Hid (BytesAt wr (some ⟨g, 0, none⟩) (k + size) q) := n4
      have K4 : Hid (Kept R w wr) := k4
      clear h4 n4 k4
      have c1 := H4.out.rows
      by_cases hjk : j < k
      · obtain ⟨v, c2, hv, f2⟩ := H4.out.place j hjk
        have i3 : (j : Int) < (k : Int) := by omega
        have hpj : putTo S q place j j = S j := by unfold putTo; rw [if_neg (by omega)]
        rw [hpj] at hv
        cases hS : S j with
        | none =>
          rw [hS] at hv
          cases hv
          have HE : Hid (∀ i, i < k → putTo S q place (j + 1) i = putTo S q place j i) := by
            intro i hi
            unfold putTo
            by_cases e : i = j
            · subst e; rw [if_pos (by omega), if_neg (by omega), hS]; rfl
            · by_cases e2 : i < j
              · rw [if_pos e2, if_pos (by omega)]
              · rw [if_neg e2, if_neg (by omega)]
          go_wp2_with fail
          go_roundw
          case rel => exact ⟨j + 1, by omega, by go_num, H4.out.congr HE.out, N4.out, K4.out⟩
          case measure => simp [intOf]; omega
        | some t =>
          rw [hS] at hv
          obtain ⟨b2, cc2, rfl, -, hT⟩ := hv
          have c3 : wr.cell? ⟨b2, place, none⟩ = some (.int .u8 (t place)) := by have := bytes_cell hT place (by omega); rwa [Nat.zero_add] at this
          have l3 := hT.lt place (by omega)
          have HE : Hid (∀ i, i < k → putTo S q place (j + 1) i = if i = j then some (addUp t q (t place)) else putTo S q place j i) := by
            intro i hi
            unfold putTo
            by_cases e : i = j
            · subst e; rw [if_pos (by omega), if_pos rfl, hS]; rfl
            · rw [if_neg e]
              by_cases e2 : i < j
              · rw [if_pos e2, if_pos (by omega)]
              · rw [if_neg e2, if_neg (by omega)]
          have HT : Hid (BytesAt wr (some ⟨b2, 0, none⟩) (k + size) t) := hT
          clear hT hpj
          generalize t place = u at *
          go_wp2_with fail
          go_region_with (go_at_call 63; refine (axpy_bytes B (k + size) (k + size) cc2 (k + size) u _ _ t q _ ?_ ?_ ?_ (by omega) (by omega) l3 (k + size) (by omega)).mono ?_; exact ⟨H4.out.field.powers, H4.out.field.logs⟩; exact ⟨HT.out.cells, HT.out.lt⟩; exact ⟨N4.out.cells, N4.out.lt⟩; rintro e w5 ⟨rfl, hN5, hb5, hs5⟩; have B5 : Below wr.heap.size wr w5 := (Below.refl _ wr).drew.trans hb5; have H5 : Hid (BasisAt w5 B R k size (putTo S q place j)) := H4.out.grew B5; have N5 : Hid (BytesAt w5 (some ⟨wr.heap.size, 0, none⟩) (k + size) (addUp t q u)) := hN5; have M5 : Hid (BytesAt w5 (some ⟨g, 0, none⟩) (k + size) q) := N4.out.grew B5; have K5 : Hid (Kept R w w5) := K4.out.trans (Kept.of_below B5); obtain ⟨v5, c5, -, f5⟩ := H5.out.place j hjk; have r5 := H5.out.rows; clear hN5 hb5 hs5 B5)
          all_goals
            go_wp2
            go_roundw
            case rel => exact ⟨j + 1, by omega, by go_num, H5.out.set j _ (some (addUp t q u)) ⟨_, _, rfl, Nat.le_refl _, N5.out⟩ _ HE.out, M5.out.kept (Kept.set _ _ _) H5.out.apart, K5.out.trans (Kept.set _ _ _)⟩
            case measure => simp [intOf]; omega
      · have hke : j = k := by omega
        subst hke
        obtain ⟨v, c2, hv, f2⟩ := H4.out.place place HP.out
        clear hv
        go_wp2
        go_end0
        refine ⟨rfl, H4.out.set place _ (some q) ⟨_, _, rfl, Nat.le_refl _, N4.out⟩ _ (fun i hi => ?_), K4.out.trans (Kept.set _ _ _)⟩
        unfold putS putTo
        by_cases e : i = place
        · rw [if_pos e, if_pos e]
        · rw [if_neg e, if_neg e, if_pos hi]

end Go.Proofs.Ytgbeklifcchmlaa
