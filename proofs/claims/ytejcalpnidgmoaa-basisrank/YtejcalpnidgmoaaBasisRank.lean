/-
  The rank is the same in whatever order rows come, never above their number, nor the unknowns': the call returns true for every ten rows and every turn (no condition).
-/
import Derived.Test.YtejcalpnidgmoaaRows
import Derived.WalkKit
import Derived.ProofKit
import Derived.OpenShut
import Derived.ShutString
import Derived.ChangeOld
import Derived.Below
import Derived.Carry
import Derived.Test.YtejcalpnidgmoaaOpn
import Derived.Test.YtejcalpnidgmoaaTab
import Derived.Test.YtejcalpnidgmoaaLin
namespace Go.Proofs.Ytejcalpnidgmoaa.basisRank
open Go.ChangeShapes Go.WideShapes Go.ChangeAt Go.RowKit
open Go.ChangeMaps (open_string shut_string)
set_option linter.unusedVariables false

theorem own : ownKnob Try.prog.godebug = none := by kernel_rfl
theorem laidOut : laidOutB Try.prog = true := by kernel_rfl

open Go.Deep

/-- The rows that are there come to the same sums as those that came. -/
structure Inv (S : Nat → Option (Nat → Nat)) (G : (Nat → Nat) → Prop) : Prop where
  red : Red S 5
  supp : ∀ g, Rw S 5 g → ∀ j, 5 ≤ j → g j = 0
  to : ∀ g, Rw S 5 g → Sp G g
  back : ∀ g, G g → Sp (Rw S 5) g
theorem sp_supp {G : (Nat → Nat) → Prop} (hG : ∀ g, G g → ∀ j, 5 ≤ j → g j = 0) {v : Nat → Nat} (h : Sp G v) : ∀ j, 5 ≤ j → v j = 0 := by
  refine h.all (fun v => ∀ j, 5 ≤ j → v j = 0) (fun _ _ => rfl) (fun v g c _ _ ih hg j hj => ?_)
  unfold addUp
  rw [ih j hj, hG g hg j hj, Gf.mul_zero]
  decide
theorem Inv.congr {S : Nat → Option (Nat → Nat)} {G H : (Nat → Nat) → Prop} (h : Inv S G) (hG : ∀ g, G g ↔ H g) : Inv S H :=
  ⟨h.red, h.supp, fun g hg => (h.to g hg).mono fun g hg => Sp.gen ((hG g).1 hg) ((h.back g hg).byt), fun g hg => h.back g ((hG g).2 hg)⟩
theorem Inv.step {S : Nat → Option (Nat → Nat)} {G : (Nat → Nat) → Prop} (h : Inv S G) {v : Nat → Nat} (hv : Byt v) (hs : ∀ j, 5 ≤ j → v j = 0) :
    Inv (addOf S 5 v).2 (fun g => G g ∨ g = v) ∧ rankTo (addOf S 5 v).2 5 ≤ rankTo S 5 + 1 ∧ rankTo S 5 ≤ rankTo (addOf S 5 v).2 5 := by
  have gen : ∀ g, G g → Sp (fun g => G g ∨ g = v) g := fun g hg => Sp.gen (.inl hg) (h.back g hg).byt
  rcases add_spec h.red hv with ⟨e, u, hu, huv⟩ | ⟨S', e, hR, h1, h2, h3, h4, -⟩
  · rw [e]
    have hvu : v = u := by
      funext j
      by_cases hj : j < 5
      · exact huv j hj
      · rw [hs j (by omega), sp_supp h.supp hu j (by omega)]
    refine ⟨⟨h.red, h.supp, fun g hg => (h.to g hg).mono gen, fun g hg => ?_⟩, Nat.le_succ _, Nat.le_refl _⟩
    rcases hg with hg | rfl
    · exact h.back g hg
    · rw [hvu]; exact hu
  · rw [e]
    refine ⟨⟨hR, fun g hg => sp_supp (fun g hg => ?_) (h1 g hg), fun g hg => (h1 g hg).mono fun g hg => ?_, fun g hg => ?_⟩, by show rankTo S' 5 ≤ _; omega, by show _ ≤ rankTo S' 5; omega⟩
    · rcases hg with hg | rfl
      · exact h.supp g hg
      · exact hs
    · rcases hg with hg | rfl
      · exact (h.to g hg).mono gen
      · exact Sp.gen (.inr rfl) hv
    · rcases hg with hg | rfl
      · exact (h.back g hg).mono h2
      · exact h3

/-- Five bytes, and 0 behind them. -/
def five (f : Nat → Nat) (j : Nat) : Nat := if j < 5 then f j else 0
theorem five_supp (f : Nat → Nat) : ∀ j, 5 ≤ j → five f j = 0 := fun j h => by unfold five; rw [if_neg (by omega)]
theorem five_byt {f : Nat → Nat} (h : ∀ j, j < 5 → f j < 256) : Byt (five f) := fun j => by
  unfold five
  split
  · exact h j (by assumption)
  · decide
theorem five_cat (f : Nat → Nat) : cat (five f) (fun _ => 0) 5 = five f := by
  funext j
  unfold cat
  split
  · rfl
  · rw [five_supp f j (by omega)]

/-- Which row comes to the other one. -/
def perm (len t j : Nat) : Nat := (len - 1 - j + t) % len
theorem perm_lt (len t j : Nat) (h : j < len) : perm len t j < len := Nat.mod_lt _ (by omega)
theorem perm_hit (len t i : Nat) (h : i < len) : ∃ j, j < len ∧ perm len t j = i := by
  refine ⟨perm len t i, perm_lt len t i h, ?_⟩
  have hx := perm_lt len t i h
  have hd := Nat.div_add_mod (len - 1 - i + t) len
  unfold perm at *
  generalize (len - 1 - i + t) % len = x at *
  generalize hq : len * ((len - 1 - i + t) / len) = q at *
  have e : len - 1 - x + t = i + q := by omega
  rw [e, ← hq, Nat.add_mul_mod_self_left, Nat.mod_eq_of_lt h]
theorem perm_int (len t j : Nat) (h : j < len) : ((len : Int) - 1 - (j : Int) + (t : Int)).tmod (len : Int) = ((perm len t j : Nat) : Int) := by
  have e : (len : Int) - 1 - (j : Int) + (t : Int) = ((len - 1 - j + t : Nat) : Int) := by omega
  rw [e]
  unfold perm
  exact (Int.ofNat_tmod _ _).symm
def Gens (f : Nat → Nat → Nat) (p : Nat → Nat) (j : Nat) (g : Nat → Nat) : Prop := ∃ i, i < j ∧ g = five (f (p i))
theorem gens_next (f : Nat → Nat → Nat) (p : Nat → Nat) (j : Nat) (g : Nat → Nat) : (Gens f p j g ∨ g = five (f (p j))) ↔ Gens f p (j + 1) g := by
  constructor
  · rintro (⟨i, hi, e⟩ | e)
    · exact ⟨i, by omega, e⟩
    · exact ⟨j, by omega, e⟩
  · rintro ⟨i, hi, e⟩
    by_cases h : i = j
    · subst h; exact .inr e
    · exact .inl ⟨i, by omega, e⟩

/-- Both Bases behind j rows. -/
structure Both (w wr : World) (A RA B RB N len t j : Nat) (f : Nat → Nat → Nat) (S T : Nat → Option (Nat → Nat)) : Prop where
  one : BasisAt wr A RA 5 1 S
  two : BasisAt wr B RB 5 1 T
  ne : RA ≠ RB
  ga : w.heap.size ≤ RA
  gb : w.heap.size ≤ RB
  below : Below w.heap.size w wr
  none : wr.cell? ⟨N, 0, none⟩ = some (.int .u8 0)
  inv : Inv S (Gens f (fun i => i) j)
  inw : Inv T (Gens f (perm len t) j)
  le : rankTo S 5 ≤ j

theorem zero_at (W : World) (g : Nat) (hc : W.cell? ⟨g, 0, none⟩ = some (.int .u8 0)) : BytesAt W (some ⟨g, 0, none⟩) 1 (fun _ => 0) :=
  ⟨fun _ => ⟨g, 0, rfl, fun i hi => by have e : i = 0 := by omega
                                       subst e
                                       exact hc⟩, fun _ _ => by decide⟩
theorem arr_bytes {w : World} {b o len j : Nat} {f : Nat → Nat → Nat} (h : ∀ i, i < len → ∀ j, j < 5 → w.cell? ⟨b, o + (i * 5 + j), none⟩ = some (.int .u8 (f i j : Int)) ∧ f i j < 256) (hj : j < len) : BytesAt w (some ⟨b, o + j * 5, none⟩) 5 (five (f j)) :=
  ⟨fun _ => ⟨b, o + j * 5, rfl, fun i hi => by rw [Nat.add_assoc]; unfold five; rw [if_pos hi]; exact (h j hj i hi).1⟩, fun i hi => by unfold five; rw [if_pos hi]; exact (h j hj i hi).2⟩
theorem Inv.empty {p : Nat → Nat} (f : Nat → Nat → Nat) : Inv (fun _ => none) (Gens f p 0) :=
  ⟨Red.empty 5, fun _ ⟨_, _, h⟩ => (nomatch h), fun _ ⟨_, _, h⟩ => (nomatch h), fun _ ⟨_, h, _⟩ => absurd h (by omega)⟩
theorem unit_byt (l : List Nat) (h : l.all (fun n => decide (n < 256)) = true) : Byt (cat (listAt l) (fun _ => 0) 5) := by
  intro j
  unfold cat
  split
  · unfold listAt
    rw [List.getD_eq_getElem?_getD]
    cases e : l[j]? with
    | none => decide
    | some x =>
      have := List.all_eq_true.1 h x (List.mem_of_getElem? e)
      simpa using this
  · exact Nat.zero_lt_succ _
theorem rank_mono {S : Nat → Option (Nat → Nat)} (hR : Red S 5) {v : Nat → Nat} (hv : Byt v) : rankTo S 5 ≤ rankTo (addOf S 5 v).2 5 ∧ Red (addOf S 5 v).2 5 := by
  rcases add_spec hR hv with ⟨e, -⟩ | ⟨S', e, hR', -, -, -, h4, -⟩
  · rw [e]; exact ⟨Nat.le_refl _, hR⟩
  · rw [e]; exact ⟨by show _ ≤ rankTo S' 5; omega, hR'⟩

set_option maxRecDepth 100000 in
set_option maxHeartbeats 2000000 in
theorem core (a0 : Option Addr) (len0 cap0 : Nat) (f : Nat → Nat → Nat) (t : Nat) (w : World) (h0 : ArrsAt w a0 len0 5 f) (ht : t < 256) (hl : len0 ≤ 10) :
    Calls Try.prog 5 #[.slice a0 len0 cap0, .int .u8 (t : Int)] w fun e w' => e = .returned (.bool true) ∧ Below w.heap.size w w' := by
  have HA : Hid (ArrsAt w a0 len0 5 f) := h0
  clear h0
  go_enter Try.func5, Try.ntmps5
  go_wp2_with fail
  refine (begun2_any _).mono ?_
  rintro e w1 ⟨rfl, hb1⟩
  go_wp2_with fail
  refine (new_any _).mono ?_
  rintro e w2 ⟨rfl, hb2, hf2, hs2⟩
  go_wp2_with fail
  refine (newBasis_yes w1.heap.size 5 1 _ hf2 (by decide) (by decide) (by decide) (by decide)).mono ?_
  rintro e w3 ⟨A, RA, rfl, gA, gRA, h3, hb3⟩
  have K3 : Hid (Below w.heap.size w w3) := (hb1.trans (hb2.mono hb1.size)).trans (hb3.mono (by have := hb1.size; have := hb2.size; omega))
  have GA : Hid (w.heap.size ≤ RA) := by show w.heap.size ≤ RA; have := hb1.size; have := hb2.size; omega
  clear hb1 hb2 hf2 hs2 hb3 gA gRA
  go_wp2_with fail
  refine (new_any _).mono ?_
  rintro e w4 ⟨rfl, hb4, hf4, hs4⟩
  go_wp2_with fail
  refine (newBasis_yes w3.heap.size 5 1 _ hf4 (by decide) (by decide) (by decide) (by decide)).mono ?_
  rintro e w5 ⟨B, RB, rfl, gB, gRB, h5, hb5⟩
  have T5 : Hid (Both w (w5.alloc (.cells #[.int .u8 0] 5)) A RA B RB w5.heap.size len0 t 0 f (fun _ => none) (fun _ => none)) := by
    have := hb4.size
    have := h3.lt
    have := K3.out.size
    have hb6 : Below w5.heap.size w5 (w5.alloc (.cells #[.int .u8 0] 5)) := (Below.refl _ _).alloc (Nat.le_refl _) _
    have k5 : Below w.heap.size w w5 := (K3.out.trans (hb4.mono K3.out.size)).trans (hb5.mono (by omega))
    exact ⟨((h3.grew hb4).grew hb5).grew hb6, h5.grew hb6, by omega, GA.out, by omega, k5.trans (hb6.mono k5.size), by rw [World.cell?_alloc_at _ _ _ _ rfl]; rfl, Inv.empty f, Inv.empty f, by decide +kernel⟩
  clear h3 h5 hb4 hf4 hs4 gB gRB hb5 K3 GA
  go_wp2_with fail
  go_loopw [10] (fun i wr => ∃ (j : Nat) (S T : Nat → Option (Nat → Nat)), j ≤ len0 ∧ i = .int .i64 j ∧ Both w wr A RA B RB w5.heap.size len0 t j f S T) (fun i _ => len0 - (intOf i).toNat)
  case atStart => exact ⟨0, _, _, Nat.zero_le _, rfl, T5.out⟩
  case round =>
    clear T5
    obtain ⟨j, S, T, hj, rfl, hT⟩ := hrel
    have HT : Hid (Both w wr A RA B RB w5.heap.size len0 t j f S T) := hT
    clear hT
    by_cases hjk : j < len0
    · obtain ⟨b, o, rfl, hA⟩ := HA.out (by omega)
      have i1 : (j : Int) < (len0 : Int) := by omega
      have hp := perm_int len0 t j hjk
      have hpl := perm_lt len0 t j hjk
      have HA2 : Hid _ := hA
      clear hA
      have X0 : Hid (BytesAt wr (some ⟨b, o + j * 5, none⟩) 5 (five (f j))) := (arr_bytes HA2.out hjk).below HT.out.below (Nat.le_refl _)
      have hbyt : Hid (Byt (five (f j))) := five_byt fun i hi => (HA2.out j hjk i hi).2
      go_wp2_with fail
      refine (add_yes A RA 5 1 _ _ _ _ S (five (f j)) (fun _ => 0) wr HT.out.one X0.out (zero_at _ _ HT.out.none)).mono ?_
      rintro e w6 ⟨rfl, h6, k6⟩
      rw [five_cat] at h6
      obtain ⟨v6, r6, -⟩ := HT.out.inv.step hbyt.out (five_supp (f j))
      have o6 := HT.out.two.kept k6 HT.out.one.apart HT.out.ne.symm
      have n6 := k6.cell HT.out.none (HT.out.one.apart _ _ _ _ HT.out.none)
      have K6 : Hid (Below w.heap.size w w6) := HT.out.below.trans (k6.below HT.out.ga HT.out.below.size)
      have X6 : Hid (BytesAt w6 (some ⟨b, o + perm len0 t j * 5, none⟩) 5 (five (f (perm len0 t j)))) := (arr_bytes HA2.out hpl).below K6.out (Nat.le_refl _)
      have hbyt2 : Hid (Byt (five (f (perm len0 t j)))) := five_byt fun i hi => (HA2.out _ hpl i hi).2
      have V6 : Hid _ := v6
      have R6 : Hid _ := r6
      have H6 : Hid _ := h6
      have O6 : Hid _ := o6
      have N6 : Hid _ := n6
      clear k6 v6 r6 h6 o6 n6
      go_wp2_with fail
      refine (add_yes B RB 5 1 _ _ _ _ T (five (f (perm len0 t j))) (fun _ => 0) w6 O6.out X6.out (zero_at _ _ N6.out)).mono ?_
      rintro e w7 ⟨rfl, h7, k7⟩
      rw [five_cat] at h7
      obtain ⟨v7, -, -⟩ := HT.out.inw.step hbyt2.out (five_supp (f (perm len0 t j)))
      have T7 : Hid (Both w w7 A RA B RB w5.heap.size len0 t (j + 1) f (addOf S 5 (five (f j))).2 (addOf T 5 (five (f (perm len0 t j)))).2) := by
        have hle := HT.out.le
        have hr := R6.out
        exact ⟨H6.out.kept k7 O6.out.apart HT.out.ne, h7, HT.out.ne, HT.out.ga, HT.out.gb, K6.out.trans (k7.below HT.out.gb K6.out.size), k7.cell N6.out (O6.out.apart _ _ _ _ N6.out), V6.out.congr (gens_next f (fun i => i) j), v7.congr (gens_next f (perm len0 t) j), by omega⟩
      clear h7 k7 v7 V6 R6 H6 O6 N6 K6 X6 hbyt2 hbyt HT X0
      go_wp2_with fail
      go_roundw
      case rel => exact ⟨j + 1, _, _, by omega, by go_num, T7.out⟩
      case measure => simp [intOf]; omega
    · have hke : j = len0 := by omega
      subst hke
      have same : rankTo T 5 = rankTo S 5 := by
        refine rank_same 5 (Red.same HT.out.inw.red HT.out.inv.red (fun g hg => (HT.out.inw.to g hg).mono fun g hg => ?_) (fun g hg => (HT.out.inv.to g hg).mono fun g hg => ?_))
        · obtain ⟨i, hi, e⟩ := hg
          exact HT.out.inv.back g ⟨perm j t i, perm_lt j t i hi, e⟩
        · obtain ⟨i, hi, e⟩ := hg
          obtain ⟨i', h1, h2⟩ := perm_hit j t i hi
          exact HT.out.inw.back g ⟨i', h1, by rw [h2]; exact e⟩
      have q1 : ((rankTo S 5 : Nat) : Int) ≤ (j : Int) := by have := HT.out.le; omega
      have q2 : ((rankTo S 5 : Nat) : Int) ≤ 5 := by have := rankTo_le S 5; omega
      have q3 : ((rankTo S 5 : Nat) : Int) ≤ 32 := by omega
      go_wp2_with fail
      refine (copy_any A RA 5 1 S wr HT.out.one).mono ?_
      rintro e w6 ⟨C, RC, rfl, gC, gRC, h6, hb6⟩
      have d6 : RC ≠ RA ∧ RC ≠ RB := by have := HT.out.one.lt; have := HT.out.two.lt; omega
      have gRC6 : Hid (w.heap.size ≤ RC) := by show w.heap.size ≤ RC; have := HT.out.below.size; omega
      have a6 := HT.out.one.grew hb6
      have b6 := HT.out.two.grew hb6
      have n6 : w6.cell? ⟨w5.heap.size, 0, none⟩ = some (.int .u8 0) := (hb6.cell (p := ⟨w5.heap.size, 0, none⟩) (cell_lt HT.out.none)).trans HT.out.none
      have K6 : Hid (Below w.heap.size w w6) := HT.out.below.trans (hb6.mono HT.out.below.size)
      have rd : Hid (Red S 5) := HT.out.inv.red
      clear gC gRC hb6 HT
      go_wp2_with fail
      refine (rank_any C RC 5 1 S w6 h6).mono ?_
      rintro e wx ⟨rfl, hx⟩
      subst wx
      go_wp2_with fail
      refine (rank_any A RA 5 1 S w6 a6).mono ?_
      rintro e wx ⟨rfl, hx⟩
      subst wx
      go_wp2_with fail
      refine (rank_any A RA 5 1 S w6 a6).mono ?_
      rintro e wx ⟨rfl, hx⟩
      subst wx
      have hb7 : Below w6.heap.size w6 (w6.alloc (.cells #[.int .u8 1, .int .u8 0, .int .u8 0, .int .u8 0, .int .u8 0] 5)) := (Below.refl _ _).alloc (Nat.le_refl _) _
      have l7 := lit_bytes w6 [1, 0, 0, 0, 0] (by decide)
      go_wp2_with fail
      refine (add_yes C RC 5 1 _ _ _ _ S (listAt [1, 0, 0, 0, 0]) (fun _ => 0) _ (h6.grew hb7) l7 (zero_at _ _ ((hb7.cell (p := ⟨w5.heap.size, 0, none⟩) (cell_lt n6)).trans n6))).mono ?_
      rintro e w7 ⟨rfl, h7, k7⟩
      have k7 := (Kept.of_below (R := RC) hb7).trans k7
      obtain ⟨m7, rd7⟩ := rank_mono rd.out (unit_byt [1, 0, 0, 0, 0] (by decide))
      have a7 := a6.kept k7 h6.apart d6.1.symm
      have b7 := b6.kept k7 h6.apart d6.2.symm
      have n7 := k7.cell n6 (h6.apart _ _ _ _ n6)
      have K7 : Hid (Below w.heap.size w w7) := K6.out.trans (k7.below gRC6.out K6.out.size)
      clear k7 a6 b6 n6 h6 hb7 l7 K6 rd
      generalize (addOf S 5 (cat (listAt [1, 0, 0, 0, 0]) (fun _ => 0) 5)).2 = S7 at *
      have hb8 : Below w7.heap.size w7 (w7.alloc (.cells #[.int .u8 0, .int .u8 1, .int .u8 0, .int .u8 0, .int .u8 0] 5)) := (Below.refl _ _).alloc (Nat.le_refl _) _
      have l8 := lit_bytes w7 [0, 1, 0, 0, 0] (by decide)
      go_wp2_with fail
      refine (add_yes C RC 5 1 _ _ _ _ S7 (listAt [0, 1, 0, 0, 0]) (fun _ => 0) _ (h7.grew hb8) l8 (zero_at _ _ ((hb8.cell (p := ⟨w5.heap.size, 0, none⟩) (cell_lt n7)).trans n7))).mono ?_
      rintro e w8 ⟨rfl, h8, k8⟩
      have k8 := (Kept.of_below (R := RC) hb8).trans k8
      obtain ⟨m8, -⟩ := rank_mono rd7 (unit_byt [0, 1, 0, 0, 0] (by decide))
      have a8 := a7.kept k8 h7.apart d6.1.symm
      have b8 := b7.kept k8 h7.apart d6.2.symm
      have K8 : Hid (Below w.heap.size w w8) := K7.out.trans (k8.below gRC6.out K7.out.size)
      clear k8 a7 b7 n7 h7 hb8 l8 K7 rd7 d6 gRC6
      generalize (addOf S7 5 (cat (listAt [0, 1, 0, 0, 0]) (fun _ => 0) 5)).2 = S8 at *
      have q4 : ((rankTo S 5 : Nat) : Int) ≤ ((rankTo S8 5 : Nat) : Int) := by omega
      have HM : Hid (rankTo T 5 = rankTo S 5) := same
      clear m7 m8 same
      go_wp2_with fail
      refine (rank_any A RA 5 1 S w8 a8).mono ?_
      rintro e wx ⟨rfl, hx⟩
      subst wx
      go_wp2_with fail
      refine (rank_any B RB 5 1 T w8 b8).mono ?_
      rintro e wx ⟨rfl, hx⟩
      subst wx
      rw [HM.out]
      go_wp2_with fail
      refine (rank_any C RC 5 1 S8 w8 h8).mono ?_
      rintro e wx ⟨rfl, hx⟩
      subst wx
      go_wp2
      go_ret
      exact ⟨rfl, K8.out⟩

set_option maxRecDepth 100000 in
set_option maxHeartbeats 400000 in
theorem long (a0 : Option Addr) (len0 cap0 n : Nat) (w : World) (hl : 10 < len0) :
    Calls Try.prog 5 #[.slice a0 len0 cap0, .int .u8 (n : Int)] w fun e w' => e = .returned (.bool true) ∧ Below w.heap.size w w' := by
  have i1 : (10 : Int) < (len0 : Int) := by omega
  go_enter Try.func5, Try.ntmps5
  go_wp2_with fail
  refine (begun2_any _).mono ?_
  rintro e w1 ⟨rfl, hb1⟩
  go_wp2
  go_ret
  exact ⟨rfl, hb1⟩

theorem walk (a0 : Option Addr) (len0 cap0 : Nat) (f : Nat → Nat → Nat) (a1 : Int) (w : World) (h0 : ArrsAt w a0 len0 5 f ∧ len0 ≤ cap0 ∧ cap0 ≤ maxLen) (h1 : (Lit.int .u8 a1).wf = true) :
    Calls Try.prog 5 #[.slice a0 len0 cap0, .int .u8 a1] w fun e w' => e = .returned (.bool true) ∧ Below w.heap.size w w' := by
  obtain ⟨n, rfl, hn⟩ := wf_u8 h1
  by_cases hl : 10 < len0
  · exact long a0 len0 cap0 n w hl
  · exact core a0 len0 cap0 f n w h0.1 hn (by omega)

set_option maxRecDepth 100000 in
theorem lifted (os : Os) (started : os.Started) (H : Type) (enc : TypeId × Value → H) :
    ReturnsInHanded {} Try.checked os 5 .any (Rows.basisRankSpec.pre6 enc Try.prog Try.f5 Rows.basisRankRow.domain false) (Rows.basisRankSpec.post enc Try.prog Try.f5 false true false false) := by
  refine returnsInHanded_of_change (C := Try.checked) own started (by kernel_rfl) Try.func5
    (ChangeSpec.witness6 (enc := enc) (C := Try.checked) false ⟨#[], #[.slice none 0 0, .int .u8 0], []⟩ 8 (by kernel_rfl) (by kernel_rfl) (by kernel_rfl) (by kernel_rfl)) ?_
  intro W base args ds gs before hval0 hW hcnd _
  have hval : ∀ (j : Nat) t v, Try.f5.params[j]? = some t → args[j]? = some v → Value.okWide Try.prog W .any base t v := hval0
  have hW' := hW
  obtain ⟨p, q, hA0, hV, rfl, hfz, hnd⟩ := hW
  have hA : DataW.TrodAll enc Try.prog W 0 (fun _ => true) true Try.f5.params.toList args.toList ds p := hA0
  rw [Try.params5] at hA hval
  obtain ⟨v0, vs0, d0, ds0, p0, q0, hargs, rfl, rfl, h0, r0⟩ := trodAll_cons hA
  obtain ⟨v1, vs1, d1, ds1, p1, q1, rfl, rfl, rfl, h1, r1⟩ := trodAll_cons r0
  obtain ⟨rfl, rfl, rfl⟩ := trodAll_nil r1
  obtain rfl : args = #[v0, v1] := by cases args; simp_all
  obtain ⟨rfl, rfl⟩ := trodVars_none hV
  obtain ⟨a0, len0, cap0, rfl⟩ := okWide_slice Try.underlying48 (hval 0 48 v0 rfl rfl)
  have k0 := h0
  have lt0 : ∀ x ∈ p0, x.block < W.heap.size := by obtain ⟨m, hm⟩ := k0; exact DataW.trod_lt m _ _ _ hm
  obtain ⟨x0, w0⟩ := open_arrs Try.underlying48 Try.underlying49 Try.underlying5 (by kernel_rfl) (by kernel_rfl) (by decide) h0
  obtain ⟨a1, rfl, rfl, rfl, w1⟩ := open_int Try.underlying5 (hval 1 5 v1 rfl rfl) h1
  clear hA0 hval0
  refine (walk a0 len0 cap0 x0 a1 W w0 w1).mono fun e W' ⟨he, bel⟩ => ?_
  subst he
  exact ⟨_, rfl, _, _, _, [], _, [], hW', trodAll_mk1 (shut_bool Try.underlying4 _), (trodAll_cons_mk (Below.trod laidOut (by kernel_rfl) (of_decide_eq_true (by kernel_rfl)) k0 bel lt0) (trodAll_cons_mk (shut_int Try.underlying5 w1) trodAll_mk0)), rfl, bel.frame _, fun h => by cases h⟩

theorem over : Rows.basisRankRow.holds Try.pinned (OpenSpec.ofChange Rows.basisRankSpec) :=
  OpenClaim.holds_of_wide 5 Try.f5 rfl rfl rfl rfl rfl rfl rfl ⟨rfl, rfl, rfl, rfl, rfl⟩ rfl rfl rfl rfl rfl (by kernel_rfl) Try.func5 (by kernel_rfl)
    (of_decide_eq_true (by kernel_rfl)) (by unfold Func.isWrapper; first | (rw [if_pos (by decide +kernel)]; kernel_rfl) | (rw [if_neg (by decide +kernel)]; exact ⟨rfl, rfl⟩))
    (fun os started H enc _ => lifted os started H enc)

theorem proved : Rows.BasisRankSaid := over
end Go.Proofs.Ytejcalpnidgmoaa.basisRank
namespace Go.Proofs.Ytejcalpnidgmoaa
theorem basisRank_holds : Rows.BasisRankSaid := basisRank.proved
#print axioms basisRank_holds
end Go.Proofs.Ytejcalpnidgmoaa
