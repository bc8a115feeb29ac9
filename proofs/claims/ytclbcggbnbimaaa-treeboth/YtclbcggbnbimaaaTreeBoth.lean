/-
  One is above another just if that one is below it, and whoever is above one above is above: the call returns true, whatever the numbers are (120 numbers at most are looked at; no condition).
-/
import Derived.Test.YtclbcggbnbimaaaRows
import Derived.WalkKit
import Derived.ProofKit
import Derived.OpenShut
import Derived.ShutString
import Derived.ChangeOld
import Derived.Below
import Derived.Carry
import Derived.Test.YtclbcggbnbimaaaOpn
import Derived.Deep.RegionHeld
import Derived.BigRegion
import Derived.Test.YtclbcggbnbimaaaTbo
namespace Go.Proofs.Ytclbcggbnbimaaa.treeBoth
open Go.ChangeShapes Go.WideShapes Go.ChangeAt Go.RowKit
open Go.ChangeMaps (open_string shut_string)
set_option linter.unusedVariables false

theorem own : ownKnob Try.prog.godebug = none := by kernel_rfl
theorem laidOut : laidOutB Try.prog = true := by kernel_rfl

open Go.Deep

set_option maxRecDepth 100000 in
set_option maxHeartbeats 4000000 in
theorem core (a : Option Addr) (n c : Nat) (x : Nat → Nat) (w : World) (h : BytesAt w a n x) (hn : n ≤ 120) :
    Calls Try.prog 4 #[.slice a n c] w fun e w' => e = .returned (.bool true) ∧ Below w.heap.size w w' := by
  have i1 : decide ((120 : Int) < (n : Int)) = false := by simp; omega
  have hz := (zero_of_info Try.infoGrid).1
  obtain ⟨Z, hZ⟩ : ∃ Z : Array Value, Z = Array.replicate 144 (.bool false) := ⟨_, rfl⟩
  rw [← hZ] at hz
  have HZ : Hid (Z = Array.replicate 144 (.bool false)) := hZ
  clear hZ
  go_enter Try.func4, Try.ntmps4
  go_wp2_with fail
  refine (begun14 _).mono ?_
  rintro e w1 ⟨rfl, b1⟩
  have h1 := h.grew b1
  go_wp2_with fail
  refine (made_any a n c x w1 h1 (by omega)).mono ?_
  rintro e w2 ⟨rfl, b2, s2, pk⟩
  have HB2 : Hid (Below w.heap.size w w2) := b1.trans (b2.mono b1.size)
  have lw : w.heap.size ≤ w1.heap.size := b1.size
  generalize w1.heap.size = P at *
  clear h h1 b1 b2 i1
  go_wp2_with fail
  refine (frames_any (P + 1) P 0 12 w2 pk (by omega) (by decide)).mono ?_
  rintro e w3 ⟨c3, v, m, K, R, rfl, hF, hm, hI, hG, hH⟩
  have HB3 : Hid (Below w.heap.size w w3) := HB2.out.trans (c3.kept.below lw (by omega))
  obtain ⟨r, cap, rfl, hfr, -⟩ := hF.any
  have HR : Hid (Rise K m) := inc_rise hI
  have HH : Hid (Hung K R m) := hH
  have HC3 : Crowd w3 r m K R := crowd_of hfr hI hG hH (by omega)
  obtain ⟨x1, e1⟩ : ∃ y, w3.alloc (.cells Z 36) = y := ⟨_, rfl⟩
  obtain ⟨x2, e2⟩ : ∃ y, x1.alloc (.cells Z 36) = y := ⟨_, rfl⟩
  have z1 : x1.heap.size = w3.heap.size + 1 := by rw [← e1]; simp
  have g1 : Grd x1 w3.heap.size (fun _ _ => false) := by
    have := World.rowIs_alloc w3 Z 36 (fun _ => .bool false) (fun i hi => by rw [HZ.out] at hi ⊢; rw [Array.size_replicate] at hi; rw [Array.getElem?_replicate, if_pos hi])
    rw [e1, HZ.out, Array.size_replicate] at this
    exact this
  have g2 : Grd x2 x1.heap.size (fun _ _ => false) := by
    have := World.rowIs_alloc x1 Z 36 (fun _ => .bool false) (fun i hi => by rw [HZ.out] at hi ⊢; rw [Array.size_replicate] at hi; rw [Array.getElem?_replicate, if_pos hi])
    rw [e2, HZ.out, Array.size_replicate] at this
    exact this
  have B1 : Below w3.heap.size w3 x1 := e1 ▸ box_below w3 _
  have B2 : Below x1.heap.size x1 x2 := e2 ▸ box_below x1 _
  have HS : Hid (St w3 x2 r m K R (fun _ _ => false) (fun _ _ => false)) := ⟨B1.trans (B2.mono B1.size), HC3, g1.block (B2.block _ (by omega)), z1 ▸ g2⟩
  clear hF hfr hI hG hH c3 pk s2 lw HB2 HC3 g1 g2 B1 B2
  go_wp2_with fail
  clear e1 e2 z1 hz HZ
  go_loopw [6] (fun i wr => ∃ (t : Nat) (A B : Nat → Nat → Bool), i = .int .i64 t ∧ t ≤ m ∧ Hid (St w3 wr r m K R A B) ∧ Hid (Gr A (UpP K R m) m t 0) ∧ Hid (Gr B (DnP K R m) m t 0)) (fun i _ => m - (intOf i).toNat)
  case atStart => exact ⟨0, _, _, rfl, Nat.zero_le _, HS, Gr.nil _ _, Gr.nil _ _⟩
  case round =>
    clear HS
    obtain ⟨t, A, B, rfl, ht, HS, HA, HG⟩ := hrel
    by_cases htm : t < m
    case neg =>
      have i1 : decide ((t : Int) < (m : Int)) = false := by simp; omega
      have i1p : ¬ ((t : Int) < (m : Int)) := by omega
      have i1n : ¬ t < m := htm
      have htm' : t = m := by omega
      have HAT : Hid (∀ i, i < m → ∀ k, k < m → (A i k = true ↔ UpP K R m i k)) := fun i hi k hk => HA.out.done i (by omega) k hk
      have HBT : Hid (∀ i, i < m → ∀ k, k < m → A i k = B k i) := fun i hi k hk => tr_eq (HAT.out i hi k hk) (HG.out.done k (by omega) i hi)
      clear HA HG htm' htm
      go_wp2_with fail
      generalize wr = wo at *
      go_loopw [14] (fun i wr => ∃ t : Nat, i = .int .i64 t ∧ t ≤ m ∧ Hid (St w3 wr r m K R A B)) (fun i _ => m - (intOf i).toNat)
      case atStart => exact ⟨0, rfl, Nat.zero_le _, HS⟩
      case round =>
        clear HS
        obtain ⟨t, rfl, ht, HS⟩ := hrel
        by_cases htm : t < m
        case neg =>
          have i1 : decide ((t : Int) < (m : Int)) = false := by simp; omega
          have i1p : ¬ ((t : Int) < (m : Int)) := by omega
          have HF : Hid (Below w.heap.size w wr) := HB3.out.trans (HS.out.bel.mono HB3.out.size)
          clear HS
          go_wp2
          go_ret
          exact ⟨rfl, HF.out⟩
        have i1 : (t : Int) < (m : Int) := by omega
        have i12 : (t : Int) < 12 := by omega
        obtain ⟨fb, fo, rfl⟩ := HS.out.cr.frs.addr (by omega)
        go_wp2_with fail
        generalize wr = wp at *
        go_loopw [15] (fun kk wr => ∃ k : Nat, kk = .int .i64 k ∧ k ≤ m ∧ Hid (St w3 wr (some ⟨fb, fo, none⟩) m K R A B)) (fun kk _ => m - (intOf kk).toNat)
        case atStart => exact ⟨0, rfl, Nat.zero_le _, HS⟩
        case round =>
          clear HS
          obtain ⟨k, rfl, hk, HS⟩ := hrel
          by_cases hkm : k < m
          case neg =>
            have i2 : decide ((k : Int) < (m : Int)) = false := by simp; omega
            go_wp2_with fail
            go_roundw
            case rel => exact ⟨t + 1, by go_num, by omega, HS⟩
            case measure => simp [intOf]; omega
          have i2 : (k : Int) < (m : Int) := by omega
          have i13 : (k : Int) < 12 := by omega
          have hn1 : (K t).n ≤ 1000 := HS.out.cr.len t htm
          go_wp2_with fail
          generalize wr = wq at *
          go_loopw [16, 17] (fun dd mm wr => ∃ (d : Bool) (u : Nat), dd = .bool d ∧ mm = .int .i64 u ∧ u ≤ (K t).n ∧ Hid (Tr d (∃ i, i < u ∧ R t i = ((K k).id : Int))) ∧ Hid (St w3 wr (some ⟨fb, fo, none⟩) m K R A B)) (fun _ mm _ => (K t).n - (intOf mm).toNat)
          case atStart => exact ⟨false, 0, rfl, rfl, Nat.zero_le _, Tr.no (found_none _ _), HS⟩
          case round =>
            clear HS
            obtain ⟨d, u, rfl, rfl, hu, htr, HS⟩ := hrel
            have hC := HS.out.crowd
            obtain ⟨-, -, q2, -⟩ := hC.frs.at t htm
            obtain ⟨p0, -⟩ := hC.frs.at k hkm
            have HSd : Hid (∀ n, St w3 (wr.drewN n) (some ⟨fb, fo, none⟩) m K R A B) := fun n => HS.out.grew (below_drews n)
            by_cases hun : u < (K t).n
            case pos =>
              have i3 : (u : Int) < ((K t).n : Int) := by omega
              obtain ⟨rb, ro, er, hcr⟩ := (hC.refs t htm) (by omega)
              have c5 := hcr u hun
              rw [er] at q2
              cases d with
              | true =>
                have HTn : Hid (Tr true (∃ i, i < u + 1 ∧ R t i = ((K k).id : Int))) := Tr.yes ((found_step _ _ _).2 (.inl (htr.out.1 rfl)))
                clear htr HS hcr hC er
                generalize hyr : R t u = yr at *
                generalize hyk : (K k).id = yk at *
                go_wp2_with fail
                go_quiet (fail)
                go_wp2_with fail
                go_roundw
                case rel => exact ⟨true, u + 1, rfl, by go_num, by omega, HTn, HSd.out _⟩
                case measure => simp [intOf]; omega
              | false =>
                have HTn : Hid (Tr (R t u == ((K k).id : Int)) (∃ i, i < u + 1 ∧ R t i = ((K k).id : Int))) := (tr_or htr.out Iff.rfl).congr (found_step _ _ _).symm
                clear htr HS hcr hC er
                generalize hyr : R t u = yr at *
                generalize hyk : (K k).id = yk at *
                go_wp2_with fail
                go_quiet (fail)
                go_wp2_with fail
                go_roundw
                case rel => exact ⟨_, u + 1, rfl, by go_num, by omega, HTn, HSd.out _⟩
                case measure => simp [intOf]; omega
            case neg =>
              have i3 : decide ((u : Int) < ((K t).n : Int)) = false := by simp; omega
              have HDI : Hid (d = true → A t k = true) := fun hd => (HAT.out t htm k hkm).2 (by
                obtain ⟨i, h1, h2⟩ := htr.out.1 hd
                exact .one ⟨htm, hkm, i, by omega, h2⟩)
              have HFA : Hid (A t k = true → k < t) := fun h => ((HAT.out t htm k hkm).1 h).falls (edge_falls HR.out HH.out)
              have ca := HS.out.ga.cell (i := t) (k := k) (by omega) (by omega)
              have cb := HS.out.gb.cell (i := k) (k := t) (by omega) (by omega)
              rw [← HBT.out t htm k hkm] at cb
              have NEXT : Hid (∀ (n u : Nat), u ≤ m → St w3 (wr.drewN n) (some ⟨fb, fo, none⟩) m K R A B) := fun n _ _ => HSd.out n
              clear htr HS hC HSd p0
              cases ea : A t k with
              | true =>
                rw [ea] at ca cb
                have i4 : decide ((t : Int) ≤ (k : Int)) = false := by have := HFA.out ea; simp; omega
                have i5 : decide (t ≤ k) = false := by have := HFA.out ea; simp; omega
                have i6 : ¬ t ≤ k := by have := HFA.out ea; omega
                clear HFA HDI
                cases d with
                | true =>
                  go_wp2_with fail
                  go_quiet (fail)
                  go_wp2_with fail
                  generalize wr = wz at *
                  go_loopw [18] (fun mm wr => ∃ u : Nat, mm = .int .i64 u ∧ u ≤ m ∧ Hid (St w3 wr (some ⟨fb, fo, none⟩) m K R A B)) (fun mm _ => m - (intOf mm).toNat)
                  case atStart => exact ⟨0, rfl, Nat.zero_le _, NEXT.out _ 0 (Nat.zero_le _)⟩
                  case round =>
                    clear NEXT ca cb
                    obtain ⟨s, rfl, hs, HS⟩ := hrel
                    by_cases hsm : s < m
                    case neg =>
                      have i7 : decide ((s : Int) < (m : Int)) = false := by simp; omega
                      go_wp2_with fail
                      go_roundw
                      case rel => exact ⟨k + 1, by go_num, by omega, HS⟩
                      case measure => simp [intOf]; omega
                    have i7 : (s : Int) < (m : Int) := by omega
                    have i14 : (s : Int) < 12 := by omega
                    have ca := HS.out.ga.cell (i := t) (k := k) (by omega) (by omega)
                    rw [ea] at ca
                    have ck := HS.out.ga.cell (i := k) (k := s) (by omega) (by omega)
                    cases ek : A k s with
                    | false =>
                      rw [ek] at ck
                      go_wp2_with fail
                      go_roundw
                      case rel => exact ⟨s + 1, by go_num, by omega, HS⟩
                      case measure => simp [intOf]; omega
                    | true =>
                      rw [ek] at ck
                      have ct := HS.out.ga.cell (i := t) (k := s) (by omega) (by omega)
                      have et : A t s = true := (HAT.out t htm s hsm).2 (((HAT.out t htm k hkm).1 ea).trans ((HAT.out k hkm s hsm).1 ek))
                      rw [et] at ct
                      go_wp2_with fail
                      go_roundw
                      case rel => exact ⟨s + 1, by go_num, by omega, HS⟩
                      case measure => simp [intOf]; omega
                | false =>
                  go_wp2_with fail
                  go_quiet (fail)
                  go_wp2_with fail
                  generalize wr = wz at *
                  go_loopw [18] (fun mm wr => ∃ u : Nat, mm = .int .i64 u ∧ u ≤ m ∧ Hid (St w3 wr (some ⟨fb, fo, none⟩) m K R A B)) (fun mm _ => m - (intOf mm).toNat)
                  case atStart => exact ⟨0, rfl, Nat.zero_le _, NEXT.out _ 0 (Nat.zero_le _)⟩
                  case round =>
                    clear NEXT ca cb
                    obtain ⟨s, rfl, hs, HS⟩ := hrel
                    by_cases hsm : s < m
                    case neg =>
                      have i7 : decide ((s : Int) < (m : Int)) = false := by simp; omega
                      go_wp2_with fail
                      go_roundw
                      case rel => exact ⟨k + 1, by go_num, by omega, HS⟩
                      case measure => simp [intOf]; omega
                    have i7 : (s : Int) < (m : Int) := by omega
                    have i14 : (s : Int) < 12 := by omega
                    have ca := HS.out.ga.cell (i := t) (k := k) (by omega) (by omega)
                    rw [ea] at ca
                    have ck := HS.out.ga.cell (i := k) (k := s) (by omega) (by omega)
                    cases ek : A k s with
                    | false =>
                      rw [ek] at ck
                      go_wp2_with fail
                      go_roundw
                      case rel => exact ⟨s + 1, by go_num, by omega, HS⟩
                      case measure => simp [intOf]; omega
                    | true =>
                      rw [ek] at ck
                      have ct := HS.out.ga.cell (i := t) (k := s) (by omega) (by omega)
                      have et : A t s = true := (HAT.out t htm s hsm).2 (((HAT.out t htm k hkm).1 ea).trans ((HAT.out k hkm s hsm).1 ek))
                      rw [et] at ct
                      go_wp2_with fail
                      go_roundw
                      case rel => exact ⟨s + 1, by go_num, by omega, HS⟩
                      case measure => simp [intOf]; omega
              | false =>
                rw [ea] at ca cb
                have hd : d = false := by
                  cases d with
                  | false => rfl
                  | true => have := HDI.out rfl; rw [ea] at this; exact absurd this Bool.false_ne_true
                subst hd
                clear HFA HDI
                go_wp2_with fail
                go_quiet (fail)
                go_wp2_with fail
                generalize wr = wz at *
                go_loopw [18] (fun mm wr => ∃ u : Nat, mm = .int .i64 u ∧ u ≤ m ∧ Hid (St w3 wr (some ⟨fb, fo, none⟩) m K R A B)) (fun mm _ => m - (intOf mm).toNat)
                case atStart => exact ⟨0, rfl, Nat.zero_le _, NEXT.out _ 0 (Nat.zero_le _)⟩
                case round =>
                  clear NEXT ca cb
                  obtain ⟨s, rfl, hs, HS⟩ := hrel
                  by_cases hsm : s < m
                  case neg =>
                    have i7 : decide ((s : Int) < (m : Int)) = false := by simp; omega
                    go_wp2_with fail
                    go_roundw
                    case rel => exact ⟨k + 1, by go_num, by omega, HS⟩
                    case measure => simp [intOf]; omega
                  have i7 : (s : Int) < (m : Int) := by omega
                  have i14 : (s : Int) < 12 := by omega
                  have ca := HS.out.ga.cell (i := t) (k := k) (by omega) (by omega)
                  rw [ea] at ca
                  go_wp2_with fail
                  go_roundw
                  case rel => exact ⟨s + 1, by go_num, by omega, HS⟩
                  case measure => simp [intOf]; omega
    have i1 : (t : Int) < (m : Int) := by omega
    have i12 : (t : Int) < 12 := by omega
    obtain ⟨fb, fo, rfl⟩ := HS.out.cr.frs.addr (by omega)
    obtain ⟨idt, hidt⟩ : ∃ y, (K t).id = y := ⟨_, rfl⟩
    have HID : Hid ((K t).id = idt) := hidt
    have HIL : Hid (idt < 4294967296) := hidt ▸ HS.out.cr.ids t htm
    have HSd : Hid (St w3 wr.drew (some ⟨fb, fo, none⟩) m K R A B) := HS.out.grew (Below.refl _ _).drew
    clear hidt HS
    go_wp2_with fail
    refine wp_region_held (S := fun W => St w3 W (some ⟨fb, fo, none⟩) m K R A B) (by kernel_rfl) ?_
    change wpAnyH _ _ _ _ _ _ _ _ wr.drew
    have hr := HSd.out
    clear HSd
    generalize wr.drew = w4 at *
    refine wpAnyH_take (i := 0) (v := .slice (some ⟨fb, fo, none⟩) m cap) rfl (by kernel_rfl) (by kernel_rfl) (by kernel_rfl) (fun _ _ _ h => h) (Yields.yieldsIf (Or.inl ⟨by kernel_rfl, fun _ => by kernel_rfl⟩)) hr ?_
    refine wpAnyH_take (i := 1) (v := .slice (some ⟨fb, fo, none⟩) m cap) rfl (by kernel_rfl) (by kernel_rfl) (by kernel_rfl) (fun _ _ _ h => h) (Yields.yieldsIf (Or.inl ⟨by kernel_rfl, fun _ => by kernel_rfl⟩)) hr ?_
    refine wpAnyH_take (i := 2) (v := .int .i64 (t : Int)) rfl (by kernel_rfl) (by kernel_rfl) (by kernel_rfl) (fun _ _ _ h => h) (Yields.yieldsIf (Or.inl ⟨by kernel_rfl, fun _ => by kernel_rfl⟩)) hr ?_
    refine wpAnyH_take (i := 3) (v := .pointer (some ⟨fb, fo + t * 6, none⟩)) rfl (by kernel_rfl) (by kernel_rfl) (by kernel_rfl) (fun _ _ _ h => h) (Yields.yieldsIf (Or.inl ⟨by kernel_rfl, fun _ => by go_simp⟩)) hr ?_
    refine wpAnyH_take (i := 4) (v := .pointer (some ⟨fb, fo + t * 6, none⟩)) rfl (by kernel_rfl) (by kernel_rfl) (by kernel_rfl) (fun _ _ _ h => h) (Yields.yieldsIf (Or.inl ⟨by kernel_rfl, fun _ => by go_simp⟩)) hr ?_
    refine wpAnyH_take (i := 5) (v := .int .u32 (idt : Int)) rfl (by kernel_rfl) (by kernel_rfl) (by kernel_rfl) (fun _ _ _ h => h) (Or.inl ⟨by kernel_rfl, fun W hW => by have g0 := (St.crowd hW).frs.at t htm |>.1; rw [HID.out] at g0; go_simp⟩) hr ?_
    refine wpAnyH_take (i := 7) (v := .slice (some ⟨fb, fo, none⟩) m cap) rfl (by kernel_rfl) (by kernel_rfl) (by kernel_rfl) (fun _ _ _ h => h) (Yields.yieldsIf (Or.inl ⟨by kernel_rfl, fun _ => by kernel_rfl⟩)) hr ?_
    refine wpAnyH_take (i := 8) (v := .slice (some ⟨fb, fo, none⟩) m cap) rfl (by kernel_rfl) (by kernel_rfl) (by kernel_rfl) (fun _ _ _ h => h) (Yields.yieldsIf (Or.inl ⟨by kernel_rfl, fun _ => by kernel_rfl⟩)) hr ?_
    refine wpAnyH_take (i := 9) (v := .int .i64 (t : Int)) rfl (by kernel_rfl) (by kernel_rfl) (by kernel_rfl) (fun _ _ _ h => h) (Yields.yieldsIf (Or.inl ⟨by kernel_rfl, fun _ => by kernel_rfl⟩)) hr ?_
    refine wpAnyH_take (i := 10) (v := .pointer (some ⟨fb, fo + t * 6, none⟩)) rfl (by kernel_rfl) (by kernel_rfl) (by kernel_rfl) (fun _ _ _ h => h) (Yields.yieldsIf (Or.inl ⟨by kernel_rfl, fun _ => by go_simp⟩)) hr ?_
    refine wpAnyH_take (i := 11) (v := .pointer (some ⟨fb, fo + t * 6, none⟩)) rfl (by kernel_rfl) (by kernel_rfl) (by kernel_rfl) (fun _ _ _ h => h) (Yields.yieldsIf (Or.inl ⟨by kernel_rfl, fun _ => by go_simp⟩)) hr ?_
    refine wpAnyH_take (i := 12) (v := .int .u32 (idt : Int)) rfl (by kernel_rfl) (by kernel_rfl) (by kernel_rfl) (fun _ _ _ h => h) (Or.inl ⟨by kernel_rfl, fun W hW => by have g0 := (St.crowd hW).frs.at t htm |>.1; rw [HID.out] at g0; go_simp⟩) hr ?_
    refine wpAnyH_ready (rs := [6]) (by kernel_rfl) (by simp) ?_
    refine AllReadyH.cons rfl (fun K2 hK2 => ?_) AllReadyH.nil
    go_simp
    refine Calls.mono (above_any _ m cap K R idt _ (by omega) HIL.out (St.crowd hr)) ?_
    rintro e w5 ht5
    obtain ⟨b5, r5, L5, c5, x5, s5, rfl, l5, HT5⟩ := St.told hr ht5
    have hr := St.grew hr b5
    refine hK2.out _ _ hr (fun hr => ?_)
    clear hK2 K2 ht5
    refine wpAnyH_ready (rs := [13]) (by kernel_rfl) (by simp) ?_
    refine AllReadyH.cons rfl (fun K2 hK2 => ?_) AllReadyH.nil
    go_simp
    refine Calls.mono (below_any _ m cap K R idt _ (by omega) HIL.out (St.crowd hr)) ?_
    rintro e w6 ht6
    obtain ⟨b6, r6, L6, c6, x6, s6, rfl, l6, HT6⟩ := St.told hr ht6
    have hr := St.grew hr b6
    refine hK2.out _ _ hr (fun hr => ?_)
    clear hK2 K2 ht6
    refine wpAnyH_take (i := 14) (v := .slice r5 L5 c5) rfl (by kernel_rfl) (by kernel_rfl) (by kernel_rfl) (fun _ _ _ h => h) (Yields.yieldsIf (Or.inl ⟨by kernel_rfl, fun _ => by kernel_rfl⟩)) hr ?_
    refine wpAnyH_take (i := 15) (v := .slice r6 L6 c6) rfl (by kernel_rfl) (by kernel_rfl) (by kernel_rfl) (fun _ _ _ h => h) (Yields.yieldsIf (Or.inl ⟨by kernel_rfl, fun _ => by kernel_rfl⟩)) hr ?_
    refine wpAnyH_done (by kernel_rfl) ?_ _
    have HS6 : Hid (St w3 w6 (some ⟨fb, fo, none⟩) m K R A B) := hr
    have HL5 : Hid (Ls w3 w6 r5 L5 x5) := l5.grew b6
    have HL6 : Hid (Ls w3 w6 r6 L6 x6) := l6
    have HT5 : Hid (Tls K m (fun q => UpP K R m t q) s5 L5 x5) := ⟨fun q hq => (HT5.who q hq).trans (HID.out ▸ behind_up HR.out HH.out htm q), HT5.len, HT5.ids⟩
    have HT6 : Hid (Tls K m (fun q => DnP K R m t q) s6 L6 x6) := ⟨fun q hq => (HT6.who q hq).trans (HID.out ▸ behind_dn HR.out HH.out htm q), HT6.len, HT6.ids⟩
    have hL5 : L5 ≤ 12 := Nat.le_trans HT5.out.small hm
    have hL6 : L6 ≤ 12 := Nat.le_trans HT6.out.small hm
    clear b5 l5 b6 l6 hr HIL HID
    go_wp2_with fail
    generalize wr = wo at *
    go_loopw [9, 10] (fun nn kk wr => ∃ (N k : Nat) (A B : Nat → Nat → Bool), nn = .int .i64 N ∧ kk = .int .i64 k ∧ k ≤ m ∧ N ≤ 2 * k ∧ Hid (N = (picked s5 k).length + (picked s6 k).length) ∧ Hid (St w3 wr (some ⟨fb, fo, none⟩) m K R A B) ∧ Hid (Gr A (UpP K R m) m t k) ∧ Hid (Gr B (DnP K R m) m t k) ∧ Hid (Ls w3 wr r5 L5 x5) ∧ Hid (Ls w3 wr r6 L6 x6)) (fun _ kk _ => m - (intOf kk).toNat)
    case atStart => exact ⟨0, 0, A, B, rfl, rfl, Nat.zero_le _, Nat.zero_le _, rfl, HS6, HA, HG, HL5, HL6⟩
    case round =>
      clear HS6 HA HG HL5 HL6
      obtain ⟨N, k, A, B, rfl, rfl, hk, hN, hNk, HS, HA, HG, HL5, HL6⟩ := hrel
      by_cases hkm : k < m
      case neg =>
        have hkm' : k = m := by omega
        have i2 : decide ((k : Int) < (m : Int)) = false := by simp; omega
        have hNL : N = L5 + L6 := by rw [hNk.out, hkm', ← HT5.out.len, ← HT6.out.len]
        have i3 : ((N : Int) != (L5 : Int) + (L6 : Int)) = false := by simp; omega
        have HAn : Hid (Gr A (UpP K R m) m (t + 1) 0) := by rw [hkm'] at HA; exact HA.out.next
        have HGn : Hid (Gr B (DnP K R m) m (t + 1) 0) := by rw [hkm'] at HG; exact HG.out.next
        clear hNk hNL HA HG HL6 hkm'
        go_wp2_with fail
        generalize wr = wp at *
        go_loopw [13] (fun mm wr => ∃ u : Nat, mm = .int .i64 u ∧ 1 ≤ u ∧ u ≤ L5 + 1 ∧ Hid (St w3 wr (some ⟨fb, fo, none⟩) m K R A B) ∧ Hid (Ls w3 wr r5 L5 x5)) (fun mm _ => L5 + 1 - (intOf mm).toNat)
        case atStart => exact ⟨1, rfl, Nat.le_refl _, by omega, HS, HL5⟩
        case round =>
          clear HS HL5
          obtain ⟨u, rfl, hu1, hu2, HS, HL5⟩ := hrel
          by_cases hul : u < L5
          · have i4 : (u : Int) < (L5 : Int) := by omega
            obtain ⟨lb, lo, rfl, hc⟩ := HL5.out.nums (by omega)
            have c1 := hc u hul
            have c2 := hc (u - 1) (by omega)
            have e1 : decide (x5 u ≤ x5 (u - 1)) = false := by
              have := HT5.out.rise (j := u - 1) HR.out (by omega)
              rw [show u - 1 + 1 = u by omega] at this
              simp; omega
            obtain ⟨p, hp⟩ : ∃ p : Nat, p = u - 1 := ⟨_, rfl⟩
            have e2 : (u : Int) - 1 = (p : Int) := by omega
            have i5 : (p : Int) < (L5 : Int) := by omega
            rw [← hp] at c2 e1
            have HSd : Hid (∀ n, St w3 (wr.drewN n) (some ⟨fb, fo, none⟩) m K R A B) := fun n => HS.out.grew (below_drews n)
            have HLd : Hid (∀ n, Ls w3 (wr.drewN n) (some ⟨lb, lo, none⟩) L5 x5) := fun n => HL5.out.grew (below_drews n)
            have e3 : ¬ x5 u ≤ x5 p := by simpa using e1
            clear hp hc HS HL5
            generalize x5 u = y1 at *
            generalize x5 p = y2 at *
            go_wp2_with fail
            go_quiet (fail)
            go_wp2_with fail
            go_roundw
            case rel => exact ⟨u + 1, by go_num, by omega, by omega, HSd.out _, HLd.out _⟩
            case measure => simp [intOf]; omega
          · have i4 : decide ((u : Int) < (L5 : Int)) = false := by simp; omega
            go_wp2_with fail
            go_roundw
            case rel => exact ⟨t + 1, A, B, by go_num, by omega, HS, HAn, HGn⟩
            case measure => simp [intOf]; omega
      have i2 : (k : Int) < (m : Int) := by omega
      have i13 : (k : Int) < 12 := by omega
      have HI0 : Hid (∀ W, Below w3.heap.size w3 W → W.cell? ⟨fb, fo + k * 6, none⟩ = some (.int .u32 ((K k).id : Int))) := fun W hb => ((HS.out.cr.grew hb).frs.at k hkm).1
      have HF5 : Hid ((∃ i, i < L5 ∧ x5 i = ((K k).id : Int)) ↔ UpP K R m t k) := HT5.out.has HR.out hkm
      have HF6 : Hid ((∃ i, i < L6 ∧ x6 i = ((K k).id : Int)) ↔ DnP K R m t k) := HT6.out.has HR.out hkm
      generalize (K k).id = idk at *
      have HS0 : Hid (St w3 wr (some ⟨fb, fo, none⟩) m K R (put2 A t k false) B) := by rw [put2_none (HA.out.blank k (Nat.le_refl _))]; exact HS.out
      clear HS
      go_wp2_with fail
      generalize wr = wp at *
      go_loopw [11] (fun mm wr => ∃ (u : Nat) (v : Bool), mm = .int .i64 u ∧ u ≤ L5 ∧ Hid (Tr v (∃ i, i < u ∧ x5 i = (idk : Int))) ∧ Hid (St w3 wr (some ⟨fb, fo, none⟩) m K R (put2 A t k v) B) ∧ Hid (Ls w3 wr r5 L5 x5) ∧ Hid (Ls w3 wr r6 L6 x6)) (fun mm _ => L5 - (intOf mm).toNat)
      case atStart => exact ⟨0, false, rfl, Nat.zero_le _, Tr.no (found_none _ _), HS0, HL5, HL6⟩
      case round =>
        clear HS0 HL5 HL6
        obtain ⟨u, v, rfl, hu, htr, HS, HL5, HL6⟩ := hrel
        by_cases hul : u < L5
        case pos =>
          have i4 : (u : Int) < (L5 : Int) := by omega
          obtain ⟨lb, lo, rfl, hc⟩ := HL5.out.nums (by omega)
          have c1 := hc u hul
          have c2 : wr.cell? ⟨w3.heap.size, t * 12 + k, none⟩ = some (.bool v) := by
            have q := HS.out.ga.cell (i := t) (k := k) (by omega) (by omega)
            rw [put2_same] at q
            exact q
          have z2 := World.rowIs.frozen HS.out.ga (t * 12 + k)
          have q0 := HI0.out wr HS.out.bel
          cases v with
          | true =>
            have HTn : Hid (Tr true (∃ i, i < u + 1 ∧ x5 i = (idk : Int))) := Tr.yes ((found_step _ _ _).2 (.inl (htr.out.1 rfl)))
            have HSn : Hid (St w3 ((wr.setCell ⟨w3.heap.size, t * 12 + k, none⟩ (.bool true))) (some ⟨fb, fo, none⟩) m K R (put2 A t k true) B) := by
              have q := HS.out.setA (i := t) (k := k) (by omega) true
              rw [put2_again] at q
              exact q
            have HLn5 : Hid (Ls w3 (wr.setCell ⟨w3.heap.size, t * 12 + k, none⟩ (.bool true)) (some ⟨lb, lo, none⟩) L5 x5) := HL5.out.set (by omega) _
            have HLn6 : Hid (Ls w3 (wr.setCell ⟨w3.heap.size, t * 12 + k, none⟩ (.bool true)) r6 L6 x6) := HL6.out.set (by omega) _
            obtain ⟨y1, e1⟩ : ∃ y, wr.setCell ⟨w3.heap.size, t * 12 + k, none⟩ (.bool true) = y := ⟨_, rfl⟩
            rw [e1] at HSn HLn5 HLn6
            clear htr HS HL5 HL6 hc
            generalize x5 u = xu at *
            go_wp2_with fail
            go_region
            go_wp2_with fail
            go_roundw
            case rel => exact ⟨u + 1, true, by go_num, by omega, HTn, HSn.out.grew (Below.refl _ _).drew, HLn5.out.grew (Below.refl _ _).drew, HLn6.out.grew (Below.refl _ _).drew⟩
            case measure => simp [intOf]; omega
          | false =>
            have HTn : Hid (Tr (x5 u == (idk : Int)) (∃ i, i < u + 1 ∧ x5 i = (idk : Int))) := (tr_or htr.out Iff.rfl).congr (found_step _ _ _).symm
            have HSn : Hid (St w3 ((wr.setCell ⟨w3.heap.size, t * 12 + k, none⟩ (.bool (x5 u == (idk : Int))))) (some ⟨fb, fo, none⟩) m K R (put2 A t k (x5 u == (idk : Int))) B) := by
              have q := HS.out.setA (i := t) (k := k) (by omega) (x5 u == (idk : Int))
              rw [put2_again] at q
              exact q
            have HLn5 : Hid (Ls w3 (wr.setCell ⟨w3.heap.size, t * 12 + k, none⟩ (.bool (x5 u == (idk : Int)))) (some ⟨lb, lo, none⟩) L5 x5) := HL5.out.set (by omega) _
            have HLn6 : Hid (Ls w3 (wr.setCell ⟨w3.heap.size, t * 12 + k, none⟩ (.bool (x5 u == (idk : Int)))) r6 L6 x6) := HL6.out.set (by omega) _
            obtain ⟨y1, e1⟩ : ∃ y, wr.setCell ⟨w3.heap.size, t * 12 + k, none⟩ (.bool (x5 u == (idk : Int))) = y := ⟨_, rfl⟩
            rw [e1] at HSn HLn5 HLn6
            clear htr HS HL5 HL6 hc
            generalize x5 u = xu at *
            go_wp2_with fail
            go_region
            go_wp2_with fail
            go_roundw
            case rel => exact ⟨u + 1, _, by go_num, by omega, HTn, HSn.out.grew (Below.refl _ _).drew, HLn5.out.grew (Below.refl _ _).drew, HLn6.out.grew (Below.refl _ _).drew⟩
            case measure => simp [intOf]; omega
        case neg =>
          have i4 : decide ((u : Int) < (L5 : Int)) = false := by simp; omega
          have hv : v = s5 k := tr_eq (htr.out.congr (by rw [show u = L5 by omega]; exact HF5.out)) (HT5.out.who k hkm)
          have HAn : Hid (Gr (put2 A t k v) (UpP K R m) m t (k + 1)) := HA.out.put (htr.out.congr (by rw [show u = L5 by omega]; exact HF5.out))
          obtain ⟨A', hA'⟩ : ∃ A', put2 A t k v = A' := ⟨_, rfl⟩
          have HVA : Hid (A' t k = s5 k) := by rw [← hA', put2_same]; exact hv
          rw [hA'] at HAn HS
          have HS0 : Hid (St w3 wr (some ⟨fb, fo, none⟩) m K R A' (put2 B t k false)) := by rw [put2_none (HG.out.blank k (Nat.le_refl _))]; exact HS.out
          clear htr hv HA HS hA'
          have HA := HAn
          clear HAn
          generalize A' = A at *
          go_wp2_with fail
          generalize wr = wq at *
          go_loopw [12] (fun mm wr => ∃ (u : Nat) (v : Bool), mm = .int .i64 u ∧ u ≤ L6 ∧ Hid (Tr v (∃ i, i < u ∧ x6 i = (idk : Int))) ∧ Hid (St w3 wr (some ⟨fb, fo, none⟩) m K R A (put2 B t k v)) ∧ Hid (Ls w3 wr r5 L5 x5) ∧ Hid (Ls w3 wr r6 L6 x6)) (fun mm _ => L6 - (intOf mm).toNat)
          case atStart => exact ⟨0, false, rfl, Nat.zero_le _, Tr.no (found_none _ _), HS0, HL5, HL6⟩
          case round =>
            clear HS0 HL5 HL6
            obtain ⟨u, v, rfl, hu, htr, HS, HL5, HL6⟩ := hrel
            by_cases hul : u < L6
            case pos =>
              have i4 : (u : Int) < (L6 : Int) := by omega
              obtain ⟨lb, lo, rfl, hc⟩ := HL6.out.nums (by omega)
              have c1 := hc u hul
              have c2 : wr.cell? ⟨w3.heap.size + 1, t * 12 + k, none⟩ = some (.bool v) := by
                have q := HS.out.gb.cell (i := t) (k := k) (by omega) (by omega)
                rw [put2_same] at q
                exact q
              have z2 := World.rowIs.frozen HS.out.gb (t * 12 + k)
              have q0 := HI0.out wr HS.out.bel
              cases v with
              | true =>
                have HTn : Hid (Tr true (∃ i, i < u + 1 ∧ x6 i = (idk : Int))) := Tr.yes ((found_step _ _ _).2 (.inl (htr.out.1 rfl)))
                have HSn : Hid (St w3 ((wr.setCell ⟨w3.heap.size + 1, t * 12 + k, none⟩ (.bool true))) (some ⟨fb, fo, none⟩) m K R A (put2 B t k true)) := by
                  have q := HS.out.setB (i := t) (k := k) (by omega) true
                  rw [put2_again] at q
                  exact q
                have HLn5 : Hid (Ls w3 (wr.setCell ⟨w3.heap.size + 1, t * 12 + k, none⟩ (.bool true)) r5 L5 x5) := HL5.out.set (by omega) _
                have HLn6 : Hid (Ls w3 (wr.setCell ⟨w3.heap.size + 1, t * 12 + k, none⟩ (.bool true)) (some ⟨lb, lo, none⟩) L6 x6) := HL6.out.set (by omega) _
                obtain ⟨y1, e1⟩ : ∃ y, wr.setCell ⟨w3.heap.size + 1, t * 12 + k, none⟩ (.bool true) = y := ⟨_, rfl⟩
                rw [e1] at HSn HLn5 HLn6
                clear htr HS HL5 HL6 hc
                generalize x6 u = xu at *
                go_wp2_with fail
                go_region
                go_wp2_with fail
                go_roundw
                case rel => exact ⟨u + 1, true, by go_num, by omega, HTn, HSn.out.grew (Below.refl _ _).drew, HLn5.out.grew (Below.refl _ _).drew, HLn6.out.grew (Below.refl _ _).drew⟩
                case measure => simp [intOf]; omega
              | false =>
                have HTn : Hid (Tr (x6 u == (idk : Int)) (∃ i, i < u + 1 ∧ x6 i = (idk : Int))) := (tr_or htr.out Iff.rfl).congr (found_step _ _ _).symm
                have HSn : Hid (St w3 ((wr.setCell ⟨w3.heap.size + 1, t * 12 + k, none⟩ (.bool (x6 u == (idk : Int))))) (some ⟨fb, fo, none⟩) m K R A (put2 B t k (x6 u == (idk : Int)))) := by
                  have q := HS.out.setB (i := t) (k := k) (by omega) (x6 u == (idk : Int))
                  rw [put2_again] at q
                  exact q
                have HLn5 : Hid (Ls w3 (wr.setCell ⟨w3.heap.size + 1, t * 12 + k, none⟩ (.bool (x6 u == (idk : Int)))) r5 L5 x5) := HL5.out.set (by omega) _
                have HLn6 : Hid (Ls w3 (wr.setCell ⟨w3.heap.size + 1, t * 12 + k, none⟩ (.bool (x6 u == (idk : Int)))) (some ⟨lb, lo, none⟩) L6 x6) := HL6.out.set (by omega) _
                obtain ⟨y1, e1⟩ : ∃ y, wr.setCell ⟨w3.heap.size + 1, t * 12 + k, none⟩ (.bool (x6 u == (idk : Int))) = y := ⟨_, rfl⟩
                rw [e1] at HSn HLn5 HLn6
                clear htr HS HL5 HL6 hc
                generalize x6 u = xu at *
                go_wp2_with fail
                go_region
                go_wp2_with fail
                go_roundw
                case rel => exact ⟨u + 1, _, by go_num, by omega, HTn, HSn.out.grew (Below.refl _ _).drew, HLn5.out.grew (Below.refl _ _).drew, HLn6.out.grew (Below.refl _ _).drew⟩
                case measure => simp [intOf]; omega
            case neg =>
              have i4 : decide ((u : Int) < (L6 : Int)) = false := by simp; omega
              have hv2 : v = s6 k := tr_eq (htr.out.congr (by rw [show u = L6 by omega]; exact HF6.out)) (HT6.out.who k hkm)
              have HGn : Hid (Gr (put2 B t k v) (DnP K R m) m t (k + 1)) := HG.out.put (htr.out.congr (by rw [show u = L6 by omega]; exact HF6.out))
              have c1 : wr.cell? ⟨w3.heap.size, t * 12 + k, none⟩ = some (.bool (s5 k)) := by
                have q := HS.out.ga.cell (i := t) (k := k) (by omega) (by omega)
                rw [HVA.out] at q
                exact q
              have c2 : wr.cell? ⟨w3.heap.size + 1, t * 12 + k, none⟩ = some (.bool (s6 k)) := by
                have q := HS.out.gb.cell (i := t) (k := k) (by omega) (by omega)
                rw [put2_same, hv2] at q
                exact q
              clear htr hv2 HG
              cases e5 : s5 k with
              | false =>
                rw [e5] at c1
                cases e6 : s6 k with
                | false =>
                  rw [e6] at c2
                  have HNn : Hid (N = (picked s5 (k + 1)).length + (picked s6 (k + 1)).length) := by rw [picked_no e5, picked_no e6]; exact hNk
                  clear hNk e5 e6 HVA
                  go_wp2_with fail
                  go_roundw
                  case rel => exact ⟨N, k + 1, A, _, rfl, by go_num, by omega, by omega, HNn, HS, HA, HGn, HL5, HL6⟩
                  case measure => simp [intOf]; omega
                | true =>
                  rw [e6] at c2
                  have HNn : Hid (N + 1 = (picked s5 (k + 1)).length + (picked s6 (k + 1)).length) := by rw [picked_no e5, picked_yes e6, List.length_append, hNk.out]; rfl
                  clear hNk e5 e6 HVA
                  go_wp2_with fail
                  go_roundw
                  case rel => exact ⟨N + 1, k + 1, A, _, by go_num, by go_num, by omega, by omega, HNn, HS, HA, HGn, HL5, HL6⟩
                  case measure => simp [intOf]; omega
              | true =>
                rw [e5] at c1
                cases e6 : s6 k with
                | false =>
                  rw [e6] at c2
                  have HNn : Hid (N + 1 = (picked s5 (k + 1)).length + (picked s6 (k + 1)).length) := by show N + 1 = _; rw [picked_yes e5, picked_no e6, List.length_append, hNk.out, List.length_singleton]; omega
                  clear hNk e5 e6 HVA
                  go_wp2_with fail
                  go_roundw
                  case rel => exact ⟨N + 1, k + 1, A, _, by go_num, by go_num, by omega, by omega, HNn, HS, HA, HGn, HL5, HL6⟩
                  case measure => simp [intOf]; omega
                | true =>
                  rw [e6] at c2
                  have HNn : Hid (N + 1 + 1 = (picked s5 (k + 1)).length + (picked s6 (k + 1)).length) := by show N + 1 + 1 = _; rw [picked_yes e5, picked_yes e6, List.length_append, List.length_append, hNk.out]; show _ = _ + 1 + (_ + 1); omega
                  clear hNk e5 e6 HVA
                  go_wp2_with fail
                  go_roundw
                  case rel => exact ⟨N + 1 + 1, k + 1, A, _, by go_num, by go_num, by omega, by omega, HNn, HS, HA, HGn, HL5, HL6⟩
                  case measure => simp [intOf]; omega

set_option maxRecDepth 100000 in
theorem long (a : Option Addr) (n c : Nat) (w : World) (hn : ¬ n ≤ 120) :
    Calls Try.prog 4 #[.slice a n c] w fun e w' => e = .returned (.bool true) ∧ Below w.heap.size w w' := by
  have i1 : (120 : Int) < (n : Int) := by omega
  go_enter Try.func4, Try.ntmps4
  go_wp2_with fail
  refine (begun14 _).mono ?_
  rintro e w1 ⟨rfl, b1⟩
  have HB : Hid (Below w.heap.size w w1) := b1
  clear b1 hn
  go_wp2
  go_ret
  exact ⟨rfl, HB.out⟩

theorem walk (a : Option Addr) (n c : Nat) (x : Nat → Nat) (w : World) (h : BytesAt w a n x ∧ n ≤ c ∧ c ≤ maxLen) :
    Calls Try.prog 4 #[.slice a n c] w fun e w' => e = .returned (.bool true) ∧ Below w.heap.size w w' := by
  by_cases hn : n ≤ 120
  · exact core a n c x w h.1 hn
  · exact long a n c w hn

set_option maxRecDepth 100000 in
theorem lifted (os : Os) (started : os.Started) (H : Type) (enc : TypeId × Value → H) :
    ReturnsInHanded {} Try.checked os 4 .any (Rows.treeBothSpec.pre6 enc Try.prog Try.f4 Rows.treeBothRow.domain false) (Rows.treeBothSpec.post enc Try.prog Try.f4 false true false false) := by
  refine returnsInHanded_of_change (C := Try.checked) own started (by kernel_rfl) Try.func4
    (ChangeSpec.witness6 (enc := enc) (C := Try.checked) false ⟨#[], #[.slice none 0 0], []⟩ 8 (by kernel_rfl) (by kernel_rfl) (by kernel_rfl) (by kernel_rfl)) ?_
  intro W base args ds gs before hval0 hW hcnd _
  have hval : ∀ (j : Nat) t v, Try.f4.params[j]? = some t → args[j]? = some v → Value.okWide Try.prog W .any base t v := hval0
  have hW' := hW
  obtain ⟨p, q, hA0, hV, rfl, hfz, hnd⟩ := hW
  have hA : DataW.TrodAll enc Try.prog W 0 (fun _ => true) true Try.f4.params.toList args.toList ds p := hA0
  rw [Try.params4] at hA hval
  obtain ⟨v0, vs0, d0, ds0, p0, q0, hargs, rfl, rfl, h0, r0⟩ := trodAll_cons hA
  obtain ⟨rfl, rfl, rfl⟩ := trodAll_nil r0
  obtain rfl : args = #[v0] := by cases args; simp_all
  obtain ⟨rfl, rfl⟩ := trodVars_none hV
  obtain ⟨a0, len0, cap0, rfl⟩ := okWide_slice Try.underlying22 (hval 0 22 v0 rfl rfl)
  have k0 := h0
  have lt0 : ∀ x ∈ p0, x.block < W.heap.size := by obtain ⟨m, hm⟩ := k0; exact DataW.trod_lt m _ _ _ hm
  obtain ⟨x0, w0⟩ : ∃ x, BytesAt W a0 len0 x ∧ len0 ≤ cap0 ∧ cap0 ≤ maxLen := open_bytes Try.underlying22 Try.underlying5 (by kernel_rfl) h0
  clear hA0 hval0
  refine (walk a0 len0 cap0 x0 W w0).mono fun e W' ⟨he, bel⟩ => ?_
  subst he
  exact ⟨_, rfl, _, _, _, [], _, [], hW', trodAll_mk1 (shut_bool Try.underlying4 _), (trodAll_cons_mk (Below.trod laidOut (by kernel_rfl) (of_decide_eq_true (by kernel_rfl)) k0 bel lt0) trodAll_mk0), rfl, bel.frame _, fun h => by cases h⟩

theorem over : Rows.treeBothRow.holds Try.pinned (OpenSpec.ofChange Rows.treeBothSpec) :=
  OpenClaim.holds_of_wide 4 Try.f4 rfl rfl rfl rfl rfl rfl rfl ⟨rfl, rfl, rfl, rfl, rfl⟩ rfl rfl rfl rfl rfl (by kernel_rfl) Try.func4 (by kernel_rfl)
    (of_decide_eq_true (by kernel_rfl)) (by unfold Func.isWrapper; first | (rw [if_pos (by decide +kernel)]; kernel_rfl) | (rw [if_neg (by decide +kernel)]; exact ⟨rfl, rfl⟩))
    (fun os started H enc _ => lifted os started H enc)

theorem proved : Rows.TreeBothSaid := over
end Go.Proofs.Ytclbcggbnbimaaa.treeBoth
namespace Go.Proofs.Ytclbcggbnbimaaa
theorem treeBoth_holds : Rows.TreeBothSaid := treeBoth.proved
#print axioms treeBoth_holds
end Go.Proofs.Ytclbcggbnbimaaa
