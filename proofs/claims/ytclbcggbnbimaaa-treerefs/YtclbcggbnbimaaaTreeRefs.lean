/-
  Who is above one is one of its refs, or above one of them, and nobody else: the call returns true, whatever the numbers are (120 numbers at most are looked at; no condition).
-/
import Derived.Test.YtclbcggbnbimaaaRows
import Derived.WalkKit
import Derived.ProofKit
import Derived.OpenShut
import Derived.ShutString
import Derived.ChangeOld
import Derived.Below
import Derived.Carry
import Derived.Test.YtclbcggbnbimaaaOpn
import Derived.Test.YtclbcggbnbimaaaTpk
namespace Go.Proofs.Ytclbcggbnbimaaa.treeRefs
open Go.ChangeShapes Go.WideShapes Go.ChangeAt Go.RowKit
open Go.ChangeMaps (open_string shut_string)
set_option linter.unusedVariables false

theorem own : ownKnob Try.prog.godebug = none := by kernel_rfl
theorem laidOut : laidOutB Try.prog = true := by kernel_rfl

open Go.Deep

set_option maxRecDepth 100000 in
set_option maxHeartbeats 1000000 in
theorem core (a : Option Addr) (n c : Nat) (x : Nat → Nat) (w : World) (h : BytesAt w a n x) (hn : n ≤ 120) :
    Calls Try.prog 5 #[.slice a n c] w fun e w' => e = .returned (.bool true) ∧ Below w.heap.size w w' := by
  have i1 : decide ((120 : Int) < (n : Int)) = false := by simp; omega
  go_enter Try.func5, Try.ntmps5
  go_wp2_with fail
  refine (begun14 _).mono ?_
  rintro e w1 ⟨rfl, b1⟩
  have h1 := h.grew b1
  go_wp2_with fail
  refine (made_any a n c x w1 h1 (by omega)).mono ?_
  rintro e w2 ⟨rfl, b2, s2, pk⟩
  have HB2 : Hid (Below w.heap.size w w2) := b1.trans (b2.mono b1.size)
  have lw : w.heap.size ≤ w1.heap.size := b1.size
  generalize w1.heap.size = P at *
  clear h h1 b1 b2 i1
  go_wp2_with fail
  refine (frames_any (P + 1) P 0 12 w2 pk (by omega) (by decide)).mono ?_
  rintro e w3 ⟨c3, v, m, K, R, rfl, hF, hm, hI, hG, hH⟩
  have HB3 : Hid (Below w.heap.size w w3) := HB2.out.trans (c3.kept.below lw (by omega))
  obtain ⟨r, cap, rfl, hfr, -⟩ := hF.any
  have HK : Hid (Knw w r m K R w3) := ⟨crowd_of hfr hI hG hH (by omega), HB3.out⟩
  have HR : Hid (Rise K m) := inc_rise hI
  have HH : Hid (Hung K R m) := hH
  clear hF hfr hI hG hH c3 pk s2 lw HB2 HB3
  go_wp2_with fail
  go_loopw [4] (fun i wr => ∃ t : Nat, i = .int .i64 t ∧ t ≤ m ∧ Hid (Knw w r m K R wr)) (fun i _ => m - (intOf i).toNat)
  case atStart => exact ⟨0, rfl, Nat.zero_le _, HK⟩
  case round =>
    clear HK
    obtain ⟨t, rfl, ht, HK⟩ := hrel
    by_cases htm : t < m
    case neg =>
      have i1 : decide ((t : Int) < (m : Int)) = false := by simp; omega
      go_wp2
      go_ret
      exact ⟨rfl, HK.out.bel⟩
    have i1 : (t : Int) < (m : Int) := by omega
    have hC := HK.out.cr
    obtain ⟨fb, fo, rfl⟩ := hC.frs.addr (by omega)
    obtain ⟨q0, q1, q2, q3, q4, q5⟩ := hC.frs.at t htm
    have C1 : Hid (Calls Try.prog 10 #[.slice (some ⟨fb, fo, none⟩) m cap, .int .u32 ((K t).id : Int)] wr (ToldIs wr m K (Behind (Edge K R m) K m (K t).id))) := above_any _ m cap K R _ wr (by omega) (hC.ids t htm) hC
    have hn4 : (K t).n ≤ 1000 := hC.len t htm
    clear q1 q2 q3 q4 q5 hC
    go_wp2_with fail
    refine C1.out.mono ?_
    rintro e w4 ⟨b4, v4, s4, rfl, hs4, x4, hu4, hx4⟩
    obtain ⟨r4, c4, rfl, -, -, hn4'⟩ := hu4.any
    have HS : Hid (∀ q, q < m → (s4 q = true ↔ Up (Edge K R m) t q)) := fun q hq => (hs4 q hq).trans (behind_up HR.out HH.out htm q)
    obtain ⟨L, hL⟩ : ∃ L, L = (picked s4 m).length := ⟨_, rfl⟩
    rw [← hL] at hn4' hx4
    have HL : Hid (L = (picked s4 m).length) := hL
    have hL15 : L ≤ 12 := by rw [hL]; exact Nat.le_trans (picked_le _ _) hm
    have HX : Hid (∀ j, j < L → x4 j = ((K ((picked s4 m).getD j 0)).id : Int)) := hx4
    have HN : Hid (NumsAt .u32 w4 r4 L x4) := hn4'
    have HK4 : Hid (Knw w (some ⟨fb, fo, none⟩) m K R w4) := HK.out.grew b4
    clear C1 b4 hs4 hu4 hx4 hn4' q0 HK
    rw [← hL]
    clear hL
    go_wp2_with fail
    generalize wr = wo at *
    go_loopw [6, 7] (fun nn kk wr => ∃ (N k : Nat), nn = .int .i64 N ∧ kk = .int .i64 k ∧ k ≤ t ∧ N ≤ 12 ∧ Hid (N = (picked s4 k).length) ∧ Hid (Knw w (some ⟨fb, fo, none⟩) m K R wr) ∧ Hid (NumsAt .u32 wr r4 L x4)) (fun _ kk _ => t - (intOf kk).toNat)
    case atStart => exact ⟨0, 0, rfl, rfl, Nat.zero_le _, Nat.zero_le _, rfl, HK4, HN⟩
    case round =>
      clear HK4 HN
      obtain ⟨N, k, rfl, rfl, hk, hN12, hNk, HK, HN⟩ := hrel
      by_cases hkt : k < t
      case neg =>
        have i2 : decide ((k : Int) < (t : Int)) = false := by simp; omega
        have hNL : N = L := by
          have e1 := HL.out
          have e2 := hNk.out
          have : k = t := by omega
          rw [this] at e2
          obtain ⟨d, rfl⟩ : ∃ d, m = t + d := ⟨m - t, by omega⟩
          rw [picked_stop d (fun q h1 h2 => by
            cases e : s4 q with
            | false => rfl
            | true =>
              have := ((HS.out q (by omega)).1 e).falls (edge_falls HR.out HH.out)
              omega)] at e1
          omega
        have i3 : ((N : Int) != (L : Int)) = false := by simp; omega
        clear hNk hNL
        go_wp2_with fail
        go_roundw
        case rel => exact ⟨t + 1, by go_num, by omega, HK⟩
        case measure => simp [intOf]; omega
      have i2 : (k : Int) < (t : Int) := by omega
      go_wp2_with fail
      generalize wr = wp at *
      go_loopw [8, 9] (fun wn mm wr => ∃ (b : Bool) (j : Nat), wn = .bool b ∧ mm = .int .i64 j ∧ j ≤ (K t).n ∧ Hid (Tr b (∃ i, i < j ∧ Hit K R m t k i)) ∧ Hid (Knw w (some ⟨fb, fo, none⟩) m K R wr) ∧ Hid (NumsAt .u32 wr r4 L x4)) (fun _ mm _ => (K t).n - (intOf mm).toNat)
      case atStart => exact ⟨false, 0, rfl, rfl, Nat.zero_le _, Tr.no (fun ⟨i, h, _⟩ => absurd h (Nat.not_lt_zero i)), HK, HN⟩
      case round =>
        clear HK HN
        obtain ⟨b, j, rfl, rfl, hj, htr, HK, HN⟩ := hrel
        have hC := HK.out.cr
        obtain ⟨q0, q1, q2, q3, q4, q5⟩ := hC.frs.at t htm
        clear q0 q1 q3 q4 q5
        by_cases hjn : j < (K t).n
        case neg =>
          have i3 : decide ((j : Int) < ((K t).n : Int)) = false := by simp; omega
          have HW : Hid (Tr b (Up (Edge K R m) t k)) := htr.out.congr (by rw [show j = (K t).n by omega]; exact hit_up htm)
          clear htr
          cases b with
          | false =>
            have es : s4 k = false := by
              cases e : s4 k with
              | false => rfl
              | true => exact absurd (HW.out.2 ((HS.out k (by omega)).1 e)) Bool.false_ne_true
            have HNk : Hid (N = (picked s4 (k + 1)).length) := by rw [picked_no es]; exact hNk
            clear hNk HW hC es
            go_wp2_with fail
            go_roundw
            case rel => exact ⟨N, k + 1, rfl, by go_num, by omega, hN12, HNk, HK, HN⟩
            case measure => simp [intOf]; omega
          | true =>
            have es : s4 k = true := (HS.out k (by omega)).2 (HW.out.1 rfl)
            have HNk : Hid (N + 1 = (picked s4 (k + 1)).length) := by
              show N + 1 = _
              rw [picked_yes es, hNk.out]
              simp
            obtain ⟨d, hd⟩ : ∃ d, m = k + 1 + d := ⟨m - (k + 1), by omega⟩
            obtain ⟨n1, n2⟩ := picked_next es d
            rw [← hd, ← hNk.out] at n1 n2
            rw [← HL.out] at n1
            have x1 := HX.out N n1
            rw [n2] at x1
            obtain ⟨b4, o4, rfl, hc4⟩ := HN.out (by omega)
            have c4' := hc4 N n1
            rw [x1] at c4'
            obtain ⟨p0, p1, p2, p3, p4, p5⟩ := hC.frs.at k (by omega)
            have i4 : decide ((L : Int) ≤ (N : Int)) = false := by simp; omega
            have i4n : decide (L ≤ N) = false := by simp; omega
            have i5 : (N : Int) < (L : Int) := by omega
            have i6 : (((K k).id : Int) != ((K k).id : Int)) = false := by simp
            have i7 : (k : Int) < (m : Int) := by omega
            have hN11 : N + 1 ≤ 12 := by omega
            have HKd : Hid (∀ n, Knw w (some ⟨fb, fo, none⟩) m K R (wr.drewN n)) := fun n => HK.out.grew (below_drews n)
            have HNd : Hid (∀ n, NumsAt .u32 (wr.drewN n) (some ⟨b4, o4, none⟩) L x4) := fun n => HN.out.grew (below_drews n)
            clear hNk HW hC es n1 n2 x1 hd hc4 p1 p2 p3 p4 p5 HK HN
            generalize (K k).id = idk at *
            go_wp2_with fail
            go_quiet (fail)
            go_wp2_with fail
            go_roundw
            case rel => exact ⟨N + 1, k + 1, by go_num, by go_num, by omega, hN11, HNk, HKd.out _, HNd.out _⟩
            case measure => simp [intOf]; omega
        have i3 : (j : Int) < ((K t).n : Int) := by omega
        obtain ⟨rb, ro, er, hcr⟩ := (hC.refs t htm) (by omega)
        have c5 := hcr j hjn
        obtain ⟨p, hp, ep⟩ := HH.out t htm j hjn
        rw [ep] at c5
        rw [er] at q2
        have C2 : Hid (Calls Try.prog 10 #[.slice (some ⟨fb, fo, none⟩) m cap, .int .u32 ((K p).id : Int)] wr (ToldIs wr m K (Behind (Edge K R m) K m (K p).id))) := above_any _ m cap K R _ wr (by omega) (hC.ids p (by omega)) hC
        have HEP : Hid (R t j = ((K p).id : Int)) := ep
        clear hcr hC ep er
        go_wp2_with fail
        refine C2.out.mono ?_
        rintro e w6 ⟨b6, v6, s6, rfl, hs6, x6, hu6, hx6⟩
        obtain ⟨r6, c6, rfl, -, -, hn6⟩ := hu6.any
        have HIN : Hid ((∃ jj, jj < (picked s6 m).length ∧ x6 jj = ((K k).id : Int)) ↔ Up (Edge K R m) p k) :=
          (told_has hs6 hx6).trans ⟨fun ⟨q, h1, h2, h3⟩ => by
            have : q = k := HR.out.eq h1 (by omega) h2
            rw [this] at h3
            exact (behind_up HR.out HH.out (by omega) k).1 h3, fun h => ⟨k, by omega, rfl, (behind_up HR.out HH.out (by omega) k).2 h⟩⟩
        have hL6 : (picked s6 m).length ≤ 12 := Nat.le_trans (picked_le _ _) hm
        have HK6 : Hid (Knw w (some ⟨fb, fo, none⟩) m K R w6) := HK.out.grew b6
        have HN6 : Hid (NumsAt .u32 w6 r4 L x4) := HN.out.grew b6
        have HU6 : Hid (NumsAt .u32 w6 r6 (picked s6 m).length x6) := hn6
        have HHIT : Hid (Hit K R m t k j ↔ (p = k ∨ Up (Edge K R m) p k)) := hit_at HR.out (by omega) HEP.out
        have HEK : Hid ((((K p).id : Int) = ((K k).id : Int)) ↔ p = k) := ⟨fun e => HR.out.eq (by omega) (by omega) (by omega), fun e => by rw [e]⟩
        have hC6 := HK6.out.cr
        obtain ⟨p0, p1, p2, p3, p4, p5⟩ := hC6.frs.at k (by omega)
        have i7 : (k : Int) < (m : Int) := by omega
        clear C2 b6 hs6 hu6 hx6 hn6 HK HN c5 q2 hC6 p1 p2 p3 p4 p5
        generalize (picked s6 m).length = L6 at *
        cases b with
        | true =>
          have HT2 : Hid (Tr true (((∃ i, i < j ∧ Hit K R m t k i) ∨ p = k) ∨ ∃ i, i < 0 ∧ x6 i = ((K k).id : Int))) := Tr.yes (.inl (.inl (htr.out.1 rfl)))
          clear htr
          generalize hidk : (K k).id = idk at *
          generalize hidp : (K p).id = idp at *
          go_wp2_with fail
          generalize wr = wq at *
          go_loopw [8, 12] (fun wn jj wr => ∃ (b' : Bool) (u : Nat), wn = .bool b' ∧ jj = .int .i64 u ∧ u ≤ L6 ∧ Hid (Tr b' (((∃ i, i < j ∧ Hit K R m t k i) ∨ p = k) ∨ ∃ i, i < u ∧ x6 i = (idk : Int))) ∧ Hid (Below w6.heap.size w6 wr)) (fun _ jj _ => L6 - (intOf jj).toNat)
          case atStart => exact ⟨_, 0, rfl, rfl, Nat.zero_le _, HT2, Below.refl _ _⟩
          case round =>
            clear HT2
            obtain ⟨b', u, rfl, rfl, hu, htr, hb⟩ := hrel
            by_cases hul : u < L6
            case neg =>
              have i8 : decide ((u : Int) < (L6 : Int)) = false := by simp; omega
              have HT3 : Hid (Tr b' (∃ i, i < j + 1 ∧ Hit K R m t k i)) := by
                refine htr.out.congr ?_
                rw [show u = L6 by omega, HIN.out]
                constructor
                · rintro ((⟨i, h1, h2⟩ | h) | h)
                  · exact ⟨i, by omega, h2⟩
                  · exact ⟨j, by omega, HHIT.out.2 (.inl h)⟩
                  · exact ⟨j, by omega, HHIT.out.2 (.inr h)⟩
                · rintro ⟨i, h1, h2⟩
                  by_cases e : i = j
                  · rw [e] at h2
                    rcases HHIT.out.1 h2 with h | h
                    · exact .inl (.inr h)
                    · exact .inr h
                  · exact .inl (.inl ⟨i, by omega, h2⟩)
              have HK7 : Hid (Knw w (some ⟨fb, fo, none⟩) m K R wr) := HK6.out.grew hb.out
              have HN7 : Hid (NumsAt .u32 wr r4 L x4) := HN6.out.grew hb.out
              clear htr hb
              go_wp2_with fail
              go_roundw
              case rel => exact ⟨b', j + 1, rfl, by go_num, by omega, HT3, HK7, HN7⟩
              case measure => simp [intOf]; omega
            have i8 : (u : Int) < (L6 : Int) := by omega
            obtain ⟨b6, o6, rfl, hc6⟩ := HU6.out (by omega)
            have c7 : wr.cell? ⟨b6, o6 + u, none⟩ = some (.int .u32 (x6 u)) := (hb.out.cell (p := ⟨b6, o6 + u, none⟩) (cell_lt (hc6 u hul))).trans (hc6 u hul)
            have p0' := (hb.out.cell (p := ⟨fb, fo + k * 6, none⟩) (cell_lt p0)).trans p0
            have HBd : Hid (∀ n, Below w6.heap.size w6 (wr.drewN n)) := fun n => hb.out.trans (below_drews n)
            have HTT : Hid (Tr true (((∃ i, i < j ∧ Hit K R m t k i) ∨ p = k) ∨ ∃ i, i < u ∧ x6 i = (idk : Int)) → Tr true (((∃ i, i < j ∧ Hit K R m t k i) ∨ p = k) ∨ ∃ i, i < u + 1 ∧ x6 i = (idk : Int))) := fun h => Tr.yes (by
              rcases h.1 rfl with h | ⟨i, h1, h2⟩
              · exact .inl h
              · exact .inr ⟨i, by omega, h2⟩)
            have HTF : Hid (Tr false (((∃ i, i < j ∧ Hit K R m t k i) ∨ p = k) ∨ ∃ i, i < u ∧ x6 i = (idk : Int)) → Tr (x6 u == (idk : Int)) (((∃ i, i < j ∧ Hit K R m t k i) ∨ p = k) ∨ ∃ i, i < u + 1 ∧ x6 i = (idk : Int))) := fun h => Tr.dec ⟨fun e => .inr ⟨u, Nat.lt_succ_self _, e⟩, fun g => by
              rcases g with g | ⟨i, h1, h2⟩
              · exact absurd (h.2 (.inl g)) Bool.false_ne_true
              · by_cases e : i = u
                · rw [← e]; exact h2
                · exact absurd (h.2 (.inr ⟨i, by omega, h2⟩)) Bool.false_ne_true⟩
            clear hc6 hb
            cases b' with
            | true =>
              have HT3 := HTT.out htr.out
              have HT4 : Hid (Tr true (((∃ i, i < j ∧ Hit K R m t k i) ∨ p = k) ∨ ∃ i, i < u + 1 ∧ x6 i = (idk : Int))) := HT3
              clear HT3 HTT HTF htr
              generalize x6 u = xu at *
              go_wp2_with fail
              go_quiet (fail)
              go_wp2_with fail
              go_roundw
              case rel => exact ⟨true, u + 1, rfl, by go_num, by omega, HT4, HBd.out _⟩
              case measure => simp [intOf]; omega
            | false =>
              have HT4 : Hid (Tr (x6 u == (idk : Int)) (((∃ i, i < j ∧ Hit K R m t k i) ∨ p = k) ∨ ∃ i, i < u + 1 ∧ x6 i = (idk : Int))) := HTF.out htr.out
              clear HTT HTF htr
              generalize x6 u = xu at *
              go_wp2_with fail
              go_quiet (fail)
              go_wp2_with fail
              go_roundw
              case rel => exact ⟨_, u + 1, rfl, by go_num, by omega, HT4, HBd.out _⟩
              case measure => simp [intOf]; omega
        | false =>
          have HT2 : Hid (Tr (((K p).id : Int) == ((K k).id : Int)) (((∃ i, i < j ∧ Hit K R m t k i) ∨ p = k) ∨ ∃ i, i < 0 ∧ x6 i = ((K k).id : Int))) := Tr.dec (HEK.out.trans ⟨fun e => .inl (.inr e), fun g => g.elim (fun g => g.elim (fun g => absurd (htr.out.2 g) Bool.false_ne_true) id) (fun ⟨i, h, _⟩ => absurd h (Nat.not_lt_zero i))⟩)
          clear htr
          generalize hidk : (K k).id = idk at *
          generalize hidp : (K p).id = idp at *
          go_wp2_with fail
          generalize wr = wq at *
          go_loopw [8, 12] (fun wn jj wr => ∃ (b' : Bool) (u : Nat), wn = .bool b' ∧ jj = .int .i64 u ∧ u ≤ L6 ∧ Hid (Tr b' (((∃ i, i < j ∧ Hit K R m t k i) ∨ p = k) ∨ ∃ i, i < u ∧ x6 i = (idk : Int))) ∧ Hid (Below w6.heap.size w6 wr)) (fun _ jj _ => L6 - (intOf jj).toNat)
          case atStart => exact ⟨_, 0, rfl, rfl, Nat.zero_le _, HT2, Below.refl _ _⟩
          case round =>
            clear HT2
            obtain ⟨b', u, rfl, rfl, hu, htr, hb⟩ := hrel
            by_cases hul : u < L6
            case neg =>
              have i8 : decide ((u : Int) < (L6 : Int)) = false := by simp; omega
              have HT3 : Hid (Tr b' (∃ i, i < j + 1 ∧ Hit K R m t k i)) := by
                refine htr.out.congr ?_
                rw [show u = L6 by omega, HIN.out]
                constructor
                · rintro ((⟨i, h1, h2⟩ | h) | h)
                  · exact ⟨i, by omega, h2⟩
                  · exact ⟨j, by omega, HHIT.out.2 (.inl h)⟩
                  · exact ⟨j, by omega, HHIT.out.2 (.inr h)⟩
                · rintro ⟨i, h1, h2⟩
                  by_cases e : i = j
                  · rw [e] at h2
                    rcases HHIT.out.1 h2 with h | h
                    · exact .inl (.inr h)
                    · exact .inr h
                  · exact .inl (.inl ⟨i, by omega, h2⟩)
              have HK7 : Hid (Knw w (some ⟨fb, fo, none⟩) m K R wr) := HK6.out.grew hb.out
              have HN7 : Hid (NumsAt .u32 wr r4 L x4) := HN6.out.grew hb.out
              clear htr hb
              go_wp2_with fail
              go_roundw
              case rel => exact ⟨b', j + 1, rfl, by go_num, by omega, HT3, HK7, HN7⟩
              case measure => simp [intOf]; omega
            have i8 : (u : Int) < (L6 : Int) := by omega
            obtain ⟨b6, o6, rfl, hc6⟩ := HU6.out (by omega)
            have c7 : wr.cell? ⟨b6, o6 + u, none⟩ = some (.int .u32 (x6 u)) := (hb.out.cell (p := ⟨b6, o6 + u, none⟩) (cell_lt (hc6 u hul))).trans (hc6 u hul)
            have p0' := (hb.out.cell (p := ⟨fb, fo + k * 6, none⟩) (cell_lt p0)).trans p0
            have HBd : Hid (∀ n, Below w6.heap.size w6 (wr.drewN n)) := fun n => hb.out.trans (below_drews n)
            have HTT : Hid (Tr true (((∃ i, i < j ∧ Hit K R m t k i) ∨ p = k) ∨ ∃ i, i < u ∧ x6 i = (idk : Int)) → Tr true (((∃ i, i < j ∧ Hit K R m t k i) ∨ p = k) ∨ ∃ i, i < u + 1 ∧ x6 i = (idk : Int))) := fun h => Tr.yes (by
              rcases h.1 rfl with h | ⟨i, h1, h2⟩
              · exact .inl h
              · exact .inr ⟨i, by omega, h2⟩)
            have HTF : Hid (Tr false (((∃ i, i < j ∧ Hit K R m t k i) ∨ p = k) ∨ ∃ i, i < u ∧ x6 i = (idk : Int)) → Tr (x6 u == (idk : Int)) (((∃ i, i < j ∧ Hit K R m t k i) ∨ p = k) ∨ ∃ i, i < u + 1 ∧ x6 i = (idk : Int))) := fun h => Tr.dec ⟨fun e => .inr ⟨u, Nat.lt_succ_self _, e⟩, fun g => by
              rcases g with g | ⟨i, h1, h2⟩
              · exact absurd (h.2 (.inl g)) Bool.false_ne_true
              · by_cases e : i = u
                · rw [← e]; exact h2
                · exact absurd (h.2 (.inr ⟨i, by omega, h2⟩)) Bool.false_ne_true⟩
            clear hc6 hb
            cases b' with
            | true =>
              have HT3 := HTT.out htr.out
              have HT4 : Hid (Tr true (((∃ i, i < j ∧ Hit K R m t k i) ∨ p = k) ∨ ∃ i, i < u + 1 ∧ x6 i = (idk : Int))) := HT3
              clear HT3 HTT HTF htr
              generalize x6 u = xu at *
              go_wp2_with fail
              go_quiet (fail)
              go_wp2_with fail
              go_roundw
              case rel => exact ⟨true, u + 1, rfl, by go_num, by omega, HT4, HBd.out _⟩
              case measure => simp [intOf]; omega
            | false =>
              have HT4 : Hid (Tr (x6 u == (idk : Int)) (((∃ i, i < j ∧ Hit K R m t k i) ∨ p = k) ∨ ∃ i, i < u + 1 ∧ x6 i = (idk : Int))) := HTF.out htr.out
              clear HTT HTF htr
              generalize x6 u = xu at *
              go_wp2_with fail
              go_quiet (fail)
              go_wp2_with fail
              go_roundw
              case rel => exact ⟨_, u + 1, rfl, by go_num, by omega, HT4, HBd.out _⟩
              case measure => simp [intOf]; omega

set_option maxRecDepth 100000 in
theorem long (a : Option Addr) (n c : Nat) (w : World) (hn : ¬ n ≤ 120) :
    Calls Try.prog 5 #[.slice a n c] w fun e w' => e = .returned (.bool true) ∧ Below w.heap.size w w' := by
  have i1 : (120 : Int) < (n : Int) := by omega
  go_enter Try.func5, Try.ntmps5
  go_wp2_with fail
  refine (begun14 _).mono ?_
  rintro e w1 ⟨rfl, b1⟩
  have HB : Hid (Below w.heap.size w w1) := b1
  clear b1 hn
  go_wp2
  go_ret
  exact ⟨rfl, HB.out⟩

theorem walk (a : Option Addr) (n c : Nat) (x : Nat → Nat) (w : World) (h : BytesAt w a n x ∧ n ≤ c ∧ c ≤ maxLen) :
    Calls Try.prog 5 #[.slice a n c] w fun e w' => e = .returned (.bool true) ∧ Below w.heap.size w w' := by
  by_cases hn : n ≤ 120
  · exact core a n c x w h.1 hn
  · exact long a n c w hn

set_option maxRecDepth 100000 in
theorem lifted (os : Os) (started : os.Started) (H : Type) (enc : TypeId × Value → H) :
    ReturnsInHanded {} Try.checked os 5 .any (Rows.treeRefsSpec.pre6 enc Try.prog Try.f5 Rows.treeRefsRow.domain false) (Rows.treeRefsSpec.post enc Try.prog Try.f5 false true false false) := by
  refine returnsInHanded_of_change (C := Try.checked) own started (by kernel_rfl) Try.func5
    (ChangeSpec.witness6 (enc := enc) (C := Try.checked) false ⟨#[], #[.slice none 0 0], []⟩ 8 (by kernel_rfl) (by kernel_rfl) (by kernel_rfl) (by kernel_rfl)) ?_
  intro W base args ds gs before hval0 hW hcnd _
  have hval : ∀ (j : Nat) t v, Try.f5.params[j]? = some t → args[j]? = some v → Value.okWide Try.prog W .any base t v := hval0
  have hW' := hW
  obtain ⟨p, q, hA0, hV, rfl, hfz, hnd⟩ := hW
  have hA : DataW.TrodAll enc Try.prog W 0 (fun _ => true) true Try.f5.params.toList args.toList ds p := hA0
  rw [Try.params5] at hA hval
  obtain ⟨v0, vs0, d0, ds0, p0, q0, hargs, rfl, rfl, h0, r0⟩ := trodAll_cons hA
  obtain ⟨rfl, rfl, rfl⟩ := trodAll_nil r0
  obtain rfl : args = #[v0] := by cases args; simp_all
  obtain ⟨rfl, rfl⟩ := trodVars_none hV
  obtain ⟨a0, len0, cap0, rfl⟩ := okWide_slice Try.underlying22 (hval 0 22 v0 rfl rfl)
  have k0 := h0
  have lt0 : ∀ x ∈ p0, x.block < W.heap.size := by obtain ⟨m, hm⟩ := k0; exact DataW.trod_lt m _ _ _ hm
  obtain ⟨x0, w0⟩ : ∃ x, BytesAt W a0 len0 x ∧ len0 ≤ cap0 ∧ cap0 ≤ maxLen := open_bytes Try.underlying22 Try.underlying5 (by kernel_rfl) h0
  clear hA0 hval0
  refine (walk a0 len0 cap0 x0 W w0).mono fun e W' ⟨he, bel⟩ => ?_
  subst he
  exact ⟨_, rfl, _, _, _, [], _, [], hW', trodAll_mk1 (shut_bool Try.underlying4 _), (trodAll_cons_mk (Below.trod laidOut (by kernel_rfl) (of_decide_eq_true (by kernel_rfl)) k0 bel lt0) trodAll_mk0), rfl, bel.frame _, fun h => by cases h⟩

theorem over : Rows.treeRefsRow.holds Try.pinned (OpenSpec.ofChange Rows.treeRefsSpec) :=
  OpenClaim.holds_of_wide 5 Try.f5 rfl rfl rfl rfl rfl rfl rfl ⟨rfl, rfl, rfl, rfl, rfl⟩ rfl rfl rfl rfl rfl (by kernel_rfl) Try.func5 (by kernel_rfl)
    (of_decide_eq_true (by kernel_rfl)) (by unfold Func.isWrapper; first | (rw [if_pos (by decide +kernel)]; kernel_rfl) | (rw [if_neg (by decide +kernel)]; exact ⟨rfl, rfl⟩))
    (fun os started H enc _ => lifted os started H enc)

theorem proved : Rows.TreeRefsSaid := over
end Go.Proofs.Ytclbcggbnbimaaa.treeRefs
namespace Go.Proofs.Ytclbcggbnbimaaa
theorem treeRefs_holds : Rows.TreeRefsSaid := treeRefs.proved
#print axioms treeRefs_holds
end Go.Proofs.Ytclbcggbnbimaaa
