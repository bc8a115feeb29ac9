/-
  Among frames out of numbers who is hung on is never free, and everybody else has the rank of its Kind: the call returns true, whatever the numbers are (80 numbers at most are looked at; no condition).
-/
import Derived.Test.YtmbpfdnadjemcaaRows
import Derived.WalkKit
import Derived.ProofKit
import Derived.OpenShut
import Derived.ShutString
import Derived.ChangeOld
import Derived.Below
import Derived.Carry
import Derived.Test.YtmbpfdnadjemcaaOpn
import Derived.Test.YtmbpfdnadjemcaaRbg
import Derived.Test.YtmbpfdnadjemcaaFfr
import Derived.Deep.RegionHeld
namespace Go.Proofs.Ytmbpfdnadjemcaa.rankMade
open Go.ChangeShapes Go.WideShapes Go.ChangeAt Go.RowKit
open Go.ChangeMaps (open_string shut_string)
set_option linter.unusedVariables false

theorem own : ownKnob Try.prog.godebug = none := by kernel_rfl
theorem laidOut : laidOutB Try.prog = true := by kernel_rfl

open Go.Deep

set_option maxRecDepth 100000 in
theorem frs_to (a : Option Addr) (len cap n : Nat) (w : World) (h : n ≤ cap) : (Instr.slice 30 (.slice a len cap) none (some (.int .i64 (n : Int))) none).run Try.prog w = .ok (.slice a n cap) w := by
  have hz : ∀ x : Addr, x.add 0 = x := fun _ => rfl
  have e := run_slice_h (P := Try.prog) w 30 a len cap Try.underlying30 .i64 (n : Int) (by omega) (by omega)
  rw [e]
  simp [sliced, hz]
  have hs : (sizeOf (Try.prog.elem 30)).run Try.prog w = .ok 6 w := by kernel_rfl
  rw [hs]
  rfl
theorem room_of {w : World} {base : Nat} {v : Value} {m : Nat} {K : Nat → Fr} (h : Ffo w base v m K) : ∃ r cap, v = .slice r m cap ∧ FrsAt w r m K ∧ m ≤ cap := by
  obtain ⟨r, cap, rfl, hf, -⟩ := h.any
  have h' : w.ownsRow base 26 6 (.slice r m cap) m (fcells K m) := h
  rcases h'.2 with ⟨e, e2⟩ | ⟨g, c', cur, e, -, -, hle, -⟩
  · exact ⟨_, _, rfl, hf, by omega⟩
  · cases e; exact ⟨_, _, rfl, hf, hle⟩
theorem inc_lt {K : Nat → Fr} {m : Nat} (h : Inc K m) {q j : Nat} (hq : q < j) (hj : j < m) : (K q).id < (K j).id := by
  have h1 := h.2 q (by omega)
  have h2 := h.le (j - (q + 1)) (q + 1) (by omega)
  rw [show q + 1 + (j - (q + 1)) = j by omega] at h2
  omega
/-- What a known one's rank is. -/
theorem rk_of {K : Nat → Fr} {R : Nat → Nat → Int} {m t u : Nat} (h : Inc K m) (ht : t ≤ m) (hu : u < t) (hk : KindOk (K u).k) :
    rk t K R ((K u).id : Int) = (if (K u).k = 3 then (if hangs t K R ((K u).id : Int) = true then 2 else 3) else (K u).k - 1, true) := by
  unfold rk
  rw [rkFst_some hu rfl (fun q hq e => by have := inc_lt h hq (by omega); omega)]
  obtain ⟨k1, k2⟩ := hk
  have : (K u).k = 1 ∨ (K u).k = 2 ∨ (K u).k = 3 := by omega
  rcases this with e | e | e <;> simp [e]
/-- Known ones in memory. -/
structure Knw (w : World) (r : Option Addr) (m : Nat) (K : Nat → Fr) (R : Nat → Nat → Int) (W : World) : Prop where
  frs : FrsAt W r m K
  refs : RefsAll W m K R
  bel : Below w.heap.size w W
theorem Knw.grew {w W W' : World} {r : Option Addr} {m : Nat} {K : Nat → Fr} {R : Nat → Nat → Int} (h : Knw w r m K R W) (hb : Below W.heap.size W W') : Knw w r m K R W' :=
  ⟨h.frs.grew hb, h.refs.grew hb, h.bel.trans (hb.mono h.bel.size)⟩
/-- Does one of the first q hang on v? -/
def upto (K : Nat → Fr) (R : Nat → Nat → Int) (v : Int) (q p : Nat) : Prop := (∃ j, j < q ∧ has (K j) (R j) v) ∨ ∃ j, j < p ∧ R q j = v
theorem upto_step {K : Nat → Fr} {R : Nat → Nat → Int} {v : Int} {q p : Nat} (h : R q p = v) : upto K R v q (p + 1) := .inr ⟨p, by omega, h⟩
theorem upto_not {K : Nat → Fr} {R : Nat → Nat → Int} {v : Int} {q p : Nat} (h : ¬ upto K R v q p) (h2 : R q p ≠ v) : ¬ upto K R v q (p + 1) := by
  rintro (x | ⟨j, h3, h4⟩)
  · exact h (.inl x)
  · by_cases e : j = p
    · subst e; exact h2 h4
    · exact h (.inr ⟨j, by omega, h4⟩)
theorem upto_more {K : Nat → Fr} {R : Nat → Nat → Int} {v : Int} {q p : Nat} (h : upto K R v q p) : upto K R v q (p + 1) := by
  rcases h with x | ⟨j, h3, h4⟩
  · exact .inl x
  · exact .inr ⟨j, by omega, h4⟩
theorem upto_next (K : Nat → Fr) (R : Nat → Nat → Int) (v : Int) (q : Nat) : upto K R v q (K q).n ↔ upto K R v (q + 1) 0 := by
  refine ⟨?_, ?_⟩
  · rintro (⟨j, h1, h2⟩ | ⟨j, h1, h2⟩)
    · exact .inl ⟨j, by omega, h2⟩
    · exact .inl ⟨q, by omega, j, h1, h2⟩
  · rintro (⟨j, h1, h2⟩ | ⟨j, h1, -⟩)
    · by_cases e : j = q
      · subst e
        obtain ⟨i, h3, h4⟩ := h2
        exact .inr ⟨i, h3, h4⟩
      · exact .inl ⟨j, by omega, h2⟩
    · omega
theorem upto_all (K : Nat → Fr) (R : Nat → Nat → Int) (v : Int) (t : Nat) : upto K R v t 0 ↔ hangs t K R v = true := by
  rw [hangs_iff]
  exact ⟨fun h => h.resolve_right (fun ⟨j, h1, _⟩ => by omega), .inl⟩

set_option maxRecDepth 100000 in
set_option maxHeartbeats 4000000 in
theorem core (a : Option Addr) (n c : Nat) (x : Nat → Nat) (w : World) (h : BytesAt w a n x) (hn : n ≤ 80) :
    Calls Try.prog 5 #[.slice a n c] w fun e w' => e = .returned (.bool true) ∧ Below w.heap.size w w' := by
  have i1 : decide ((80 : Int) < (n : Int)) = false := by simp; omega
  go_enter Try.func5, Try.ntmps5
  go_wp2_with fail
  refine (begun13 _).mono ?_
  rintro e w1 ⟨rfl, b1⟩
  have h1 := h.grew b1
  go_wp2_with fail
  refine (made_any a n c x w1 h1 (by omega)).mono ?_
  rintro e w2 ⟨rfl, b2, s2, pk⟩
  have HB2 : Hid (Below w.heap.size w w2) := b1.trans (b2.mono b1.size)
  have lw : w.heap.size ≤ w1.heap.size := b1.size
  generalize w1.heap.size = P at *
  clear h h1 b1 b2 i1
  go_wp2_with fail
  refine (frames_any (P + 1) P 0 10 w2 pk (by omega) (by decide)).mono ?_
  rintro e w3 ⟨c3, v, m, K, R, rfl, hF, hm, hI, hG⟩
  have HB3 : Hid (Below w.heap.size w w3) := HB2.out.trans (c3.kept.below lw (by omega))
  obtain ⟨r, cap, rfl, hfr, hcap⟩ := room_of hF
  have HI : Hid (Inc K m) := hI
  have HKD : Hid (∀ q, q < m → KindOk (K q).k) := fun q hq => (hG q hq).kind
  have HK : Hid (Knw w r m K R w3) := ⟨hfr, fun q hq => (hG q hq).refs, HB3.out⟩
  have H4 : Hid (∀ q, q < m → (K q).n ≤ 4) := fun q hq => (hG q hq).few
  have HM : Hid (m ≤ 10) := by show m ≤ 10; omega
  clear hF hfr hm hI hG c3 pk s2 lw HB2 HB3
  go_wp2_with fail
  go_loopw [4] (fun i wr => ∃ t : Nat, i = .int .i64 t ∧ 1 ≤ t ∧ t ≤ m + 1 ∧ Hid (Knw w r m K R wr)) (fun i _ => m + 1 - (intOf i).toNat)
  case atStart => exact ⟨1, rfl, by decide, by omega, HK⟩
  case round =>
    clear HK
    obtain ⟨t, rfl, ht1, ht2, HK⟩ := hrel
    by_cases htm : t ≤ m
    case neg =>
      have i1 : decide ((t : Int) ≤ (m : Int)) = false := by simp; omega
      go_wp2
      go_ret
      exact ⟨rfl, HK.out.bel⟩
    have i1 : (t : Int) ≤ (m : Int) := by omega
    go_wp2_with fail
    clear i1
    generalize wr = wo at *
    go_loopw [5] (fun i wr => ∃ u : Nat, i = .int .i64 u ∧ u ≤ t ∧ Hid (Knw w r m K R wr)) (fun i _ => t - (intOf i).toNat)
    case atStart => exact ⟨0, rfl, Nat.zero_le _, HK⟩
    case round =>
      clear HK
      obtain ⟨u, rfl, hu, HK⟩ := hrel
      by_cases hut : u < t
      case neg =>
        have i2 : decide ((u : Int) < (t : Int)) = false := by simp; omega
        have i9 : (t : Int) ≤ 10 := by have := HM.out; omega
        go_wp2_with fail
        go_roundw
        case rel => exact ⟨t + 1, by have := HM.out; go_num, by omega, by omega, HK⟩
        case measure => simp [intOf]; omega
      have i2 : (u : Int) < (t : Int) := by omega
      have um : (u : Int) < (m : Int) := by omega
      obtain ⟨B, O, rfl⟩ := HK.out.frs.addr (by omega)
      obtain ⟨id, hid⟩ : ∃ id : Int, ((K u).id : Int) = id := ⟨_, rfl⟩
      have HID : Hid (((K u).id : Int) = id) := hid
      obtain ⟨X, hX⟩ : ∃ X : Int, (if (K u).k = 3 then (if hangs t K R id = true then 2 else 3) else (K u).k - 1) = X := ⟨_, rfl⟩
      have HX : Hid ((if (K u).k = 3 then (if hangs t K R id = true then 2 else 3) else (K u).k - 1) = X) := hX
      have HA : Hid (rk t K R id = (X, true)) := by
        have := rk_of (R := R) HI.out htm hut (HKD.out u (by omega))
        rw [hid, hX] at this
        exact this
      have HKw : Hid (Knw w (some ⟨B, O, none⟩) m K R wr.drew) := HK.out.grew (Below.refl _ _).drew
      have hsl := fun W => frs_to (some ⟨B, O, none⟩) m cap t W (by omega)
      clear HK hid hX
      go_wp2_with fail
      refine wp_region_held (S := Knw w (some ⟨B, O, none⟩) m K R) (by kernel_rfl) ?_
      change wpAnyH _ _ _ _ _ _ _ _ wr.drew
      have hr := HKw.out
      clear HKw
      generalize wr.drew = w4 at *
      refine wpAnyH_take (i := 0) (v := .slice (some ⟨B, O, none⟩) m cap) rfl (by kernel_rfl) (by kernel_rfl) (by kernel_rfl) (fun _ _ _ h => h) (Yields.yieldsIf (Or.inl ⟨by kernel_rfl, fun _ => by kernel_rfl⟩)) hr ?_
      refine wpAnyH_take (i := 1) (v := .int .i64 (t : Int)) rfl (by kernel_rfl) (by kernel_rfl) (by kernel_rfl) (fun _ _ _ h => h) (Yields.yieldsIf (Or.inl ⟨by kernel_rfl, fun _ => by kernel_rfl⟩)) hr ?_
      refine wpAnyH_take (i := 2) (v := .slice (some ⟨B, O, none⟩) t cap) rfl (by kernel_rfl) (by kernel_rfl) (by kernel_rfl) (fun _ _ _ h => h) (Yields.yieldsIf (Or.inl ⟨by kernel_rfl, fun _ => by go_simp⟩)) hr ?_
      refine wpAnyH_take (i := 3) (v := .slice (some ⟨B, O, none⟩) m cap) rfl (by kernel_rfl) (by kernel_rfl) (by kernel_rfl) (fun _ _ _ h => h) (Yields.yieldsIf (Or.inl ⟨by kernel_rfl, fun _ => by kernel_rfl⟩)) hr ?_
      refine wpAnyH_take (i := 4) (v := .int .i64 (u : Int)) rfl (by kernel_rfl) (by kernel_rfl) (by kernel_rfl) (fun _ _ _ h => h) (Yields.yieldsIf (Or.inl ⟨by kernel_rfl, fun _ => by kernel_rfl⟩)) hr ?_
      refine wpAnyH_take (i := 5) (v := .pointer (some ⟨B, O + u * 6, none⟩)) rfl (by kernel_rfl) (by kernel_rfl) (by kernel_rfl) (fun _ _ _ h => h) (Yields.yieldsIf (Or.inl ⟨by kernel_rfl, fun _ => by go_simp⟩)) hr ?_
      refine wpAnyH_take (i := 6) (v := .pointer (some ⟨B, O + u * 6, none⟩)) rfl (by kernel_rfl) (by kernel_rfl) (by kernel_rfl) (fun _ _ _ h => h) (Yields.yieldsIf (Or.inl ⟨by kernel_rfl, fun _ => by go_simp⟩)) hr ?_
      refine wpAnyH_take (i := 7) (v := .int .u32 id) rfl (by kernel_rfl) (by kernel_rfl) (by kernel_rfl) (fun _ _ _ h => h) (Or.inl ⟨by kernel_rfl, fun W hW => by have g0 := (hW.frs.at u (by omega)).1; rw [HID.out] at g0; go_simp⟩) hr ?_
      refine wpAnyH_ready (rs := [8]) (by kernel_rfl) (by simp) ?_
      refine AllReadyH.cons rfl (fun K2 hK2 => ?_) AllReadyH.nil
      go_simp
      refine Calls.mono (rank_is HA.out (by have := HM.out; omega) (hr.frs.take htm) (hr.refs.take htm)) ?_
      rintro e w5 ⟨rfl, d5⟩
      have hr := hr.grew d5
      refine hK2.out _ _ hr (fun hr => ?_)
      clear hK2 K2 d5
      refine wpAnyH_take (i := 9) (v := .tuple #[.int .i64 X, .bool true]) rfl (by kernel_rfl) (by kernel_rfl) (by kernel_rfl) (fun _ _ _ h => h) (Yields.yieldsIf (Or.inl ⟨by kernel_rfl, fun _ => by kernel_rfl⟩)) hr ?_
      refine wpAnyH_take (i := 10) (v := .int .i64 X) rfl (by kernel_rfl) (by kernel_rfl) (by kernel_rfl) (fun _ _ _ h => h) (Yields.yieldsIf (Or.inl ⟨by kernel_rfl, fun _ => by go_simp⟩)) hr ?_
      refine wpAnyH_take (i := 11) (v := .bool true) rfl (by kernel_rfl) (by kernel_rfl) (by kernel_rfl) (fun _ _ _ h => h) (Yields.yieldsIf (Or.inl ⟨by kernel_rfl, fun _ => by go_simp⟩)) hr ?_
      refine wpAnyH_take (i := 12) (v := .int .i64 X) rfl (by kernel_rfl) (by kernel_rfl) (by kernel_rfl) (fun _ _ _ h => h) (Yields.yieldsIf (Or.inl ⟨by kernel_rfl, fun _ => by kernel_rfl⟩)) hr ?_
      refine wpAnyH_take (i := 13) (v := .bool true) rfl (by kernel_rfl) (by kernel_rfl) (by kernel_rfl) (fun _ _ _ h => h) (Yields.yieldsIf (Or.inl ⟨by kernel_rfl, fun _ => by kernel_rfl⟩)) hr ?_
      refine wpAnyH_done (by kernel_rfl) ?_ _
      have HK5 : Hid (Knw w (some ⟨B, O, none⟩) m K R w5) := hr
      clear hr hsl HA
      go_wp2_with fail
      clear i2
      generalize wr = wp at *
      go_loopw [8, 9] (fun b i wr => ∃ (hg : Bool) (q : Nat), b = .bool hg ∧ i = .int .i64 q ∧ q ≤ t ∧ Hid (hg = true ↔ upto K R id q 0) ∧ Hid (Knw w (some ⟨B, O, none⟩) m K R wr)) (fun _ i _ => t - (intOf i).toNat)
      case atStart => exact ⟨false, 0, rfl, rfl, Nat.zero_le _, ⟨fun h => absurd h (by decide), fun h => h.elim (fun ⟨j, h1, _⟩ => absurd h1 (by omega)) (fun ⟨j, h1, _⟩ => absurd h1 (by omega))⟩, HK5⟩
      case round =>
        clear HK5
        obtain ⟨hg, q, rfl, rfl, hq, HG, HK5⟩ := hrel
        by_cases hqt : q < t
        case neg =>
          have i3 : decide ((q : Int) < (t : Int)) = false := by simp; omega
          have hqe : q = t := by omega
          have u9 : (u : Int) < 10 := by have := HM.out; omega
          subst hqe
          have HH : Hid (hg = true ↔ hangs q K R id = true) := HG.out.trans (upto_all K R id q)
          obtain ⟨-, t1, -⟩ := HK5.out.frs.at u (by omega)
          have hkk := HKD.out u (by omega)
          have hx := HX.out
          clear HG HX
          generalize (K u).k = kk at *
          obtain ⟨k1, k2⟩ := hkk
          have hk3 : kk = 1 ∨ kk = 2 ∨ kk = 3 := by omega
          rcases hk3 with rfl | rfl | rfl
          · obtain rfl : (0 : Int) = X := by simpa using hx
            clear hx k1 k2 HH
            go_wp2_with fail
            go_roundw
            case rel => exact ⟨u + 1, by go_num, by omega, HK5⟩
            case measure => simp [intOf]; omega
          · obtain rfl : (1 : Int) = X := by simpa using hx
            clear hx k1 k2 HH
            go_wp2_with fail
            go_roundw
            case rel => exact ⟨u + 1, by go_num, by omega, HK5⟩
            case measure => simp [intOf]; omega
          · cases hg with
            | true =>
              obtain rfl : (2 : Int) = X := by rw [if_pos rfl, if_pos (HH.out.1 rfl)] at hx; exact hx
              clear hx k1 k2 HH
              go_wp2_with fail
              go_roundw
              case rel => exact ⟨u + 1, by go_num, by omega, HK5⟩
              case measure => simp [intOf]; omega
            | false =>
              obtain rfl : (3 : Int) = X := by rw [if_pos rfl, if_neg (fun h => absurd (HH.out.2 h) (by decide))] at hx; exact hx
              clear hx k1 k2 HH
              go_wp2_with fail
              go_roundw
              case rel => exact ⟨u + 1, by go_num, by omega, HK5⟩
              case measure => simp [intOf]; omega
        have i3 : (q : Int) < (t : Int) := by omega
        have qm : (q : Int) < (m : Int) := by omega
        have q9 : (q : Int) < 10 := by have := HM.out; omega
        go_wp2_with fail
        clear i3
        generalize wr = wq at *
        go_loopw [8, 10] (fun b i wr => ∃ (hg : Bool) (p : Nat), b = .bool hg ∧ i = .int .i64 p ∧ p ≤ (K q).n ∧ Hid (hg = true ↔ upto K R id q p) ∧ Hid (Knw w (some ⟨B, O, none⟩) m K R wr)) (fun _ i _ => (K q).n - (intOf i).toNat)
        case atStart => exact ⟨hg, 0, rfl, rfl, Nat.zero_le _, HG, HK5⟩
        case round =>
          clear HK5 HG
          obtain ⟨hh, p, rfl, rfl, hp, HG, HK5⟩ := hrel
          obtain ⟨-, -, t2, -⟩ := HK5.out.frs.at q (by omega)
          have hrq := HK5.out.refs q (by omega)
          by_cases hpn : p < (K q).n
          case neg =>
            have i4 : decide ((p : Int) < ((K q).n : Int)) = false := by simp; omega
            have hpe : p = (K q).n := by omega
            have HG2 : Hid (hh = true ↔ upto K R id (q + 1) 0) := by
              have := HG.out
              rw [hpe, upto_next] at this
              exact this
            clear HG hpe hrq
            go_wp2_with fail
            go_roundw
            case rel => exact ⟨hh, q + 1, rfl, by go_num, by omega, HG2, HK5⟩
            case measure => simp [intOf]; omega
          have i4 : (p : Int) < ((K q).n : Int) := by omega
          have p9 : (p : Int) < 4 := by have := H4.out q (by omega); omega
          obtain ⟨rb, ro, e3, hcc⟩ := hrq.nums (by omega)
          have c5 := hcc p hpn
          rw [e3] at t2
          have HK6 : Hid (Knw w (some ⟨B, O, none⟩) m K R wr.drew) := HK5.out.grew (Below.refl _ _).drew
          obtain ⟨t0, -⟩ := HK5.out.frs.at u (by omega)
          rw [HID.out] at t0
          clear hcc hrq HK5 e3
          cases hh with
          | true =>
            have HU : Hid (upto K R id q (p + 1)) := upto_more (HG.out.1 rfl)
            clear HG
            go_wp2_with fail
            go_region
            go_wp2_with fail
            go_roundw
            case rel => exact ⟨true, p + 1, rfl, by go_num, by omega, iff_of_true rfl HU.out, HK6⟩
            case measure => simp [intOf]; omega
          | false =>
            have hno : ¬ upto K R id q p := fun h => absurd (HG.out.2 h) (by decide)
            by_cases hv : R q p = id
            · have HU : Hid (upto K R id q (p + 1)) := upto_step hv
              rw [hv] at c5
              clear HG hno hv
              go_wp2_with fail
              go_region
              go_wp2_with fail
              go_roundw
              case rel => exact ⟨true, p + 1, rfl, by go_num, by omega, iff_of_true rfl HU.out, HK6⟩
              case measure => simp [intOf]; omega
            · have HG2 : Hid (false = true ↔ upto K R id q (p + 1)) := iff_of_false (by decide) (upto_not hno hv)
              have i5 : (R q p == id) = false := by simpa using hv
              clear HG hno hv
              generalize R q p = y at *
              go_wp2_with fail
              go_region
              go_wp2_with fail
              go_roundw
              case rel => exact ⟨false, p + 1, rfl, by go_num, by omega, HG2, HK6⟩
              case measure => simp [intOf]; omega

set_option maxRecDepth 100000 in
theorem long (a : Option Addr) (n c : Nat) (w : World) (hn : ¬ n ≤ 80) :
    Calls Try.prog 5 #[.slice a n c] w fun e w' => e = .returned (.bool true) ∧ Below w.heap.size w w' := by
  have i1 : (80 : Int) < (n : Int) := by omega
  go_enter Try.func5, Try.ntmps5
  go_wp2_with fail
  refine (begun13 _).mono ?_
  rintro e w1 ⟨rfl, b1⟩
  have HB : Hid (Below w.heap.size w w1) := b1
  clear b1 hn
  go_wp2
  go_ret
  exact ⟨rfl, HB.out⟩

theorem walk (a : Option Addr) (n c : Nat) (x : Nat → Nat) (w : World) (h : BytesAt w a n x ∧ n ≤ c ∧ c ≤ maxLen) :
    Calls Try.prog 5 #[.slice a n c] w fun e w' => e = .returned (.bool true) ∧ Below w.heap.size w w' := by
  by_cases hn : n ≤ 80
  · exact core a n c x w h.1 hn
  · exact long a n c w hn

set_option maxRecDepth 100000 in
theorem lifted (os : Os) (started : os.Started) (H : Type) (enc : TypeId × Value → H) :
    ReturnsInHanded {} Try.checked os 5 .any (Rows.rankMadeSpec.pre6 enc Try.prog Try.f5 Rows.rankMadeRow.domain false) (Rows.rankMadeSpec.post enc Try.prog Try.f5 false true false false) := by
  refine returnsInHanded_of_change (C := Try.checked) own started (by kernel_rfl) Try.func5
    (ChangeSpec.witness6 (enc := enc) (C := Try.checked) false ⟨#[], #[.slice none 0 0], []⟩ 8 (by kernel_rfl) (by kernel_rfl) (by kernel_rfl) (by kernel_rfl)) ?_
  intro W base args ds gs before hval0 hW hcnd _
  have hval : ∀ (j : Nat) t v, Try.f5.params[j]? = some t → args[j]? = some v → Value.okWide Try.prog W .any base t v := hval0
  have hW' := hW
  obtain ⟨p, q, hA0, hV, rfl, hfz, hnd⟩ := hW
  have hA : DataW.TrodAll enc Try.prog W 0 (fun _ => true) true Try.f5.params.toList args.toList ds p := hA0
  rw [Try.params5] at hA hval
  obtain ⟨v0, vs0, d0, ds0, p0, q0, hargs, rfl, rfl, h0, r0⟩ := trodAll_cons hA
  obtain ⟨rfl, rfl, rfl⟩ := trodAll_nil r0
  obtain rfl : args = #[v0] := by cases args; simp_all
  obtain ⟨rfl, rfl⟩ := trodVars_none hV
  obtain ⟨a0, len0, cap0, rfl⟩ := okWide_slice Try.underlying22 (hval 0 22 v0 rfl rfl)
  have k0 := h0
  have lt0 : ∀ x ∈ p0, x.block < W.heap.size := by obtain ⟨m, hm⟩ := k0; exact DataW.trod_lt m _ _ _ hm
  obtain ⟨x0, w0⟩ : ∃ x, BytesAt W a0 len0 x ∧ len0 ≤ cap0 ∧ cap0 ≤ maxLen := open_bytes Try.underlying22 Try.underlying5 (by kernel_rfl) h0
  clear hA0 hval0
  refine (walk a0 len0 cap0 x0 W w0).mono fun e W' ⟨he, bel⟩ => ?_
  subst he
  exact ⟨_, rfl, _, _, _, [], _, [], hW', trodAll_mk1 (shut_bool Try.underlying4 _), (trodAll_cons_mk (Below.trod laidOut (by kernel_rfl) (of_decide_eq_true (by kernel_rfl)) k0 bel lt0) trodAll_mk0), rfl, bel.frame _, fun h => by cases h⟩

theorem over : Rows.rankMadeRow.holds Try.pinned (OpenSpec.ofChange Rows.rankMadeSpec) :=
  OpenClaim.holds_of_wide 5 Try.f5 rfl rfl rfl rfl rfl rfl rfl ⟨rfl, rfl, rfl, rfl, rfl⟩ rfl rfl rfl rfl rfl (by kernel_rfl) Try.func5 (by kernel_rfl)
    (of_decide_eq_true (by kernel_rfl)) (by unfold Func.isWrapper; first | (rw [if_pos (by decide +kernel)]; kernel_rfl) | (rw [if_neg (by decide +kernel)]; exact ⟨rfl, rfl⟩))
    (fun os started H enc _ => lifted os started H enc)

theorem proved : Rows.RankMadeSaid := over
end Go.Proofs.Ytmbpfdnadjemcaa.rankMade
namespace Go.Proofs.Ytmbpfdnadjemcaa
theorem rankMade_holds : Rows.RankMadeSaid := rankMade.proved
#print axioms rankMade_holds
end Go.Proofs.Ytmbpfdnadjemcaa
