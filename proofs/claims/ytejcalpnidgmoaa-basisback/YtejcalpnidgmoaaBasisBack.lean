/-
  Sums of symbols give the symbols back, in whatever order they come, as soon as there are as many that say more: the call returns true for every four symbols of three bytes and every twelve rows (no condition).
-/
import Derived.Test.YtejcalpnidgmoaaRows
import Derived.WalkKit
import Derived.ProofKit
import Derived.OpenShut
import Derived.ShutString
import Derived.ChangeOld
import Derived.Below
import Derived.Carry
import Derived.Test.YtejcalpnidgmoaaOpn
import Derived.Test.YtejcalpnidgmoaaTab
import Derived.Test.YtejcalpnidgmoaaLin
namespace Go.Proofs.Ytejcalpnidgmoaa.basisBack
open Go.ChangeShapes Go.WideShapes Go.ChangeAt Go.RowKit
open Go.ChangeMaps (open_string shut_string)
set_option linter.unusedVariables false

theorem own : ownKnob Try.prog.godebug = none := by kernel_rfl
theorem laidOut : laidOutB Try.prog = true := by kernel_rfl

open Go.Deep

/-- What a row says of the symbols, place t: the first n of them. -/
def said (x : Nat → Nat) (v : Nat → Nat) (t : Nat) : Nat → Nat
  | 0 => 0
  | i + 1 => said x v t i ^^^ Gf.mul (v i) (x (3 * i + t))
theorem said_lt (x v : Nat → Nat) (t n : Nat) : said x v t n < 256 := by
  induction n with
  | zero => show 0 < 256; decide
  | succ n ih => exact Gf.xor_lt _ _ ih (Gf.mul_lt _ _)
theorem said_add (x v g : Nat → Nat) (c t n : Nat) (hc : c < 256) (hx : ∀ i, x i < 256) (hv : Byt v) : said x (addUp v g c) t n = said x v t n ^^^ Gf.mul c (said x g t n) := by
  induction n with
  | zero => show 0 = 0 ^^^ Gf.mul c 0; rw [Gf.mul_zero]; decide
  | succ n ih =>
    show said x (addUp v g c) t n ^^^ Gf.mul (v n ^^^ Gf.mul c (g n)) (x (3 * n + t)) = (said x v t n ^^^ Gf.mul (v n) (x (3 * n + t))) ^^^ Gf.mul c (said x g t n ^^^ Gf.mul (g n) (x (3 * n + t)))
    rw [ih, Gf.xor_mul _ _ _ (hv n) (Gf.mul_lt _ _) (hx _), Gf.mul_xor c _ _ hc (said_lt _ _ _ _) (Gf.mul_lt _ _), Gf.mul_assoc, Gf.xor4]
theorem said_zero (x v : Nat → Nat) (t n : Nat) (h : ∀ i, i < n → v i = 0) : said x v t n = 0 := by
  induction n with
  | zero => rfl
  | succ n ih =>
    show said x v t n ^^^ Gf.mul (v n) _ = 0
    rw [ih fun i hi => h i (by omega), h n (by omega), Gf.zero_mul]
    decide
theorem said_unit (x v : Nat → Nat) (t n i : Nat) (hi : i < n) (h1 : v i = 1) (h0 : ∀ i', i' < n → i' ≠ i → v i' = 0) (hx : x (3 * i + t) < 256) : said x v t n = x (3 * i + t) := by
  induction n with
  | zero => omega
  | succ n ih =>
    show said x v t n ^^^ Gf.mul (v n) (x (3 * n + t)) = _
    by_cases e : i = n
    · subst e
      rw [said_zero x v t i fun i' h => h0 i' (by omega) (by omega), h1, mul_one' _ hx, Nat.zero_xor]
    · rw [ih (by omega) fun i' h => h0 i' (by omega), h0 n (by omega) (Ne.symm e), Gf.zero_mul, Nat.xor_zero]

/-- Every row that is there says what the symbols are. -/
def Says (x : Nat → Nat) (v : Nat → Nat) : Prop := ∀ t, t < 3 → v (4 + t) = said x v t 4
theorem says_sp {x : Nat → Nat} (hx : ∀ i, x i < 256) {G : (Nat → Nat) → Prop} (hG : ∀ g, G g → Says x g) {v : Nat → Nat} (h : Sp G v) : Says x v := by
  refine h.all (Says x) (fun t _ => (said_zero x _ t 4 fun _ _ => rfl).symm) (fun v g c hc hv ih hg t ht => ?_)
  rw [said_add x v g c t 4 hc hx hv, ← ih t ht, ← hG g hg t ht]
  rfl

structure Inv (x : Nat → Nat) (S : Nat → Option (Nat → Nat)) : Prop where
  red : Red S 4
  says : ∀ g, Rw S 4 g → Says x g
theorem Inv.empty (x : Nat → Nat) : Inv x (fun _ => none) := ⟨Red.empty 4, fun _ ⟨_, _, h⟩ => (nomatch h)⟩

/-- One more row: whether it said more, the rank, and that once more it says no more. -/
theorem Inv.step {x : Nat → Nat} (hx : ∀ i, x i < 256) {S : Nat → Option (Nat → Nat)} (h : Inv x S) {v : Nat → Nat} (hv : Byt v) (hs : Says x v) :
    Inv x (addOf S 4 v).2 ∧ addOf (addOf S 4 v).2 4 v = (false, (addOf S 4 v).2) ∧ rankTo (addOf S 4 v).2 4 = rankTo S 4 + (if (addOf S 4 v).1 then 1 else 0) := by
  rcases add_spec h.red hv with ⟨e, -⟩ | ⟨S', e, hR, h1, -, h3, h4, -⟩
  · rw [e]
    exact ⟨h, e, by simp⟩
  · rw [e]
    refine ⟨⟨hR, fun g hg => says_sp hx (fun g hg => ?_) (h1 g hg)⟩, add_again hR h3, by simpa using h4⟩
    rcases hg with hg | rfl
    · exact h.says g hg
    · exact hs
/-- With a row at each place the symbols stand behind them. -/
theorem Inv.full {x : Nat → Nat} (hx : ∀ i, x i < 256) {S : Nat → Option (Nat → Nat)} (h : Inv x S) (hf : rankTo S 4 = 4) (i : Nat) (hi : i < 4) (r : Nat → Nat) (hr : S i = some r) (t : Nat) (ht : t < 3) : r (4 + t) = x (3 * i + t) := by
  rw [h.says r ⟨i, hi, hr⟩ t ht]
  refine said_unit x r t 4 i hi (h.red.one i r hi hr) (fun i' h1 h2 => ?_) (hx _)
  obtain ⟨r', hr'⟩ := rank_full S 4 hf i' h1
  exact h.red.off i r hi hr i' r' h1 h2 hr'
/-- Four bytes, and 0 behind them. -/
def four (f : Nat → Nat) (j : Nat) : Nat := if j < 4 then f j else 0
theorem four_byt {f : Nat → Nat} (h : ∀ j, j < 4 → f j < 256) : Byt (four f) := fun j => by
  unfold four
  split
  · exact h j (by assumption)
  · exact Nat.zero_lt_succ _
/-- The row with what it says. -/
def full (x f : Nat → Nat) : Nat → Nat := cat (four f) (fun t => said x (four f) t 4) 4
theorem full_byt {x f : Nat → Nat} (h : ∀ j, j < 4 → f j < 256) : Byt (full x f) := fun j => by
  unfold full cat
  split
  · exact four_byt h j
  · exact said_lt _ _ _ _
theorem said_congr (x u v : Nat → Nat) (t n : Nat) (h : ∀ i, i < n → u i = v i) : said x u t n = said x v t n := by
  induction n with
  | zero => rfl
  | succ n ih =>
    show said x u t n ^^^ Gf.mul (u n) _ = said x v t n ^^^ Gf.mul (v n) _
    rw [ih fun i hi => h i (by omega), h n (by omega)]
theorem full_says (x f : Nat → Nat) : Says x (full x f) := by
  intro t ht
  have e : full x f (4 + t) = said x (four f) t 4 := by
    unfold full cat
    rw [if_neg (by omega), Nat.add_sub_cancel_left]
  rw [e]
  refine said_congr x _ _ t 4 fun i hi => ?_
  unfold full cat
  rw [if_pos hi]

/-- What stands between the rounds. -/
structure St (w wr : World) (P B R Y : Nat) (x : Nat → Nat) (S : Nat → Option (Nat → Nat)) : Prop where
  basis : BasisAt wr B R 4 3 S
  inv : Inv x S
  field : FieldAt wr P
  syms : BytesAt wr (some ⟨Y, 0, none⟩) 12 x
  ge : w.heap.size ≤ R
  below : Below w.heap.size w wr
theorem St.grew {w wr w' : World} {P B R Y : Nat} {x : Nat → Nat} {S : Nat → Option (Nat → Nat)} (h : St w wr P B R Y x S) (hb : Below wr.heap.size wr w') : St w w' P B R Y x S :=
  ⟨h.basis.grew hb, h.inv, h.field.below hb h.field.lt, h.syms.grew hb, h.ge, h.below.trans (hb.mono h.below.size)⟩

theorem arr_bytes {w : World} {b o len j : Nat} {f : Nat → Nat → Nat} (h : ∀ i, i < len → ∀ j, j < 4 → w.cell? ⟨b, o + (i * 4 + j), none⟩ = some (.int .u8 (f i j : Int)) ∧ f i j < 256) (hj : j < len) : BytesAt w (some ⟨b, o + j * 4, none⟩) 4 (four (f j)) :=
  ⟨fun _ => ⟨b, o + j * 4, rfl, fun i hi => by rw [Nat.add_assoc]; unfold four; rw [if_pos hi]; exact (h j hj i hi).1⟩, fun i hi => by unfold four; rw [if_pos hi]; exact (h j hj i hi).2⟩
theorem sym_bytes {w : World} {Y j : Nat} {x : Nat → Nat} (h : BytesAt w (some ⟨Y, 0, none⟩) 12 x) (hj : j < 4) : BytesAt w (some ⟨Y, 3 * j, none⟩) 3 (fun t => x (3 * j + t)) :=
  ⟨fun _ => ⟨Y, 3 * j, rfl, fun i hi => by have := bytes_cell h (3 * j + i) (by omega); rwa [Nat.zero_add] at this⟩, fun i hi => h.lt _ (by omega)⟩
theorem slice_sym0 (Y : Nat) (w : World) : (Instr.sliceAt 43 (.pointer (some ⟨Y, 0, none⟩)) (some (.int .i64 0)) (some (.int .i64 3)) none).run Try.prog w = .ok (.slice (some ⟨Y, 0, none⟩) 3 (12 - 0)) w := by kernel_rfl
theorem slice_sym1 (Y : Nat) (w : World) : (Instr.sliceAt 43 (.pointer (some ⟨Y, 0, none⟩)) (some (.int .i64 3)) (some (.int .i64 6)) none).run Try.prog w = .ok (.slice (some ⟨Y, 3, none⟩) 3 (12 - 3)) w := by kernel_rfl
theorem slice_sym2 (Y : Nat) (w : World) : (Instr.sliceAt 43 (.pointer (some ⟨Y, 0, none⟩)) (some (.int .i64 6)) (some (.int .i64 9)) none).run Try.prog w = .ok (.slice (some ⟨Y, 6, none⟩) 3 (12 - 6)) w := by kernel_rfl
theorem slice_sym3 (Y : Nat) (w : World) : (Instr.sliceAt 43 (.pointer (some ⟨Y, 0, none⟩)) (some (.int .i64 9)) (some (.int .i64 12)) none).run Try.prog w = .ok (.slice (some ⟨Y, 9, none⟩) 3 (12 - 9)) w := by kernel_rfl
theorem slice_sym (Y j : Nat) (w : World) (hj : j < 4) : (Instr.sliceAt 43 (.pointer (some ⟨Y, 0, none⟩)) (some (.int .i64 (3 * (j : Int)))) (some (.int .i64 (3 * (j : Int) + 3))) none).run Try.prog w = .ok (.slice (some ⟨Y, 3 * j, none⟩) 3 (12 - 3 * j)) w := by
  match j, hj with
  | 0, _ => exact slice_sym0 Y w
  | 1, _ => exact slice_sym1 Y w
  | 2, _ => exact slice_sym2 Y w
  | 3, _ => exact slice_sym3 Y w

set_option maxRecDepth 100000 in
set_option maxHeartbeats 2000000 in
theorem core (c : Array Value) (x : Nat → Nat) (a0 : Option Addr) (len0 cap0 : Nat) (f : Nat → Nat → Nat) (w : World) (hc : c.size = 12) (hcx : ∀ i, i < 12 → c[i]? = some (.int .u8 (x i : Int))) (hx : ∀ i, x i < 256) (h0 : ArrsAt w a0 len0 4 f) (hl : len0 ≤ 12) :
    Calls Try.prog 4 #[.agg c, .slice a0 len0 cap0] w fun e w' => e = .returned (.bool true) ∧ Below w.heap.size w w' := by
  have HA : Hid (ArrsAt w a0 len0 4 f) := h0
  have HC : Hid (∀ i, i < 12 → c[i]? = some (.int .u8 (x i : Int))) := hcx
  have HX : Hid (∀ i, x i < 256) := hx
  clear h0 hcx hx
  go_enter Try.func4, Try.ntmps4
  go_wp2_with fail
  have hb0 : Below w.heap.size w (w.alloc (.cells c 43)) := (Below.refl _ _).alloc (Nat.le_refl _) _
  have hY : BytesAt (w.alloc (.cells c 43)) (some ⟨w.heap.size, 0, none⟩) 12 x := ⟨fun _ => ⟨_, 0, rfl, fun i hi => by rw [Nat.zero_add, World.cell?_alloc_at _ _ _ _ rfl]; exact HC.out i hi⟩, fun i _ => HX.out i⟩
  generalize w.alloc (.cells c 43) = w0 at *
  clear HC
  refine (begun2_any _).mono ?_
  rintro e w1 ⟨rfl, hb1⟩
  go_wp2_with fail
  refine (new_any _).mono ?_
  rintro e w2 ⟨rfl, hb2, hf2, hs2⟩
  go_wp2_with fail
  refine (newBasis_yes w1.heap.size 4 3 _ hf2 (by decide) (by decide) (by decide) (by decide)).mono ?_
  rintro e w3 ⟨B, R, rfl, gB, gR, h3, hb3⟩
  have T3 : Hid (St w w3 w1.heap.size B R w.heap.size x (fun _ => none)) := by
    have := hb0.size
    have := hb1.size
    have := hb2.size
    exact ⟨h3, Inv.empty x, hf2.below hb3 hf2.lt, ((hY.grew hb1).grew hb2).grew hb3, by omega, ((hb0.trans (hb1.mono (by omega))).trans (hb2.mono (by omega))).trans (hb3.mono (by omega))⟩
  clear hb0 hb1 hb2 hf2 hs2 hb3 gB gR h3 hY
  generalize w1.heap.size = P at *
  go_wp2_with fail
  go_loopw [8] (fun i wr => ∃ (j : Nat) (S : Nat → Option (Nat → Nat)), j ≤ len0 ∧ i = .int .i64 j ∧ St w wr P B R w.heap.size x S) (fun i _ => len0 - (intOf i).toNat)
  case atStart => exact ⟨0, _, Nat.zero_le _, rfl, T3.out⟩
  case round =>
    clear T3
    obtain ⟨j, S, hj, rfl, hT⟩ := hrel
    have HT : Hid (St w wr P B R w.heap.size x S) := hT
    clear hT
    by_cases hjk : j < len0
    · obtain ⟨b, o, rfl, hA⟩ := HA.out (by omega)
      have i1 : (j : Int) < (len0 : Int) := by omega
      have HA2 : Hid _ := hA
      clear hA
      have hmk : ∀ w, (Instr.makeSlice 37 (.int .i64 3) (.int .i64 3)).run Try.prog w = .ok (.slice (some ⟨w.heap.size, 0, none⟩) 3 3) (w.alloc (.cells (madeCells #[.int .u8 0] 3) 5)) := run_make_row' (P := Try.prog) 37 5 (.int .u8 0) 1 Try.underlying37 Try.infoByte rfl .i64 .i64 3 (by omega) (by omega)
      have hb4 : Below wr.heap.size wr (wr.alloc (.cells (madeCells #[.int .u8 0] 3) 5)) := (Below.refl _ _).alloc (Nat.le_refl _) _
      have Z4 : Hid (BytesAt (wr.alloc (.cells (madeCells #[.int .u8 0] 3) 5)) (some ⟨wr.heap.size, 0, none⟩) 3 (fun t => said x (four (f j)) t 0)) := zeros_at wr 3
      have T4 : Hid (St w (wr.alloc (.cells (madeCells #[.int .u8 0] 3) 5)) P B R w.heap.size x S) := HT.out.grew hb4
      clear hb4 HT
      go_wp2_with fail
      clear hmk
      go_loopw [9, 10] (fun v i ws => ∃ (n g : Nat), n ≤ 4 ∧ i = .int .i64 n ∧ v = .slice (some ⟨g, 0, none⟩) 3 3 ∧ BytesAt ws (some ⟨g, 0, none⟩) 3 (fun t => said x (four (f j)) t n) ∧ St w ws P B R w.heap.size x S) (fun _ i _ => 4 - (intOf i).toNat)
      case atStart => exact ⟨0, _, by omega, rfl, rfl, Z4.out, T4.out⟩
      case round =>
        clear Z4 T4
        obtain ⟨n, g, hn, rfl, rfl, hD, hT⟩ := hrel
        have HD : Hid _ := hD
        have HT : Hid _ := hT
        clear hD hT
        by_cases hn4 : n < 4
        · have eS := fun v => slice_sym w.heap.size n v hn4
          have c1 : wr.cell? ⟨b, o + j * 4 + n, none⟩ = some (.int .u8 (four (f j) n)) := by
            have := HA2.out j hjk n hn4
            rw [← Nat.add_assoc] at this
            unfold four
            rw [if_pos hn4]
            exact (HT.out.below.cell (p := ⟨b, o + j * 4 + n, none⟩) (cell_lt this.1)).trans this.1
          have l1 : four (f j) n < 256 := by
            unfold four
            rw [if_pos hn4]
            exact (HA2.out j hjk n hn4).2
          have i2 : (n : Int) < 4 := by omega
          have hw1 : IntKind.i64.wrap (3 * (n : Int)) = 3 * (n : Int) := by rw [IntKind.wrap_i64]; omega
          have hw2 : IntKind.i64.wrap (3 * (n : Int) + 3) = 3 * (n : Int) + 3 := by rw [IntKind.wrap_i64]; omega
          have HE : Hid (addUp (fun t => said x (four (f j)) t n) (fun t => x (3 * n + t)) (four (f j) n) = fun t => said x (four (f j)) t (n + 1)) := rfl
          generalize hu : four (f j) n = u at *
          go_wp2_with fail
          go_region_with (go_at_call 21; refine (axpy_bytes P 3 3 3 (12 - 3 * n) u _ _ (fun t => said x (four (f j)) t n) (fun t => x (3 * n + t)) _ ?_ ?_ ?_ (by decide) (by decide) l1 3 (by decide)).mono ?_; exact ⟨HT.out.field.powers, HT.out.field.logs⟩; exact ⟨HD.out.cells, HD.out.lt⟩; exact ⟨(sym_bytes HT.out.syms hn4).cells, (sym_bytes HT.out.syms hn4).lt⟩; rintro e w5 ⟨rfl, hN, hb5, hs5⟩)
          all_goals
            have T5 : Hid (St w w5 P B R w.heap.size x S) := HT.out.grew ((Below.refl _ wr).drew.trans hb5)
            rw [HE.out] at hN
            have N5 : Hid _ := hN
            clear hN hb5 hs5
            go_wp2
            go_roundw
            case rel => exact ⟨n + 1, _, by omega, by go_num, rfl, N5.out, T5.out⟩
            case measure => simp [intOf]; omega
        · have hn5 : n = 4 := by omega
          subst hn5
          have hrk := rankTo_le S 4
          have X0 : Hid (BytesAt wr (some ⟨b, o + j * 4, none⟩) 4 (four (f j))) := (arr_bytes HA2.out hjk).below HT.out.below (Nat.le_refl _)
          have hv : Hid (Byt (full x (f j))) := full_byt fun i hi => (HA2.out j hjk i hi).2
          go_wp2_with fail
          refine (rank_any B R 4 3 S wr HT.out.basis).mono ?_
          rintro e wx ⟨rfl, hx⟩
          subst wx
          go_wp2_with fail
          refine (add_yes B R 4 3 _ _ _ _ S (four (f j)) (fun t => said x (four (f j)) t 4) wr HT.out.basis X0.out HD.out).mono ?_
          rintro e w6 ⟨rfl, h6, k6⟩
          have h6 : BasisAt w6 B R 4 3 (addOf S 4 (full x (f j))).2 := h6
          have ea : (addOf S 4 (cat (four (f j)) (fun t => said x (four (f j)) t 4) 4)).1 = (addOf S 4 (full x (f j))).1 := rfl
          rw [ea]
          obtain ⟨v6, ag, rk⟩ := HT.out.inv.step HX.out hv.out (full_says x (f j))
          have T6 : Hid (St w w6 P B R w.heap.size x (addOf S 4 (full x (f j))).2) := ⟨h6, v6, HT.out.field.kept k6 HT.out.basis.apart, HT.out.syms.kept k6 HT.out.basis.apart, HT.out.ge, HT.out.below.trans (k6.below HT.out.ge HT.out.below.size)⟩
          have X6 : Hid (BytesAt w6 (some ⟨b, o + j * 4, none⟩) 4 (four (f j))) := X0.out.kept k6 HT.out.basis.apart
          have D6 : Hid (BytesAt w6 (some ⟨g, 0, none⟩) 3 (fun t => said x (four (f j)) t 4)) := HD.out.kept k6 HT.out.basis.apart
          clear h6 k6 v6 ea X0 HD HT
          generalize (addOf S 4 (full x (f j))).2 = S' at *
          generalize (addOf S 4 (full x (f j))).1 = ans at *
          have AG : Hid (addOf S' 4 (full x (f j)) = (false, S')) := ag
          clear ag
          have again : Calls Try.prog 13 #[.pointer (some ⟨B, 0, none⟩), .slice (some ⟨b, o + j * 4, none⟩) 4 4, .slice (some ⟨g, 0, none⟩) 3 3] w6 fun e w' => e = .returned (.bool false) ∧ St w w' P B R w.heap.size x S' := by
            refine (add_yes B R 4 3 _ _ _ _ S' (four (f j)) (fun t => said x (four (f j)) t 4) w6 T6.out.basis X6.out D6.out).mono ?_
            rintro e w7 ⟨rfl, h7, k7⟩
            have e1 : addOf S' 4 (cat (four (f j)) (fun t => said x (four (f j)) t 4) 4) = (false, S') := AG.out
            rw [e1] at h7 ⊢
            exact ⟨rfl, h7, T6.out.inv, T6.out.field.kept k7 T6.out.basis.apart, T6.out.syms.kept k7 T6.out.basis.apart, T6.out.ge, T6.out.below.trans (k7.below T6.out.ge T6.out.below.size)⟩
          have AGAIN : Hid _ := again
          clear again
          generalize hr0 : rankTo S 4 = r0 at *
          clear hr0
          cases ans with
          | true =>
            have RK : Hid (((rankTo S' 4 : Nat) : Int) = (r0 : Int) + 1) := by show ((rankTo S' 4 : Nat) : Int) = (r0 : Int) + 1; rw [rk]; simp
            clear rk
            go_wp2_with fail
            refine (rank_any B R 4 3 S' w6 T6.out.basis).mono ?_
            rintro e wx ⟨rfl, hx⟩
            subst wx
            rw [RK.out]
            go_wp2_with fail
            refine Calls.mono (Hid.out AGAIN) ?_
            rintro e w8 ⟨rfl, t8⟩
            have T8 : Hid (St w w8 P B R w.heap.size x S') := t8
            clear t8 AGAIN T6 RK
            go_wp2_with fail
            by_cases hfull : rankTo S' 4 = 4
            · refine (solve_yes B R 4 3 S' w8 T8.out.basis hfull).mono ?_
              rintro e w9 ⟨L, A, rfl, gL, hA, hY, hb9⟩
              have T9 : Hid (St w w9 P B R w.heap.size x S') := T8.out.grew hb9
              have A9 : Hid (w9.rowIs L 37 4 A) := hA
              have Y9 : Hid (SymsTo w9 L 4 3 S' 4 A) := hY
              have F9 : Hid (rankTo S' 4 = 4) := hfull
              clear gL hA hY hb9 T8 hfull
              go_wp2_with fail
              refine (rank_any B R 4 3 S' w9 T9.out.basis).mono ?_
              rintro e wx ⟨rfl, hx⟩
              subst wx
              rw [F9.out]
              go_wp2_with fail
              go_loopw [15] (fun i ws => ∃ n : Nat, n ≤ 4 ∧ i = .int .i64 n ∧ Same w9 ws) (fun i _ => 4 - (intOf i).toNat)
              case atStart => exact ⟨0, by omega, rfl, Same.refl _⟩
              case round =>
                obtain ⟨n, hn, rfl, hq⟩ := hrel
                by_cases hn4 : n < 4
                · obtain ⟨r, b1, c1, g1, g2, -, g4⟩ := Y9.out n hn4
                  have eq : Hid (∀ t, t < 3 → r (4 + t) = x (3 * n + t)) := fun t ht => T9.out.inv.full HX.out F9.out n hn4 r g1 t ht
                  have q1 : wr.cell? ⟨L, n, none⟩ = some (.slice (some ⟨b1, 0, none⟩) 3 c1) := (hq.cell _).trans (by rw [A9.out.cell hn4, g2])
                  have e1 : ∀ m, (convert 37 9 (.slice (some ⟨b1, 0, none⟩) 3 c1)).run Try.prog (wr.drewN m) = .ok (.string (strOf 3 (fun t => x (3 * n + t)))) (wr.drewN m) := by
                    intro m
                    have g5 : BytesAt (wr.drewN m) (some ⟨b1, 0, none⟩) 3 (fun t => r (4 + t)) := (hq.trans ⟨m, rfl⟩).bytes g4
                    rw [conv_bytes _ 3 c1 _ _ g5, strOf_congr eq.out]
                  have e2 : ∀ m, (convert 37 9 (.slice (some ⟨w.heap.size, 3 * n, none⟩) 3 (12 - 3 * n))).run Try.prog (wr.drewN m) = .ok (.string (strOf 3 (fun t => x (3 * n + t)))) (wr.drewN m) := by
                    intro m
                    exact conv_bytes _ 3 _ _ _ (sym_bytes ((hq.trans ⟨m, rfl⟩).bytes T9.out.syms) hn4)
                  have eS := fun v => slice_sym w.heap.size n v hn4
                  have i2 : (n : Int) < 4 := by omega
                  have hw1 : IntKind.i64.wrap (3 * (n : Int)) = 3 * (n : Int) := by rw [IntKind.wrap_i64]; omega
                  have hw2 : IntKind.i64.wrap (3 * (n : Int) + 3) = 3 * (n : Int) + 3 := by rw [IntKind.wrap_i64]; omega
                  have HQ : Hid (Same w9 wr) := hq
                  clear hq g1 g2 g4
                  generalize strOf 3 (fun t => x (3 * n + t)) = str at *
                  go_wp2_with fail
                  go_quiet (fail)
                  go_wp2
                  go_roundw
                  case rel => exact ⟨n + 1, by omega, by go_num, HQ.out.trans ⟨nq, rfl⟩⟩
                  case measure => simp [intOf]; omega
                · have hn5 : n = 4 := by omega
                  subst hn5
                  have Tz : Hid (St w wr P B R w.heap.size x S') := T9.out.grew (hq.below _)
                  clear hq
                  go_wp2_with fail
                  go_roundw
                  case rel => exact ⟨j + 1, S', by omega, by go_num, Tz.out⟩
                  case measure => simp [intOf]; omega
            · have hlt : rankTo S' 4 < 4 := by have := rankTo_le S' 4; omega
              have hne4 : (((rankTo S' 4 : Nat) : Int) == 4) = false := by simp; omega
              refine (solve_no B R 4 3 S' w8 T8.out.basis hlt).mono ?_
              rintro e w9 ⟨rfl, hq9⟩
              have T9 : Hid (St w w9 P B R w.heap.size x S') := T8.out.grew (hq9.below _)
              clear T8 hq9 hfull
              go_wp2_with fail
              refine (rank_any B R 4 3 S' w9 T9.out.basis).mono ?_
              rintro e wx ⟨rfl, hx⟩
              subst wx
              go_wp2_with fail
              go_roundw
              case rel => exact ⟨j + 1, S', by omega, by go_num, T9.out⟩
              case measure => simp [intOf]; omega
          | false =>
            have RK : Hid (rankTo S' 4 = r0) := by show rankTo S' 4 = r0; rw [rk]; simp
            clear rk
            have hne : (((r0 : Nat) : Int) == (r0 : Int) + 1) = false := by simp; omega
            go_wp2_with fail
            refine (rank_any B R 4 3 S' w6 T6.out.basis).mono ?_
            rintro e wx ⟨rfl, hx⟩
            subst wx
            rw [RK.out]
            go_wp2_with fail
            refine (rank_any B R 4 3 S' w6 T6.out.basis).mono ?_
            rintro e wx ⟨rfl, hx⟩
            subst wx
            rw [RK.out]
            go_wp2_with fail
            refine Calls.mono (Hid.out AGAIN) ?_
            rintro e w8 ⟨rfl, t8⟩
            have T8 : Hid (St w w8 P B R w.heap.size x S') := t8
            clear t8 AGAIN T6 RK
            go_wp2_with fail
            by_cases hfull : rankTo S' 4 = 4
            · refine (solve_yes B R 4 3 S' w8 T8.out.basis hfull).mono ?_
              rintro e w9 ⟨L, A, rfl, gL, hA, hY, hb9⟩
              have T9 : Hid (St w w9 P B R w.heap.size x S') := T8.out.grew hb9
              have A9 : Hid (w9.rowIs L 37 4 A) := hA
              have Y9 : Hid (SymsTo w9 L 4 3 S' 4 A) := hY
              have F9 : Hid (rankTo S' 4 = 4) := hfull
              clear gL hA hY hb9 T8 hfull
              go_wp2_with fail
              refine (rank_any B R 4 3 S' w9 T9.out.basis).mono ?_
              rintro e wx ⟨rfl, hx⟩
              subst wx
              rw [F9.out]
              go_wp2_with fail
              go_loopw [15] (fun i ws => ∃ n : Nat, n ≤ 4 ∧ i = .int .i64 n ∧ Same w9 ws) (fun i _ => 4 - (intOf i).toNat)
              case atStart => exact ⟨0, by omega, rfl, Same.refl _⟩
              case round =>
                obtain ⟨n, hn, rfl, hq⟩ := hrel
                by_cases hn4 : n < 4
                · obtain ⟨r, b1, c1, g1, g2, -, g4⟩ := Y9.out n hn4
                  have eq : Hid (∀ t, t < 3 → r (4 + t) = x (3 * n + t)) := fun t ht => T9.out.inv.full HX.out F9.out n hn4 r g1 t ht
                  have q1 : wr.cell? ⟨L, n, none⟩ = some (.slice (some ⟨b1, 0, none⟩) 3 c1) := (hq.cell _).trans (by rw [A9.out.cell hn4, g2])
                  have e1 : ∀ m, (convert 37 9 (.slice (some ⟨b1, 0, none⟩) 3 c1)).run Try.prog (wr.drewN m) = .ok (.string (strOf 3 (fun t => x (3 * n + t)))) (wr.drewN m) := by
                    intro m
                    have g5 : BytesAt (wr.drewN m) (some ⟨b1, 0, none⟩) 3 (fun t => r (4 + t)) := (hq.trans ⟨m, rfl⟩).bytes g4
                    rw [conv_bytes _ 3 c1 _ _ g5, strOf_congr eq.out]
                  have e2 : ∀ m, (convert 37 9 (.slice (some ⟨w.heap.size, 3 * n, none⟩) 3 (12 - 3 * n))).run Try.prog (wr.drewN m) = .ok (.string (strOf 3 (fun t => x (3 * n + t)))) (wr.drewN m) := by
                    intro m
                    exact conv_bytes _ 3 _ _ _ (sym_bytes ((hq.trans ⟨m, rfl⟩).bytes T9.out.syms) hn4)
                  have eS := fun v => slice_sym w.heap.size n v hn4
                  have i2 : (n : Int) < 4 := by omega
                  have hw1 : IntKind.i64.wrap (3 * (n : Int)) = 3 * (n : Int) := by rw [IntKind.wrap_i64]; omega
                  have hw2 : IntKind.i64.wrap (3 * (n : Int) + 3) = 3 * (n : Int) + 3 := by rw [IntKind.wrap_i64]; omega
                  have HQ : Hid (Same w9 wr) := hq
                  clear hq g1 g2 g4
                  generalize strOf 3 (fun t => x (3 * n + t)) = str at *
                  go_wp2_with fail
                  go_quiet (fail)
                  go_wp2
                  go_roundw
                  case rel => exact ⟨n + 1, by omega, by go_num, HQ.out.trans ⟨nq, rfl⟩⟩
                  case measure => simp [intOf]; omega
                · have hn5 : n = 4 := by omega
                  subst hn5
                  have Tz : Hid (St w wr P B R w.heap.size x S') := T9.out.grew (hq.below _)
                  clear hq
                  go_wp2_with fail
                  go_roundw
                  case rel => exact ⟨j + 1, S', by omega, by go_num, Tz.out⟩
                  case measure => simp [intOf]; omega
            · have hlt : rankTo S' 4 < 4 := by have := rankTo_le S' 4; omega
              have hne4 : (((rankTo S' 4 : Nat) : Int) == 4) = false := by simp; omega
              refine (solve_no B R 4 3 S' w8 T8.out.basis hlt).mono ?_
              rintro e w9 ⟨rfl, hq9⟩
              have T9 : Hid (St w w9 P B R w.heap.size x S') := T8.out.grew (hq9.below _)
              clear T8 hq9 hfull
              go_wp2_with fail
              refine (rank_any B R 4 3 S' w9 T9.out.basis).mono ?_
              rintro e wx ⟨rfl, hx⟩
              subst wx
              go_wp2_with fail
              go_roundw
              case rel => exact ⟨j + 1, S', by omega, by go_num, T9.out⟩
              case measure => simp [intOf]; omega
    · have hke : j = len0 := by omega
      subst hke
      have K : Hid (Below w.heap.size w wr) := HT.out.below
      go_wp2
      go_ret
      exact ⟨rfl, K.out⟩

set_option maxRecDepth 100000 in
set_option maxHeartbeats 400000 in
theorem long (c : Array Value) (a0 : Option Addr) (len0 cap0 : Nat) (w : World) (hl : 12 < len0) :
    Calls Try.prog 4 #[.agg c, .slice a0 len0 cap0] w fun e w' => e = .returned (.bool true) ∧ Below w.heap.size w w' := by
  have i1 : (12 : Int) < (len0 : Int) := by omega
  go_enter Try.func4, Try.ntmps4
  go_wp2_with fail
  have hb0 : Below w.heap.size w (w.alloc (.cells c 43)) := (Below.refl _ _).alloc (Nat.le_refl _) _
  refine (begun2_any _).mono ?_
  rintro e w1 ⟨rfl, hb1⟩
  have K : Hid (Below w.heap.size w w1) := hb0.trans (hb1.mono hb0.size)
  clear hb0 hb1
  go_wp2
  go_ret
  exact ⟨rfl, K.out⟩

theorem walk (c : Array Value) (f0 : Nat → Nat) (a1 : Option Addr) (len1 cap1 : Nat) (f : Nat → Nat → Nat) (w : World) (h0 : c.size = 12 ∧ ∀ i, i < 12 → c[i]? = some (.int .u8 (f0 i : Int)) ∧ f0 i < 256) (h1 : ArrsAt w a1 len1 4 f ∧ len1 ≤ cap1 ∧ cap1 ≤ maxLen) :
    Calls Try.prog 4 #[.agg c, .slice a1 len1 cap1] w fun e w' => e = .returned (.bool true) ∧ Below w.heap.size w w' := by
  by_cases hl : 12 < len1
  · exact long c a1 len1 cap1 w hl
  · refine core c (fun i => if i < 12 then f0 i else 0) a1 len1 cap1 f w h0.1 (fun i hi => ?_) (fun i => ?_) h1.1 (by omega)
    · rw [(h0.2 i hi).1, if_pos hi]
    · by_cases hi : i < 12
      · simp only [if_pos hi]; exact (h0.2 i hi).2
      · simp only [if_neg hi]; decide

set_option maxRecDepth 100000 in
theorem lifted (os : Os) (started : os.Started) (H : Type) (enc : TypeId × Value → H) :
    ReturnsInHanded {} Try.checked os 4 .any (Rows.basisBackSpec.pre6 enc Try.prog Try.f4 Rows.basisBackRow.domain false) (Rows.basisBackSpec.post enc Try.prog Try.f4 false true false false) := by
  refine returnsInHanded_of_change (C := Try.checked) own started (by kernel_rfl) Try.func4
    (ChangeSpec.witness6 (enc := enc) (C := Try.checked) false ⟨#[], #[.agg #[.int .u8 0, .int .u8 0, .int .u8 0, .int .u8 0, .int .u8 0, .int .u8 0, .int .u8 0, .int .u8 0, .int .u8 0, .int .u8 0, .int .u8 0, .int .u8 0], .slice none 0 0], []⟩ 8 (by kernel_rfl) (by kernel_rfl) (by kernel_rfl) (by kernel_rfl)) ?_
  intro W base args ds gs before hval0 hW hcnd _
  have hval : ∀ (j : Nat) t v, Try.f4.params[j]? = some t → args[j]? = some v → Value.okWide Try.prog W .any base t v := hval0
  have hW' := hW
  obtain ⟨p, q, hA0, hV, rfl, hfz, hnd⟩ := hW
  have hA : DataW.TrodAll enc Try.prog W 0 (fun _ => true) true Try.f4.params.toList args.toList ds p := hA0
  rw [Try.params4] at hA hval
  obtain ⟨v0, vs0, d0, ds0, p0, q0, hargs, rfl, rfl, h0, r0⟩ := trodAll_cons hA
  obtain ⟨v1, vs1, d1, ds1, p1, q1, rfl, rfl, rfl, h1, r1⟩ := trodAll_cons r0
  obtain ⟨rfl, rfl, rfl⟩ := trodAll_nil r1
  obtain rfl : args = #[v0, v1] := by cases args; simp_all
  obtain ⟨rfl, rfl⟩ := trodVars_none hV
  have k0 := h0
  have lt0 : ∀ x ∈ p0, x.block < W.heap.size := by obtain ⟨m, hm⟩ := k0; exact DataW.trod_lt m _ _ _ hm
  obtain ⟨c0, x0, rfl, w0⟩ := open_arr_u8 Try.underlying43 Try.underlying5 (by kernel_rfl) (by kernel_rfl) (hval 0 43 v0 rfl rfl) h0
  obtain ⟨a1, len1, cap1, rfl⟩ := okWide_slice Try.underlying44 (hval 1 44 v1 rfl rfl)
  have k1 := h1
  have lt1 : ∀ x ∈ p1, x.block < W.heap.size := by obtain ⟨m, hm⟩ := k1; exact DataW.trod_lt m _ _ _ hm
  obtain ⟨x1, w1⟩ := open_arrs Try.underlying44 Try.underlying46 Try.underlying5 (by kernel_rfl) (by kernel_rfl) (by decide) h1
  clear hA0 hval0
  refine (walk c0 x0 a1 len1 cap1 x1 W w0 w1).mono fun e W' ⟨he, bel⟩ => ?_
  subst he
  exact ⟨_, rfl, _, _, _, [], _, [], hW', trodAll_mk1 (shut_bool Try.underlying4 _), (trodAll_cons_mk (Below.trod laidOut (by kernel_rfl) (of_decide_eq_true (by kernel_rfl)) k0 bel lt0) (trodAll_cons_mk (Below.trod laidOut (by kernel_rfl) (of_decide_eq_true (by kernel_rfl)) k1 bel lt1) trodAll_mk0)), rfl, bel.frame _, fun h => by cases h⟩

theorem over : Rows.basisBackRow.holds Try.pinned (OpenSpec.ofChange Rows.basisBackSpec) :=
  OpenClaim.holds_of_wide 4 Try.f4 rfl rfl rfl rfl rfl rfl rfl ⟨rfl, rfl, rfl, rfl, rfl⟩ rfl rfl rfl rfl rfl (by kernel_rfl) Try.func4 (by kernel_rfl)
    (of_decide_eq_true (by kernel_rfl)) (by unfold Func.isWrapper; first | (rw [if_pos (by decide +kernel)]; kernel_rfl) | (rw [if_neg (by decide +kernel)]; exact ⟨rfl, rfl⟩))
    (fun os started H enc _ => lifted os started H enc)

theorem proved : Rows.BasisBackSaid := over
end Go.Proofs.Ytejcalpnidgmoaa.basisBack
namespace Go.Proofs.Ytejcalpnidgmoaa
theorem basisBack_holds : Rows.BasisBackSaid := basisBack.proved
#print axioms basisBack_holds
end Go.Proofs.Ytejcalpnidgmoaa
