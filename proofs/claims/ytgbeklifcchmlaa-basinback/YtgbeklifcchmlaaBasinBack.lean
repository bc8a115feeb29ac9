/-
  Any symbols of a text give it back as soon as their rows have full rank, in whatever order, twice or not: the call returns true for every frame, all bytes, every size and all choices of symbols (no condition).
-/
import Derived.Test.YtgbeklifcchmlaaRows
import Derived.WalkKit
import Derived.ProofKit
import Derived.OpenShut
import Derived.ShutString
import Derived.ChangeOld
import Derived.Below
import Derived.Test.YtgbeklifcchmlaaBbg
import Derived.Test.YtgbeklifcchmlaaBfi
import Derived.Test.YtgbeklifcchmlaaFre
import Derived.Test.YtgbeklifcchmlaaRad
import Derived.Deep.RegionHeld3
namespace Go.Proofs.Ytgbeklifcchmlaa.basinBack
open Go.ChangeShapes Go.WideShapes Go.ChangeAt Go.RowKit
open Go.ChangeMaps (open_string shut_string)
set_option linter.unusedVariables false

theorem own : ownKnob Try.prog.godebug = none := by kernel_rfl
theorem laidOut : laidOutB Try.prog = true := by kernel_rfl

/-- WHAT THE WALK IS TOLD OF A SLICE OF INTEGERS THAT CAME IN: it is nil; or it leads to a row of 'cap' cells, the numbers 'zs' (the first 'len' are its elements, the rest its spare room), each fitting its kind. -/
def IsRow (k : IntKind) (w : World) (a : Option Addr) (len cap : Nat) (zs : List Int) : Prop :=
  (a = none ∧ len = 0 ∧ cap = 0 ∧ zs = []) ∨
  ∃ x, a = some x ∧ len ≤ cap ∧ cap ≤ maxLen ∧ zs.length = cap ∧ (∀ i, i < zs.length → w.cell? (x.add i) = some (.int k (zs.getD i 0))) ∧ ∀ n ∈ zs, (Lit.int k n).wf = true

open Go.Deep

set_option maxRecDepth 100000 in
set_option maxHeartbeats 400000 in
theorem none' (f : Int) (a : Option Addr) (n c : Nat) (sy s : Nat) (a' : Option Addr) (m c' : Nat) (w : World) (sl : sy < 256) (hs : s = 1 + sy % 16) (h : ¬ (1 ≤ n ∧ n ≤ 80 ∧ n ≤ 32 * s ∧ m ≤ 40)) :
    Calls Try.prog 4 #[.int .u32 f, .slice a n c, .int .u8 (sy : Int), .slice a' m c'] w fun e w' => e = .returned (.bool true) ∧ Below w.heap.size w w' := by
  have E0 : Hid (1 + (sy : Int) % 16 = (s : Int)) := by show 1 + (sy : Int) % 16 = (s : Int); omega
  clear hs
  go_enter Try.func4, Try.ntmps4
  go_wp2_with fail
  refine (begun6 _).mono ?_
  rintro e w0 ⟨rfl, b0⟩
  have HB : Hid (Below w.heap.size w w0) := b0
  clear b0
  by_cases h1 : n < 1
  · have h2 : decide ((n : Int) < 1) = true := by simp; omega
    clear h
    go_wp2
    go_ret
    exact ⟨rfl, HB.out⟩
  · have h2 : decide ((n : Int) < 1) = false := by simp; omega
    by_cases h3 : 80 < n
    · have h4 : decide (80 < (n : Int)) = true := by simp; omega
      clear h
      go_wp2
      go_ret
      exact ⟨rfl, HB.out⟩
    · have h4 : decide (80 < (n : Int)) = false := by simp; omega
      by_cases h5 : 32 * s < n
      · have h6 : decide ((1 + (sy : Int) % 16) * 32 < (n : Int)) = true := by rw [E0.out]; simp; omega
        clear h
        go_wp2
        go_ret
        exact ⟨rfl, HB.out⟩
      · have h6 : decide ((1 + (sy : Int) % 16) * 32 < (n : Int)) = false := by rw [E0.out]; simp; omega
        have h7 : decide (40 < (m : Int)) = true := by simp; omega
        clear h
        go_wp2
        go_ret
        exact ⟨rfl, HB.out⟩

theorem wpAnyH_mono {P : Program} {md : Region.Mode} {ops : Array Oper} {Q : Exit → Act → World → Prop} {S S' : World → Prop} (h : ∀ w, S' w → S w) : ∀ (fuel : Nat) (listed : Array Bool) (a : Act) (w : World), wpAnyH P md ops Q S' fuel listed a w → wpAnyH P md ops Q S fuel listed a w
  | 0, _, _, _, hh => hh
  | fuel + 1, _, _, _, hh => ⟨hh.1, fun i hi => wpOp_mono (fun a' w' h' => ⟨h _ h'.1, wpAnyH_mono h fuel _ a' w' h'.2⟩) (hh.2 i hi)⟩

/-- What stands between the rounds: the Basin, and the document's rows without their symbols. -/
structure St (w wr : World) (N B R D f n s k d : Nat) (x : Nat → Nat) (S : Nat → Option (Nat → Nat)) (V : Nat → Nat → Nat) : Prop where
  bas : BasinAt wr N B R f n s k S
  ref : RefAt wr D R k 1 d (fun t => trunc k (V t))
  inv : PInv k d S V
  sum : ∀ t, t < d → Sp (Rw (truS (piece x n s) k) k) (V t)
  gr : w.heap.size ≤ R
  gd : w.heap.size ≤ D
  below : Below w.heap.size w wr
theorem St.grew {w wr w' : World} {N B R D f n s k d : Nat} {x : Nat → Nat} {S : Nat → Option (Nat → Nat)} {V : Nat → Nat → Nat} (h : St w wr N B R D f n s k d x S V) (hb : Below wr.heap.size wr w') : St w w' N B R D f n s k d x S V :=
  ⟨h.bas.grew hb, h.ref.grew hb, h.inv, h.sum, h.gr, h.gd, h.below.trans (hb.mono h.below.size)⟩
theorem St.ne {w wr : World} {N B R D f n s k d : Nat} {x : Nat → Nat} {S : Nat → Option (Nat → Nat)} {V : Nat → Nat → Nat} (h : St w wr N B R D f n s k d x S V) : N ≠ D := by
  rintro rfl
  have := h.bas.fr
  rw [h.ref.kc] at this
  cases this
/-- Between both: the document's has taken the row, the Basin not yet. -/
structure Mid (w wr : World) (N B R D f n s k d' id : Nat) (x : Nat → Nat) (ans : Bool) (S S' : Nat → Option (Nat → Nat)) (V' : Nat → Nat → Nat) : Prop where
  bas : BasinAt wr N B R f n s k S
  step : addOf S k (symRow f x n s k id) = (ans, S')
  ref : RefAt wr D R k 1 d' (fun t => trunc k (V' t))
  inv : PInv k d' S' V'
  sum : ∀ t, t < d' → Sp (Rw (truS (piece x n s) k) k) (V' t)
  gr : w.heap.size ≤ R
  gd : w.heap.size ≤ D
  below : Below w.heap.size w wr
theorem Mid.grew {w wr w' : World} {N B R D f n s k d' id : Nat} {x : Nat → Nat} {ans : Bool} {S S' : Nat → Option (Nat → Nat)} {V' : Nat → Nat → Nat} (h : Mid w wr N B R D f n s k d' id x ans S S' V') (hb : Below wr.heap.size wr w') : Mid w w' N B R D f n s k d' id x ans S S' V' :=
  ⟨h.bas.grew hb, h.step, h.ref.grew hb, h.inv, h.sum, h.gr, h.gd, h.below.trans (hb.mono h.below.size)⟩
theorem zero_at (W : World) (g : Nat) (y : Nat → Nat) (hy : y 0 = 0) (hc : W.cell? ⟨g, 0, none⟩ = some (.int .u8 0)) : BytesAt W (some ⟨g, 0, none⟩) 1 y :=
  ⟨fun _ => ⟨g, 0, rfl, fun i hi => by have e : i = 0 := by omega
                                       subst e
                                       rw [hy]
                                       exact hc⟩, fun i hi => by have e : i = 0 := by omega
                                                                 subst e
                                                                 rw [hy]
                                                                 decide⟩
/-- What the document's Add of a row comes to. -/
theorem mid_of {w w7 w8 : World} {N B R D f n s k d id : Nat} {x : Nat → Nat} {S : Nat → Option (Nat → Nat)} {V : Nat → Nat → Nat} {e : Ending} (h : St w w7 N B R D f n s k d x S V) (hk : k = cntOf n s) (ha : RAdded w7 D R k 1 d (fun t => trunc k (V t)) (trunc k (symRow f x n s k id)) e w8) :
    ∃ ans S' d' V', e = .returned (.bool ans) ∧ d' ≤ k ∧ Mid w w8 N B R D f n s k d' id x ans S S' V' := by
  obtain ⟨q, Vr, T, st, h1, h2⟩ := ha
  have hv := symRow_sp f x n s k id hk
  have hb : BasinAt w8 N B R f n s k S := h.bas.keptN h2 h.ref.kc (by decide) h.ne
  have hB : Below w.heap.size w w8 := h.below.trans (h2.below h.gd h.below.size)
  rcases h.inv.stepLow hv.byt with ⟨e1, e2⟩ | ⟨S', e1, p', e2⟩
  · have hq := e2 q Vr T st
    rcases h1 with ⟨-, rfl, h3⟩ | ⟨hlt, -⟩
    · exact ⟨false, S, d, V, rfl, by rw [← h.inv.rk]; exact rankTo_le S k, hb, e1, h3, h.inv, h.sum, h.gr, h.gd, hB⟩
    · omega
  · have hq := e2 q Vr T st
    rcases h1 with ⟨hle, -⟩ | ⟨-, rfl, h3⟩
    · omega
    · rw [← more_trunc] at h3
      refine ⟨true, S', d + 1, more V d (symRow f x n s k id), rfl, by rw [← p'.rk]; exact rankTo_le S' k, hb, e1, h3, p', fun t ht => ?_, h.gr, h.gd, hB⟩
      by_cases et : t = d
      · subst et; rw [more_new]; exact hv
      · rw [← more_old V d _ t (by omega)]; exact h.sum t (by omega)

set_option maxRecDepth 100000 in
set_option maxHeartbeats 4000000 in
theorem core (f : Nat) (a : Option Addr) (n c sy s : Nat) (a' : Option Addr) (m c' k : Nat) (x y : Nat → Nat) (w : World) (hx : BytesAt w a n x) (hy : BytesAt w a' m y) (hf : f < 4294967296) (sl : sy < 256) (hs : s = 1 + sy % 16) (n1 : 1 ≤ n) (n2 : n ≤ 80) (n3 : n ≤ 32 * s) (m2 : m ≤ 40) (hk : k = cntOf n s) :
    Calls Try.prog 4 #[.int .u32 (f : Int), .slice a n c, .int .u8 (sy : Int), .slice a' m c'] w fun e w' => e = .returned (.bool true) ∧ Below w.heap.size w w' := by
  have s1 : 1 ≤ s := by omega
  have s2 : s ≤ 16 := by omega
  have E0 : Hid (1 + (sy : Int) % 16 = (s : Int)) := by show 1 + (sy : Int) % 16 = (s : Int); omega
  have h2 : decide ((n : Int) < 1) = false := by simp; omega
  have h4 : decide (80 < (n : Int)) = false := by simp; omega
  have h6 : decide ((1 + (sy : Int) % 16) * 32 < (n : Int)) = false := by rw [E0.out]; simp; omega
  have h7 : decide (40 < (m : Int)) = false := by simp; omega
  have k1 : 1 ≤ k := hk ▸ cnt_pos s1 n1
  have k2 : k ≤ 32 := hk ▸ cnt_le n s s1 n3
  have E1 : Hid (((n : Int) + (s : Int) - 1) / (s : Int) = (k : Int)) := by show _ = _; rw [hk]; exact cntOf_cast n s s1
  have z0 : ((s : Int) == 0) = false := by simp; omega
  have HX : Hid (BytesAt w a n x) := hx
  have HY : Hid (BytesAt w a' m y) := hy
  have HXL : Hid (∀ i, i < n → x i < 256) := hx.lt
  have HK : Hid (k = cntOf n s) := hk
  clear hx hy hk hs
  go_enter Try.func4, Try.ntmps4
  go_wp2_with fail
  refine (begun6 _).mono ?_
  rintro e w0 ⟨rfl, b0⟩
  go_wp2_with fail
  rw [E0.out]
  clear h6
  refine (new_any _).mono ?_
  rintro e w1 ⟨rfl, b1, F1, -⟩
  have B1 := b0.trans (b1.mono b0.size)
  clear E0
  go_wp2_with fail
  refine (basin_yes w0.heap.size f n s k _ F1 s1 (by omega) n1 n3 HK.out k1 k2).mono ?_
  rintro e w2 ⟨N, B, R, rfl, hR, N2, b2⟩
  have B2 := B1.trans (b2.mono B1.size)
  have GA : Hid (w.heap.size ≤ R) := Nat.le_trans B1.size hR
  have HB2 : Hid (Below w.heap.size w w2) := B2
  have HN2 : Hid (BasinAt w2 N B R f n s k (fun _ => none)) := N2
  clear b0 b1 F1 B1 hR N2 b2 B2
  go_wp2_with fail
  rw [E1.out]
  clear E1
  refine (rnew_yes k 1 R w2 k1 k2 (by decide) (by decide)).mono ?_
  rintro e w4 ⟨D, rfl, gD, r4, hb4⟩
  have T4 : Hid (St w w4 N B R D f n s k 0 x (fun _ => none) (fun _ _ => 0)) := by
    have e0 : (fun (t : Nat) => trunc k ((fun (_ : Nat) (_ : Nat) => 0) t)) = (fun _ _ => 0) := by funext t j; unfold trunc; split <;> rfl
    refine ⟨HN2.out.grew hb4, by rw [e0]; exact r4, PInv.empty k _, fun t ht => absurd ht (Nat.not_lt_zero t), GA.out, Nat.le_trans HB2.out.size gD, HB2.out.trans (hb4.mono HB2.out.size)⟩
  clear r4 hb4 gD HB2 HN2 GA
  go_wp2_with fail
  go_loopw [15] (fun i wr => ∃ (j d : Nat) (S : Nat → Option (Nat → Nat)) (V : Nat → Nat → Nat), j ≤ m ∧ i = .int .i64 j ∧ St w wr N B R D f n s k d x S V) (fun i _ => m - (intOf i).toNat)
  case atStart => exact ⟨0, 0, _, _, Nat.zero_le _, rfl, T4.out⟩
  case round =>
    clear T4
    obtain ⟨j, d, S, V, hj, rfl, hT⟩ := hrel
    have HT : Hid (St w wr N B R D f n s k d x S V) := hT
    have dk : d ≤ k := by rw [← hT.inv.rk]; exact rankTo_le S k
    clear hT
    by_cases hjm : j < m
    · have j1 : (j : Int) < (m : Int) := by omega
      have Y3 := HY.out.below HT.out.below (Nat.le_refl _)
      obtain ⟨b', o', rfl⟩ := bytes_some Y3 (by omega)
      have c1 := bytes_cell Y3 j hjm
      obtain ⟨id, hid⟩ : ∃ id, id = y j % (k + 64) := ⟨_, rfl⟩
      have hi : id < k + 64 := by rw [hid]; exact Nat.mod_lt _ (by omega)
      have E2 : Hid ((y j : Int) % ((k : Int) + 64) = (id : Int)) := by show (y j : Int) % ((k : Int) + 64) = (id : Int); rw [hid, Int.natCast_emod]; rfl
      have z1 : ((k : Int) + 64 == 0) = false := by simp; omega
      have yl := Y3.lt j hjm
      clear Y3 hid
      generalize y j = yj at *
      go_wp2_with fail
      rw [E2.out]
      clear E2 c1
      refine (rsymbol_yes f id a n c s k x _ (HX.out.below HT.out.below (Nat.le_refl _)) hf s1 (by omega) n1 n3 HK.out k1 k2 hi).mono ?_
      rintro e w5 ⟨g5, c5, rfl, -, S5, bb5⟩
      have HT5 : Hid (St w w5 N B R D f n s k d x S V) := HT.out.grew bb5
      have HS5 : Hid (BytesAt w5 (some ⟨g5, 0, none⟩) s (symOf f x n s id)) := S5
      clear S5 bb5 HT
      go_wp2_with fail
      refine (rrow_yes f id k _ hf k1 k2 hi).mono ?_
      rintro e w6 ⟨r, rfl, -, R6, bb6⟩
      have HT6 : Hid (St w w6 N B R D f n s k d x S V) := HT5.out.grew bb6
      have HS6 : Hid (BytesAt w6 (some ⟨g5, 0, none⟩) s (symOf f x n s id)) := HS5.out.grew bb6
      have HR6 : Hid (BytesAt w6 (some ⟨r, 0, none⟩) k (trunc k (symRow f x n s k id))) := R6.congr fun i hi => by unfold trunc; rw [if_pos hi, symRow_low f x n s k id i hi]
      clear R6 bb6 HT5 HS5
      go_wp2_with fail
      have bb7 : Below w6.heap.size w6 (w6.alloc (.cells #[.int .u8 0] 5)) := (Below.refl _ _).alloc (Nat.le_refl _) _
      have HT7 : Hid (St w (w6.alloc (.cells #[.int .u8 0] 5)) N B R D f n s k d x S V) := HT6.out.grew bb7
      have HS7 : Hid (BytesAt (w6.alloc (.cells #[.int .u8 0] 5)) (some ⟨g5, 0, none⟩) s (symOf f x n s id)) := HS6.out.grew bb7
      have HR7 : Hid (BytesAt (w6.alloc (.cells #[.int .u8 0] 5)) (some ⟨r, 0, none⟩) k (trunc k (symRow f x n s k id))) := HR6.out.grew bb7
      have HZ7 : Hid (BytesAt (w6.alloc (.cells #[.int .u8 0] 5)) (some ⟨w6.heap.size, 0, none⟩) 1 (fun t => trunc k (symRow f x n s k id) (k + t))) := zero_at _ _ _ (by show trunc k _ (k + 0) = 0; unfold trunc; rw [if_neg (by omega)]) (by rw [World.cell?_alloc_at _ _ _ _ rfl]; rfl)
      clear bb7 HT6 HS6 HR6
      generalize w6.heap.size = g7 at *
      generalize w6.alloc (.cells #[.int .u8 0] 5) = w7 at *
      refine (radd_yes D R k 1 d k 1 _ _ _ _ w7 HT7.out.ref HR7.out HZ7.out (fun t ht => trunc_byt (HT7.out.inv.byt t ht)) (trunc_byt (symRow_sp f x n s k id HK.out).byt) k1 k2 (by decide) (by decide) (by omega) HT7.out.bas.basis.lt.2).mono ?_
      intro e w8 ha
      have hk8 := ha.choose_spec.choose_spec.choose_spec.2.2
      have HS8 : Hid (BytesAt w8 (some ⟨g5, 0, none⟩) s (symOf f x n s id)) := bytes_keptN HS7.out hk8 HT7.out.ref.kc (by decide) s1
      obtain ⟨ans, S', d', V', rfl, dk', t8⟩ := mid_of HT7.out HK.out ha
      have T8 : Hid (Mid w w8 N B R D f n s k d' id x ans S S' V') := t8
      clear hk8 ha t8 HT7 HS7 HR7 HZ7
      have MI : Hid (((k - rankTo S' k : Nat) : Int) = (k : Int) - (d' : Int)) := by show _ = _; rw [T8.out.inv.rk]; omega
      go_wp2_with fail
      refine wp_region_held (S := fun _ => True) (by kernel_rfl) ?_
      change wpAnyH _ _ _ _ _ _ _ _ w8.drew
      have T8 : Hid (Mid w w8.drew N B R D f n s k d' id x ans S S' V') := T8.out.grew (Below.refl _ w8).drew
      have HS8 : Hid (BytesAt w8.drew (some ⟨g5, 0, none⟩) s (symOf f x n s id)) := HS8.out.grew (Below.refl _ w8).drew
      generalize w8.drew = w8 at *
      refine wpAnyH_take (i := 0) (v := .pointer (some ⟨N, 0, none⟩)) rfl (by kernel_rfl) (by kernel_rfl) (by kernel_rfl) (fun _ _ _ h => h) (Yields.yieldsIf (Or.inl ⟨by kernel_rfl, fun _ => by kernel_rfl⟩)) trivial ?_
      refine wpAnyH_take (i := 1) (v := .int .i64 (id : Int)) rfl (by kernel_rfl) (by kernel_rfl) (by kernel_rfl) (fun _ _ _ h => h) (Yields.yieldsIf (Or.inl ⟨by kernel_rfl, fun _ => by kernel_rfl⟩)) trivial ?_
      refine wpAnyH_take (i := 2) (v := .slice (some ⟨g5, 0, none⟩) s c5) rfl (by kernel_rfl) (by kernel_rfl) (by kernel_rfl) (fun _ _ _ h => h) (Yields.yieldsIf (Or.inl ⟨by kernel_rfl, fun _ => by kernel_rfl⟩)) trivial ?_
      refine wpAnyH_take (i := 4) (v := .bool ans) rfl (by kernel_rfl) (by kernel_rfl) (by kernel_rfl) (fun _ _ _ h => h) (Yields.yieldsIf (Or.inl ⟨by kernel_rfl, fun _ => by kernel_rfl⟩)) trivial ?_
      refine wpAnyH_ready (rs := [3]) (by kernel_rfl) (by simp) ?_
      refine AllReadyH.cons rfl (fun K2 hK2 => ?_) AllReadyH.nil
      go_simp
      refine Calls.mono (badd_yes N B R f n s k id c5 S _ _ w8 T8.out.bas HS8.out hf hi) ?_
      rintro e w9 ⟨rfl, N9, k9⟩
      have AO : addOf S k (cat (Dice.rowOf f id k) (symOf f x n s id) k) = (ans, S') := T8.out.step
      rw [AO] at N9 ⊢
      have R9 := T8.out.ref.kept k9 T8.out.bas.apart k1 (by decide)
      have B9 : Below w.heap.size w w9 := T8.out.below.trans (k9.below T8.out.gr T8.out.below.size)
      obtain ⟨va, p1, p2, -⟩ := R9.rows
      obtain ⟨ra, cva, rfl⟩ := p2.form
      clear p2
      refine hK2.out _ _ trivial (fun _ => ?_)
      clear hK2 K2
      refine wpAnyH_take (i := 5) (v := .bool false) rfl (by kernel_rfl) (by kernel_rfl) (by kernel_rfl) (fun _ _ _ h => h) (Yields.yieldsIf (Or.inl ⟨by kernel_rfl, fun _ => by go_simp⟩)) trivial ?_
      refine wpAnyH_take (i := 6) (v := .bool false) rfl (by kernel_rfl) (by kernel_rfl) (by kernel_rfl) (fun _ _ _ h => h) (Yields.yieldsIf (Or.inl ⟨by kernel_rfl, fun _ => by kernel_rfl⟩)) trivial ?_
      refine wpAnyH_mono (S' := fun w' => w'.cell? ⟨D, 2, none⟩ = some (.slice ra d' cva)) (fun _ _ => trivial) _ _ _ _ ?_
      have hr := p1
      refine wpAnyH_take (i := 7) (v := .pointer (some ⟨N, 0, none⟩)) rfl (by kernel_rfl) (by kernel_rfl) (by kernel_rfl) (fun _ _ _ h => h) (Yields.yieldsIf (Or.inl ⟨by kernel_rfl, fun _ => by kernel_rfl⟩)) hr ?_
      refine wpAnyH_take (i := 9) (v := .int .i64 (k : Int)) rfl (by kernel_rfl) (by kernel_rfl) (by kernel_rfl) (fun _ _ _ h => h) (Yields.yieldsIf (Or.inl ⟨by kernel_rfl, fun _ => by kernel_rfl⟩)) hr ?_
      refine wpAnyH_take (i := 10) (v := .pointer (some ⟨D, 0, none⟩)) rfl (by kernel_rfl) (by kernel_rfl) (by kernel_rfl) (fun _ _ _ h => h) (Yields.yieldsIf (Or.inl ⟨by kernel_rfl, fun _ => by kernel_rfl⟩)) hr ?_
      refine wpAnyH_take (i := 11) (v := .pointer (some ⟨D, 0, none⟩)) rfl (by kernel_rfl) (by kernel_rfl) (by kernel_rfl) (fun _ _ _ h => h) (Yields.yieldsIf (Or.inl ⟨by kernel_rfl, fun _ => by kernel_rfl⟩)) hr ?_
      refine wpAnyH_take (i := 12) (v := .pointer (some ⟨D, 2, none⟩)) rfl (by kernel_rfl) (by kernel_rfl) (by kernel_rfl) (fun _ _ _ h => h) (Yields.yieldsIf (Or.inl ⟨by kernel_rfl, fun _ => by kernel_rfl⟩)) hr ?_
      refine wpAnyH_take (i := 13) (v := .slice ra d' cva) rfl (by kernel_rfl) (by kernel_rfl) (by kernel_rfl) (fun _ _ _ h => h) (Or.inl ⟨by kernel_rfl, fun W hW => by have g := hW; go_simp⟩) hr ?_
      refine wpAnyH_take (i := 14) (v := .int .i64 (d' : Int)) rfl (by kernel_rfl) (by kernel_rfl) (by kernel_rfl) (fun _ _ _ h => h) (Yields.yieldsIf (Or.inl ⟨by kernel_rfl, fun _ => by kernel_rfl⟩)) hr ?_
      refine wpAnyH_take (i := 15) (v := .int .i64 ((k : Int) - (d' : Int))) rfl (by kernel_rfl) (by kernel_rfl) (by kernel_rfl) (fun _ _ _ h => h) (Yields.yieldsIf (Or.inl ⟨by kernel_rfl, fun _ => by go_simp; rw [IntKind.wrap_i64]; omega⟩)) hr ?_
      refine wpAnyH_ready (rs := [8]) (by kernel_rfl) (by simp) ?_
      refine AllReadyH.cons rfl (fun K2 hK2 => ?_) AllReadyH.nil
      go_simp
      refine (bmiss_yes N B R f n s k S' w9 N9).mono ?_
      rintro e w10 ⟨rfl, q10⟩
      rw [MI.out]
      have hr := (q10.cell ⟨D, 2, none⟩).trans hr
      refine hK2.out _ _ hr (fun hr => ?_)
      clear hK2 K2
      refine wpAnyH_take (i := 16) (v := .bool false) rfl (by kernel_rfl) (by kernel_rfl) (by kernel_rfl) (fun _ _ _ h => h) (Yields.yieldsIf (Or.inl ⟨by kernel_rfl, fun _ => by go_simp⟩)) hr ?_
      refine wpAnyH_take (i := 17) (v := .bool false) rfl (by kernel_rfl) (by kernel_rfl) (by kernel_rfl) (fun _ _ _ h => h) (Yields.yieldsIf (Or.inl ⟨by kernel_rfl, fun _ => by kernel_rfl⟩)) hr ?_
      refine wpAnyH_done (by kernel_rfl) ?_ _
      have T10 : Hid (St w w10 N B R D f n s k d' x S' V') := (St.mk N9 R9 T8.out.inv T8.out.sum T8.out.gr T8.out.gd B9).grew (q10.below _)
      clear hr N9 k9 AO R9 B9 p1 q10 T8 HS8
      by_cases hfull : d' = k
      · subst hfull
        have J1 : Hid (strOf n (joined (solOf S' d') s) = strOf n x) := sol_text HXL.out T10.out.inv.red (T10.out.inv.fit T10.out.sum) T10.out.inv.rk HK.out s1
        go_wp2_with fail
        refine (bpay_yes N B R f n s d' S' _ T10.out.bas T10.out.inv.rk n1 n3 HK.out.symm).mono ?_
        rintro e w11 ⟨b11, c11, rfl, -, -, -, B11, bb11⟩
        have T11 : Hid (St w w11 N B R D f n s d' d' x S' V') := T10.out.grew bb11
        have HS11 : Hid (BytesAt w11 (some ⟨b11, 0, none⟩) n (joined (solOf S' d') s)) := B11
        clear B11 bb11 T10
        go_wp2_with fail
        refine (bmiss_yes N B R f n s d' S' w11 T11.out.bas).mono ?_
        rintro e w12 ⟨rfl, q12⟩
        rw [T11.out.inv.rk, Nat.sub_self]
        have T12 : Hid (St w w12 N B R D f n s d' d' x S' V') := T11.out.grew (q12.below _)
        have e1 := conv_bytes _ n c11 _ _ (q12.bytes HS11.out)
        rw [J1.out] at e1
        have e3 := conv_bytes a n c x _ (HX.out.below T12.out.below (Nat.le_refl _))
        clear q12 T11 HS11 J1 MI
        go_wp2
        go_roundw
        case rel => exact ⟨j + 1, d', S', V', by omega, by go_num, T12.out⟩
        case measure => simp [intOf]; omega
      · have hlt : d' < k := by omega
        go_wp2_with fail
        refine (bpay_no N B R f n s k S' _ T10.out.bas (by rw [T10.out.inv.rk]; exact hlt)).mono ?_
        rintro e w11 ⟨rfl, q11⟩
        have T11 : Hid (St w w11 N B R D f n s k d' x S' V') := T10.out.grew (q11.below _)
        clear q11 T10
        go_wp2_with fail
        refine (bmiss_yes N B R f n s k S' w11 T11.out.bas).mono ?_
        rintro e w12 ⟨rfl, q12⟩
        have T12 : Hid (St w w12 N B R D f n s k d' x S' V') := T11.out.grew (q12.below _)
        rw [T11.out.inv.rk]
        have zz : (((k - d' : Nat) : Int) == 0) = false := by simp; omega
        clear q12 T11 MI
        generalize k - d' = kd at *
        go_wp2
        go_roundw
        case rel => exact ⟨j + 1, d', S', V', by omega, by go_num, T12.out⟩
        case measure => simp [intOf]; omega
    · obtain rfl : j = m := by omega
      clear hjm hj
      have hm := mul_fits k s (k * s) rfl (Nat.le_trans (Nat.mul_le_mul k2 (show s ≤ 64 by omega)) (by decide))
      go_wp2_with fail
      refine (bbytes_yes N B R f n s k S _ HT.out.bas).mono ?_
      rintro e w5 ⟨rfl, q5⟩
      have HB5 : Hid (Below w.heap.size w w5) := HT.out.below.trans (q5.below _)
      clear q5 HT
      generalize k * s = ks at *
      go_wp2
      go_ret
      exact ⟨rfl, HB5.out⟩

theorem walk (a0 : Int) (a1 : Option Addr) (len1 cap1 : Nat) (z1 : List Int) (a2 : Int) (a3 : Option Addr) (len3 cap3 : Nat) (z3 : List Int) (w : World) (w0 : (Lit.int .u32 a0).wf = true) (w1 : IsRow .u8 w a1 len1 cap1 z1) (w2 : (Lit.int .u8 a2).wf = true) (w3 : IsRow .u8 w a3 len3 cap3 z3) :
    Calls Try.prog 4 #[.int .u32 a0, .slice a1 len1 cap1, .int .u8 a2, .slice a3 len3 cap3] w fun e w' => e = .returned (.bool true) ∧ Below w.heap.size w w' := by
  have b0 := bounds_u32 w0
  have b2 := bounds_u8 w2
  obtain ⟨f, rfl⟩ : ∃ n : Nat, a0 = n := ⟨a0.toNat, by omega⟩
  obtain ⟨sy, rfl⟩ : ∃ n : Nat, a2 = n := ⟨a2.toNat, by omega⟩
  have r1 : Came w a1 len1 cap1 z1 := w1
  have r3 : Came w a3 len3 cap3 z3 := w3
  obtain ⟨h1, -, -⟩ := r1.bytes
  obtain ⟨h3, -, -⟩ := r3.bytes
  by_cases hl : 1 ≤ len1 ∧ len1 ≤ 80 ∧ len1 ≤ 32 * (1 + sy % 16) ∧ len3 ≤ 40
  · exact core f a1 len1 cap1 sy _ a3 len3 cap3 _ _ _ w h1 h3 (by omega) (by omega) rfl hl.1 hl.2.1 hl.2.2.1 hl.2.2.2 rfl
  · exact none' f a1 len1 cap1 sy _ a3 len3 cap3 w (by omega) rfl hl

/-! ### THE ROW's STEP: WRITTEN OUT: LEAVE IT -/
set_option maxRecDepth 100000 in
theorem lifted (os : Os) (started : os.Started) (H : Type) (enc : TypeId × Value → H) :
    ReturnsInHanded {} Try.checked os 4 .any (Rows.basinBackSpec.pre6 enc Try.prog Try.f4 Rows.basinBackRow.domain false) (Rows.basinBackSpec.post enc Try.prog Try.f4 false true false false) := by
  refine returnsInHanded_of_change (C := Try.checked) own started (by kernel_rfl) Try.func4
    (ChangeSpec.witness6 (enc := enc) (C := Try.checked) false ⟨#[], #[.int .u32 0, .slice none 0 0, .int .u8 0, .slice none 0 0], []⟩ 8 (by kernel_rfl) (by kernel_rfl) (by kernel_rfl) (by kernel_rfl)) ?_
  intro W base args ds gs before hval0 hW hcnd _
  have hval : ∀ (j : Nat) t v, Try.f4.params[j]? = some t → args[j]? = some v → Value.okWide Try.prog W .any base t v := hval0
  have hW' := hW
  obtain ⟨p, q, hA0, hV, rfl, hfz, hnd⟩ := hW
  have hA : DataW.TrodAll enc Try.prog W 0 (fun _ => true) true Try.f4.params.toList args.toList ds p := hA0
  rw [Try.params4] at hA hval
  obtain ⟨v0, vs0, d0, ds0, p0, q0, hargs, rfl, rfl, h0, r0⟩ := trodAll_cons hA
  obtain ⟨v1, vs1, d1, ds1, p1, q1, rfl, rfl, rfl, h1, r1⟩ := trodAll_cons r0
  obtain ⟨v2, vs2, d2, ds2, p2, q2, rfl, rfl, rfl, h2, r2⟩ := trodAll_cons r1
  obtain ⟨v3, vs3, d3, ds3, p3, q3, rfl, rfl, rfl, h3, r3⟩ := trodAll_cons r2
  obtain ⟨rfl, rfl, rfl⟩ := trodAll_nil r3
  obtain rfl : args = #[v0, v1, v2, v3] := by cases args; simp_all
  obtain ⟨rfl, rfl⟩ := trodVars_none hV
  obtain ⟨a0, rfl, rfl, rfl, w0⟩ := open_int Try.underlying22 (hval 0 22 v0 rfl rfl) h0
  obtain ⟨a1, len1, cap1, rfl⟩ := okWide_slice Try.underlying34 (hval 1 34 v1 rfl rfl)
  have k1 := h1
  have lt1 : ∀ x ∈ p1, x.block < W.heap.size := by obtain ⟨m, hm⟩ := k1; exact DataW.trod_lt m _ _ _ hm
  obtain ⟨z1, w1⟩ : ∃ zs, IsRow .u8 W a1 len1 cap1 zs := by
    obtain ⟨fuel, hf⟩ := h1
    rcases open_ints Try.underlying34 Try.underlying5 (by kernel_rfl) hf with ⟨hcs, _⟩ | ⟨x, l, c, zs, hcs, _, hl, hm, hz, _, hcell, hwz⟩
    · simp [Value.cells] at hcs
      obtain ⟨rfl, rfl, rfl⟩ := hcs
      exact ⟨[], .inl ⟨rfl, rfl, rfl, rfl⟩⟩
    · simp [Value.cells] at hcs
      obtain ⟨rfl, rfl, rfl⟩ := hcs
      exact ⟨zs, .inr ⟨_, rfl, hl, hm, by simpa using hz, hcell, hwz⟩⟩
  obtain ⟨a2, rfl, rfl, rfl, w2⟩ := open_int Try.underlying5 (hval 2 5 v2 rfl rfl) h2
  obtain ⟨a3, len3, cap3, rfl⟩ := okWide_slice Try.underlying34 (hval 3 34 v3 rfl rfl)
  have k3 := h3
  have lt3 : ∀ x ∈ p3, x.block < W.heap.size := by obtain ⟨m, hm⟩ := k3; exact DataW.trod_lt m _ _ _ hm
  obtain ⟨z3, w3⟩ : ∃ zs, IsRow .u8 W a3 len3 cap3 zs := by
    obtain ⟨fuel, hf⟩ := h3
    rcases open_ints Try.underlying34 Try.underlying5 (by kernel_rfl) hf with ⟨hcs, _⟩ | ⟨x, l, c, zs, hcs, _, hl, hm, hz, _, hcell, hwz⟩
    · simp [Value.cells] at hcs
      obtain ⟨rfl, rfl, rfl⟩ := hcs
      exact ⟨[], .inl ⟨rfl, rfl, rfl, rfl⟩⟩
    · simp [Value.cells] at hcs
      obtain ⟨rfl, rfl, rfl⟩ := hcs
      exact ⟨zs, .inr ⟨_, rfl, hl, hm, by simpa using hz, hcell, hwz⟩⟩
  clear hA0 hval0
  refine (walk a0 a1 len1 cap1 z1 a2 a3 len3 cap3 z3 W w0 w1 w2 w3).mono fun e W' ⟨he, bel⟩ => ?_
  subst he
  exact ⟨_, rfl, _, _, _, [], _, [], hW', trodAll_mk1 (shut_bool Try.underlying4 _), (trodAll_cons_mk (shut_int Try.underlying22 w0) (trodAll_cons_mk (Below.trod laidOut (by kernel_rfl) (of_decide_eq_true (by kernel_rfl)) k1 bel lt1) (trodAll_cons_mk (shut_int Try.underlying5 w2) (trodAll_cons_mk (Below.trod laidOut (by kernel_rfl) (of_decide_eq_true (by kernel_rfl)) k3 bel lt3) trodAll_mk0)))), rfl, bel.frame _, fun h => by cases h⟩

theorem over : Rows.basinBackRow.holds Try.pinned (OpenSpec.ofChange Rows.basinBackSpec) :=
  OpenClaim.holds_of_wide 4 Try.f4 rfl rfl rfl rfl rfl rfl rfl ⟨rfl, rfl, rfl, rfl, rfl⟩ rfl rfl rfl rfl rfl (by kernel_rfl) Try.func4 (by kernel_rfl)
    (of_decide_eq_true (by kernel_rfl)) (by unfold Func.isWrapper; first | (rw [if_pos (by decide +kernel)]; kernel_rfl) | (rw [if_neg (by decide +kernel)]; exact ⟨rfl, rfl⟩))
    (fun os started H enc _ => lifted os started H enc)

theorem proved : Rows.BasinBackSaid := over
end Go.Proofs.Ytgbeklifcchmlaa.basinBack
namespace Go.Proofs.Ytgbeklifcchmlaa
theorem basinBack_holds : Rows.BasinBackSaid := basinBack.proved
#print axioms basinBack_holds
end Go.Proofs.Ytgbeklifcchmlaa
