/-
  The same symbols of a text in another order come to the same: as many that lack, and the text, or none: the call returns true for all bytes, all choices of symbols and every turn (no condition).
-/
import Derived.Test.YtgbeklifcchmlaaRows
import Derived.WalkKit
import Derived.ProofKit
import Derived.OpenShut
import Derived.ShutString
import Derived.ChangeOld
import Derived.Below
import Derived.Test.YtgbeklifcchmlaaBbg
import Derived.Test.YtgbeklifcchmlaaBfi
import Derived.Test.YtgbeklifcchmlaaFre
namespace Go.Proofs.Ytgbeklifcchmlaa.basinOrder
open Go.ChangeShapes Go.WideShapes Go.ChangeAt Go.RowKit
open Go.ChangeMaps (open_string shut_string)
set_option linter.unusedVariables false

theorem own : ownKnob Try.prog.godebug = none := by kernel_rfl
theorem laidOut : laidOutB Try.prog = true := by kernel_rfl

/-- WHAT THE WALK IS TOLD OF A SLICE OF INTEGERS THAT CAME IN: it is nil; or it leads to a row of 'cap' cells, the numbers 'zs' (the first 'len' are its elements, the rest its spare room), each fitting its kind. -/
def IsRow (k : IntKind) (w : World) (a : Option Addr) (len cap : Nat) (zs : List Int) : Prop :=
  (a = none ∧ len = 0 ∧ cap = 0 ∧ zs = []) ∨
  ∃ x, a = some x ∧ len ≤ cap ∧ cap ≤ maxLen ∧ zs.length = cap ∧ (∀ i, i < zs.length → w.cell? (x.add i) = some (.int k (zs.getD i 0))) ∧ ∀ n ∈ zs, (Lit.int k n).wf = true

open Go.Deep

set_option maxRecDepth 100000 in
set_option maxHeartbeats 400000 in
theorem none' (a : Option Addr) (n c : Nat) (a' : Option Addr) (m c' : Nat) (t : Int) (w : World) (h : ¬ (1 ≤ n ∧ n ≤ 30 ∧ m ≤ 20)) :
    Calls Try.prog 7 #[.slice a n c, .slice a' m c', .int .u8 t] w fun e w' => e = .returned (.bool true) ∧ Below w.heap.size w w' := by
  go_enter Try.func7, Try.ntmps7
  go_wp2_with fail
  refine (begun6 _).mono ?_
  rintro e w0 ⟨rfl, b0⟩
  have HB : Hid (Below w.heap.size w w0) := b0
  clear b0
  by_cases h1 : n < 1
  · have h2 : decide ((n : Int) < 1) = true := by simp; omega
    clear h
    go_wp2
    go_ret
    exact ⟨rfl, HB.out⟩
  · have h2 : decide ((n : Int) < 1) = false := by simp; omega
    by_cases h3 : 30 < n
    · have h4 : decide (30 < (n : Int)) = true := by simp; omega
      clear h
      go_wp2
      go_ret
      exact ⟨rfl, HB.out⟩
    · have h4 : decide (30 < (n : Int)) = false := by simp; omega
      have h5 : decide (20 < (m : Int)) = true := by simp; omega
      clear h
      go_wp2
      go_ret
      exact ⟨rfl, HB.out⟩

/-- Which symbol comes to the other one. -/
def perm (len t j : Nat) : Nat := (len - 1 - j + t) % len
theorem perm_lt (len t j : Nat) (h : j < len) : perm len t j < len := Nat.mod_lt _ (by omega)
theorem perm_hit (len t i : Nat) (h : i < len) : ∃ j, j < len ∧ perm len t j = i := by
  refine ⟨perm len t i, perm_lt len t i h, ?_⟩
  have hx := perm_lt len t i h
  have hd := Nat.div_add_mod (len - 1 - i + t) len
  unfold perm at *
  generalize (len - 1 - i + t) % len = x at *
  generalize hq : len * ((len - 1 - i + t) / len) = q at *
  have e : len - 1 - x + t = i + q := by omega
  rw [e, ← hq, Nat.add_mul_mod_self_left, Nat.mod_eq_of_lt h]
theorem perm_int (len t j : Nat) (h : j < len) : ((len : Int) - 1 - (j : Int) + (t : Int)).tmod (len : Int) = ((perm len t j : Nat) : Int) := by
  have e : (len : Int) - 1 - (j : Int) + (t : Int) = ((len - 1 - j + t : Nat) : Int) := by omega
  rw [e]
  unfold perm
  exact (Int.ofNat_tmod _ _).symm

/-- The symbols that came, with their rows. -/
def Syms (x : Nat → Nat) (n k : Nat) (y p : Nat → Nat) (j : Nat) (g : Nat → Nat) : Prop := ∃ i, i < j ∧ g = symRow 6 x n 4 k (y (p i) % (k + 60))
theorem syms_next (x : Nat → Nat) (n k : Nat) (y p : Nat → Nat) (j : Nat) (g : Nat → Nat) : (Syms x n k y p j g ∨ g = symRow 6 x n 4 k (y (p j) % (k + 60))) ↔ Syms x n k y p (j + 1) g := by
  constructor
  · rintro (⟨i, hi, e⟩ | e)
    · exact ⟨i, by omega, e⟩
    · exact ⟨j, by omega, e⟩
  · rintro ⟨i, hi, e⟩
    by_cases h : i = j
    · subst h; exact .inr e
    · exact .inl ⟨i, by omega, e⟩
theorem syms_turn (x : Nat → Nat) (n k : Nat) (y : Nat → Nat) (m t : Nat) (g : Nat → Nat) : Syms x n k y (fun i => i) m g ↔ Syms x n k y (perm m t) m g := by
  constructor
  · rintro ⟨i, hi, e⟩
    obtain ⟨i', h1, h2⟩ := perm_hit m t i hi
    exact ⟨i', h1, by rw [h2]; exact e⟩
  · rintro ⟨i, hi, e⟩
    exact ⟨perm m t i, perm_lt m t i hi, e⟩

/-- Both Basins behind j symbols. -/
structure Both (w wr : World) (N B R N' B' R' n k m t j : Nat) (x y : Nat → Nat) (S T : Nat → Option (Nat → Nat)) : Prop where
  one : BasinAt wr N B R 6 n 4 k S
  two : BasinAt wr N' B' R' 6 n 4 k T
  ne : R ≠ R'
  ga : w.heap.size ≤ R
  gb : w.heap.size ≤ R'
  below : Below w.heap.size w wr
  gs : Gath k (piece x n 4) S (Syms x n k y (fun i => i) j)
  gt : Gath k (piece x n 4) T (Syms x n k y (perm m t) j)
theorem Both.grew {w wr w' : World} {N B R N' B' R' n k m t j : Nat} {x y : Nat → Nat} {S T : Nat → Option (Nat → Nat)} (h : Both w wr N B R N' B' R' n k m t j x y S T) (hb : Below wr.heap.size wr w') : Both w w' N B R N' B' R' n k m t j x y S T :=
  ⟨h.one.grew hb, h.two.grew hb, h.ne, h.ga, h.gb, h.below.trans (hb.mono h.below.size), h.gs, h.gt⟩
theorem Both.same {w wr w' : World} {N B R N' B' R' n k m t j : Nat} {x y : Nat → Nat} {S T : Nat → Option (Nat → Nat)} (h : Both w wr N B R N' B' R' n k m t j x y S T) (hb : Same wr w') : Both w w' N B R N' B' R' n k m t j x y S T := h.grew (hb.below _)

set_option maxRecDepth 100000 in
set_option maxHeartbeats 1000000 in
theorem core (a : Option Addr) (n c : Nat) (a' : Option Addr) (m c' t k : Nat) (x y : Nat → Nat) (w : World) (hx : BytesAt w a n x) (hy : BytesAt w a' m y) (n1 : 1 ≤ n) (n2 : n ≤ 30) (m2 : m ≤ 20) (t2 : t < 256) (hk : k = cntOf n 4) :
    Calls Try.prog 7 #[.slice a n c, .slice a' m c', .int .u8 (t : Int)] w fun e w' => e = .returned (.bool true) ∧ Below w.heap.size w w' := by
  have h2 : decide ((n : Int) < 1) = false := by simp; omega
  have h4 : decide (30 < (n : Int)) = false := by simp; omega
  have h5 : decide (20 < (m : Int)) = false := by simp; omega
  have k1 : 1 ≤ k := hk ▸ cnt_pos (by decide) n1
  have k2 : k ≤ 32 := hk ▸ cnt_le n 4 (by decide) (by omega)
  have E1 : Hid (((n : Int) + 3) / 4 = (k : Int)) := by show ((n : Int) + 3) / 4 = (k : Int); rw [hk]; unfold cntOf; omega
  have HX : Hid (BytesAt w a n x) := hx
  have HY : Hid (BytesAt w a' m y) := hy
  have HXL : Hid (∀ i, i < n → x i < 256) := hx.lt
  have HZ : Hid (∀ i j, piece x n 4 i j < 256) := fun i j => piece_lt hx.lt j
  have HK : Hid (k = cntOf n 4) := hk
  clear hx hy hk
  go_enter Try.func7, Try.ntmps7
  go_wp2_with fail
  refine (begun6 _).mono ?_
  rintro e w0 ⟨rfl, b0⟩
  go_wp2_with fail
  refine (new_any _).mono ?_
  rintro e w1 ⟨rfl, b1, F1, -⟩
  have B1 := b0.trans (b1.mono b0.size)
  go_wp2_with fail
  refine (basin_yes w0.heap.size 6 n 4 k _ F1 (by decide) (by decide) n1 (by omega) HK.out k1 k2).mono ?_
  rintro e w2 ⟨N, B, R, rfl, hR, N2, b2⟩
  have B2 := B1.trans (b2.mono B1.size)
  have GA : Hid (w.heap.size ≤ R) := Nat.le_trans B1.size hR
  have HB2 : Hid (Below w.heap.size w w2) := B2
  have HN2 : Hid (BasinAt w2 N B R 6 n 4 k (fun _ => none)) := N2
  clear b0 b1 F1 B1 hR N2 b2 B2
  go_wp2_with fail
  refine (new_any _).mono ?_
  rintro e w3 ⟨rfl, b3, F3, -⟩
  go_wp2_with fail
  refine (basin_yes w2.heap.size 6 n 4 k _ F3 (by decide) (by decide) n1 (by omega) HK.out k1 k2).mono ?_
  rintro e w4 ⟨N', B', R', rfl, hR', N4, b4⟩
  have T4 : Hid (Both w w4 N B R N' B' R' n k m t 0 x y (fun _ => none) (fun _ => none)) := by
    have l2 := HN2.out.basis.lt
    have s3 := b3.size
    have s2 := HB2.out.size
    have B3 := HB2.out.trans (b3.mono s2)
    exact ⟨(HN2.out.grew b3).grew b4, N4, by omega, GA.out, by omega, B3.trans (b4.mono (by omega)), Gath.empty k _ (fun g ⟨i, h, _⟩ => absurd h (Nat.not_lt_zero i)), Gath.empty k _ (fun g ⟨i, h, _⟩ => absurd h (Nat.not_lt_zero i))⟩
  clear b3 F3 hR' N4 b4 HN2 HB2 GA
  go_wp2_with fail
  rw [E1.out]
  clear E1
  go_loopw [12] (fun i wr => ∃ (j : Nat) (S T : Nat → Option (Nat → Nat)), j ≤ m ∧ i = .int .i64 j ∧ Both w wr N B R N' B' R' n k m t j x y S T) (fun i _ => m - (intOf i).toNat)
  case atStart => exact ⟨0, _, _, Nat.zero_le _, rfl, T4.out⟩
  case round =>
    clear T4
    obtain ⟨j, S, T, hj, rfl, hT⟩ := hrel
    have HT : Hid (Both w wr N B R N' B' R' n k m t j x y S T) := hT
    clear hT
    by_cases hjm : j < m
    · have j1 : (j : Int) < (m : Int) := by omega
      have Y3 := HY.out.below HT.out.below (Nat.le_refl _)
      obtain ⟨b', o', rfl⟩ := bytes_some Y3 (by omega)
      have c1 := bytes_cell Y3 j hjm
      have pl := perm_lt m t j hjm
      have c2 := bytes_cell Y3 (perm m t j) pl
      have hp := perm_int m t j hjm
      obtain ⟨p, ep⟩ : ∃ p, p = perm m t j := ⟨_, rfl⟩
      rw [← ep] at c2 hp pl
      have p1 : (p : Int) < (m : Int) := by omega
      obtain ⟨id, hid⟩ : ∃ id, id = y j % (k + 60) := ⟨_, rfl⟩
      have hi : id < k + 60 := by rw [hid]; exact Nat.mod_lt _ (by omega)
      have E2 : Hid ((y j : Int) % ((k : Int) + 60) = (id : Int)) := by show (y j : Int) % ((k : Int) + 60) = (id : Int); rw [hid, Int.natCast_emod]; rfl
      obtain ⟨id', hid'⟩ : ∃ id, id = y p % (k + 60) := ⟨_, rfl⟩
      have hi' : id' < k + 60 := by rw [hid']; exact Nat.mod_lt _ (by omega)
      have E3 : Hid ((y p : Int) % ((k : Int) + 60) = (id' : Int)) := by show (y p : Int) % ((k : Int) + 60) = (id' : Int); rw [hid', Int.natCast_emod]; rfl
      have EI : Hid (∀ q, q = j → id = y q % (k + 60)) := fun q e => by rw [e]; exact hid
      have EI' : Hid (id' = y (perm m t j) % (k + 60)) := by show id' = _; rw [← ep]; exact hid'
      have z1 : ((k : Int) + 60 == 0) = false := by simp; omega
      have z2 : ((m : Int) == 0) = false := by simp; omega
      have yl := Y3.lt j hjm
      have yl' := Y3.lt p pl
      clear Y3 hid hid' ep
      generalize y j = yj at *
      generalize y p = yp at *
      go_wp2_with fail
      go_quiet (fail)
      rw [E2.out, E3.out]
      have HT1 : Hid (Both w (wr.drewN nq) N B R N' B' R' n k m t j x y S T) := HT.out.same ⟨nq, rfl⟩
      clear c1 c2 hp E2 E3 HT
      generalize wr.drewN nq = wa at *
      go_wp2_with fail
      refine (rsymbol_yes 6 id a n c 4 k x _ (HX.out.below HT1.out.below (Nat.le_refl _)) (by decide) (by decide) (by decide) n1 (by omega) HK.out k1 k2 (by omega)).mono ?_
      rintro e w5 ⟨b5, c5, rfl, -, S5, bb5⟩
      have HT5 : Hid (Both w w5 N B R N' B' R' n k m t j x y S T) := HT1.out.grew bb5
      have HS5 : Hid (BytesAt w5 (some ⟨b5, 0, none⟩) 4 (symOf 6 x n 4 id)) := S5
      clear S5 bb5 HT1
      go_wp2_with fail
      refine (rsymbol_yes 6 id' a n c 4 k x _ (HX.out.below HT5.out.below (Nat.le_refl _)) (by decide) (by decide) (by decide) n1 (by omega) HK.out k1 k2 (by omega)).mono ?_
      rintro e w6 ⟨b6, c6, rfl, -, S6, bb6⟩
      have HT6 : Hid (Both w w6 N B R N' B' R' n k m t j x y S T) := HT5.out.grew bb6
      have HS6 : Hid (BytesAt w6 (some ⟨b6, 0, none⟩) 4 (symOf 6 x n 4 id')) := S6
      have HP6 : Hid (BytesAt w6 (some ⟨b5, 0, none⟩) 4 (symOf 6 x n 4 id)) := HS5.out.grew bb6
      clear S6 bb6 HT5 HS5
      go_wp2_with fail
      refine (badd_yes N B R 6 n 4 k id c5 S _ _ w6 HT6.out.one HP6.out (by decide) (by omega)).mono ?_
      rintro e w7 ⟨rfl, N7, k7⟩
      have HO7 : Hid (BasinAt w7 N B R 6 n 4 k (addOf S k (symRow 6 x n 4 k id)).2) := N7
      have HW7 : Hid (BasinAt w7 N' B' R' 6 n 4 k T) := HT6.out.two.kept k7 HT6.out.one.apart HT6.out.ne.symm
      have HB7 : Hid (Below w.heap.size w w7) := HT6.out.below.trans (k7.below HT6.out.ga HT6.out.below.size)
      have HS7 : Hid (BytesAt w7 (some ⟨b6, 0, none⟩) 4 (symOf 6 x n 4 id')) := HS6.out.kept k7 HT6.out.one.apart
      have HC : Hid (R ≠ R' ∧ w.heap.size ≤ R ∧ w.heap.size ≤ R' ∧ Gath k (piece x n 4) S (Syms x n k y (fun i => i) j) ∧ Gath k (piece x n 4) T (Syms x n k y (perm m t) j)) := ⟨HT6.out.ne, HT6.out.ga, HT6.out.gb, HT6.out.gs, HT6.out.gt⟩
      clear N7 k7 HS6 HP6 HT6
      go_wp2_with fail
      refine (badd_yes N' B' R' 6 n 4 k id' c6 T _ _ w7 HW7.out HS7.out (by decide) (by omega)).mono ?_
      rintro e w8 ⟨rfl, N8, k8⟩
      have HT8 : Hid (Both w w8 N B R N' B' R' n k m t (j + 1) x y (addOf S k (symRow 6 x n 4 k id)).2 (addOf T k (symRow 6 x n 4 k id')).2) := by
        obtain ⟨q1, q2, q3, q4, q5⟩ := HC.out
        refine ⟨HO7.out.kept k8 HW7.out.apart q1, N8, q1, q2, q3, HB7.out.trans (k8.below q3 HB7.out.size), ?_, ?_⟩
        · rw [EI.out j rfl]
          exact ((q4.step HZ.out (symRow_sp 6 x n 4 k _ HK.out)).1).congr (syms_next x n k y (fun i => i) j)
        · rw [EI'.out]
          exact ((q5.step HZ.out (symRow_sp 6 x n 4 k _ HK.out)).1).congr (syms_next x n k y (perm m t) j)
      clear N8 k8 HC HO7 HW7 HB7 HS7
      go_wp2_with fail
      go_roundw
      case rel => exact ⟨j + 1, _, _, by omega, by go_num, HT8.out⟩
      case measure => simp [intOf]; omega
    · obtain rfl : j = m := by omega
      clear hjm hj
      have hr : rankTo S k = rankTo T k := HT.out.gs.rank HT.out.gt (syms_turn x n k y j t)
      by_cases hfull : rankTo S k = k
      · have hf' : rankTo T k = k := by omega
        have J1 : Hid (strOf n (joined (solOf S k) 4) = strOf n x) := sol_text HXL.out HT.out.gs.red HT.out.gs.fit hfull HK.out (by decide)
        have J2 : Hid (strOf n (joined (solOf T k) 4) = strOf n x) := sol_text HXL.out HT.out.gt.red HT.out.gt.fit hf' HK.out (by decide)
        have HF : Hid (rankTo S k = k) := hfull
        have HF' : Hid (rankTo T k = k) := hf'
        clear hr hfull hf'
        go_wp2_with fail
        refine (bpay_yes N B R 6 n 4 k S _ HT.out.one HF.out n1 (by omega) HK.out.symm).mono ?_
        rintro e w5 ⟨b5, c5, rfl, -, -, -, B5, bb5⟩
        have HT5 : Hid (Both w w5 N B R N' B' R' n k j t j x y S T) := HT.out.grew bb5
        have HS5 : Hid (BytesAt w5 (some ⟨b5, 0, none⟩) n (joined (solOf S k) 4)) := B5
        clear B5 bb5 HT
        go_wp2_with fail
        refine (bpay_yes N' B' R' 6 n 4 k T _ HT5.out.two HF'.out n1 (by omega) HK.out.symm).mono ?_
        rintro e w6 ⟨b6, c6, rfl, -, -, -, B6, bb6⟩
        have HT6 : Hid (Both w w6 N B R N' B' R' n k j t j x y S T) := HT5.out.grew bb6
        have HS6 : Hid (BytesAt w6 (some ⟨b6, 0, none⟩) n (joined (solOf T k) 4)) := B6
        have HP6 : Hid (BytesAt w6 (some ⟨b5, 0, none⟩) n (joined (solOf S k) 4)) := HS5.out.grew bb6
        clear B6 bb6 HT5 HS5
        go_wp2_with fail
        refine (bmiss_yes N B R 6 n 4 k S w6 HT6.out.one).mono ?_
        rintro e w7 ⟨rfl, q7⟩
        have HT7 : Hid (Both w w7 N B R N' B' R' n k j t j x y S T) := HT6.out.same q7
        have HS7 : Hid (BytesAt w7 (some ⟨b6, 0, none⟩) n (joined (solOf T k) 4)) := q7.bytes HS6.out
        have HP7 : Hid (BytesAt w7 (some ⟨b5, 0, none⟩) n (joined (solOf S k) 4)) := q7.bytes HP6.out
        rw [HF.out]
        clear q7 HT6 HS6 HP6
        go_wp2_with fail
        refine (bmiss_yes N' B' R' 6 n 4 k T w7 HT7.out.two).mono ?_
        rintro e w8 ⟨rfl, q8⟩
        rw [HF'.out]
        have HB8 : Hid (Below w.heap.size w w8) := HT7.out.below.trans (q8.below _)
        have e1 := conv_bytes _ n c5 _ _ (q8.bytes HP7.out)
        have e2 := conv_bytes _ n c6 _ _ (q8.bytes HS7.out)
        rw [J1.out] at e1
        rw [J2.out] at e2
        have e3 := conv_bytes a n c x _ (HX.out.below HB8.out (Nat.le_refl _))
        clear q8 HT7 HS7 HP7 J1 J2
        go_wp2
        go_ret
        exact ⟨rfl, HB8.out⟩
      · have hf1 : rankTo S k < k := by have := rankTo_le S k; omega
        have hf2 : rankTo T k < k := by omega
        have HR : Hid (rankTo S k = rankTo T k) := hr
        clear hr hfull
        go_wp2_with fail
        refine (bpay_no N B R 6 n 4 k S _ HT.out.one hf1).mono ?_
        rintro e w5 ⟨rfl, q5⟩
        have HT5 : Hid (Both w w5 N B R N' B' R' n k j t j x y S T) := HT.out.same q5
        clear q5 HT
        go_wp2_with fail
        refine (bpay_no N' B' R' 6 n 4 k T _ HT5.out.two hf2).mono ?_
        rintro e w6 ⟨rfl, q6⟩
        have HT6 : Hid (Both w w6 N B R N' B' R' n k j t j x y S T) := HT5.out.same q6
        clear q6 HT5
        go_wp2_with fail
        refine (bmiss_yes N B R 6 n 4 k S w6 HT6.out.one).mono ?_
        rintro e w7 ⟨rfl, q7⟩
        have HT7 : Hid (Both w w7 N B R N' B' R' n k j t j x y S T) := HT6.out.same q7
        rw [HR.out]
        clear q7 HT6
        go_wp2_with fail
        refine (bmiss_yes N' B' R' 6 n 4 k T w7 HT7.out.two).mono ?_
        rintro e w8 ⟨rfl, q8⟩
        have HB8 : Hid (Below w.heap.size w w8) := HT7.out.below.trans (q8.below _)
        have e1 := conv_bytes none 0 0 (fun _ => 0) w8 (bytes_none _ _ _)
        clear q8 HT7
        generalize k - rankTo T k = mm at *
        go_wp2
        go_ret
        exact ⟨rfl, HB8.out⟩

theorem walk (a0 : Option Addr) (len0 cap0 : Nat) (z0 : List Int) (a1 : Option Addr) (len1 cap1 : Nat) (z1 : List Int) (a2 : Int) (w : World) (w0 : IsRow .u8 w a0 len0 cap0 z0) (w1 : IsRow .u8 w a1 len1 cap1 z1) (w2 : (Lit.int .u8 a2).wf = true) :
    Calls Try.prog 7 #[.slice a0 len0 cap0, .slice a1 len1 cap1, .int .u8 a2] w fun e w' => e = .returned (.bool true) ∧ Below w.heap.size w w' := by
  have b2 := bounds_u8 w2
  obtain ⟨t, rfl⟩ : ∃ n : Nat, a2 = n := ⟨a2.toNat, by omega⟩
  have r0 : Came w a0 len0 cap0 z0 := w0
  have r1 : Came w a1 len1 cap1 z1 := w1
  obtain ⟨h0, -, -⟩ := r0.bytes
  obtain ⟨h1, -, -⟩ := r1.bytes
  by_cases hl : 1 ≤ len0 ∧ len0 ≤ 30 ∧ len1 ≤ 20
  · exact core a0 len0 cap0 a1 len1 cap1 t _ _ _ w h0 h1 hl.1 hl.2.1 hl.2.2 (by omega) rfl
  · exact none' a0 len0 cap0 a1 len1 cap1 t w hl

/-! ### THE ROW's STEP: WRITTEN OUT: LEAVE IT -/
set_option maxRecDepth 100000 in
theorem lifted (os : Os) (started : os.Started) (H : Type) (enc : TypeId × Value → H) :
    ReturnsInHanded {} Try.checked os 7 .any (Rows.basinOrderSpec.pre6 enc Try.prog Try.f7 Rows.basinOrderRow.domain false) (Rows.basinOrderSpec.post enc Try.prog Try.f7 false true false false) := by
  refine returnsInHanded_of_change (C := Try.checked) own started (by kernel_rfl) Try.func7
    (ChangeSpec.witness6 (enc := enc) (C := Try.checked) false ⟨#[], #[.slice none 0 0, .slice none 0 0, .int .u8 0], []⟩ 8 (by kernel_rfl) (by kernel_rfl) (by kernel_rfl) (by kernel_rfl)) ?_
  intro W base args ds gs before hval0 hW hcnd _
  have hval : ∀ (j : Nat) t v, Try.f7.params[j]? = some t → args[j]? = some v → Value.okWide Try.prog W .any base t v := hval0
  have hW' := hW
  obtain ⟨p, q, hA0, hV, rfl, hfz, hnd⟩ := hW
  have hA : DataW.TrodAll enc Try.prog W 0 (fun _ => true) true Try.f7.params.toList args.toList ds p := hA0
  rw [Try.params7] at hA hval
  obtain ⟨v0, vs0, d0, ds0, p0, q0, hargs, rfl, rfl, h0, r0⟩ := trodAll_cons hA
  obtain ⟨v1, vs1, d1, ds1, p1, q1, rfl, rfl, rfl, h1, r1⟩ := trodAll_cons r0
  obtain ⟨v2, vs2, d2, ds2, p2, q2, rfl, rfl, rfl, h2, r2⟩ := trodAll_cons r1
  obtain ⟨rfl, rfl, rfl⟩ := trodAll_nil r2
  obtain rfl : args = #[v0, v1, v2] := by cases args; simp_all
  obtain ⟨rfl, rfl⟩ := trodVars_none hV
  obtain ⟨a0, len0, cap0, rfl⟩ := okWide_slice Try.underlying34 (hval 0 34 v0 rfl rfl)
  have k0 := h0
  have lt0 : ∀ x ∈ p0, x.block < W.heap.size := by obtain ⟨m, hm⟩ := k0; exact DataW.trod_lt m _ _ _ hm
  obtain ⟨z0, w0⟩ : ∃ zs, IsRow .u8 W a0 len0 cap0 zs := by
    obtain ⟨fuel, hf⟩ := h0
    rcases open_ints Try.underlying34 Try.underlying5 (by kernel_rfl) hf with ⟨hcs, _⟩ | ⟨x, l, c, zs, hcs, _, hl, hm, hz, _, hcell, hwz⟩
    · simp [Value.cells] at hcs
      obtain ⟨rfl, rfl, rfl⟩ := hcs
      exact ⟨[], .inl ⟨rfl, rfl, rfl, rfl⟩⟩
    · simp [Value.cells] at hcs
      obtain ⟨rfl, rfl, rfl⟩ := hcs
      exact ⟨zs, .inr ⟨_, rfl, hl, hm, by simpa using hz, hcell, hwz⟩⟩
  obtain ⟨a1, len1, cap1, rfl⟩ := okWide_slice Try.underlying34 (hval 1 34 v1 rfl rfl)
  have k1 := h1
  have lt1 : ∀ x ∈ p1, x.block < W.heap.size := by obtain ⟨m, hm⟩ := k1; exact DataW.trod_lt m _ _ _ hm
  obtain ⟨z1, w1⟩ : ∃ zs, IsRow .u8 W a1 len1 cap1 zs := by
    obtain ⟨fuel, hf⟩ := h1
    rcases open_ints Try.underlying34 Try.underlying5 (by kernel_rfl) hf with ⟨hcs, _⟩ | ⟨x, l, c, zs, hcs, _, hl, hm, hz, _, hcell, hwz⟩
    · simp [Value.cells] at hcs
      obtain ⟨rfl, rfl, rfl⟩ := hcs
      exact ⟨[], .inl ⟨rfl, rfl, rfl, rfl⟩⟩
    · simp [Value.cells] at hcs
      obtain ⟨rfl, rfl, rfl⟩ := hcs
      exact ⟨zs, .inr ⟨_, rfl, hl, hm, by simpa using hz, hcell, hwz⟩⟩
  obtain ⟨a2, rfl, rfl, rfl, w2⟩ := open_int Try.underlying5 (hval 2 5 v2 rfl rfl) h2
  clear hA0 hval0
  refine (walk a0 len0 cap0 z0 a1 len1 cap1 z1 a2 W w0 w1 w2).mono fun e W' ⟨he, bel⟩ => ?_
  subst he
  exact ⟨_, rfl, _, _, _, [], _, [], hW', trodAll_mk1 (shut_bool Try.underlying4 _), (trodAll_cons_mk (Below.trod laidOut (by kernel_rfl) (of_decide_eq_true (by kernel_rfl)) k0 bel lt0) (trodAll_cons_mk (Below.trod laidOut (by kernel_rfl) (of_decide_eq_true (by kernel_rfl)) k1 bel lt1) (trodAll_cons_mk (shut_int Try.underlying5 w2) trodAll_mk0))), rfl, bel.frame _, fun h => by cases h⟩

theorem over : Rows.basinOrderRow.holds Try.pinned (OpenSpec.ofChange Rows.basinOrderSpec) :=
  OpenClaim.holds_of_wide 7 Try.f7 rfl rfl rfl rfl rfl rfl rfl ⟨rfl, rfl, rfl, rfl, rfl⟩ rfl rfl rfl rfl rfl (by kernel_rfl) Try.func7 (by kernel_rfl)
    (of_decide_eq_true (by kernel_rfl)) (by unfold Func.isWrapper; first | (rw [if_pos (by decide +kernel)]; kernel_rfl) | (rw [if_neg (by decide +kernel)]; exact ⟨rfl, rfl⟩))
    (fun os started H enc _ => lifted os started H enc)

theorem proved : Rows.BasinOrderSaid := over
end Go.Proofs.Ytgbeklifcchmlaa.basinOrder
namespace Go.Proofs.Ytgbeklifcchmlaa
theorem basinOrder_holds : Rows.BasinOrderSaid := basinOrder.proved
#print axioms basinOrder_holds
end Go.Proofs.Ytgbeklifcchmlaa
