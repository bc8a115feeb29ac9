/-
  What is put is taken, and what is taken is put so: plain mathematics of packets.
-/
import Derived.Test.YtcflaklnafggmaaPta
namespace Go.Proofs.Ytcflaklnafggmaa
open Go.RowKit Go.Deep

/-- All alike, the Bodies as far as they go. -/
structure Alike (p q : Pk) : Prop where
  k : p.k = q.k
  s : p.s = q.s
  t : p.t = q.t
  f : p.f = q.f
  y : p.y = q.y
  n : p.n = q.n
  x : ∀ i, i < p.n → p.x i = q.x i
  T : p.T = q.T
  l : p.l = q.l
  g : p.g = q.g
  u : p.u = q.u
  j : p.j = q.j
  F : p.F = q.F
  d : p.d = q.d
theorem PkIs.alike {w w' : World} {p q : Pk} {E : Nat} {e : Ending} (h : PkIs w p E e w') (a : Alike p q) : PkIs w q E e w' := by
  obtain ⟨r, c, rfl, h1, h2, h3, h4⟩ := h
  refine ⟨r, c, ?_, a.n ▸ h1, a.n ▸ h2, a.n ▸ (h3.congr a.x), h4⟩
  rw [a.k, a.s, a.t, a.f, a.y, a.n, a.T, a.l, a.g, a.u, a.j, a.F, a.d]
/-- A packet without what its Kind has not. -/
def bare (p : Pk) : Pk := if p.k = 1 then pData p.s p.t p.f p.y p.n p.x else if p.k = 2 then pRep p.T p.l p.g p.u p.j else if p.k = 3 then pNack p.F p.d else pGone p.F
theorem bE_kind {p : Pk} (h : bE p = 0) : 1 ≤ p.k ∧ p.k ≤ 4 := by
  by_cases hk : 1 ≤ p.k ∧ p.k ≤ 4
  · exact hk
  · rw [b_other hk] at h; exact absurd h (by decide)
theorem pt_open {p : Pk} (o : p.Ok) (h : bE p = 0) : opB (ptX p) (1 + bN p + 4) = true ∧ opN (ptX p) (1 + bN p + 4) = 1 + bN p := by
  have hk := bE_kind h
  exact op_yes (Crc.ok_seal fun i hi => wire_lt (by omega) (fun i hi => bX_lt o i hi) i hi)
theorem ptX_zero (p : Pk) : ptX p 0 = p.k.toNat := by unfold ptX Crc.seald; rw [if_pos (by omega)]; rfl
theorem ptX_succ (p : Pk) (i : Nat) (hi : i < bN p) : ptX p (1 + i) = bX p i := by unfold ptX Crc.seald; rw [if_pos (by omega), wire_succ]
theorem pt_in {p : Pk} (o : p.Ok) (h : bE p = 0) : tkP (ptN p) (ptX p) = inP p.k.toNat (bN p) (fun i => ptX p (1 + i)) := by
  rw [ptN_yes h, tk_in (m := bN p) ((pt_open o h).2.trans (Nat.add_comm _ _)), ptX_zero]
theorem in_data (s t f y n : Nat) (x z : Nat → Nat) (h1 : 1 ≤ n) (h2 : n ≤ 64) (ls : s < 65536) (lt : t < 65536) (lf : f < 4294967296) (ly : y < 65536) (hz : ∀ i, i < 10 + n → z i = laid s t f y x i) :
    ∃ q, inP 1 (10 + n) z = some q ∧ Alike q (pData s t f y n x) := by
  refine ⟨_, inP_data (tk_yes (by omega) (by omega)), rfl, ?_, ?_, ?_, ?_, ?_, ?_, rfl, rfl, rfl, rfl, rfl, rfl, rfl⟩
  · exact (numTo_congr 2 fun i hi => (hz i (by omega)).trans (laid_seq s t f y x i hi)).trans (numTo_high s 2 ls)
  · exact (numTo_congr 2 (y := high t 2) fun i hi => (hz (2 + i) (by omega)).trans (laid_stamp s t f y x i hi)).trans (numTo_high t 2 lt)
  · exact (numTo_congr 4 (y := high f 4) fun i hi => (hz (4 + i) (by omega)).trans (laid_frame s t f y x i hi)).trans (numTo_high f 4 lf)
  · exact (numTo_congr 2 (y := high y 2) fun i hi => (hz (8 + i) (by omega)).trans (laid_symbol s t f y x i hi)).trans (numTo_high y 2 ly)
  · exact Nat.add_sub_cancel_left 10 n
  · intro i hi
    have hi : i < 10 + n - 10 := hi
    exact (hz (10 + i) (by omega)).trans (laid_body s t f y x i)
theorem in_rep (T l g u j : Nat) (z : Nat → Nat) (lT : T < 18446744073709551616) (ll : l < 4294967296) (lg : g < 4294967296) (lu : u < 65536) (lj : j < 65536) (hz : ∀ i, i < 20 → z i = repLaid T l g u j i) :
    ∃ q, inP 2 20 z = some q ∧ Alike q (pRep T l g u j) := by
  refine ⟨_, inP_rep z, rfl, rfl, rfl, rfl, rfl, rfl, fun i hi => absurd hi (Nat.not_lt_zero i), ?_, ?_, ?_, ?_, ?_, rfl, rfl⟩
  · exact (numTo_congr 8 (y := high T 8) fun i hi => (hz i (by omega)).trans (by have := repLaid_top T l g u j i hi; rwa [Nat.zero_add] at this)).trans (numTo_high T 8 lT)
  · exact (numTo_congr 4 (y := high l 4) fun i hi => (hz (8 + i) (by omega)).trans (repLaid_lost T l g u j i hi)).trans (numTo_high l 4 ll)
  · exact (numTo_congr 4 (y := high g 4) fun i hi => (hz (12 + i) (by omega)).trans (repLaid_got T l g u j i hi)).trans (numTo_high g 4 lg)
  · exact (numTo_congr 2 (y := high u 2) fun i hi => (hz (16 + i) (by omega)).trans (repLaid_burst T l g u j i hi)).trans (numTo_high u 2 lu)
  · exact (numTo_congr 2 (y := high j 2) fun i hi => (hz (18 + i) (by omega)).trans (repLaid_jitter T l g u j i hi)).trans (numTo_high j 2 lj)
theorem in_nack (F d : Nat) (z : Nat → Nat) (lF : F < 4294967296) (ld : d < 65536) (hz : ∀ i, i < 6 → z i = nackLaid F d i) :
    ∃ q, inP 3 6 z = some q ∧ Alike q (pNack F d) := by
  refine ⟨_, inP_nack z, rfl, rfl, rfl, rfl, rfl, rfl, fun i hi => absurd hi (Nat.not_lt_zero i), rfl, rfl, rfl, rfl, rfl, ?_, ?_⟩
  · exact (numTo_congr 4 (y := high F 4) fun i hi => (hz i (by omega)).trans (nackLaid_frame F d i hi)).trans (numTo_high F 4 lF)
  · exact (numTo_congr 2 (y := high d 2) fun i hi => (hz (4 + i) (by omega)).trans (nackLaid_need F d i hi)).trans (numTo_high d 2 ld)
theorem in_gone (F : Nat) (z : Nat → Nat) (lF : F < 4294967296) (hz : ∀ i, i < 4 → z i = goneLaid F i) :
    ∃ q, inP 4 4 z = some q ∧ Alike q (pGone F) := by
  refine ⟨_, inP_gone z, rfl, rfl, rfl, rfl, rfl, rfl, fun i hi => absurd hi (Nat.not_lt_zero i), rfl, rfl, rfl, rfl, rfl, ?_, rfl⟩
  exact (numTo_congr 4 (y := high F 4) fun i hi => (hz i hi).trans (goneLaid_is F i)).trans (numTo_high F 4 lF)
theorem putE_fit {n : Nat} (h : putE n = 0) : 1 ≤ n ∧ n ≤ 64 := by
  by_cases hn : 1 ≤ n ∧ n ≤ 64
  · exact hn
  · rw [(put_unfit (fit_no hn)).2] at h; exact absurd h (by decide)
/-- What is put is taken. -/
theorem pt_take {p : Pk} (o : p.Ok) (h : bE p = 0) : ∃ q, tkP (ptN p) (ptX p) = some q ∧ Alike q (bare p) := by
  rw [pt_in o h]
  have hz : ∀ i, i < bN p → (fun i => ptX p (1 + i)) i = bX p i := fun i hi => ptX_succ p i hi
  obtain ⟨k1, k2⟩ := bE_kind h
  unfold bare
  by_cases e1 : p.k = 1
  · obtain ⟨n1, n2, n3⟩ := b_data e1
    rw [n1, n2] at hz
    obtain ⟨m1, m2⟩ := putE_fit (n3.symm.trans h)
    rw [if_pos e1, n1, e1]
    exact in_data _ _ _ _ _ _ _ m1 m2 o.ls o.lt o.lf o.ly hz
  by_cases e2 : p.k = 2
  · obtain ⟨n1, n2, -⟩ := b_rep e2
    rw [n1, n2] at hz
    rw [if_neg e1, if_pos e2, n1, e2]
    exact in_rep _ _ _ _ _ _ o.lT o.ll o.lg o.lu o.lj hz
  by_cases e3 : p.k = 3
  · obtain ⟨n1, n2, -⟩ := b_nack e3
    rw [n1, n2] at hz
    rw [if_neg e1, if_neg e2, if_pos e3, n1, e3]
    exact in_nack _ _ _ o.lF o.ld hz
  · have e4 : p.k = 4 := by omega
    obtain ⟨n1, n2, -⟩ := b_gone e4
    rw [n1, n2] at hz
    rw [if_neg e1, if_neg e2, if_neg e3, n1, e4]
    exact in_gone _ _ o.lF hz
theorem tk_back {p : Pk} (o : p.Ok) (h : bE p = 0) {w w' : World} {e : Ending} (ht : TkIs w (ptN p) (ptX p) e w') : PkIs w (bare p) 0 e w' := by
  obtain ⟨q, hq, ha⟩ := pt_take o h
  have hb : opB (ptX p) (ptN p) = true := by rw [ptN_yes h]; exact (pt_open o h).1
  unfold TkIs at ht
  rw [tk_open hb, hq] at ht
  exact ht.alike ha

theorem seald_of {x z : Nat → Nat} {n : Nat} (hx : ∀ i, i < n + 4 → x i < 256) (hok : Crc.ok x n) (hz : ∀ i, i < n → z i = x i) (i : Nat) (hi : i < n + 4) : Crc.seald z n i = x i := by
  unfold Crc.seald
  by_cases h : i < n
  · rw [if_pos h]; exact hz i h
  · rw [if_neg h, Crc.sum_congr n hz]
    have hs := Crc.sum_lt n (x := x) fun i hi => hx i (by omega)
    have e := Crc.num_inj (x := Crc.byt (Crc.sum x n)) (y := fun i => x (n + i)) (fun i _ => Crc.byt_lt _ i) (fun i hi => hx (n + i) (by omega)) ((Crc.num_byt hs).trans hok.symm) (i - n) (by omega)
    rw [e]
    exact congrArg x (by omega)
theorem z16 : 0 < 65536 := by decide
theorem z32 : 0 < 4294967296 := by decide
theorem z64 : 0 < 18446744073709551616 := by decide
/-- What is taken behind a Kind is put so. -/
theorem in_put {k m : Nat} {y : Nat → Nat} {q : Pk} (hy : ∀ i, i < m → y i < 256) (h : inP k m y = some q) : q.Ok ∧ bE q = 0 ∧ bN q = m ∧ ∀ i, i < m → bX q i = y i := by
  have two : ∀ z : Nat → Nat, (∀ i, i < 2 → z i < 256) → Crc.numTo z 2 < 65536 := fun z hz => Crc.numTo_lt 2 hz
  have four : ∀ z : Nat → Nat, (∀ i, i < 4 → z i < 256) → Crc.numTo z 4 < 4294967296 := fun z hz => Crc.numTo_lt 4 hz
  have eight : ∀ z : Nat → Nat, (∀ i, i < 8 → z i < 256) → Crc.numTo z 8 < 18446744073709551616 := fun z hz => Crc.numTo_lt 8 hz
  obtain ⟨hk, k1, k2⟩ := inP_k h
  match k, k1, k2 with
  | 1, _, _ =>
    by_cases hm : 11 ≤ m ∧ m ≤ 74
    · obtain rfl := Option.some.inj ((inP_data (tk_yes hm.1 hm.2)).symm.trans h)
      refine ⟨⟨two _ fun i hi => hy i (by omega), two _ fun i hi => hy _ (by omega), four _ fun i hi => hy _ (by omega), two _ fun i hi => hy _ (by omega), z64, z32, z32, z16, z16, z32, z16, fun i hi => hy _ (by have hi : i < m - 10 := hi; omega)⟩, ?_, ?_, ?_⟩
      · rw [(b_data rfl).2.2]; exact (put_fit (fit_yes (by show 1 ≤ m - 10; omega) (by show m - 10 ≤ 64; omega))).2
      · rw [(b_data rfl).1]; show 10 + (m - 10) = m; omega
      · intro i hi
        rw [(b_data rfl).2.1]; exact laid_taken (by omega) hy i
    · exact nomatch ((inP_data_no (tk_no hm)).symm.trans h)
  | 2, _, _ =>
    by_cases hm : m = 20
    · subst hm
      obtain rfl := Option.some.inj ((inP_rep y).symm.trans h)
      refine ⟨⟨z16, z16, z32, z16, eight _ fun i hi => hy i (by omega), four _ fun i hi => hy _ (by omega), four _ fun i hi => hy _ (by omega), two _ fun i hi => hy _ (by omega), two _ fun i hi => hy _ (by omega), z32, z16, fun i hi => absurd hi (Nat.not_lt_zero i)⟩, (b_rep rfl).2.2, (b_rep rfl).1, ?_⟩
      intro i hi
      rw [(b_rep rfl).2.1]; exact repLaid_taken hy i hi
    · exact nomatch ((inP_rep_no hm).symm.trans h)
  | 3, _, _ =>
    by_cases hm : m = 6
    · subst hm
      obtain rfl := Option.some.inj ((inP_nack y).symm.trans h)
      refine ⟨⟨z16, z16, z32, z16, z64, z32, z32, z16, z16, four _ fun i hi => hy i (by omega), two _ fun i hi => hy _ (by omega), fun i hi => absurd hi (Nat.not_lt_zero i)⟩, (b_nack rfl).2.2, (b_nack rfl).1, ?_⟩
      intro i hi
      rw [(b_nack rfl).2.1]; exact nackLaid_taken hy i hi
    · exact nomatch ((inP_nack_no hm).symm.trans h)
  | 4, _, _ =>
    by_cases hm : m = 4
    · subst hm
      obtain rfl := Option.some.inj ((inP_gone y).symm.trans h)
      refine ⟨⟨z16, z16, z32, z16, z64, z32, z32, z16, z16, four _ fun i hi => hy i (by omega), z16, fun i hi => absurd hi (Nat.not_lt_zero i)⟩, (b_gone rfl).2.2, (b_gone rfl).1, ?_⟩
      intro i hi
      rw [(b_gone rfl).2.1]; exact goneLaid_taken hy i hi
    · exact nomatch ((inP_gone_no hm).symm.trans h)
/-- A packet that is taken is put as those bytes. -/
theorem tk_put {L : Nat} {x : Nat → Nat} {q : Pk} (hx : ∀ i, i < L → x i < 256) (h : tkP L x = some q) : q.Ok ∧ bE q = 0 ∧ ptN q = L ∧ ∀ i, i < L → ptX q i = x i := by
  cases hB : opB x L with
  | false => rw [(tk_shut hB).1] at h; exact nomatch h
  | true =>
    have hB' := hB
    unfold opB at hB'
    obtain ⟨h4, hok⟩ := of_decide_eq_true hB'
    have hN : opN x L = L - 4 := by unfold opN; rw [hB]; rfl
    cases hm : opN x L with
    | zero => rw [tk_bare hm] at h; exact nomatch h
    | succ m =>
      have hL : L = 1 + m + 4 := by omega
      subst hL
      rw [tk_in hm] at h
      obtain ⟨o, e1, e2, e3⟩ := in_put (fun i hi => hx _ (by omega)) h
      have hk := (inP_k h).1
      have hlen : 1 + m + 4 - 4 = 1 + m := by omega
      rw [hlen] at hok
      refine ⟨o, e1, by rw [ptN_yes e1, e2], fun i hi => ?_⟩
      unfold ptX
      rw [e2]
      refine seald_of hx hok (fun j hj => ?_) i hi
      cases j with
      | zero => rw [wire_zero, hk]; rfl
      | succ j => rw [Nat.add_comm j 1, wire_succ]; exact e3 j (by omega)
end Go.Proofs.Ytcflaklnafggmaa
