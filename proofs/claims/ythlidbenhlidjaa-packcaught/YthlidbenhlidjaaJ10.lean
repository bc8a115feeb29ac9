/-
  Several texts, one behind the other.
-/
import Derived.Test.YthlidbenhlidjaaJ9
import Derived.OrdersHeld
import Derived.Deep.RegionHeld
/-
  Rows brought into steps one column behind the other, all of them anew: what holds between the columns, and that it comes to the same places and symbols as rows eliminated as they came. Plain mathematics.
-/
namespace Go.Proofs.Ythlidbenhlidjaa

def Gn (V : Nat → Nat → Nat) (m : Nat) (g : Nat → Nat) : Prop := ∃ t, t < m ∧ g = V t

theorem rank_le {T : Nat → Option (Nat → Nat)} {i c : Nat} (h : i ≤ c) : rankTo T i ≤ rankTo T c := by
  induction c with
  | zero => have : i = 0 := by omega
            subst this; exact Nat.le_refl _
  | succ c ih =>
    by_cases e : i = c + 1
    · subst e; exact Nat.le_refl _
    · have := ih (by omega)
      show _ ≤ rankTo T c + _
      omega
theorem rank_lt {T : Nat → Option (Nat → Nat)} {i c : Nat} {r : Nat → Nat} (h : i < c) (hr : T i = some r) : rankTo T i < rankTo T c := by
  have h1 : rankTo T (i + 1) = rankTo T i + 1 := by show rankTo T i + _ = _; rw [hr]; rfl
  have h2 := rank_le (T := T) (show i + 1 ≤ c by omega)
  omega
theorem rank_inj {T : Nat → Option (Nat → Nat)} {i i' : Nat} {r r' : Nat → Nat} (h : T i = some r) (h' : T i' = some r') (hne : i ≠ i') : rankTo T i ≠ rankTo T i' := by
  rcases Nat.lt_or_gt_of_ne hne with g | g
  · have := rank_lt g h; omega
  · have := rank_lt g h'; omega
theorem rank_hit {T : Nat → Option (Nat → Nat)} : ∀ (c t : Nat), t < rankTo T c → ∃ i r, i < c ∧ T i = some r ∧ rankTo T i = t := by
  intro c
  induction c with
  | zero => intro t h; exact absurd h (by show ¬ t < 0; omega)
  | succ c ih =>
    intro t h
    by_cases g : t < rankTo T c
    · obtain ⟨i, r, h1, h2, h3⟩ := ih t g
      exact ⟨i, r, by omega, h2, h3⟩
    · have h : t < rankTo T c + (if (T c).isSome then 1 else 0) := h
      cases hT : T c with
      | none => rw [hT] at h; simp at h; omega
      | some r => rw [hT] at h; simp at h; exact ⟨c, r, by omega, hT, by omega⟩
theorem rank_congr {S T : Nat → Option (Nat → Nat)} (c : Nat) (h : ∀ i, i < c → (S i).isSome = (T i).isSome) : rankTo S c = rankTo T c := rank_same c h

/-- What holds when the first c columns are done: n rows lead, the others are 0 there. -/
structure Stg (m c n : Nat) (V0 V : Nat → Nat → Nat) (T : Nat → Option (Nat → Nat)) : Prop where
  byt : ∀ t, t < m → Byt (V t)
  nr : n = rankTo T c
  le : n ≤ m
  non : ∀ i, c ≤ i → T i = none
  is : ∀ i r, i < c → T i = some r → r = V (rankTo T i)
  one : ∀ i r, i < c → T i = some r → r i = 1
  off : ∀ i r, i < c → T i = some r → ∀ t, t < m → t ≠ rankTo T i → V t i = 0
  low : ∀ i r, i < c → T i = some r → ∀ j, j < i → r j = 0
  rest : ∀ t, n ≤ t → t < m → ∀ j, j < c → V t j = 0
  to : ∀ t, t < m → Sp (Gn V0 m) (V t)
  back : ∀ t, t < m → Sp (Gn V m) (V0 t)

theorem Stg.start {m : Nat} {V : Nat → Nat → Nat} (hb : ∀ t, t < m → Byt (V t)) : Stg m 0 0 V V (fun _ => none) :=
  ⟨hb, rfl, Nat.zero_le _, fun _ _ => rfl, fun _ _ h => absurd h (Nat.not_lt_zero _), fun _ _ h => absurd h (Nat.not_lt_zero _), fun _ _ h => absurd h (Nat.not_lt_zero _), fun _ _ h => absurd h (Nat.not_lt_zero _), fun _ _ _ _ h => absurd h (Nat.not_lt_zero _),
   fun t ht => Sp.gen ⟨t, ht, rfl⟩ (hb t ht), fun t ht => Sp.gen ⟨t, ht, rfl⟩ (hb t ht)⟩

theorem Stg.skip {m c n : Nat} {V0 V : Nat → Nat → Nat} {T : Nat → Option (Nat → Nat)} (h : Stg m c n V0 V T) (hz : ∀ t, n ≤ t → t < m → V t c = 0) : Stg m (c + 1) n V0 V T := by
  have hT : T c = none := h.non c (Nat.le_refl _)
  have lt : ∀ i r, i < c + 1 → T i = some r → i < c := by
    intro i r hi hr
    by_cases e : i = c
    · rw [e, hT] at hr; cases hr
    · omega
  refine ⟨h.byt, ?_, h.le, fun i hi => h.non i (by omega), fun i r hi hr => h.is i r (lt i r hi hr) hr, fun i r hi hr => h.one i r (lt i r hi hr) hr, fun i r hi hr => h.off i r (lt i r hi hr) hr, fun i r hi hr => h.low i r (lt i r hi hr) hr, fun t h1 h2 j hj => ?_, h.to, h.back⟩
  · rw [h.nr]
    show _ = rankTo T c + _
    rw [hT]; rfl
  · by_cases e : j = c
    · subst e; exact hz t h1 h2
    · exact h.rest t h1 h2 j (by omega)

/-- The rows with two of them changed over. -/
def swp (V : Nat → Nat → Nat) (n p : Nat) (t : Nat) : Nat → Nat := if t = n then V p else if t = p then V n else V t
/-- The rows behind a column in which row p leads. -/
def gau (V : Nat → Nat → Nat) (n p c : Nat) (t : Nat) : Nat → Nat :=
  if t = n then addUp (fun _ => 0) (V p) (Gf.inv (V p c)) else addUp (swp V n p t) (V p) (Gf.mul (swp V n p t c) (Gf.inv (V p c)))
def tabN (T : Nat → Option (Nat → Nat)) (V' : Nat → Nat → Nat) (n c : Nat) (i : Nat) : Option (Nat → Nat) :=
  if i = c then some (V' n) else (T i).map (fun _ => V' (rankTo T i))

theorem Stg.pivot {m c n p : Nat} {V0 V : Nat → Nat → Nat} {T : Nat → Option (Nat → Nat)} (h : Stg m c n V0 V T) (hp1 : n ≤ p) (hp2 : p < m) (hpc : V p c ≠ 0) :
    Stg m (c + 1) (n + 1) V0 (gau V n p c) (tabN T (gau V n p c) n c) := by
  have hT : T c = none := h.non c (Nat.le_refl _)
  have pb := h.byt p hp2
  have wb : ∀ t, t < m → Byt (swp V n p t) := by
    intro t ht
    unfold swp
    split
    · exact pb
    · split
      · exact h.byt n (by omega)
      · exact h.byt t ht
  have w0 : ∀ t, n ≤ t → t < m → ∀ j, j < c → swp V n p t j = 0 := by
    intro t h1 h2 j hj
    unfold swp
    split
    · exact h.rest p hp1 hp2 j hj
    · split
      · exact h.rest n (Nat.le_refl _) (by omega) j hj
      · exact h.rest t h1 h2 j hj
  have wl : ∀ t, t < n → swp V n p t = V t := by
    intro t ht
    unfold swp
    rw [if_neg (by omega), if_neg (by omega)]
  have gn : gau V n p c n = addUp (fun _ => 0) (V p) (Gf.inv (V p c)) := by unfold gau; rw [if_pos rfl]
  have gt : ∀ t, t ≠ n → gau V n p c t = addUp (swp V n p t) (V p) (Gf.mul (swp V n p t c) (Gf.inv (V p c))) := by
    intro t ht; unfold gau; rw [if_neg ht]
  have gb : ∀ t, t < m → Byt (gau V n p c t) := by
    intro t ht
    by_cases e : t = n
    · subst e; rw [gn]; exact addUp_byt (fun _ => Nat.zero_lt_succ _)
    · rw [gt t e]; exact addUp_byt (wb t ht)
  have g1 : gau V n p c n c = 1 := by
    rw [gn]; unfold addUp; rw [Nat.zero_xor, Gf.mul_comm, Gf.mul_inv _ (pb c) hpc]
  have gc : ∀ t, t < m → t ≠ n → gau V n p c t c = 0 := by
    intro t ht e
    rw [gt t e]
    unfold addUp
    rw [← Gf.mul_assoc, Gf.mul_comm (Gf.inv (V p c)), Gf.mul_inv _ (pb c) hpc, Gf.mul_one _ (wb t ht c), Nat.xor_self]
  have gj : ∀ t, t ≠ n → ∀ j, j < c → gau V n p c t j = swp V n p t j := by
    intro t e j hj
    rw [gt t e]
    unfold addUp
    rw [h.rest p hp1 hp2 j hj, Gf.mul_zero, Nat.xor_zero]
  have gnj : ∀ j, j < c → gau V n p c n j = 0 := by
    intro j hj
    rw [gn]
    unfold addUp
    rw [h.rest p hp1 hp2 j hj, Gf.mul_zero, Nat.xor_zero]
  have rk : ∀ i, i ≤ c → rankTo (tabN T (gau V n p c) n c) i = rankTo T i := by
    intro i hi
    refine rank_congr i fun j hj => ?_
    unfold tabN
    rw [if_neg (by omega)]
    cases T j <;> rfl
  have inv : ∀ i r, i < c + 1 → tabN T (gau V n p c) n c i = some r → (i = c ∧ r = gau V n p c n) ∨ (i < c ∧ ∃ r0, T i = some r0 ∧ r = gau V n p c (rankTo T i) ∧ rankTo T i < n) := by
    intro i r hi hr
    unfold tabN at hr
    by_cases e : i = c
    · rw [if_pos e] at hr; exact .inl ⟨e, (Option.some.inj hr).symm⟩
    · rw [if_neg e] at hr
      cases hTi : T i with
      | none => rw [hTi] at hr; cases hr
      | some r0 =>
        rw [hTi] at hr
        have hic : i < c := by omega
        exact .inr ⟨hic, r0, rfl, (Option.some.inj hr).symm, by rw [h.nr]; exact rank_lt hic hTi⟩
  refine ⟨gb, ?_, by omega, fun i hi => ?_, fun i r hi hr => ?_, fun i r hi hr => ?_, fun i r hi hr t ht hne => ?_, fun i r hi hr j hj => ?_, fun t h1 h2 j hj => ?_, fun t ht => ?_, fun t ht => ?_⟩
  · show _ = rankTo (tabN T (gau V n p c) n c) c + _
    rw [rk c (Nat.le_refl _), ← h.nr]
    unfold tabN
    rw [if_pos rfl]
    rfl
  · unfold tabN
    rw [if_neg (by omega), h.non i (by omega)]
    rfl
  · rcases inv i r hi hr with ⟨rfl, e⟩ | ⟨hic, r0, -, e, -⟩
    · rw [rk i (Nat.le_refl _), ← h.nr]; exact e
    · rw [rk i (by omega)]; exact e
  · rcases inv i r hi hr with ⟨rfl, rfl⟩ | ⟨hic, r0, h0, rfl, hlt⟩
    · exact g1
    · rw [gj _ (by omega) i hic, wl _ hlt, ← h.is i r0 hic h0]
      exact h.one i r0 hic h0
  · rcases inv i r hi hr with ⟨rfl, -⟩ | ⟨hic, r0, h0, -, hlt⟩
    · rw [rk i (Nat.le_refl _), ← h.nr] at hne
      exact gc t ht hne
    · rw [rk i (by omega)] at hne
      by_cases e : t = n
      · subst e; exact gnj i hic
      · rw [gj t e i hic]
        by_cases g : t < n
        · rw [wl t g]; exact h.off i r0 hic h0 t ht hne
        · exact w0 t (by omega) ht i hic
  · rcases inv i r hi hr with ⟨rfl, rfl⟩ | ⟨hic, r0, h0, rfl, hlt⟩
    · exact gnj j hj
    · rw [gj _ (by omega) j (by omega), wl _ hlt, ← h.is i r0 hic h0]
      exact h.low i r0 hic h0 j hj
  · have e : t ≠ n := by omega
    by_cases ej : j = c
    · subst ej; exact gc t h2 e
    · rw [gj t e j (by omega)]; exact w0 t (by omega) h2 j (by omega)
  · have hV : ∀ t, t < m → Sp (Gn V0 m) (swp V n p t) := by
      intro t ht
      unfold swp
      split
      · exact h.to p hp2
      · split
        · exact h.to n (by omega)
        · exact h.to t ht
    by_cases e : t = n
    · subst e; rw [gn]; exact Sp.zero.add (h.to p hp2) (Gf.inv_lt _)
    · rw [gt t e]; exact (hV t ht).add (h.to p hp2) (Gf.mul_lt _ _)
  · have hn : Sp (Gn (gau V n p c) m) (gau V n p c n) := Sp.gen ⟨n, by omega, rfl⟩ (gb n (by omega))
    have hvp : Sp (Gn (gau V n p c) m) (V p) := by
      have h1 := Sp.zero.add hn (pb c)
      have e : addUp (fun _ => 0) (gau V n p c n) (V p c) = V p := by
        rw [gn]
        funext j
        unfold addUp
        rw [Nat.zero_xor, Nat.zero_xor, Gf.mul_assoc, Gf.mul_inv _ (pb c) hpc, mul_one' _ (pb j)]
      rwa [e] at h1
    have hw : ∀ t, t < m → Sp (Gn (gau V n p c) m) (swp V n p t) := by
      intro t ht
      by_cases e : t = n
      · subst e; unfold swp; rw [if_pos rfl]; exact hvp
      · have h1 : Sp (Gn (gau V n p c) m) (gau V n p c t) := Sp.gen ⟨t, ht, rfl⟩ (gb t ht)
        have h2 := h1.add hvp (Gf.mul_lt (swp V n p t c) (Gf.inv (V p c)))
        rw [gt t e, addUp_back] at h2
        exact h2
    refine (h.back t ht).mono fun g hg => ?_
    obtain ⟨s, hs, rfl⟩ := hg
    by_cases e : s = n
    · subst e
      by_cases e2 : p = s
      · subst e2; exact hvp
      · have := hw p hp2
        unfold swp at this
        rwa [if_neg e2, if_pos rfl] at this
    · by_cases e2 : s = p
      · subst e2; exact hvp
      · have := hw s hs
        unfold swp at this
        rwa [if_neg e, if_neg e2] at this

/-- At the end the rows that lead stand in steps. -/
theorem Stg.red {m k n : Nat} {V0 V : Nat → Nat → Nat} {T : Nat → Option (Nat → Nat)} (h : Stg m k n V0 V T) : Red T k := by
  refine ⟨fun i r hi hr => ?_, h.one, fun i r hi hr i' r' hi' hne hr' => ?_, h.low⟩
  · have := rank_lt hi hr
    rw [h.is i r hi hr]
    exact h.byt _ (by have := h.le; have := h.nr; omega)
  · rw [h.is i r hi hr]
    refine h.off i' r' hi' hr' _ ?_ (rank_inj hr hr' (Ne.symm hne))
    have := rank_lt hi hr
    have := h.le
    have := h.nr
    omega

/-- The first k places. -/
def trunc (k : Nat) (v : Nat → Nat) (j : Nat) : Nat := if j < k then v j else 0
theorem trunc_add (k : Nat) (v g : Nat → Nat) (c : Nat) : trunc k (addUp v g c) = addUp (trunc k v) (trunc k g) c := by
  funext j
  unfold trunc addUp
  by_cases h : j < k
  · simp only [if_pos h]
  · simp only [if_neg h]; rw [Gf.mul_zero]; decide
theorem trunc_byt {k : Nat} {v : Nat → Nat} (h : Byt v) : Byt (trunc k v) := fun j => by
  unfold trunc
  split
  · exact h j
  · exact Nat.zero_lt_succ _
theorem Sp.trunc {G : (Nat → Nat) → Prop} {v : Nat → Nat} (k : Nat) (h : Sp G v) {H : (Nat → Nat) → Prop} (hG : ∀ g, G g → Sp H (Proofs.Ythlidbenhlidjaa.trunc k g)) : Sp H (Proofs.Ythlidbenhlidjaa.trunc k v) := by
  refine h.all (fun v => Sp H (Proofs.Ythlidbenhlidjaa.trunc k v)) ?_ (fun v g c hc _ ih hg => ?_)
  · have : Proofs.Ythlidbenhlidjaa.trunc k (fun _ => 0) = fun _ => 0 := by funext j; unfold Proofs.Ythlidbenhlidjaa.trunc; split <;> rfl
    rw [this]; exact Sp.zero
  · rw [trunc_add]; exact ih.add (hG g hg) hc
/-- The rows, the first k places of each. -/
def tr (k : Nat) (S : Nat → Option (Nat → Nat)) (i : Nat) : Option (Nat → Nat) := (S i).map (trunc k)
theorem tr_some {k i : Nat} {S : Nat → Option (Nat → Nat)} {r : Nat → Nat} (h : tr k S i = some r) : ∃ r0, S i = some r0 ∧ r = trunc k r0 := by
  unfold tr at h
  cases hS : S i with
  | none => rw [hS] at h; cases h
  | some r0 => rw [hS] at h; exact ⟨r0, rfl, (Option.some.inj h).symm⟩
theorem tr_rank (k n : Nat) (S : Nat → Option (Nat → Nat)) : rankTo (tr k S) n = rankTo S n := rank_same n fun i _ => by unfold tr; cases S i <;> rfl
theorem Red.tr {k : Nat} {S : Nat → Option (Nat → Nat)} (h : Red S k) : Red (Proofs.Ythlidbenhlidjaa.tr k S) k := by
  have e : ∀ (r : Nat → Nat) i, i < k → trunc k r i = r i := fun r i hi => by unfold trunc; rw [if_pos hi]
  refine ⟨fun i r hi hr => ?_, fun i r hi hr => ?_, fun i r hi hr i' r' hi' hne hr' => ?_, fun i r hi hr j hj => ?_⟩
  all_goals obtain ⟨r0, h0, rfl⟩ := tr_some hr
  · exact trunc_byt (h.byt i r0 hi h0)
  · rw [e r0 i hi]; exact h.one i r0 hi h0
  · obtain ⟨r1, h1, -⟩ := tr_some hr'
    rw [e r0 i' hi']
    exact h.off i r0 hi h0 i' r1 hi' hne h1
  · rw [e r0 j (by omega)]; exact h.low i r0 hi h0 j hj

/-- Rows eliminated as they came (S) and all of them anew (T) lead at the same places: as many. -/
theorem Stg.rank {m k n : Nat} {V0 V : Nat → Nat → Nat} {T : Nat → Option (Nat → Nat)} (h : Stg m k n V0 V T) {S : Nat → Option (Nat → Nat)} (hS : Red S k)
    (h1 : ∀ g, Rw S k g → Sp (Gn V0 m) g) (h2 : ∀ t, t < m → ∃ u, Sp (Rw S k) u ∧ ∀ j, j < k → V0 t j = u j) : n = rankTo S k := by
  have genS : ∀ g, Rw S k g → Sp (Rw (tr k S) k) (trunc k g) := by
    rintro g ⟨i, hi, hg⟩
    exact Sp.gen ⟨i, hi, by unfold tr; rw [hg]; rfl⟩ (trunc_byt (hS.byt i g hi hg))
  have genV : ∀ g, Gn V m g → Sp (Rw (tr k T) k) (trunc k g) := by
    rintro g ⟨t, ht, rfl⟩
    by_cases e : t < n
    · obtain ⟨i, r, hi, hr, hrt⟩ := rank_hit (T := T) k t (by rw [← h.nr]; exact e)
      have := h.is i r hi hr
      rw [hrt] at this
      rw [← this]
      exact Sp.gen ⟨i, hi, by unfold tr; rw [hr]; rfl⟩ (trunc_byt (h.red.byt i r hi hr))
    · have : trunc k (V t) = fun _ => 0 := by
        funext j
        unfold trunc
        split
        · exact h.rest t (by omega) ht j (by assumption)
        · rfl
      rw [this]
      exact Sp.zero
  rw [h.nr, ← tr_rank k k T, ← tr_rank k k S]
  refine rank_same k (Red.same h.red.tr hS.tr (fun g hg => ?_) (fun g hg => ?_))
  · obtain ⟨i, hi, hg⟩ := hg
    obtain ⟨r0, h0, rfl⟩ := tr_some hg
    have ht : Sp (Gn V0 m) r0 := by
      rw [h.is i r0 hi h0]
      exact h.to _ (by have := rank_lt hi h0; have := h.le; have := h.nr; omega)
    refine ht.trunc k fun g hg => ?_
    obtain ⟨t, htm, rfl⟩ := hg
    obtain ⟨u, hu, huv⟩ := h2 t htm
    have e : trunc k (V0 t) = trunc k u := by
      funext j
      unfold trunc
      split
      · exact huv j (by assumption)
      · rfl
    rw [e]
    exact hu.trunc k genS
  · obtain ⟨i, hi, hg⟩ := hg
    obtain ⟨r0, h0, rfl⟩ := tr_some hg
    refine (h1 r0 ⟨i, hi, h0⟩).trunc k fun g hg => ?_
    obtain ⟨t, htm, rfl⟩ := hg
    exact (h.back t htm).trunc k genV

theorem rank_all {T : Nat → Option (Nat → Nat)} : ∀ k, rankTo T k = k → ∀ i, i ≤ k → rankTo T i = i := by
  intro k h i hi
  have h1 := rankTo_le T i
  have h2 : ∀ d, i + d ≤ k → rankTo T (i + d) ≤ rankTo T i + d := by
    intro d
    induction d with
    | zero => intro _; exact Nat.le_refl _
    | succ d ih =>
      intro hd
      have := ih (by omega)
      show rankTo T (i + d) + _ ≤ _
      split <;> omega
  have := h2 (k - i) (by omega)
  rw [show i + (k - i) = k by omega, h] at this
  omega

/-- With as many rows as unknowns both come to the same rows. -/
theorem Stg.full {m k : Nat} {V0 V : Nat → Nat → Nat} {T : Nat → Option (Nat → Nat)} (h : Stg m k k V0 V T) {S : Nat → Option (Nat → Nat)} (hS : Red S k)
    (h2 : ∀ t, t < m → Sp (Rw S k) (V0 t)) (i : Nat) (hi : i < k) (r : Nat → Nat) (hr : S i = some r) : V i = r := by
  have hk : rankTo T k = k := h.nr.symm
  have hm : k ≤ m := h.le
  have ra := rank_all k hk
  have hV : Sp (Rw S k) (V i) := (h.to i (by omega)).mono fun g hg => by obtain ⟨t, ht, rfl⟩ := hg; exact h2 t ht
  have hp : ∀ i', i' < k → ∃ r', T i' = some r' := fun i' h' => rank_full T k hk i' h'
  have v1 : V i i = 1 := by
    obtain ⟨r', hr'⟩ := hp i hi
    have e := h.is i r' hi hr'
    rw [ra i (by omega)] at e
    rw [← e]
    exact h.one i r' hi hr'
  have v0 : ∀ i', i' < k → i' ≠ i → V i i' = 0 := by
    intro i' h' hne
    obtain ⟨r', hr'⟩ := hp i' h'
    exact h.off i' r' h' hr' i (by omega) (by rw [ra i' (by omega)]; exact Ne.symm hne)
  funext j
  rw [hV.comb hS j, comb_single S (V i) j i k r hi hr fun i' _ h1 hne _ => v0 i' h1 hne, v1, mul_one' _ (hS.byt i r hi hr j)]
/-- The rows with one more behind them. -/
def more (V : Nat → Nat → Nat) (d : Nat) (v : Nat → Nat) (t : Nat) : Nat → Nat := if t = d then v else V t
theorem more_old (V : Nat → Nat → Nat) (d : Nat) (v : Nat → Nat) (t : Nat) (h : t < d) : V t = more V d v t := by unfold more; rw [if_neg (by omega)]
theorem more_new (V : Nat → Nat → Nat) (d : Nat) (v : Nat → Nat) : more V d v d = v := by unfold more; rw [if_pos rfl]
end Go.Proofs.Ythlidbenhlidjaa

/-
  A region that draws its order: a read may be taken first, if what it reads stays as it is AS LONG AS the operation that wants it has not come up. (The kit's own law asks that it stays to the region's end: stores into what was read break that.) No program.
-/
namespace Go.Proofs.Ythlidbenhlidjaa.Hld
open Go

section
variable {P : Program} {ops : Array Oper} {Q : Exit → Act → World → Prop} {md : Region.Mode} {S : Array Bool → World → Prop} {T : World → Prop}

/-- Whatever order is picked from here on, and S holds behind every operation, of what is listed then. -/
def wpAnyM (P : Program) (md : Region.Mode) (ops : Array Oper) (Q : Exit → Act → World → Prop) (S : Array Bool → World → Prop) : Nat → Array Bool → Act → World → Prop
  | 0, listed, a, w => Region.ready md ops listed = [] ∧ Q .normal a w
  | fuel + 1, listed, a, w =>
    (Region.ready md ops listed = [] → Q .normal a w) ∧
    ∀ i ∈ Region.ready md ops listed, wpOp P ops Q i (fun a' w' => S (listed.setIfInBounds i true) w' ∧ wpAnyM P md ops Q S fuel (listed.setIfInBounds i true) a' w') a w

theorem wpAny_of_m : ∀ (fuel : Nat) (listed : Array Bool) (a : Act) (w : World), wpAnyM P md ops Q S fuel listed a w → wpAny P md ops Q fuel listed a w
  | 0, _, _, _, h => h
  | fuel + 1, _, _, _, h => ⟨h.1, fun i hi => wpOp_mono (fun a' w' h' => wpAny_of_m fuel _ a' w' h'.2) (h.2 i hi)⟩

/-- Operation t waits for operation i. -/
def waits (md : Region.Mode) (ops : Array Oper) (t i : Nat) : Bool := match ops[t]? with
  | some o => o.after.toList.any fun e => Region.binds md e && e.on == i
  | none => false
theorem waits_spec {t i : Nat} {o : Oper} (h : waits md ops t i = true) (ho : ops[t]? = some o) : ∃ e ∈ o.after, Region.binds md e = true ∧ e.on = i := by
  unfold waits at h
  rw [ho] at h
  simp only [List.any_eq_true, Bool.and_eq_true, beq_iff_eq] at h
  obtain ⟨e, h1, h2, h3⟩ := h
  exact ⟨e, by simpa using h1, h2, h3⟩

theorem first {i : Nat} {oi : Oper} {v : Value} (hi : ops[i]? = some oi) (hsel : ∀ (j : Nat) (o : Oper) cs b, ops[j]? = some o → o.op ≠ .select cs b)
    (hQ : ∀ c a w, Q (.panic c) (a.put oi.dst v) w → Q (.panic c) a w) (hSi : ∀ listed w, S (listed.setIfInBounds i true) w → S listed w)
    (t : Nat) (hT : ∀ listed w, listed.getD t true = false → S listed w → T w) (ht : (∀ w, T w) ∨ waits md ops t i = true) :
    ∀ (fuel : Nat) (listed : Array Bool) (a : Act) (w : World), ((∀ w, T w) ∨ listed.getD t true = false) →
      (∀ j oj, ops[j]? = some oj → j ≠ i → listed.getD j true = false → (∀ e ∈ oj.after, Region.binds md e = true → e.on ≠ i) → oi.apart ops oj = true) →
      i ∈ Region.ready md ops listed → YieldsIf P ops T oi v a → S listed w → S (listed.setIfInBounds i true) w →
      wpAnyM P md ops Q S fuel (listed.setIfInBounds i true) (a.put oi.dst v) w → wpAnyM P md ops Q S (fuel + 1) listed a w := by
  intro fuel
  induction fuel with
  | zero =>
    intro listed a w hl _ hr hy hS hS' H
    have hTw : T w := hl.elim (fun h => h w) (fun h => hT listed w h hS)
    refine ⟨fun h => (by rw [h] at hr; cases hr), fun j hj => ?_⟩
    by_cases hji : j = i
    · subst hji; exact hy.wpOp hi hTw ⟨hS', H⟩
    · have := ready_mono hj hji
      rw [H.1] at this
      cases this
  | succ fuel ih =>
    intro listed a w hl hfree hr hy hS hS' H
    have hTw : T w := hl.elim (fun h => h w) (fun h => hT listed w h hS)
    refine ⟨fun h => (by rw [h] at hr; cases hr), fun j hj => ?_⟩
    by_cases hji : j = i
    · subst hji; exact hy.wpOp hi hTw ⟨hS', H⟩
    · have h1 := H.2 j (ready_mono hj hji)
      obtain ⟨hjun, oj, hoj, hall⟩ := mem_ready.1 hj
      have hnot : ∀ e ∈ oj.after, Region.binds md e = true → e.on ≠ i := fun e he hb heq => by
        have h1 := hall e he hb
        have h0 := (mem_ready.1 hr).1
        rw [heq] at h1
        rcases Nat.lt_or_ge i listed.size with h' | h'
        · simp [h'] at h0 h1; rw [h0] at h1; cases h1
        · simp [Array.getElem?_eq_none h'] at h1
      have h2 := wpOp_putIf hoj (hfree j oj hoj hji hjun hnot) (fun cs b => hsel i oi cs b hi) (fun cs b => hsel j oj cs b hoj) hQ hy h1
      have hfree' : ∀ k ok, ops[k]? = some ok → k ≠ i → (listed.setIfInBounds j true).getD k true = false →
          (∀ e ∈ ok.after, Region.binds md e = true → e.on ≠ i) → oi.apart ops ok = true := fun k ok hk hki hun hno => by
        refine hfree k ok hk hki ?_ hno
        by_cases hjk : j = k
        · subst hjk; exact hjun
        · rw [getD_set_ne true hjk] at hun; exact hun
      have hl' : (∀ w, T w) ∨ (listed.setIfInBounds j true).getD t true = false := by
        rcases hl with h | h
        · exact .inl h
        · rcases ht with h' | h'
          · exact .inl h'
          · by_cases e : j = t
            · subst e
              obtain ⟨e', he, hb, hon⟩ := waits_spec h' hoj
              exact absurd hon (hnot e' he hb)
            · exact .inr (by rw [getD_set_ne true e]; exact h)
      refine wpOp_mono (fun a' w' h3 => ?_) h2
      have hc := Array.setIfInBounds_comm (xs := listed) true true hji
      have hS3 : S ((listed.setIfInBounds j true).setIfInBounds i true) w' := by rw [hc]; exact h3.2.1
      refine ⟨hSi _ _ hS3, ih (listed.setIfInBounds j true) a' w' hl' hfree' (ready_mono hr (Ne.symm hji)) h3.1 (hSi _ _ hS3) hS3 ?_⟩
      rw [hc]
      exact h3.2.2

/-- Take number i first: what it yields hangs on no world. -/
theorem take {i : Nat} {oi : Oper} {v : Value} {fuel : Nat} {listed : Array Bool} {a : Act} {w : World} (hi : ops[i]? = some oi)
    (hs : Region.noSelect ops = true) (hf : Region.free md ops listed i = true) (hr : (Region.ready md ops listed).contains i = true)
    (hQ : ∀ c a w, Q (.panic c) (a.put oi.dst v) w → Q (.panic c) a w) (hSi : ∀ listed w, S (listed.setIfInBounds i true) w → S listed w) (hy : Yields P ops oi v a) (hS : S (listed.setIfInBounds i true) w)
    (h : wpAnyM P md ops Q S fuel (listed.setIfInBounds i true) (a.put oi.dst v) w) : wpAnyM P md ops Q S (fuel + 1) listed a w :=
  first (T := fun _ => True) hi (Region.noSelect_spec hs) hQ hSi 0 (fun _ _ _ _ => trivial) (.inl fun _ => trivial) fuel listed a w (.inl fun _ => trivial) (Region.free_spec hi hf) (by simpa using hr) hy.yieldsIf (hSi _ _ hS) hS h
/-- Take number i first: what it yields holds in every world that meets T, and T stands as long as number t, which waits for it, has not come up. -/
theorem takeT {i : Nat} {oi : Oper} {v : Value} {fuel : Nat} {listed : Array Bool} {a : Act} {w : World} (t : Nat) (T : World → Prop) (hi : ops[i]? = some oi)
    (hs : Region.noSelect ops = true) (hf : Region.free md ops listed i = true) (hr : (Region.ready md ops listed).contains i = true) (hw : waits md ops t i = true) (hl : listed.getD t true = false)
    (hQ : ∀ c a w, Q (.panic c) (a.put oi.dst v) w → Q (.panic c) a w) (hSi : ∀ listed w, S (listed.setIfInBounds i true) w → S listed w) (hT : ∀ listed w, listed.getD t true = false → S listed w → T w) (hy : YieldsIf P ops T oi v a) (hS : S (listed.setIfInBounds i true) w)
    (h : wpAnyM P md ops Q S fuel (listed.setIfInBounds i true) (a.put oi.dst v) w) : wpAnyM P md ops Q S (fuel + 1) listed a w :=
  first (T := T) hi (Region.noSelect_spec hs) hQ hSi t hT (.inr hw) fuel listed a w (.inr hl) (Region.free_spec hi hf) (by simpa using hr) hy (hSi _ _ hS) hS h

/-- The one operation that may come up comes up. -/
theorem next {i : Nat} {o : Oper} {fuel : Nat} {listed : Array Bool} {a : Act} {w : World} (hr : Region.ready md ops listed = [i]) (ho : ops[i]? = some o)
    (h : ∀ K' : Act → World → Prop, Shut (∀ a w, S (listed.setIfInBounds i true) w → wpAnyM P md ops Q S fuel (listed.setIfInBounds i true) a w → K' a w) → if Region.wanted o (yielded ops a.tmps) = true then Oper.wp P o a w K' Q else K' (a.put o.dst undef) w) :
    wpAnyM P md ops Q S (fuel + 1) listed a w := by
  refine ⟨fun h0 => (by rw [hr] at h0; cases h0), fun j hj => ?_⟩
  rw [hr] at hj
  obtain rfl : j = i := by simpa using hj
  exact wpOp_step ho (fun K' hK => h K' (fun a w hS hW => hK a w ⟨hS, hW⟩))
theorem done {listed : Array Bool} {a : Act} {w : World} (hr : Region.ready md ops listed = []) (h : Q .normal a w) : ∀ fuel, wpAnyM P md ops Q S fuel listed a w
  | 0 => ⟨hr, h⟩
  | _ + 1 => ⟨fun _ => h, by rw [hr]; simp⟩
theorem begin {id : Nat} {a : Act} {w : World} (S : Array Bool → World → Prop) (hm : P.follows .mixedOrders = true)
    (h : wpAnyM P .any ops Q S ops.size (Array.replicate ops.size false) a w.drew) : (Code.region id ops true).wp P Q a w :=
  wp_region_any hm (wpAny_of_m _ _ _ _ h)
end
end Go.Proofs.Ythlidbenhlidjaa.Hld
