/-
  Package purse as plain mathematics: weights, parts, who is served ahead of whom, what each gets. No program.
-/
import Derived.Test.YtijjhjlopfbeiaaDoorPus
namespace Go.Proofs.YtijjhjlopfbeiaaDoor
namespace Pu

/-- The weight of a rank. -/
def wgt (r : Int) : Int := if r ≤ 0 then 8 else if r = 1 then 4 else if r = 2 then 2 else 1
theorem wgt_range (r : Int) : 1 ≤ wgt r ∧ wgt r ≤ 8 := by
  unfold wgt
  repeat' split
  all_goals omega
theorem wgt_anti {r s : Int} (h : r ≤ s) : wgt s ≤ wgt r := by
  unfold wgt
  repeat' split
  all_goals omega
/-- A number within 0 and MaxBudget. -/
def bnd (x : Int) : Int := min (max x 0) 65536
theorem bnd_range (x : Int) : 0 ≤ bnd x ∧ bnd x ≤ 65536 := by unfold bnd; omega
theorem bnd_is {x : Int} (h0 : 0 ≤ x) (h1 : x ≤ 65536) : bnd x = x := by unfold bnd; omega
/-- f's first n numbers, together. -/
def sum (f : Nat → Int) : Nat → Int
  | 0 => 0
  | n + 1 => sum f n + f n
theorem sum_congr {f g : Nat → Int} : ∀ {n : Nat}, (∀ i, i < n → f i = g i) → sum f n = sum g n
  | 0, _ => rfl
  | n + 1, h => by
    show sum f n + f n = sum g n + g n
    rw [sum_congr (fun i hi => h i (by omega)), h n (by omega)]
theorem sum_le {f g : Nat → Int} : ∀ {n : Nat}, (∀ i, i < n → f i ≤ g i) → sum f n ≤ sum g n
  | 0, _ => Int.le_refl _
  | n + 1, h => by
    show sum f n + f n ≤ sum g n + g n
    have a := sum_le (n := n) (fun i hi => h i (by omega))
    have b := h n (by omega)
    omega
theorem sum_nonneg {f : Nat → Int} {n : Nat} (h : ∀ i, i < n → 0 ≤ f i) : 0 ≤ sum f n := by
  have : sum (fun _ => 0) n ≤ sum f n := sum_le h
  have z : ∀ m, sum (fun _ => 0) m = 0 := by
    intro m
    induction m with
    | zero => rfl
    | succ m ih => show sum (fun _ => 0) m + 0 = 0; omega
  rw [z n] at this
  exact this
theorem sum_const (c : Int) : ∀ n : Nat, sum (fun _ => c) n = c * n
  | 0 => by simp [sum]
  | n + 1 => by
    show sum (fun _ => c) n + c = c * ((n + 1 : Nat) : Int)
    rw [sum_const c n, Int.natCast_add, Int.mul_add]
    simp
theorem sum_mul (c : Int) (f : Nat → Int) : ∀ n : Nat, sum (fun i => c * f i) n = c * sum f n
  | 0 => by simp [sum]
  | n + 1 => by
    show sum (fun i => c * f i) n + c * f n = c * (sum f n + f n)
    rw [sum_mul c f n, Int.mul_add]
/-- One of them is turned. -/
theorem sum_put (f : Nat → Int) (p : Nat) (v : Int) : ∀ {n : Nat}, p < n → sum (fun i => if i = p then v else f i) n = sum f n + (v - f p)
  | 0, h => absurd h (by omega)
  | n + 1, h => by
    show sum _ n + (if n = p then v else f n) = sum f n + f n + (v - f p)
    by_cases e : n = p
    · subst e
      rw [if_pos rfl, sum_congr (g := f) (fun i hi => if_neg (by omega))]
      omega
    · rw [if_neg e, sum_put f p v (n := n) (by omega)]
      omega
theorem sum_list (f : Nat → Int) : ∀ n : Nat, ((List.range n).map f).sum = sum f n
  | 0 => rfl
  | n + 1 => by
    rw [List.range_succ, List.map_append, List.sum_append, sum_list f n]
    show sum f n + (f n + 0) = sum f n + f n
    omega
theorem perm_sum {l m : List Int} (h : l.Perm m) : l.sum = m.sum := by
  induction h with
  | nil => rfl
  | cons x _ ih => simp only [List.sum_cons]; rw [ih]
  | swap x y l => simp only [List.sum_cons]; omega
  | trans _ _ a b => exact a.trans b

/-- The weights of n wants, together. -/
def weigh (K : Nat → Wt) (n : Nat) : Int := sum (fun i => wgt (K i).r) n
theorem weigh_range (K : Nat → Wt) : ∀ n : Nat, (n : Int) ≤ weigh K n ∧ weigh K n ≤ 8 * n
  | 0 => ⟨Int.le_refl _, Int.le_refl _⟩
  | n + 1 => by
    obtain ⟨a, b⟩ := weigh_range K n
    have := wgt_range (K n).r
    have e : weigh K (n + 1) = weigh K n + wgt (K n).r := rfl
    omega
/-- What a rank's weight is worth. -/
def part (K : Nat → Wt) (n : Nat) (B r : Int) : Int := B * wgt r / weigh K n
/-- What place i gets ahead of all else. -/
def share (K : Nat → Wt) (n : Nat) (B : Int) (i : Nat) : Int := min (part K n B (K i).r) (bnd (K i).b)
theorem part_range {K : Nat → Wt} {n : Nat} {B r : Int} (hn : 0 < n) (h0 : 0 ≤ B) : 0 ≤ part K n B r ∧ part K n B r ≤ 8 * B := by
  have a := weigh_range K n
  have b := wgt_range r
  have c : 0 ≤ B * wgt r := Int.mul_nonneg h0 (by omega)
  have d : B * wgt r ≤ B * 8 := Int.mul_le_mul_of_nonneg_left b.2 h0
  refine ⟨Int.ediv_nonneg c (by omega), ?_⟩
  have e : B * wgt r / weigh K n ≤ B * wgt r := Int.ediv_le_self _ c
  unfold part
  omega
theorem share_range {K : Nat → Wt} {n : Nat} {B : Int} (hn : 0 < n) (h0 : 0 ≤ B) (i : Nat) : 0 ≤ share K n B i ∧ share K n B i ≤ bnd (K i).b := by
  have a := (part_range (K := K) (r := (K i).r) hn h0).1
  have b := bnd_range (K i).b
  unfold share
  omega
theorem part_anti {K : Nat → Wt} {n : Nat} {B r s : Int} (hn : 0 < n) (h0 : 0 ≤ B) (h : r ≤ s) : part K n B s ≤ part K n B r := by
  have a := weigh_range K n
  exact Int.ediv_le_ediv (by omega) (Int.mul_le_mul_of_nonneg_left (wgt_anti h) h0)
/-- Together they are no more than there is. -/
theorem share_sum {K : Nat → Wt} {n : Nat} {B : Int} (hn : 0 < n) : sum (share K n B) n ≤ B := by
  have a := weigh_range K n
  have h1 : sum (share K n B) n ≤ sum (fun i => part K n B (K i).r) n := sum_le fun i _ => by unfold share; omega
  have h2 : sum (fun i => weigh K n * part K n B (K i).r) n ≤ sum (fun i => B * wgt (K i).r) n := sum_le fun i _ => by
    have := Int.ediv_mul_le (B * wgt (K i).r) (show weigh K n ≠ 0 by omega)
    rw [Int.mul_comm]
    exact this
  rw [sum_mul, sum_mul] at h2
  have h3 : weigh K n * sum (fun i => part K n B (K i).r) n ≤ weigh K n * B := by
    rw [Int.mul_comm (weigh K n) B]
    exact h2
  exact Int.le_trans h1 (Int.le_of_mul_le_mul_left h3 (by omega))

/-- Is i served ahead of j? -/
def lt (K : Nat → Wt) (i j : Nat) : Prop := (K i).r < (K j).r ∨ (K i).r = (K j).r ∧ ((K i).id < (K j).id ∨ (K i).id = (K j).id ∧ i < j)
instance (K : Nat → Wt) (i j : Nat) : Decidable (lt K i j) := by unfold lt; infer_instance
theorem lt_irrefl (K : Nat → Wt) (i : Nat) : ¬ lt K i i := by unfold lt; omega
theorem lt_trans {K : Nat → Wt} {i j k : Nat} (h : lt K i j) (g : lt K j k) : lt K i k := by unfold lt at *; omega
theorem lt_not {K : Nat → Wt} {i j : Nat} (h : lt K i j) : ¬ lt K j i := by unfold lt at *; omega
theorem lt_total (K : Nat → Wt) {i j : Nat} (h : i ≠ j) : lt K i j ∨ lt K j i := by unfold lt; omega
/-- o tells who is served when. -/
structure Ord (K : Nat → Wt) (n : Nat) (o : Nat → Nat) : Prop where
  perm : ((List.range n).map o).Perm (List.range n)
  up : ∀ s t, s < t → t < n → lt K (o s) (o t)
theorem Ord.lt {K : Nat → Wt} {n : Nat} {o : Nat → Nat} (h : Ord K n o) {t : Nat} (ht : t < n) : o t < n := by
  have : o t ∈ (List.range n).map o := List.mem_map.2 ⟨t, List.mem_range.2 ht, rfl⟩
  exact List.mem_range.1 (h.perm.mem_iff.1 this)
theorem Ord.onto {K : Nat → Wt} {n : Nat} {o : Nat → Nat} (h : Ord K n o) {p : Nat} (hp : p < n) : ∃ t, t < n ∧ o t = p := by
  obtain ⟨t, ht, e⟩ := List.mem_map.1 (h.perm.mem_iff.2 (List.mem_range.2 hp))
  exact ⟨t, List.mem_range.1 ht, e⟩
theorem Ord.inj {K : Nat → Wt} {n : Nat} {o : Nat → Nat} (h : Ord K n o) {s t : Nat} (hs : s < n) (ht : t < n) (e : o s = o t) : s = t := by
  rcases Nat.lt_trichotomy s t with g | g | g
  · have := h.up s t g ht
    rw [e] at this
    exact absurd this (lt_irrefl _ _)
  · exact g
  · have := h.up t s g hs
    rw [e] at this
    exact absurd this (lt_irrefl _ _)
theorem Ord.sum {K : Nat → Wt} {n : Nat} {o : Nat → Nat} (h : Ord K n o) (f : Nat → Int) : Pu.sum (fun t => f (o t)) n = Pu.sum f n := by
  rw [← sum_list, ← sum_list, show (List.range n).map (fun t => f (o t)) = ((List.range n).map o).map f by rw [List.map_map]; rfl]
  exact perm_sum (h.perm.map f)
/-- The t-th is the least of those that were not served. -/
theorem Ord.least {K : Nat → Wt} {n : Nat} {o : Nat → Nat} (h : Ord K n o) {t p : Nat} (_ht : t < n) (hp : p < n) (hn : ∀ s, s < t → o s ≠ p) : p = o t ∨ Pu.lt K (o t) p := by
  obtain ⟨u, hu, rfl⟩ := h.onto hp
  rcases Nat.lt_trichotomy u t with g | g | g
  · exact absurd rfl (hn u g)
  · exact .inl (by rw [g])
  · exact .inr (h.up t u g hu)
/-- There is one such order. -/
theorem Ord.one {K : Nat → Wt} {n : Nat} {o c : Nat → Nat} (h : Ord K n o) (g : Ord K n c) : ∀ t, t < n → o t = c t := by
  intro t
  induction t using Nat.strongRecOn with
  | ind t ih =>
    intro ht
    have e1 := h.least ht (g.lt ht) (fun s hs e => by
      rw [ih s hs (by omega)] at e
      have := g.inj (show s < n by omega) ht e
      omega)
    have e2 := g.least ht (h.lt ht) (fun s hs e => by
      rw [← ih s hs (by omega)] at e
      have := h.inj (show s < n by omega) ht e
      omega)
    rcases e1 with e1 | e1
    · exact e1.symm
    · rcases e2 with e2 | e2
      · exact e2
      · exact absurd e1 (lt_not e2)

/-- What each has got, what is left. -/
structure St where
  g : Nat → Int
  l : Int
/-- Place p gets m more. -/
def give (s : St) (p : Nat) (m : Int) : St := ⟨fun i => if i = p then s.g i + m else s.g i, s.l - m⟩
/-- How much place p gets, where it may get q. -/
def more (K : Nat → Wt) (s : St) (p : Nat) (q : Int) : Int := min q (bnd (K p).b - s.g p)
/-- The first t are served: each gets what is told by 'most', but no more than it wants. -/
def serve (K : Nat → Wt) (most : St → Nat → Int) (o : Nat → Nat) (s : St) : Nat → St
  | 0 => s
  | t + 1 => give (serve K most o s t) (o t) (more K (serve K most o s t) (o t) (most (serve K most o s t) (o t)))
/-- Each its part. -/
def parts (K : Nat → Wt) (n : Nat) (B : Int) (_ : St) (p : Nat) : Int := part K n B (K p).r
/-- All that is left. -/
def rest (s : St) (_ : Nat) : Int := s.l
theorem give_same (s : St) (p : Nat) (m : Int) : (give s p m).g p = s.g p + m := if_pos rfl
theorem give_other (s : St) {p i : Nat} (m : Int) (h : i ≠ p) : (give s p m).g i = s.g i := if_neg h
/-- The first round, t places on. -/
theorem first_round {K : Nat → Wt} {n : Nat} {B : Int} {o : Nat → Nat} (h : Ord K n o) (hn : 0 < n) (h0 : 0 ≤ B) : ∀ t, t ≤ n →
    (∀ p, (∃ s, s < t ∧ o s = p) → (serve K (parts K n B) o ⟨fun _ => 0, B⟩ t).g p = share K n B p) ∧ (∀ p, (∀ s, s < t → o s ≠ p) → (serve K (parts K n B) o ⟨fun _ => 0, B⟩ t).g p = 0) ∧
    (serve K (parts K n B) o ⟨fun _ => 0, B⟩ t).l = B - sum (fun s => share K n B (o s)) t
  | 0, _ => ⟨fun p ⟨s, hs, _⟩ => absurd hs (by omega), fun _ _ => rfl, by show B = B - 0; omega⟩
  | t + 1, ht => by
    obtain ⟨a, b, c⟩ := first_round h hn h0 t (by omega)
    have z := b (o t) (fun s hs e => by have := h.inj (show s < n by omega) (show t < n by omega) e; omega)
    have m : more K (serve K (parts K n B) o ⟨fun _ => 0, B⟩ t) (o t) (parts K n B (serve K (parts K n B) o ⟨fun _ => 0, B⟩ t) (o t)) = share K n B (o t) := by
      show min (part K n B (K (o t)).r) (bnd (K (o t)).b - (serve K (parts K n B) o ⟨fun _ => 0, B⟩ t).g (o t)) = min (part K n B (K (o t)).r) (bnd (K (o t)).b)
      rw [z, Int.sub_zero]
    have e : serve K (parts K n B) o ⟨fun _ => 0, B⟩ (t + 1) = give (serve K (parts K n B) o ⟨fun _ => 0, B⟩ t) (o t) (share K n B (o t)) := by
      rw [← m]
      rfl
    rw [e]
    refine ⟨fun p ⟨s, hs, hp⟩ => ?_, fun p hp => ?_, ?_⟩
    · by_cases g : p = o t
      · rw [g, give_same, z]; omega
      · rw [give_other _ _ g]
        refine a p ⟨s, ?_, hp⟩
        have : s ≠ t := fun q => g (by rw [← hp, q])
        omega
    · rw [give_other _ _ (fun q => hp t (by omega) q.symm)]
      exact b p (fun s hs => hp s (by omega))
    · show _ - _ = _
      rw [c]
      show _ = B - (sum (fun s => share K n B (o s)) t + share K n B (o t))
      omega
/-- Where the second round begins. -/
def begins (K : Nat → Wt) (n : Nat) (B : Int) : St := ⟨share K n B, B - sum (share K n B) n⟩
theorem first_all {K : Nat → Wt} {n : Nat} {B : Int} {o : Nat → Nat} (h : Ord K n o) (hn : 0 < n) (h0 : 0 ≤ B) :
    (∀ p, p < n → (serve K (parts K n B) o ⟨fun _ => 0, B⟩ n).g p = (begins K n B).g p) ∧ (serve K (parts K n B) o ⟨fun _ => 0, B⟩ n).l = (begins K n B).l := by
  obtain ⟨a, -, c⟩ := first_round h hn h0 n (Nat.le_refl n)
  refine ⟨fun p hp => a p (h.onto hp), ?_⟩
  rw [c, h.sum (share K n B)]
  rfl
/-- Two rounds that begin alike go on alike. -/
theorem serve_congr {K : Nat → Wt} {n : Nat} {o : Nat → Nat} (ho : ∀ t, t < n → o t < n) {s u : St} (hg : ∀ p, p < n → s.g p = u.g p) (hl : s.l = u.l) : ∀ t, t ≤ n →
    (∀ p, p < n → (serve K rest o s t).g p = (serve K rest o u t).g p) ∧ (serve K rest o s t).l = (serve K rest o u t).l
  | 0, _ => ⟨hg, hl⟩
  | t + 1, ht => by
    obtain ⟨a, b⟩ := serve_congr (K := K) ho hg hl t (by omega)
    have m : more K (serve K rest o s t) (o t) (rest (serve K rest o s t) (o t)) = more K (serve K rest o u t) (o t) (rest (serve K rest o u t) (o t)) := by
      show min (serve K rest o s t).l (bnd (K (o t)).b - (serve K rest o s t).g (o t)) = min (serve K rest o u t).l (bnd (K (o t)).b - (serve K rest o u t).g (o t))
      rw [b, a (o t) (ho t (by omega))]
    refine ⟨fun p hp => ?_, ?_⟩
    · show (if p = o t then _ + _ else _) = (if p = o t then _ + _ else _)
      rw [m, a p hp]
    · show _ - _ = _ - _
      rw [m, b]
/-- What each gets. -/
def gets (K : Nat → Wt) (n : Nat) (B : Int) (o : Nat → Nat) : Nat → Int := (serve K rest o (begins K n B) n).g
/-- How the second round stands, t places on. -/
structure Mid (K : Nat → Wt) (n : Nat) (B : Int) (o : Nat → Nat) (t : Nat) (s : St) : Prop where
  left : 0 ≤ s.l
  all : sum s.g n + s.l = B
  lo : ∀ p, p < n → share K n B p ≤ s.g p
  hi : ∀ p, p < n → s.g p ≤ bnd (K p).b
  yet : ∀ u, t ≤ u → u < n → s.g (o u) = share K n B (o u)
  done : ∀ u, u < t → s.g (o u) = bnd (K (o u)).b ∨ (s.l = 0 ∧ ∀ v, u < v → v < n → s.g (o v) = share K n B (o v))
theorem mid_all {K : Nat → Wt} {n : Nat} {B : Int} {o : Nat → Nat} (h : Ord K n o) (hn : 0 < n) (h0 : 0 ≤ B) : ∀ t, t ≤ n → Mid K n B o t (serve K rest o (begins K n B) t)
  | 0, _ => by
    have a := share_sum (K := K) (B := B) hn
    refine ⟨?_, ?_, fun p _ => Int.le_refl _, fun p _ => (share_range hn h0 p).2, fun _ _ _ => rfl, fun _ hu => absurd hu (by omega)⟩
    · show 0 ≤ B - sum (share K n B) n; omega
    · show sum (share K n B) n + (B - sum (share K n B) n) = B; omega
  | t + 1, ht => by
    have M := mid_all h hn h0 t (by omega)
    have e : serve K rest o (begins K n B) (t + 1) = give (serve K rest o (begins K n B) t) (o t) (more K (serve K rest o (begins K n B) t) (o t) (rest (serve K rest o (begins K n B) t) (o t))) := rfl
    rw [e]
    generalize serve K rest o (begins K n B) t = s at *
    have hp := h.lt (show t < n by omega)
    have b1 := M.hi (o t) hp
    have b2 := M.left
    obtain ⟨m, hm⟩ : ∃ m, more K s (o t) (rest s (o t)) = m := ⟨_, rfl⟩
    have hm' : min s.l (bnd (K (o t)).b - s.g (o t)) = m := hm
    rw [hm]
    have m0 : 0 ≤ m := by omega
    refine ⟨?_, ?_, fun p hp' => ?_, fun p hp' => ?_, fun u hu hun => ?_, fun u hu => ?_⟩
    · show 0 ≤ s.l - m; omega
    · have : sum (give s (o t) m).g n = sum s.g n + m := by
        have q := sum_put s.g (o t) (s.g (o t) + m) hp
        rw [show (give s (o t) m).g = fun i => if i = o t then s.g (o t) + m else s.g i from funext fun i => by
          show (if i = o t then s.g i + m else s.g i) = _
          by_cases g : i = o t
          · rw [if_pos g, if_pos g, g]
          · rw [if_neg g, if_neg g], q]
        omega
      rw [this]
      show sum s.g n + m + (s.l - m) = B
      have := M.all
      omega
    · by_cases g : p = o t
      · rw [g, give_same]
        have := M.lo (o t) hp
        omega
      · rw [give_other _ _ g]; exact M.lo p hp'
    · by_cases g : p = o t
      · rw [g, give_same]; omega
      · rw [give_other _ _ g]; exact M.hi p hp'
    · have g : o u ≠ o t := fun q => by have := h.inj hun (show t < n by omega) q; omega
      rw [give_other _ _ g]
      exact M.yet u (by omega) hun
    · by_cases g : u = t
      · subst g
        rw [give_same]
        by_cases c : s.l ≤ bnd (K (o u)).b - s.g (o u)
        · right
          refine ⟨?_, fun v hv hvn => ?_⟩
          · show s.l - m = 0; omega
          · have g : o v ≠ o u := fun q => by have := h.inj hvn (show u < n by omega) q; omega
            rw [give_other _ _ g]
            exact M.yet v (by omega) hvn
        · left
          omega
      · have g' : o u ≠ o t := fun q => by have := h.inj (show u < n by omega) (show t < n by omega) q; omega
        rw [give_other _ _ g']
        rcases M.done u (by omega) with d | ⟨d1, d2⟩
        · exact .inl d
        · right
          have : m = 0 := by omega
          refine ⟨?_, fun v hv hvn => ?_⟩
          · show s.l - m = 0; omega
          · by_cases g2 : o v = o t
            · have q := h.inj hvn (show t < n by omega) g2
              subst q
              rw [give_same, this, d2 v hv hvn]; omega
            · rw [give_other _ _ g2]
              exact d2 v hv hvn
theorem gets_mid {K : Nat → Wt} {n : Nat} {B : Int} {o : Nat → Nat} (h : Ord K n o) (hn : 0 < n) (h0 : 0 ≤ B) : ∃ s : St, gets K n B o = s.g ∧ Mid K n B o n s := ⟨_, rfl, mid_all h hn h0 n (Nat.le_refl n)⟩
/-- Nobody gets more than one wants; all that there is, or all that is wanted. -/
theorem gets_whole {K : Nat → Wt} {n : Nat} {B : Int} {o : Nat → Nat} (h : Ord K n o) (hn : 0 < n) (h0 : 0 ≤ B) :
    (∀ p, p < n → 0 ≤ gets K n B o p ∧ gets K n B o p ≤ bnd (K p).b) ∧ sum (gets K n B o) n = min (sum (fun i => bnd (K i).b) n) B := by
  obtain ⟨s, e, M⟩ := gets_mid h hn h0
  rw [e]
  have le : sum s.g n ≤ sum (fun i => bnd (K i).b) n := sum_le M.hi
  have q := M.all
  have l := M.left
  refine ⟨fun p hp => ⟨Int.le_trans (share_range hn h0 p).1 (M.lo p hp), M.hi p hp⟩, ?_⟩
  by_cases c : s.l = 0
  · omega
  · have full : ∀ p, p < n → s.g p = bnd (K p).b := fun p hp => by
      obtain ⟨t, ht, rfl⟩ := h.onto hp
      rcases M.done t ht with d | ⟨d, -⟩
      · exact d
      · exact absurd d c
    have := sum_congr full
    omega
/-- Of two that want alike, the one that is served first gets no less, if its part is no less. -/
theorem gets_first {K : Nat → Wt} {n : Nat} {B : Int} {o : Nat → Nat} (h : Ord K n o) (hn : 0 < n) (h0 : 0 ≤ B) {i k : Nat} (hi : i < n) (hk : k < n) (hik : Pu.lt K i k) (hb : bnd (K i).b = bnd (K k).b) : gets K n B o k ≤ gets K n B o i := by
  obtain ⟨s, e, M⟩ := gets_mid h hn h0
  rw [e]
  have hs : share K n B k ≤ share K n B i := by
    have : (K i).r ≤ (K k).r := by unfold Pu.lt at hik; omega
    have := part_anti (K := K) (B := B) hn h0 this
    unfold share
    omega
  obtain ⟨u, hu, rfl⟩ := h.onto hi
  obtain ⟨v, hv, rfl⟩ := h.onto hk
  have huv : u < v := by
    rcases Nat.lt_trichotomy u v with g | g | g
    · exact g
    · subst g; exact absurd hik (lt_irrefl _ _)
    · exact absurd hik (lt_not (h.up v u g hu))
  rcases M.done u hu with d | ⟨-, d⟩
  · have := M.hi (o v) (h.lt hv)
    omega
  · rw [d v huv hv]
    have := M.lo (o u) (h.lt hu)
    omega
end Pu
end Go.Proofs.YtijjhjlopfbeiaaDoor
