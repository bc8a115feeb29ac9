/-
  Frames out of numbers: known ones.
-/
import Derived.Test.YtclbcggbnbimaaaFn0
import Derived.Test.YtclbcggbnbimaaaFnx
import Derived.Test.YtclbcggbnbimaaaFfo
namespace Go.Proofs.Ytclbcggbnbimaaa
open Go.RowKit Go.Deep

theorem next_any (D P p0 lo : Nat) (a : Option Addr) (m c : Nat) (K : Nat → Fr) (t : Nat) (w : World) (h : Picks D w P p0) (hD : D ≤ w.heap.size) (ht : t ≤ 1000) (hm : m ≤ 1000) (hb : ∀ b o, a = some ⟨b, o, none⟩ → b ≠ P) (hL : 0 < m → (K (m - 1)).id ≤ 1000) (h1 : m = 0 → lo = 0) (h2 : 0 < m → lo = (K (m - 1)).id) (HK : FrsAt w a m K) (S : Int → Prop) (HS : ∀ q, q < m → S ((K q).id : Int)) :
    Calls Try.prog 15 #[.pointer (some ⟨P, 0, none⟩), .slice a m c, .int .i64 (t : Int), .int .i64 4] w (NextIs D P lo S w) := by
  by_cases h0 : m = 0
  · subst h0
    exact next_none D P p0 lo a c t w h hD ht (h1 rfl) S
  · obtain ⟨b, o, rfl⟩ := HK.addr (by omega)
    exact next_some D P p0 lo b o m c K t w h hD ht (by omega) hm (hb b o rfl) (hL (by omega)) (h2 (by omega)) S HS HK
/-- IDs that grow, by three at most. -/
def Inc (K : Nat → Fr) (m : Nat) : Prop := (∀ q, q < m → (K q).id ≤ 3 * (q + 1)) ∧ ∀ q, q + 1 < m → (K q).id < (K (q + 1)).id
theorem Inc.push {K : Nat → Fr} {m : Nat} {f : Fr} (h : Inc K m) (lo : Nat) (h1 : m = 0 → lo = 0) (h2 : 0 < m → lo = (K (m - 1)).id) (hf : lo < f.id ∧ f.id ≤ lo + 3) : Inc (fun i => if i < m then K i else f) (m + 1) := by
  have hlo : lo ≤ 3 * m := by
    by_cases e : m = 0
    · rw [h1 e]; omega
    · have := h.1 (m - 1) (by omega)
      rw [h2 (by omega)]
      omega
  refine ⟨fun q hq => ?_, fun q hq => ?_⟩
  · by_cases e : q < m
    · simp only [if_pos e]; exact h.1 q e
    · simp only [if_neg e]; omega
  · have e : q < m := by omega
    simp only [if_pos e]
    by_cases g : q + 1 < m
    · rw [if_pos g]; exact h.2 q g
    · rw [if_neg g]
      have e2 : q = m - 1 := by omega
      have := h2 (by omega)
      rw [e2]
      omega
theorem Inc.le {K : Nat → Fr} {m : Nat} (h : Inc K m) : ∀ n q, q + n < m → (K q).id ≤ (K (q + n)).id
  | 0, _, _ => Nat.le_refl _
  | n + 1, q, hq => Nat.le_trans (h.le n q (by omega)) (Nat.le_of_lt (h.2 (q + n) (by omega)))
theorem Chose.below {D P : Nat} {w y y' : World} (h : Chose D P w y) (hb : Below w.heap.size y y') (hD : D ≤ w.heap.size) : Chose D P w y' := by
  obtain ⟨p, hp⟩ := h.picks
  exact ⟨⟨hb.os.trans h.kept.os, hb.tape.trans h.kept.tape, hb.output.trans h.kept.output, Nat.le_trans h.kept.size hb.size, fun k hk hR => (hb.block k hk).trans (h.kept.block k hk hR)⟩, p, hp.below (hb.mono hD)⟩
/-- A frame's Refs lie in memory, apart from the row v; its Kind is one. -/
structure One (w : World) (base : Nat) (v : Value) (f : Fr) (r : Nat → Int) : Prop where
  own : Uor w base (.slice f.a f.n f.c) f.n r
  few : f.n ≤ 4
  kind : KindOk f.k
  apart : ∀ g, (Value.slice f.a f.n f.c).ownBlock = some g → v.ownBlock ≠ some g
theorem One.refs {w : World} {base : Nat} {v : Value} {f : Fr} {r : Nat → Int} (h : One w base v f r) : RefsAt w f r := h.own.refs (by have := h.few; omega)
theorem One.kept {P : Nat} {w w' : World} {base : Nat} {v : Value} {f : Fr} {r : Nat → Int} (h : One w base v f r) (hk : Kept P w w') (hP : P < base) : One w' base v f r :=
  ⟨h.own.kept hk hP, h.few, h.kind, h.apart⟩
theorem One.grew {w w' : World} {base : Nat} {v : Value} {f : Fr} {r : Nat → Int} (h : One w base v f r) (hb : Below w.heap.size w w') : One w' base v f r :=
  ⟨h.own.grew hb, h.few, h.kind, h.apart⟩
theorem One.grown {w w' : World} {base : Nat} {v v' : Value} {f : Fr} {r : Nat → Int} (h : One w base v f r) (hg : w.grownBy w' v.ownBlock) (hv : v'.ownBlock = v.ownBlock ∨ v'.ownBlock = some w.heap.size) : One w' base v' f r := by
  refine ⟨?_, h.few, h.kind, fun g e e2 => ?_⟩
  · have u : w.ownsRow base 23 1 (.slice f.a f.n f.c) f.n (ucells r f.n) := h.own
    refine World.ownsRow.kept (row := v.ownBlock) u hg ?_
    cases e : (Value.slice f.a f.n f.c).ownBlock with
    | none => exact .inl rfl
    | some g => exact .inr (fun e2 => h.apart g e e2.symm)
  · rcases hv with hv | hv
    · exact h.apart g e (hv.symm.trans e2)
    · have := (World.ownsRow.lt h.own g e).2
      rw [hv] at e2
      cases e2
      omega
/-- Known ones: each is so. -/
def Refd (w : World) (base : Nat) (v : Value) (m : Nat) (K : Nat → Fr) (R : Nat → Nat → Int) : Prop := ∀ q, q < m → One w base v (K q) (R q)
theorem Refd.kept {P : Nat} {w w' : World} {base m : Nat} {v : Value} {K : Nat → Fr} {R : Nat → Nat → Int} (h : Refd w base v m K R) (hk : Kept P w w') (hP : P < base) : Refd w' base v m K R := fun q hq => (h q hq).kept hk hP
theorem Refd.grew {w w' : World} {base m : Nat} {v : Value} {K : Nat → Fr} {R : Nat → Nat → Int} (h : Refd w base v m K R) (hb : Below w.heap.size w w') : Refd w' base v m K R := fun q hq => (h q hq).grew hb
theorem Refd.push {w w' : World} {base m : Nat} {v v' : Value} {K : Nat → Fr} {R : Nat → Nat → Int} {f : Fr} {r : Nat → Int} (h : Refd w base v m K R) (hf : One w base v f r) (hg : w.grownBy w' v.ownBlock) (hv : v'.ownBlock = v.ownBlock ∨ v'.ownBlock = some w.heap.size) :
    Refd w' base v' (m + 1) (fun i => if i < m then K i else f) (fun i => if i < m then R i else r) := fun q hq => by
  by_cases e : q < m
  · simp only [if_pos e]; exact (h q e).grown hg hv
  · simp only [if_neg e]; exact hf.grown hg hv
/-- Each hangs on earlier ones alone. -/
def Hung (K : Nat → Fr) (R : Nat → Nat → Int) (m : Nat) : Prop := ∀ q, q < m → ∀ j, j < (K q).n → ∃ p, p < q ∧ R q j = ((K p).id : Int)
theorem Hung.nil (K : Nat → Fr) (R : Nat → Nat → Int) : Hung K R 0 := fun q hq => absurd hq (Nat.not_lt_zero q)
theorem Hung.push {K : Nat → Fr} {R : Nat → Nat → Int} {m : Nat} {f : Fr} {r : Nat → Int} (h : Hung K R m) (hf : ∀ j, j < f.n → ∃ p, p < m ∧ r j = ((K p).id : Int)) : Hung (fun i => if i < m then K i else f) (fun i => if i < m then R i else r) (m + 1) := fun q hq j hj => by
  by_cases e : q < m
  · simp only [if_pos e] at hj ⊢
    obtain ⟨p, h1, h2⟩ := h q e j hj
    refine ⟨p, h1, ?_⟩
    rw [if_pos (by omega)]
    exact h2
  · simp only [if_neg e] at hj ⊢
    obtain ⟨p, h1, h2⟩ := hf j hj
    refine ⟨p, by omega, ?_⟩
    rw [if_pos h1]
    exact h2
/-- None of the first q is x, if b. -/
def Off (b : Bool) (r : Nat → Int) (x : Int) (q : Nat) : Prop := b = true → ∀ p, p < q → r p ≠ x
theorem Off.nil (b : Bool) (r : Nat → Int) (x : Int) : Off b r x 0 := fun _ p hp => absurd hp (Nat.not_lt_zero p)
theorem Off.push {b c : Bool} {r : Nat → Int} {x : Int} {q : Nat} (h : Off b r x q) (hc : c = true → b = true ∧ r q ≠ x) : Off c r x (q + 1) := fun e p hp => by
  by_cases e2 : p = q
  · rw [e2]; exact (hc e).2
  · exact h (hc e).1 p (by omega)
/-- What Frames answers. -/
def FramesIs (D P M : Nat) (w : World) (e : Ending) (w' : World) : Prop := Chose D P w w' ∧ ∃ v m K R, e = .returned v ∧ Ffo w' w.heap.size v m K ∧ m ≤ M ∧ Inc K m ∧ Refd w' w.heap.size v m K R ∧ Hung K R m

set_option maxRecDepth 100000 in
set_option maxHeartbeats 4000000 in
theorem frames_any (D P p0 M : Nat) (w : World) (h : Picks D w P p0) (hD : D ≤ w.heap.size) (hM : M ≤ 20) :
    Calls Try.prog 8 #[.pointer (some ⟨P, 0, none⟩), .int .i64 (M : Int)] w (FramesIs D P M w) := by
  have lP : P < w.heap.size := h.lt.1
  have HC : Hid (Chose D P w w) := ⟨Kept.refl _ _, p0, h⟩
  clear h
  go_enter Try.func8, Try.ntmps8
  go_wp2_with fail
  go_loopw [5, 6] (fun l i wr => ∃ (k m : Nat) (K : Nat → Fr) (R : Nat → Nat → Int), i = .int .i64 k ∧ k ≤ M ∧ m ≤ k ∧ Hid (Chose D P w wr) ∧ Hid (Ffo wr w.heap.size l m K) ∧ Hid (Inc K m) ∧ Hid (Refd wr w.heap.size l m K R) ∧ Hid (Hung K R m)) (fun _ i _ => M - (intOf i).toNat)
  case atStart => exact ⟨0, 0, fun _ => Fr.zero, fun _ _ => 0, rfl, by omega, by omega, HC, Ffo.nil _ _ _, ⟨fun q hq => absurd hq (by omega), fun q hq => absurd hq (by omega)⟩, fun q hq => absurd hq (by omega), Hung.nil _ _⟩
  case round =>
    clear HC
    obtain ⟨k, m, K, R, rfl, hk, hm, hc, hf, hi, hrf, hhu⟩ := hrel
    obtain ⟨r, cap, rfl, -, hr⟩ := hf.out.any
    have HR : Hid (∀ b o, r = some ⟨b, o, none⟩ → w.heap.size ≤ b ∧ b < wr.heap.size) := hr
    clear hr
    by_cases hk8 : k < M
    case neg =>
      have k1 : decide ((k : Int) < (M : Int)) = false := by simp; omega
      go_wp2
      go_ret
      exact ⟨hc.out, _, m, K, R, rfl, hf.out, by omega, hi.out, hrf.out, hhu.out⟩
    have k1 : (k : Int) < (M : Int) := by omega
    obtain ⟨p1, hp1⟩ := hc.out.picks
    go_wp2_with fail
    refine (over_any D P p1 _ hp1).mono ?_
    rintro e w1 ⟨⟨ov, rfl⟩, sm⟩
    have hc1 : Hid (Chose D P w w1) := hc.out.grew (sm.below _)
    have hf1 : Hid (Ffo w1 w.heap.size (.slice r m cap) m K) := hf.out.grew (sm.below _)
    have HR1 : Hid (∀ b o, r = some ⟨b, o, none⟩ → w.heap.size ≤ b ∧ b < w1.heap.size) := by
      intro b o e
      have := HR.out b o e
      rw [sm.size]
      exact this
    have hrf1 : Hid (Refd w1 w.heap.size (.slice r m cap) m K R) := hrf.out.grew (sm.below _)
    clear hc hf hp1 HR sm hrf
    cases ov with
    | true =>
      go_wp2
      go_ret
      exact ⟨hc1.out, _, m, K, R, rfl, hf1.out, by omega, hi.out, hrf1.out, hhu.out⟩
    | false =>
      obtain ⟨lo, l1, l2⟩ : ∃ lo : Nat, (m = 0 → lo = 0) ∧ (0 < m → lo = (K (m - 1)).id) := by
        by_cases e : m = 0
        · exact ⟨0, fun _ => rfl, fun h => absurd h (by omega)⟩
        · exact ⟨_, fun h => absurd h e, fun _ => rfl⟩
      have L1 : Hid (m = 0 → lo = 0) := l1
      have L2 : Hid (0 < m → lo = (K (m - 1)).id) := l2
      clear l1 l2
      obtain ⟨p2, hp2⟩ := hc1.out.picks
      have hfrs : FrsAt w1 r m K := by
        obtain ⟨r', c', e, hh, -⟩ := hf1.out.any
        cases e
        exact hh
      go_wp2_with fail
      refine (next_any D P p2 lo r m cap K k _ hp2 (Nat.le_trans hD hc1.out.kept.size) (by omega) (by omega) (fun b o e => by have := HR1.out b o e; omega) (fun h0 => by have := hi.out.1 (m - 1) (by omega); omega) L1.out L2.out hfrs (fun x => ∃ p, p < m ∧ x = ((K p).id : Int)) (fun q hq => ⟨q, hq, rfl⟩)).mono ?_
      rintro e w2 ⟨c2, f, rr, bv, rfl, hu, hn, hid, hkd, hsr⟩
      have hc2 : Hid (Chose D P w w2) := hc1.out.trans c2
      have hf2 : Hid (Ffo w2 w.heap.size (.slice r m cap) m K) := hf1.out.kept c2.kept lP
      have hnum := (hu.refs (by omega)).nums
      have HSR : Hid (∀ q, q < f.n → (∃ p, p < m ∧ rr q = ((K p).id : Int)) ∨ rr q = (f.id : Int)) := hsr
      have HID : Hid (f.id = 0 ∨ (lo < f.id ∧ f.id ≤ lo + 3)) := hid
      have hrf2 : Hid (Refd w2 w.heap.size (.slice r m cap) m K R) := hrf1.out.kept c2.kept lP
      have hon2 : Hid (One w2 w.heap.size (.slice r m cap) f rr) := ⟨hu.base hc1.out.kept.size, hn, hkd, fun g e e2 => by
        have q1 := (World.ownsRow.lt hu g e).1
        have q2 := (World.ownsRow.lt hf1.out g e2).2
        omega⟩
      clear c2 hc1 hf1 HR1 hp2 hfrs hid hkd hrf1 hsr
      obtain ⟨y0, e0⟩ : ∃ x, w2.alloc (.cells #[.int .u32 (f.id : Int), .int .i64 f.k, .slice f.a f.n f.c, .int .i64 f.s, .int .i64 f.p, .int .i64 f.d] 31) = x := ⟨_, rfl⟩
      have B0 : Below w2.heap.size w2 y0 := e0 ▸ box_below w2 _
      have F0 : FrAt y0 w2.heap.size f := e0 ▸ FrAt.made w2 _ f
      have HN : Hid (NumsAt .u32 y0 f.a f.n rr) := hnum.grew B0
      have HC0 : Hid (Chose D P w y0) := hc2.out.grew B0
      have HF0 : Hid (Ffo y0 w.heap.size (.slice r m cap) m K) := hf2.out.grew B0
      have HF : Hid (FrAt y0 w2.heap.size f) := F0
      have HRF0 : Hid (Refd y0 w.heap.size (.slice r m cap) m K R) := hrf2.out.grew B0
      have HON0 : Hid (One y0 w.heap.size (.slice r m cap) f rr) := hon2.out.grew B0
      have sz0 : Hid (w.heap.size ≤ y0.heap.size) := Nat.le_trans hc2.out.kept.size B0.size
      obtain ⟨f0, f1, f2, f3, f4, f5, -⟩ := F0
      clear B0 hnum hc2 hf2 hu hrf2 hon2
      unfold Fr.val
      go_wp2_with fail
      clear e0 f0 f1 f2 f3 f4 f5
      generalize w2.heap.size = N at *
      generalize wr = wo at *
      go_loopw [9, 10] (fun ok u wr => ∃ (b : Bool) (q : Nat), ok = .bool b ∧ u = .int .i64 q ∧ q ≤ f.n ∧ Hid (Below y0.heap.size y0 wr) ∧ Hid (Off b rr (f.id : Int) q)) (fun _ u _ => f.n - (intOf u).toNat)
      case atStart => exact ⟨_, 0, rfl, rfl, Nat.zero_le _, Below.refl _ _, Off.nil _ _ _⟩
      case round =>
        obtain ⟨ok, q, rfl, rfl, hqn, hb, hoff⟩ := hrel
        obtain ⟨f0, f1, f2, f3, f4, f5, -⟩ := HF.out.grew hb.out
        have HD : Hid (Below y0.heap.size y0 wr.drew) := hb.out.drew
        by_cases hq : q < f.n
        · have q1 : (q : Int) < (f.n : Int) := by omega
          obtain ⟨rb, ro, e3, hcc⟩ := (HN.out.grew hb.out) (by omega)
          have c5 := hcc q hq
          rw [e3] at f2
          clear hcc e3 hb
          cases ok with
          | true =>
            go_wp2_with fail
            go_region
            go_wp2_with fail
            go_roundw
            case rel => exact ⟨_, q + 1, rfl, by go_num, by omega, HD, hoff.out.push (fun e => ⟨rfl, by simpa using e⟩)⟩
            case measure => simp [intOf]; omega
          | false =>
            go_wp2_with fail
            go_region
            go_wp2_with fail
            go_roundw
            case rel => exact ⟨_, q + 1, rfl, by go_num, by omega, HD, hoff.out.push (fun e => by simp at e)⟩
            case measure => simp [intOf]; omega
        · have q2 : decide ((q : Int) < (f.n : Int)) = false := by simp; omega
          generalize hwq : wr.drew = wq at *
          have HCq : Hid (Chose D P w wq) := HC0.out.grew HD.out
          have HFq : Hid (Ffo wq w.heap.size (.slice r m cap) m K) := HF0.out.grew HD.out
          have HGq : Hid (FrAt wq N f) := HF.out.grew HD.out
          have HRFq : Hid (Refd wq w.heap.size (.slice r m cap) m K R) := HRF0.out.grew HD.out
          have HONq : Hid (One wq w.heap.size (.slice r m cap) f rr) := HON0.out.grew HD.out
          have szq : Hid (w.heap.size ≤ wq.heap.size) := Nat.le_trans sz0.out HD.out.size
          have hmm : m ≤ k + 1 := by omega
          have NOT : Hid (∃ (k' m' : Nat) (K' : Nat → Fr) (R' : Nat → Nat → Int), Value.int .i64 ((k : Int) + 1) = .int .i64 k' ∧ k' ≤ M ∧ m' ≤ k' ∧ Hid (Chose D P w wq) ∧ Hid (Ffo wq w.heap.size (.slice r m cap) m' K') ∧ Hid (Inc K' m') ∧ Hid (Refd wq w.heap.size (.slice r m cap) m' K' R') ∧ Hid (Hung K' R' m')) := ⟨k + 1, m, K, R, rfl, by omega, hmm, HCq, HFq, hi, HRFq, hhu⟩
          obtain ⟨g0, g1, g2, g3, g4, g5, -⟩ := HGq.out
          cases ok with
          | false =>
            go_wp2_with fail
            go_region
            try rw [hwq]
            go_wp2_with fail
            go_roundw
            case rel => exact NOT.out
            case measure => simp [intOf]; omega
          | true =>
            have HUP : Hid (Hung (fun i => if i < m then K i else f) (fun i => if i < m then R i else rr) (m + 1)) := hhu.out.push (fun j hj => (HSR.out j hj).resolve_right (hoff.out rfl j (by omega)))
            by_cases hz : 0 < f.id
            case neg =>
              have a1 : decide (0 < f.id) = false := by simp; omega
              go_wp2_with fail
              go_region
              try rw [hwq]
              go_wp2_with fail
              go_roundw
              case rel => exact NOT.out
              case measure => simp [intOf]; omega
            by_cases h0 : m = 0
            · have a2 : ((m : Int) == 0) = true := by simp [h0]
              clear h0
              obtain ⟨y1, e1⟩ : ∃ x, wq.alloc (.cells #[.int .u32 (f.id : Int), .int .i64 f.k, .slice f.a f.n f.c, .int .i64 f.s, .int .i64 f.p, .int .i64 f.d] 31) = x := ⟨_, rfl⟩
              have B1 : Below wq.heap.size wq y1 := e1 ▸ box_below wq _
              have G1 : FrAt y1 wq.heap.size f := e1 ▸ FrAt.made wq _ f
              have O1 := HFq.out.grew B1
              obtain ⟨v', y2, happ, O2, gr, wh⟩ := O1.push 25 G1 (by omega) (Nat.le_trans szq.out B1.size)
              have B2 := O1.grown gr (Nat.le_trans szq.out B1.size)
              have REL : Hid (∃ (k' m' : Nat) (K' : Nat → Fr) (R' : Nat → Nat → Int), Value.int .i64 ((k : Int) + 1) = .int .i64 k' ∧ k' ≤ M ∧ m' ≤ k' ∧ Hid (Chose D P w y2) ∧ Hid (Ffo y2 w.heap.size v' m' K') ∧ Hid (Inc K' m') ∧ Hid (Refd y2 w.heap.size v' m' K' R') ∧ Hid (Hung K' R' m')) :=
                ⟨k + 1, m + 1, _, _, rfl, by omega, by omega, (HCq.out.grew B1).below B2 hD, O2, hi.out.push lo L1.out L2.out (HID.out.resolve_left (by omega)), (HRFq.out.grew B1).push (HONq.out.grew B1) gr wh, HUP⟩
              clear B1 G1 O1 O2 gr wh B2 NOT
              go_wp2_with fail
              go_region
              try rw [hwq]
              go_wp2_with (at_builtin; refine Go.Lib.wpList_append_run _ rfl (.tmp 77) (.tmp 79) 25 25 rfl _ _ rfl rfl _ _ happ ?_)
              go_roundw
              case rel => exact REL.out
              case measure => simp [intOf]; omega
            have a2 : ((m : Int) == 0) = false := by simp; omega
            obtain ⟨r', c', er, hh, -⟩ := HF0.out.any
            obtain ⟨lb, lo', el⟩ := hh.addr (by omega)
            cases er
            subst el
            obtain ⟨-, -, -, -, -, t5⟩ := (hh.grew HD.out).at (m - 1) (by omega)
            clear hh
            by_cases hd : (K (m - 1)).d ≤ f.d
            · obtain ⟨y1, e1⟩ : ∃ x, wq.alloc (.cells #[.int .u32 (f.id : Int), .int .i64 f.k, .slice f.a f.n f.c, .int .i64 f.s, .int .i64 f.p, .int .i64 f.d] 31) = x := ⟨_, rfl⟩
              have B1 : Below wq.heap.size wq y1 := e1 ▸ box_below wq _
              have G1 : FrAt y1 wq.heap.size f := e1 ▸ FrAt.made wq _ f
              have O1 := HFq.out.grew B1
              obtain ⟨v', y2, happ, O2, gr, wh⟩ := O1.push 25 G1 (by omega) (Nat.le_trans szq.out B1.size)
              have B2 := O1.grown gr (Nat.le_trans szq.out B1.size)
              have REL : Hid (∃ (k' m' : Nat) (K' : Nat → Fr) (R' : Nat → Nat → Int), Value.int .i64 ((k : Int) + 1) = .int .i64 k' ∧ k' ≤ M ∧ m' ≤ k' ∧ Hid (Chose D P w y2) ∧ Hid (Ffo y2 w.heap.size v' m' K') ∧ Hid (Inc K' m') ∧ Hid (Refd y2 w.heap.size v' m' K' R') ∧ Hid (Hung K' R' m')) :=
                ⟨k + 1, m + 1, _, _, rfl, by omega, by omega, (HCq.out.grew B1).below B2 hD, O2, hi.out.push lo L1.out L2.out (HID.out.resolve_left (by omega)), (HRFq.out.grew B1).push (HONq.out.grew B1) gr wh, HUP⟩
              clear B1 G1 O1 O2 gr wh B2 NOT
              go_wp2_with fail
              go_region
              try rw [hwq]
              go_wp2_with (at_builtin; refine Go.Lib.wpList_append_run _ rfl (.tmp 77) (.tmp 79) 25 25 rfl _ _ rfl rfl _ _ happ ?_)
              go_roundw
              case rel => exact REL.out
              case measure => simp [intOf]; omega
            · have a3 : ¬ (K (m - 1)).d ≤ f.d := hd
              go_wp2_with fail
              go_region
              try rw [hwq]
              go_wp2_with fail
              go_roundw
              case rel => exact NOT.out
              case measure => simp [intOf]; omega
end Go.Proofs.Ytclbcggbnbimaaa
