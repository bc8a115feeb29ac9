/-
  Package tally: Report.
-/
import Derived.OrdersHeld
import Derived.Deep.RegionHeld
import Derived.Test.YtalfncnpffbmmaaTl7
namespace Go.Proofs.Ytalfncnpffbmmaa
open Go.RowKit Go.Deep

/-- Five cells of block B hold a report, and may be written. -/
structure RpAt (w : World) (B t l g u j : Nat) : Prop where
  c0 : w.cell? ⟨B, 0, none⟩ = some (.int .u64 (t : Int))
  c1 : w.cell? ⟨B, 1, none⟩ = some (.int .u32 (l : Int))
  c2 : w.cell? ⟨B, 2, none⟩ = some (.int .u32 (g : Int))
  c3 : w.cell? ⟨B, 3, none⟩ = some (.int .u16 (u : Int))
  c4 : w.cell? ⟨B, 4, none⟩ = some (.int .u16 (j : Int))
  frz : ∀ i, w.frozen? ⟨B, i, none⟩ = false
theorem RpAt.made (w : World) (T : TypeId) (t l g u j : Nat) : RpAt (w.alloc (.cells #[.int .u64 (t : Int), .int .u32 (l : Int), .int .u32 (g : Int), .int .u16 (u : Int), .int .u16 (j : Int)] T)) w.heap.size t l g u j :=
  ⟨by rw [World.cell?_alloc_at _ _ _ _ rfl]; rfl, by rw [World.cell?_alloc_at _ _ _ _ rfl]; rfl, by rw [World.cell?_alloc_at _ _ _ _ rfl]; rfl, by rw [World.cell?_alloc_at _ _ _ _ rfl]; rfl, by rw [World.cell?_alloc_at _ _ _ _ rfl]; rfl,
   fun i => by rw [World.frozen?_alloc_at _ _ _ _ rfl]⟩
theorem RpAt.lt {w : World} {B t l g u j : Nat} (h : RpAt w B t l g u j) : B < w.heap.size := cell_lt h.c0
theorem RpAt.block {w w' : World} {B t l g u j : Nat} (h : RpAt w B t l g u j) (e : w'.heap[B]? = w.heap[B]?) : RpAt w' B t l g u j :=
  ⟨(World.cell?_of_block e).trans h.c0, (World.cell?_of_block e).trans h.c1, (World.cell?_of_block e).trans h.c2, (World.cell?_of_block e).trans h.c3, (World.cell?_of_block e).trans h.c4, fun i => (World.frozen?_of_block (a := ⟨B, i, none⟩) e).trans (h.frz i)⟩
theorem RpAt.set5 {w : World} {B t0 l0 g0 u0 j0 : Nat} (h : RpAt w B t0 l0 g0 u0 j0) (t l g u j : Nat) : RpAt (((((w.setCell ⟨B, 0, none⟩ (.int .u64 (t : Int))).setCell ⟨B, 1, none⟩ (.int .u32 (l : Int))).setCell ⟨B, 2, none⟩ (.int .u32 (g : Int))).setCell ⟨B, 3, none⟩ (.int .u16 (u : Int))).setCell ⟨B, 4, none⟩ (.int .u16 (j : Int))) B t l g u j := by
  have n : ∀ i k : Nat, i ≠ k → (⟨B, i, none⟩ : Addr) ≠ ⟨B, k, none⟩ := fun i k h e => h (Addr.mk.inj e).2.1
  exact ⟨by rw [World.cell?_setCell_other _ _ _ _ (n 4 0 (by decide)), World.cell?_setCell_other _ _ _ _ (n 3 0 (by decide)), World.cell?_setCell_other _ _ _ _ (n 2 0 (by decide)), World.cell?_setCell_other _ _ _ _ (n 1 0 (by decide)), World.cell?_setCell_same _ _ _ h.c0], by rw [World.cell?_setCell_other _ _ _ _ (n 4 1 (by decide)), World.cell?_setCell_other _ _ _ _ (n 3 1 (by decide)), World.cell?_setCell_other _ _ _ _ (n 2 1 (by decide)), World.cell?_setCell_same _ _ _ (by rw [World.cell?_setCell_other _ _ _ _ (n 0 1 (by decide))]; exact h.c1)], by rw [World.cell?_setCell_other _ _ _ _ (n 4 2 (by decide)), World.cell?_setCell_other _ _ _ _ (n 3 2 (by decide)), World.cell?_setCell_same _ _ _ (by rw [World.cell?_setCell_other _ _ _ _ (n 1 2 (by decide)), World.cell?_setCell_other _ _ _ _ (n 0 2 (by decide))]; exact h.c2)], by rw [World.cell?_setCell_other _ _ _ _ (n 4 3 (by decide)), World.cell?_setCell_same _ _ _ (by rw [World.cell?_setCell_other _ _ _ _ (n 2 3 (by decide)), World.cell?_setCell_other _ _ _ _ (n 1 3 (by decide)), World.cell?_setCell_other _ _ _ _ (n 0 3 (by decide))]; exact h.c3)], by rw [World.cell?_setCell_same _ _ _ (by rw [World.cell?_setCell_other _ _ _ _ (n 3 4 (by decide)), World.cell?_setCell_other _ _ _ _ (n 2 4 (by decide)), World.cell?_setCell_other _ _ _ _ (n 1 4 (by decide)), World.cell?_setCell_other _ _ _ _ (n 0 4 (by decide))]; exact h.c4)], fun i => by rw [World.frozen?_setCell, World.frozen?_setCell, World.frozen?_setCell, World.frozen?_setCell, World.frozen?_setCell]; exact h.frz i⟩
/-- A report, by value. -/
def rpV (t l g u : Nat) : Value := .agg #[.int .u64 (t : Int), .int .u32 (l : Int), .int .u32 (g : Int), .int .u16 (u : Int), .int .u16 0]
/-- What a Tally counts behind a report. -/
def Tl.told (s : Tl) : Tl := { s with since := s.top, settled := s.top, got := 0, burst := 0, d := #[] }
set_option maxRecDepth 100000 in
set_option maxHeartbeats 400000 in
theorem tmost_any (x : Nat) (w : World) (h : x ≤ 4294967295) : Calls Try.prog 19 #[.int .u64 (x : Int)] w fun e w' => e = .returned (.int .u32 (x : Int)) ∧ w' = w := by
  have e1 : min (x : Int) 4294967295 = (x : Int) := by omega
  have e2 : IntKind.u32.wrap (x : Int) = (x : Int) := by simp [IntKind.wrap, IntKind.bits, IntKind.signed]; omega
  have h2 := h
  go_enter Try.func19, Try.ntmps19
  go_wp2
  all_goals (go_ret; exact ⟨ret_int (by omega), rfl⟩)
theorem min_u64 (a c : Nat) (ty : TypeId) (w : World) (h : min a 65535 = c) : (Builtin.min_ #[26, 26] ty #[.int .u64 (a : Int), .int .u64 65535]).run Try.prog w = .ok (.int .u64 (c : Int)) w := by
  subst h
  simp [Builtin.min_, Builtin.min2]
  split <;> omega
set_option maxRecDepth 100000 in
set_option maxHeartbeats 1000000 in
theorem treport_any (g ex cm im fb m k L : Nat) (s : Tl) (y : Nat → Nat) (w : World) (hL : s.d.size = L) (hL2 : L < 50) (hR : ∀ R, SortTo 0 L s.d R → ∀ i, i < L → R[i]! = (y i : Int)) (hs : ∀ i, i < L → stl y s.settled i < y i) (hy : ∀ i, i < L → y i ≤ 1000000000000)
    (hb : s.burst ≤ 1000000000000) (ht : 65536 ≤ s.top) (ht2 : s.top ≤ 1000000000) (hg : s.got ≤ 1000000) (hl : s.since + s.got ≤ s.top) (H : TlAt w g ex cm im fb m k s) :
    Calls Try.prog 7 #[.pointer (some ⟨g, 0, none⟩)] w fun e w' => e = .returned (rpV s.top (s.top - s.since - s.got) s.got (min (bst y s.settled s.burst L) 65535)) ∧ TlAt w' g ex cm im fb m k s.told ∧ KeptF (Blk g ex cm im fb) w w' := by
  obtain ⟨w0, e0⟩ : ∃ w0, w.alloc (.cells #[.int .u64 0, .int .u32 0, .int .u32 0, .int .u16 0, .int .u16 0] 32) = w0 := ⟨_, rfl⟩
  have R0 : RpAt w0 w.heap.size 0 0 0 0 0 := by rw [← e0]; exact RpAt.made w _ 0 0 0 0 0
  have b0 : Below w.heap.size w w0 := e0 ▸ (Below.refl _ _).alloc (Nat.le_refl _) _
  have HT0 : Hid (TlAt w0 g ex cm im fb m k s) := H.block (KeptF.of_below b0)
  have HK0 : Hid (KeptF (Blk g ex cm im fb) w w0) := KeptF.of_below b0
  have HR0 : Hid (RpAt w0 w.heap.size 0 0 0 0 0) := R0
  have HBN : Hid (∀ R, Blk g ex cm im fb R → R < w.heap.size) := fun R h => by
    rcases h with h | h | h | h | h
    · rw [h]; exact H.G.lt
    · rw [h]; exact H.ext.lt
    · rw [h]; exact H.hal.lt
    · rw [h]; exact H.set.lt
    · rw [h]; exact H.row.lt
  have c0 : w0.cell? ⟨g, 0, none⟩ = some (.pointer (some ⟨ex, 0, none⟩)) := HT0.out.G.cell 0 (by decide)
  have c4 : w0.cell? ⟨g, 4, none⟩ = some (.slice (some ⟨fb, 0, none⟩) L m) := (HT0.out.G.cell 4 (by decide)).trans (by rw [hL]; rfl)
  obtain ⟨t, htt⟩ : ∃ t, t = s.top := ⟨_, rfl⟩
  have t1 : 65536 ≤ t := by omega
  have HTT : Hid (t = s.top) := htt
  have HL : Hid (s.d.size = L) := hL
  have HLR : Hid (∀ R, SortTo 0 L s.d R → ∀ i, i < L → R[i]! = (y i : Int)) := hR
  have HS : Hid (∀ i, i < L → stl y s.settled i < y i) := hs
  have HY : Hid (∀ i, i < L → y i ≤ 1000000000000) := hy
  have HN : Hid (s.burst ≤ 1000000000000 ∧ s.top ≤ 1000000000 ∧ s.got ≤ 1000000 ∧ s.since + s.got ≤ s.top) := ⟨hb, ht2, hg, hl⟩
  clear R0 b0 H hL hR hs hy hb ht ht2 hg hl
  go_enter Try.func7, Try.ntmps7
  go_wp2_with fail
  refine (tnone_any g _ w0 c0).mono ?_
  rintro e w1 ⟨rfl, rfl⟩
  go_wp2_with fail
  refine (top_any ex s.top w1 HT0.out.ext).mono ?_
  rintro e w2 ⟨rfl, rfl⟩
  rw [← htt, show decide (t ≠ 0) = true from decide_eq_true (by omega)]
  clear htt
  go_wp2_with fail
  refine (ssort_any fb 0 m m L s.d w2 hL2 HL HT0.out.row).mono ?_
  rintro e w3 ⟨rfl, R, X3, S3, K3⟩
  have Q := HT0.out.five
  unfold Five at Q
  have hgf : g ≠ fb := Q.2.2.2.1
  have HX3 : Hid (Srow w3 fb 0 m R) := X3
  have HG3 : Hid (GAt w3 g (tlV ex cm (fresh fb m L) s)) := (HL.out ▸ HT0.out.G).kept K3 hgf
  have HE3 : Hid (ExtAt w3 ex s.top) := HT0.out.ext.kept K3 (by omega)
  have HH3 : Hid (HalfAt w3 cm 1 (fun y => if y = 2 then some im else none)) := HT0.out.hal.kept K3 (by omega)
  have HS3 : Hid (SetAt w3 im k s.S) := HT0.out.set.kept K3 (by omega)
  have HK3 : Hid (KeptF (Blk g ex cm im fb) w w3) := HK0.out.trans (KeptF.of_kept K3 (Or.inr (Or.inr (Or.inr (Or.inr rfl)))))
  have HR3 : Hid (RpAt w3 w.heap.size 0 0 0 0 0) := HR0.out.block (K3.block _ HR0.out.lt (by have := HBN.out fb (Or.inr (Or.inr (Or.inr (Or.inr rfl)))); omega))
  have HRL : Hid (R.size = L) := S3.1.1.trans HL.out
  have HRR : Hid (∀ i, i < L → R[i]! = (y i : Int)) := HLR.out R S3
  have HQ : Hid (Five g ex cm im fb) := HT0.out.five
  have HM : Hid (m ≤ maxLen) := HT0.out.cap
  have c4' : w3.cell? ⟨g, 4, none⟩ = some (.slice (some ⟨fb, 0, none⟩) L m) := HG3.out.cell 4 (by decide)
  have HGF : Hid (g ≠ fb) := hgf
  clear X3 S3 K3 Q HT0 HK0 HR0 c0 c4 hgf e0
  go_wp2_with fail
  refine (tsettle_any g fb m L L s.settled s.burst R y _ w3 HRL.out (Or.inr rfl) (by omega) HRR.out HS.out HY.out HN.out.1 rfl rfl rfl HG3 HX3 HGF.out).mono ?_
  rintro e w4 ⟨rfl, G4, X4, K4⟩
  obtain ⟨v, hv⟩ : ∃ v : Nat → Value, v = (fun j => if j = 4 then fresh fb m (L - L) else if j = 6 then .int .u64 (bst y s.settled s.burst L : Int) else if j = 5 then .int .u64 (stl y s.settled L : Int) else tlV ex cm (fresh fb m L) s j) := ⟨_, rfl⟩
  rw [← hv] at G4
  have hF : ∀ R, (R = g ∨ R = fb) → Blk g ex cm im fb R := fun R h => by
    rcases h with h | h
    · exact Or.inl h
    · exact Or.inr (Or.inr (Or.inr (Or.inr h)))
  have Q := HQ.out
  unfold Five at Q
  have X4' : Srow w4 fb 0 m #[] := by
    by_cases h0 : L = 0
    · rw [if_pos h0] at X4
      have : R = #[] := Array.eq_empty_of_size_eq_zero (by rw [HRL.out, h0])
      rw [this] at X4
      exact X4
    · rw [if_neg h0] at X4
      exact X4
  have HX4 : Hid (Srow w4 fb 0 m #[]) := X4'
  have HG4 : Hid (GAt w4 g v) := G4
  have HE4 : Hid (ExtAt w4 ex s.top) := HE3.out.block (K4.block ex HE3.out.lt (fun h => by rcases h with h | h <;> omega))
  have HH4 : Hid (HalfAt w4 cm 1 (fun y => if y = 2 then some im else none)) := HH3.out.block (K4.block cm HH3.out.lt (fun h => by rcases h with h | h <;> omega))
  have HS4 : Hid (SetAt w4 im k s.S) := HS3.out.block (K4.block im HS3.out.lt (fun h => by rcases h with h | h <;> omega))
  have HK4 : Hid (KeptF (Blk g ex cm im fb) w w4) := HK3.out.trans (K4.mono hF)
  have bg := HBN.out g (Or.inl rfl)
  have bf := HBN.out fb (Or.inr (Or.inr (Or.inr (Or.inr rfl))))
  have HR4 : Hid (RpAt w4 w.heap.size 0 0 0 0 0) := HR3.out.block (K4.block _ HR3.out.lt (fun h => by rcases h with h | h <;> omega))
  have HV : Hid (v = (fun j => if j = 4 then fresh fb m (L - L) else if j = 6 then .int .u64 (bst y s.settled s.burst L : Int) else if j = 5 then .int .u64 (stl y s.settled L : Int) else tlV ex cm (fresh fb m L) s j)) := hv
  obtain ⟨a, ha⟩ : ∃ a, a = s.since := ⟨_, rfl⟩
  obtain ⟨q, hq⟩ : ∃ q, q = s.got := ⟨_, rfl⟩
  obtain ⟨u, hu⟩ : ∃ u, u = bst y s.settled s.burst L := ⟨_, rfl⟩
  have hcv : v 2 = .int .u64 (a : Int) ∧ v 3 = .int .u64 (q : Int) ∧ v 6 = .int .u64 (u : Int) := ⟨by rw [hv, ha]; rfl, by rw [hv, hq]; rfl, by rw [hv, hu]; rfl⟩
  obtain ⟨p1, hp1⟩ : ∃ p, p = t - a := ⟨_, rfl⟩
  obtain ⟨p2, hp2⟩ : ∃ p, p = p1 - q := ⟨_, rfl⟩
  obtain ⟨mu, hmu⟩ : ∃ mu, min u 65535 = mu := ⟨_, rfl⟩
  have N := HN.out
  have T := HTT.out
  have e1 : IntKind.u64.wrap ((t : Int) - (a : Int)) = (p1 : Int) := by simp [IntKind.wrap, IntKind.bits, IntKind.signed]; omega
  have e2 : IntKind.u64.wrap ((p1 : Int) - (q : Int)) = (p2 : Int) := by simp [IntKind.wrap, IntKind.bits, IntKind.signed]; omega
  have e3 := fun ty W => min_u64 u mu ty W hmu
  have e4 : IntKind.u16.wrap (mu : Int) = (mu : Int) := by simp [IntKind.wrap, IntKind.bits, IntKind.signed]; omega
  have i1 : p2 ≤ 4294967295 := by omega
  have i2 : q ≤ 4294967295 := by omega
  have HEQ : Hid (s.top - s.since - s.got = p2 ∧ s.got = q ∧ min (bst y s.settled s.burst L) 65535 = mu) := ⟨by rw [hp2, hp1, T, ha, hq], hq.symm, by rw [← hu]; exact hmu⟩
  clear ha hq hu hp1 hp2 hmu N T hv X4 X4' G4 K4 Q bg bf hF HG3 HX3 HE3 HH3 HS3 HK3 HR3 c4'
  have HC : Hid (∀ W, KeptF (fun _ => False) w4 W → GAt W g v) := fun W hW => HG4.out.block (hW.block g HG4.out.lt id)
  have HCV : Hid (v 2 = .int .u64 (a : Int) ∧ v 3 = .int .u64 (q : Int) ∧ v 6 = .int .u64 (u : Int)) := hcv
  clear hcv
  go_wp2_with fail
  have hc2 : ∀ W, KeptF (fun _ => False) w4 W → W.cell? ⟨g, 2, none⟩ = some (.int .u64 (a : Int)) := fun W hW => ((HC.out W hW).cell 2 (by decide)).trans (by rw [HCV.out.1])
  have hc3 : ∀ W, KeptF (fun _ => False) w4 W → W.cell? ⟨g, 3, none⟩ = some (.int .u64 (q : Int)) := fun W hW => ((HC.out W hW).cell 3 (by decide)).trans (by rw [HCV.out.2.1])
  have hc6 : ∀ W, KeptF (fun _ => False) w4 W → W.cell? ⟨g, 6, none⟩ = some (.int .u64 (u : Int)) := fun W hW => ((HC.out W hW).cell 6 (by decide)).trans (by rw [HCV.out.2.2])
  refine wp_region_held (S := KeptF (fun _ => False) w4) (by kernel_rfl) ?_
  change wpAnyH _ _ _ _ _ _ _ _ w4.drew
  have hr : KeptF (fun _ => False) w4 w4.drew := KeptF.of_same ⟨1, rfl⟩
  have hz : w4.heap.size ≤ w4.drew.heap.size := Nat.le_refl _
  generalize w4.drew = x0 at *
  refine wpAnyH_take (i := 0) (v := .int .u64 (t : Int)) rfl (by kernel_rfl) (by kernel_rfl) (by kernel_rfl) (fun _ _ _ h => h) (Yields.yieldsIf (Or.inl ⟨by kernel_rfl, fun _ => by kernel_rfl⟩)) hr ?_
  refine wpAnyH_take (i := 1) (v := .int .u64 (t : Int)) rfl (by kernel_rfl) (by kernel_rfl) (by kernel_rfl) (fun _ _ _ h => h) (Yields.yieldsIf (Or.inl ⟨by kernel_rfl, fun _ => by kernel_rfl⟩)) hr ?_
  refine wpAnyH_take (i := 2) (v := .pointer (some ⟨g, 0, none⟩)) rfl (by kernel_rfl) (by kernel_rfl) (by kernel_rfl) (fun _ _ _ h => h) (Yields.yieldsIf (Or.inl ⟨by kernel_rfl, fun _ => by kernel_rfl⟩)) hr ?_
  refine wpAnyH_take (i := 3) (v := .pointer (some ⟨g, 0, none⟩)) rfl (by kernel_rfl) (by kernel_rfl) (by kernel_rfl) (fun _ _ _ h => h) (Yields.yieldsIf (Or.inl ⟨by kernel_rfl, fun _ => by go_simp⟩)) hr ?_
  refine wpAnyH_take (i := 4) (v := .pointer (some ⟨g, 2, none⟩)) rfl (by kernel_rfl) (by kernel_rfl) (by kernel_rfl) (fun _ _ _ h => h) (Yields.yieldsIf (Or.inl ⟨by kernel_rfl, fun _ => by go_simp⟩)) hr ?_
  refine wpAnyH_take (i := 5) (v := .int .u64 (a : Int)) rfl (by kernel_rfl) (by kernel_rfl) (by kernel_rfl) (fun _ _ _ h => h) (Or.inl ⟨by kernel_rfl, fun W hW => by have g0 := hc2 W hW; go_simp⟩) hr ?_
  refine wpAnyH_take (i := 6) (v := .int .u64 (p1 : Int)) rfl (by kernel_rfl) (by kernel_rfl) (by kernel_rfl) (fun _ _ _ h => h) (Yields.yieldsIf (Or.inl ⟨by kernel_rfl, fun _ => by go_simp⟩)) hr ?_
  refine wpAnyH_take (i := 7) (v := .pointer (some ⟨g, 0, none⟩)) rfl (by kernel_rfl) (by kernel_rfl) (by kernel_rfl) (fun _ _ _ h => h) (Yields.yieldsIf (Or.inl ⟨by kernel_rfl, fun _ => by kernel_rfl⟩)) hr ?_
  refine wpAnyH_take (i := 8) (v := .pointer (some ⟨g, 0, none⟩)) rfl (by kernel_rfl) (by kernel_rfl) (by kernel_rfl) (fun _ _ _ h => h) (Yields.yieldsIf (Or.inl ⟨by kernel_rfl, fun _ => by go_simp⟩)) hr ?_
  refine wpAnyH_take (i := 9) (v := .pointer (some ⟨g, 3, none⟩)) rfl (by kernel_rfl) (by kernel_rfl) (by kernel_rfl) (fun _ _ _ h => h) (Yields.yieldsIf (Or.inl ⟨by kernel_rfl, fun _ => by go_simp⟩)) hr ?_
  refine wpAnyH_take (i := 10) (v := .int .u64 (q : Int)) rfl (by kernel_rfl) (by kernel_rfl) (by kernel_rfl) (fun _ _ _ h => h) (Or.inl ⟨by kernel_rfl, fun W hW => by have g0 := hc3 W hW; go_simp⟩) hr ?_
  refine wpAnyH_take (i := 11) (v := .int .u64 (p2 : Int)) rfl (by kernel_rfl) (by kernel_rfl) (by kernel_rfl) (fun _ _ _ h => h) (Yields.yieldsIf (Or.inl ⟨by kernel_rfl, fun _ => by go_simp⟩)) hr ?_
  refine wpAnyH_take (i := 13) (v := .pointer (some ⟨g, 0, none⟩)) rfl (by kernel_rfl) (by kernel_rfl) (by kernel_rfl) (fun _ _ _ h => h) (Yields.yieldsIf (Or.inl ⟨by kernel_rfl, fun _ => by kernel_rfl⟩)) hr ?_
  refine wpAnyH_take (i := 14) (v := .pointer (some ⟨g, 0, none⟩)) rfl (by kernel_rfl) (by kernel_rfl) (by kernel_rfl) (fun _ _ _ h => h) (Yields.yieldsIf (Or.inl ⟨by kernel_rfl, fun _ => by go_simp⟩)) hr ?_
  refine wpAnyH_take (i := 15) (v := .pointer (some ⟨g, 3, none⟩)) rfl (by kernel_rfl) (by kernel_rfl) (by kernel_rfl) (fun _ _ _ h => h) (Yields.yieldsIf (Or.inl ⟨by kernel_rfl, fun _ => by go_simp⟩)) hr ?_
  refine wpAnyH_take (i := 16) (v := .int .u64 (q : Int)) rfl (by kernel_rfl) (by kernel_rfl) (by kernel_rfl) (fun _ _ _ h => h) (Or.inl ⟨by kernel_rfl, fun W hW => by have g0 := hc3 W hW; go_simp⟩) hr ?_
  refine wpAnyH_take (i := 18) (v := .pointer (some ⟨g, 0, none⟩)) rfl (by kernel_rfl) (by kernel_rfl) (by kernel_rfl) (fun _ _ _ h => h) (Yields.yieldsIf (Or.inl ⟨by kernel_rfl, fun _ => by kernel_rfl⟩)) hr ?_
  refine wpAnyH_take (i := 19) (v := .pointer (some ⟨g, 0, none⟩)) rfl (by kernel_rfl) (by kernel_rfl) (by kernel_rfl) (fun _ _ _ h => h) (Yields.yieldsIf (Or.inl ⟨by kernel_rfl, fun _ => by go_simp⟩)) hr ?_
  refine wpAnyH_take (i := 20) (v := .pointer (some ⟨g, 6, none⟩)) rfl (by kernel_rfl) (by kernel_rfl) (by kernel_rfl) (fun _ _ _ h => h) (Yields.yieldsIf (Or.inl ⟨by kernel_rfl, fun _ => by go_simp⟩)) hr ?_
  refine wpAnyH_take (i := 21) (v := .int .u64 (u : Int)) rfl (by kernel_rfl) (by kernel_rfl) (by kernel_rfl) (fun _ _ _ h => h) (Or.inl ⟨by kernel_rfl, fun W hW => by have g0 := hc6 W hW; go_simp⟩) hr ?_
  refine wpAnyH_take (i := 22) (v := .int .u64 (mu : Int)) rfl (by kernel_rfl) (by kernel_rfl) (by kernel_rfl) (fun _ _ _ h => h) (Yields.yieldsIf (Or.inl ⟨by kernel_rfl, fun _ => by go_simp⟩)) hr ?_
  refine wpAnyH_take (i := 23) (v := .int .u16 (mu : Int)) rfl (by kernel_rfl) (by kernel_rfl) (by kernel_rfl) (fun _ _ _ h => h) (Yields.yieldsIf (Or.inl ⟨by kernel_rfl, fun _ => by go_simp⟩)) hr ?_
  refine wpAnyH_ready (rs := [12, 25]) (by kernel_rfl) (by simp) ?_
  refine AllReadyH.cons rfl (fun K2 hK2 => ?_) (AllReadyH.cons rfl (fun K2 hK2 => ?_) AllReadyH.nil)
  · go_simp
    refine Calls.mono (tmost_any p2 x0 i1) ?_
    rintro e z ⟨rfl, hz2⟩
    rw [hz2]
    clear hz2 z
    refine hK2.out _ _ hr (fun hr => ?_)
    clear hK2 K2
    refine wpAnyH_ready (rs := [17, 25]) (by kernel_rfl) (by simp) ?_
    refine AllReadyH.cons rfl (fun K2 hK2 => ?_) (AllReadyH.cons rfl (fun K2 hK2 => ?_) AllReadyH.nil)
    · go_simp
      refine Calls.mono (tmost_any q x0 i2) ?_
      rintro e z ⟨rfl, hz2⟩
      rw [hz2]
      clear hz2 z
      refine hK2.out _ _ hr (fun hr => ?_)
      clear hK2 K2
      refine wpAnyH_take (i := 24) (v := .agg #[.int .u64 (t : Int), .int .u32 (p2 : Int), .int .u32 (q : Int), .int .u16 (mu : Int), .int .u16 0]) rfl (by kernel_rfl) (by kernel_rfl) (by kernel_rfl) (fun _ _ _ h => h) (Yields.yieldsIf (Or.inl ⟨by kernel_rfl, fun _ => by go_simp⟩)) hr ?_
      refine wpAnyH_ready (rs := [25]) (by kernel_rfl) (by simp) ?_
      refine AllReadyH.cons rfl (fun K2 hK2 => ?_) AllReadyH.nil
      go_simp
      have HP : RpAt (x0.alloc (.cells #[.int .u64 0, .int .u32 0, .int .u32 0, .int .u16 0, .int .u16 0] 32)) x0.heap.size 0 0 0 0 0 := RpAt.made x0 _ 0 0 0 0 0
      have hr := hr.trans (KeptF.of_below (F := fun _ => False) ((Below.refl _ _).alloc (Nat.le_refl _) (.cells #[.int .u64 0, .int .u32 0, .int .u32 0, .int .u16 0, .int .u16 0] 32)))
      obtain ⟨P, eP⟩ : ∃ P, x0.heap.size = P := ⟨_, rfl⟩
      have hP : w4.heap.size ≤ P := by rw [← eP]; exact hz
      rw [eP] at HP
      rw [eP]
      generalize x0.alloc (.cells #[.int .u64 0, .int .u32 0, .int .u32 0, .int .u16 0, .int .u16 0] 32) = x1 at *
      clear eP
      refine hK2.out _ _ hr (fun hr => ?_)
      clear hK2 K2
      refine wpAnyH_ready (rs := [26]) (by kernel_rfl) (by simp) ?_
      refine AllReadyH.cons rfl (fun K2 hK2 => ?_) AllReadyH.nil
      have hrp := HP
      obtain ⟨q0, q1, q2, q3, q4, qf⟩ := HP
      have f0 := qf 0
      have f1 := qf 1
      have f2 := qf 2
      have f3 := qf 3
      have f4 := qf 4
      have HP2 : Hid (RpAt (((((x1.setCell ⟨P, 0, none⟩ (.int .u64 (t : Int))).setCell ⟨P, 1, none⟩ (.int .u32 (p2 : Int))).setCell ⟨P, 2, none⟩ (.int .u32 (q : Int))).setCell ⟨P, 3, none⟩ (.int .u16 (mu : Int))).setCell ⟨P, 4, none⟩ (.int .u16 0)) P t p2 q mu 0 ∧ KeptF (fun _ => False) w4 (((((x1.setCell ⟨P, 0, none⟩ (.int .u64 (t : Int))).setCell ⟨P, 1, none⟩ (.int .u32 (p2 : Int))).setCell ⟨P, 2, none⟩ (.int .u32 (q : Int))).setCell ⟨P, 3, none⟩ (.int .u16 (mu : Int))).setCell ⟨P, 4, none⟩ (.int .u16 0))) := by
        refine ⟨hrp.set5 t p2 q mu 0, ?_⟩
        · exact hr.new (KeptF.of_kept (F := fun R => R = P) (((((Kept.set _ _ _).trans (Kept.set _ _ _)).trans (Kept.set _ _ _)).trans (Kept.set _ _ _)).trans (Kept.set _ _ _)) rfl) (fun R h => Or.inr (h ▸ hP))
      clear qf hrp
      go_simp
      refine hK2.out _ _ HP2.out.2 (fun hr => ?_)
      clear hK2 K2
      refine wpAnyH_done (by kernel_rfl) ?_ _
      generalize x1.setCell ⟨P, 0, none⟩ (.int .u64 (t : Int)) = y0 at *
      generalize y0.setCell ⟨P, 1, none⟩ (.int .u32 (p2 : Int)) = y1 at *
      generalize y1.setCell ⟨P, 2, none⟩ (.int .u32 (q : Int)) = y2 at *
      generalize y2.setCell ⟨P, 3, none⟩ (.int .u16 (mu : Int)) = y3 at *
      generalize y3.setCell ⟨P, 4, none⟩ (.int .u16 0) = y4 at *
      clear hr q0 q1 q2 q3 q4 f0 f1 f2 f3 f4 hz
      have HP3 : Hid (RpAt y4 P t p2 q mu 0) := HP2.out.1
      have HK : Hid (KeptF (fun _ => False) w4 y4) := HP2.out.2
      have HPP : Hid (w4.heap.size ≤ P) := hP
      clear HP2 hP
      go_wp2_with fail
      refine (tbegin_any g t v y4 (HG4.out.block (HK.out.block g HG4.out.lt id))).mono ?_
      rintro e y5 ⟨rfl, G5, K5⟩
      have R5 : RpAt y5 P t p2 q mu 0 := HP3.out.block (K5.block P HP3.out.lt (by have := HPP.out; have := HG4.out.lt; omega))
      have wR : w.heap.size < w4.heap.size := HR4.out.lt
      have R5' : RpAt y5 w.heap.size 0 0 0 0 0 := (HR4.out.block (HK.out.block _ wR id)).block (K5.block _ (by have := HK.out.size; omega) (by have := HBN.out g (Or.inl rfl); omega))
      obtain ⟨q0, q1, q2, q3, q4, qf⟩ := R5
      have R5s := R5'
      obtain ⟨r0, r1, r2, r3, r4, rf⟩ := R5'
      have f0 := rf 0
      have f1 := rf 1
      have f2 := rf 2
      have f3 := rf 3
      have f4 := rf 4
      obtain ⟨y6, e6⟩ : ∃ y6, ((((y5.setCell ⟨w.heap.size, 0, none⟩ (.int .u64 (t : Int))).setCell ⟨w.heap.size, 1, none⟩ (.int .u32 (p2 : Int))).setCell ⟨w.heap.size, 2, none⟩ (.int .u32 (q : Int))).setCell ⟨w.heap.size, 3, none⟩ (.int .u16 (mu : Int))).setCell ⟨w.heap.size, 4, none⟩ (.int .u16 0) = y6 := ⟨_, rfl⟩
      have k6 : Kept w.heap.size y5 y6 := e6 ▸ (((((Kept.set _ _ _).trans (Kept.set _ _ _)).trans (Kept.set _ _ _)).trans (Kept.set _ _ _)).trans (Kept.set _ _ _))
      have R6 : RpAt y6 w.heap.size t p2 q mu 0 := e6 ▸ R5s.set5 t p2 q mu 0
      have HR6 : Hid (RpAt y6 w.heap.size t p2 q mu 0) := R6
      have b1 : ∀ R, R < w4.heap.size → y4.heap[R]? = w4.heap[R]? := fun R h => HK.out.block R h id
      have b2 : ∀ R, R < w4.heap.size → R ≠ g → R ≠ w.heap.size → y6.heap[R]? = w4.heap[R]? := fun R h h1 h2 => ((k6.block R (by have := K5.size; have := HK.out.size; omega) h2).trans (K5.block R (by have := HK.out.size; omega) h1)).trans (b1 R h)
      have Q := HQ.out
      unfold Five at Q
      have bn := HBN.out
      have n1 := bn g (Or.inl rfl)
      have n2 := bn ex (Or.inr (Or.inl rfl))
      have n3 := bn cm (Or.inr (Or.inr (Or.inl rfl)))
      have n4 := bn im (Or.inr (Or.inr (Or.inr (Or.inl rfl))))
      have n5 := bn fb (Or.inr (Or.inr (Or.inr (Or.inr rfl))))
      have END : Hid (TlAt y6 g ex cm im fb m k s.told ∧ KeptF (Blk g ex cm im fb) w y6) := by
        refine ⟨⟨?_, ?_, ?_, ?_, ?_, HM.out, HQ.out⟩, ?_⟩
        · refine (G5.kept k6 (by omega)).congr (fun i hi => ?_)
          rw [HV.out, HTT.out, Nat.sub_self]
          rcases nine hi with rfl | rfl | rfl | rfl | rfl | rfl | rfl | rfl | rfl <;> rfl
        · exact HE4.out.block (b2 ex HE4.out.lt (by omega) (by omega))
        · exact HH4.out.block (b2 cm HH4.out.lt (by omega) (by omega))
        · exact HS4.out.block (b2 im HS4.out.lt (by omega) (by omega))
        · exact HX4.out.block (b2 fb HX4.out.lt (by omega) (by omega))
        · have a1 : KeptF (Blk g ex cm im fb) w y4 := HK4.out.trans (HK.out.mono (fun R h => h.elim))
          have a2 : KeptF (Blk g ex cm im fb) w y5 := a1.trans (KeptF.of_kept K5 (Or.inl rfl))
          exact a2.new (KeptF.of_kept (F := fun R => R = w.heap.size) k6 rfl) (fun R h => Or.inr (Nat.le_of_eq h.symm))
      clear G5 K5 k6 R6 R5s b1 b2 Q bn n1 n2 n3 n4 n5 qf rf wR
      go_wp2
      obtain ⟨s0, s1, s2, s3, s4, -⟩ := HR6.out
      refine bodyPost_ret (v := .agg #[.int .u64 (t : Int), .int .u32 (p2 : Int), .int .u32 (q : Int), .int .u16 (mu : Int), .int .u16 0]) ?_ rfl ⟨?_, END.out⟩
      · simp [results, Try.results7, go_sem, s0, s1, s2, s3, s4]
      · unfold rpV
        rw [HEQ.out.1, HEQ.out.2.1, HEQ.out.2.2, ← HTT.out]
    · go_simp
      have HP : RpAt (x0.alloc (.cells #[.int .u64 0, .int .u32 0, .int .u32 0, .int .u16 0, .int .u16 0] 32)) x0.heap.size 0 0 0 0 0 := RpAt.made x0 _ 0 0 0 0 0
      have hr := hr.trans (KeptF.of_below (F := fun _ => False) ((Below.refl _ _).alloc (Nat.le_refl _) (.cells #[.int .u64 0, .int .u32 0, .int .u32 0, .int .u16 0, .int .u16 0] 32)))
      obtain ⟨P, eP⟩ : ∃ P, x0.heap.size = P := ⟨_, rfl⟩
      have hP : w4.heap.size ≤ P := by rw [← eP]; exact hz
      rw [eP] at HP
      rw [eP]
      generalize x0.alloc (.cells #[.int .u64 0, .int .u32 0, .int .u32 0, .int .u16 0, .int .u16 0] 32) = x1 at *
      clear eP
      refine hK2.out _ _ hr (fun hr => ?_)
      clear hK2 K2
      refine wpAnyH_ready (rs := [17]) (by kernel_rfl) (by simp) ?_
      refine AllReadyH.cons rfl (fun K2 hK2 => ?_) AllReadyH.nil
      go_simp
      refine Calls.mono (tmost_any q x1 i2) ?_
      rintro e z ⟨rfl, hz2⟩
      rw [hz2]
      clear hz2 z
      refine hK2.out _ _ hr (fun hr => ?_)
      clear hK2 K2
      refine wpAnyH_take (i := 24) (v := .agg #[.int .u64 (t : Int), .int .u32 (p2 : Int), .int .u32 (q : Int), .int .u16 (mu : Int), .int .u16 0]) rfl (by kernel_rfl) (by kernel_rfl) (by kernel_rfl) (fun _ _ _ h => h) (Yields.yieldsIf (Or.inl ⟨by kernel_rfl, fun _ => by go_simp⟩)) hr ?_
      refine wpAnyH_ready (rs := [26]) (by kernel_rfl) (by simp) ?_
      refine AllReadyH.cons rfl (fun K2 hK2 => ?_) AllReadyH.nil
      have hrp := HP
      obtain ⟨q0, q1, q2, q3, q4, qf⟩ := HP
      have f0 := qf 0
      have f1 := qf 1
      have f2 := qf 2
      have f3 := qf 3
      have f4 := qf 4
      have HP2 : Hid (RpAt (((((x1.setCell ⟨P, 0, none⟩ (.int .u64 (t : Int))).setCell ⟨P, 1, none⟩ (.int .u32 (p2 : Int))).setCell ⟨P, 2, none⟩ (.int .u32 (q : Int))).setCell ⟨P, 3, none⟩ (.int .u16 (mu : Int))).setCell ⟨P, 4, none⟩ (.int .u16 0)) P t p2 q mu 0 ∧ KeptF (fun _ => False) w4 (((((x1.setCell ⟨P, 0, none⟩ (.int .u64 (t : Int))).setCell ⟨P, 1, none⟩ (.int .u32 (p2 : Int))).setCell ⟨P, 2, none⟩ (.int .u32 (q : Int))).setCell ⟨P, 3, none⟩ (.int .u16 (mu : Int))).setCell ⟨P, 4, none⟩ (.int .u16 0))) := by
        refine ⟨hrp.set5 t p2 q mu 0, ?_⟩
        · exact hr.new (KeptF.of_kept (F := fun R => R = P) (((((Kept.set _ _ _).trans (Kept.set _ _ _)).trans (Kept.set _ _ _)).trans (Kept.set _ _ _)).trans (Kept.set _ _ _)) rfl) (fun R h => Or.inr (h ▸ hP))
      clear qf hrp
      go_simp
      refine hK2.out _ _ HP2.out.2 (fun hr => ?_)
      clear hK2 K2
      refine wpAnyH_done (by kernel_rfl) ?_ _
      generalize x1.setCell ⟨P, 0, none⟩ (.int .u64 (t : Int)) = y0 at *
      generalize y0.setCell ⟨P, 1, none⟩ (.int .u32 (p2 : Int)) = y1 at *
      generalize y1.setCell ⟨P, 2, none⟩ (.int .u32 (q : Int)) = y2 at *
      generalize y2.setCell ⟨P, 3, none⟩ (.int .u16 (mu : Int)) = y3 at *
      generalize y3.setCell ⟨P, 4, none⟩ (.int .u16 0) = y4 at *
      clear hr q0 q1 q2 q3 q4 f0 f1 f2 f3 f4 hz
      have HP3 : Hid (RpAt y4 P t p2 q mu 0) := HP2.out.1
      have HK : Hid (KeptF (fun _ => False) w4 y4) := HP2.out.2
      have HPP : Hid (w4.heap.size ≤ P) := hP
      clear HP2 hP
      go_wp2_with fail
      refine (tbegin_any g t v y4 (HG4.out.block (HK.out.block g HG4.out.lt id))).mono ?_
      rintro e y5 ⟨rfl, G5, K5⟩
      have R5 : RpAt y5 P t p2 q mu 0 := HP3.out.block (K5.block P HP3.out.lt (by have := HPP.out; have := HG4.out.lt; omega))
      have wR : w.heap.size < w4.heap.size := HR4.out.lt
      have R5' : RpAt y5 w.heap.size 0 0 0 0 0 := (HR4.out.block (HK.out.block _ wR id)).block (K5.block _ (by have := HK.out.size; omega) (by have := HBN.out g (Or.inl rfl); omega))
      obtain ⟨q0, q1, q2, q3, q4, qf⟩ := R5
      have R5s := R5'
      obtain ⟨r0, r1, r2, r3, r4, rf⟩ := R5'
      have f0 := rf 0
      have f1 := rf 1
      have f2 := rf 2
      have f3 := rf 3
      have f4 := rf 4
      obtain ⟨y6, e6⟩ : ∃ y6, ((((y5.setCell ⟨w.heap.size, 0, none⟩ (.int .u64 (t : Int))).setCell ⟨w.heap.size, 1, none⟩ (.int .u32 (p2 : Int))).setCell ⟨w.heap.size, 2, none⟩ (.int .u32 (q : Int))).setCell ⟨w.heap.size, 3, none⟩ (.int .u16 (mu : Int))).setCell ⟨w.heap.size, 4, none⟩ (.int .u16 0) = y6 := ⟨_, rfl⟩
      have k6 : Kept w.heap.size y5 y6 := e6 ▸ (((((Kept.set _ _ _).trans (Kept.set _ _ _)).trans (Kept.set _ _ _)).trans (Kept.set _ _ _)).trans (Kept.set _ _ _))
      have R6 : RpAt y6 w.heap.size t p2 q mu 0 := e6 ▸ R5s.set5 t p2 q mu 0
      have HR6 : Hid (RpAt y6 w.heap.size t p2 q mu 0) := R6
      have b1 : ∀ R, R < w4.heap.size → y4.heap[R]? = w4.heap[R]? := fun R h => HK.out.block R h id
      have b2 : ∀ R, R < w4.heap.size → R ≠ g → R ≠ w.heap.size → y6.heap[R]? = w4.heap[R]? := fun R h h1 h2 => ((k6.block R (by have := K5.size; have := HK.out.size; omega) h2).trans (K5.block R (by have := HK.out.size; omega) h1)).trans (b1 R h)
      have Q := HQ.out
      unfold Five at Q
      have bn := HBN.out
      have n1 := bn g (Or.inl rfl)
      have n2 := bn ex (Or.inr (Or.inl rfl))
      have n3 := bn cm (Or.inr (Or.inr (Or.inl rfl)))
      have n4 := bn im (Or.inr (Or.inr (Or.inr (Or.inl rfl))))
      have n5 := bn fb (Or.inr (Or.inr (Or.inr (Or.inr rfl))))
      have END : Hid (TlAt y6 g ex cm im fb m k s.told ∧ KeptF (Blk g ex cm im fb) w y6) := by
        refine ⟨⟨?_, ?_, ?_, ?_, ?_, HM.out, HQ.out⟩, ?_⟩
        · refine (G5.kept k6 (by omega)).congr (fun i hi => ?_)
          rw [HV.out, HTT.out, Nat.sub_self]
          rcases nine hi with rfl | rfl | rfl | rfl | rfl | rfl | rfl | rfl | rfl <;> rfl
        · exact HE4.out.block (b2 ex HE4.out.lt (by omega) (by omega))
        · exact HH4.out.block (b2 cm HH4.out.lt (by omega) (by omega))
        · exact HS4.out.block (b2 im HS4.out.lt (by omega) (by omega))
        · exact HX4.out.block (b2 fb HX4.out.lt (by omega) (by omega))
        · have a1 : KeptF (Blk g ex cm im fb) w y4 := HK4.out.trans (HK.out.mono (fun R h => h.elim))
          have a2 : KeptF (Blk g ex cm im fb) w y5 := a1.trans (KeptF.of_kept K5 (Or.inl rfl))
          exact a2.new (KeptF.of_kept (F := fun R => R = w.heap.size) k6 rfl) (fun R h => Or.inr (Nat.le_of_eq h.symm))
      clear G5 K5 k6 R6 R5s b1 b2 Q bn n1 n2 n3 n4 n5 qf rf wR
      go_wp2
      obtain ⟨s0, s1, s2, s3, s4, -⟩ := HR6.out
      refine bodyPost_ret (v := .agg #[.int .u64 (t : Int), .int .u32 (p2 : Int), .int .u32 (q : Int), .int .u16 (mu : Int), .int .u16 0]) ?_ rfl ⟨?_, END.out⟩
      · simp [results, Try.results7, go_sem, s0, s1, s2, s3, s4]
      · unfold rpV
        rw [HEQ.out.1, HEQ.out.2.1, HEQ.out.2.2, ← HTT.out]
  · go_simp
    have HP : RpAt (x0.alloc (.cells #[.int .u64 0, .int .u32 0, .int .u32 0, .int .u16 0, .int .u16 0] 32)) x0.heap.size 0 0 0 0 0 := RpAt.made x0 _ 0 0 0 0 0
    have hr := hr.trans (KeptF.of_below (F := fun _ => False) ((Below.refl _ _).alloc (Nat.le_refl _) (.cells #[.int .u64 0, .int .u32 0, .int .u32 0, .int .u16 0, .int .u16 0] 32)))
    obtain ⟨P, eP⟩ : ∃ P, x0.heap.size = P := ⟨_, rfl⟩
    have hP : w4.heap.size ≤ P := by rw [← eP]; exact hz
    rw [eP] at HP
    rw [eP]
    generalize x0.alloc (.cells #[.int .u64 0, .int .u32 0, .int .u32 0, .int .u16 0, .int .u16 0] 32) = x1 at *
    clear eP
    refine hK2.out _ _ hr (fun hr => ?_)
    clear hK2 K2
    refine wpAnyH_ready (rs := [12]) (by kernel_rfl) (by simp) ?_
    refine AllReadyH.cons rfl (fun K2 hK2 => ?_) AllReadyH.nil
    go_simp
    refine Calls.mono (tmost_any p2 x1 i1) ?_
    rintro e z ⟨rfl, hz2⟩
    rw [hz2]
    clear hz2 z
    refine hK2.out _ _ hr (fun hr => ?_)
    clear hK2 K2
    refine wpAnyH_ready (rs := [17]) (by kernel_rfl) (by simp) ?_
    refine AllReadyH.cons rfl (fun K2 hK2 => ?_) AllReadyH.nil
    go_simp
    refine Calls.mono (tmost_any q x1 i2) ?_
    rintro e z ⟨rfl, hz2⟩
    rw [hz2]
    clear hz2 z
    refine hK2.out _ _ hr (fun hr => ?_)
    clear hK2 K2
    refine wpAnyH_take (i := 24) (v := .agg #[.int .u64 (t : Int), .int .u32 (p2 : Int), .int .u32 (q : Int), .int .u16 (mu : Int), .int .u16 0]) rfl (by kernel_rfl) (by kernel_rfl) (by kernel_rfl) (fun _ _ _ h => h) (Yields.yieldsIf (Or.inl ⟨by kernel_rfl, fun _ => by go_simp⟩)) hr ?_
    refine wpAnyH_ready (rs := [26]) (by kernel_rfl) (by simp) ?_
    refine AllReadyH.cons rfl (fun K2 hK2 => ?_) AllReadyH.nil
    have hrp := HP
    obtain ⟨q0, q1, q2, q3, q4, qf⟩ := HP
    have f0 := qf 0
    have f1 := qf 1
    have f2 := qf 2
    have f3 := qf 3
    have f4 := qf 4
    have HP2 : Hid (RpAt (((((x1.setCell ⟨P, 0, none⟩ (.int .u64 (t : Int))).setCell ⟨P, 1, none⟩ (.int .u32 (p2 : Int))).setCell ⟨P, 2, none⟩ (.int .u32 (q : Int))).setCell ⟨P, 3, none⟩ (.int .u16 (mu : Int))).setCell ⟨P, 4, none⟩ (.int .u16 0)) P t p2 q mu 0 ∧ KeptF (fun _ => False) w4 (((((x1.setCell ⟨P, 0, none⟩ (.int .u64 (t : Int))).setCell ⟨P, 1, none⟩ (.int .u32 (p2 : Int))).setCell ⟨P, 2, none⟩ (.int .u32 (q : Int))).setCell ⟨P, 3, none⟩ (.int .u16 (mu : Int))).setCell ⟨P, 4, none⟩ (.int .u16 0))) := by
      refine ⟨hrp.set5 t p2 q mu 0, ?_⟩
      · exact hr.new (KeptF.of_kept (F := fun R => R = P) (((((Kept.set _ _ _).trans (Kept.set _ _ _)).trans (Kept.set _ _ _)).trans (Kept.set _ _ _)).trans (Kept.set _ _ _)) rfl) (fun R h => Or.inr (h ▸ hP))
    clear qf hrp
    go_simp
    refine hK2.out _ _ HP2.out.2 (fun hr => ?_)
    clear hK2 K2
    refine wpAnyH_done (by kernel_rfl) ?_ _
    generalize x1.setCell ⟨P, 0, none⟩ (.int .u64 (t : Int)) = y0 at *
    generalize y0.setCell ⟨P, 1, none⟩ (.int .u32 (p2 : Int)) = y1 at *
    generalize y1.setCell ⟨P, 2, none⟩ (.int .u32 (q : Int)) = y2 at *
    generalize y2.setCell ⟨P, 3, none⟩ (.int .u16 (mu : Int)) = y3 at *
    generalize y3.setCell ⟨P, 4, none⟩ (.int .u16 0) = y4 at *
    clear hr q0 q1 q2 q3 q4 f0 f1 f2 f3 f4 hz
    have HP3 : Hid (RpAt y4 P t p2 q mu 0) := HP2.out.1
    have HK : Hid (KeptF (fun _ => False) w4 y4) := HP2.out.2
    have HPP : Hid (w4.heap.size ≤ P) := hP
    clear HP2 hP
    go_wp2_with fail
    refine (tbegin_any g t v y4 (HG4.out.block (HK.out.block g HG4.out.lt id))).mono ?_
    rintro e y5 ⟨rfl, G5, K5⟩
    have R5 : RpAt y5 P t p2 q mu 0 := HP3.out.block (K5.block P HP3.out.lt (by have := HPP.out; have := HG4.out.lt; omega))
    have wR : w.heap.size < w4.heap.size := HR4.out.lt
    have R5' : RpAt y5 w.heap.size 0 0 0 0 0 := (HR4.out.block (HK.out.block _ wR id)).block (K5.block _ (by have := HK.out.size; omega) (by have := HBN.out g (Or.inl rfl); omega))
    obtain ⟨q0, q1, q2, q3, q4, qf⟩ := R5
    have R5s := R5'
    obtain ⟨r0, r1, r2, r3, r4, rf⟩ := R5'
    have f0 := rf 0
    have f1 := rf 1
    have f2 := rf 2
    have f3 := rf 3
    have f4 := rf 4
    obtain ⟨y6, e6⟩ : ∃ y6, ((((y5.setCell ⟨w.heap.size, 0, none⟩ (.int .u64 (t : Int))).setCell ⟨w.heap.size, 1, none⟩ (.int .u32 (p2 : Int))).setCell ⟨w.heap.size, 2, none⟩ (.int .u32 (q : Int))).setCell ⟨w.heap.size, 3, none⟩ (.int .u16 (mu : Int))).setCell ⟨w.heap.size, 4, none⟩ (.int .u16 0) = y6 := ⟨_, rfl⟩
    have k6 : Kept w.heap.size y5 y6 := e6 ▸ (((((Kept.set _ _ _).trans (Kept.set _ _ _)).trans (Kept.set _ _ _)).trans (Kept.set _ _ _)).trans (Kept.set _ _ _))
    have R6 : RpAt y6 w.heap.size t p2 q mu 0 := e6 ▸ R5s.set5 t p2 q mu 0
    have HR6 : Hid (RpAt y6 w.heap.size t p2 q mu 0) := R6
    have b1 : ∀ R, R < w4.heap.size → y4.heap[R]? = w4.heap[R]? := fun R h => HK.out.block R h id
    have b2 : ∀ R, R < w4.heap.size → R ≠ g → R ≠ w.heap.size → y6.heap[R]? = w4.heap[R]? := fun R h h1 h2 => ((k6.block R (by have := K5.size; have := HK.out.size; omega) h2).trans (K5.block R (by have := HK.out.size; omega) h1)).trans (b1 R h)
    have Q := HQ.out
    unfold Five at Q
    have bn := HBN.out
    have n1 := bn g (Or.inl rfl)
    have n2 := bn ex (Or.inr (Or.inl rfl))
    have n3 := bn cm (Or.inr (Or.inr (Or.inl rfl)))
    have n4 := bn im (Or.inr (Or.inr (Or.inr (Or.inl rfl))))
    have n5 := bn fb (Or.inr (Or.inr (Or.inr (Or.inr rfl))))
    have END : Hid (TlAt y6 g ex cm im fb m k s.told ∧ KeptF (Blk g ex cm im fb) w y6) := by
      refine ⟨⟨?_, ?_, ?_, ?_, ?_, HM.out, HQ.out⟩, ?_⟩
      · refine (G5.kept k6 (by omega)).congr (fun i hi => ?_)
        rw [HV.out, HTT.out, Nat.sub_self]
        rcases nine hi with rfl | rfl | rfl | rfl | rfl | rfl | rfl | rfl | rfl <;> rfl
      · exact HE4.out.block (b2 ex HE4.out.lt (by omega) (by omega))
      · exact HH4.out.block (b2 cm HH4.out.lt (by omega) (by omega))
      · exact HS4.out.block (b2 im HS4.out.lt (by omega) (by omega))
      · exact HX4.out.block (b2 fb HX4.out.lt (by omega) (by omega))
      · have a1 : KeptF (Blk g ex cm im fb) w y4 := HK4.out.trans (HK.out.mono (fun R h => h.elim))
        have a2 : KeptF (Blk g ex cm im fb) w y5 := a1.trans (KeptF.of_kept K5 (Or.inl rfl))
        exact a2.new (KeptF.of_kept (F := fun R => R = w.heap.size) k6 rfl) (fun R h => Or.inr (Nat.le_of_eq h.symm))
    clear G5 K5 k6 R6 R5s b1 b2 Q bn n1 n2 n3 n4 n5 qf rf wR
    go_wp2
    obtain ⟨s0, s1, s2, s3, s4, -⟩ := HR6.out
    refine bodyPost_ret (v := .agg #[.int .u64 (t : Int), .int .u32 (p2 : Int), .int .u32 (q : Int), .int .u16 (mu : Int), .int .u16 0]) ?_ rfl ⟨?_, END.out⟩
    · simp [results, Try.results7, go_sem, s0, s1, s2, s3, s4]
    · unfold rpV
      rw [HEQ.out.1, HEQ.out.2.1, HEQ.out.2.2, ← HTT.out]
end Go.Proofs.Ytalfncnpffbmmaa
