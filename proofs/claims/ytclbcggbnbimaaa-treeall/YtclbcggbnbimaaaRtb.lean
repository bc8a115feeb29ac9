/-
  The document's Above.
-/
import Derived.Test.YtclbcggbnbimaaaRta
namespace Go.Proofs.Ytclbcggbnbimaaa
open Go.RowKit Go.Deep

/-- No more rounds: all is shut. -/
def Last (K : Nat → Fr) (R : Nat → Nat → Int) (m : Nat) (g : Nat → Bool) (b : Bool) : Prop := b = false → ShutTo K R m g m
/-- One more round, or none. -/
def more (v : Value) : Nat := match v with
  | .bool true => 1
  | _ => 0
/-- The frame whose Refs come first. -/
structure Src (w : World) (K : Nat → Fr) (R : Nat → Nat → Int) (m x : Nat) (f : Fr) (r : Nat → Int) : Prop where
  nums : NumsAt .u32 w f.a f.n r
  len : f.n ≤ 1000
  nat : ∀ j, j < f.n → ∃ y : Nat, r j = (y : Int) ∧ y < 4294967296
  own : ∀ j, j < f.n → ∃ s, plc K m x = some s ∧ s < m ∧ j < (K s).n ∧ R s j = r j
  all : ∀ s, plc K m x = some s → f = K s ∧ r = R s
theorem Src.ups {w : World} {K : Nat → Fr} {R : Nat → Nat → Int} {m x j y q : Nat} {f : Fr} {r : Nat → Int} (h : Src w K R m x f r) (hj : j < f.n) (hy : r j = (y : Int)) (hq : plc K m y = some q) : Ups K R m x q := by
  obtain ⟨s, s1, s2, s3, s4⟩ := h.own j hj
  obtain ⟨q1, q2⟩ := plc_some m hq
  exact ⟨s, s1, .one ⟨s2, q1, j, s3, by omega⟩⟩

set_option maxRecDepth 100000 in
set_option maxHeartbeats 1000000 in
theorem rabove_any (a : Option Addr) (m c : Nat) (K : Nat → Fr) (R : Nat → Nat → Int) (x : Nat) (w : World) (HC : Hid (Crowd w a m K R)) :
    Calls Try.prog 11 #[.slice a m c, .int .u32 (x : Int)] w (ToldIs w m K (Behind (Edge K R m) K m x)) := by
  have hmm := @run_makeMap Try.prog
  have hm : m ≤ 90 := HC.out.few
  obtain ⟨left, hl⟩ := left_exists w.heap.size K m HC.out.ids
  have HL : Hid (∀ w' k g, MarkAt w' w.heap.size k g → left w' = unm (at' K g) m) := hl
  clear hl
  obtain ⟨x0, e0⟩ : ∃ y, w.alloc (.map #[] 0) = y := ⟨_, rfl⟩
  have B0 : Below w.heap.size w x0 := e0 ▸ box_below w _
  have HB0 : Hid (Below w.heap.size w x0) := B0
  have M0 : MarkAt x0 w.heap.size 0 (fun _ => false) := e0 ▸ MarkAt.made w
  have HR0 : Hid (Rst w x0 w.heap.size 0 (fun _ => false) K R m x) := ⟨B0, M0, fun y h => (Bool.false_ne_true h).elim, by have := unm_le (at' K (fun _ => false)) m; omega⟩
  clear B0 M0
  go_enter Try.func11, Try.ntmps11
  go_wp2_with fail
  refine (rfound_any a m c K x x0 (by omega) HC.out.rise (HC.out.frs.grew HB0.out)).mono ?_
  rintro e w1 ⟨b1, f, is, rfl, hf⟩
  obtain ⟨x1, e1⟩ : ∃ y, w1.alloc (.cells #[.int .u32 (f.id : Int), .int .i64 f.k, .slice f.a f.n f.c, .int .i64 f.s, .int .i64 f.p, .int .i64 f.d] 31) = y := ⟨_, rfl⟩
  have B1 : Below w1.heap.size w1 x1 := e1 ▸ box_below w1 _
  have F1 : FrAt x1 w1.heap.size f := e1 ▸ FrAt.made w1 _ f
  obtain ⟨f0, f1, f2, f3, f4, f5, -⟩ := id F1
  have HF1 : Hid (FrAt x1 w1.heap.size f) := F1
  have HR1 : Hid (Rst w x1 w.heap.size 0 (fun _ => false) K R m x) := HR0.out.grew (b1.trans (B1.mono b1.size))
  have HNE : Hid (w1.heap.size ≠ w.heap.size) := by
    have := b1.size
    have := HR0.out.mrk.lt
    show w1.heap.size ≠ w.heap.size
    omega
  obtain ⟨r, hsrc⟩ : ∃ r, Src w K R m x f r := by
    rcases hf with ⟨-, s, hs, rfl⟩ | ⟨-, hn, rfl⟩
    · obtain ⟨s1, s2⟩ := plc_some m hs
      refine ⟨R s, HC.out.refs s s1, HC.out.len s s1, HC.out.nat s s1, fun j hj => ⟨s, hs, s1, hj, rfl⟩, fun s' hs' => ?_⟩
      rw [hs] at hs'
      cases hs'
      exact ⟨rfl, rfl⟩
    · exact ⟨fun _ => 0, fun h => absurd h (Nat.not_lt_zero 0), Nat.zero_le _, fun j hj => absurd hj (Nat.not_lt_zero j), fun j hj => absurd hj (Nat.not_lt_zero j), fun s hs => by rw [hn] at hs; cases hs⟩
  have HS : Hid (Src w K R m x f r) := hsrc
  have hfn : f.n ≤ 1000 := hsrc.len
  clear F1 B1 b1 hf hsrc HR0 HB0
  unfold Fr.val
  go_wp2_with fail
  clear e0 e1 f0 f1 f2 f3 f4 f5 hmm
  generalize w1.heap.size = N1 at *
  go_loopw [8] (fun i wr => ∃ (t k : Nat) (g : Nat → Bool), i = .int .i64 t ∧ t ≤ f.n ∧ Hid (k ≤ t) ∧ Hid (Rst w wr w.heap.size k g K R m x) ∧ Hid (FrAt wr N1 f) ∧ Hid (Fst K m r g t)) (fun i _ => f.n - (intOf i).toNat)
  case atStart => exact ⟨0, 0, _, rfl, Nat.zero_le _, Nat.le_refl _, HR1, HF1, Fst.nil _ _ _ _⟩
  case round =>
    clear HR1 HF1
    obtain ⟨t, k, g, rfl, ht, hk, hr, hfr, hft⟩ := hrel
    by_cases htn : t < f.n
    · have i1 : (t : Int) < (f.n : Int) := by omega
      obtain ⟨f0, f1, f2, f3, f4, f5, -⟩ := id hfr.out
      obtain ⟨rb, ro, er, hc⟩ := (HS.out.nums.below hr.out.bel (Nat.le_refl _)) (by omega)
      have c5 := hc t htn
      obtain ⟨y, ey, hy⟩ := HS.out.nat t htn
      rw [ey] at c5
      rw [er] at f2
      have CALL : Hid (Calls Try.prog 19 #[.slice a m c, .int .u32 (y : Int)] wr (FoundIs wr m K y)) := rfound_any a m c K y wr (by omega) HC.out.rise (HC.out.grew hr.out.bel).frs
      clear f0 f1 f3 f4 f5
      go_wp2_with fail
      refine CALL.out.mono ?_
      rintro e w2 ⟨b2, g2, is2, rfl, hg2⟩
      obtain ⟨y2, e2⟩ : ∃ z, w2.alloc (.cells #[.int .u32 (g2.id : Int), .int .i64 g2.k, .slice g2.a g2.n g2.c, .int .i64 g2.s, .int .i64 g2.p, .int .i64 g2.d] 31) = z := ⟨_, rfl⟩
      have B2 : Below w2.heap.size w2 y2 := e2 ▸ box_below w2 _
      have B3 : Below wr.heap.size wr y2 := b2.trans (B2.mono b2.size)
      have HR2 := hr.out.grew B3
      have HF2 : Hid (FrAt y2 N1 f) := hfr.out.grew B3
      unfold Fr.val
      rcases hg2 with ⟨rfl, q, hq, hgq⟩ | ⟨rfl, hq, hgq⟩
      case inr =>
        have HR3 : Hid (Rst w y2 w.heap.size k g K R m x) := HR2
        have HT : Hid (Fst K m r g (t + 1)) := hft.out.skip ey hq
        have HKt : Hid (k ≤ t + 1) := Nat.le_succ_of_le hk.out
        clear CALL hc ey er B2 B3 b2 HR2 hr hfr hft hq hgq hk f2 c5
        go_wp2_with fail
        go_roundw
        case rel => exact ⟨t + 1, k, g, by go_num, by omega, HKt, HR3, HF2, HT⟩
        case measure => simp [intOf]; omega
      obtain ⟨q1, q2⟩ := plc_some m hq
      obtain ⟨y3, l3, R3, K3⟩ := HR2.mark (Nat.le_refl _) (by have := hk.out; omega) hy q1 q2 (HS.out.ups htn ey hq)
      have HR3 : Hid (Rst w y3 w.heap.size (k + 1) (also g y) K R m x) := R3
      have HF3 : Hid (FrAt y3 N1 f) := HF2.out.block (K3.block _ HF2.out.lt HNE.out)
      have HT : Hid (Fst K m r (also g y) (t + 1)) := (Fst.also hft.out).have ey (also_self g y)
      have HKt : Hid (k + 1 ≤ t + 1) := Nat.succ_le_succ hk.out
      have f2 : y2.cell? ⟨N1, 2, none⟩ = some (.slice f.a f.n f.c) := HF2.out.c2
      rw [er] at f2
      have c5' := (B3.cell (p := ⟨rb, ro + t, none⟩) (cell_lt c5)).trans c5
      clear CALL hc ey er B2 B3 b2 HR2 hr hfr hft hq hgq hk K3 R3 q1 q2 HF2 c5
      go_wp2_with fail
      go_roundw
      case rel => exact ⟨t + 1, k + 1, _, by go_num, by omega, HKt, HR3, HF3, HT⟩
      case measure => simp [intOf]; omega
    · obtain rfl : t = f.n := by omega
      have i1 : decide ((f.n : Int) < (f.n : Int)) = false := by simp
      obtain ⟨f0, f1, f2, f3, f4, f5, -⟩ := id hfr.out
      clear f0 f1 f3 f4 f5 hfr hk
      go_wp2_with fail
      clear f2
      generalize wr = wo at *
      go_loopw [11] (fun bb wr => ∃ (b : Bool) (k : Nat) (g : Nat → Bool), bb = .bool b ∧ Hid (Rst w wr w.heap.size k g K R m x) ∧ Hid (Fst K m r g f.n) ∧ Hid (Last K R m g b)) (fun bb wr => 2 * left wr + more bb)
      case atStart => exact ⟨true, k, g, rfl, hr, hft, fun h => by cases h⟩
      case round =>
        clear hr hft
        obtain ⟨b, k, g, rfl, hr, hft, hla⟩ := hrel
        cases b with
        | false =>
          have HF : Hid (∀ e w', ToldIs wr m K (fun q => g (K q).id = true ∧ (K q).id ≠ x) e w' → ToldIs w m K (Behind (Edge K R m) K m x) e w') := by
            rintro e w' ⟨h1, v, sel, h2, h3, h4⟩
            refine ⟨hr.out.bel.trans (h1.mono hr.out.bel.size), v, sel, h2, fun q hq => ?_, h4.base hr.out.bel.size⟩
            rw [h3 q hq]
            exact hr.out.done HC.out.rise (fun s hs => by
              obtain ⟨h5, h6⟩ := HS.out.all s hs
              have := hft.out
              rw [h5, h6] at this
              exact this) (hla.out rfl) q hq
          have CALL : Hid (Calls Try.prog 20 #[.slice a m c, .map (some w.heap.size), .int .u32 (x : Int)] wr (ToldIs wr m K (fun q => g (K q).id = true ∧ (K q).id ≠ x))) :=
            told_any a m c K g w.heap.size k x wr (by omega) HC.out.ids (HC.out.grew hr.out.bel).frs hr.out.mrk
          clear hr hft hla
          go_wp2_with fail
          refine CALL.out.mono ?_
          rintro e w2 ht2
          have HT2 : Hid (ToldIs w m K (Behind (Edge K R m) K m x) e w2) := HF.out e w2 ht2
          obtain ⟨-, v, -, rfl, -⟩ := ht2
          clear CALL HF
          go_wp2
          go_ret
          exact HT2.out
        | true =>
          obtain ⟨u0, hu0⟩ : ∃ u, u = unm (at' K g) m := ⟨_, rfl⟩
          have HU : Hid (left wr = u0) := by rw [hu0]; exact HL.out wr k g hr.out.mrk
          have HRD : Hid (Rnd K R m u0 g false 0) := .inr ⟨rfl, by omega, ShutTo.nil _ _ _ _⟩
          clear hu0 hla
          go_wp2_with fail
          go_loopw [11, 12] (fun bb i wr => ∃ (b : Bool) (t k : Nat) (g : Nat → Bool), bb = .bool b ∧ i = .int .i64 t ∧ t ≤ m ∧ Hid (Rst w wr w.heap.size k g K R m x) ∧ Hid (Fst K m r g f.n) ∧ Hid (Rnd K R m u0 g b t)) (fun _ i _ => m - (intOf i).toNat)
          case atStart => exact ⟨false, 0, k, g, rfl, rfl, Nat.zero_le _, hr, hft, HRD⟩
          case round =>
            clear hr hft HRD
            obtain ⟨b, t, k, g, rfl, rfl, ht, hr, hft, hrd⟩ := hrel
            by_cases htm : t < m
            · have i2 : (t : Int) < (m : Int) := by omega
              have HRI : Hid (RndIn K R m u0 g b t 0) := hrd.out.inn
              clear hrd
              go_wp2_with fail
              generalize wr = wq at *
              go_loopw [11, 13] (fun bb j wr => ∃ (b : Bool) (jj k : Nat) (g : Nat → Bool), bb = .bool b ∧ j = .int .i64 jj ∧ jj ≤ (K t).n ∧ Hid (Rst w wr w.heap.size k g K R m x) ∧ Hid (Fst K m r g f.n) ∧ Hid (RndIn K R m u0 g b t jj)) (fun _ j _ => (K t).n - (intOf j).toNat)
              case atStart => exact ⟨b, 0, k, g, rfl, rfl, Nat.zero_le _, hr, hft, HRI⟩
              case round =>
                clear hr hft HRI
                obtain ⟨b, jj, k, g, rfl, rfl, hj, hr, hft, hri⟩ := hrel
                have hC := HC.out.grew hr.out.bel
                have hn1 : (K t).n ≤ 1000 := hC.len t htm
                obtain ⟨fb, fo, rfl⟩ := hC.frs.addr (by omega)
                obtain ⟨q0, q1, q2, q3, q4, q5⟩ := hC.frs.at t htm
                have l1 := hr.out.mrk.look (hC.ids t htm)
                clear q1 q3 q4 q5
                cases eg : g (K t).id with
                | false =>
                  rw [eg] at l1
                  have HR2 : Hid (Rnd K R m u0 g b (t + 1)) := hri.out.not eg
                  clear eg hri hC
                  go_wp2_with fail
                  go_roundw
                  case rel => exact ⟨b, t + 1, k, g, rfl, by go_num, by omega, hr, hft, HR2⟩
                  case measure => simp [intOf]; omega
                | true =>
                  rw [eg] at l1
                  by_cases hjn : jj < (K t).n
                  case neg =>
                    have i3 : decide ((jj : Int) < ((K t).n : Int)) = false := by simp; omega
                    have HR2 : Hid (Rnd K R m u0 g b (t + 1)) := by
                      have : jj = (K t).n := by omega
                      rw [this] at hri
                      exact hri.out.yes
                    clear eg hri hC
                    go_wp2_with fail
                    go_roundw
                    case rel => exact ⟨b, t + 1, k, g, rfl, by go_num, by omega, hr, hft, HR2⟩
                    case measure => simp [intOf]; omega
                  have i3 : (jj : Int) < ((K t).n : Int) := by omega
                  obtain ⟨rb, ro, er, hc⟩ := (hC.refs t htm) (by omega)
                  have c5 := hc jj hjn
                  obtain ⟨y, ey, hy⟩ := hC.nat t htm jj hjn
                  rw [ey] at c5
                  rw [er] at q2
                  have CALL : Hid (Calls Try.prog 19 #[.slice (some ⟨fb, fo, none⟩) m c, .int .u32 (y : Int)] wr (FoundIs wr m K y)) := rfound_any _ m c K y wr (by omega) HC.out.rise hC.frs
                  have HCr : Hid (Crowd wr (some ⟨fb, fo, none⟩) m K R) := hC
                  clear hc hC
                  go_wp2_with fail
                  refine CALL.out.mono ?_
                  rintro e w2 ⟨b2, g2, is2, rfl, hg2⟩
                  obtain ⟨y2, e2⟩ : ∃ z, w2.alloc (.cells #[.int .u32 (g2.id : Int), .int .i64 g2.k, .slice g2.a g2.n g2.c, .int .i64 g2.s, .int .i64 g2.p, .int .i64 g2.d] 31) = z := ⟨_, rfl⟩
                  have B2 : Below w2.heap.size w2 y2 := e2 ▸ box_below w2 _
                  have B3 : Below wr.heap.size wr y2 := b2.trans (B2.mono b2.size)
                  have HR2 : Hid (Rst w y2 w.heap.size k g K R m x) := hr.out.grew B3
                  unfold Fr.val
                  rcases hg2 with ⟨rfl, q, hq, hgq⟩ | ⟨rfl, hq, hgq⟩
                  case inr =>
                    have HRI : Hid (RndIn K R m u0 g b t (jj + 1)) := hri.out.skip ey (.inl hq)
                    clear CALL ey er B2 B3 b2 hr hri hq hgq q0 q2 l1 c5 eg
                    go_wp2_with fail
                    go_roundw
                    case rel => exact ⟨b, jj + 1, k, g, rfl, by go_num, by omega, HR2, hft, HRI⟩
                    case measure => simp [intOf]; omega
                  have l2 := HR2.out.mrk.look hy
                  have c2' := (B3.cell (cell_lt q2)).trans q2
                  have c5' := (B3.cell (p := ⟨rb, ro + jj, none⟩) (cell_lt c5)).trans c5
                  cases egy : g y with
                  | true =>
                    rw [egy] at l2
                    have HRI : Hid (RndIn K R m u0 g b t (jj + 1)) := hri.out.skip ey (.inr egy)
                    clear CALL ey er B2 B3 b2 hr hri hq hgq q0 q2 l1 c5 eg egy
                    go_wp2_with fail
                    go_roundw
                    case rel => exact ⟨b, jj + 1, k, g, rfl, by go_num, by omega, HR2, hft, HRI⟩
                    case measure => simp [intOf]; omega
                  | false =>
                    rw [egy] at l2
                    obtain ⟨q1', q2'⟩ := plc_some m hq
                    have hup : Ups K R m x q := by
                      obtain ⟨p, p1, p2, s, s1, s2⟩ := hr.out.snd _ eg
                      have : p = t := HC.out.rise.eq p1 htm p2
                      subst this
                      exact ⟨s, s1, s2.trans (.one ⟨htm, q1', jj, hjn, by rw [ey, q2']⟩)⟩
                    obtain ⟨y3, l3, R3, hlt, -⟩ := HR2.out.put (Nat.le_refl _) hy q1' q2' hup egy
                    have HR3 : Hid (Rst w y3 w.heap.size (k + 1) (also g y) K R m x) := R3
                    have HF3 : Hid (Fst K m r (also g y) f.n) := Fst.also hft.out
                    have HRI : Hid (RndIn K R m u0 (also g y) true t (jj + 1)) := hri.out.put hlt _
                    clear CALL ey er B2 B3 b2 hr hri hq hgq q0 q2 l1 c5 eg egy R3 hlt hup q1' q2' HR2
                    go_wp2_with fail
                    go_roundw
                    case rel => exact ⟨true, jj + 1, k + 1, _, rfl, by go_num, by omega, HR3, HF3, HRI⟩
                    case measure => simp [intOf]; omega
            · obtain rfl : t = m := by omega
              have i2 : decide ((t : Int) < (t : Int)) = false := by simp
              have HLA : Hid (Last K R t g b) := fun hb => by
                rcases hrd.out with h | h
                · rw [hb] at h; exact absurd h.1 (by decide)
                · exact h.2.2
              go_wp2_with fail
              go_roundw
              case rel => exact ⟨b, k, g, rfl, hr, hft, HLA⟩
              case measure =>
                rw [HL.out wr k g hr.out.mrk, HU.out]
                rcases hrd.out with ⟨rfl, h⟩ | ⟨rfl, h, -⟩
                · show 2 * _ + 1 < 2 * _ + 1; omega
                · show 2 * _ + 0 < 2 * _ + 1; omega
end Go.Proofs.Ytclbcggbnbimaaa
