/-
  The document's Check.
-/
import Derived.Test.YtheedopfchkebaaFrf
namespace Go.Proofs.Ytheedopfchkebaa
open Go.RowKit Go.Deep

theorem NumIs.mk {w w' : World} {E F : Int} (h : E = F) (hb : Below w.heap.size w w') : NumIs w F (.returned (.int .i64 E)) w' := ⟨by rw [h], hb⟩

set_option maxRecDepth 100000 in
set_option maxHeartbeats 4000000 in
theorem rcheck_any (f : Fr) (r : Nat → Int) (a : Option Addr) (m c : Nat) (K : Nat → Fr) (t s : Int) (w : World) (hm : m ≤ 1000) (HR : Hid (RefsAt w f r)) (HK : Hid (FrsAt w a m K)) :
    Calls Try.prog 11 #[f.val, .slice a m c, .int .i64 t, .int .i64 s] w (NumIs w (chk f r m K t s)) := by
  have HX : Hid (chk f r m K t s = if ¬ f.terms then 1 else if ¬ cuts f.s s then 4 else if ¬ f.turn m K then 5 else if ¬ f.refs r m K then 6 else if f.d ≤ t then 7 else if 100 ≤ m then 8 else 0) := rfl
  generalize chk f r m K t s = E at *
  have B1 := box_below w (.cells #[.int .u32 (f.id : Int), .int .i64 f.k, .slice f.a f.n f.c, .int .i64 f.s, .int .i64 f.p, .int .i64 f.d] 25)
  have F1 := FrAt.made w 25 f
  have BB : Hid (Below w.heap.size w (w.alloc (.cells #[.int .u32 (f.id : Int), .int .i64 f.k, .slice f.a f.n f.c, .int .i64 f.s, .int .i64 f.p, .int .i64 f.d] 25))) := B1
  have HF : Hid (FrAt (w.alloc (.cells #[.int .u32 (f.id : Int), .int .i64 f.k, .slice f.a f.n f.c, .int .i64 f.s, .int .i64 f.p, .int .i64 f.d] 25)) w.heap.size f) := F1
  have HR1 : Hid (RefsAt (w.alloc (.cells #[.int .u32 (f.id : Int), .int .i64 f.k, .slice f.a f.n f.c, .int .i64 f.s, .int .i64 f.p, .int .i64 f.d] 25)) f r) := HR.out.grew B1
  have HK1 : Hid (FrsAt (w.alloc (.cells #[.int .u32 (f.id : Int), .int .i64 f.k, .slice f.a f.n f.c, .int .i64 f.s, .int .i64 f.p, .int .i64 f.d] 25)) a m K) := HK.out.grew B1
  have nn : f.n ≤ 1000 := HR.out.len
  clear HR HK B1 F1
  by_cases ht : f.terms
  case neg =>
    have HE : Hid (1 = E) := by show 1 = E; rw [HX.out, if_pos ht]
    have h' : ¬ ((f.k = 1 ∨ f.k = 2 ∨ f.k = 3) ∧ 0 ≤ f.p ∧ f.p ≤ f.d ∧ f.d ≤ 1099511627776) := ht
    clear HX ht HR1 HK1 HF
    obtain ⟨id, k, fa, n, fc, fs, p, d⟩ := f
    simp only at h' BB
    unfold Fr.val
    go_enter Try.func11, Try.ntmps11
    go_wp2_with fail
    all_goals first | (exfalso; simp at *; omega) | (go_wp2; go_ret; exact NumIs.mk HE.out BB.out)
  have HX : Hid (E = if ¬ cuts f.s s then 4 else if ¬ f.turn m K then 5 else if ¬ f.refs r m K then 6 else if f.d ≤ t then 7 else if 100 ≤ m then 8 else 0) := HX.out.trans (if_neg (not_not_intro ht))
  obtain ⟨tk, tp, td, tm⟩ := ht
  have k1 : ¬ f.k < 1 := by omega
  have k3 : ¬ 3 < f.k := by omega
  have p0 : ¬ f.p < 0 := by omega
  have d0 : ¬ 1099511627776 < f.d := by omega
  have pd : ¬ f.d < f.p := by omega
  clear tk tp td tm
  by_cases hcut : cuts f.s s
  case neg =>
    have HE : Hid (4 = E) := by show 4 = E; rw [HX.out, if_pos hcut]
    have HC : Hid (¬ cuts f.s s) := hcut
    clear HX hcut
    unfold Fr.val
    go_enter Try.func11, Try.ntmps11
    go_wp2_with fail
    refine (rcount_no f.s s _ HC.out).mono ?_
    rintro e w2 ⟨rfl, rfl⟩
    go_wp2
    go_ret
    exact NumIs.mk HE.out BB.out
  have HX : Hid (E = if ¬ f.turn m K then 5 else if ¬ f.refs r m K then 6 else if f.d ≤ t then 7 else if 100 ≤ m then 8 else 0) := HX.out.trans (if_neg (not_not_intro hcut))
  have HC : Hid (∃ N : Nat, ∀ w, Calls Try.prog 22 #[.int .i64 f.s, .int .i64 s] w fun e w' => e = .returned (.tuple #[.int .i64 (N : Int), .bool true]) ∧ w' = w) := by
    obtain ⟨h1, h2, h3, h4⟩ := hcut
    obtain ⟨N, hN⟩ : ∃ N : Nat, f.s = N := ⟨f.s.toNat, by omega⟩
    obtain ⟨S, rfl⟩ : ∃ S : Nat, s = S := ⟨s.toNat, by omega⟩
    refine ⟨cntOf N S, fun w => ?_⟩
    rw [hN]
    exact rcount_yes N S w (by omega) (by omega) (by omega) (by omega)
  obtain ⟨N, hC⟩ := HC.out
  have HC : Hid (∀ w, Calls Try.prog 22 #[.int .i64 f.s, .int .i64 s] w fun e w' => e = .returned (.tuple #[.int .i64 (N : Int), .bool true]) ∧ w' = w) := hC
  clear hcut hC
  by_cases h0 : m = 0
  · have hturn : Hid (f.turn m K) := .inl h0
    subst h0
    obtain ⟨x0, x1, x2, x3, x4, x5, -⟩ := HF.out
    have HX : Hid (E = if ¬ f.refs r 0 K then 6 else if f.d ≤ t then 7 else if 100 ≤ 0 then 8 else 0) := HX.out.trans (if_neg (not_not_intro hturn.out))
    clear hturn
    by_cases hk : f.k = 1
    · have e1 : (f.k == 1) = true := by simpa using hk
      have e1' : (f.k != 1) = false := by simp [hk]
      by_cases hn : f.n = 0
      · have hok : Hid (f.refs r 0 K) := .inl ⟨hk, hn⟩
        have Hn : Hid (f.n = 0) := hn
        simp only [hn] at HF HR1 HK1 BB x2
        clear hk
        unfold Fr.val
        go_enter Try.func11, Try.ntmps11
        go_wp2_with fail
        refine (HC.out _).mono ?_
        rintro e w2 ⟨rfl, rfl⟩
        go_wp2_with fail
        clear x0 x1 x2 x3 x4 x5
        generalize (w.alloc (.cells #[.int .u32 (f.id : Int), .int .i64 f.k, .slice f.a 0 f.c, .int .i64 f.s, .int .i64 f.p, .int .i64 f.d] 25)) = wx at *
        go_loopw [12] (fun i wr => i = .int .i64 0 ∧ wr = wx) (fun _ _ => 0)
        case atStart => exact ⟨rfl, rfl⟩
        case round =>
          obtain ⟨rfl, rfl⟩ := hrel
          have HOK := hok
          have Bx : Hid (Below wr.heap.size wr wr) := Below.refl _ _
          have HX : Hid (E = if f.d ≤ t then 7 else if 100 ≤ 0 then 8 else 0) := HX.out.trans (if_neg (not_not_intro HOK.out))
          clear HOK
          obtain ⟨x0, x1, x2, x3, x4, x5, -⟩ := HF.out.grew Bx.out
          rw [Hn.out] at x2
          by_cases h7 : f.d ≤ t
          · have HE : Hid (7 = E) := by show 7 = E; rw [HX.out, if_pos h7]
            go_wp2
            go_ret
            exact NumIs.mk HE.out (BB.out.trans (Bx.out.mono BB.out.size))
          · have q7 : Hid (E = if 100 ≤ 0 then 8 else 0) := HX.out.trans (if_neg h7)
            have HE : Hid (0 = E) := by show 0 = E; rw [q7.out, if_neg (by decide)]
            go_wp2
            go_ret
            exact NumIs.mk HE.out (BB.out.trans (Bx.out.mono BB.out.size))
      · have hok : Hid (¬ f.refs r 0 K) := fun h => by
          rcases h with ⟨-, h⟩ | ⟨h, -⟩
          · exact hn h
          · exact h hk
        have HE : Hid (6 = E) := by show 6 = E; rw [HX.out, if_pos hok.out]
        have e2 : (0 : Int) < (f.n : Int) := by omega
        clear hk hn
        unfold Fr.val
        go_enter Try.func11, Try.ntmps11
        go_wp2_with fail
        refine (HC.out _).mono ?_
        rintro e w2 ⟨rfl, rfl⟩
        go_wp2
        go_ret
        exact NumIs.mk HE.out BB.out
    · have e1 : (f.k == 1) = false := by simpa using hk
      have e1' : (f.k != 1) = true := by simpa using hk
      by_cases hn : 1 ≤ f.n ∧ f.n ≤ 4
      · obtain ⟨n1, hn4⟩ := hn
        have e2 : ((f.n : Int) == 0) = false := by simp; omega
        have e3 : ¬ (4 : Int) < (f.n : Int) := by omega
        have hok : Hid ((∀ i, i < f.n → good r 0 K i) ↔ f.refs r 0 K) := ⟨fun h => .inr ⟨hk, n1, hn4, h⟩, fun h => by
          rcases h with ⟨h, -⟩ | ⟨-, -, -, h⟩
          · exact absurd h hk
          · exact h⟩
        clear hk
        unfold Fr.val
        go_enter Try.func11, Try.ntmps11
        go_wp2_with fail
        refine (HC.out _).mono ?_
        rintro e w2 ⟨rfl, rfl⟩
        go_wp2_with fail
        clear x0 x1 x2 x3 x4 x5
        generalize (w.alloc (.cells #[.int .u32 (f.id : Int), .int .i64 f.k, .slice f.a f.n f.c, .int .i64 f.s, .int .i64 f.p, .int .i64 f.d] 25)) = wx at *
        go_loopw [12] (fun i wr => ∃ j : Nat, j ≤ f.n ∧ i = .int .i64 j ∧ Hid (∀ q, q < j → good r 0 K q) ∧ Hid (Below wx.heap.size wx wr)) (fun i _ => f.n - (intOf i).toNat)
        case atStart => exact ⟨0, Nat.zero_le _, rfl, fun j hj => absurd hj (by omega), Below.refl _ _⟩
        case round =>
          obtain ⟨j, hj, rfl, hl, hb⟩ := hrel
          obtain ⟨x0, x1, x2, x3, x4, x5, -⟩ := HF.out.grew hb.out
          by_cases hjn : j < f.n
          · obtain ⟨bb, oo, ea, hc0⟩ := (HR1.out.grew hb.out).nums (by omega)
            rw [ea] at x2
            have HA : Hid (f.a = some ⟨bb, oo, none⟩) := ea
            clear ea
            have c1 := hc0 j hjn
            clear hc0
            have i2 : (j : Int) < (f.n : Int) := by omega
            go_wp2_with fail
            refine (rfind_any a 0 c K (r j) _ hm (HK1.out.grew hb.out)).mono ?_
            rintro e w3 ⟨hb3, g, bo, rfl, hg⟩
            have B3 : Hid (Below wx.heap.size wx w3) := hb.out.trans (hb3.mono hb.out.size)
            clear hb3 hb c1 x0 x1 x2 x3 x4 x5
            have B4' := box_below w3 (.cells #[.int .u32 (g.id : Int), .int .i64 g.k, .slice g.a g.n g.c, .int .i64 g.s, .int .i64 g.p, .int .i64 g.d] 25)
            have B4 : Hid (Below wx.heap.size wx (w3.alloc (.cells #[.int .u32 (g.id : Int), .int .i64 g.k, .slice g.a g.n g.c, .int .i64 g.s, .int .i64 g.p, .int .i64 g.d] 25))) := B3.out.trans (B4'.mono B3.out.size)
            clear B4'
            rcases hg with ⟨rfl, hg⟩ | ⟨rfl, hg⟩
            · have HG : Hid (∃ q, q < 0 ∧ ((K q).id : Int) = r j) := by
                obtain ⟨q, h1, h2, -⟩ := hg
                exact ⟨q, h1, h2⟩
              clear hg
              unfold Fr.val
              go_wp2_with fail
              generalize w3.alloc (.cells #[.int .u32 (g.id : Int), .int .i64 g.k, .slice g.a g.n g.c, .int .i64 g.s, .int .i64 g.p, .int .i64 g.d] 25) = w4 at *
              generalize wr = wo at *
              go_loopw [15] (fun i wr => ∃ u : Nat, u ≤ j ∧ i = .int .i64 u ∧ Hid (∀ q, q < u → r q ≠ r j) ∧ Hid (Below wx.heap.size wx wr)) (fun i _ => j - (intOf i).toNat)
              case atStart => exact ⟨0, Nat.zero_le _, rfl, fun j hj => absurd hj (by omega), B4⟩
              case round =>
                obtain ⟨u, hu, rfl, hlu, hbu⟩ := hrel
                by_cases huj : u < j
                · have N5 := (HR1.out.grew hbu.out).nums
                  rw [HA.out] at N5
                  obtain ⟨x0, x1, x2, x3, x4, x5, -⟩ := HF.out.grew hbu.out
                  rw [HA.out] at x2
                  have c1 := nums_cell N5 u (by omega)
                  have c2 := nums_cell N5 j (by omega)
                  clear N5
                  have i3 : (u : Int) < (j : Int) := by omega
                  have i4 : (u : Int) < (f.n : Int) := by omega
                  have i5 : (j : Int) < (f.n : Int) := by omega
                  have HD : Hid (Below wx.heap.size wx wr.drew) := hbu.out.drew
                  by_cases hv : r u = r j
                  · have HE : Hid (6 = E) := by
                      show 6 = E
                      rw [HX.out, if_pos (fun h => ((hok.out.2 h) j hjn).1 u huj hv)]
                    have e5 : (r u == r j) = true := by simpa using hv
                    clear hv hlu hl HG
                    generalize r u = ru at *
                    generalize r j = rj at *
                    go_wp2_with fail
                    go_region
                    go_wp2
                    go_ret
                    exact NumIs.mk HE.out (BB.out.trans (HD.out.mono BB.out.size))
                  · have HL : Hid (∀ q, q < u + 1 → r q ≠ r j) := fun q hq => by
                      by_cases e : q = u
                      · subst e; exact hv
                      · exact hlu.out q (by omega)
                    have e5 : (r u == r j) = false := by simpa using hv
                    clear hv hlu
                    go_wp2_with fail
                    go_region
                    go_wp2_with fail
                    go_roundw
                    case rel => exact ⟨u + 1, by omega, by go_num, HL, HD⟩
                    case measure => simp [intOf]; omega
                · have hue : u = j := by omega
                  subst hue
                  have HL : Hid (∀ q, q < u + 1 → good r 0 K q) := fun q hq => by
                    by_cases e : q = u
                    · subst e; exact ⟨hlu.out, HG.out⟩
                    · exact hl.out q (by omega)
                  clear hlu hl
                  go_wp2_with fail
                  go_roundw
                  case rel => exact ⟨u + 1, by omega, by go_num, HL, hbu⟩
                  case measure => simp [intOf]; omega
            · have HE : Hid (6 = E) := by
                show 6 = E
                rw [HX.out, if_pos (fun h => by
                  obtain ⟨-, q, h1, h2⟩ := (hok.out.2 h) j hjn
                  exact hg q h1 h2)]
              clear hg hl
              unfold Fr.val
              go_wp2
              go_ret
              exact NumIs.mk HE.out (BB.out.trans (B4.out.mono BB.out.size))
          · have hje : j = f.n := by omega
            subst hje
            have HOK : Hid (f.refs r 0 K) := hok.out.1 hl.out
            clear hl hok x0 x1 x2 x3 x4 x5
            have HX : Hid (E = if f.d ≤ t then 7 else if 100 ≤ 0 then 8 else 0) := HX.out.trans (if_neg (not_not_intro HOK.out))
            clear HOK
            obtain ⟨x0, x1, x2, x3, x4, x5, -⟩ := HF.out.grew hb.out
            by_cases h7 : f.d ≤ t
            · have HE : Hid (7 = E) := by show 7 = E; rw [HX.out, if_pos h7]
              go_wp2
              go_ret
              exact NumIs.mk HE.out (BB.out.trans (hb.out.mono BB.out.size))
            · have q7 : Hid (E = if 100 ≤ 0 then 8 else 0) := HX.out.trans (if_neg h7)
              have HE : Hid (0 = E) := by show 0 = E; rw [q7.out, if_neg (by decide)]
              go_wp2
              go_ret
              exact NumIs.mk HE.out (BB.out.trans (hb.out.mono BB.out.size))
      · have hok : Hid (¬ f.refs r 0 K) := fun h => by
          rcases h with ⟨h, -⟩ | ⟨-, h1, h2, -⟩
          · exact hk h
          · exact hn ⟨h1, h2⟩
        have HE : Hid (6 = E) := by show 6 = E; rw [HX.out, if_pos hok.out]
        clear hk
        by_cases hz : f.n = 0
        · have e2 : ((f.n : Int) == 0) = true := by simp; omega
          clear hn hz
          unfold Fr.val
          go_enter Try.func11, Try.ntmps11
          go_wp2_with fail
          refine (HC.out _).mono ?_
          rintro e w2 ⟨rfl, rfl⟩
          go_wp2
          go_ret
          exact NumIs.mk HE.out BB.out
        · have e2 : ((f.n : Int) == 0) = false := by simp; omega
          have e3 : (4 : Int) < (f.n : Int) := by omega
          clear hn hz
          unfold Fr.val
          go_enter Try.func11, Try.ntmps11
          go_wp2_with fail
          refine (HC.out _).mono ?_
          rintro e w2 ⟨rfl, rfl⟩
          go_wp2
          go_ret
          exact NumIs.mk HE.out BB.out
  · have e0 : (0 : Int) < (m : Int) := by omega
    have HO : Hid (f.turn m K ↔ ((K (m - 1)).id < f.id ∧ (K (m - 1)).p ≤ f.p ∧ (K (m - 1)).d ≤ f.d)) := ⟨fun h => h.resolve_left h0, .inr⟩
    obtain ⟨b, o, rfl⟩ := HK1.out.addr (by omega)
    obtain ⟨q0, q1, q2, q3, q4, q5⟩ := HK1.out.at (m - 1) (by omega)
    have B2 := box_below (w.alloc (.cells #[.int .u32 (f.id : Int), .int .i64 f.k, .slice f.a f.n f.c, .int .i64 f.s, .int .i64 f.p, .int .i64 f.d] 25)) (.cells #[.int .u32 ((K (m - 1)).id : Int), .int .i64 (K (m - 1)).k, .slice (K (m - 1)).a (K (m - 1)).n (K (m - 1)).c, .int .i64 (K (m - 1)).s, .int .i64 (K (m - 1)).p, .int .i64 (K (m - 1)).d] 25)
    have L2 := FrAt.made (w.alloc (.cells #[.int .u32 (f.id : Int), .int .i64 f.k, .slice f.a f.n f.c, .int .i64 f.s, .int .i64 f.p, .int .i64 f.d] 25)) 25 (K (m - 1))
    rw [show (w.alloc (.cells #[.int .u32 (f.id : Int), .int .i64 f.k, .slice f.a f.n f.c, .int .i64 f.s, .int .i64 f.p, .int .i64 f.d] 25)).heap.size = w.heap.size + 1 by simp] at L2
    obtain ⟨l0, l1, l2, l3, l4, l5, -⟩ := L2
    have HF : Hid (FrAt ((w.alloc (.cells #[.int .u32 (f.id : Int), .int .i64 f.k, .slice f.a f.n f.c, .int .i64 f.s, .int .i64 f.p, .int .i64 f.d] 25)).alloc (.cells #[.int .u32 ((K (m - 1)).id : Int), .int .i64 (K (m - 1)).k, .slice (K (m - 1)).a (K (m - 1)).n (K (m - 1)).c, .int .i64 (K (m - 1)).s, .int .i64 (K (m - 1)).p, .int .i64 (K (m - 1)).d] 25)) w.heap.size f) := HF.out.grew B2
    have HR1 : Hid (RefsAt ((w.alloc (.cells #[.int .u32 (f.id : Int), .int .i64 f.k, .slice f.a f.n f.c, .int .i64 f.s, .int .i64 f.p, .int .i64 f.d] 25)).alloc (.cells #[.int .u32 ((K (m - 1)).id : Int), .int .i64 (K (m - 1)).k, .slice (K (m - 1)).a (K (m - 1)).n (K (m - 1)).c, .int .i64 (K (m - 1)).s, .int .i64 (K (m - 1)).p, .int .i64 (K (m - 1)).d] 25)) f r) := HR1.out.grew B2
    have HK1 : Hid (FrsAt ((w.alloc (.cells #[.int .u32 (f.id : Int), .int .i64 f.k, .slice f.a f.n f.c, .int .i64 f.s, .int .i64 f.p, .int .i64 f.d] 25)).alloc (.cells #[.int .u32 ((K (m - 1)).id : Int), .int .i64 (K (m - 1)).k, .slice (K (m - 1)).a (K (m - 1)).n (K (m - 1)).c, .int .i64 (K (m - 1)).s, .int .i64 (K (m - 1)).p, .int .i64 (K (m - 1)).d] 25)) (some ⟨b, o, none⟩) m K) := HK1.out.grew B2
    have BB : Hid (Below w.heap.size w ((w.alloc (.cells #[.int .u32 (f.id : Int), .int .i64 f.k, .slice f.a f.n f.c, .int .i64 f.s, .int .i64 f.p, .int .i64 f.d] 25)).alloc (.cells #[.int .u32 ((K (m - 1)).id : Int), .int .i64 (K (m - 1)).k, .slice (K (m - 1)).a (K (m - 1)).n (K (m - 1)).c, .int .i64 (K (m - 1)).s, .int .i64 (K (m - 1)).p, .int .i64 (K (m - 1)).d] 25))) := BB.out.trans (B2.mono BB.out.size)
    obtain ⟨x0, x1, x2, x3, x4, x5, -⟩ := HF.out
    clear B2
    by_cases hu : (K (m - 1)).id < f.id ∧ (K (m - 1)).p ≤ f.p ∧ (K (m - 1)).d ≤ f.d
    case neg =>
      have HE : Hid (5 = E) := by show 5 = E; rw [HX.out, if_pos (fun h => hu (HO.out.1 h))]
      clear HO
      unfold Fr.val
      go_enter Try.func11, Try.ntmps11
      go_wp2_with fail
      refine (HC.out _).mono ?_
      rintro e w2 ⟨rfl, rfl⟩
      go_wp2_with fail
      all_goals first | (go_wp2; go_ret; exact NumIs.mk HE.out BB.out) | (exfalso; simp at *; omega)
    have hturn : Hid (f.turn m K) := HO.out.2 hu
    obtain ⟨u1, u2, u3⟩ := hu
    have U : Hid ((K (m - 1)).id < f.id ∧ (K (m - 1)).p ≤ f.p ∧ (K (m - 1)).d ≤ f.d) := ⟨u1, u2, u3⟩
    clear HO
    have HX : Hid (E = if ¬ f.refs r m K then 6 else if f.d ≤ t then 7 else if 100 ≤ m then 8 else 0) := HX.out.trans (if_neg (not_not_intro hturn.out))
    clear hturn
    by_cases hk : f.k = 1
    · have e1 : (f.k == 1) = true := by simpa using hk
      have e1' : (f.k != 1) = false := by simp [hk]
      by_cases hn : f.n = 0
      · have hok : Hid (f.refs r m K) := .inl ⟨hk, hn⟩
        have Hn : Hid (f.n = 0) := hn
        simp only [hn] at HF HR1 HK1 BB x2 x0 x1 x3 x4 x5 l0 l1 l2 l3 l4 l5 q0 q1 q2 q3 q4 q5
        clear hk
        unfold Fr.val
        go_enter Try.func11, Try.ntmps11
        go_wp2_with fail
        refine (HC.out _).mono ?_
        rintro e w2 ⟨rfl, rfl⟩
        go_wp2_with fail
        clear x0 x1 x2 x3 x4 x5 l0 l1 l2 l3 l4 l5 q0 q1 q2 q3 q4 q5 u1 u2 u3
        have U1 : decide (f.id ≤ (K (m - 1)).id) = false := by have := U.out.1; simp; omega
        have U2 : decide (f.p < (K (m - 1)).p) = false := by have := U.out.2.1; simp; omega
        have U3 : decide (f.d < (K (m - 1)).d) = false := by have := U.out.2.2; simp; omega
        simp only [U1, U2, U3, Bool.false_or]
        clear U1 U2 U3
        generalize ((w.alloc (.cells #[.int .u32 (f.id : Int), .int .i64 f.k, .slice f.a 0 f.c, .int .i64 f.s, .int .i64 f.p, .int .i64 f.d] 25)).alloc (.cells #[.int .u32 ((K (m - 1)).id : Int), .int .i64 (K (m - 1)).k, .slice (K (m - 1)).a (K (m - 1)).n (K (m - 1)).c, .int .i64 (K (m - 1)).s, .int .i64 (K (m - 1)).p, .int .i64 (K (m - 1)).d] 25)) = wx at *
        go_loopw [12] (fun i wr => i = .int .i64 0 ∧ wr = wx) (fun _ _ => 0)
        case atStart => exact ⟨rfl, rfl⟩
        case round =>
          obtain ⟨rfl, rfl⟩ := hrel
          have HOK := hok
          have Bx : Hid (Below wr.heap.size wr wr) := Below.refl _ _
          have HX : Hid (E = if f.d ≤ t then 7 else if 100 ≤ m then 8 else 0) := HX.out.trans (if_neg (not_not_intro HOK.out))
          clear HOK
          obtain ⟨x0, x1, x2, x3, x4, x5, -⟩ := HF.out.grew Bx.out
          rw [Hn.out] at x2
          by_cases h7 : f.d ≤ t
          · have HE : Hid (7 = E) := by show 7 = E; rw [HX.out, if_pos h7]
            go_wp2
            go_ret
            exact NumIs.mk HE.out (BB.out.trans (Bx.out.mono BB.out.size))
          · have q7 : Hid (E = if 100 ≤ m then 8 else 0) := HX.out.trans (if_neg h7)
            by_cases h8 : 100 ≤ m
            · have HE : Hid (8 = E) := by show 8 = E; rw [q7.out, if_pos h8]
              have e8 : (100 : Int) ≤ (m : Int) := by omega
              go_wp2
              go_ret
              exact NumIs.mk HE.out (BB.out.trans (Bx.out.mono BB.out.size))
            · have HE : Hid (0 = E) := by show 0 = E; rw [q7.out, if_neg h8]
              have e8 : ¬ (100 : Int) ≤ (m : Int) := by omega
              go_wp2
              go_ret
              exact NumIs.mk HE.out (BB.out.trans (Bx.out.mono BB.out.size))
      · have hok : Hid (¬ f.refs r m K) := fun h => by
          rcases h with ⟨-, h⟩ | ⟨h, -⟩
          · exact hn h
          · exact h hk
        have HE : Hid (6 = E) := by show 6 = E; rw [HX.out, if_pos hok.out]
        have e2 : (0 : Int) < (f.n : Int) := by omega
        clear hk hn
        unfold Fr.val
        go_enter Try.func11, Try.ntmps11
        go_wp2_with fail
        refine (HC.out _).mono ?_
        rintro e w2 ⟨rfl, rfl⟩
        go_wp2
        go_ret
        exact NumIs.mk HE.out BB.out
    · have e1 : (f.k == 1) = false := by simpa using hk
      have e1' : (f.k != 1) = true := by simpa using hk
      by_cases hn : 1 ≤ f.n ∧ f.n ≤ 4
      · obtain ⟨n1, hn4⟩ := hn
        have e2 : ((f.n : Int) == 0) = false := by simp; omega
        have e3 : ¬ (4 : Int) < (f.n : Int) := by omega
        have hok : Hid ((∀ i, i < f.n → good r m K i) ↔ f.refs r m K) := ⟨fun h => .inr ⟨hk, n1, hn4, h⟩, fun h => by
          rcases h with ⟨h, -⟩ | ⟨-, -, -, h⟩
          · exact absurd h hk
          · exact h⟩
        clear hk
        unfold Fr.val
        go_enter Try.func11, Try.ntmps11
        go_wp2_with fail
        refine (HC.out _).mono ?_
        rintro e w2 ⟨rfl, rfl⟩
        go_wp2_with fail
        clear x0 x1 x2 x3 x4 x5 l0 l1 l2 l3 l4 l5 q0 q1 q2 q3 q4 q5 u1 u2 u3
        have U1 : decide (f.id ≤ (K (m - 1)).id) = false := by have := U.out.1; simp; omega
        have U2 : decide (f.p < (K (m - 1)).p) = false := by have := U.out.2.1; simp; omega
        have U3 : decide (f.d < (K (m - 1)).d) = false := by have := U.out.2.2; simp; omega
        simp only [U1, U2, U3, Bool.false_or]
        clear U1 U2 U3
        generalize ((w.alloc (.cells #[.int .u32 (f.id : Int), .int .i64 f.k, .slice f.a f.n f.c, .int .i64 f.s, .int .i64 f.p, .int .i64 f.d] 25)).alloc (.cells #[.int .u32 ((K (m - 1)).id : Int), .int .i64 (K (m - 1)).k, .slice (K (m - 1)).a (K (m - 1)).n (K (m - 1)).c, .int .i64 (K (m - 1)).s, .int .i64 (K (m - 1)).p, .int .i64 (K (m - 1)).d] 25)) = wx at *
        go_loopw [12] (fun i wr => ∃ j : Nat, j ≤ f.n ∧ i = .int .i64 j ∧ Hid (∀ q, q < j → good r m K q) ∧ Hid (Below wx.heap.size wx wr)) (fun i _ => f.n - (intOf i).toNat)
        case atStart => exact ⟨0, Nat.zero_le _, rfl, fun j hj => absurd hj (by omega), Below.refl _ _⟩
        case round =>
          obtain ⟨j, hj, rfl, hl, hb⟩ := hrel
          obtain ⟨x0, x1, x2, x3, x4, x5, -⟩ := HF.out.grew hb.out
          by_cases hjn : j < f.n
          · obtain ⟨bb, oo, ea, hc0⟩ := (HR1.out.grew hb.out).nums (by omega)
            rw [ea] at x2
            have HA : Hid (f.a = some ⟨bb, oo, none⟩) := ea
            clear ea
            have c1 := hc0 j hjn
            clear hc0
            have i2 : (j : Int) < (f.n : Int) := by omega
            go_wp2_with fail
            refine (rfind_any (some ⟨b, o, none⟩) m c K (r j) _ hm (HK1.out.grew hb.out)).mono ?_
            rintro e w3 ⟨hb3, g, bo, rfl, hg⟩
            have B3 : Hid (Below wx.heap.size wx w3) := hb.out.trans (hb3.mono hb.out.size)
            clear hb3 hb c1 x0 x1 x2 x3 x4 x5
            have B4' := box_below w3 (.cells #[.int .u32 (g.id : Int), .int .i64 g.k, .slice g.a g.n g.c, .int .i64 g.s, .int .i64 g.p, .int .i64 g.d] 25)
            have B4 : Hid (Below wx.heap.size wx (w3.alloc (.cells #[.int .u32 (g.id : Int), .int .i64 g.k, .slice g.a g.n g.c, .int .i64 g.s, .int .i64 g.p, .int .i64 g.d] 25))) := B3.out.trans (B4'.mono B3.out.size)
            clear B4'
            rcases hg with ⟨rfl, hg⟩ | ⟨rfl, hg⟩
            · have HG : Hid (∃ q, q < m ∧ ((K q).id : Int) = r j) := by
                obtain ⟨q, h1, h2, -⟩ := hg
                exact ⟨q, h1, h2⟩
              clear hg
              unfold Fr.val
              go_wp2_with fail
              generalize w3.alloc (.cells #[.int .u32 (g.id : Int), .int .i64 g.k, .slice g.a g.n g.c, .int .i64 g.s, .int .i64 g.p, .int .i64 g.d] 25) = w4 at *
              generalize wr = wo at *
              go_loopw [15] (fun i wr => ∃ u : Nat, u ≤ j ∧ i = .int .i64 u ∧ Hid (∀ q, q < u → r q ≠ r j) ∧ Hid (Below wx.heap.size wx wr)) (fun i _ => j - (intOf i).toNat)
              case atStart => exact ⟨0, Nat.zero_le _, rfl, fun j hj => absurd hj (by omega), B4⟩
              case round =>
                obtain ⟨u, hu, rfl, hlu, hbu⟩ := hrel
                by_cases huj : u < j
                · have N5 := (HR1.out.grew hbu.out).nums
                  rw [HA.out] at N5
                  obtain ⟨x0, x1, x2, x3, x4, x5, -⟩ := HF.out.grew hbu.out
                  rw [HA.out] at x2
                  have c1 := nums_cell N5 u (by omega)
                  have c2 := nums_cell N5 j (by omega)
                  clear N5
                  have i3 : (u : Int) < (j : Int) := by omega
                  have i4 : (u : Int) < (f.n : Int) := by omega
                  have i5 : (j : Int) < (f.n : Int) := by omega
                  have HD : Hid (Below wx.heap.size wx wr.drew) := hbu.out.drew
                  by_cases hv : r u = r j
                  · have HE : Hid (6 = E) := by
                      show 6 = E
                      rw [HX.out, if_pos (fun h => ((hok.out.2 h) j hjn).1 u huj hv)]
                    have e5 : (r u == r j) = true := by simpa using hv
                    clear hv hlu hl HG
                    generalize r u = ru at *
                    generalize r j = rj at *
                    go_wp2_with fail
                    go_region
                    go_wp2
                    go_ret
                    exact NumIs.mk HE.out (BB.out.trans (HD.out.mono BB.out.size))
                  · have HL : Hid (∀ q, q < u + 1 → r q ≠ r j) := fun q hq => by
                      by_cases e : q = u
                      · subst e; exact hv
                      · exact hlu.out q (by omega)
                    have e5 : (r u == r j) = false := by simpa using hv
                    clear hv hlu
                    go_wp2_with fail
                    go_region
                    go_wp2_with fail
                    go_roundw
                    case rel => exact ⟨u + 1, by omega, by go_num, HL, HD⟩
                    case measure => simp [intOf]; omega
                · have hue : u = j := by omega
                  subst hue
                  have HL : Hid (∀ q, q < u + 1 → good r m K q) := fun q hq => by
                    by_cases e : q = u
                    · subst e; exact ⟨hlu.out, HG.out⟩
                    · exact hl.out q (by omega)
                  clear hlu hl
                  go_wp2_with fail
                  go_roundw
                  case rel => exact ⟨u + 1, by omega, by go_num, HL, hbu⟩
                  case measure => simp [intOf]; omega
            · have HE : Hid (6 = E) := by
                show 6 = E
                rw [HX.out, if_pos (fun h => by
                  obtain ⟨-, q, h1, h2⟩ := (hok.out.2 h) j hjn
                  exact hg q h1 h2)]
              clear hg hl
              unfold Fr.val
              go_wp2
              go_ret
              exact NumIs.mk HE.out (BB.out.trans (B4.out.mono BB.out.size))
          · have hje : j = f.n := by omega
            subst hje
            have HOK : Hid (f.refs r m K) := hok.out.1 hl.out
            clear hl hok x0 x1 x2 x3 x4 x5
            have HX : Hid (E = if f.d ≤ t then 7 else if 100 ≤ m then 8 else 0) := HX.out.trans (if_neg (not_not_intro HOK.out))
            clear HOK
            obtain ⟨x0, x1, x2, x3, x4, x5, -⟩ := HF.out.grew hb.out
            by_cases h7 : f.d ≤ t
            · have HE : Hid (7 = E) := by show 7 = E; rw [HX.out, if_pos h7]
              go_wp2
              go_ret
              exact NumIs.mk HE.out (BB.out.trans (hb.out.mono BB.out.size))
            · have q7 : Hid (E = if 100 ≤ m then 8 else 0) := HX.out.trans (if_neg h7)
              by_cases h8 : 100 ≤ m
              · have HE : Hid (8 = E) := by show 8 = E; rw [q7.out, if_pos h8]
                have e8 : (100 : Int) ≤ (m : Int) := by omega
                go_wp2
                go_ret
                exact NumIs.mk HE.out (BB.out.trans (hb.out.mono BB.out.size))
              · have HE : Hid (0 = E) := by show 0 = E; rw [q7.out, if_neg h8]
                have e8 : ¬ (100 : Int) ≤ (m : Int) := by omega
                go_wp2
                go_ret
                exact NumIs.mk HE.out (BB.out.trans (hb.out.mono BB.out.size))
      · have hok : Hid (¬ f.refs r m K) := fun h => by
          rcases h with ⟨h, -⟩ | ⟨-, h1, h2, -⟩
          · exact hk h
          · exact hn ⟨h1, h2⟩
        have HE : Hid (6 = E) := by show 6 = E; rw [HX.out, if_pos hok.out]
        clear hk
        by_cases hz : f.n = 0
        · have e2 : ((f.n : Int) == 0) = true := by simp; omega
          clear hn hz
          unfold Fr.val
          go_enter Try.func11, Try.ntmps11
          go_wp2_with fail
          refine (HC.out _).mono ?_
          rintro e w2 ⟨rfl, rfl⟩
          go_wp2
          go_ret
          exact NumIs.mk HE.out BB.out
        · have e2 : ((f.n : Int) == 0) = false := by simp; omega
          have e3 : (4 : Int) < (f.n : Int) := by omega
          clear hn hz
          unfold Fr.val
          go_enter Try.func11, Try.ntmps11
          go_wp2_with fail
          refine (HC.out _).mono ?_
          rintro e w2 ⟨rfl, rfl⟩
          go_wp2
          go_ret
          exact NumIs.mk HE.out BB.out
end Go.Proofs.Ytheedopfchkebaa
