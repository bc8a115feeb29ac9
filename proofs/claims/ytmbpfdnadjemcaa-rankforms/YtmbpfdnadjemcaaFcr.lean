/-
  Package frame: whom a frame may hang on.
-/
import Derived.Test.YtmbpfdnadjemcaaFck
namespace Go.Proofs.Ytmbpfdnadjemcaa
open Go.RowKit Go.Deep

set_option maxRecDepth 100000 in
theorem uslice_to (a : Option Addr) (len cap n : Nat) (w : World) (h : n ≤ cap) : (Instr.slice 24 (.slice a len cap) none (some (.int .i64 (n : Int))) none).run Try.prog w = .ok (.slice a n cap) w := by
  have hz : ∀ x : Addr, x.add 0 = x := fun _ => rfl
  have e := run_slice_h (P := Try.prog) w 24 a len cap Try.underlying24 .i64 (n : Int) (by omega) (by omega)
  rw [e]
  simp [sliced, hz]
  have hs : (sizeOf (Try.prog.elem 24)).run Try.prog w = .ok 1 w := by kernel_rfl
  rw [hs]
  rfl
/-- The first of n places that has it, or -1. -/
def Finds (n : Nat) (p : Nat → Prop) (e : Ending) : Prop := (∃ j : Nat, j < n ∧ p j ∧ e = .returned (.int .i64 (j : Int))) ∨ ((∀ j, j < n → ¬ p j) ∧ e = .returned (.int .i64 (-1)))
/-- A bool that tells p. -/
def Tells (w : World) (p : Prop) (e : Ending) (w' : World) : Prop := Below w.heap.size w w' ∧ ∃ b : Bool, e = .returned (.bool b) ∧ (b = true ↔ p)

set_option maxRecDepth 100000 in
theorem uindex_any (a : Option Addr) (n c : Nat) (x : Nat → Int) (v : Int) (w : World) (hn : n ≤ 1000) (hx : Hid (NumsAt .u32 w a n x)) :
    Calls Try.prog 42 #[.slice a n c, .int .u32 v] w fun e w' => Finds n (fun j => x j = v) e ∧ w' = w := by
  go_enter Try.func42, Try.ntmps42
  go_wp2_with fail
  go_loopw [8] (fun i wr => ∃ k : Nat, k ≤ n ∧ i = .int .i64 k ∧ Hid (∀ j, j < k → x j ≠ v) ∧ wr = w) (fun i _ => n - (intOf i).toNat)
  case atStart => exact ⟨0, Nat.zero_le _, rfl, fun j hj => absurd hj (by omega), rfl⟩
  case round =>
    obtain ⟨k, hk, rfl, hl, rfl⟩ := hrel
    by_cases hkn : k < n
    · obtain ⟨b, o, rfl, hc⟩ := hx.out (by omega)
      have c1 := hc k hkn
      have i1 : (k : Int) < (n : Int) := by omega
      clear hc
      by_cases hv : x k = v
      · have HF : Hid (Finds n (fun j => x j = v) (.returned (.int .i64 (k : Int)))) := .inl ⟨k, hkn, hv, rfl⟩
        clear hl
        rw [hv] at c1
        clear hv
        go_wp2
        go_ret
        exact ⟨HF.out, rfl⟩
      · have HL : Hid (∀ j, j < k + 1 → x j ≠ v) := fun j hj => by
          by_cases e : j = k
          · subst e; exact hv
          · exact hl.out j (by omega)
        have e1 : (v == x k) = false := by simp; exact fun e => hv e.symm
        clear hl hv
        generalize x k = y at *
        go_wp2_with fail
        go_roundw
        case rel => exact ⟨k + 1, by omega, by go_num, HL, trivial⟩
        case measure => simp [intOf]; omega
    · have hke : k = n := by omega
      subst hke
      have HF : Hid (Finds k (fun j => x j = v) (.returned (.int .i64 (-1)))) := .inr ⟨hl.out, rfl⟩
      clear hl
      go_wp2
      go_ret
      exact ⟨HF.out, rfl⟩

set_option maxRecDepth 100000 in
theorem ucontains_any (a : Option Addr) (n c : Nat) (x : Nat → Int) (v : Int) (w : World) (hn : n ≤ 1000) (hx : Hid (NumsAt .u32 w a n x)) :
    Calls Try.prog 35 #[.slice a n c, .int .u32 v] w (Tells w (∃ j, j < n ∧ x j = v)) := by
  go_enter Try.func35, Try.ntmps35
  go_wp2_with fail
  refine (uindex_any a n c x v _ hn hx).mono ?_
  rintro e w1 ⟨⟨j, h1, h2, rfl⟩ | ⟨h1, rfl⟩, rfl⟩
  · have HT : Hid (∃ j, j < n ∧ x j = v) := ⟨j, h1, h2⟩
    clear h2
    go_wp2
    go_ret
    exact ⟨Below.refl _ _, true, rfl, iff_of_true rfl HT.out⟩
  · have HT : Hid (¬ ∃ j, j < n ∧ x j = v) := fun ⟨j, h2, h3⟩ => h1 j h2 h3
    clear h1
    go_wp2
    go_ret
    exact ⟨Below.refl _ _, false, rfl, iff_of_false (by decide) HT.out⟩

set_option maxRecDepth 100000 in
theorem isk_any (f : Fr) (B : Nat) (v : Int) (w : World) (hc : w.cell? ⟨B, 0, none⟩ = some (.int .u32 v)) :
    Calls Try.prog 44 #[f.val, .pointer (some ⟨B, 0, none⟩)] w fun e w' => e = .returned (.bool ((f.id : Int) == v)) ∧ Below w.heap.size w w' := by
  have b1 := box_below w (.cells #[.int .u32 (f.id : Int), .int .i64 f.k, .slice f.a f.n f.c, .int .i64 f.s, .int .i64 f.p, .int .i64 f.d] 26)
  have HB : Hid (Below w.heap.size w (w.alloc (.cells #[.int .u32 (f.id : Int), .int .i64 f.k, .slice f.a f.n f.c, .int .i64 f.s, .int .i64 f.p, .int .i64 f.d] 26))) := b1
  have c1 := (b1.cell (p := ⟨B, 0, none⟩) (cell_lt hc)).trans hc
  clear b1 hc
  unfold Fr.val
  go_enter Try.func44, Try.ntmps44
  go_wp2
  go_ret
  exact ⟨rfl, HB.out⟩

set_option maxRecDepth 100000 in
set_option maxHeartbeats 400000 in
theorem findex_any (a : Option Addr) (m c : Nat) (K : Nat → Fr) (B : Nat) (v : Int) (w : World) (hm : m ≤ 1000) (HK : Hid (FrsAt w a m K)) (HC : Hid (w.cell? ⟨B, 0, none⟩ = some (.int .u32 v))) :
    Calls Try.prog 29 #[.slice a m c, .func (.func 44) #[] #[.pointer (some ⟨B, 0, none⟩)]] w fun e w' => Finds m (fun j => ((K j).id : Int) = v) e ∧ Below w.heap.size w w' := by
  go_enter Try.func29, Try.ntmps29
  go_wp2_with fail
  go_loopw [8] (fun i wr => ∃ k : Nat, k ≤ m ∧ i = .int .i64 k ∧ Hid (∀ j, j < k → ((K j).id : Int) ≠ v) ∧ Hid (Below w.heap.size w wr)) (fun i _ => m - (intOf i).toNat)
  case atStart => exact ⟨0, Nat.zero_le _, rfl, fun j hj => absurd hj (by omega), Below.refl _ _⟩
  case round =>
    obtain ⟨k, hk, rfl, hl, hb⟩ := hrel
    by_cases hkn : k < m
    · obtain ⟨b, o, rfl⟩ := HK.out.addr (by omega)
      obtain ⟨q0, q1, q2, q3, q4, q5⟩ := (HK.out.below hb.out (Nat.le_refl _)).at k hkn
      have i1 : (k : Int) < (m : Int) := by omega
      have hc := (hb.out.cell (p := ⟨B, 0, none⟩) (cell_lt HC.out)).trans HC.out
      go_wp2_with fail
      refine (isk_any (K k) B v _ hc).mono ?_
      rintro e w1 ⟨rfl, hb1⟩
      have HB : Hid (Below w.heap.size w w1) := hb.out.trans (hb1.mono hb.out.size)
      clear q0 q1 q2 q3 q4 q5 hc hb1 hb
      by_cases hv : ((K k).id : Int) = v
      · have HF : Hid (Finds m (fun j => ((K j).id : Int) = v) (.returned (.int .i64 (k : Int)))) := .inl ⟨k, hkn, hv, rfl⟩
        rw [show (((K k).id : Int) == v) = true by simp [hv]]
        clear hl hv
        go_wp2
        go_ret
        exact ⟨HF.out, HB.out⟩
      · have HL : Hid (∀ j, j < k + 1 → ((K j).id : Int) ≠ v) := fun j hj => by
          by_cases e : j = k
          · subst e; exact hv
          · exact hl.out j (by omega)
        rw [show (((K k).id : Int) == v) = false by simpa using hv]
        clear hl hv
        go_wp2_with fail
        go_roundw
        case rel => exact ⟨k + 1, by omega, by go_num, HL, HB⟩
        case measure => simp [intOf]; omega
    · have hke : k = m := by omega
      subst hke
      have HF : Hid (Finds k (fun j => ((K j).id : Int) = v) (.returned (.int .i64 (-1)))) := .inr ⟨hl.out, rfl⟩
      clear hl
      go_wp2
      go_ret
      exact ⟨HF.out, hb.out⟩

set_option maxRecDepth 100000 in
theorem fcontains_any (a : Option Addr) (m c : Nat) (K : Nat → Fr) (B : Nat) (v : Int) (w : World) (hm : m ≤ 1000) (HK : Hid (FrsAt w a m K)) (HC : Hid (w.cell? ⟨B, 0, none⟩ = some (.int .u32 v))) :
    Calls Try.prog 43 #[.slice a m c, .func (.func 44) #[] #[.pointer (some ⟨B, 0, none⟩)]] w (Tells w (∃ j, j < m ∧ ((K j).id : Int) = v)) := by
  go_enter Try.func43, Try.ntmps43
  go_wp2_with fail
  refine (findex_any a m c K B v _ hm HK HC).mono ?_
  rintro e w1 ⟨⟨j, h1, h2, rfl⟩ | ⟨h1, rfl⟩, hb⟩
  · have HT : Hid (∃ j, j < m ∧ ((K j).id : Int) = v) := ⟨j, h1, h2⟩
    clear h2
    go_wp2
    go_ret
    exact ⟨hb, true, rfl, iff_of_true rfl HT.out⟩
  · have HT : Hid (¬ ∃ j, j < m ∧ ((K j).id : Int) = v) := fun ⟨j, h2, h3⟩ => h1 j h2 h3
    clear h1
    go_wp2
    go_ret
    exact ⟨hb, false, rfl, iff_of_false (by decide) HT.out⟩

set_option maxRecDepth 100000 in
theorem known_any (a : Option Addr) (m c : Nat) (K : Nat → Fr) (v : Int) (w : World) (hm : m ≤ 1000) (HK : Hid (FrsAt w a m K)) :
    Calls Try.prog 36 #[.int .u32 v, .slice a m c] w (Tells w (∃ j, j < m ∧ ((K j).id : Int) = v)) := by
  have hmf : ∀ (fn : Fn) (first cap : Array Value) (w : World), (Instr.makeFunc fn first cap).run Try.prog w = .ok (.func fn first cap) w := fun _ _ _ _ => rfl
  have HB : Hid (Below w.heap.size w (w.alloc (.cells #[.int .u32 v] 23))) := box_below w _
  have HC : Hid ((w.alloc (.cells #[.int .u32 v] 23)).cell? ⟨w.heap.size, 0, none⟩ = some (.int .u32 v)) := by
    show (w.alloc (.cells #[.int .u32 v] 23)).cell? ⟨w.heap.size, 0, none⟩ = some (.int .u32 v)
    rw [World.cell?_alloc_at _ _ _ _ rfl]; rfl
  go_enter Try.func36, Try.ntmps36
  go_wp2_with fail
  refine (fcontains_any a m c K w.heap.size v _ hm (HK.out.grew HB.out) HC).mono ?_
  rintro e w1 ⟨hb, B, rfl, hB⟩
  go_wp2
  go_ret
  exact ⟨HB.out.trans (hb.mono HB.out.size), B, rfl, hB⟩

/-- The i-th that a frame hangs on is none of those ahead, and known. -/
def good (r : Nat → Int) (m : Nat) (K : Nat → Fr) (i : Nat) : Prop := (∀ j, j < i → r j ≠ r i) ∧ ∃ q, q < m ∧ ((K q).id : Int) = r i
/-- A frame that hangs on whom it may. -/
def Fr.refs (f : Fr) (r : Nat → Int) (m : Nat) (K : Nat → Fr) : Prop := (f.k = 1 ∧ f.n = 0) ∨ (f.k ≠ 1 ∧ 1 ≤ f.n ∧ f.n ≤ 4 ∧ ∀ i, i < f.n → good r m K i)
theorem NumsAt.take {κ : IntKind} {w : World} {a : Option Addr} {n k : Nat} {x : Nat → Int} (h : NumsAt κ w a n x) (hk : k ≤ n) : NumsAt κ w a k x := fun h0 => by
  obtain ⟨b, o, e, hc⟩ := h (by omega)
  exact ⟨b, o, e, fun i hi => hc i (by omega)⟩

set_option maxRecDepth 100000 in
set_option maxHeartbeats 400000 in
theorem refs_any (f : Fr) (r : Nat → Int) (a : Option Addr) (m c : Nat) (K : Nat → Fr) (w : World) (hm : m ≤ 1000) (hn : f.n ≤ 1000) (hc : f.n ≤ f.c) (HR : Hid (NumsAt .u32 w f.a f.n r)) (HK : Hid (FrsAt w a m K)) :
    Calls Try.prog 27 #[f.val, .slice a m c] w (Asks w 6 (f.refs r m K)) := by
  have F0 := FrAt.made w 26 f
  have HX : Hid (f.refs r m K ↔ ((f.k = 1 ∧ f.n = 0) ∨ (f.k ≠ 1 ∧ 1 ≤ f.n ∧ f.n ≤ 4 ∧ ∀ i, i < f.n → good r m K i))) := Iff.rfl
  generalize f.refs r m K = ok at *
  obtain ⟨id, k, fa, n, fc, s, p, d⟩ := f
  simp only at hn hc HR HX F0
  have F1 : Hid (FrAt (w.alloc (.cells #[.int .u32 (id : Int), .int .i64 k, .slice fa n fc, .int .i64 s, .int .i64 p, .int .i64 d] 26)) w.heap.size ⟨id, k, fa, n, fc, s, p, d⟩) := F0
  have B1 : Hid (Below w.heap.size w (w.alloc (.cells #[.int .u32 (id : Int), .int .i64 k, .slice fa n fc, .int .i64 s, .int .i64 p, .int .i64 d] 26))) := box_below w _
  have HR1 : Hid (NumsAt .u32 (w.alloc (.cells #[.int .u32 (id : Int), .int .i64 k, .slice fa n fc, .int .i64 s, .int .i64 p, .int .i64 d] 26)) fa n r) := HR.out.grew B1.out
  have HK1 : Hid (FrsAt (w.alloc (.cells #[.int .u32 (id : Int), .int .i64 k, .slice fa n fc, .int .i64 s, .int .i64 p, .int .i64 d] 26)) a m K) := HK.out.grew B1.out
  clear HR HK F0
  unfold Fr.val
  by_cases hk : k = 1
  · subst hk
    by_cases h0 : n = 0
    · subst h0
      have HT : Hid ok := HX.out.2 (.inl ⟨rfl, rfl⟩)
      clear HX
      go_enter Try.func27, Try.ntmps27
      go_wp2_with fail
      refine (fdemand_yes _ _ _ (by simp)).mono ?_
      rintro e w1 ⟨rfl, rfl⟩
      go_wp2
      go_end0
      exact ⟨B1.out, .inl ⟨HT.out, rfl⟩⟩
    · have HT : Hid (¬ ok) := fun h => by
        rcases HX.out.1 h with ⟨-, h⟩ | ⟨h, -⟩
        · exact h0 h
        · exact h rfl
      clear HX
      have e0 : ((n : Int) == 0) = false := by simp; omega
      go_enter Try.func27, Try.ntmps27
      go_wp2_with fail
      refine (fdemand_no _ _ _ (by simp <;> omega)).mono ?_
      rintro e w1 ⟨rfl, rfl⟩
      go_wp2
      exact ⟨rfl, B1.out, .inr ⟨HT.out, rfl⟩⟩
  · have k1 : (k == 1) = false := by simpa using hk
    by_cases hq : 1 ≤ n ∧ n ≤ 4
    · obtain ⟨n1, n4⟩ := hq
      have HX : Hid (ok ↔ ∀ i, i < n → good r m K i) := ⟨fun h => by
        rcases HX.out.1 h with ⟨h, -⟩ | ⟨-, -, -, h⟩
        · exact absurd h hk
        · exact h, fun h => HX.out.2 (.inr ⟨hk, n1, n4, h⟩)⟩
      have i1 : (1 : Int) ≤ (n : Int) := by omega
      have i4 : (n : Int) ≤ 4 := by omega
      obtain ⟨b, o, rfl, hc0⟩ := HR1.out (by omega)
      clear hc0 hk
      go_enter Try.func27, Try.ntmps27
      go_wp2_with fail
      refine (fdemand_yes _ _ _ (by simp <;> omega)).mono ?_
      rintro e w1 ⟨rfl, rfl⟩
      go_wp2_with fail
      generalize (w.alloc (.cells #[.int .u32 (id : Int), .int .i64 k, .slice (some ⟨b, o, none⟩) n fc, .int .i64 s, .int .i64 p, .int .i64 d] 26)) = w1 at *
      go_loopw [28] (fun i wr => ∃ j : Nat, j ≤ n ∧ i = .int .i64 j ∧ Hid (∀ q, q < j → good r m K q) ∧ Hid (Below w1.heap.size w1 wr)) (fun i _ => n - (intOf i).toNat)
      case atStart => exact ⟨0, Nat.zero_le _, rfl, fun j hj => absurd hj (by omega), Below.refl _ _⟩
      case round =>
        obtain ⟨j, hj, rfl, hl, hb⟩ := hrel
        by_cases hjn : j < n
        · have hs := fun W => uslice_to (some ⟨b, o, none⟩) n fc j W (by omega)
          have c1 := nums_cell (HR1.out.grew hb.out) j hjn
          obtain ⟨f0, f1, f2, f3, f4, f5, -⟩ := F1.out.grew hb.out
          simp only at f0 f1 f2 f3 f4 f5
          have i2 : (j : Int) < (n : Int) := by omega
          go_wp2_with fail
          refine (ucontains_any (some ⟨b, o, none⟩) j fc r (r j) _ (by omega) ((HR1.out.grew hb.out).take (by omega))).mono ?_
          rintro e w2 ⟨hb2, B, rfl, hB⟩
          have HB2 : Hid (Below w1.heap.size w1 w2) := hb.out.trans (hb2.mono hb.out.size)
          clear hb2 hb c1 f0 f1 f2 f3 f4 f5
          cases B with
          | true =>
            have HT : Hid (¬ ok) := fun h => by
              obtain ⟨q, h1, h2⟩ := hB.1 rfl
              exact ((HX.out.1 h j hjn).1 q h1) h2
            clear hB hs
            go_wp2_with fail
            refine (fdemand_no _ _ _ (by simp)).mono ?_
            rintro e w3 ⟨rfl, rfl⟩
            go_wp2
            exact ⟨rfl, B1.out.trans (HB2.out.mono B1.out.size), .inr ⟨HT.out, rfl⟩⟩
          | false =>
            have HN : Hid (∀ q, q < j → r q ≠ r j) := fun q h1 h2 => absurd (hB.2 ⟨q, h1, h2⟩) (by decide)
            clear hB hs
            go_wp2_with fail
            refine (fdemand_yes _ _ _ (by simp)).mono ?_
            rintro e w3 ⟨rfl, rfl⟩
            go_wp2_with fail
            refine (known_any a m c K (r j) _ hm (HK1.out.grew HB2.out)).mono ?_
            rintro e w3 ⟨hb3, B, rfl, hB⟩
            have HB3 : Hid (Below w1.heap.size w1 w3) := HB2.out.trans (hb3.mono HB2.out.size)
            clear hb3 HB2
            cases B with
            | true =>
              have HL : Hid (∀ q, q < j + 1 → good r m K q) := fun q hq => by
                by_cases e : q = j
                · subst e; exact ⟨HN.out, hB.1 rfl⟩
                · exact hl.out q (by omega)
              clear hB hl
              go_wp2_with fail
              refine (fdemand_yes _ _ _ (by simp)).mono ?_
              rintro e w4 ⟨rfl, rfl⟩
              go_wp2_with fail
              go_roundw
              case rel => exact ⟨j + 1, by omega, by go_num, HL, HB3⟩
              case measure => simp [intOf]; omega
            | false =>
              have HT : Hid (¬ ok) := fun h => by
                exact absurd (hB.2 (HX.out.1 h j hjn).2) (by decide)
              clear hB
              go_wp2_with fail
              refine (fdemand_no _ _ _ (by simp)).mono ?_
              rintro e w4 ⟨rfl, rfl⟩
              go_wp2
              exact ⟨rfl, B1.out.trans (HB3.out.mono B1.out.size), .inr ⟨HT.out, rfl⟩⟩
        · have hke : j = n := by omega
          subst hke
          have HT : Hid ok := HX.out.2 hl.out
          clear hl HX
          go_wp2
          go_end0
          exact ⟨B1.out.trans (hb.out.mono B1.out.size), .inl ⟨HT.out, rfl⟩⟩
    · have HT : Hid (¬ ok) := fun h => by
        rcases HX.out.1 h with ⟨h, -⟩ | ⟨-, h1, h2, -⟩
        · exact absurd h hk
        · exact hq ⟨h1, h2⟩
      clear HX hk
      go_enter Try.func27, Try.ntmps27
      go_wp2_with fail
      all_goals
        refine (fdemand_no _ _ _ (by simp <;> omega)).mono ?_
        rintro e w1 ⟨rfl, rfl⟩
        go_wp2
        exact ⟨rfl, B1.out, .inr ⟨HT.out, rfl⟩⟩
end Go.Proofs.Ytmbpfdnadjemcaa
