/-
  The document's Count and Split.
-/
import Derived.Test.YthlidbenhlidjaaSpl
import Derived.Test.YthlidbenhlidjaaRct
import Derived.Laws.CopyOwn
namespace Go.Proofs.Ythlidbenhlidjaa
open Go.RowKit Go.Deep

/-- One more row at a list's end. -/
theorem Own.push {W : World} {base : Nat} {va : Value} {ja k : Nat} {V : Nat → Nat → Nat} (h : Own W base va ja k V) (q g c : Nat) (ty : TypeId) (hc : W.cell? ⟨q, 0, none⟩ = some (.slice (some ⟨g, 0, none⟩) k c)) (hB : BytesAt W (some ⟨g, 0, none⟩) k (V ja)) (hk : 0 < k) (hj : ja ≤ 1000) (hbase : base ≤ W.heap.size) :
    ∃ va' W', (Builtin.append_ #[77, 77] ty #[va, .slice (some ⟨q, 0, none⟩) 1 1]).run Try.prog W = .ok va' W' ∧ Own W' base va' (ja + 1) k V ∧ W.grownBy W' va.ownBlock := by
  obtain ⟨i0, hi, hz0, hz1, hz2⟩ := info_parts Try.infoRow
  have h' := h
  obtain ⟨xs, ho, h0, hx⟩ := h
  obtain ⟨va', W', hr, hown, hgr, hnil, hat⟩ := run_append_own_at (P := Try.prog) W base 77 ty 26 i0 (.slice none 0 0) 1 24 Try.underlying77 hi hz0 hz1 hz2 rfl (by decide) va ja xs ho ⟨q, 0, none⟩ 1 1 [.slice (some ⟨g, 0, none⟩) k c] rfl
    (fun j u hj => by
      cases j with
      | zero => cases hj; exact hc
      | succ j => simp at hj) (by intro u hu; simp at hu; subst hu; rfl) (by unfold maxLen; omega) (by omega) hbase
  refine ⟨va', W', hr, ⟨_, hown, fun e => absurd e (by omega), fun i hi => ?_⟩, hgr⟩
  by_cases e : i = ja
  · subst e
    refine ⟨g, c, ?_, hB.grown hgr (h'.apart hB hk)⟩
    have hl := ho.1
    rw [Nat.mul_one] at hl
    rw [List.getElem?_append_right (by omega), hl, Nat.sub_self]
    rfl
  · obtain ⟨b, cc, h1, h2⟩ := hx i (by omega)
    have hl := ho.1
    rw [Nat.mul_one] at hl
    exact ⟨b, cc, by rw [List.getElem?_append_left (by omega)]; exact h1, h2.grown hgr (h'.apart h2 hk)⟩

/-- The first t bytes of a symbol. -/
def pieceTo (x : Nat → Nat) (n s i t j : Nat) : Nat := if j < t then piece x n s i j else 0

theorem pieceTo_step {w : World} {g u s n m i t : Nat} {x : Nat → Nat} (h : w.rowIs g u s (byteAt (pieceTo x n s i t))) (hm : m = i * s) (ht : m + t < n) : (w.setCell ⟨g, t, none⟩ (.int .u8 (x (m + t) : Int))).rowIs g u s (byteAt (pieceTo x n s i (t + 1))) := by
  refine (h.set t _).congr fun j _ => ?_
  by_cases e : j = t
  · subst e
    rw [if_pos rfl]
    unfold byteAt pieceTo piece
    rw [if_pos (by omega), ← hm, if_pos ht]
  · rw [if_neg e]
    unfold byteAt pieceTo
    by_cases g : j < t
    · rw [if_pos g, if_pos (by omega)]
    · rw [if_neg g, if_neg (by omega)]
theorem Own.nil (w : World) (k : Nat) (V : Nat → Nat → Nat) (base : Nat) : Own w base (.slice none 0 0) 0 k V :=
  ⟨[], ⟨rfl, .inl ⟨rfl, rfl⟩⟩, fun _ g e => by simp [Value.ownBlock] at e, fun i hi => absurd hi (by omega)⟩
set_option maxRecDepth 100000 in
set_option maxHeartbeats 1000000 in
theorem rsplit_yes (a : Option Addr) (n c s k : Nat) (x : Nat → Nat) (w : World) (hx : BytesAt w a n x) (s1 : 1 ≤ s) (s2 : s ≤ 64) (n1 : 1 ≤ n) (n2 : n ≤ 32 * s) (hk : k = cntOf n s) :
    Calls Try.prog 31 #[.slice a n c, .int .i64 (s : Int)] w fun e w' => ∃ v, e = .returned (.tuple #[v, .bool true]) ∧ Own w' w.heap.size v k s (piece x n s) ∧ Below w.heap.size w w' := by
  have k32 : k ≤ 32 := by rw [hk]; exact cnt_le n s s1 n2
  have n3 : n ≤ 2048 := by omega
  have HM : Hid (∀ i, i < k → i * s < n) := fun i hi => cnt_mul n s i s1 n1 (hk ▸ hi)
  have HK : Hid (cntOf n s = k) := hk.symm
  clear hk
  have hms := run_make_row' (P := Try.prog) 26 5 (.int .u8 0) 1 Try.underlying26 Try.infoByte rfl .i64 .i64 s (by omega) (by omega)
  obtain ⟨b0, o0, rfl⟩ := bytes_some hx n1
  have HX : Hid (BytesAt w (some ⟨b0, o0, none⟩) n x) := hx
  clear hx
  go_enter Try.func31, Try.ntmps31
  go_wp2_with fail
  refine (rcount_yes n s _ s1 s2 n1 n2).mono ?_
  rintro e w ⟨rfl, rfl⟩
  rw [HK.out]
  clear HK n2
  go_wp2_with fail
  go_loopw [8, 9] (fun v i wr => ∃ j : Nat, j ≤ k ∧ i = .int .i64 j ∧ Own wr w.heap.size v j s (piece x n s) ∧ Below w.heap.size w wr) (fun _ i _ => k - (intOf i).toNat)
  case atStart => exact ⟨0, Nat.zero_le _, rfl, Own.nil _ _ _ _, Below.refl _ _⟩
  case round =>
    obtain ⟨j, hj, rfl, ho, hb⟩ := hrel
    have HO : Hid (Own wr w.heap.size u8 j s (piece x n s)) := ho
    have HB : Hid (Below w.heap.size w wr) := hb
    clear ho hb
    by_cases hjk : j < k
    · have i1 : (j : Int) < (k : Int) := by omega
      have jm := HM.out j hjk
      obtain ⟨m, hm⟩ : ∃ m, m = j * s := ⟨_, rfl⟩
      have HMJ : Hid (m = j * s) := hm
      have hw := mul_fits j s m hm (by omega)
      have mn : m < n := by omega
      clear hm jm
      generalize wr = wo at *
      have HG : Hid ((wo.alloc (.cells (madeCells #[.int .u8 0] s) 5)).rowIs wo.heap.size 5 s (byteAt (pieceTo x n s j 0))) := (World.rowIs_made wo (.int .u8 0) s 5).congr fun i _ => by unfold byteAt pieceTo; rw [if_neg (by omega)]; rfl
      go_wp2_with fail
      go_loopw [11] (fun i wr => ∃ t : Nat, t ≤ s ∧ m + t ≤ n ∧ i = .int .i64 t ∧ wr.rowIs wo.heap.size 5 s (byteAt (pieceTo x n s j t)) ∧ Below wo.heap.size wo wr) (fun i _ => s - (intOf i).toNat)
      case atStart => exact ⟨0, Nat.zero_le _, by omega, rfl, HG.out, (Below.refl _ _).alloc (Nat.le_refl _) _⟩
      case round =>
        clear HG
        obtain ⟨t, t1, t2, rfl, hr, hbi⟩ := hrel
        have HR : Hid (wr.rowIs wo.heap.size 5 s (byteAt (pieceTo x n s j t))) := hr
        have HI : Hid (Below wo.heap.size wo wr) := hbi
        clear hr hbi
        by_cases hts : t < s ∧ m + t < n
        · obtain ⟨t3, t4⟩ := hts
          have i3 : (t : Int) < (s : Int) := by omega
          have i4 : (m : Int) + (t : Int) < (n : Int) := by omega
          have BX := HX.out.below (HB.out.trans (HI.out.mono HB.out.size)) (Nat.le_refl _)
          have c1 := bytes_cell BX (m + t) t4
          have c2 := HR.out.cell t3
          have f2 := HR.out.frozen t
          have e1 : ((m : Int) + (t : Int)).toNat = m + t := by omega
          clear BX
          go_wp2
          go_roundw
          case rel => exact ⟨t + 1, by omega, by omega, by go_num, pieceTo_step HR.out HMJ.out t4, HI.out.setCell (Nat.le_refl _) _⟩
          case measure => simp [intOf]; omega
        · have HP : Hid (BytesAt wr (some ⟨wo.heap.size, 0, none⟩) s (piece x n s j)) := row_bytes' HR.out (fun i hi => by
            unfold pieceTo
            by_cases g : i < t
            · rw [if_pos g]
            · rw [if_neg g]
              unfold piece
              rw [← HMJ.out, if_neg (by omega)]) (fun i _ => piece_lt HX.out.lt i)
          have HO2 : Hid (Own wr w.heap.size u8 j s (piece x n s)) := HO.out.grew HI.out
          have HB2 : Hid (Below w.heap.size w wr) := HB.out.trans (HI.out.mono HB.out.size)
          have l1 := HR.out.lt
          clear HO HB HR HI
          have cq : (wr.alloc (.cells #[.slice (some ⟨wo.heap.size, 0, none⟩) s s] 26)).cell? ⟨wr.heap.size, 0, none⟩ = some (.slice (some ⟨wo.heap.size, 0, none⟩) s s) := by rw [World.cell?_alloc_at _ _ _ _ rfl]; rfl
          have A2 : Below wr.heap.size wr (wr.alloc (.cells #[.slice (some ⟨wo.heap.size, 0, none⟩) s s] 26)) := (Below.refl _ _).alloc (Nat.le_refl _) _
          obtain ⟨v', w5, happ, ho5, hg5⟩ := (HO2.out.grew A2).push wr.heap.size wo.heap.size s 77 cq (HP.out.grew A2) (by omega) (by omega) (by have := HB2.out.size; simp; omega)
          have HO5 : Hid (Own w5 w.heap.size v' (j + 1) s (piece x n s)) := ho5
          have HB5 : Hid (Below w.heap.size w w5) := (HB2.out.trans (A2.mono HB2.out.size)).grown hg5 (by have := HB2.out.size; simp; omega) (fun g e => (HO2.out.lt g e).1)
          clear ho5 hg5 cq A2
          by_cases ht : t < s
          · have i3 : (t : Int) < (s : Int) := by omega
            have i4 : ¬ (m : Int) + (t : Int) < (n : Int) := by omega
            clear hts
            go_wp2_with (at_builtin; refine Go.Lib.wpList_append_run _ rfl (.tmp 54) (.tmp 56) 77 77 rfl _ _ rfl rfl _ _ happ ?_)
            go_roundw
            case rel => exact ⟨j + 1, by omega, by go_num, HO5.out, HB5.out⟩
            case measure => simp [intOf]; omega
          · obtain rfl : t = s := by omega
            clear hts ht
            go_wp2_with (at_builtin; refine Go.Lib.wpList_append_run _ rfl (.tmp 54) (.tmp 56) 77 77 rfl _ _ rfl rfl _ _ happ ?_)
            go_roundw
            case rel => exact ⟨j + 1, by omega, by go_num, HO5.out, HB5.out⟩
            case measure => simp [intOf]; omega
    · obtain rfl : j = k := by omega
      clear hjk hj
      go_wp2
      go_ret2
      exact ⟨_, rfl, HO.out, HB.out⟩

theorem rsplit_no (a : Option Addr) (n c : Nat) (s : Int) (w : World) (h : ¬ (1 ≤ s ∧ s ≤ 64 ∧ 1 ≤ (n : Int) ∧ (n : Int) ≤ 32 * s)) :
    Calls Try.prog 31 #[.slice a n c, .int .i64 s] w fun e w' => e = .returned (.tuple #[.slice none 0 0, .bool false]) ∧ w' = w := by
  go_enter Try.func31, Try.ntmps31
  go_wp2_with fail
  refine (rcount_no n s _ h).mono ?_
  rintro e w ⟨rfl, rfl⟩
  go_wp2
  go_ret2
  exact ⟨rfl, rfl⟩
end Go.Proofs.Ythlidbenhlidjaa
