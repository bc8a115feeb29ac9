/-
  The document's Find of an ID, by place; told.
-/
import Derived.Test.YtclbcggbnbimaaaAbv
import Derived.Test.YtclbcggbnbimaaaRkr
namespace Go.Proofs.Ytclbcggbnbimaaa
open Go.RowKit Go.Deep

set_option maxRecDepth 100000 in
set_option maxHeartbeats 400000 in
theorem rfind_zero (a : Option Addr) (m c : Nat) (K : Nat → Fr) (v : Int) (w : World) (hm : m ≤ 1000) (HK : Hid (FrsAt w a m K)) (HV : Hid (∀ j, j < m → ((K j).id : Int) ≠ v)) :
    Calls Try.prog 19 #[.slice a m c, .int .u32 v] w fun e w' => e = .returned (.tuple #[Fr.zero.val, .bool false]) ∧ Below w.heap.size w w' := by
  obtain ⟨w1, e1⟩ : ∃ x, w.alloc (.cells #[.int .u32 0, .int .i64 0, .slice none 0 0, .int .i64 0, .int .i64 0, .int .i64 0] 31) = x := ⟨_, rfl⟩
  have B1 : Hid (Below w.heap.size w w1) := e1 ▸ box_below w _
  have F1 : Hid (FrAt w1 w.heap.size Fr.zero) := e1 ▸ FrAt.made w _ Fr.zero
  have HK1 : Hid (FrsAt w1 a m K) := HK.out.grew B1.out
  clear HK
  go_enter Try.func19, Try.ntmps19
  go_wp2_with fail
  go_loopw [6] (fun i wr => ∃ k : Nat, k ≤ m ∧ i = .int .i64 k ∧ wr = w1) (fun i _ => m - (intOf i).toNat)
  case atStart => exact ⟨0, Nat.zero_le _, rfl, rfl⟩
  case round =>
    obtain ⟨k, hk, rfl, rfl⟩ := hrel
    obtain ⟨f0, f1, f2, f3, f4, f5, fz⟩ := F1.out
    have z0 := fz 0
    have z1 := fz 1
    have z2 := fz 2
    have z3 := fz 3
    have z4 := fz 4
    have z5 := fz 5
    simp only [Fr.zero] at f0 f1 f2 f3 f4 f5
    clear fz
    by_cases hkn : k < m
    · obtain ⟨b, o, rfl⟩ := HK1.out.addr (by omega)
      obtain ⟨q0, q1, q2, q3, q4, q5⟩ := HK1.out.at k hkn
      have i1 : (k : Int) < (m : Int) := by omega
      have j1 : (((K k).id : Int) == v) = false := by simpa using HV.out k hkn
      generalize K k = g at *
      go_wp2_with fail
      go_roundw
      case rel => exact ⟨k + 1, by omega, by go_num, trivial⟩
      case measure => simp [intOf]; omega
    · have hke : k = m := by omega
      subst hke
      have HW : Hid (FrAt ((((((wr.setCell ⟨w.heap.size, 0, none⟩ (.int .u32 0)).setCell ⟨w.heap.size, 1, none⟩ (.int .i64 0)).setCell ⟨w.heap.size, 2, none⟩ (.slice none 0 0)).setCell ⟨w.heap.size, 3, none⟩ (.int .i64 0)).setCell ⟨w.heap.size, 4, none⟩ (.int .i64 0)).setCell ⟨w.heap.size, 5, none⟩ (.int .i64 0)) w.heap.size Fr.zero) := F1.out.write Fr.zero
      have HB : Hid (Below w.heap.size w ((((((wr.setCell ⟨w.heap.size, 0, none⟩ (.int .u32 0)).setCell ⟨w.heap.size, 1, none⟩ (.int .i64 0)).setCell ⟨w.heap.size, 2, none⟩ (.slice none 0 0)).setCell ⟨w.heap.size, 3, none⟩ (.int .i64 0)).setCell ⟨w.heap.size, 4, none⟩ (.int .i64 0)).setCell ⟨w.heap.size, 5, none⟩ (.int .i64 0))) := below_write B1.out (Nat.le_refl _) Fr.zero
      have i1 : decide ((k : Int) < (k : Int)) = false := by simp
      go_wp2
      generalize ((((((wr.setCell ⟨w.heap.size, 0, none⟩ (.int .u32 0)).setCell ⟨w.heap.size, 1, none⟩ (.int .i64 0)).setCell ⟨w.heap.size, 2, none⟩ (.slice none 0 0)).setCell ⟨w.heap.size, 3, none⟩ (.int .i64 0)).setCell ⟨w.heap.size, 4, none⟩ (.int .i64 0)).setCell ⟨w.heap.size, 5, none⟩ (.int .i64 0)) = wz at *
      obtain ⟨p0, p1, p2, p3, p4, p5, -⟩ := HW.out
      simp only [Fr.zero] at p0 p1 p2 p3 p4 p5
      refine bodyPost_ret (v := .tuple #[.agg #[.int .u32 0, .int .i64 0, .slice none 0 0, .int .i64 0, .int .i64 0, .int .i64 0], .bool false]) ?_ rfl ⟨rfl, HB.out⟩
      simp [results, Try.results19, go_sem, p0, p1, p2, p3, p4, p5]
/-- What Find answers, by place. -/
def FoundIs (w : World) (m : Nat) (K : Nat → Fr) (x : Nat) (e : Ending) (w' : World) : Prop :=
  Below w.heap.size w w' ∧ ∃ (g : Fr) (b : Bool), e = .returned (.tuple #[g.val, .bool b]) ∧ ((b = true ∧ ∃ s, plc K m x = some s ∧ g = K s) ∨ (b = false ∧ plc K m x = none ∧ g = Fr.zero))
theorem rfound_any (a : Option Addr) (m c : Nat) (K : Nat → Fr) (x : Nat) (w : World) (hm : m ≤ 1000) (hr : Rise K m) (HK : Hid (FrsAt w a m K)) :
    Calls Try.prog 19 #[.slice a m c, .int .u32 (x : Int)] w (FoundIs w m K x) := by
  cases e : plc K m x with
  | none =>
    refine (rfind_zero a m c K (x : Int) w hm HK (fun j hj h => plc_none m e j hj (by omega))).mono ?_
    rintro e' w' ⟨h1, h2⟩
    exact ⟨h2, Fr.zero, false, h1, .inr ⟨rfl, e, rfl⟩⟩
  | some s =>
    obtain ⟨s1, s2⟩ := plc_some m e
    refine (rfind_any a m c K (x : Int) w hm HK).mono ?_
    rintro e' w' ⟨h1, g, b, h2, h3⟩
    refine ⟨h1, g, b, h2, .inl ?_⟩
    rcases h3 with ⟨rfl, j, j1, j2, j3, -⟩ | ⟨-, h3⟩
    · have : j = s := hr.eq j1 s1 (by omega)
      exact ⟨rfl, s, e, by rw [j3, this]⟩
    · exact absurd (by omega) (h3 s s1)

set_option maxRecDepth 100000 in
set_option maxHeartbeats 400000 in
theorem told_any (a : Option Addr) (m c : Nat) (K : Nat → Fr) (g : Nat → Bool) (b k x : Nat) (w : World) (hm : m ≤ 1000) (HI : Hid (∀ q, q < m → (K q).id < 4294967296)) (HK : Hid (FrsAt w a m K)) (HM : Hid (MarkAt w b k g)) :
    Calls Try.prog 20 #[.slice a m c, .map (some b), .int .u32 (x : Int)] w (ToldIs w m K (fun q => g (K q).id = true ∧ (K q).id ≠ x)) := by
  go_enter Try.func20, Try.ntmps20
  go_wp2_with fail
  go_loopw [7, 8] (fun l i wr => ∃ (t : Nat) (la : Option Addr) (ln lc : Nat), l = .slice la ln lc ∧ i = .int .i64 t ∧ t ≤ m ∧ Hid (Below w.heap.size w wr) ∧ Hid (Told wr w.heap.size (.slice la ln lc) (picked (fun q => g (K q).id && decide ((K q).id ≠ x)) t) K)) (fun _ i _ => m - (intOf i).toNat)
  case atStart => exact ⟨0, none, 0, 0, rfl, rfl, Nat.zero_le _, Below.refl _ _, Told.nil _ _ _⟩
  case round =>
    obtain ⟨t, la, ln, lc, rfl, rfl, ht, hb, htd⟩ := hrel
    by_cases htm : t < m
    · have i2 : (t : Int) < (m : Int) := by omega
      obtain ⟨fb, fo, rfl⟩ := HK.out.addr (by omega)
      obtain ⟨q0, q1, q2, q3, q4, q5⟩ := (HK.out.grew hb.out).at t htm
      have l1 := (HM.out.below hb.out (Nat.le_refl _)).look (HI.out t htm)
      clear q1 q2 q3 q4 q5
      cases eg : g (K t).id with
      | false =>
        rw [eg] at l1
        have e : (fun q => g (K q).id && decide ((K q).id ≠ x)) t = false := by simp [eg]
        have HT : Hid (Told wr w.heap.size (.slice la ln lc) (picked (fun q => g (K q).id && decide ((K q).id ≠ x)) (t + 1)) K) := by rw [picked_no e]; exact htd
        clear e eg htd
        go_wp2_with fail
        go_roundw
        case rel => exact ⟨t + 1, la, ln, lc, rfl, by go_num, by omega, hb, HT⟩
        case measure => simp [intOf]; omega
      | true =>
        rw [eg] at l1
        by_cases hx : (K t).id = x
        · have e : (fun q => g (K q).id && decide ((K q).id ≠ x)) t = false := by simp [hx]
          have HT : Hid (Told wr w.heap.size (.slice la ln lc) (picked (fun q => g (K q).id && decide ((K q).id ≠ x)) (t + 1)) K) := by rw [picked_no e]; exact htd
          have j1 : (((K t).id : Int) != (x : Int)) = false := by simp [hx]
          clear e eg htd hx
          generalize (K t).id = y at *
          go_wp2_with fail
          go_roundw
          case rel => exact ⟨t + 1, la, ln, lc, rfl, by go_num, by omega, hb, HT⟩
          case measure => simp [intOf]; omega
        · have e : (fun q => g (K q).id && decide ((K q).id ≠ x)) t = true := by simp [eg, hx]
          have j1 : (((K t).id : Int) != (x : Int)) = true := by simp; omega
          obtain ⟨x', ho, hxs⟩ := htd.out
          have hlen := picked_le (fun q => g (K q).id && decide ((K q).id ≠ x)) t
          obtain ⟨z1, ez1⟩ : ∃ y, wr.alloc (.cells #[.int .u32 ((K t).id : Int)] 23) = y := ⟨_, rfl⟩
          have Bz : Below wr.heap.size wr z1 := ez1 ▸ box_below wr _
          have Nz : NumsAt .u32 z1 (some ⟨wr.heap.size, 0, none⟩) 1 (fun _ => ((K t).id : Int)) := ez1 ▸ (fun _ => ⟨_, 0, rfl, fun i hi => by
            obtain rfl : i = 0 := by omega
            rw [World.cell?_alloc_at _ _ _ _ rfl]; rfl⟩)
          have O1 := ho.grew Bz
          obtain ⟨v', z2, happ, O2, gr⟩ := O1.push (c := 1) 29 Nz (by decide) (by omega) (by have := Bz.size; have := hb.out.size; omega)
          have HT : Hid (Told z2 w.heap.size v' (picked (fun q => g (K q).id && decide ((K q).id ≠ x)) (t + 1)) K) := by rw [picked_yes e]; exact Told.push hxs O2
          have HB2 : Hid (Below w.heap.size w z2) := (hb.out.trans (Bz.mono hb.out.size)).trans (O1.grown gr (by have := Bz.size; have := hb.out.size; omega))
          obtain ⟨la', lc', rfl, -⟩ := O2.any
          obtain ⟨ln', en⟩ : ∃ q : Nat, q = (picked (fun q => g (K q).id && decide ((K q).id ≠ x)) t).length + 1 := ⟨_, rfl⟩
          rw [← en] at happ HT
          clear e en eg hx htd ho hxs hlen Bz Nz O1 O2 gr hb
          generalize (K t).id = y at *
          go_wp2_with (at_builtin; refine Go.Lib.wpList_append_run _ rfl (.tmp 31) (.tmp 37) 29 29 rfl _ _ rfl rfl _ _ happ ?_)
          go_roundw
          case rel => exact ⟨t + 1, la', ln', lc', rfl, by go_num, by omega, HB2, HT⟩
          case measure => simp [intOf]; omega
    · obtain rfl : t = m := by omega
      have i2 : decide ((t : Int) < (t : Int)) = false := by simp
      have HF : Hid (ToldIs w t K (fun q => g (K q).id = true ∧ (K q).id ≠ x) (.returned (.slice la ln lc)) wr) :=
        ⟨hb.out, .slice la ln lc, _, rfl, fun q _ => by simp, htd.out⟩
      clear hb htd
      go_wp2
      go_ret
      exact HF.out
end Go.Proofs.Ytclbcggbnbimaaa
