/-
  Frames out of numbers: the next one, behind others.
-/
import Derived.Test.YtclbcggbnbimaaaFna
namespace Go.Proofs.Ytclbcggbnbimaaa
open Go.RowKit Go.Deep

set_option maxRecDepth 100000 in
set_option maxHeartbeats 4000000 in
theorem next_some (D P p0 lo : Nat) (b o m c : Nat) (K : Nat → Fr) (t : Nat) (w : World) (h : Picks D w P p0) (hD : D ≤ w.heap.size) (ht : t ≤ 1000) (h0 : 0 < m) (hm : m ≤ 1000) (hb : b ≠ P) (hL : (K (m - 1)).id ≤ 1000) (Hlo : Hid (lo = (K (m - 1)).id)) (S : Int → Prop) (HSK : Hid (∀ q, q < m → S ((K q).id : Int))) (HK : Hid (FrsAt w (some ⟨b, o, none⟩) m K)) :
    Calls Try.prog 15 #[.pointer (some ⟨P, 0, none⟩), .slice (some ⟨b, o, none⟩) m c, .int .i64 (t : Int), .int .i64 4] w (NextIs D P lo S w) := by
  have i0 : (0 : Int) < (m : Int) := by omega
  have hmx := max_i64
  have B0 := box_below w (.cells #[.int .u32 0, .int .i64 0, .slice none 0 0, .int .i64 0, .int .i64 0, .int .i64 0] 31)
  have C0 : Hid (Chose D P w (w.alloc (.cells #[.int .u32 0, .int .i64 0, .slice none 0 0, .int .i64 0, .int .i64 0, .int .i64 0] 31))) := ⟨Kept.of_below B0, p0, h.grew B0⟩
  have R0 : Hid (FrAt (w.alloc (.cells #[.int .u32 0, .int .i64 0, .slice none 0 0, .int .i64 0, .int .i64 0, .int .i64 0] 31)) w.heap.size Fr.zero) := FrAt.made w _ Fr.zero
  have lP : P < w.heap.size := h.lt.1
  have sz : Hid (w.heap.size < (w.alloc (.cells #[.int .u32 0, .int .i64 0, .slice none 0 0, .int .i64 0, .int .i64 0, .int .i64 0] 31)).heap.size) := by show w.heap.size < _; simp
  clear B0 h
  go_enter Try.func15, Try.ntmps15
  go_wp2_with fail
  generalize w.alloc (.cells #[.int .u32 0, .int .i64 0, .slice none 0 0, .int .i64 0, .int .i64 0, .int .i64 0] 31) = x0 at *
  obtain ⟨q, hq⟩ := C0.out.picks
  refine (num_pk D P q 3 _ hq (by decide) (by decide)).mono ?_
  rintro e x1 ⟨c1, v1, rfl, hv1⟩
  have C0 : Hid (Chose D P w x1) := C0.out.trans c1
  have R0 : Hid (FrAt x1 w.heap.size Fr.zero) := R0.out.block (c1.kept.block _ R0.out.lt (by omega))
  have sz : Hid (w.heap.size < x1.heap.size) := Nat.lt_of_lt_of_le sz.out c1.kept.size
  clear c1 hq
  go_wp2_with fail
  obtain ⟨q, hq⟩ := C0.out.picks
  refine (num_pk D P q 3 _ hq (by decide) (by decide)).mono ?_
  rintro e x2 ⟨c1, v2, rfl, hv2⟩
  have C0 : Hid (Chose D P w x2) := C0.out.trans c1
  have R0 : Hid (FrAt x2 w.heap.size Fr.zero) := R0.out.block (c1.kept.block _ R0.out.lt (by omega))
  have sz : Hid (w.heap.size < x2.heap.size) := Nat.lt_of_lt_of_le sz.out c1.kept.size
  clear c1 hq
  go_wp2_with fail
  obtain ⟨q, hq⟩ := C0.out.picks
  refine (num_pk D P q 4 _ hq (by decide) (by decide)).mono ?_
  rintro e x3 ⟨c1, v3, rfl, hv3⟩
  have C0 : Hid (Chose D P w x3) := C0.out.trans c1
  have R0 : Hid (FrAt x3 w.heap.size Fr.zero) := R0.out.block (c1.kept.block _ R0.out.lt (by omega))
  have sz : Hid (w.heap.size < x3.heap.size) := Nat.lt_of_lt_of_le sz.out c1.kept.size
  clear c1 hq
  go_wp2_with fail
  obtain ⟨q, hq⟩ := C0.out.picks
  refine (num_pk D P q 8 _ hq (by decide) (by decide)).mono ?_
  rintro e x4 ⟨c1, v4, rfl, hv4⟩
  have C0 : Hid (Chose D P w x4) := C0.out.trans c1
  have R0 : Hid (FrAt x4 w.heap.size Fr.zero) := R0.out.block (c1.kept.block _ R0.out.lt (by omega))
  have sz : Hid (w.heap.size < x4.heap.size) := Nat.lt_of_lt_of_le sz.out c1.kept.size
  clear c1 hq
  obtain ⟨pp, ep⟩ : ∃ x, (t : Int) + (v3 : Int) = x := ⟨_, rfl⟩
  obtain ⟨dd, ed⟩ : ∃ x, (t : Int) + (2 + (v4 : Int)) = x := ⟨_, rfl⟩
  obtain ⟨y0, e0⟩ : ∃ x, x4.alloc (.cells #[.int .u32 (1 + (v1 : Int)), .int .i64 (1 + (v2 : Int)), .slice none 0 0, .int .i64 0, .int .i64 pp, .int .i64 dd] 31) = x := ⟨_, rfl⟩
  have B0 : Below x4.heap.size x4 y0 := e0 ▸ box_below x4 _
  have F0 : FrAt y0 x4.heap.size ⟨1 + v1, 1 + (v2 : Int), none, 0, 0, 0, pp, dd⟩ := e0 ▸ FrAt.made x4 _ ⟨1 + v1, 1 + (v2 : Int), none, 0, 0, 0, pp, dd⟩
  have N0 : Nx D P w y0 x4.heap.size ⟨1 + v1, 1 + (v2 : Int), none, 0, 0, 0, pp, dd⟩ (fun _ => 0) := ⟨C0.out.grew B0, R0.out.grew B0, F0, Uor.nil _ _ _, sz.out, lP, hD⟩
  have lN := sz.out
  obtain ⟨y1, e1⟩ : ∃ x, y0.alloc (.cells #[.int .u32 ((K (m - 1)).id : Int), .int .i64 (K (m - 1)).k, .slice (K (m - 1)).a (K (m - 1)).n (K (m - 1)).c, .int .i64 (K (m - 1)).s, .int .i64 (K (m - 1)).p, .int .i64 (K (m - 1)).d] 31) = x := ⟨_, rfl⟩
  obtain ⟨ii, ei⟩ : ∃ x : Nat, x = (K (m - 1)).id + (1 + v1) := ⟨_, rfl⟩
  have ei' : ((K (m - 1)).id : Int) + (1 + (v1 : Int)) = (ii : Int) := by omega
  obtain ⟨y2, e2⟩ : ∃ x, y1.setCell ⟨x4.heap.size, 0, none⟩ (.int .u32 (ii : Int)) = x := ⟨_, rfl⟩
  have B1 : Below y0.heap.size y0 y1 := e1 ▸ box_below y0 _
  have K0 := (HK.out.kept (C0.out.kept) hb).grew B0
  have N1 := N0.grew B1
  have L1 : FrAt y1 y0.heap.size (K (m - 1)) := e1 ▸ FrAt.made y0 _ (K (m - 1))
  have lN2 := N0.fr.lt
  have N2 : Nx D P w y2 x4.heap.size ⟨ii, 1 + (v2 : Int), none, 0, 0, 0, pp, dd⟩ (fun _ => 0) := e2 ▸ N1.store (N1.fr.setId ii) rfl
  have L2 : FrAt y2 y0.heap.size (K (m - 1)) := e2 ▸ L1.other _ (by omega)
  have N3 : Nx D P w ((y2.setCell ⟨x4.heap.size, 4, none⟩ (.int .i64 (max pp (K (m - 1)).p))).setCell ⟨x4.heap.size, 5, none⟩ (.int .i64 (max dd (K (m - 1)).d))).drew x4.heap.size ⟨ii, 1 + (v2 : Int), none, 0, 0, 0, max pp (K (m - 1)).p, max dd (K (m - 1)).d⟩ (fun _ => 0) :=
    have q := N2.store (N2.fr.setP (max pp (K (m - 1)).p)) rfl
    (q.store (q.fr.setD (max dd (K (m - 1)).d)) rfl).grew (Below.refl _ _).drew
  have HN3 : Hid (Nx D P w ((y2.setCell ⟨x4.heap.size, 4, none⟩ (.int .i64 (max pp (K (m - 1)).p))).setCell ⟨x4.heap.size, 5, none⟩ (.int .i64 (max dd (K (m - 1)).d))).drew x4.heap.size ⟨ii, 1 + (v2 : Int), none, 0, 0, 0, max pp (K (m - 1)).p, max dd (K (m - 1)).d⟩ (fun _ => 0)) := N3
  have Hii : Hid (lo < ii ∧ ii ≤ lo + 3) := by
    show lo < ii ∧ ii ≤ lo + 3
    have := Hlo.out
    omega
  obtain ⟨k0, k1, k2, k3, k4, k5⟩ := K0.at (m - 1) (by omega)
  obtain ⟨f0, f1, f2, f3, f4, f5, fz⟩ := N1.fr
  obtain ⟨l0, l1, l2, l3, l4, l5, -⟩ := L1
  have f0 : y1.cell? ⟨x4.heap.size, 0, none⟩ = some (.int .u32 (1 + (v1 : Int))) := f0
  have fz0 := fz 0
  obtain ⟨g0, g1, g2, g3, g4, g5, gz⟩ := N2.fr
  have gz4 := gz 4
  have gz5 := gz 5
  obtain ⟨n0, n1, n2, n3, n4, n5, -⟩ := L2
  simp only at g0 g1 g2 g3 g4 g5 f1 f2 f3 f4 f5
  clear fz gz N0 N1 N2 N3 K0 B1 B0 ei lN2
  go_wp2_with fail
  go_region
  generalize ((y2.setCell ⟨x4.heap.size, 4, none⟩ (.int .i64 (max pp (K (m - 1)).p))).setCell ⟨x4.heap.size, 5, none⟩ (.int .i64 (max dd (K (m - 1)).d))).drew = y3 at *
  clear e0 e1 e2 ei' ep ed k0 k1 k2 k3 k4 k5 f0 f1 f2 f3 f4 f5 fz0 l0 l1 l2 l3 l4 l5 g0 g1 g2 g3 g4 g5 gz4 gz5 n0 n1 n2 n3 n4 n5 C0 R0 sz lN F0
  generalize x4.heap.size = N at *
  obtain ⟨id, k, p, d, hid, hkk, HN⟩ : ∃ (id : Nat) (k p d : Int), (lo < id ∧ id ≤ lo + 3) ∧ Hid (KindOk k) ∧ Hid (Nx D P w y3 N ⟨id, k, none, 0, 0, 0, p, d⟩ (fun _ => 0)) := ⟨_, _, _, _, Hii.out, kind_pick v2 (by omega), HN3⟩
  clear HN3 Hii
  obtain ⟨f0, f1, f2, f3, f4, f5, fz⟩ := HN.out.fr
  have fz5 := fz 5
  simp only at f0 f1 f2 f3 f4 f5
  obtain ⟨y4, e4⟩ : ∃ x, y3.setCell ⟨N, 5, none⟩ (.int .i64 (max d p)) = x := ⟨_, rfl⟩
  have HN4 : Hid (Nx D P w y4 N ⟨id, k, none, 0, 0, 0, p, max d p⟩ (fun _ => 0)) := e4 ▸ HN.out.store (HN.out.fr.setD (max d p)) rfl
  clear fz HN
  go_wp2_with fail
  clear e4 f0 f1 f2 f3 f4 f5 fz5
  generalize max d p = d at *
  obtain ⟨q, hq⟩ := HN4.out.ch.picks
  refine (num_pk D P q 3 _ hq (by decide) (by decide)).mono ?_
  rintro e y5 ⟨c1, v5, rfl, hv5⟩
  have HN4 : Hid (Nx D P w y5 N ⟨id, k, none, 0, 0, 0, p, d⟩ (fun _ => 0)) := HN4.out.num c1
  clear c1 hq
  have HN : Hid (Nx D P w y5 N ⟨id, k, none, 0, 0, 0, p, d⟩ (fun _ => 0)) := HN4
  clear HN4
  obtain ⟨qm, em⟩ : ∃ q : Nat, q = min m 4 := ⟨_, rfl⟩
  have qm0 : 0 < qm := by omega
  have qm1 : qm ≤ m := by omega
  have hmn : ∀ (ts : Array TypeId) (t : TypeId) (w : World), (Builtin.min_ ts t #[.int .i64 (m : Int), .int .i64 4]).run Try.prog w = .ok (.int .i64 (qm : Int)) w := fun ts t w => min_i64 ts t _ _ _ w (by omega)
  clear em hmx
  go_wp2_with fail
  go_loopw [12] (fun i wr => ∃ (j : Int) (f : Fr) (r : Nat → Int), i = .int .i64 j ∧ -1 ≤ j ∧ j ≤ 2 ∧ (f.n : Int) + (j + 1) ≤ 3 ∧ f.id = id ∧ Hid (KindOk f.k) ∧ Hid (Nx D P w wr N f r) ∧ Hid (∀ q, q < f.n → S (r q))) (fun i _ => (intOf i + 1).toNat)
  case atStart => exact ⟨(v5 : Int), ⟨id, k, none, 0, 0, 0, p, d⟩, fun _ => 0, rfl, by omega, by omega, by show ((0 : Nat) : Int) + _ ≤ 3; omega, rfl, hkk, HN, fun q hq => absurd hq (Nat.not_lt_zero q)⟩
  case round =>
    clear HN hkk
    obtain ⟨j, f, r, rfl, j1, j2, j3, hfi, hkk, HT, HS⟩ := hrel
    obtain ⟨f0, f1, f2, f3, f4, f5, fz⟩ := HT.out.fr
    by_cases hk : f.k = 1
    · have a1 : (f.k != 1) = false := by simp [hk]
      generalize wr = y5 at *
      have hn3 : f.n ≤ 3 := by omega
      have hid : lo < f.id ∧ f.id ≤ lo + 3 := by rw [hfi]; exact hid
      clear hk hfi fz j3
      go_wp2_with fail
      clear a1 j1 j2
      obtain ⟨q, hq⟩ := HT.out.ch.picks
      refine (num_pk D P q 20 _ hq (by decide) (by decide)).mono ?_
      rintro e y6 ⟨c1, v6, rfl, hv6⟩
      have HT : Hid (Nx D P w y6 N f r) := HT.out.num c1
      clear c1 hq f0 f1 f2 f3 f4 f5
      obtain ⟨f0, f1, f2, f3, f4, f5, fz⟩ := HT.out.fr
      have fz3 := fz 3
      obtain ⟨s, hs⟩ : ∃ s : Nat, (1 + (v6 : Int)) = (s : Int) := ⟨1 + v6, by omega⟩
      have s20 : s ≤ 20 := by omega
      obtain ⟨y7, e7⟩ : ∃ x, y6.setCell ⟨N, 3, none⟩ (.int .i64 (s : Int)) = x := ⟨_, rfl⟩
      have HT7 : Hid (Nx D P w y7 N { f with s := (s : Int) } r) := e7 ▸ HT.out.store (HT.out.fr.setS (s : Int)) rfl
      obtain ⟨g0, g1, g2, g3, g4, g5, -⟩ := HT7.out.fr
      simp only at g0 g1 g2 g3 g4 g5
      clear fz HT
      go_wp2_with fail
      clear e7 f0 f1 f2 f3 f4 f5 fz3 g0 g1 g2 g3 g4 g5
      obtain ⟨q, hq⟩ := HT7.out.ch.picks
      refine (body_any D P q s _ hq (Nat.le_trans hD (HT7.out.ch.kept.size)) (by omega)).mono ?_
      rintro e y8 ⟨c1, bv, bxs, rfl, bo⟩
      have BO : Hid (y8.ownsRow y7.heap.size 5 1 bv s bxs) := bo
      have HT : Hid (Nx D P w y8 N { f with s := (s : Int) } r) := HT7.out.num c1
      have HO : Hid (∀ g, (Value.slice ({ f with s := (s : Int) } : Fr).a ({ f with s := (s : Int) } : Fr).n ({ f with s := (s : Int) } : Fr).c).ownBlock = some g → bv.ownBlock ≠ some g) := fun g e e2 => by
        have q1 := (World.ownsRow.lt HT7.out.own g e).2
        have q2 := (bo.lt g e2).1
        omega
      have sz7 : Hid (N < y7.heap.size ∧ y7.heap.size ≤ y8.heap.size) := ⟨HT7.out.fr.lt, c1.kept.size⟩
      have hn3 : ({ f with s := (s : Int) } : Fr).n ≤ 3 := hn3
      have hid : lo < ({ f with s := (s : Int) } : Fr).id ∧ ({ f with s := (s : Int) } : Fr).id ≤ lo + 3 := hid
      have hkk : Hid (KindOk ({ f with s := (s : Int) } : Fr).k) := hkk
      have HS : Hid (∀ q, q < ({ f with s := (s : Int) } : Fr).n → S (r q)) := HS
      clear c1 hq HT7 bo hs hv6
      generalize ({ f with s := (s : Int) } : Fr) = f at *
      go_wp2_with fail
      obtain ⟨q, hq⟩ := HT.out.ch.picks
      refine (num_pk D P q 25 _ hq (by decide) (by decide)).mono ?_
      rintro e y9 ⟨c1, v7, rfl, hv7⟩
      have HT : Hid (Nx D P w y9 N f r) := HT.out.num c1
      have BO : Hid (y9.ownsRow (N + 1) 5 1 bv s bxs) := by
        have b := BO.out
        refine World.ownsRow.kept (row := some P) (base := N + 1) ?_ ⟨c1.kept.os, c1.kept.tape, c1.kept.output, c1.kept.size, fun k hk hne => c1.kept.block k hk (fun e => hne (by rw [e]))⟩ ?_
        · refine ⟨b.1, ?_⟩
          rcases b.2 with b2 | ⟨g, cap, cur, e, hg, b3⟩
          · exact .inl b2
          · exact .inr ⟨g, cap, cur, e, by have := sz7.out.1; omega, b3⟩
        · cases e : bv.ownBlock with
          | none => exact .inl rfl
          | some g =>
            have := (b.lt g e).1
            refine .inr fun e2 => ?_
            cases e2
            have := HT.out.lP
            have := HT.out.lt
            have := sz7.out.1
            omega
      clear c1 hq sz7
      obtain ⟨f0, f1, f2, f3, f4, f5, fz⟩ := HT.out.fr
      obtain ⟨r0, r1, r2, r3, r4, r5, rz⟩ := HT.out.res
      simp only [Fr.zero] at r0 r1 r2 r3 r4 r5
      by_cases h0 : v7 = 0
      · have e0 : ((v7 : Int) == 0) = true := by simp [h0]
        obtain ⟨z1, ez1⟩ : ∃ x, y9.alloc (.cells #[.int .u32 (f.id : Int)] 23) = x := ⟨_, rfl⟩
        have Bz : Below y9.heap.size y9 z1 := ez1 ▸ box_below y9 _
        have Nz : NumsAt .u32 z1 (some ⟨y9.heap.size, 0, none⟩) 1 (fun _ => (f.id : Int)) := ez1 ▸ (fun _ => ⟨_, 0, rfl, fun i hi => by
          obtain rfl : i = 0 := by omega
          rw [World.cell?_alloc_at _ _ _ _ rfl]; rfl⟩)
        have HZ := HT.out.grew Bz
        obtain ⟨v', z2, happ, ho, hgr⟩ := Uor.push (c := 1) 29 HZ.own Nz (by decide) (by omega) (by have := HZ.fr.lt; omega)
        have hbz := HZ.own.grown hgr (by have := HZ.fr.lt; omega)
        obtain ⟨a', c', rfl, -, -, -⟩ := ho.any
        obtain ⟨z3, ez3⟩ : ∃ x, z2.setCell ⟨N, 2, none⟩ (.slice a' (f.n + 1) c') = x := ⟨_, rfl⟩
        have fr2 := HZ.fr.block (hbz.block N (Nat.lt_succ_self _))
        have c2 := fr2.c2
        have z2z := fr2.frz 2
        obtain ⟨g, hg⟩ : ∃ g : Fr, g = { f with a := a', n := f.n + 1, c := c' } := ⟨_, rfl⟩
        have HF : Hid (Nx D P w z3 N g (fun i => if i < f.n then r i else (f.id : Int))) := by rw [hg]; exact ez3 ▸ HZ.append hbz ho
        have hg4 : g.n ≤ 4 := by rw [hg]; simp only; omega
        have hgi : g.id = 0 ∨ (lo < g.id ∧ g.id ≤ lo + 3) := by rw [hg]; exact .inr hid
        have hgk : Hid (KindOk g.k) := by rw [hg]; exact hkk
        have hgs : Hid (∀ q, q < g.n → S ((fun i => if i < f.n then r i else (f.id : Int)) q) ∨ (fun i => if i < f.n then r i else (f.id : Int)) q = (g.id : Int)) := by rw [hg]; exact refs_own (f.id : Int) HS
        clear hg Bz Nz HZ hbz ho hgr fr2 h0
        obtain ⟨g0, g1, g2, g3, g4, g5, -⟩ := HF.out.fr
        obtain ⟨u0, u1, u2, u3, u4, u5, uz⟩ := HF.out.res
        simp only [Fr.zero] at u0 u1 u2 u3 u4 u5
        have uz0 := uz 0
        have uz1 := uz 1
        have uz2 := uz 2
        have uz3 := uz 3
        have uz4 := uz 4
        have uz5 := uz 5
        have HD : Hid (∀ v, NextIs D P lo S w (.returned (.tuple #[.agg #[.int .u32 (g.id : Int), .int .i64 g.k, .slice g.a g.n g.c, .int .i64 g.s, .int .i64 g.p, .int .i64 g.d], v])) ((((((z3.setCell ⟨w.heap.size, 0, none⟩ (.int .u32 (g.id : Int))).setCell ⟨w.heap.size, 1, none⟩ (.int .i64 g.k)).setCell ⟨w.heap.size, 2, none⟩ (.slice g.a g.n g.c)).setCell ⟨w.heap.size, 3, none⟩ (.int .i64 g.s)).setCell ⟨w.heap.size, 4, none⟩ (.int .i64 g.p)).setCell ⟨w.heap.size, 5, none⟩ (.int .i64 g.d))) := fun v => HF.out.done hg4 hgi hgk.out hgs.out rfl
        have HW : Hid (FrAt ((((((z3.setCell ⟨w.heap.size, 0, none⟩ (.int .u32 (g.id : Int))).setCell ⟨w.heap.size, 1, none⟩ (.int .i64 g.k)).setCell ⟨w.heap.size, 2, none⟩ (.slice g.a g.n g.c)).setCell ⟨w.heap.size, 3, none⟩ (.int .i64 g.s)).setCell ⟨w.heap.size, 4, none⟩ (.int .i64 g.p)).setCell ⟨w.heap.size, 5, none⟩ (.int .i64 g.d)) w.heap.size g) := HF.out.res.write g
        clear uz HF HT BO hg4 hgi hgk hgs HS hkk hid hn3
        go_wp2_with (at_builtin; refine Go.Lib.wpList_append_run _ rfl (.tmp 140) (.tmp 143) 29 29 rfl _ _ rfl rfl _ _ happ ?_)
        generalize ((((((z3.setCell ⟨w.heap.size, 0, none⟩ (.int .u32 (g.id : Int))).setCell ⟨w.heap.size, 1, none⟩ (.int .i64 g.k)).setCell ⟨w.heap.size, 2, none⟩ (.slice g.a g.n g.c)).setCell ⟨w.heap.size, 3, none⟩ (.int .i64 g.s)).setCell ⟨w.heap.size, 4, none⟩ (.int .i64 g.p)).setCell ⟨w.heap.size, 5, none⟩ (.int .i64 g.d)) = yz at *
        obtain ⟨p0, p1, p2, p3, p4, p5, -⟩ := HW.out
        refine bodyPost_ret (v := .tuple #[.agg #[.int .u32 (g.id : Int), .int .i64 g.k, .slice g.a g.n g.c, .int .i64 g.s, .int .i64 g.p, .int .i64 g.d], bv]) ?_ rfl (HD.out _)
        simp [results, Try.results15, go_sem, p0, p1, p2, p3, p4, p5]
      have e0 : ((v7 : Int) == 0) = false := by simp; omega
      by_cases h1 : v7 = 1
      · have e1 : ((v7 : Int) == 1) = true := by simp [h1]
        obtain ⟨z3, ez3⟩ : ∃ x, y9.setCell ⟨N, 5, none⟩ (.int .i64 (t : Int)) = x := ⟨_, rfl⟩
        have fz5 := fz 5
        obtain ⟨g, hg⟩ : ∃ g : Fr, g = { f with d := (t : Int) } := ⟨_, rfl⟩
        have HF : Hid (Nx D P w z3 N g r) := by rw [hg]; exact ez3 ▸ HT.out.store (HT.out.fr.setD (t : Int)) rfl
        have hg4 : g.n ≤ 4 := by rw [hg]; simp only; omega
        have hgi : g.id = 0 ∨ (lo < g.id ∧ g.id ≤ lo + 3) := by rw [hg]; exact .inr hid
        have hgk : Hid (KindOk g.k) := by rw [hg]; exact hkk
        have hgs : Hid (∀ q, q < g.n → S (r q) ∨ r q = (g.id : Int)) := by rw [hg]; exact refs_old _ HS
        clear hg h0 h1 fz
        obtain ⟨g0, g1, g2, g3, g4, g5, -⟩ := HF.out.fr
        obtain ⟨u0, u1, u2, u3, u4, u5, uz⟩ := HF.out.res
        simp only [Fr.zero] at u0 u1 u2 u3 u4 u5
        have uz0 := uz 0
        have uz1 := uz 1
        have uz2 := uz 2
        have uz3 := uz 3
        have uz4 := uz 4
        have uz5 := uz 5
        have HD : Hid (∀ v, NextIs D P lo S w (.returned (.tuple #[.agg #[.int .u32 (g.id : Int), .int .i64 g.k, .slice g.a g.n g.c, .int .i64 g.s, .int .i64 g.p, .int .i64 g.d], v])) ((((((z3.setCell ⟨w.heap.size, 0, none⟩ (.int .u32 (g.id : Int))).setCell ⟨w.heap.size, 1, none⟩ (.int .i64 g.k)).setCell ⟨w.heap.size, 2, none⟩ (.slice g.a g.n g.c)).setCell ⟨w.heap.size, 3, none⟩ (.int .i64 g.s)).setCell ⟨w.heap.size, 4, none⟩ (.int .i64 g.p)).setCell ⟨w.heap.size, 5, none⟩ (.int .i64 g.d))) := fun v => HF.out.done hg4 hgi hgk.out hgs.out rfl
        have HW : Hid (FrAt ((((((z3.setCell ⟨w.heap.size, 0, none⟩ (.int .u32 (g.id : Int))).setCell ⟨w.heap.size, 1, none⟩ (.int .i64 g.k)).setCell ⟨w.heap.size, 2, none⟩ (.slice g.a g.n g.c)).setCell ⟨w.heap.size, 3, none⟩ (.int .i64 g.s)).setCell ⟨w.heap.size, 4, none⟩ (.int .i64 g.p)).setCell ⟨w.heap.size, 5, none⟩ (.int .i64 g.d)) w.heap.size g) := HF.out.res.write g
        clear uz HF HT BO hg4 hgi hgk hgs HS hkk hid hn3
        go_wp2
        generalize ((((((z3.setCell ⟨w.heap.size, 0, none⟩ (.int .u32 (g.id : Int))).setCell ⟨w.heap.size, 1, none⟩ (.int .i64 g.k)).setCell ⟨w.heap.size, 2, none⟩ (.slice g.a g.n g.c)).setCell ⟨w.heap.size, 3, none⟩ (.int .i64 g.s)).setCell ⟨w.heap.size, 4, none⟩ (.int .i64 g.p)).setCell ⟨w.heap.size, 5, none⟩ (.int .i64 g.d)) = yz at *
        obtain ⟨p0, p1, p2, p3, p4, p5, -⟩ := HW.out
        refine bodyPost_ret (v := .tuple #[.agg #[.int .u32 (g.id : Int), .int .i64 g.k, .slice g.a g.n g.c, .int .i64 g.s, .int .i64 g.p, .int .i64 g.d], bv]) ?_ rfl (HD.out _)
        simp [results, Try.results15, go_sem, p0, p1, p2, p3, p4, p5]
      have e1 : ((v7 : Int) == 1) = false := by simp; omega
      by_cases h2 : v7 = 2
      · have e2 : ((v7 : Int) == 2) = true := by simp [h2]
        obtain ⟨z1, ez1⟩ : ∃ x, y9.alloc (.cells #[.int .u8 1] 5) = x := ⟨_, rfl⟩
        have Bz : Below y9.heap.size y9 z1 := ez1 ▸ box_below y9 _
        have HZ := HT.out.grew Bz
        obtain ⟨i0, hi, hz0, hz1, hz2⟩ := info_parts Try.infoByte
        have BZ : z1.ownsRow (N + 1) 5 1 bv s bxs := by
          refine World.ownsRow.kept (row := none) BO.out ⟨Bz.os, Bz.tape, Bz.output, Bz.size, fun k hk _ => Bz.block k hk⟩ ?_
          cases e : bv.ownBlock with
          | none => exact .inl rfl
          | some g => exact .inr (by simp)
        obtain ⟨v', z3, happ, ho, hgr, -, -⟩ := run_append_own_at (P := Try.prog) z1 (N + 1) 22 22 5 i0 (.int .u8 0) 1 1 Try.underlying22 hi hz0 hz1 hz2 rfl (by decide) bv s bxs BZ ⟨y9.heap.size, 0, none⟩ 1 1 [.int .u8 1] rfl
          (fun j u hj => by
            cases j with
            | zero => cases hj; rw [← ez1]; show (y9.alloc _).cell? ⟨y9.heap.size, 0, none⟩ = _; rw [World.cell?_alloc_at _ _ _ _ rfl]; rfl
            | succ j => simp at hj) (by intro u hu; simp at hu; subst hu; rfl) (by unfold maxLen; omega) (by omega) (by have := HZ.fr.lt; omega)
        have hbz : Below (N + 1) z1 z3 := ⟨hgr.os, hgr.tape, hgr.output, hgr.size, fun k hk => hgr.block k (by have := HZ.fr.lt; omega) (fun e => by have := (BZ.lt k e.symm).1; omega)⟩
        have HF0 : Nx D P w z3 N f r := by
          have hl := HZ.lt
          obtain ⟨pp, hpp⟩ := HZ.ch.picks
          refine ⟨⟨⟨hbz.os.trans HZ.ch.kept.os, hbz.tape.trans HZ.ch.kept.tape, hbz.output.trans HZ.ch.kept.output, Nat.le_trans HZ.ch.kept.size hbz.size, fun k hk hR => (hbz.block k (by omega)).trans (HZ.ch.kept.block k hk hR)⟩, pp, hpp.below (hbz.mono (by have := HZ.lD; omega))⟩, HZ.res.block (hbz.block _ (by omega)), HZ.fr.block (hbz.block _ (Nat.lt_succ_self _)), ?_, hl, HZ.lP, HZ.lD⟩
          have u : z1.ownsRow (N + 1) 23 1 (.slice f.a f.n f.c) f.n (ucells r f.n) := HZ.own
          refine World.ownsRow.kept (row := bv.ownBlock) u hgr ?_
          cases e : (Value.slice f.a f.n f.c).ownBlock with
          | none => exact .inl rfl
          | some g => exact .inr (fun e2 => HO.out g e e2.symm)
        obtain ⟨g, hg⟩ : ∃ g : Fr, g = f := ⟨_, rfl⟩
        have HF : Hid (Nx D P w z3 N g r) := by rw [hg]; exact HF0
        have hg4 : g.n ≤ 4 := by rw [hg]; omega
        have hgi : g.id = 0 ∨ (lo < g.id ∧ g.id ≤ lo + 3) := by rw [hg]; exact .inr hid
        have hgk : Hid (KindOk g.k) := by rw [hg]; exact hkk
        have hgs : Hid (∀ q, q < g.n → S (r q) ∨ r q = (g.id : Int)) := by rw [hg]; exact refs_old _ HS
        clear hg h0 h1 h2 Bz HZ BZ ho hgr hbz HF0 hi hz0 hz1 hz2 fz
        obtain ⟨g0, g1, g2, g3, g4, g5, -⟩ := HF.out.fr
        obtain ⟨u0, u1, u2, u3, u4, u5, uz⟩ := HF.out.res
        simp only [Fr.zero] at u0 u1 u2 u3 u4 u5
        have uz0 := uz 0
        have uz1 := uz 1
        have uz2 := uz 2
        have uz3 := uz 3
        have uz4 := uz 4
        have uz5 := uz 5
        have HD : Hid (∀ v, NextIs D P lo S w (.returned (.tuple #[.agg #[.int .u32 (g.id : Int), .int .i64 g.k, .slice g.a g.n g.c, .int .i64 g.s, .int .i64 g.p, .int .i64 g.d], v])) ((((((z3.setCell ⟨w.heap.size, 0, none⟩ (.int .u32 (g.id : Int))).setCell ⟨w.heap.size, 1, none⟩ (.int .i64 g.k)).setCell ⟨w.heap.size, 2, none⟩ (.slice g.a g.n g.c)).setCell ⟨w.heap.size, 3, none⟩ (.int .i64 g.s)).setCell ⟨w.heap.size, 4, none⟩ (.int .i64 g.p)).setCell ⟨w.heap.size, 5, none⟩ (.int .i64 g.d))) := fun v => HF.out.done hg4 hgi hgk.out hgs.out rfl
        have HW : Hid (FrAt ((((((z3.setCell ⟨w.heap.size, 0, none⟩ (.int .u32 (g.id : Int))).setCell ⟨w.heap.size, 1, none⟩ (.int .i64 g.k)).setCell ⟨w.heap.size, 2, none⟩ (.slice g.a g.n g.c)).setCell ⟨w.heap.size, 3, none⟩ (.int .i64 g.s)).setCell ⟨w.heap.size, 4, none⟩ (.int .i64 g.p)).setCell ⟨w.heap.size, 5, none⟩ (.int .i64 g.d)) w.heap.size g) := HF.out.res.write g
        clear uz HF HT BO hg4 hgi hgk hgs HS hkk hid hn3
        go_wp2_with (at_builtin; refine Go.Lib.wpList_append_run _ rfl (.tmp 152) (.tmp 153) 22 22 rfl _ _ rfl rfl _ _ happ ?_)
        generalize ((((((z3.setCell ⟨w.heap.size, 0, none⟩ (.int .u32 (g.id : Int))).setCell ⟨w.heap.size, 1, none⟩ (.int .i64 g.k)).setCell ⟨w.heap.size, 2, none⟩ (.slice g.a g.n g.c)).setCell ⟨w.heap.size, 3, none⟩ (.int .i64 g.s)).setCell ⟨w.heap.size, 4, none⟩ (.int .i64 g.p)).setCell ⟨w.heap.size, 5, none⟩ (.int .i64 g.d)) = yz at *
        obtain ⟨p0, p1, p2, p3, p4, p5, -⟩ := HW.out
        refine bodyPost_ret (v := .tuple #[.agg #[.int .u32 (g.id : Int), .int .i64 g.k, .slice g.a g.n g.c, .int .i64 g.s, .int .i64 g.p, .int .i64 g.d], v']) ?_ rfl (HD.out _)
        simp [results, Try.results15, go_sem, p0, p1, p2, p3, p4, p5]
      have e2 : ((v7 : Int) == 2) = false := by simp; omega
      by_cases h3 : v7 = 3
      · have e3 : ((v7 : Int) == 3) = true := by simp [h3]
        obtain ⟨z3, ez3⟩ : ∃ x, y9.setCell ⟨N, 0, none⟩ (.int .u32 0) = x := ⟨_, rfl⟩
        have fz0 := fz 0
        obtain ⟨g, hg⟩ : ∃ g : Fr, g = { f with id := 0 } := ⟨_, rfl⟩
        have HF : Hid (Nx D P w z3 N g r) := by rw [hg]; exact ez3 ▸ HT.out.store (HT.out.fr.setId 0) rfl
        have hg4 : g.n ≤ 4 := by rw [hg]; simp only; omega
        have hgi : g.id = 0 ∨ (lo < g.id ∧ g.id ≤ lo + 3) := by rw [hg]; exact .inl rfl
        have hgk : Hid (KindOk g.k) := by rw [hg]; exact hkk
        have hgs : Hid (∀ q, q < g.n → S (r q) ∨ r q = (g.id : Int)) := by rw [hg]; exact refs_old _ HS
        clear hg h0 h1 h2 h3 fz
        obtain ⟨g0, g1, g2, g3, g4, g5, -⟩ := HF.out.fr
        obtain ⟨u0, u1, u2, u3, u4, u5, uz⟩ := HF.out.res
        simp only [Fr.zero] at u0 u1 u2 u3 u4 u5
        have uz0 := uz 0
        have uz1 := uz 1
        have uz2 := uz 2
        have uz3 := uz 3
        have uz4 := uz 4
        have uz5 := uz 5
        have HD : Hid (∀ v, NextIs D P lo S w (.returned (.tuple #[.agg #[.int .u32 (g.id : Int), .int .i64 g.k, .slice g.a g.n g.c, .int .i64 g.s, .int .i64 g.p, .int .i64 g.d], v])) ((((((z3.setCell ⟨w.heap.size, 0, none⟩ (.int .u32 (g.id : Int))).setCell ⟨w.heap.size, 1, none⟩ (.int .i64 g.k)).setCell ⟨w.heap.size, 2, none⟩ (.slice g.a g.n g.c)).setCell ⟨w.heap.size, 3, none⟩ (.int .i64 g.s)).setCell ⟨w.heap.size, 4, none⟩ (.int .i64 g.p)).setCell ⟨w.heap.size, 5, none⟩ (.int .i64 g.d))) := fun v => HF.out.done hg4 hgi hgk.out hgs.out rfl
        have HW : Hid (FrAt ((((((z3.setCell ⟨w.heap.size, 0, none⟩ (.int .u32 (g.id : Int))).setCell ⟨w.heap.size, 1, none⟩ (.int .i64 g.k)).setCell ⟨w.heap.size, 2, none⟩ (.slice g.a g.n g.c)).setCell ⟨w.heap.size, 3, none⟩ (.int .i64 g.s)).setCell ⟨w.heap.size, 4, none⟩ (.int .i64 g.p)).setCell ⟨w.heap.size, 5, none⟩ (.int .i64 g.d)) w.heap.size g) := HF.out.res.write g
        clear uz HF HT BO hg4 hgi hgk hgs HS hkk hid hn3
        go_wp2
        generalize ((((((z3.setCell ⟨w.heap.size, 0, none⟩ (.int .u32 (g.id : Int))).setCell ⟨w.heap.size, 1, none⟩ (.int .i64 g.k)).setCell ⟨w.heap.size, 2, none⟩ (.slice g.a g.n g.c)).setCell ⟨w.heap.size, 3, none⟩ (.int .i64 g.s)).setCell ⟨w.heap.size, 4, none⟩ (.int .i64 g.p)).setCell ⟨w.heap.size, 5, none⟩ (.int .i64 g.d)) = yz at *
        obtain ⟨p0, p1, p2, p3, p4, p5, -⟩ := HW.out
        refine bodyPost_ret (v := .tuple #[.agg #[.int .u32 (g.id : Int), .int .i64 g.k, .slice g.a g.n g.c, .int .i64 g.s, .int .i64 g.p, .int .i64 g.d], bv]) ?_ rfl (HD.out _)
        simp [results, Try.results15, go_sem, p0, p1, p2, p3, p4, p5]
      · have e3 : ((v7 : Int) == 3) = false := by simp; omega
        obtain ⟨g, hg⟩ : ∃ g : Fr, g = f := ⟨_, rfl⟩
        have HF : Hid (Nx D P w y9 N g r) := by rw [hg]; exact HT.out
        have hg4 : g.n ≤ 4 := by rw [hg]; omega
        have hgi : g.id = 0 ∨ (lo < g.id ∧ g.id ≤ lo + 3) := by rw [hg]; exact .inr hid
        have hgk : Hid (KindOk g.k) := by rw [hg]; exact hkk
        have hgs : Hid (∀ q, q < g.n → S (r q) ∨ r q = (g.id : Int)) := by rw [hg]; exact refs_old _ HS
        subst hg
        clear h0 h1 h2 h3 fz f0 f1 f2 f3 f4 f5 r0 r1 r2 r3 r4 r5 rz
        obtain ⟨g0, g1, g2, g3, g4, g5, -⟩ := HF.out.fr
        obtain ⟨u0, u1, u2, u3, u4, u5, uz⟩ := HF.out.res
        simp only [Fr.zero] at u0 u1 u2 u3 u4 u5
        have uz0 := uz 0
        have uz1 := uz 1
        have uz2 := uz 2
        have uz3 := uz 3
        have uz4 := uz 4
        have uz5 := uz 5
        have HD : Hid (∀ v, NextIs D P lo S w (.returned (.tuple #[.agg #[.int .u32 (g.id : Int), .int .i64 g.k, .slice g.a g.n g.c, .int .i64 g.s, .int .i64 g.p, .int .i64 g.d], v])) ((((((y9.setCell ⟨w.heap.size, 0, none⟩ (.int .u32 (g.id : Int))).setCell ⟨w.heap.size, 1, none⟩ (.int .i64 g.k)).setCell ⟨w.heap.size, 2, none⟩ (.slice g.a g.n g.c)).setCell ⟨w.heap.size, 3, none⟩ (.int .i64 g.s)).setCell ⟨w.heap.size, 4, none⟩ (.int .i64 g.p)).setCell ⟨w.heap.size, 5, none⟩ (.int .i64 g.d))) := fun v => HF.out.done hg4 hgi hgk.out hgs.out rfl
        have HW : Hid (FrAt ((((((y9.setCell ⟨w.heap.size, 0, none⟩ (.int .u32 (g.id : Int))).setCell ⟨w.heap.size, 1, none⟩ (.int .i64 g.k)).setCell ⟨w.heap.size, 2, none⟩ (.slice g.a g.n g.c)).setCell ⟨w.heap.size, 3, none⟩ (.int .i64 g.s)).setCell ⟨w.heap.size, 4, none⟩ (.int .i64 g.p)).setCell ⟨w.heap.size, 5, none⟩ (.int .i64 g.d)) w.heap.size g) := HF.out.res.write g
        clear uz HF BO hg4 hgi hgk hgs HS hkk hid hn3
        go_wp2
        generalize ((((((y9.setCell ⟨w.heap.size, 0, none⟩ (.int .u32 (g.id : Int))).setCell ⟨w.heap.size, 1, none⟩ (.int .i64 g.k)).setCell ⟨w.heap.size, 2, none⟩ (.slice g.a g.n g.c)).setCell ⟨w.heap.size, 3, none⟩ (.int .i64 g.s)).setCell ⟨w.heap.size, 4, none⟩ (.int .i64 g.p)).setCell ⟨w.heap.size, 5, none⟩ (.int .i64 g.d)) = yz at *
        obtain ⟨p0, p1, p2, p3, p4, p5, -⟩ := HW.out
        refine bodyPost_ret (v := .tuple #[.agg #[.int .u32 (g.id : Int), .int .i64 g.k, .slice g.a g.n g.c, .int .i64 g.s, .int .i64 g.p, .int .i64 g.d], bv]) ?_ rfl (HD.out _)
        simp [results, Try.results15, go_sem, p0, p1, p2, p3, p4, p5]
    have a1 : (f.k != 1) = true := by simpa using hk
    by_cases hj : 0 ≤ j
    case neg =>
      have a2 : decide (0 ≤ j) = false := by simp; omega
      generalize wr = y5 at *
      have hn3 : f.n ≤ 3 := by omega
      have hid : lo < f.id ∧ f.id ≤ lo + 3 := by rw [hfi]; exact hid
      clear hk hfi fz j3
      go_wp2_with fail
      clear a1 a2 j1 j2 hj
      obtain ⟨q, hq⟩ := HT.out.ch.picks
      refine (num_pk D P q 20 _ hq (by decide) (by decide)).mono ?_
      rintro e y6 ⟨c1, v6, rfl, hv6⟩
      have HT : Hid (Nx D P w y6 N f r) := HT.out.num c1
      clear c1 hq f0 f1 f2 f3 f4 f5
      obtain ⟨f0, f1, f2, f3, f4, f5, fz⟩ := HT.out.fr
      have fz3 := fz 3
      obtain ⟨s, hs⟩ : ∃ s : Nat, (1 + (v6 : Int)) = (s : Int) := ⟨1 + v6, by omega⟩
      have s20 : s ≤ 20 := by omega
      obtain ⟨y7, e7⟩ : ∃ x, y6.setCell ⟨N, 3, none⟩ (.int .i64 (s : Int)) = x := ⟨_, rfl⟩
      have HT7 : Hid (Nx D P w y7 N { f with s := (s : Int) } r) := e7 ▸ HT.out.store (HT.out.fr.setS (s : Int)) rfl
      obtain ⟨g0, g1, g2, g3, g4, g5, -⟩ := HT7.out.fr
      simp only at g0 g1 g2 g3 g4 g5
      clear fz HT
      go_wp2_with fail
      clear e7 f0 f1 f2 f3 f4 f5 fz3 g0 g1 g2 g3 g4 g5
      obtain ⟨q, hq⟩ := HT7.out.ch.picks
      refine (body_any D P q s _ hq (Nat.le_trans hD (HT7.out.ch.kept.size)) (by omega)).mono ?_
      rintro e y8 ⟨c1, bv, bxs, rfl, bo⟩
      have BO : Hid (y8.ownsRow y7.heap.size 5 1 bv s bxs) := bo
      have HT : Hid (Nx D P w y8 N { f with s := (s : Int) } r) := HT7.out.num c1
      have HO : Hid (∀ g, (Value.slice ({ f with s := (s : Int) } : Fr).a ({ f with s := (s : Int) } : Fr).n ({ f with s := (s : Int) } : Fr).c).ownBlock = some g → bv.ownBlock ≠ some g) := fun g e e2 => by
        have q1 := (World.ownsRow.lt HT7.out.own g e).2
        have q2 := (bo.lt g e2).1
        omega
      have sz7 : Hid (N < y7.heap.size ∧ y7.heap.size ≤ y8.heap.size) := ⟨HT7.out.fr.lt, c1.kept.size⟩
      have hn3 : ({ f with s := (s : Int) } : Fr).n ≤ 3 := hn3
      have hid : lo < ({ f with s := (s : Int) } : Fr).id ∧ ({ f with s := (s : Int) } : Fr).id ≤ lo + 3 := hid
      have hkk : Hid (KindOk ({ f with s := (s : Int) } : Fr).k) := hkk
      have HS : Hid (∀ q, q < ({ f with s := (s : Int) } : Fr).n → S (r q)) := HS
      clear c1 hq HT7 bo hs hv6
      generalize ({ f with s := (s : Int) } : Fr) = f at *
      go_wp2_with fail
      obtain ⟨q, hq⟩ := HT.out.ch.picks
      refine (num_pk D P q 25 _ hq (by decide) (by decide)).mono ?_
      rintro e y9 ⟨c1, v7, rfl, hv7⟩
      have HT : Hid (Nx D P w y9 N f r) := HT.out.num c1
      have BO : Hid (y9.ownsRow (N + 1) 5 1 bv s bxs) := by
        have b := BO.out
        refine World.ownsRow.kept (row := some P) (base := N + 1) ?_ ⟨c1.kept.os, c1.kept.tape, c1.kept.output, c1.kept.size, fun k hk hne => c1.kept.block k hk (fun e => hne (by rw [e]))⟩ ?_
        · refine ⟨b.1, ?_⟩
          rcases b.2 with b2 | ⟨g, cap, cur, e, hg, b3⟩
          · exact .inl b2
          · exact .inr ⟨g, cap, cur, e, by have := sz7.out.1; omega, b3⟩
        · cases e : bv.ownBlock with
          | none => exact .inl rfl
          | some g =>
            have := (b.lt g e).1
            refine .inr fun e2 => ?_
            cases e2
            have := HT.out.lP
            have := HT.out.lt
            have := sz7.out.1
            omega
      clear c1 hq sz7
      obtain ⟨f0, f1, f2, f3, f4, f5, fz⟩ := HT.out.fr
      obtain ⟨r0, r1, r2, r3, r4, r5, rz⟩ := HT.out.res
      simp only [Fr.zero] at r0 r1 r2 r3 r4 r5
      by_cases h0 : v7 = 0
      · have e0 : ((v7 : Int) == 0) = true := by simp [h0]
        obtain ⟨z1, ez1⟩ : ∃ x, y9.alloc (.cells #[.int .u32 (f.id : Int)] 23) = x := ⟨_, rfl⟩
        have Bz : Below y9.heap.size y9 z1 := ez1 ▸ box_below y9 _
        have Nz : NumsAt .u32 z1 (some ⟨y9.heap.size, 0, none⟩) 1 (fun _ => (f.id : Int)) := ez1 ▸ (fun _ => ⟨_, 0, rfl, fun i hi => by
          obtain rfl : i = 0 := by omega
          rw [World.cell?_alloc_at _ _ _ _ rfl]; rfl⟩)
        have HZ := HT.out.grew Bz
        obtain ⟨v', z2, happ, ho, hgr⟩ := Uor.push (c := 1) 29 HZ.own Nz (by decide) (by omega) (by have := HZ.fr.lt; omega)
        have hbz := HZ.own.grown hgr (by have := HZ.fr.lt; omega)
        obtain ⟨a', c', rfl, -, -, -⟩ := ho.any
        obtain ⟨z3, ez3⟩ : ∃ x, z2.setCell ⟨N, 2, none⟩ (.slice a' (f.n + 1) c') = x := ⟨_, rfl⟩
        have fr2 := HZ.fr.block (hbz.block N (Nat.lt_succ_self _))
        have c2 := fr2.c2
        have z2z := fr2.frz 2
        obtain ⟨g, hg⟩ : ∃ g : Fr, g = { f with a := a', n := f.n + 1, c := c' } := ⟨_, rfl⟩
        have HF : Hid (Nx D P w z3 N g (fun i => if i < f.n then r i else (f.id : Int))) := by rw [hg]; exact ez3 ▸ HZ.append hbz ho
        have hg4 : g.n ≤ 4 := by rw [hg]; simp only; omega
        have hgi : g.id = 0 ∨ (lo < g.id ∧ g.id ≤ lo + 3) := by rw [hg]; exact .inr hid
        have hgk : Hid (KindOk g.k) := by rw [hg]; exact hkk
        have hgs : Hid (∀ q, q < g.n → S ((fun i => if i < f.n then r i else (f.id : Int)) q) ∨ (fun i => if i < f.n then r i else (f.id : Int)) q = (g.id : Int)) := by rw [hg]; exact refs_own (f.id : Int) HS
        clear hg Bz Nz HZ hbz ho hgr fr2 h0
        obtain ⟨g0, g1, g2, g3, g4, g5, -⟩ := HF.out.fr
        obtain ⟨u0, u1, u2, u3, u4, u5, uz⟩ := HF.out.res
        simp only [Fr.zero] at u0 u1 u2 u3 u4 u5
        have uz0 := uz 0
        have uz1 := uz 1
        have uz2 := uz 2
        have uz3 := uz 3
        have uz4 := uz 4
        have uz5 := uz 5
        have HD : Hid (∀ v, NextIs D P lo S w (.returned (.tuple #[.agg #[.int .u32 (g.id : Int), .int .i64 g.k, .slice g.a g.n g.c, .int .i64 g.s, .int .i64 g.p, .int .i64 g.d], v])) ((((((z3.setCell ⟨w.heap.size, 0, none⟩ (.int .u32 (g.id : Int))).setCell ⟨w.heap.size, 1, none⟩ (.int .i64 g.k)).setCell ⟨w.heap.size, 2, none⟩ (.slice g.a g.n g.c)).setCell ⟨w.heap.size, 3, none⟩ (.int .i64 g.s)).setCell ⟨w.heap.size, 4, none⟩ (.int .i64 g.p)).setCell ⟨w.heap.size, 5, none⟩ (.int .i64 g.d))) := fun v => HF.out.done hg4 hgi hgk.out hgs.out rfl
        have HW : Hid (FrAt ((((((z3.setCell ⟨w.heap.size, 0, none⟩ (.int .u32 (g.id : Int))).setCell ⟨w.heap.size, 1, none⟩ (.int .i64 g.k)).setCell ⟨w.heap.size, 2, none⟩ (.slice g.a g.n g.c)).setCell ⟨w.heap.size, 3, none⟩ (.int .i64 g.s)).setCell ⟨w.heap.size, 4, none⟩ (.int .i64 g.p)).setCell ⟨w.heap.size, 5, none⟩ (.int .i64 g.d)) w.heap.size g) := HF.out.res.write g
        clear uz HF HT BO hg4 hgi hgk hgs HS hkk hid hn3
        go_wp2_with (at_builtin; refine Go.Lib.wpList_append_run _ rfl (.tmp 140) (.tmp 143) 29 29 rfl _ _ rfl rfl _ _ happ ?_)
        generalize ((((((z3.setCell ⟨w.heap.size, 0, none⟩ (.int .u32 (g.id : Int))).setCell ⟨w.heap.size, 1, none⟩ (.int .i64 g.k)).setCell ⟨w.heap.size, 2, none⟩ (.slice g.a g.n g.c)).setCell ⟨w.heap.size, 3, none⟩ (.int .i64 g.s)).setCell ⟨w.heap.size, 4, none⟩ (.int .i64 g.p)).setCell ⟨w.heap.size, 5, none⟩ (.int .i64 g.d)) = yz at *
        obtain ⟨p0, p1, p2, p3, p4, p5, -⟩ := HW.out
        refine bodyPost_ret (v := .tuple #[.agg #[.int .u32 (g.id : Int), .int .i64 g.k, .slice g.a g.n g.c, .int .i64 g.s, .int .i64 g.p, .int .i64 g.d], bv]) ?_ rfl (HD.out _)
        simp [results, Try.results15, go_sem, p0, p1, p2, p3, p4, p5]
      have e0 : ((v7 : Int) == 0) = false := by simp; omega
      by_cases h1 : v7 = 1
      · have e1 : ((v7 : Int) == 1) = true := by simp [h1]
        obtain ⟨z3, ez3⟩ : ∃ x, y9.setCell ⟨N, 5, none⟩ (.int .i64 (t : Int)) = x := ⟨_, rfl⟩
        have fz5 := fz 5
        obtain ⟨g, hg⟩ : ∃ g : Fr, g = { f with d := (t : Int) } := ⟨_, rfl⟩
        have HF : Hid (Nx D P w z3 N g r) := by rw [hg]; exact ez3 ▸ HT.out.store (HT.out.fr.setD (t : Int)) rfl
        have hg4 : g.n ≤ 4 := by rw [hg]; simp only; omega
        have hgi : g.id = 0 ∨ (lo < g.id ∧ g.id ≤ lo + 3) := by rw [hg]; exact .inr hid
        have hgk : Hid (KindOk g.k) := by rw [hg]; exact hkk
        have hgs : Hid (∀ q, q < g.n → S (r q) ∨ r q = (g.id : Int)) := by rw [hg]; exact refs_old _ HS
        clear hg h0 h1 fz
        obtain ⟨g0, g1, g2, g3, g4, g5, -⟩ := HF.out.fr
        obtain ⟨u0, u1, u2, u3, u4, u5, uz⟩ := HF.out.res
        simp only [Fr.zero] at u0 u1 u2 u3 u4 u5
        have uz0 := uz 0
        have uz1 := uz 1
        have uz2 := uz 2
        have uz3 := uz 3
        have uz4 := uz 4
        have uz5 := uz 5
        have HD : Hid (∀ v, NextIs D P lo S w (.returned (.tuple #[.agg #[.int .u32 (g.id : Int), .int .i64 g.k, .slice g.a g.n g.c, .int .i64 g.s, .int .i64 g.p, .int .i64 g.d], v])) ((((((z3.setCell ⟨w.heap.size, 0, none⟩ (.int .u32 (g.id : Int))).setCell ⟨w.heap.size, 1, none⟩ (.int .i64 g.k)).setCell ⟨w.heap.size, 2, none⟩ (.slice g.a g.n g.c)).setCell ⟨w.heap.size, 3, none⟩ (.int .i64 g.s)).setCell ⟨w.heap.size, 4, none⟩ (.int .i64 g.p)).setCell ⟨w.heap.size, 5, none⟩ (.int .i64 g.d))) := fun v => HF.out.done hg4 hgi hgk.out hgs.out rfl
        have HW : Hid (FrAt ((((((z3.setCell ⟨w.heap.size, 0, none⟩ (.int .u32 (g.id : Int))).setCell ⟨w.heap.size, 1, none⟩ (.int .i64 g.k)).setCell ⟨w.heap.size, 2, none⟩ (.slice g.a g.n g.c)).setCell ⟨w.heap.size, 3, none⟩ (.int .i64 g.s)).setCell ⟨w.heap.size, 4, none⟩ (.int .i64 g.p)).setCell ⟨w.heap.size, 5, none⟩ (.int .i64 g.d)) w.heap.size g) := HF.out.res.write g
        clear uz HF HT BO hg4 hgi hgk hgs HS hkk hid hn3
        go_wp2
        generalize ((((((z3.setCell ⟨w.heap.size, 0, none⟩ (.int .u32 (g.id : Int))).setCell ⟨w.heap.size, 1, none⟩ (.int .i64 g.k)).setCell ⟨w.heap.size, 2, none⟩ (.slice g.a g.n g.c)).setCell ⟨w.heap.size, 3, none⟩ (.int .i64 g.s)).setCell ⟨w.heap.size, 4, none⟩ (.int .i64 g.p)).setCell ⟨w.heap.size, 5, none⟩ (.int .i64 g.d)) = yz at *
        obtain ⟨p0, p1, p2, p3, p4, p5, -⟩ := HW.out
        refine bodyPost_ret (v := .tuple #[.agg #[.int .u32 (g.id : Int), .int .i64 g.k, .slice g.a g.n g.c, .int .i64 g.s, .int .i64 g.p, .int .i64 g.d], bv]) ?_ rfl (HD.out _)
        simp [results, Try.results15, go_sem, p0, p1, p2, p3, p4, p5]
      have e1 : ((v7 : Int) == 1) = false := by simp; omega
      by_cases h2 : v7 = 2
      · have e2 : ((v7 : Int) == 2) = true := by simp [h2]
        obtain ⟨z1, ez1⟩ : ∃ x, y9.alloc (.cells #[.int .u8 1] 5) = x := ⟨_, rfl⟩
        have Bz : Below y9.heap.size y9 z1 := ez1 ▸ box_below y9 _
        have HZ := HT.out.grew Bz
        obtain ⟨i0, hi, hz0, hz1, hz2⟩ := info_parts Try.infoByte
        have BZ : z1.ownsRow (N + 1) 5 1 bv s bxs := by
          refine World.ownsRow.kept (row := none) BO.out ⟨Bz.os, Bz.tape, Bz.output, Bz.size, fun k hk _ => Bz.block k hk⟩ ?_
          cases e : bv.ownBlock with
          | none => exact .inl rfl
          | some g => exact .inr (by simp)
        obtain ⟨v', z3, happ, ho, hgr, -, -⟩ := run_append_own_at (P := Try.prog) z1 (N + 1) 22 22 5 i0 (.int .u8 0) 1 1 Try.underlying22 hi hz0 hz1 hz2 rfl (by decide) bv s bxs BZ ⟨y9.heap.size, 0, none⟩ 1 1 [.int .u8 1] rfl
          (fun j u hj => by
            cases j with
            | zero => cases hj; rw [← ez1]; show (y9.alloc _).cell? ⟨y9.heap.size, 0, none⟩ = _; rw [World.cell?_alloc_at _ _ _ _ rfl]; rfl
            | succ j => simp at hj) (by intro u hu; simp at hu; subst hu; rfl) (by unfold maxLen; omega) (by omega) (by have := HZ.fr.lt; omega)
        have hbz : Below (N + 1) z1 z3 := ⟨hgr.os, hgr.tape, hgr.output, hgr.size, fun k hk => hgr.block k (by have := HZ.fr.lt; omega) (fun e => by have := (BZ.lt k e.symm).1; omega)⟩
        have HF0 : Nx D P w z3 N f r := by
          have hl := HZ.lt
          obtain ⟨pp, hpp⟩ := HZ.ch.picks
          refine ⟨⟨⟨hbz.os.trans HZ.ch.kept.os, hbz.tape.trans HZ.ch.kept.tape, hbz.output.trans HZ.ch.kept.output, Nat.le_trans HZ.ch.kept.size hbz.size, fun k hk hR => (hbz.block k (by omega)).trans (HZ.ch.kept.block k hk hR)⟩, pp, hpp.below (hbz.mono (by have := HZ.lD; omega))⟩, HZ.res.block (hbz.block _ (by omega)), HZ.fr.block (hbz.block _ (Nat.lt_succ_self _)), ?_, hl, HZ.lP, HZ.lD⟩
          have u : z1.ownsRow (N + 1) 23 1 (.slice f.a f.n f.c) f.n (ucells r f.n) := HZ.own
          refine World.ownsRow.kept (row := bv.ownBlock) u hgr ?_
          cases e : (Value.slice f.a f.n f.c).ownBlock with
          | none => exact .inl rfl
          | some g => exact .inr (fun e2 => HO.out g e e2.symm)
        obtain ⟨g, hg⟩ : ∃ g : Fr, g = f := ⟨_, rfl⟩
        have HF : Hid (Nx D P w z3 N g r) := by rw [hg]; exact HF0
        have hg4 : g.n ≤ 4 := by rw [hg]; omega
        have hgi : g.id = 0 ∨ (lo < g.id ∧ g.id ≤ lo + 3) := by rw [hg]; exact .inr hid
        have hgk : Hid (KindOk g.k) := by rw [hg]; exact hkk
        have hgs : Hid (∀ q, q < g.n → S (r q) ∨ r q = (g.id : Int)) := by rw [hg]; exact refs_old _ HS
        clear hg h0 h1 h2 Bz HZ BZ ho hgr hbz HF0 hi hz0 hz1 hz2 fz
        obtain ⟨g0, g1, g2, g3, g4, g5, -⟩ := HF.out.fr
        obtain ⟨u0, u1, u2, u3, u4, u5, uz⟩ := HF.out.res
        simp only [Fr.zero] at u0 u1 u2 u3 u4 u5
        have uz0 := uz 0
        have uz1 := uz 1
        have uz2 := uz 2
        have uz3 := uz 3
        have uz4 := uz 4
        have uz5 := uz 5
        have HD : Hid (∀ v, NextIs D P lo S w (.returned (.tuple #[.agg #[.int .u32 (g.id : Int), .int .i64 g.k, .slice g.a g.n g.c, .int .i64 g.s, .int .i64 g.p, .int .i64 g.d], v])) ((((((z3.setCell ⟨w.heap.size, 0, none⟩ (.int .u32 (g.id : Int))).setCell ⟨w.heap.size, 1, none⟩ (.int .i64 g.k)).setCell ⟨w.heap.size, 2, none⟩ (.slice g.a g.n g.c)).setCell ⟨w.heap.size, 3, none⟩ (.int .i64 g.s)).setCell ⟨w.heap.size, 4, none⟩ (.int .i64 g.p)).setCell ⟨w.heap.size, 5, none⟩ (.int .i64 g.d))) := fun v => HF.out.done hg4 hgi hgk.out hgs.out rfl
        have HW : Hid (FrAt ((((((z3.setCell ⟨w.heap.size, 0, none⟩ (.int .u32 (g.id : Int))).setCell ⟨w.heap.size, 1, none⟩ (.int .i64 g.k)).setCell ⟨w.heap.size, 2, none⟩ (.slice g.a g.n g.c)).setCell ⟨w.heap.size, 3, none⟩ (.int .i64 g.s)).setCell ⟨w.heap.size, 4, none⟩ (.int .i64 g.p)).setCell ⟨w.heap.size, 5, none⟩ (.int .i64 g.d)) w.heap.size g) := HF.out.res.write g
        clear uz HF HT BO hg4 hgi hgk hgs HS hkk hid hn3
        go_wp2_with (at_builtin; refine Go.Lib.wpList_append_run _ rfl (.tmp 152) (.tmp 153) 22 22 rfl _ _ rfl rfl _ _ happ ?_)
        generalize ((((((z3.setCell ⟨w.heap.size, 0, none⟩ (.int .u32 (g.id : Int))).setCell ⟨w.heap.size, 1, none⟩ (.int .i64 g.k)).setCell ⟨w.heap.size, 2, none⟩ (.slice g.a g.n g.c)).setCell ⟨w.heap.size, 3, none⟩ (.int .i64 g.s)).setCell ⟨w.heap.size, 4, none⟩ (.int .i64 g.p)).setCell ⟨w.heap.size, 5, none⟩ (.int .i64 g.d)) = yz at *
        obtain ⟨p0, p1, p2, p3, p4, p5, -⟩ := HW.out
        refine bodyPost_ret (v := .tuple #[.agg #[.int .u32 (g.id : Int), .int .i64 g.k, .slice g.a g.n g.c, .int .i64 g.s, .int .i64 g.p, .int .i64 g.d], v']) ?_ rfl (HD.out _)
        simp [results, Try.results15, go_sem, p0, p1, p2, p3, p4, p5]
      have e2 : ((v7 : Int) == 2) = false := by simp; omega
      by_cases h3 : v7 = 3
      · have e3 : ((v7 : Int) == 3) = true := by simp [h3]
        obtain ⟨z3, ez3⟩ : ∃ x, y9.setCell ⟨N, 0, none⟩ (.int .u32 0) = x := ⟨_, rfl⟩
        have fz0 := fz 0
        obtain ⟨g, hg⟩ : ∃ g : Fr, g = { f with id := 0 } := ⟨_, rfl⟩
        have HF : Hid (Nx D P w z3 N g r) := by rw [hg]; exact ez3 ▸ HT.out.store (HT.out.fr.setId 0) rfl
        have hg4 : g.n ≤ 4 := by rw [hg]; simp only; omega
        have hgi : g.id = 0 ∨ (lo < g.id ∧ g.id ≤ lo + 3) := by rw [hg]; exact .inl rfl
        have hgk : Hid (KindOk g.k) := by rw [hg]; exact hkk
        have hgs : Hid (∀ q, q < g.n → S (r q) ∨ r q = (g.id : Int)) := by rw [hg]; exact refs_old _ HS
        clear hg h0 h1 h2 h3 fz
        obtain ⟨g0, g1, g2, g3, g4, g5, -⟩ := HF.out.fr
        obtain ⟨u0, u1, u2, u3, u4, u5, uz⟩ := HF.out.res
        simp only [Fr.zero] at u0 u1 u2 u3 u4 u5
        have uz0 := uz 0
        have uz1 := uz 1
        have uz2 := uz 2
        have uz3 := uz 3
        have uz4 := uz 4
        have uz5 := uz 5
        have HD : Hid (∀ v, NextIs D P lo S w (.returned (.tuple #[.agg #[.int .u32 (g.id : Int), .int .i64 g.k, .slice g.a g.n g.c, .int .i64 g.s, .int .i64 g.p, .int .i64 g.d], v])) ((((((z3.setCell ⟨w.heap.size, 0, none⟩ (.int .u32 (g.id : Int))).setCell ⟨w.heap.size, 1, none⟩ (.int .i64 g.k)).setCell ⟨w.heap.size, 2, none⟩ (.slice g.a g.n g.c)).setCell ⟨w.heap.size, 3, none⟩ (.int .i64 g.s)).setCell ⟨w.heap.size, 4, none⟩ (.int .i64 g.p)).setCell ⟨w.heap.size, 5, none⟩ (.int .i64 g.d))) := fun v => HF.out.done hg4 hgi hgk.out hgs.out rfl
        have HW : Hid (FrAt ((((((z3.setCell ⟨w.heap.size, 0, none⟩ (.int .u32 (g.id : Int))).setCell ⟨w.heap.size, 1, none⟩ (.int .i64 g.k)).setCell ⟨w.heap.size, 2, none⟩ (.slice g.a g.n g.c)).setCell ⟨w.heap.size, 3, none⟩ (.int .i64 g.s)).setCell ⟨w.heap.size, 4, none⟩ (.int .i64 g.p)).setCell ⟨w.heap.size, 5, none⟩ (.int .i64 g.d)) w.heap.size g) := HF.out.res.write g
        clear uz HF HT BO hg4 hgi hgk hgs HS hkk hid hn3
        go_wp2
        generalize ((((((z3.setCell ⟨w.heap.size, 0, none⟩ (.int .u32 (g.id : Int))).setCell ⟨w.heap.size, 1, none⟩ (.int .i64 g.k)).setCell ⟨w.heap.size, 2, none⟩ (.slice g.a g.n g.c)).setCell ⟨w.heap.size, 3, none⟩ (.int .i64 g.s)).setCell ⟨w.heap.size, 4, none⟩ (.int .i64 g.p)).setCell ⟨w.heap.size, 5, none⟩ (.int .i64 g.d)) = yz at *
        obtain ⟨p0, p1, p2, p3, p4, p5, -⟩ := HW.out
        refine bodyPost_ret (v := .tuple #[.agg #[.int .u32 (g.id : Int), .int .i64 g.k, .slice g.a g.n g.c, .int .i64 g.s, .int .i64 g.p, .int .i64 g.d], bv]) ?_ rfl (HD.out _)
        simp [results, Try.results15, go_sem, p0, p1, p2, p3, p4, p5]
      · have e3 : ((v7 : Int) == 3) = false := by simp; omega
        obtain ⟨g, hg⟩ : ∃ g : Fr, g = f := ⟨_, rfl⟩
        have HF : Hid (Nx D P w y9 N g r) := by rw [hg]; exact HT.out
        have hg4 : g.n ≤ 4 := by rw [hg]; omega
        have hgi : g.id = 0 ∨ (lo < g.id ∧ g.id ≤ lo + 3) := by rw [hg]; exact .inr hid
        have hgk : Hid (KindOk g.k) := by rw [hg]; exact hkk
        have hgs : Hid (∀ q, q < g.n → S (r q) ∨ r q = (g.id : Int)) := by rw [hg]; exact refs_old _ HS
        subst hg
        clear h0 h1 h2 h3 fz f0 f1 f2 f3 f4 f5 r0 r1 r2 r3 r4 r5 rz
        obtain ⟨g0, g1, g2, g3, g4, g5, -⟩ := HF.out.fr
        obtain ⟨u0, u1, u2, u3, u4, u5, uz⟩ := HF.out.res
        simp only [Fr.zero] at u0 u1 u2 u3 u4 u5
        have uz0 := uz 0
        have uz1 := uz 1
        have uz2 := uz 2
        have uz3 := uz 3
        have uz4 := uz 4
        have uz5 := uz 5
        have HD : Hid (∀ v, NextIs D P lo S w (.returned (.tuple #[.agg #[.int .u32 (g.id : Int), .int .i64 g.k, .slice g.a g.n g.c, .int .i64 g.s, .int .i64 g.p, .int .i64 g.d], v])) ((((((y9.setCell ⟨w.heap.size, 0, none⟩ (.int .u32 (g.id : Int))).setCell ⟨w.heap.size, 1, none⟩ (.int .i64 g.k)).setCell ⟨w.heap.size, 2, none⟩ (.slice g.a g.n g.c)).setCell ⟨w.heap.size, 3, none⟩ (.int .i64 g.s)).setCell ⟨w.heap.size, 4, none⟩ (.int .i64 g.p)).setCell ⟨w.heap.size, 5, none⟩ (.int .i64 g.d))) := fun v => HF.out.done hg4 hgi hgk.out hgs.out rfl
        have HW : Hid (FrAt ((((((y9.setCell ⟨w.heap.size, 0, none⟩ (.int .u32 (g.id : Int))).setCell ⟨w.heap.size, 1, none⟩ (.int .i64 g.k)).setCell ⟨w.heap.size, 2, none⟩ (.slice g.a g.n g.c)).setCell ⟨w.heap.size, 3, none⟩ (.int .i64 g.s)).setCell ⟨w.heap.size, 4, none⟩ (.int .i64 g.p)).setCell ⟨w.heap.size, 5, none⟩ (.int .i64 g.d)) w.heap.size g) := HF.out.res.write g
        clear uz HF BO hg4 hgi hgk hgs HS hkk hid hn3
        go_wp2
        generalize ((((((y9.setCell ⟨w.heap.size, 0, none⟩ (.int .u32 (g.id : Int))).setCell ⟨w.heap.size, 1, none⟩ (.int .i64 g.k)).setCell ⟨w.heap.size, 2, none⟩ (.slice g.a g.n g.c)).setCell ⟨w.heap.size, 3, none⟩ (.int .i64 g.s)).setCell ⟨w.heap.size, 4, none⟩ (.int .i64 g.p)).setCell ⟨w.heap.size, 5, none⟩ (.int .i64 g.d)) = yz at *
        obtain ⟨p0, p1, p2, p3, p4, p5, -⟩ := HW.out
        refine bodyPost_ret (v := .tuple #[.agg #[.int .u32 (g.id : Int), .int .i64 g.k, .slice g.a g.n g.c, .int .i64 g.s, .int .i64 g.p, .int .i64 g.d], bv]) ?_ rfl (HD.out _)
        simp [results, Try.results15, go_sem, p0, p1, p2, p3, p4, p5]
    by_cases hnm : f.n < m
    case neg =>
      have a3 : ¬ f.n < m := hnm
      generalize wr = y5 at *
      have hn3 : f.n ≤ 3 := by omega
      have hid : lo < f.id ∧ f.id ≤ lo + 3 := by rw [hfi]; exact hid
      clear hk hfi fz j3
      go_wp2_with fail
      clear a1 j1 j2 hj hnm
      obtain ⟨q, hq⟩ := HT.out.ch.picks
      refine (num_pk D P q 20 _ hq (by decide) (by decide)).mono ?_
      rintro e y6 ⟨c1, v6, rfl, hv6⟩
      have HT : Hid (Nx D P w y6 N f r) := HT.out.num c1
      clear c1 hq f0 f1 f2 f3 f4 f5
      obtain ⟨f0, f1, f2, f3, f4, f5, fz⟩ := HT.out.fr
      have fz3 := fz 3
      obtain ⟨s, hs⟩ : ∃ s : Nat, (1 + (v6 : Int)) = (s : Int) := ⟨1 + v6, by omega⟩
      have s20 : s ≤ 20 := by omega
      obtain ⟨y7, e7⟩ : ∃ x, y6.setCell ⟨N, 3, none⟩ (.int .i64 (s : Int)) = x := ⟨_, rfl⟩
      have HT7 : Hid (Nx D P w y7 N { f with s := (s : Int) } r) := e7 ▸ HT.out.store (HT.out.fr.setS (s : Int)) rfl
      obtain ⟨g0, g1, g2, g3, g4, g5, -⟩ := HT7.out.fr
      simp only at g0 g1 g2 g3 g4 g5
      clear fz HT
      go_wp2_with fail
      clear e7 f0 f1 f2 f3 f4 f5 fz3 g0 g1 g2 g3 g4 g5
      obtain ⟨q, hq⟩ := HT7.out.ch.picks
      refine (body_any D P q s _ hq (Nat.le_trans hD (HT7.out.ch.kept.size)) (by omega)).mono ?_
      rintro e y8 ⟨c1, bv, bxs, rfl, bo⟩
      have BO : Hid (y8.ownsRow y7.heap.size 5 1 bv s bxs) := bo
      have HT : Hid (Nx D P w y8 N { f with s := (s : Int) } r) := HT7.out.num c1
      have HO : Hid (∀ g, (Value.slice ({ f with s := (s : Int) } : Fr).a ({ f with s := (s : Int) } : Fr).n ({ f with s := (s : Int) } : Fr).c).ownBlock = some g → bv.ownBlock ≠ some g) := fun g e e2 => by
        have q1 := (World.ownsRow.lt HT7.out.own g e).2
        have q2 := (bo.lt g e2).1
        omega
      have sz7 : Hid (N < y7.heap.size ∧ y7.heap.size ≤ y8.heap.size) := ⟨HT7.out.fr.lt, c1.kept.size⟩
      have hn3 : ({ f with s := (s : Int) } : Fr).n ≤ 3 := hn3
      have hid : lo < ({ f with s := (s : Int) } : Fr).id ∧ ({ f with s := (s : Int) } : Fr).id ≤ lo + 3 := hid
      have hkk : Hid (KindOk ({ f with s := (s : Int) } : Fr).k) := hkk
      have HS : Hid (∀ q, q < ({ f with s := (s : Int) } : Fr).n → S (r q)) := HS
      clear c1 hq HT7 bo hs hv6
      generalize ({ f with s := (s : Int) } : Fr) = f at *
      go_wp2_with fail
      obtain ⟨q, hq⟩ := HT.out.ch.picks
      refine (num_pk D P q 25 _ hq (by decide) (by decide)).mono ?_
      rintro e y9 ⟨c1, v7, rfl, hv7⟩
      have HT : Hid (Nx D P w y9 N f r) := HT.out.num c1
      have BO : Hid (y9.ownsRow (N + 1) 5 1 bv s bxs) := by
        have b := BO.out
        refine World.ownsRow.kept (row := some P) (base := N + 1) ?_ ⟨c1.kept.os, c1.kept.tape, c1.kept.output, c1.kept.size, fun k hk hne => c1.kept.block k hk (fun e => hne (by rw [e]))⟩ ?_
        · refine ⟨b.1, ?_⟩
          rcases b.2 with b2 | ⟨g, cap, cur, e, hg, b3⟩
          · exact .inl b2
          · exact .inr ⟨g, cap, cur, e, by have := sz7.out.1; omega, b3⟩
        · cases e : bv.ownBlock with
          | none => exact .inl rfl
          | some g =>
            have := (b.lt g e).1
            refine .inr fun e2 => ?_
            cases e2
            have := HT.out.lP
            have := HT.out.lt
            have := sz7.out.1
            omega
      clear c1 hq sz7
      obtain ⟨f0, f1, f2, f3, f4, f5, fz⟩ := HT.out.fr
      obtain ⟨r0, r1, r2, r3, r4, r5, rz⟩ := HT.out.res
      simp only [Fr.zero] at r0 r1 r2 r3 r4 r5
      by_cases h0 : v7 = 0
      · have e0 : ((v7 : Int) == 0) = true := by simp [h0]
        obtain ⟨z1, ez1⟩ : ∃ x, y9.alloc (.cells #[.int .u32 (f.id : Int)] 23) = x := ⟨_, rfl⟩
        have Bz : Below y9.heap.size y9 z1 := ez1 ▸ box_below y9 _
        have Nz : NumsAt .u32 z1 (some ⟨y9.heap.size, 0, none⟩) 1 (fun _ => (f.id : Int)) := ez1 ▸ (fun _ => ⟨_, 0, rfl, fun i hi => by
          obtain rfl : i = 0 := by omega
          rw [World.cell?_alloc_at _ _ _ _ rfl]; rfl⟩)
        have HZ := HT.out.grew Bz
        obtain ⟨v', z2, happ, ho, hgr⟩ := Uor.push (c := 1) 29 HZ.own Nz (by decide) (by omega) (by have := HZ.fr.lt; omega)
        have hbz := HZ.own.grown hgr (by have := HZ.fr.lt; omega)
        obtain ⟨a', c', rfl, -, -, -⟩ := ho.any
        obtain ⟨z3, ez3⟩ : ∃ x, z2.setCell ⟨N, 2, none⟩ (.slice a' (f.n + 1) c') = x := ⟨_, rfl⟩
        have fr2 := HZ.fr.block (hbz.block N (Nat.lt_succ_self _))
        have c2 := fr2.c2
        have z2z := fr2.frz 2
        obtain ⟨g, hg⟩ : ∃ g : Fr, g = { f with a := a', n := f.n + 1, c := c' } := ⟨_, rfl⟩
        have HF : Hid (Nx D P w z3 N g (fun i => if i < f.n then r i else (f.id : Int))) := by rw [hg]; exact ez3 ▸ HZ.append hbz ho
        have hg4 : g.n ≤ 4 := by rw [hg]; simp only; omega
        have hgi : g.id = 0 ∨ (lo < g.id ∧ g.id ≤ lo + 3) := by rw [hg]; exact .inr hid
        have hgk : Hid (KindOk g.k) := by rw [hg]; exact hkk
        have hgs : Hid (∀ q, q < g.n → S ((fun i => if i < f.n then r i else (f.id : Int)) q) ∨ (fun i => if i < f.n then r i else (f.id : Int)) q = (g.id : Int)) := by rw [hg]; exact refs_own (f.id : Int) HS
        clear hg Bz Nz HZ hbz ho hgr fr2 h0
        obtain ⟨g0, g1, g2, g3, g4, g5, -⟩ := HF.out.fr
        obtain ⟨u0, u1, u2, u3, u4, u5, uz⟩ := HF.out.res
        simp only [Fr.zero] at u0 u1 u2 u3 u4 u5
        have uz0 := uz 0
        have uz1 := uz 1
        have uz2 := uz 2
        have uz3 := uz 3
        have uz4 := uz 4
        have uz5 := uz 5
        have HD : Hid (∀ v, NextIs D P lo S w (.returned (.tuple #[.agg #[.int .u32 (g.id : Int), .int .i64 g.k, .slice g.a g.n g.c, .int .i64 g.s, .int .i64 g.p, .int .i64 g.d], v])) ((((((z3.setCell ⟨w.heap.size, 0, none⟩ (.int .u32 (g.id : Int))).setCell ⟨w.heap.size, 1, none⟩ (.int .i64 g.k)).setCell ⟨w.heap.size, 2, none⟩ (.slice g.a g.n g.c)).setCell ⟨w.heap.size, 3, none⟩ (.int .i64 g.s)).setCell ⟨w.heap.size, 4, none⟩ (.int .i64 g.p)).setCell ⟨w.heap.size, 5, none⟩ (.int .i64 g.d))) := fun v => HF.out.done hg4 hgi hgk.out hgs.out rfl
        have HW : Hid (FrAt ((((((z3.setCell ⟨w.heap.size, 0, none⟩ (.int .u32 (g.id : Int))).setCell ⟨w.heap.size, 1, none⟩ (.int .i64 g.k)).setCell ⟨w.heap.size, 2, none⟩ (.slice g.a g.n g.c)).setCell ⟨w.heap.size, 3, none⟩ (.int .i64 g.s)).setCell ⟨w.heap.size, 4, none⟩ (.int .i64 g.p)).setCell ⟨w.heap.size, 5, none⟩ (.int .i64 g.d)) w.heap.size g) := HF.out.res.write g
        clear uz HF HT BO hg4 hgi hgk hgs HS hkk hid hn3
        go_wp2_with (at_builtin; refine Go.Lib.wpList_append_run _ rfl (.tmp 140) (.tmp 143) 29 29 rfl _ _ rfl rfl _ _ happ ?_)
        generalize ((((((z3.setCell ⟨w.heap.size, 0, none⟩ (.int .u32 (g.id : Int))).setCell ⟨w.heap.size, 1, none⟩ (.int .i64 g.k)).setCell ⟨w.heap.size, 2, none⟩ (.slice g.a g.n g.c)).setCell ⟨w.heap.size, 3, none⟩ (.int .i64 g.s)).setCell ⟨w.heap.size, 4, none⟩ (.int .i64 g.p)).setCell ⟨w.heap.size, 5, none⟩ (.int .i64 g.d)) = yz at *
        obtain ⟨p0, p1, p2, p3, p4, p5, -⟩ := HW.out
        refine bodyPost_ret (v := .tuple #[.agg #[.int .u32 (g.id : Int), .int .i64 g.k, .slice g.a g.n g.c, .int .i64 g.s, .int .i64 g.p, .int .i64 g.d], bv]) ?_ rfl (HD.out _)
        simp [results, Try.results15, go_sem, p0, p1, p2, p3, p4, p5]
      have e0 : ((v7 : Int) == 0) = false := by simp; omega
      by_cases h1 : v7 = 1
      · have e1 : ((v7 : Int) == 1) = true := by simp [h1]
        obtain ⟨z3, ez3⟩ : ∃ x, y9.setCell ⟨N, 5, none⟩ (.int .i64 (t : Int)) = x := ⟨_, rfl⟩
        have fz5 := fz 5
        obtain ⟨g, hg⟩ : ∃ g : Fr, g = { f with d := (t : Int) } := ⟨_, rfl⟩
        have HF : Hid (Nx D P w z3 N g r) := by rw [hg]; exact ez3 ▸ HT.out.store (HT.out.fr.setD (t : Int)) rfl
        have hg4 : g.n ≤ 4 := by rw [hg]; simp only; omega
        have hgi : g.id = 0 ∨ (lo < g.id ∧ g.id ≤ lo + 3) := by rw [hg]; exact .inr hid
        have hgk : Hid (KindOk g.k) := by rw [hg]; exact hkk
        have hgs : Hid (∀ q, q < g.n → S (r q) ∨ r q = (g.id : Int)) := by rw [hg]; exact refs_old _ HS
        clear hg h0 h1 fz
        obtain ⟨g0, g1, g2, g3, g4, g5, -⟩ := HF.out.fr
        obtain ⟨u0, u1, u2, u3, u4, u5, uz⟩ := HF.out.res
        simp only [Fr.zero] at u0 u1 u2 u3 u4 u5
        have uz0 := uz 0
        have uz1 := uz 1
        have uz2 := uz 2
        have uz3 := uz 3
        have uz4 := uz 4
        have uz5 := uz 5
        have HD : Hid (∀ v, NextIs D P lo S w (.returned (.tuple #[.agg #[.int .u32 (g.id : Int), .int .i64 g.k, .slice g.a g.n g.c, .int .i64 g.s, .int .i64 g.p, .int .i64 g.d], v])) ((((((z3.setCell ⟨w.heap.size, 0, none⟩ (.int .u32 (g.id : Int))).setCell ⟨w.heap.size, 1, none⟩ (.int .i64 g.k)).setCell ⟨w.heap.size, 2, none⟩ (.slice g.a g.n g.c)).setCell ⟨w.heap.size, 3, none⟩ (.int .i64 g.s)).setCell ⟨w.heap.size, 4, none⟩ (.int .i64 g.p)).setCell ⟨w.heap.size, 5, none⟩ (.int .i64 g.d))) := fun v => HF.out.done hg4 hgi hgk.out hgs.out rfl
        have HW : Hid (FrAt ((((((z3.setCell ⟨w.heap.size, 0, none⟩ (.int .u32 (g.id : Int))).setCell ⟨w.heap.size, 1, none⟩ (.int .i64 g.k)).setCell ⟨w.heap.size, 2, none⟩ (.slice g.a g.n g.c)).setCell ⟨w.heap.size, 3, none⟩ (.int .i64 g.s)).setCell ⟨w.heap.size, 4, none⟩ (.int .i64 g.p)).setCell ⟨w.heap.size, 5, none⟩ (.int .i64 g.d)) w.heap.size g) := HF.out.res.write g
        clear uz HF HT BO hg4 hgi hgk hgs HS hkk hid hn3
        go_wp2
        generalize ((((((z3.setCell ⟨w.heap.size, 0, none⟩ (.int .u32 (g.id : Int))).setCell ⟨w.heap.size, 1, none⟩ (.int .i64 g.k)).setCell ⟨w.heap.size, 2, none⟩ (.slice g.a g.n g.c)).setCell ⟨w.heap.size, 3, none⟩ (.int .i64 g.s)).setCell ⟨w.heap.size, 4, none⟩ (.int .i64 g.p)).setCell ⟨w.heap.size, 5, none⟩ (.int .i64 g.d)) = yz at *
        obtain ⟨p0, p1, p2, p3, p4, p5, -⟩ := HW.out
        refine bodyPost_ret (v := .tuple #[.agg #[.int .u32 (g.id : Int), .int .i64 g.k, .slice g.a g.n g.c, .int .i64 g.s, .int .i64 g.p, .int .i64 g.d], bv]) ?_ rfl (HD.out _)
        simp [results, Try.results15, go_sem, p0, p1, p2, p3, p4, p5]
      have e1 : ((v7 : Int) == 1) = false := by simp; omega
      by_cases h2 : v7 = 2
      · have e2 : ((v7 : Int) == 2) = true := by simp [h2]
        obtain ⟨z1, ez1⟩ : ∃ x, y9.alloc (.cells #[.int .u8 1] 5) = x := ⟨_, rfl⟩
        have Bz : Below y9.heap.size y9 z1 := ez1 ▸ box_below y9 _
        have HZ := HT.out.grew Bz
        obtain ⟨i0, hi, hz0, hz1, hz2⟩ := info_parts Try.infoByte
        have BZ : z1.ownsRow (N + 1) 5 1 bv s bxs := by
          refine World.ownsRow.kept (row := none) BO.out ⟨Bz.os, Bz.tape, Bz.output, Bz.size, fun k hk _ => Bz.block k hk⟩ ?_
          cases e : bv.ownBlock with
          | none => exact .inl rfl
          | some g => exact .inr (by simp)
        obtain ⟨v', z3, happ, ho, hgr, -, -⟩ := run_append_own_at (P := Try.prog) z1 (N + 1) 22 22 5 i0 (.int .u8 0) 1 1 Try.underlying22 hi hz0 hz1 hz2 rfl (by decide) bv s bxs BZ ⟨y9.heap.size, 0, none⟩ 1 1 [.int .u8 1] rfl
          (fun j u hj => by
            cases j with
            | zero => cases hj; rw [← ez1]; show (y9.alloc _).cell? ⟨y9.heap.size, 0, none⟩ = _; rw [World.cell?_alloc_at _ _ _ _ rfl]; rfl
            | succ j => simp at hj) (by intro u hu; simp at hu; subst hu; rfl) (by unfold maxLen; omega) (by omega) (by have := HZ.fr.lt; omega)
        have hbz : Below (N + 1) z1 z3 := ⟨hgr.os, hgr.tape, hgr.output, hgr.size, fun k hk => hgr.block k (by have := HZ.fr.lt; omega) (fun e => by have := (BZ.lt k e.symm).1; omega)⟩
        have HF0 : Nx D P w z3 N f r := by
          have hl := HZ.lt
          obtain ⟨pp, hpp⟩ := HZ.ch.picks
          refine ⟨⟨⟨hbz.os.trans HZ.ch.kept.os, hbz.tape.trans HZ.ch.kept.tape, hbz.output.trans HZ.ch.kept.output, Nat.le_trans HZ.ch.kept.size hbz.size, fun k hk hR => (hbz.block k (by omega)).trans (HZ.ch.kept.block k hk hR)⟩, pp, hpp.below (hbz.mono (by have := HZ.lD; omega))⟩, HZ.res.block (hbz.block _ (by omega)), HZ.fr.block (hbz.block _ (Nat.lt_succ_self _)), ?_, hl, HZ.lP, HZ.lD⟩
          have u : z1.ownsRow (N + 1) 23 1 (.slice f.a f.n f.c) f.n (ucells r f.n) := HZ.own
          refine World.ownsRow.kept (row := bv.ownBlock) u hgr ?_
          cases e : (Value.slice f.a f.n f.c).ownBlock with
          | none => exact .inl rfl
          | some g => exact .inr (fun e2 => HO.out g e e2.symm)
        obtain ⟨g, hg⟩ : ∃ g : Fr, g = f := ⟨_, rfl⟩
        have HF : Hid (Nx D P w z3 N g r) := by rw [hg]; exact HF0
        have hg4 : g.n ≤ 4 := by rw [hg]; omega
        have hgi : g.id = 0 ∨ (lo < g.id ∧ g.id ≤ lo + 3) := by rw [hg]; exact .inr hid
        have hgk : Hid (KindOk g.k) := by rw [hg]; exact hkk
        have hgs : Hid (∀ q, q < g.n → S (r q) ∨ r q = (g.id : Int)) := by rw [hg]; exact refs_old _ HS
        clear hg h0 h1 h2 Bz HZ BZ ho hgr hbz HF0 hi hz0 hz1 hz2 fz
        obtain ⟨g0, g1, g2, g3, g4, g5, -⟩ := HF.out.fr
        obtain ⟨u0, u1, u2, u3, u4, u5, uz⟩ := HF.out.res
        simp only [Fr.zero] at u0 u1 u2 u3 u4 u5
        have uz0 := uz 0
        have uz1 := uz 1
        have uz2 := uz 2
        have uz3 := uz 3
        have uz4 := uz 4
        have uz5 := uz 5
        have HD : Hid (∀ v, NextIs D P lo S w (.returned (.tuple #[.agg #[.int .u32 (g.id : Int), .int .i64 g.k, .slice g.a g.n g.c, .int .i64 g.s, .int .i64 g.p, .int .i64 g.d], v])) ((((((z3.setCell ⟨w.heap.size, 0, none⟩ (.int .u32 (g.id : Int))).setCell ⟨w.heap.size, 1, none⟩ (.int .i64 g.k)).setCell ⟨w.heap.size, 2, none⟩ (.slice g.a g.n g.c)).setCell ⟨w.heap.size, 3, none⟩ (.int .i64 g.s)).setCell ⟨w.heap.size, 4, none⟩ (.int .i64 g.p)).setCell ⟨w.heap.size, 5, none⟩ (.int .i64 g.d))) := fun v => HF.out.done hg4 hgi hgk.out hgs.out rfl
        have HW : Hid (FrAt ((((((z3.setCell ⟨w.heap.size, 0, none⟩ (.int .u32 (g.id : Int))).setCell ⟨w.heap.size, 1, none⟩ (.int .i64 g.k)).setCell ⟨w.heap.size, 2, none⟩ (.slice g.a g.n g.c)).setCell ⟨w.heap.size, 3, none⟩ (.int .i64 g.s)).setCell ⟨w.heap.size, 4, none⟩ (.int .i64 g.p)).setCell ⟨w.heap.size, 5, none⟩ (.int .i64 g.d)) w.heap.size g) := HF.out.res.write g
        clear uz HF HT BO hg4 hgi hgk hgs HS hkk hid hn3
        go_wp2_with (at_builtin; refine Go.Lib.wpList_append_run _ rfl (.tmp 152) (.tmp 153) 22 22 rfl _ _ rfl rfl _ _ happ ?_)
        generalize ((((((z3.setCell ⟨w.heap.size, 0, none⟩ (.int .u32 (g.id : Int))).setCell ⟨w.heap.size, 1, none⟩ (.int .i64 g.k)).setCell ⟨w.heap.size, 2, none⟩ (.slice g.a g.n g.c)).setCell ⟨w.heap.size, 3, none⟩ (.int .i64 g.s)).setCell ⟨w.heap.size, 4, none⟩ (.int .i64 g.p)).setCell ⟨w.heap.size, 5, none⟩ (.int .i64 g.d)) = yz at *
        obtain ⟨p0, p1, p2, p3, p4, p5, -⟩ := HW.out
        refine bodyPost_ret (v := .tuple #[.agg #[.int .u32 (g.id : Int), .int .i64 g.k, .slice g.a g.n g.c, .int .i64 g.s, .int .i64 g.p, .int .i64 g.d], v']) ?_ rfl (HD.out _)
        simp [results, Try.results15, go_sem, p0, p1, p2, p3, p4, p5]
      have e2 : ((v7 : Int) == 2) = false := by simp; omega
      by_cases h3 : v7 = 3
      · have e3 : ((v7 : Int) == 3) = true := by simp [h3]
        obtain ⟨z3, ez3⟩ : ∃ x, y9.setCell ⟨N, 0, none⟩ (.int .u32 0) = x := ⟨_, rfl⟩
        have fz0 := fz 0
        obtain ⟨g, hg⟩ : ∃ g : Fr, g = { f with id := 0 } := ⟨_, rfl⟩
        have HF : Hid (Nx D P w z3 N g r) := by rw [hg]; exact ez3 ▸ HT.out.store (HT.out.fr.setId 0) rfl
        have hg4 : g.n ≤ 4 := by rw [hg]; simp only; omega
        have hgi : g.id = 0 ∨ (lo < g.id ∧ g.id ≤ lo + 3) := by rw [hg]; exact .inl rfl
        have hgk : Hid (KindOk g.k) := by rw [hg]; exact hkk
        have hgs : Hid (∀ q, q < g.n → S (r q) ∨ r q = (g.id : Int)) := by rw [hg]; exact refs_old _ HS
        clear hg h0 h1 h2 h3 fz
        obtain ⟨g0, g1, g2, g3, g4, g5, -⟩ := HF.out.fr
        obtain ⟨u0, u1, u2, u3, u4, u5, uz⟩ := HF.out.res
        simp only [Fr.zero] at u0 u1 u2 u3 u4 u5
        have uz0 := uz 0
        have uz1 := uz 1
        have uz2 := uz 2
        have uz3 := uz 3
        have uz4 := uz 4
        have uz5 := uz 5
        have HD : Hid (∀ v, NextIs D P lo S w (.returned (.tuple #[.agg #[.int .u32 (g.id : Int), .int .i64 g.k, .slice g.a g.n g.c, .int .i64 g.s, .int .i64 g.p, .int .i64 g.d], v])) ((((((z3.setCell ⟨w.heap.size, 0, none⟩ (.int .u32 (g.id : Int))).setCell ⟨w.heap.size, 1, none⟩ (.int .i64 g.k)).setCell ⟨w.heap.size, 2, none⟩ (.slice g.a g.n g.c)).setCell ⟨w.heap.size, 3, none⟩ (.int .i64 g.s)).setCell ⟨w.heap.size, 4, none⟩ (.int .i64 g.p)).setCell ⟨w.heap.size, 5, none⟩ (.int .i64 g.d))) := fun v => HF.out.done hg4 hgi hgk.out hgs.out rfl
        have HW : Hid (FrAt ((((((z3.setCell ⟨w.heap.size, 0, none⟩ (.int .u32 (g.id : Int))).setCell ⟨w.heap.size, 1, none⟩ (.int .i64 g.k)).setCell ⟨w.heap.size, 2, none⟩ (.slice g.a g.n g.c)).setCell ⟨w.heap.size, 3, none⟩ (.int .i64 g.s)).setCell ⟨w.heap.size, 4, none⟩ (.int .i64 g.p)).setCell ⟨w.heap.size, 5, none⟩ (.int .i64 g.d)) w.heap.size g) := HF.out.res.write g
        clear uz HF HT BO hg4 hgi hgk hgs HS hkk hid hn3
        go_wp2
        generalize ((((((z3.setCell ⟨w.heap.size, 0, none⟩ (.int .u32 (g.id : Int))).setCell ⟨w.heap.size, 1, none⟩ (.int .i64 g.k)).setCell ⟨w.heap.size, 2, none⟩ (.slice g.a g.n g.c)).setCell ⟨w.heap.size, 3, none⟩ (.int .i64 g.s)).setCell ⟨w.heap.size, 4, none⟩ (.int .i64 g.p)).setCell ⟨w.heap.size, 5, none⟩ (.int .i64 g.d)) = yz at *
        obtain ⟨p0, p1, p2, p3, p4, p5, -⟩ := HW.out
        refine bodyPost_ret (v := .tuple #[.agg #[.int .u32 (g.id : Int), .int .i64 g.k, .slice g.a g.n g.c, .int .i64 g.s, .int .i64 g.p, .int .i64 g.d], bv]) ?_ rfl (HD.out _)
        simp [results, Try.results15, go_sem, p0, p1, p2, p3, p4, p5]
      · have e3 : ((v7 : Int) == 3) = false := by simp; omega
        obtain ⟨g, hg⟩ : ∃ g : Fr, g = f := ⟨_, rfl⟩
        have HF : Hid (Nx D P w y9 N g r) := by rw [hg]; exact HT.out
        have hg4 : g.n ≤ 4 := by rw [hg]; omega
        have hgi : g.id = 0 ∨ (lo < g.id ∧ g.id ≤ lo + 3) := by rw [hg]; exact .inr hid
        have hgk : Hid (KindOk g.k) := by rw [hg]; exact hkk
        have hgs : Hid (∀ q, q < g.n → S (r q) ∨ r q = (g.id : Int)) := by rw [hg]; exact refs_old _ HS
        subst hg
        clear h0 h1 h2 h3 fz f0 f1 f2 f3 f4 f5 r0 r1 r2 r3 r4 r5 rz
        obtain ⟨g0, g1, g2, g3, g4, g5, -⟩ := HF.out.fr
        obtain ⟨u0, u1, u2, u3, u4, u5, uz⟩ := HF.out.res
        simp only [Fr.zero] at u0 u1 u2 u3 u4 u5
        have uz0 := uz 0
        have uz1 := uz 1
        have uz2 := uz 2
        have uz3 := uz 3
        have uz4 := uz 4
        have uz5 := uz 5
        have HD : Hid (∀ v, NextIs D P lo S w (.returned (.tuple #[.agg #[.int .u32 (g.id : Int), .int .i64 g.k, .slice g.a g.n g.c, .int .i64 g.s, .int .i64 g.p, .int .i64 g.d], v])) ((((((y9.setCell ⟨w.heap.size, 0, none⟩ (.int .u32 (g.id : Int))).setCell ⟨w.heap.size, 1, none⟩ (.int .i64 g.k)).setCell ⟨w.heap.size, 2, none⟩ (.slice g.a g.n g.c)).setCell ⟨w.heap.size, 3, none⟩ (.int .i64 g.s)).setCell ⟨w.heap.size, 4, none⟩ (.int .i64 g.p)).setCell ⟨w.heap.size, 5, none⟩ (.int .i64 g.d))) := fun v => HF.out.done hg4 hgi hgk.out hgs.out rfl
        have HW : Hid (FrAt ((((((y9.setCell ⟨w.heap.size, 0, none⟩ (.int .u32 (g.id : Int))).setCell ⟨w.heap.size, 1, none⟩ (.int .i64 g.k)).setCell ⟨w.heap.size, 2, none⟩ (.slice g.a g.n g.c)).setCell ⟨w.heap.size, 3, none⟩ (.int .i64 g.s)).setCell ⟨w.heap.size, 4, none⟩ (.int .i64 g.p)).setCell ⟨w.heap.size, 5, none⟩ (.int .i64 g.d)) w.heap.size g) := HF.out.res.write g
        clear uz HF BO hg4 hgi hgk hgs HS hkk hid hn3
        go_wp2
        generalize ((((((y9.setCell ⟨w.heap.size, 0, none⟩ (.int .u32 (g.id : Int))).setCell ⟨w.heap.size, 1, none⟩ (.int .i64 g.k)).setCell ⟨w.heap.size, 2, none⟩ (.slice g.a g.n g.c)).setCell ⟨w.heap.size, 3, none⟩ (.int .i64 g.s)).setCell ⟨w.heap.size, 4, none⟩ (.int .i64 g.p)).setCell ⟨w.heap.size, 5, none⟩ (.int .i64 g.d)) = yz at *
        obtain ⟨p0, p1, p2, p3, p4, p5, -⟩ := HW.out
        refine bodyPost_ret (v := .tuple #[.agg #[.int .u32 (g.id : Int), .int .i64 g.k, .slice g.a g.n g.c, .int .i64 g.s, .int .i64 g.p, .int .i64 g.d], bv]) ?_ rfl (HD.out _)
        simp [results, Try.results15, go_sem, p0, p1, p2, p3, p4, p5]
    go_wp2_with fail
    clear f0 f1 f2 f3 f4 f5 fz
    obtain ⟨q, hq⟩ := HT.out.ch.picks
    refine (num_pk D P q qm _ hq qm0 (by omega)).mono ?_
    rintro e y6 ⟨c1, v6, rfl, hv6⟩
    have HT : Hid (Nx D P w y6 N f r) := HT.out.num c1
    clear c1 hq
    have KY := HK.out.kept HT.out.ch.kept hb
    obtain ⟨x, ex⟩ : ∃ x : Nat, x = m - 1 - v6 := ⟨_, rfl⟩
    have x1 : (m : Int) - 1 - (v6 : Int) = (x : Int) := by omega
    have x2 : (x : Int) < (m : Int) := by omega
    obtain ⟨k0, -⟩ := KY.at x (by omega)
    obtain ⟨f0, f1, f2, f3, f4, f5, fz⟩ := HT.out.fr
    have HI : Hid (S ((K x).id : Int)) := HSK.out x (by omega)
    clear KY ex
    generalize (K x).id = idv at *
    go_wp2_with fail
    clear k0
    generalize wr = wo at *
    go_loopw [14, 15] (fun tw u wr => ∃ (b : Bool) (q : Nat), tw = .bool b ∧ u = .int .i64 q ∧ q ≤ f.n ∧ wr = y6) (fun _ u _ => f.n - (intOf u).toNat)
    case atStart => exact ⟨false, 0, rfl, rfl, Nat.zero_le _, rfl⟩
    case round =>
      obtain ⟨tw, q, rfl, rfl, hqn, rfl⟩ := hrel
      by_cases hq : q < f.n
      · have q1 : (q : Int) < (f.n : Int) := by omega
        cases tw with
        | true =>
          go_wp2_with fail
          go_roundw
          case rel => exact ⟨true, q + 1, rfl, by go_num, by omega, trivial⟩
          case measure => simp [intOf]; omega
        | false =>
          obtain ⟨ra, rc, re, -, -, rn⟩ := HT.out.own.any
          obtain ⟨rb, ro, e3, hc⟩ := rn (by omega)
          have e4 : f.a = some ⟨rb, ro, none⟩ := by cases re; exact e3
          have c5 := hc q hq
          rw [e4] at f2
          clear re rn e3 hc e4
          go_wp2_with fail
          go_roundw
          case rel => exact ⟨_, q + 1, rfl, by go_num, by omega, trivial⟩
          case measure => simp [intOf]; omega
      · have q2 : decide ((q : Int) < (f.n : Int)) = false := by simp; omega
        cases tw with
        | true =>
          clear fz
          go_wp2_with fail
          go_roundw
          case rel => exact ⟨j - 1, f, r, by go_num, by omega, by omega, by omega, hfi, hkk, HT, HS⟩
          case measure => simp [intOf]; omega
        | false =>
          obtain ⟨z1, ez1⟩ : ∃ x, wr.alloc (.cells #[.int .u32 (idv : Int)] 23) = x := ⟨_, rfl⟩
          have Bz : Below wr.heap.size wr z1 := ez1 ▸ box_below wr _
          have Nz : NumsAt .u32 z1 (some ⟨wr.heap.size, 0, none⟩) 1 (fun _ => (idv : Int)) := ez1 ▸ (fun _ => ⟨_, 0, rfl, fun i hi => by
            obtain rfl : i = 0 := by omega
            rw [World.cell?_alloc_at _ _ _ _ rfl]; rfl⟩)
          have HZ := HT.out.grew Bz
          obtain ⟨v', z2, happ, ho, hgr⟩ := Uor.push (c := 1) 29 HZ.own Nz (by decide) (by omega) (by have := HZ.fr.lt; omega)
          have hbz := HZ.own.grown hgr (by have := HZ.fr.lt; omega)
          obtain ⟨a', c', rfl, -, -, -⟩ := ho.any
          obtain ⟨z3, ez3⟩ : ∃ x, z2.setCell ⟨N, 2, none⟩ (.slice a' (f.n + 1) c') = x := ⟨_, rfl⟩
          have fr2 := HZ.fr.block (hbz.block N (Nat.lt_succ_self _))
          have c2 := fr2.c2
          have z2z := fr2.frz 2
          have HF : Hid (Nx D P w z3 N { f with a := a', n := f.n + 1, c := c' } (fun i => if i < f.n then r i else (idv : Int))) := ez3 ▸ HZ.append hbz ho
          have HSF : Hid (∀ q, q < ({ f with a := a', n := f.n + 1, c := c' } : Fr).n → S ((fun i => if i < f.n then r i else (idv : Int)) q)) := refs_push HS HI
          clear Bz Nz HZ hbz ho hgr fr2 fz HT
          go_wp2_with (at_builtin; refine Go.Lib.wpList_append_run _ rfl (.tmp 120) (.tmp 122) 29 29 rfl _ _ rfl rfl _ _ happ ?_)
          go_roundw
          case rel => exact ⟨j - 1, { f with a := a', n := f.n + 1, c := c' }, _, by go_num, by omega, by omega, by show ((f.n + 1 : Nat) : Int) + (j - 1 + 1) ≤ 3; omega, hfi, hkk, HF, HSF⟩
          case measure => simp [intOf]; omega
end Go.Proofs.Ytclbcggbnbimaaa
