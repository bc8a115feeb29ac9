/-
  Frames out of numbers: the next one, behind nobody.
-/
import Derived.Test.YthlidbenhlidjaaFna
namespace Go.Proofs.Ythlidbenhlidjaa
open Go.RowKit Go.Deep

set_option maxRecDepth 100000 in
set_option maxHeartbeats 4000000 in
theorem next_none (D P p0 lo : Nat) (a : Option Addr) (c : Nat) (t : Nat) (w : World) (h : Picks D w P p0) (hD : D ≤ w.heap.size) (ht : t ≤ 1000) (Hlo : Hid (lo = 0)) (S : Int → Prop) :
    Calls Try.prog 14 #[.pointer (some ⟨P, 0, none⟩), .slice a 0 c, .int .i64 (t : Int), .int .i64 4] w (NextIs D P lo S w) := by
  have hmx := max_i64
  have B0 := box_below w (.cells #[.int .u32 0, .int .i64 0, .slice none 0 0, .int .i64 0, .int .i64 0, .int .i64 0] 25)
  have C0 : Hid (Chose D P w (w.alloc (.cells #[.int .u32 0, .int .i64 0, .slice none 0 0, .int .i64 0, .int .i64 0, .int .i64 0] 25))) := ⟨Kept.of_below B0, p0, h.grew B0⟩
  have R0 : Hid (FrAt (w.alloc (.cells #[.int .u32 0, .int .i64 0, .slice none 0 0, .int .i64 0, .int .i64 0, .int .i64 0] 25)) w.heap.size Fr.zero) := FrAt.made w _ Fr.zero
  have lP : P < w.heap.size := h.lt.1
  have sz : Hid (w.heap.size < (w.alloc (.cells #[.int .u32 0, .int .i64 0, .slice none 0 0, .int .i64 0, .int .i64 0, .int .i64 0] 25)).heap.size) := by show w.heap.size < _; simp
  clear B0 h
  go_enter Try.func14, Try.ntmps14
  go_wp2_with fail
  generalize w.alloc (.cells #[.int .u32 0, .int .i64 0, .slice none 0 0, .int .i64 0, .int .i64 0, .int .i64 0] 25) = x0 at *
  obtain ⟨q, hq⟩ := C0.out.picks
  refine (num_pk D P q 3 _ hq (by decide) (by decide)).mono ?_
  rintro e x1 ⟨c1, v1, rfl, hv1⟩
  have C0 : Hid (Chose D P w x1) := C0.out.trans c1
  have R0 : Hid (FrAt x1 w.heap.size Fr.zero) := R0.out.block (c1.kept.block _ R0.out.lt (by omega))
  have sz : Hid (w.heap.size < x1.heap.size) := Nat.lt_of_lt_of_le sz.out c1.kept.size
  clear c1 hq
  go_wp2_with fail
  obtain ⟨q, hq⟩ := C0.out.picks
  refine (num_pk D P q 3 _ hq (by decide) (by decide)).mono ?_
  rintro e x2 ⟨c1, v2, rfl, hv2⟩
  have C0 : Hid (Chose D P w x2) := C0.out.trans c1
  have R0 : Hid (FrAt x2 w.heap.size Fr.zero) := R0.out.block (c1.kept.block _ R0.out.lt (by omega))
  have sz : Hid (w.heap.size < x2.heap.size) := Nat.lt_of_lt_of_le sz.out c1.kept.size
  clear c1 hq
  go_wp2_with fail
  obtain ⟨q, hq⟩ := C0.out.picks
  refine (num_pk D P q 4 _ hq (by decide) (by decide)).mono ?_
  rintro e x3 ⟨c1, v3, rfl, hv3⟩
  have C0 : Hid (Chose D P w x3) := C0.out.trans c1
  have R0 : Hid (FrAt x3 w.heap.size Fr.zero) := R0.out.block (c1.kept.block _ R0.out.lt (by omega))
  have sz : Hid (w.heap.size < x3.heap.size) := Nat.lt_of_lt_of_le sz.out c1.kept.size
  clear c1 hq
  go_wp2_with fail
  obtain ⟨q, hq⟩ := C0.out.picks
  refine (num_pk D P q 8 _ hq (by decide) (by decide)).mono ?_
  rintro e x4 ⟨c1, v4, rfl, hv4⟩
  have C0 : Hid (Chose D P w x4) := C0.out.trans c1
  have R0 : Hid (FrAt x4 w.heap.size Fr.zero) := R0.out.block (c1.kept.block _ R0.out.lt (by omega))
  have sz : Hid (w.heap.size < x4.heap.size) := Nat.lt_of_lt_of_le sz.out c1.kept.size
  clear c1 hq
  obtain ⟨pp, ep⟩ : ∃ x, (t : Int) + (v3 : Int) = x := ⟨_, rfl⟩
  obtain ⟨dd, ed⟩ : ∃ x, (t : Int) + (2 + (v4 : Int)) = x := ⟨_, rfl⟩
  obtain ⟨y0, e0⟩ : ∃ x, x4.alloc (.cells #[.int .u32 (1 + (v1 : Int)), .int .i64 (1 + (v2 : Int)), .slice none 0 0, .int .i64 0, .int .i64 pp, .int .i64 dd] 25) = x := ⟨_, rfl⟩
  have B0 : Below x4.heap.size x4 y0 := e0 ▸ box_below x4 _
  have F0 : FrAt y0 x4.heap.size ⟨1 + v1, 1 + (v2 : Int), none, 0, 0, 0, pp, dd⟩ := e0 ▸ FrAt.made x4 _ ⟨1 + v1, 1 + (v2 : Int), none, 0, 0, 0, pp, dd⟩
  have N0 : Nx D P w y0 x4.heap.size ⟨1 + v1, 1 + (v2 : Int), none, 0, 0, 0, pp, dd⟩ (fun _ => 0) := ⟨C0.out.grew B0, R0.out.grew B0, F0, Uor.nil _ _ _, sz.out, lP, hD⟩
  have lN := sz.out
  obtain ⟨y3, e3⟩ : ∃ x, y0.setCell ⟨x4.heap.size, 1, none⟩ (.int .i64 1) = x := ⟨_, rfl⟩
  have N3 : Nx D P w y3 x4.heap.size ⟨1 + v1, 1, none, 0, 0, 0, pp, dd⟩ (fun _ => 0) := e3 ▸ N0.store (F0.setK 1) rfl
  obtain ⟨g0, g1, g2, g3, g4, g5, gz⟩ := F0
  have gz1 := gz 1
  obtain ⟨f0, f1, f2, f3, f4, f5, fz⟩ := N3.fr
  have fz5 := fz 5
  simp only at f0 f1 f2 f3 f4 f5 g0 g1 g2 g3 g4 g5
  obtain ⟨y4, e4⟩ : ∃ x, y3.setCell ⟨x4.heap.size, 5, none⟩ (.int .i64 (max dd pp)) = x := ⟨_, rfl⟩
  have HN4 : Hid (Nx D P w y4 x4.heap.size ⟨1 + v1, 1, none, 0, 0, 0, pp, max dd pp⟩ (fun _ => 0)) := e4 ▸ N3.store (N3.fr.setD _) rfl
  clear fz gz N3 N0 B0
  go_wp2_with fail
  clear ep ed e4 e3 e0 f0 f1 f2 f3 f4 f5 fz5 g0 g1 g2 g3 g4 g5 gz1 C0 R0 sz lN
  generalize x4.heap.size = N at *
  obtain ⟨id, k, p, d, hid, hk, HN⟩ : ∃ (id : Nat) (k p d : Int), (lo < id ∧ id ≤ lo + 3) ∧ k = 1 ∧ Hid (Nx D P w y4 N ⟨id, k, none, 0, 0, 0, p, d⟩ (fun _ => 0)) := ⟨_, _, _, _, by have := Hlo.out; omega, rfl, HN4⟩
  clear HN4
  obtain ⟨q, hq⟩ := HN.out.ch.picks
  refine (num_pk D P q 3 _ hq (by decide) (by decide)).mono ?_
  rintro e y5 ⟨c1, v5, rfl, hv5⟩
  have HN : Hid (Nx D P w y5 N ⟨id, k, none, 0, 0, 0, p, d⟩ (fun _ => 0)) := HN.out.num c1
  clear c1 hq
  obtain ⟨f0, f1, f2, f3, f4, f5, -⟩ := HN.out.fr
  simp only [hk] at f0 f1 f2 f3 f4 f5
  go_wp2_with fail
  go_loopw [12] (fun i wr => i = .int .i64 (v5 : Int) ∧ wr = y5) (fun _ _ => 0)
  case atStart => exact ⟨rfl, rfl⟩
  case round =>
    obtain ⟨rfl, rfl⟩ := hrel
    generalize wr = y5 at *
    obtain ⟨f, hf⟩ : ∃ f : Fr, f = ⟨id, k, none, 0, 0, 0, p, d⟩ := ⟨_, rfl⟩
    have HT : Hid (Nx D P w y5 N f (fun _ => 0)) := by rw [hf]; exact HN.out
    obtain ⟨r, hr⟩ : ∃ r : Nat → Int, r = fun _ => 0 := ⟨_, rfl⟩
    rw [← hr] at HT
    have hn3 : f.n ≤ 3 := by rw [hf]; show 0 ≤ 3; decide
    have hid : lo < f.id ∧ f.id ≤ lo + 3 := by rw [hf]; exact hid
    have hkk : Hid (KindOk f.k) := by rw [hf, hk]; exact kind_one
    have HS : Hid (∀ q, q < f.n → S (r q)) := by rw [hf]; exact fun q hq => absurd hq (Nat.not_lt_zero q)
    clear HN
    go_wp2_with fail
    clear hf hr hk
    obtain ⟨q, hq⟩ := HT.out.ch.picks
    refine (num_pk D P q 20 _ hq (by decide) (by decide)).mono ?_
    rintro e y6 ⟨c1, v6, rfl, hv6⟩
    have HT : Hid (Nx D P w y6 N f r) := HT.out.num c1
    clear c1 hq f0 f1 f2 f3 f4 f5
    obtain ⟨f0, f1, f2, f3, f4, f5, fz⟩ := HT.out.fr
    have fz3 := fz 3
    obtain ⟨s, hs⟩ : ∃ s : Nat, (1 + (v6 : Int)) = (s : Int) := ⟨1 + v6, by omega⟩
    have s20 : s ≤ 20 := by omega
    have hss : Hid (SizeOk (s : Int)) := ⟨by omega, by omega⟩
    obtain ⟨y7, e7⟩ : ∃ x, y6.setCell ⟨N, 3, none⟩ (.int .i64 (s : Int)) = x := ⟨_, rfl⟩
    have HT7 : Hid (Nx D P w y7 N { f with s := (s : Int) } r) := e7 ▸ HT.out.store (HT.out.fr.setS (s : Int)) rfl
    obtain ⟨g0, g1, g2, g3, g4, g5, -⟩ := HT7.out.fr
    simp only at g0 g1 g2 g3 g4 g5
    clear fz HT
    go_wp2_with fail
    clear e7 f0 f1 f2 f3 f4 f5 fz3 g0 g1 g2 g3 g4 g5
    obtain ⟨q, hq⟩ := HT7.out.ch.picks
    refine (body_any D P q s _ hq (Nat.le_trans hD (HT7.out.ch.kept.size)) (by omega)).mono ?_
    rintro e y8 ⟨c1, bv, bxs, rfl, bo⟩
    have BO : Hid (y8.ownsRow y7.heap.size 5 1 bv s bxs) := bo
    have HT : Hid (Nx D P w y8 N { f with s := (s : Int) } r) := HT7.out.num c1
    have HO : Hid (∀ g, (Value.slice ({ f with s := (s : Int) } : Fr).a ({ f with s := (s : Int) } : Fr).n ({ f with s := (s : Int) } : Fr).c).ownBlock = some g → bv.ownBlock ≠ some g) := fun g e e2 => by
      have q1 := (World.ownsRow.lt HT7.out.own g e).2
      have q2 := (bo.lt g e2).1
      omega
    have sz7 : Hid (N < y7.heap.size ∧ y7.heap.size ≤ y8.heap.size) := ⟨HT7.out.fr.lt, c1.kept.size⟩
    have hn3 : ({ f with s := (s : Int) } : Fr).n ≤ 3 := hn3
    have hid : lo < ({ f with s := (s : Int) } : Fr).id ∧ ({ f with s := (s : Int) } : Fr).id ≤ lo + 3 := hid
    have hkk : Hid (KindOk ({ f with s := (s : Int) } : Fr).k) := hkk
    have hss : Hid (SizeOk ({ f with s := (s : Int) } : Fr).s) := hss
    have HS : Hid (∀ q, q < ({ f with s := (s : Int) } : Fr).n → S (r q)) := HS
    clear c1 hq HT7 bo hs hv6
    generalize ({ f with s := (s : Int) } : Fr) = f at *
    go_wp2_with fail
    obtain ⟨q, hq⟩ := HT.out.ch.picks
    refine (num_pk D P q 25 _ hq (by decide) (by decide)).mono ?_
    rintro e y9 ⟨c1, v7, rfl, hv7⟩
    have HT : Hid (Nx D P w y9 N f r) := HT.out.num c1
    have BO : Hid (y9.ownsRow (N + 1) 5 1 bv s bxs) := by
      have b := BO.out
      refine World.ownsRow.kept (row := some P) (base := N + 1) ?_ ⟨c1.kept.os, c1.kept.tape, c1.kept.output, c1.kept.size, fun k hk hne => c1.kept.block k hk (fun e => hne (by rw [e]))⟩ ?_
      · refine ⟨b.1, ?_⟩
        rcases b.2 with b2 | ⟨g, cap, cur, e, hg, b3⟩
        · exact .inl b2
        · exact .inr ⟨g, cap, cur, e, by have := sz7.out.1; omega, b3⟩
      · cases e : bv.ownBlock with
        | none => exact .inl rfl
        | some g =>
          have := (b.lt g e).1
          refine .inr fun e2 => ?_
          cases e2
          have := HT.out.lP
          have := HT.out.lt
          have := sz7.out.1
          omega
    clear c1 hq sz7
    obtain ⟨f0, f1, f2, f3, f4, f5, fz⟩ := HT.out.fr
    obtain ⟨r0, r1, r2, r3, r4, r5, rz⟩ := HT.out.res
    simp only [Fr.zero] at r0 r1 r2 r3 r4 r5
    by_cases h0 : v7 = 0
    · have e0 : ((v7 : Int) == 0) = true := by simp [h0]
      obtain ⟨z1, ez1⟩ : ∃ x, y9.alloc (.cells #[.int .u32 (f.id : Int)] 22) = x := ⟨_, rfl⟩
      have Bz : Below y9.heap.size y9 z1 := ez1 ▸ box_below y9 _
      have Nz : NumsAt .u32 z1 (some ⟨y9.heap.size, 0, none⟩) 1 (fun _ => (f.id : Int)) := ez1 ▸ (fun _ => ⟨_, 0, rfl, fun i hi => by
        obtain rfl : i = 0 := by omega
        rw [World.cell?_alloc_at _ _ _ _ rfl]; rfl⟩)
      have HZ := HT.out.grew Bz
      obtain ⟨v', z2, happ, ho, hgr⟩ := Uor.push (c := 1) 23 HZ.own Nz (by decide) (by omega) (by have := HZ.fr.lt; omega)
      have hbz := HZ.own.grown hgr (by have := HZ.fr.lt; omega)
      obtain ⟨a', c', rfl, -, -, -⟩ := ho.any
      obtain ⟨z3, ez3⟩ : ∃ x, z2.setCell ⟨N, 2, none⟩ (.slice a' (f.n + 1) c') = x := ⟨_, rfl⟩
      have fr2 := HZ.fr.block (hbz.block N (Nat.lt_succ_self _))
      have c2 := fr2.c2
      have z2z := fr2.frz 2
      obtain ⟨g, hg⟩ : ∃ g : Fr, g = { f with a := a', n := f.n + 1, c := c' } := ⟨_, rfl⟩
      have HF : Hid (Nx D P w z3 N g (fun i => if i < f.n then r i else (f.id : Int))) := by rw [hg]; exact ez3 ▸ HZ.append hbz ho
      have hg4 : g.n ≤ 4 := by rw [hg]; simp only; omega
      have hgi : g.id = 0 ∨ (lo < g.id ∧ g.id ≤ lo + 3) := by rw [hg]; exact .inr hid
      have hgk : Hid (KindOk g.k) := by rw [hg]; exact hkk
      have hgz : Hid (SizeOk g.s) := by rw [hg]; exact hss
      have hgs : Hid (∀ q, q < g.n → S ((fun i => if i < f.n then r i else (f.id : Int)) q) ∨ (fun i => if i < f.n then r i else (f.id : Int)) q = (g.id : Int)) := by rw [hg]; exact refs_own (f.id : Int) HS
      clear hg Bz Nz HZ hbz ho hgr fr2 h0
      obtain ⟨g0, g1, g2, g3, g4, g5, -⟩ := HF.out.fr
      obtain ⟨u0, u1, u2, u3, u4, u5, uz⟩ := HF.out.res
      simp only [Fr.zero] at u0 u1 u2 u3 u4 u5
      have uz0 := uz 0
      have uz1 := uz 1
      have uz2 := uz 2
      have uz3 := uz 3
      have uz4 := uz 4
      have uz5 := uz 5
      have HD : Hid (∀ v, NextIs D P lo S w (.returned (.tuple #[.agg #[.int .u32 (g.id : Int), .int .i64 g.k, .slice g.a g.n g.c, .int .i64 g.s, .int .i64 g.p, .int .i64 g.d], v])) ((((((z3.setCell ⟨w.heap.size, 0, none⟩ (.int .u32 (g.id : Int))).setCell ⟨w.heap.size, 1, none⟩ (.int .i64 g.k)).setCell ⟨w.heap.size, 2, none⟩ (.slice g.a g.n g.c)).setCell ⟨w.heap.size, 3, none⟩ (.int .i64 g.s)).setCell ⟨w.heap.size, 4, none⟩ (.int .i64 g.p)).setCell ⟨w.heap.size, 5, none⟩ (.int .i64 g.d))) := fun v => HF.out.done hg4 hgi hgk.out hgs.out hgz.out rfl
      have HW : Hid (FrAt ((((((z3.setCell ⟨w.heap.size, 0, none⟩ (.int .u32 (g.id : Int))).setCell ⟨w.heap.size, 1, none⟩ (.int .i64 g.k)).setCell ⟨w.heap.size, 2, none⟩ (.slice g.a g.n g.c)).setCell ⟨w.heap.size, 3, none⟩ (.int .i64 g.s)).setCell ⟨w.heap.size, 4, none⟩ (.int .i64 g.p)).setCell ⟨w.heap.size, 5, none⟩ (.int .i64 g.d)) w.heap.size g) := HF.out.res.write g
      clear uz HF HT BO hg4 hgi hgk hgs hgz HS hkk hss hid hn3
      go_wp2_with (at_builtin; refine Go.Lib.wpList_append_run _ rfl (.tmp 140) (.tmp 143) 23 23 rfl _ _ rfl rfl _ _ happ ?_)
      generalize ((((((z3.setCell ⟨w.heap.size, 0, none⟩ (.int .u32 (g.id : Int))).setCell ⟨w.heap.size, 1, none⟩ (.int .i64 g.k)).setCell ⟨w.heap.size, 2, none⟩ (.slice g.a g.n g.c)).setCell ⟨w.heap.size, 3, none⟩ (.int .i64 g.s)).setCell ⟨w.heap.size, 4, none⟩ (.int .i64 g.p)).setCell ⟨w.heap.size, 5, none⟩ (.int .i64 g.d)) = yz at *
      obtain ⟨p0, p1, p2, p3, p4, p5, -⟩ := HW.out
      refine bodyPost_ret (v := .tuple #[.agg #[.int .u32 (g.id : Int), .int .i64 g.k, .slice g.a g.n g.c, .int .i64 g.s, .int .i64 g.p, .int .i64 g.d], bv]) ?_ rfl (HD.out _)
      simp [results, Try.results14, go_sem, p0, p1, p2, p3, p4, p5]
    have e0 : ((v7 : Int) == 0) = false := by simp; omega
    by_cases h1 : v7 = 1
    · have e1 : ((v7 : Int) == 1) = true := by simp [h1]
      obtain ⟨z3, ez3⟩ : ∃ x, y9.setCell ⟨N, 5, none⟩ (.int .i64 (t : Int)) = x := ⟨_, rfl⟩
      have fz5 := fz 5
      obtain ⟨g, hg⟩ : ∃ g : Fr, g = { f with d := (t : Int) } := ⟨_, rfl⟩
      have HF : Hid (Nx D P w z3 N g r) := by rw [hg]; exact ez3 ▸ HT.out.store (HT.out.fr.setD (t : Int)) rfl
      have hg4 : g.n ≤ 4 := by rw [hg]; simp only; omega
      have hgi : g.id = 0 ∨ (lo < g.id ∧ g.id ≤ lo + 3) := by rw [hg]; exact .inr hid
      have hgk : Hid (KindOk g.k) := by rw [hg]; exact hkk
      have hgz : Hid (SizeOk g.s) := by rw [hg]; exact hss
      have hgs : Hid (∀ q, q < g.n → S (r q) ∨ r q = (g.id : Int)) := by rw [hg]; exact refs_old _ HS
      clear hg h0 h1 fz
      obtain ⟨g0, g1, g2, g3, g4, g5, -⟩ := HF.out.fr
      obtain ⟨u0, u1, u2, u3, u4, u5, uz⟩ := HF.out.res
      simp only [Fr.zero] at u0 u1 u2 u3 u4 u5
      have uz0 := uz 0
      have uz1 := uz 1
      have uz2 := uz 2
      have uz3 := uz 3
      have uz4 := uz 4
      have uz5 := uz 5
      have HD : Hid (∀ v, NextIs D P lo S w (.returned (.tuple #[.agg #[.int .u32 (g.id : Int), .int .i64 g.k, .slice g.a g.n g.c, .int .i64 g.s, .int .i64 g.p, .int .i64 g.d], v])) ((((((z3.setCell ⟨w.heap.size, 0, none⟩ (.int .u32 (g.id : Int))).setCell ⟨w.heap.size, 1, none⟩ (.int .i64 g.k)).setCell ⟨w.heap.size, 2, none⟩ (.slice g.a g.n g.c)).setCell ⟨w.heap.size, 3, none⟩ (.int .i64 g.s)).setCell ⟨w.heap.size, 4, none⟩ (.int .i64 g.p)).setCell ⟨w.heap.size, 5, none⟩ (.int .i64 g.d))) := fun v => HF.out.done hg4 hgi hgk.out hgs.out hgz.out rfl
      have HW : Hid (FrAt ((((((z3.setCell ⟨w.heap.size, 0, none⟩ (.int .u32 (g.id : Int))).setCell ⟨w.heap.size, 1, none⟩ (.int .i64 g.k)).setCell ⟨w.heap.size, 2, none⟩ (.slice g.a g.n g.c)).setCell ⟨w.heap.size, 3, none⟩ (.int .i64 g.s)).setCell ⟨w.heap.size, 4, none⟩ (.int .i64 g.p)).setCell ⟨w.heap.size, 5, none⟩ (.int .i64 g.d)) w.heap.size g) := HF.out.res.write g
      clear uz HF HT BO hg4 hgi hgk hgs hgz HS hkk hss hid hn3
      go_wp2
      generalize ((((((z3.setCell ⟨w.heap.size, 0, none⟩ (.int .u32 (g.id : Int))).setCell ⟨w.heap.size, 1, none⟩ (.int .i64 g.k)).setCell ⟨w.heap.size, 2, none⟩ (.slice g.a g.n g.c)).setCell ⟨w.heap.size, 3, none⟩ (.int .i64 g.s)).setCell ⟨w.heap.size, 4, none⟩ (.int .i64 g.p)).setCell ⟨w.heap.size, 5, none⟩ (.int .i64 g.d)) = yz at *
      obtain ⟨p0, p1, p2, p3, p4, p5, -⟩ := HW.out
      refine bodyPost_ret (v := .tuple #[.agg #[.int .u32 (g.id : Int), .int .i64 g.k, .slice g.a g.n g.c, .int .i64 g.s, .int .i64 g.p, .int .i64 g.d], bv]) ?_ rfl (HD.out _)
      simp [results, Try.results14, go_sem, p0, p1, p2, p3, p4, p5]
    have e1 : ((v7 : Int) == 1) = false := by simp; omega
    by_cases h2 : v7 = 2
    · have e2 : ((v7 : Int) == 2) = true := by simp [h2]
      obtain ⟨z1, ez1⟩ : ∃ x, y9.alloc (.cells #[.int .u8 1] 5) = x := ⟨_, rfl⟩
      have Bz : Below y9.heap.size y9 z1 := ez1 ▸ box_below y9 _
      have HZ := HT.out.grew Bz
      obtain ⟨i0, hi, hz0, hz1, hz2⟩ := info_parts Try.infoByte
      have BZ : z1.ownsRow (N + 1) 5 1 bv s bxs := by
        refine World.ownsRow.kept (row := none) BO.out ⟨Bz.os, Bz.tape, Bz.output, Bz.size, fun k hk _ => Bz.block k hk⟩ ?_
        cases e : bv.ownBlock with
        | none => exact .inl rfl
        | some g => exact .inr (by simp)
      obtain ⟨v', z3, happ, ho, hgr, -, -⟩ := run_append_own_at (P := Try.prog) z1 (N + 1) 26 26 5 i0 (.int .u8 0) 1 1 Try.underlying26 hi hz0 hz1 hz2 rfl (by decide) bv s bxs BZ ⟨y9.heap.size, 0, none⟩ 1 1 [.int .u8 1] rfl
        (fun j u hj => by
          cases j with
          | zero => cases hj; rw [← ez1]; show (y9.alloc _).cell? ⟨y9.heap.size, 0, none⟩ = _; rw [World.cell?_alloc_at _ _ _ _ rfl]; rfl
          | succ j => simp at hj) (by intro u hu; simp at hu; subst hu; rfl) (by unfold maxLen; omega) (by omega) (by have := HZ.fr.lt; omega)
      have hbz : Below (N + 1) z1 z3 := ⟨hgr.os, hgr.tape, hgr.output, hgr.size, fun k hk => hgr.block k (by have := HZ.fr.lt; omega) (fun e => by have := (BZ.lt k e.symm).1; omega)⟩
      have HF0 : Nx D P w z3 N f r := by
        have hl := HZ.lt
        obtain ⟨pp, hpp⟩ := HZ.ch.picks
        refine ⟨⟨⟨hbz.os.trans HZ.ch.kept.os, hbz.tape.trans HZ.ch.kept.tape, hbz.output.trans HZ.ch.kept.output, Nat.le_trans HZ.ch.kept.size hbz.size, fun k hk hR => (hbz.block k (by omega)).trans (HZ.ch.kept.block k hk hR)⟩, pp, hpp.below (hbz.mono (by have := HZ.lD; omega))⟩, HZ.res.block (hbz.block _ (by omega)), HZ.fr.block (hbz.block _ (Nat.lt_succ_self _)), ?_, hl, HZ.lP, HZ.lD⟩
        have u : z1.ownsRow (N + 1) 22 1 (.slice f.a f.n f.c) f.n (ucells r f.n) := HZ.own
        refine World.ownsRow.kept (row := bv.ownBlock) u hgr ?_
        cases e : (Value.slice f.a f.n f.c).ownBlock with
        | none => exact .inl rfl
        | some g => exact .inr (fun e2 => HO.out g e e2.symm)
      obtain ⟨g, hg⟩ : ∃ g : Fr, g = f := ⟨_, rfl⟩
      have HF : Hid (Nx D P w z3 N g r) := by rw [hg]; exact HF0
      have hg4 : g.n ≤ 4 := by rw [hg]; omega
      have hgi : g.id = 0 ∨ (lo < g.id ∧ g.id ≤ lo + 3) := by rw [hg]; exact .inr hid
      have hgk : Hid (KindOk g.k) := by rw [hg]; exact hkk
      have hgz : Hid (SizeOk g.s) := by rw [hg]; exact hss
      have hgs : Hid (∀ q, q < g.n → S (r q) ∨ r q = (g.id : Int)) := by rw [hg]; exact refs_old _ HS
      clear hg h0 h1 h2 Bz HZ BZ ho hgr hbz HF0 hi hz0 hz1 hz2 fz
      obtain ⟨g0, g1, g2, g3, g4, g5, -⟩ := HF.out.fr
      obtain ⟨u0, u1, u2, u3, u4, u5, uz⟩ := HF.out.res
      simp only [Fr.zero] at u0 u1 u2 u3 u4 u5
      have uz0 := uz 0
      have uz1 := uz 1
      have uz2 := uz 2
      have uz3 := uz 3
      have uz4 := uz 4
      have uz5 := uz 5
      have HD : Hid (∀ v, NextIs D P lo S w (.returned (.tuple #[.agg #[.int .u32 (g.id : Int), .int .i64 g.k, .slice g.a g.n g.c, .int .i64 g.s, .int .i64 g.p, .int .i64 g.d], v])) ((((((z3.setCell ⟨w.heap.size, 0, none⟩ (.int .u32 (g.id : Int))).setCell ⟨w.heap.size, 1, none⟩ (.int .i64 g.k)).setCell ⟨w.heap.size, 2, none⟩ (.slice g.a g.n g.c)).setCell ⟨w.heap.size, 3, none⟩ (.int .i64 g.s)).setCell ⟨w.heap.size, 4, none⟩ (.int .i64 g.p)).setCell ⟨w.heap.size, 5, none⟩ (.int .i64 g.d))) := fun v => HF.out.done hg4 hgi hgk.out hgs.out hgz.out rfl
      have HW : Hid (FrAt ((((((z3.setCell ⟨w.heap.size, 0, none⟩ (.int .u32 (g.id : Int))).setCell ⟨w.heap.size, 1, none⟩ (.int .i64 g.k)).setCell ⟨w.heap.size, 2, none⟩ (.slice g.a g.n g.c)).setCell ⟨w.heap.size, 3, none⟩ (.int .i64 g.s)).setCell ⟨w.heap.size, 4, none⟩ (.int .i64 g.p)).setCell ⟨w.heap.size, 5, none⟩ (.int .i64 g.d)) w.heap.size g) := HF.out.res.write g
      clear uz HF HT BO hg4 hgi hgk hgs hgz HS hkk hss hid hn3
      go_wp2_with (at_builtin; refine Go.Lib.wpList_append_run _ rfl (.tmp 152) (.tmp 153) 26 26 rfl _ _ rfl rfl _ _ happ ?_)
      generalize ((((((z3.setCell ⟨w.heap.size, 0, none⟩ (.int .u32 (g.id : Int))).setCell ⟨w.heap.size, 1, none⟩ (.int .i64 g.k)).setCell ⟨w.heap.size, 2, none⟩ (.slice g.a g.n g.c)).setCell ⟨w.heap.size, 3, none⟩ (.int .i64 g.s)).setCell ⟨w.heap.size, 4, none⟩ (.int .i64 g.p)).setCell ⟨w.heap.size, 5, none⟩ (.int .i64 g.d)) = yz at *
      obtain ⟨p0, p1, p2, p3, p4, p5, -⟩ := HW.out
      refine bodyPost_ret (v := .tuple #[.agg #[.int .u32 (g.id : Int), .int .i64 g.k, .slice g.a g.n g.c, .int .i64 g.s, .int .i64 g.p, .int .i64 g.d], v']) ?_ rfl (HD.out _)
      simp [results, Try.results14, go_sem, p0, p1, p2, p3, p4, p5]
    have e2 : ((v7 : Int) == 2) = false := by simp; omega
    by_cases h3 : v7 = 3
    · have e3 : ((v7 : Int) == 3) = true := by simp [h3]
      obtain ⟨z3, ez3⟩ : ∃ x, y9.setCell ⟨N, 0, none⟩ (.int .u32 0) = x := ⟨_, rfl⟩
      have fz0 := fz 0
      obtain ⟨g, hg⟩ : ∃ g : Fr, g = { f with id := 0 } := ⟨_, rfl⟩
      have HF : Hid (Nx D P w z3 N g r) := by rw [hg]; exact ez3 ▸ HT.out.store (HT.out.fr.setId 0) rfl
      have hg4 : g.n ≤ 4 := by rw [hg]; simp only; omega
      have hgi : g.id = 0 ∨ (lo < g.id ∧ g.id ≤ lo + 3) := by rw [hg]; exact .inl rfl
      have hgk : Hid (KindOk g.k) := by rw [hg]; exact hkk
      have hgz : Hid (SizeOk g.s) := by rw [hg]; exact hss
      have hgs : Hid (∀ q, q < g.n → S (r q) ∨ r q = (g.id : Int)) := by rw [hg]; exact refs_old _ HS
      clear hg h0 h1 h2 h3 fz
      obtain ⟨g0, g1, g2, g3, g4, g5, -⟩ := HF.out.fr
      obtain ⟨u0, u1, u2, u3, u4, u5, uz⟩ := HF.out.res
      simp only [Fr.zero] at u0 u1 u2 u3 u4 u5
      have uz0 := uz 0
      have uz1 := uz 1
      have uz2 := uz 2
      have uz3 := uz 3
      have uz4 := uz 4
      have uz5 := uz 5
      have HD : Hid (∀ v, NextIs D P lo S w (.returned (.tuple #[.agg #[.int .u32 (g.id : Int), .int .i64 g.k, .slice g.a g.n g.c, .int .i64 g.s, .int .i64 g.p, .int .i64 g.d], v])) ((((((z3.setCell ⟨w.heap.size, 0, none⟩ (.int .u32 (g.id : Int))).setCell ⟨w.heap.size, 1, none⟩ (.int .i64 g.k)).setCell ⟨w.heap.size, 2, none⟩ (.slice g.a g.n g.c)).setCell ⟨w.heap.size, 3, none⟩ (.int .i64 g.s)).setCell ⟨w.heap.size, 4, none⟩ (.int .i64 g.p)).setCell ⟨w.heap.size, 5, none⟩ (.int .i64 g.d))) := fun v => HF.out.done hg4 hgi hgk.out hgs.out hgz.out rfl
      have HW : Hid (FrAt ((((((z3.setCell ⟨w.heap.size, 0, none⟩ (.int .u32 (g.id : Int))).setCell ⟨w.heap.size, 1, none⟩ (.int .i64 g.k)).setCell ⟨w.heap.size, 2, none⟩ (.slice g.a g.n g.c)).setCell ⟨w.heap.size, 3, none⟩ (.int .i64 g.s)).setCell ⟨w.heap.size, 4, none⟩ (.int .i64 g.p)).setCell ⟨w.heap.size, 5, none⟩ (.int .i64 g.d)) w.heap.size g) := HF.out.res.write g
      clear uz HF HT BO hg4 hgi hgk hgs hgz HS hkk hss hid hn3
      go_wp2
      generalize ((((((z3.setCell ⟨w.heap.size, 0, none⟩ (.int .u32 (g.id : Int))).setCell ⟨w.heap.size, 1, none⟩ (.int .i64 g.k)).setCell ⟨w.heap.size, 2, none⟩ (.slice g.a g.n g.c)).setCell ⟨w.heap.size, 3, none⟩ (.int .i64 g.s)).setCell ⟨w.heap.size, 4, none⟩ (.int .i64 g.p)).setCell ⟨w.heap.size, 5, none⟩ (.int .i64 g.d)) = yz at *
      obtain ⟨p0, p1, p2, p3, p4, p5, -⟩ := HW.out
      refine bodyPost_ret (v := .tuple #[.agg #[.int .u32 (g.id : Int), .int .i64 g.k, .slice g.a g.n g.c, .int .i64 g.s, .int .i64 g.p, .int .i64 g.d], bv]) ?_ rfl (HD.out _)
      simp [results, Try.results14, go_sem, p0, p1, p2, p3, p4, p5]
    · have e3 : ((v7 : Int) == 3) = false := by simp; omega
      obtain ⟨g, hg⟩ : ∃ g : Fr, g = f := ⟨_, rfl⟩
      have HF : Hid (Nx D P w y9 N g r) := by rw [hg]; exact HT.out
      have hg4 : g.n ≤ 4 := by rw [hg]; omega
      have hgi : g.id = 0 ∨ (lo < g.id ∧ g.id ≤ lo + 3) := by rw [hg]; exact .inr hid
      have hgk : Hid (KindOk g.k) := by rw [hg]; exact hkk
      have hgz : Hid (SizeOk g.s) := by rw [hg]; exact hss
      have hgs : Hid (∀ q, q < g.n → S (r q) ∨ r q = (g.id : Int)) := by rw [hg]; exact refs_old _ HS
      subst hg
      clear h0 h1 h2 h3 fz f0 f1 f2 f3 f4 f5 r0 r1 r2 r3 r4 r5 rz
      obtain ⟨g0, g1, g2, g3, g4, g5, -⟩ := HF.out.fr
      obtain ⟨u0, u1, u2, u3, u4, u5, uz⟩ := HF.out.res
      simp only [Fr.zero] at u0 u1 u2 u3 u4 u5
      have uz0 := uz 0
      have uz1 := uz 1
      have uz2 := uz 2
      have uz3 := uz 3
      have uz4 := uz 4
      have uz5 := uz 5
      have HD : Hid (∀ v, NextIs D P lo S w (.returned (.tuple #[.agg #[.int .u32 (g.id : Int), .int .i64 g.k, .slice g.a g.n g.c, .int .i64 g.s, .int .i64 g.p, .int .i64 g.d], v])) ((((((y9.setCell ⟨w.heap.size, 0, none⟩ (.int .u32 (g.id : Int))).setCell ⟨w.heap.size, 1, none⟩ (.int .i64 g.k)).setCell ⟨w.heap.size, 2, none⟩ (.slice g.a g.n g.c)).setCell ⟨w.heap.size, 3, none⟩ (.int .i64 g.s)).setCell ⟨w.heap.size, 4, none⟩ (.int .i64 g.p)).setCell ⟨w.heap.size, 5, none⟩ (.int .i64 g.d))) := fun v => HF.out.done hg4 hgi hgk.out hgs.out hgz.out rfl
      have HW : Hid (FrAt ((((((y9.setCell ⟨w.heap.size, 0, none⟩ (.int .u32 (g.id : Int))).setCell ⟨w.heap.size, 1, none⟩ (.int .i64 g.k)).setCell ⟨w.heap.size, 2, none⟩ (.slice g.a g.n g.c)).setCell ⟨w.heap.size, 3, none⟩ (.int .i64 g.s)).setCell ⟨w.heap.size, 4, none⟩ (.int .i64 g.p)).setCell ⟨w.heap.size, 5, none⟩ (.int .i64 g.d)) w.heap.size g) := HF.out.res.write g
      clear uz HF BO hg4 hgi hgk hgs hgz HS hkk hss hid hn3
      go_wp2
      generalize ((((((y9.setCell ⟨w.heap.size, 0, none⟩ (.int .u32 (g.id : Int))).setCell ⟨w.heap.size, 1, none⟩ (.int .i64 g.k)).setCell ⟨w.heap.size, 2, none⟩ (.slice g.a g.n g.c)).setCell ⟨w.heap.size, 3, none⟩ (.int .i64 g.s)).setCell ⟨w.heap.size, 4, none⟩ (.int .i64 g.p)).setCell ⟨w.heap.size, 5, none⟩ (.int .i64 g.d)) = yz at *
      obtain ⟨p0, p1, p2, p3, p4, p5, -⟩ := HW.out
      refine bodyPost_ret (v := .tuple #[.agg #[.int .u32 (g.id : Int), .int .i64 g.k, .slice g.a g.n g.c, .int .i64 g.s, .int .i64 g.p, .int .i64 g.d], bv]) ?_ rfl (HD.out _)
      simp [results, Try.results14, go_sem, p0, p1, p2, p3, p4, p5]
end Go.Proofs.Ythlidbenhlidjaa
