/-
  Several texts, one behind the other.
-/
import Derived.Test.YthlidbenhlidjaaJ5
import Derived.Test.YthlidbenhlidjaaJ1
import Derived.Lib.SlBytesConst
/-
  Package pack: the packets of one frame.
-/
namespace Go.Proofs.Ythlidbenhlidjaa
open Go.RowKit Go.Deep

theorem IntsAt.below {w w' : World} {a : Option Addr} {m B : Nat} {z : Nat → Int} (h : IntsAt w a m z) (hb : Below B w w') (hB : w.heap.size ≤ B) : IntsAt w' a m z := fun h0 => by
  obtain ⟨b, o, e, hc⟩ := h h0
  exact ⟨b, o, e, fun i hi => (hb.cell (p := ⟨b, o + i, none⟩) (Nat.lt_of_lt_of_le (cell_lt (hc i hi)) hB)).trans (hc i hi)⟩
theorem IntsAt.addr {w : World} {a : Option Addr} {m : Nat} {z : Nat → Int} (h : IntsAt w a m z) (h0 : 0 < m) : ∃ b o, a = some ⟨b, o, none⟩ := by
  obtain ⟨b, o, e, -⟩ := h h0
  exact ⟨b, o, e⟩
theorem IntsAt.at {w : World} {b o m : Nat} {z : Nat → Int} (h : IntsAt w (some ⟨b, o, none⟩) m z) (i : Nat) (hi : i < m) : w.cell? ⟨b, o + i, none⟩ = some (.int .i64 (z i)) := by
  obtain ⟨b', o', e, hc⟩ := h (by omega)
  cases e
  exact hc i hi
theorem FldIs.below {w w' : World} {fv : Option Addr} {b : Bool} {B : Nat} (h : FldIs w fv b) (hb : Below B w w') (hB : w.heap.size ≤ B) : FldIs w' fv b :=
  ⟨fun e => by obtain ⟨p, e1, h1⟩ := h.1 e; exact ⟨p, e1, h1.below hb (Nat.lt_of_lt_of_le h1.lt hB)⟩, h.2⟩

/-- What is asked for may be, each of m. -/
def Fit (b : Bool) (n : Nat) (s : Int) (z : Nat → Int) (m : Nat) : Prop := ∀ i, i < m → b = true ∧ fitS n s (z i)
/-- What each packet tells. -/
def Told15 (m q t f s : Nat) (z : Nat → Int) (K : Nat → Dt) : Prop := ∀ i, i < m → (K i).s = (q + i) % 65536 ∧ (K i).t = t ∧ (K i).f = f ∧ (K i).y = (z i).toNat ∧ (K i).n = s
theorem Told15.nil (q t f s : Nat) (z : Nat → Int) (K : Nat → Dt) : Told15 0 q t f s z K := fun i hi => absurd hi (Nat.not_lt_zero i)
theorem Told15.push {m q t f s : Nat} {z : Nat → Int} {K : Nat → Dt} (h : Told15 m q t f s z K) (d : Dt) (hd : d.s = (q + m) % 65536 ∧ d.t = t ∧ d.f = f ∧ d.y = (z m).toNat ∧ d.n = s) : Told15 (m + 1) q t f s z (fun i => if i < m then K i else d) := fun i hi => by
  by_cases e : i < m
  · simp only [if_pos e]; exact h i e
  · obtain rfl : i = m := by omega
    simp only [if_neg e]; exact hd
/-- m packets were answered, behind what stood in w0. -/
def PksYes (D base : Nat) (w0 : World) (m q t f n : Nat) (s : Int) (x : Nat → Nat) (z : Nat → Int) (e : Ending) (w' : World) : Prop :=
  ∃ v K, e = .returned (.tuple #[v, .bool true]) ∧ Dts w' base v m K (fun i => symOf f x n s.toNat (z i).toNat) ∧ Told15 m q t f s.toNat z K ∧ Below D w0 w'
def PksNo (D : Nat) (w0 : World) (e : Ending) (w' : World) : Prop := e = .returned (.tuple #[.slice none 0 0, .bool false]) ∧ Below D w0 w'

/-- One packet, of what may be. -/
theorem next_fit (N : Nat) (fv : Option Addr) (b : Bool) (f : Nat) (a : Option Addr) (n c : Nat) (s : Int) (q t : Nat) (z : Int) (x : Nat → Nat) (w : World) (h : PkrAt w N fv f a n c s q t) (hF : FldIs w fv b) (hx : BytesAt w a n x) (hc : n ≤ c) (hf : f < 4294967296) (hq : q < 65536) (hfit : b = true ∧ fitS n s z) :
    Calls Try.prog 20 #[.pointer (some ⟨N, 0, none⟩), .int .i64 z] w fun e w' => NextYes w N fv f a n c s.toNat q t z.toNat (symOf f x n s.toNat z.toNat) e w' := by
  obtain ⟨hb, ⟨s1, s2, n1, n2⟩, z1, z2⟩ := hfit
  obtain ⟨p, rfl, hp⟩ := hF.1 hb
  obtain ⟨m, rfl⟩ : ∃ m : Nat, s = m := ⟨s.toNat, by omega⟩
  obtain ⟨i, rfl⟩ : ∃ i : Nat, z = i := ⟨z.toNat, by omega⟩
  simp only [Int.toNat_natCast] at z2 ⊢
  exact next_yes N p f n c m q t _ i _ a x w rfl h hp hx hc hf hq (by omega) (by omega) (by omega) (by omega) rfl (by omega)

set_option maxRecDepth 100000 in
set_option maxHeartbeats 2000000 in
theorem each_any (D N : Nat) (fv : Option Addr) (b : Bool) (f : Nat) (a : Option Addr) (n c : Nat) (s : Int) (q t : Nat) (ia : Option Addr) (m ic : Nat) (z : Nat → Int) (x : Nat → Nat) (w0 w : World) (h : PkrAt w N fv f a n c s q t) (hF : FldIs w0 fv b) (hx : BytesAt w0 a n x) (hz : IntsAt w0 ia m z) (hb : Below D w0 w) (hD : w0.heap.size = D) (hN : D ≤ N) (hm : m ≤ 1000) (hc : n ≤ c) (hf : f < 4294967296) (hq : q < 65536) :
    Calls Try.prog 19 #[.slice ia m ic, .func (.func 20) #[.pointer (some ⟨N, 0, none⟩)] #[]] w fun e w' => (Fit b n s z m ∧ PksYes D (N + 1) w0 m q t f n s x z e w') ∨ (¬ Fit b n s z m ∧ PksNo D w0 e w') := by
  have HP : Hid (PkrAt w N fv f a n c s ((q + 0) % 65536) t) := by
    show PkrAt w N fv f a n c s ((q + 0) % 65536) t
    rw [Nat.add_zero, Nat.mod_eq_of_lt hq]; exact h
  have HF : Hid (FldIs w0 fv b) := hF
  have HX : Hid (BytesAt w0 a n x) := hx
  have HZ : Hid (IntsAt w0 ia m z) := hz
  have HB : Hid (Below D w0 w) := hb
  have HD : Hid (w0.heap.size = D) := hD
  have HL : Hid (N + 1 ≤ w.heap.size) := h.lt
  clear h hF hx hz hb hD
  go_enter Try.func19, Try.ntmps19
  go_wp2_with fail
  go_loopw [6, 13] (fun l i wr => ∃ (j : Nat) (K : Nat → Dt), i = .int .i64 j ∧ j ≤ m ∧ Hid (Fit b n s z j) ∧ Hid (Dts wr (N + 1) l j K (fun i => symOf f x n s.toNat (z i).toNat)) ∧ Hid (Told15 j q t f s.toNat z K) ∧ Hid (PkrAt wr N fv f a n c s ((q + j) % 65536) t) ∧ Hid (Below D w0 wr)) (fun _ i _ => m - (intOf i).toNat)
  case atStart => exact ⟨0, fun _ => ⟨0, 0, 0, 0, none, 0, 0⟩, rfl, Nat.zero_le _, fun i hi => absurd hi (Nat.not_lt_zero i), Dts.nil _ _ _ _, Told15.nil _ _ _ _ _ _, HP, HB⟩
  case round =>
    clear HP HB HL
    obtain ⟨j, K, rfl, hj, hfit, hds, htl, hpk, hbl⟩ := hrel
    by_cases hjm : j < m
    case neg =>
      obtain rfl : j = m := by omega
      have j1 : decide ((j : Int) < (j : Int)) = false := by simp
      obtain ⟨r, cap, rfl, -⟩ := hds.out.row.any
      go_wp2
      go_ret2
      exact .inl ⟨hfit.out, _, K, rfl, hds.out, htl.out, hbl.out⟩
    have j1 : (j : Int) < (m : Int) := by omega
    obtain ⟨ib, io, rfl⟩ := HZ.out.addr (by omega)
    have c1 := (HZ.out.below hbl.out (by rw [HD.out]; exact Nat.le_refl _)).at j hjm
    have F1 : Hid (FldIs wr fv b) := HF.out.below hbl.out (by rw [HD.out]; exact Nat.le_refl _)
    have X1 : Hid (BytesAt wr a n x) := HX.out.below hbl.out (by rw [HD.out]; exact Nat.le_refl _)
    obtain ⟨r, cap, rfl, -, hrb⟩ := hds.out.row.any
    have HRB : Hid (∀ b o, r = some ⟨b, o, none⟩ → N + 1 ≤ b ∧ b < wr.heap.size) := hrb
    have lw : Hid (N < wr.heap.size) := hpk.out.lt
    have hq2 : Hid ((q + j) % 65536 < 65536) := Nat.mod_lt _ (by decide)
    have HQ3 : Hid (((q + j) % 65536 + 1) % 65536 = (q + (j + 1)) % 65536) := by show ((q + j) % 65536 + 1) % 65536 = (q + (j + 1)) % 65536; omega
    have HQ4 : Hid ((q + j) % 65536 = (q + j) % 65536) := rfl
    clear hrb
    obtain ⟨zj, hzj⟩ : ∃ zj, zj = z j := ⟨_, rfl⟩
    have HZJ : Hid (zj = z j) := hzj
    rw [← hzj] at c1
    clear hzj
    obtain ⟨qj, hqj⟩ : ∃ qj, qj = (q + j) % 65536 := ⟨_, rfl⟩
    have hpk : Hid (PkrAt wr N fv f a n c s qj t) := by rw [hqj]; exact hpk
    have HQJ : Hid (qj = (q + j) % 65536) := hqj
    have hq2 : Hid (qj < 65536) := by rw [hqj]; exact hq2
    have HQ3 : Hid ((qj + 1) % 65536 = (q + (j + 1)) % 65536) := by rw [hqj]; exact HQ3
    clear hqj HQ4
    by_cases hs : b = true ∧ fitS n s zj
    case neg =>
      have HNO : Hid (¬ (b = true ∧ fitS n s zj)) := hs
      have HNF : Hid (¬ Fit b n s z m) := fun hh => hs (by have := HZJ.out; subst this; exact hh j hjm)
      clear hs
      go_wp2_with fail
      refine (next_no N fv b f a n c s qj t zj x _ hpk.out F1.out X1.out hc HNO.out).mono ?_
      rintro e w2 ⟨rfl, b2⟩
      have HB2 : Hid (Below D w0 (w2.alloc (.cells #[.int .u16 0, .int .u16 0, .int .u32 0, .int .u16 0, .slice none 0 0] 40))) := (hbl.out.trans (b2.mono (by have := lw.out; omega))).alloc (by have := lw.out; have := b2.size; omega) _
      clear b2
      go_wp2
      go_ret2
      exact .inr ⟨HNF.out, rfl, HB2.out⟩
    have HS : Hid (b = true ∧ fitS n s zj) := hs
    clear hs
    go_wp2_with fail
    refine (next_fit N fv b f a n c s qj t zj x _ hpk.out F1.out X1.out hc hf hq2.out HS.out).mono ?_
    rintro e w2 ⟨g, rfl, g1, g2, Y2, P2, k2⟩
    have HS0 : Hid (((s.toNat : Nat) : Int) = s) := Int.toNat_of_nonneg (by have := HS.out.2.1.1; omega)
    rw [HS0.out, HQ3.out] at P2
    obtain ⟨S, hS⟩ : ∃ S, S = s.toNat := ⟨_, rfl⟩
    have HSS : Hid (S = s.toNat) := hS
    rw [← hS] at Y2 ⊢
    obtain ⟨Z, hZ⟩ : ∃ Z, Z = zj.toNat := ⟨_, rfl⟩
    have HZZ : Hid (Z = zj.toNat) := hZ
    rw [← hZ] at Y2 ⊢
    clear hS hZ
    have HB2 : Hid (Below D w0 w2) := hbl.out.trans (k2.below hN (by have := lw.out; omega))
    have HD2 : Hid (Dts w2 (N + 1) (.slice r j cap) j K (fun i => symOf f x n s.toNat (z i).toNat)) := hds.out.kept k2 (Nat.lt_succ_self _)
    have HP2 : Hid (PkrAt w2 N fv f a n c s ((q + (j + 1)) % 65536) t) := P2
    have HY2 : Hid (BytesAt w2 (some ⟨g, 0, none⟩) S (symOf f x n S Z)) := Y2
    have HG2 : Hid (wr.heap.size ≤ g ∧ g < w2.heap.size) := ⟨g1, g2⟩
    have HL2 : Hid (N < wr.heap.size ∧ wr.heap.size ≤ w2.heap.size) := ⟨lw.out, k2.size⟩
    obtain ⟨d, hd⟩ : ∃ d : Dt, d = ⟨qj, t, f, Z, some ⟨g, 0, none⟩, S, S⟩ := ⟨_, rfl⟩
    obtain ⟨y0, e0⟩ : ∃ y, w2.alloc (.cells #[.int .u16 (qj : Int), .int .u16 (t : Int), .int .u32 (f : Int), .int .u16 (Z : Int), .slice (some ⟨g, 0, none⟩) S S] 40) = y := ⟨_, rfl⟩
    have B0 : Below w2.heap.size w2 y0 := e0 ▸ (Below.refl _ _).alloc (Nat.le_refl _) _
    have D0 : DatAt y0 w2.heap.size qj t f Z (some ⟨g, 0, none⟩) S S := e0 ▸ DatAt.made w2 _ qj t f Z (some ⟨g, 0, none⟩) S S
    obtain ⟨y1, e1⟩ : ∃ y, y0.alloc (.cells #[.int .u16 (qj : Int), .int .u16 (t : Int), .int .u32 (f : Int), .int .u16 (Z : Int), .slice (some ⟨g, 0, none⟩) S S] 40) = y := ⟨_, rfl⟩
    have B1 : Below y0.heap.size y0 y1 := e1 ▸ (Below.refl _ _).alloc (Nat.le_refl _) _
    have D1 : DatAt y1 y0.heap.size qj t f Z (some ⟨g, 0, none⟩) S S := e1 ▸ DatAt.made y0 _ qj t f Z (some ⟨g, 0, none⟩) S S
    have B01 : Below w2.heap.size w2 y1 := B0.trans (B1.mono B0.size)
    have BD : Bdy y1 (N + 1) (.slice r j cap) d (symOf f x n S Z) := by
      rw [hd]
      refine Bdy.grew ⟨⟨g, rfl, by have := HL2.out; have := HG2.out; omega, HG2.out.2, fun e2 => ?_⟩, HY2.out⟩ B01
      have q1 := (World.ownsRow.lt hds.out.row g e2).2
      have := HG2.out.1
      omega
    obtain ⟨v', y2, happ, D2, b2, hgr⟩ := Dts.push (d := d) 31 (HD2.out.grew B01) (by rw [hd]; exact D1) BD (by omega) (by have := HL2.out; have := B01.size; omega)
    have HD3 : Hid (Dts y2 (N + 1) v' (j + 1) (fun i => if i < j then K i else d) (fun i => symOf f x n s.toNat (z i).toNat)) := by
      refine ⟨D2.row, fun i hi => ?_⟩
      have := D2.body i hi
      by_cases e : i < j
      · simp only [if_pos e] at this ⊢; exact this
      · obtain rfl : i = j := by omega
        simp only [if_neg e] at this ⊢
        rw [← HSS.out, ← HZJ.out, ← HZZ.out]
        exact this
    have HT3 : Hid (Told15 (j + 1) q t f s.toNat z (fun i => if i < j then K i else d)) := htl.out.push d (by rw [hd]; exact ⟨HQJ.out, rfl, rfl, by rw [← HZJ.out, ← HZZ.out], HSS.out⟩)
    have HP3 : Hid (PkrAt y2 N fv f a n c s ((q + (j + 1)) % 65536) t) := (HP2.out.grew B01).block (b2.block N (Nat.lt_succ_self _))
    have HB3 : Hid (Below D w0 y2) := (HB2.out.trans (B01.mono (by have := HL2.out; omega))).trans (b2.mono (by omega))
    have HFT : Hid (Fit b n s z (j + 1)) := fun i hi => by
      by_cases e : i = j
      · subst e
        rw [← HZJ.out]
        exact HS.out
      · exact hfit.out i (by omega)
    obtain ⟨r', cap', rfl, -⟩ := D2.row.any
    obtain ⟨f0, f1, f2, f3, f4, fz⟩ := D0
    clear fz B0 B1 B01 BD D1 D2 b2 hgr HD2 HP2 HB2 HY2 HG2 hd HQ3 HQJ HZJ HZZ HSS hpk hds htl hfit F1 X1 hbl HS HS0 hq2 HRB P2 Y2 k2 g1 g2 lw
    go_wp2_with (at_builtin; refine Go.Lib.wpList_append_run _ rfl (.tmp 25) (.tmp 27) 31 31 rfl _ _ rfl rfl _ _ happ ?_)
    go_roundw
    case rel => exact ⟨j + 1, _, by go_num, by omega, HFT, HD3, HT3, HP3, HB3⟩
    case measure => simp [intOf]; omega

/-- What Packets answers. -/
def PacksIs (w : World) (b : Bool) (m q t f n : Nat) (size s : Int) (x : Nat → Nat) (z : Nat → Int) (e : Ending) (w' : World) : Prop :=
  ((size = (n : Int) ∧ Fit b n s z m) ∧ PksYes w.heap.size w.heap.size w m q t f n s x z e w') ∨ (¬ (size = (n : Int) ∧ Fit b n s z m) ∧ PksNo w.heap.size w e w')

set_option maxRecDepth 100000 in
set_option maxHeartbeats 1000000 in
theorem packets_any (fv : Option Addr) (b : Bool) (F : Fr) (a : Option Addr) (n c : Nat) (s : Int) (ia : Option Addr) (m ic q t : Nat) (z : Nat → Int) (x : Nat → Nat) (w : World) (hF : FldIs w fv b) (hx : BytesAt w a n x) (hz : IntsAt w ia m z) (hm : m ≤ 1000) (hc : n ≤ c) (hf : F.id < 4294967296) (hq : q < 65536) :
    Calls Try.prog 8 #[.pointer fv, F.val, .slice a n c, .int .i64 s, .slice ia m ic, .int .u16 (q : Int), .int .u16 (t : Int)] w (PacksIs w b m q t F.id n F.s s x z) := by
  have hmf : ∀ (fn : Fn) (first cap : Array Value) (w : World), (Instr.makeFunc fn first cap).run Try.prog w = .ok (.func fn first cap) w := fun _ _ _ _ => rfl
  have HF : Hid (FldIs w fv b) := hF
  have HX : Hid (BytesAt w a n x) := hx
  have HZ : Hid (IntsAt w ia m z) := hz
  clear hF hx hz
  obtain ⟨w1, e1⟩ : ∃ y, w.alloc (.cells #[.int .u32 (F.id : Int), .int .i64 F.k, .slice F.a F.n F.c, .int .i64 F.s, .int .i64 F.p, .int .i64 F.d] 25) = y := ⟨_, rfl⟩
  have B1 : Below w.heap.size w w1 := e1 ▸ (Below.refl _ _).alloc (Nat.le_refl _) _
  have F1 : FrAt w1 w.heap.size F := e1 ▸ FrAt.made w _ F
  obtain ⟨w2, e2⟩ : ∃ y, w1.alloc (.cells #[.pointer fv, .int .u32 (F.id : Int), .slice a n c, .int .i64 s, .int .u16 (q : Int), .int .u16 (t : Int)] 56) = y := ⟨_, rfl⟩
  have B2 : Below w1.heap.size w1 w2 := e2 ▸ (Below.refl _ _).alloc (Nat.le_refl _) _
  have P2 : Hid (PkrAt w2 w1.heap.size fv F.id a n c s q t) := e2 ▸ PkrAt.made w1 _ fv F.id a n c s q t
  have HB1 : Hid (Below w.heap.size w w1) := B1
  have HB2 : Hid (Below w.heap.size w w2) := B1.trans (B2.mono B1.size)
  have HS : Hid (w.heap.size ≤ w1.heap.size) := B1.size
  obtain ⟨f0, f1, f2, f3, f4, f5, -⟩ := F1
  clear B1 B2
  unfold Fr.val
  by_cases hs : F.s = (n : Int)
  case neg =>
    have HN : Hid (¬ (F.s = (n : Int) ∧ Fit b n s z m)) := fun h => hs h.1
    have h1 : ((n : Int) != F.s) = true := by simp; omega
    clear hs
    go_enter Try.func8, Try.ntmps8
    go_wp2
    go_ret2
    exact .inr ⟨HN.out, rfl, HB1.out⟩
  have HSN : Hid (F.s = (n : Int)) := hs
  have h1 : ((n : Int) != F.s) = false := by simp; omega
  clear hs
  go_enter Try.func8, Try.ntmps8
  go_wp2_with fail
  refine (each_any w.heap.size w1.heap.size fv b F.id a n c s q t ia m ic z x w _ P2.out HF.out HX.out HZ.out HB2.out rfl HS.out hm hc hf hq).mono ?_
  rintro e w3 (⟨hfit, v, K, rfl, hd, ht, hb⟩ | ⟨hno, rfl, hb⟩)
  · have HA : Hid (PacksIs w b m q t F.id n F.s s x z (.returned (.tuple #[v, .bool true])) w3) := .inl ⟨⟨HSN.out, hfit⟩, v, K, rfl, hd.base (by have := HS.out; omega), ht, hb⟩
    obtain ⟨r, cap, rfl, -⟩ := hd.row.any
    clear hd ht hb hfit
    go_wp2
    go_ret2
    exact HA.out
  · have HA : Hid (PacksIs w b m q t F.id n F.s s x z (.returned (.tuple #[.slice none 0 0, .bool false])) w3) := .inr ⟨fun h => hno h.2, rfl, hb⟩
    clear hno hb
    go_wp2
    go_ret2
    exact HA.out
end Go.Proofs.Ythlidbenhlidjaa

/-
  Rows of bytes that are written out.
-/
namespace Go.Proofs.Ythlidbenhlidjaa
open Go.RowKit Go.Deep

theorem conv_const (w : World) (C : Array Value) (n c g : Nat) (h : g = w.heap.size) : (convert 26 26 (.slice (some ⟨g, 0, none⟩) n c)).run Try.prog (w.alloc (.cells C 5)) = .ok (.slice (some ⟨g, 0, none⟩) n c) (w.alloc (.cells C 5 (C.size, C.size + 1))) := by
  subst h
  exact Lib.run_convert_bytes_const w 26 5 C n c Try.underlying26 Try.underlying5

/-- A row of bytes that is written out. -/
theorem bytes_lit (w : World) (t : TypeId) (f : Nat × Nat) (l : List Nat) (hl : ∀ i, i < l.length → listAt l i < 256) : BytesAt (w.alloc (.cells (l.map fun (n : Nat) => Value.int .u8 (n : Int)).toArray t f)) (some ⟨w.heap.size, 0, none⟩) l.length (listAt l) := by
  refine ⟨fun _ => ⟨w.heap.size, 0, rfl, fun i hi => ?_⟩, hl⟩
  rw [Nat.zero_add, World.cell?_alloc_mark]
  simp [listAt, List.getD, hi]
end Go.Proofs.Ythlidbenhlidjaa
