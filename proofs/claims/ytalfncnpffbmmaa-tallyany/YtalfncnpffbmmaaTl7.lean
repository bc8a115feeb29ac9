/-
  Package tally: Got once more, Late, Twice.
-/
import Derived.Test.YtalfncnpffbmmaaTl6
namespace Go.Proofs.Ytalfncnpffbmmaa
open Go.RowKit Go.Deep

/-- A number that did not come yet. -/
def Tl.one (s : Tl) (x : Nat) : Tl := { s with top := max s.top x, got := s.got + 1, d := s.d.push (x : Int), S := fun y => if y = x then true else s.S y }
/-- One that came. -/
def Tl.two (s : Tl) (x : Nat) : Tl := { s with top := max s.top x, twice := s.twice + 1 }
/-- The blocks of a Tally. -/
def Blk (g ex cm im fb : Nat) (R : Nat) : Prop := R = g ∨ R = ex ∨ R = cm ∨ R = im ∨ R = fb
theorem TlAt.block {w w' : World} {g ex cm im fb m k : Nat} {s : Tl} (h : TlAt w g ex cm im fb m k s) (q : KeptF (fun _ => False) w w') : TlAt w' g ex cm im fb m k s :=
  ⟨h.G.block (q.block g h.G.lt id), h.ext.block (q.block ex h.ext.lt id), h.hal.block (q.block cm h.hal.lt id), h.set.block (q.block im h.set.lt id), h.row.block (q.block fb h.row.lt id), h.cap, h.five⟩
theorem TlAt.other {w w' : World} {F : Nat → Prop} {g ex cm im fb m k : Nat} {s : Tl} (h : TlAt w g ex cm im fb m k s) (q : KeptF F w w') (hF : ∀ R, Blk g ex cm im fb R → ¬ F R) : TlAt w' g ex cm im fb m k s :=
  ⟨h.G.block (q.block g h.G.lt (hF _ (Or.inl rfl))), h.ext.block (q.block ex h.ext.lt (hF _ (Or.inr (Or.inl rfl)))), h.hal.block (q.block cm h.hal.lt (hF _ (Or.inr (Or.inr (Or.inl rfl))))), h.set.block (q.block im h.set.lt (hF _ (Or.inr (Or.inr (Or.inr (Or.inl rfl)))))), h.row.block (q.block fb h.row.lt (hF _ (Or.inr (Or.inr (Or.inr (Or.inr rfl)))))), h.cap, h.five⟩

set_option maxRecDepth 100000 in
set_option maxHeartbeats 1000000 in
theorem tgot_new (g ex cm im fb m k n : Nat) (s : Tl) (w : World) (hn : n < 32768) (ht1 : 65536 ≤ s.top) (ht2 : s.top < 98304) (hs : s.since < 65536 + n) (hS : s.S (65536 + n) = false) (hk : k ≤ 1000) (hg : s.got ≤ 1000) (hd : s.d.size ≤ 1000) (H : TlAt w g ex cm im fb m k s) :
    Calls Try.prog 6 #[.pointer (some ⟨g, 0, none⟩), .int .u16 (n : Int)] w fun e w' => e = .returned (.tuple #[.int .u64 ((65536 + n : Nat) : Int), .bool true]) ∧ ∃ fb' m', (fb' = fb ∨ w.heap.size ≤ fb') ∧
      TlAt w' g ex cm im fb' m' (k + 1) (s.one (65536 + n)) ∧ KeptF (Blk g ex cm im fb) w w' := by
  have c0 : w.cell? ⟨g, 0, none⟩ = some (.pointer (some ⟨ex, 0, none⟩)) := H.G.cell 0 (by decide)
  obtain ⟨x, hx⟩ : ∃ x, x = 65536 + n := ⟨_, rfl⟩
  rw [← hx] at hs hS ⊢
  have HH : Hid (TlAt w g ex cm im fb m k s) := H
  have x1 : 65536 ≤ x := by omega
  have x2 : x < 98304 := by omega
  have XN : Hid (Ser.far s.top n = x) := by show Ser.far s.top n = x; rw [far_near s.top n ht1 ht2 hn, hx]
  have XT : Hid (Ser.top s.top n = max s.top x) := by
    show Ser.top s.top n = max s.top x
    unfold Ser.top
    rw [far_near s.top n ht1 ht2 hn, hx]
  have HS0 : Hid (s.S x = false) := hS
  have HT : Hid (65536 ≤ s.top ∧ s.top < 98304) := ⟨ht1, ht2⟩
  have HSI : Hid (s.since < x) := hs
  have HD : Hid (k ≤ 1000 ∧ s.got ≤ 1000 ∧ s.d.size ≤ 1000) := ⟨hk, hg, hd⟩
  obtain ⟨t, htt⟩ : ∃ t, t = s.top := ⟨_, rfl⟩
  have t1 : 65536 ≤ t := by omega
  have t2 : t < 98304 := by omega
  have HTT : Hid (t = s.top) := htt
  clear H hx ht1 ht2 hs hS hk hg hd
  go_enter Try.func6, Try.ntmps6
  go_wp2_with fail
  refine (tnone_any g _ w c0).mono ?_
  rintro e w1 ⟨rfl, rfl⟩
  go_wp2_with fail
  refine (top_any ex s.top w1 HH.out.ext).mono ?_
  rintro e w2 ⟨rfl, rfl⟩
  rw [← htt, show decide (t ≠ 0) = true from decide_eq_true (by omega)]
  clear htt
  go_wp2_with fail
  refine (extend_any ex s.top n w2 HH.out.ext (by omega) (Or.inr HT.out.1) (by have := HT.out.2; omega)).mono ?_
  rintro e w3 ⟨rfl, E3, K3, z3⟩
  rw [XN.out]
  rw [XT.out] at E3
  have Q := HH.out.five
  unfold Five at Q
  have HE3 : Hid (ExtAt w3 ex (max s.top x)) := E3
  have HG3 : Hid (GAt w3 g (tlV ex cm (fresh fb m s.d.size) s)) := HH.out.G.kept K3 Q.1
  have HH3 : Hid (HalfAt w3 cm 1 (fun y => if y = 2 then some im else none)) := HH.out.hal.kept K3 (by omega)
  have HS3 : Hid (SetAt w3 im k s.S) := HH.out.set.kept K3 (by omega)
  have HX3 : Hid (Srow w3 fb 0 m s.d) := HH.out.row.kept K3 (by omega)
  have HK3 : Hid (KeptF (Blk g ex cm im fb) w2 w3) := KeptF.of_kept K3 (Or.inr (Or.inl rfl))
  have c1 : w3.cell? ⟨g, 1, none⟩ = some (.map (some cm)) := HG3.out.cell 1 (by decide)
  have hl0 : (Instr.lookup 38 (.map (some cm)) (.int .u64 2) false).run Try.prog w3 = .ok (.map (some im)) w3 := HH3.out.look (x := 2) (by decide)
  have hl1 : (Instr.lookup 47 (.map (some im)) (.int .u64 (x : Int)) true).run Try.prog w3 = .ok (.tuple #[.agg #[], .bool false]) w3 := by
    have := HS3.out.look (x := x) (by omega)
    rw [HS0.out] at this
    exact this
  have hq1 : (x : Int).tdiv 32768 = 2 := by
    rw [Int.tdiv_eq_ediv_of_nonneg (by omega)]
    omega
  have hq2 : (x : Int) / 32768 = 2 := by omega
  have hq3 : (t : Int).tdiv 32768 = 2 := by
    rw [Int.tdiv_eq_ediv_of_nonneg (by omega)]
    omega
  have hq4 : (t : Int) / 32768 = 2 := by omega
  obtain ⟨w4, e4⟩ : ∃ w, w3.alloc (.cells #[] 45) = w := ⟨_, rfl⟩
  have B4 : Below w3.heap.size w3 w4 := e4 ▸ (Below.refl _ _).alloc (Nat.le_refl _) _
  have HE4 : Hid (ExtAt w4 ex (max s.top x)) := HE3.out.block (B4.block _ HE3.out.lt)
  have HG4 : Hid (GAt w4 g (tlV ex cm (fresh fb m s.d.size) s)) := HG3.out.block (B4.block _ HG3.out.lt)
  have HH4 : Hid (HalfAt w4 cm 1 (fun y => if y = 2 then some im else none)) := HH3.out.block (B4.block _ HH3.out.lt)
  have HS4 : Hid (SetAt w4 im k s.S) := HS3.out.block (B4.block _ HS3.out.lt)
  have HX4 : Hid (Srow w4 fb 0 m s.d) := HX3.out.block (B4.block _ HX3.out.lt)
  have HK4 : Hid (KeptF (Blk g ex cm im fb) w2 w4) := HK3.out.trans (KeptF.of_below B4)
  have HQ : Hid (Five g ex cm im fb) := Q
  have HM : Hid (m ≤ maxLen) := HH.out.cap
  have HL : Hid (ex < w4.heap.size) := HE4.out.lt
  have HZ : Hid (w2.heap.size ≤ w4.heap.size) := HK4.out.size
  clear E3 K3 z3 HE3 HG3 HH3 HS3 HX3 HK3 B4 Q c0 HH
  go_wp2_with fail
  refine (tadd_next g cm im fb m k s.d.size x s.since s.got s.d s.S _ w4 x1 x2 HSI.out (by have := HD.out; omega) (by have := HD.out; omega) rfl (by have := HD.out; omega) rfl rfl rfl rfl HG4 HH4 HS4 HX4 HM (by have := HQ.out; unfold Five at this; exact ⟨by omega, by omega, by omega, by omega, by omega, by omega⟩)).mono ?_
  rintro e w5 ⟨rfl, fb', m', g5, G5, H5, S5, X5, M5, K5⟩
  have Q := HQ.out
  unfold Five at Q
  have L := HL.out
  have Z := HZ.out
  have lg := HG4.out.lt
  have lc := HH4.out.lt
  have li := HS4.out.lt
  have END : Hid (∃ fb' m', (fb' = fb ∨ w2.heap.size ≤ fb') ∧ TlAt w5 g ex cm im fb' m' (k + 1) (s.one x) ∧ KeptF (Blk g ex cm im fb) w2 w5) := by
    refine ⟨fb', m', ?_, ⟨?_, ?_, H5, S5, X5, M5, ?_⟩, HK4.out.trans (K5.mono (fun R h => ?_))⟩
    · rcases g5 with h | h
      · exact Or.inl h
      · exact Or.inr (by omega)
    · refine G5.congr (fun i hi => ?_)
      show _ = tlV ex cm (fresh fb' m' (s.d.push (x : Int)).size) (s.one x) i
      rw [Array.size_push]
      rcases nine hi with rfl | rfl | rfl | rfl | rfl | rfl | rfl | rfl | rfl <;> rfl
    · exact HE4.out.block (K5.block ex HE4.out.lt (fun h => by rcases h with h | h | h <;> omega))
    · unfold Five
      rcases g5 with h | h <;> exact ⟨by omega, by omega, by omega, by omega, by omega, by omega, by omega, by omega, by omega, by omega⟩
    · rcases h with h | h | h
      · exact Or.inl h
      · exact Or.inr (Or.inr (Or.inr (Or.inl h)))
      · exact Or.inr (Or.inr (Or.inr (Or.inr h)))
  clear G5 H5 S5 X5 M5 K5 Q L Z lg lc li g5
  go_wp2
  go_ret2
  exact ⟨rfl, END.out⟩
set_option maxRecDepth 100000 in
set_option maxHeartbeats 1000000 in
theorem tgot_twice (g ex cm im fb m k n : Nat) (s : Tl) (w : World) (hn : n < 32768) (ht1 : 65536 ≤ s.top) (ht2 : s.top < 98304) (hS : s.S (65536 + n) = true) (hg : s.twice ≤ 1000) (H : TlAt w g ex cm im fb m k s) :
    Calls Try.prog 6 #[.pointer (some ⟨g, 0, none⟩), .int .u16 (n : Int)] w fun e w' => e = .returned (.tuple #[.int .u64 ((65536 + n : Nat) : Int), .bool false]) ∧ TlAt w' g ex cm im fb m k (s.two (65536 + n)) ∧ KeptF (Blk g ex cm im fb) w w' := by
  have c0 : w.cell? ⟨g, 0, none⟩ = some (.pointer (some ⟨ex, 0, none⟩)) := H.G.cell 0 (by decide)
  obtain ⟨x, hx⟩ : ∃ x, x = 65536 + n := ⟨_, rfl⟩
  rw [← hx] at hS ⊢
  have HH : Hid (TlAt w g ex cm im fb m k s) := H
  have x1 : 65536 ≤ x := by omega
  have x2 : x < 98304 := by omega
  have XN : Hid (Ser.far s.top n = x) := by show Ser.far s.top n = x; rw [far_near s.top n ht1 ht2 hn, hx]
  have XT : Hid (Ser.top s.top n = max s.top x) := by
    show Ser.top s.top n = max s.top x
    unfold Ser.top
    rw [far_near s.top n ht1 ht2 hn, hx]
  have HS0 : Hid (s.S x = true) := hS
  have HT : Hid (65536 ≤ s.top ∧ s.top < 98304) := ⟨ht1, ht2⟩
  obtain ⟨t, htt⟩ : ∃ t, t = s.top := ⟨_, rfl⟩
  obtain ⟨u, hu⟩ : ∃ u, u = s.twice := ⟨_, rfl⟩
  have u1 : u ≤ 1000 := by omega
  have HU : Hid (u = s.twice) := hu
  have e8 : IntKind.u64.wrap ((u : Int) + 1) = (u : Int) + 1 := by simp [IntKind.wrap, IntKind.bits, IntKind.signed]; omega
  have t1 : 65536 ≤ t := by omega
  clear H hx ht1 ht2 hS hg hu
  go_enter Try.func6, Try.ntmps6
  go_wp2_with fail
  refine (tnone_any g _ w c0).mono ?_
  rintro e w1 ⟨rfl, rfl⟩
  go_wp2_with fail
  refine (top_any ex s.top w1 HH.out.ext).mono ?_
  rintro e w2 ⟨rfl, rfl⟩
  rw [← htt, show decide (t ≠ 0) = true from decide_eq_true (by omega)]
  clear htt
  go_wp2_with fail
  refine (extend_any ex s.top n w2 HH.out.ext (by omega) (Or.inr HT.out.1) (by have := HT.out.2; omega)).mono ?_
  rintro e w3 ⟨rfl, E3, K3, z3⟩
  rw [XN.out]
  rw [XT.out] at E3
  have Q := HH.out.five
  unfold Five at Q
  have HE3 : Hid (ExtAt w3 ex (max s.top x)) := E3
  have HG3 : Hid (GAt w3 g (tlV ex cm (fresh fb m s.d.size) s)) := HH.out.G.kept K3 Q.1
  have HH3 : Hid (HalfAt w3 cm 1 (fun y => if y = 2 then some im else none)) := HH.out.hal.kept K3 (by omega)
  have HS3 : Hid (SetAt w3 im k s.S) := HH.out.set.kept K3 (by omega)
  have HX3 : Hid (Srow w3 fb 0 m s.d) := HH.out.row.kept K3 (by omega)
  have HK3 : Hid (KeptF (Blk g ex cm im fb) w2 w3) := KeptF.of_kept K3 (Or.inr (Or.inl rfl))
  have c1 : w3.cell? ⟨g, 1, none⟩ = some (.map (some cm)) := HG3.out.cell 1 (by decide)
  have hl0 : (Instr.lookup 38 (.map (some cm)) (.int .u64 2) false).run Try.prog w3 = .ok (.map (some im)) w3 := HH3.out.look (x := 2) (by decide)
  have hl1 : (Instr.lookup 47 (.map (some im)) (.int .u64 (x : Int)) true).run Try.prog w3 = .ok (.tuple #[.agg #[], .bool true]) w3 := by
    have := HS3.out.look (x := x) (by omega)
    rw [HS0.out] at this
    exact this
  have hq1 : (x : Int).tdiv 32768 = 2 := by
    rw [Int.tdiv_eq_ediv_of_nonneg (by omega)]
    omega
  have hq2 : (x : Int) / 32768 = 2 := by omega
  obtain ⟨w4, e4⟩ : ∃ w, w3.alloc (.cells #[] 45) = w := ⟨_, rfl⟩
  have B4 : Below w3.heap.size w3 w4 := e4 ▸ (Below.refl _ _).alloc (Nat.le_refl _) _
  have HE4 : Hid (ExtAt w4 ex (max s.top x)) := HE3.out.block (B4.block _ HE3.out.lt)
  have HG4 : Hid (GAt w4 g (tlV ex cm (fresh fb m s.d.size) s)) := HG3.out.block (B4.block _ HG3.out.lt)
  have HH4 : Hid (HalfAt w4 cm 1 (fun y => if y = 2 then some im else none)) := HH3.out.block (B4.block _ HH3.out.lt)
  have HS4 : Hid (SetAt w4 im k s.S) := HS3.out.block (B4.block _ HS3.out.lt)
  have HX4 : Hid (Srow w4 fb 0 m s.d) := HX3.out.block (B4.block _ HX3.out.lt)
  have HK4 : Hid (KeptF (Blk g ex cm im fb) w2 w4) := HK3.out.trans (KeptF.of_below B4)
  have c8 : w4.cell? ⟨g, 8, none⟩ = some (.int .u64 (u : Int)) := (HG4.out.cell 8 (by decide)).trans (by rw [HU.out]; rfl)
  have f8 : w4.frozen? ⟨g, 8, none⟩ = false := HG4.out.frz 8
  have KS : Kept g w4 (w4.setCell ⟨g, 8, none⟩ (.int .u64 ((u : Int) + 1))) := Kept.set _ _ _
  have END : Hid (TlAt (w4.setCell ⟨g, 8, none⟩ (.int .u64 ((u : Int) + 1))) g ex cm im fb m k (s.two x) ∧ KeptF (Blk g ex cm im fb) w2 (w4.setCell ⟨g, 8, none⟩ (.int .u64 ((u : Int) + 1)))) := by
    refine ⟨⟨(HG4.out.set 8 _).congr (fun i hi => ?_), HE4.out.kept KS (by omega), HH4.out.kept KS (by omega), HS4.out.kept KS (by omega), HX4.out.kept KS (by omega), HH.out.cap, HH.out.five⟩, HK4.out.trans (KeptF.of_kept KS (Or.inl rfl))⟩
    rw [HU.out]
    rcases nine hi with rfl | rfl | rfl | rfl | rfl | rfl | rfl | rfl | rfl <;> rfl
  clear E3 K3 z3 HE3 HG3 HH3 HS3 HX3 HK3 B4 Q c0 HH KS HE4 HG4 HH4 HS4 HX4 HK4
  go_wp2
  go_ret2
  exact ⟨rfl, END.out⟩
set_option maxRecDepth 100000 in
set_option maxHeartbeats 1000000 in
theorem tlate_any (g ex cm im fb m k : Nat) (s : Tl) (w : World) (H : TlAt w g ex cm im fb m k s) :
    Calls Try.prog 8 #[.pointer (some ⟨g, 0, none⟩)] w fun e w' => e = .returned (.int .u64 (s.late : Int)) ∧ w' = w := by
  have c0 : w.cell? ⟨g, 0, none⟩ = some (.pointer (some ⟨ex, 0, none⟩)) := H.G.cell 0 (by decide)
  have c7 : w.cell? ⟨g, 7, none⟩ = some (.int .u64 (s.late : Int)) := H.G.cell 7 (by decide)
  clear H
  go_enter Try.func8, Try.ntmps8
  go_wp2_with fail
  refine (tnone_any g _ w c0).mono ?_
  rintro e w1 ⟨rfl, rfl⟩
  go_wp2
  go_ret
  exact ⟨rfl, rfl⟩
set_option maxRecDepth 100000 in
set_option maxHeartbeats 1000000 in
theorem ttwice_any (g ex cm im fb m k : Nat) (s : Tl) (w : World) (H : TlAt w g ex cm im fb m k s) :
    Calls Try.prog 9 #[.pointer (some ⟨g, 0, none⟩)] w fun e w' => e = .returned (.int .u64 (s.twice : Int)) ∧ w' = w := by
  have c0 : w.cell? ⟨g, 0, none⟩ = some (.pointer (some ⟨ex, 0, none⟩)) := H.G.cell 0 (by decide)
  have c8 : w.cell? ⟨g, 8, none⟩ = some (.int .u64 (s.twice : Int)) := H.G.cell 8 (by decide)
  clear H
  go_enter Try.func9, Try.ntmps9
  go_wp2_with fail
  refine (tnone_any g _ w c0).mono ?_
  rintro e w1 ⟨rfl, rfl⟩
  go_wp2
  go_ret
  exact ⟨rfl, rfl⟩
end Go.Proofs.Ytalfncnpffbmmaa
