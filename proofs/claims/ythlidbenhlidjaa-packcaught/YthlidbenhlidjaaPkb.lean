/-
  What Packets answers, for two that answer alike.
-/
import Derived.Test.YthlidbenhlidjaaKbg
import Derived.Test.YthlidbenhlidjaaRpa
namespace Go.Proofs.Ythlidbenhlidjaa
open Go.RowKit Go.Deep

/-- N packets lie at r. -/
structure Pks (w : World) (N q t f n s : Nat) (x : Nat → Nat) (z : Nat → Int) (r : Option Addr) (K : Nat → Dt) : Prop where
  row : DsAt w r N K
  told : Told15 N q t f s z K
  body : ∀ i, i < N → BytesAt w (K i).a (K i).n (symOf f x n s (z i).toNat)
theorem Pks.grew {w w' : World} {N q t f n s : Nat} {x : Nat → Nat} {z : Nat → Int} {r : Option Addr} {K : Nat → Dt} (h : Pks w N q t f n s x z r K) (hb : Below w.heap.size w w') : Pks w' N q t f n s x z r K :=
  ⟨h.row.grew hb, h.told, fun i hi => (h.body i hi).grew hb⟩
theorem Pks.addr {w : World} {N q t f n s : Nat} {x : Nat → Nat} {z : Nat → Int} {r : Option Addr} {K : Nat → Dt} (h : Pks w N q t f n s x z r K) (h0 : 0 < N) : ∃ b o, r = some ⟨b, o, none⟩ := h.row.addr h0
theorem Pks.at {w : World} {N q t f n s b o : Nat} {x : Nat → Nat} {z : Nat → Int} {K : Nat → Dt} (h : Pks w N q t f n s x z (some ⟨b, o, none⟩) K) (i : Nat) (hi : i < N) :
    ∃ a c, w.cell? ⟨b, o + i * 5, none⟩ = some (.int .u16 (((q + i) % 65536 : Nat) : Int)) ∧ w.cell? ⟨b, o + i * 5 + 1, none⟩ = some (.int .u16 (t : Int)) ∧ w.cell? ⟨b, o + i * 5 + 2, none⟩ = some (.int .u32 (f : Int)) ∧
      w.cell? ⟨b, o + i * 5 + 3, none⟩ = some (.int .u16 ((z i).toNat : Int)) ∧ w.cell? ⟨b, o + i * 5 + 4, none⟩ = some (.slice a s c) ∧ BytesAt w a s (symOf f x n s (z i).toNat) := by
  obtain ⟨h0, h1, h2, h3, h4⟩ := h.row.at i hi
  obtain ⟨t0, t1, t2, t3, t4⟩ := h.told i hi
  have hb := h.body i hi
  rw [t0] at h0
  rw [t1] at h1
  rw [t2] at h2
  rw [t3] at h3
  rw [t4] at h4 hb
  exact ⟨_, _, h0, h1, h2, h3, h4, hb⟩
/-- Whoever answers so answers alike. -/
theorem packs_any (b : Bool) (m n : Nat) (size s : Int) (z : Nat → Int) : ∃ (p : Bool) (N : Nat), N ≤ m ∧ (size = (n : Int) ∧ Fit b n s z m → p = true ∧ N = m) ∧
    ∀ (w : World) (q t f : Nat) (x : Nat → Nat) (e : Ending) (w' : World), PacksIs w b m q t f n size s x z e w' →
      ∃ r cap K, e = .returned (.tuple #[.slice r N cap, .bool p]) ∧ Pks w' N q t f n s.toNat x z r K ∧ Below w.heap.size w w' := by
  by_cases h : size = (n : Int) ∧ Fit b n s z m
  · refine ⟨true, m, Nat.le_refl _, fun _ => ⟨rfl, rfl⟩, fun w q t f x e w' hp => ?_⟩
    obtain ⟨v, K, rfl, hd, ht, hb⟩ := hp.yes h.1 h.2
    obtain ⟨r, cap, rfl, hr, -⟩ := hd.row.any
    exact ⟨r, cap, K, rfl, ⟨hr, ht, fun i hi => (hd.body i hi).bs⟩, hb⟩
  · refine ⟨false, 0, Nat.zero_le _, fun hh => absurd hh h, fun w q t f x e w' hp => ?_⟩
    obtain ⟨rfl, hb⟩ := hp.no h
    exact ⟨none, 0, fun _ => ⟨0, 0, 0, 0, none, 0, 0⟩, rfl, ⟨DsAt.nil _ _, Told15.nil _ _ _ _ _ _, fun i hi => absurd hi (Nat.not_lt_zero i)⟩, hb⟩
theorem FrAt.resize {w : World} {B : Nat} {f : Fr} (h : FrAt w B f) (s : Int) : FrAt (w.setCell ⟨B, 3, none⟩ (.int .i64 s)) B { f with s := s } :=
  ⟨(World.cell?_setCell_other _ _ _ _ (by simp)).trans h.c0, (World.cell?_setCell_other _ _ _ _ (by simp)).trans h.c1, (World.cell?_setCell_other _ _ _ _ (by simp)).trans h.c2, World.cell?_setCell_same _ _ _ h.c3, (World.cell?_setCell_other _ _ _ _ (by simp)).trans h.c4, (World.cell?_setCell_other _ _ _ _ (by simp)).trans h.c5, fun q => by rw [World.frozen?_setCell]; exact h.frz q⟩
theorem rpackets_is (F : Fr) (v : Value) (a : Option Addr) (n c : Nat) (s : Int) (ia : Option Addr) (m ic q t : Nat) (z : Nat → Int) (x : Nat → Nat) (w : World) (hv : v = F.val) (hx : BytesAt w a n x) (hz : IntsAt w ia m z) (hm : m ≤ 1000) (hf : F.id < 4294967296) (hq : q < 65536) :
    Calls Try.prog 10 #[v, .slice a n c, .int .i64 s, .slice ia m ic, .int .u16 (q : Int), .int .u16 (t : Int)] w (PacksIs w true m q t F.id n F.s s x z) := by
  subst hv
  exact rpackets_any F a n c s ia m ic q t z x w hx hz hm hf hq
end Go.Proofs.Ythlidbenhlidjaa
