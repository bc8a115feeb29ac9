/-
  The document's Queue: Expire, Drop: those that stay in a new row.
-/
import Derived.Test.YtaikkoijoolhkaaPc4
import Derived.Test.YtaikkoijoolhkaaPc6
namespace Go.Proofs.Ytaikkoijoolhkaa
open Go.RowKit Go.Deep

/-- Those that go, in a new row; the Queue's others. -/
def Gone (g s : List It) (w : World) (base B : Nat) (v : Value) (e : Ending) (w' : World) : Prop :=
  ∃ r c, e = .returned (.slice r g.length c) ∧ Ir w' w.heap.size (.slice r g.length c) g ∧ QTo w w' base B v s
theorem PartIs.gone {t : Int → It → Bool × Int} {n0 : Int} {w w' : World} {base B : Nat} {v : Value} {l : List It} {e : Ending} (h : PartIs [] t n0 w base B v l e w') : Gone (prt t n0 l).1 (prt t n0 l).2.1 w base B v e w' := by
  obtain ⟨vg, rfl, h1, v', h2, h3, h4⟩ := h
  obtain ⟨r, c, rfl, -⟩ := Lr.any h1
  exact ⟨r, c, rfl, h1, v', h2, h3, fun g e => .inl (h4 g e)⟩
/-- In the middle of it: those that go, those that stay, each in a row of their own. -/
structure Rmd (w : World) (base B : Nat) (v : Value) (l : List It) (vg : Value) (G : List It) (vs : Value) (S : List It) (wr : World) : Prop where
  q : QAt wr base B v l
  gone : Ir wr w.heap.size vg G
  stay : Ir wr w.heap.size vs S
  bel : Below w.heap.size w wr
  sep : ∀ g, vg.ownBlock = some g → vs.ownBlock ≠ some g
  ql : ∀ k, k ∈ feet B v → k < w.heap.size
section
variable {w wr w' : World} {base B H : Nat} {v vg vs : Value} {l G S : List It} {a : It}
theorem Rmd.swap (h : Rmd w base B v l vg G vs S wr) : Rmd w base B v l vs S vg G wr := ⟨h.q, h.stay, h.gone, h.bel, fun g e e2 => h.sep g e2 e, h.ql⟩
theorem Rmd.grew (h : Rmd w base B v l vg G vs S wr) (b : Below wr.heap.size wr w') : Rmd w base B v l vg G vs S w' :=
  ⟨h.q.grew b, Lr.grew h.gone b, Lr.grew h.stay b, h.bel.trans (b.mono h.bel.size), h.sep, h.ql⟩
/-- One more goes. -/
theorem Rmd.goes (ty : TypeId) (h : Rmd w base B v l vg G vs S wr) (hA : ItAt wr H 0 a) (hG : G.length ≤ 100000) :
    ∃ r2 c2 w2, (Builtin.append_ #[27, 27] ty #[vg, .slice (some ⟨H, 0, none⟩) 1 1]).run Try.prog wr = .ok (.slice r2 (G ++ [a]).length c2) w2 ∧ Rmd w base B v l (.slice r2 (G ++ [a]).length c2) (G ++ [a]) vs S w2 ∧ ∀ k, k < wr.heap.size → vg.ownBlock ≠ some k → w2.heap[k]? = wr.heap[k]? := by
  obtain ⟨v2, w2, hr, R2, g2, hw⟩ := ir_push ty h.gone hA hG h.bel.size
  obtain ⟨r2, c2, rfl, -⟩ := Lr.any R2
  have hs := h.bel.size
  have hl : ∀ k, vg.ownBlock = some k → w.heap.size ≤ k := fun k e => (Lr.lt h.gone k e).1
  have hk : ∀ k, k < wr.heap.size → vg.ownBlock ≠ some k → w2.heap[k]? = wr.heap[k]? := fun k hk hne => g2.block k hk (fun e => hne e.symm)
  refine ⟨r2, c2, w2, hr, ⟨h.q.block (fun k hk' => hk k (h.q.feet hk').2 (fun e => by have := hl k e; have := h.ql k hk'; omega)), R2, Lr.block h.stay (fun g e => hk g (Lr.lt h.stay g e).2 (fun e2 => h.sep g e2 e)), ⟨g2.os.trans h.bel.os, g2.tape.trans h.bel.tape, g2.output.trans h.bel.output, Nat.le_trans h.bel.size g2.size, fun k hk' => (hk k (by omega) (fun e => by have := hl k e; omega)).trans (h.bel.block k hk')⟩, fun g e e2 => ?_, h.ql⟩, hk⟩
  rcases hw with hw | hw
  · rw [hw] at e; exact h.sep g e e2
  · rw [hw] at e
    injection e with e
    have := (Lr.lt h.stay g e2).2
    omega
/-- It is put down. -/
theorem Rmd.down {rg rs : Option Addr} {cg ng cs ns : Nat} (h : Rmd w base B v l (.slice rg ng cg) G (.slice rs ns cs) S wr) (hb : base ≤ w.heap.size) :
    Ir (wr.setCell ⟨B, 0, none⟩ (.slice rs ns cs)) w.heap.size (.slice rg ng cg) G ∧ QTo w (wr.setCell ⟨B, 0, none⟩ (.slice rs ns cs)) base B v S := by
  have hB := h.ql B (mem_feet.2 (.inl rfl))
  have hlt : ∀ g, (Value.slice rs ns cs).ownBlock = some g → w.heap.size ≤ g := fun g e => (Lr.lt h.stay g e).1
  have hne : (Value.slice rs ns cs).ownBlock ≠ some B := fun e => by have := hlt B e; omega
  refine ⟨Lr.block h.gone (fun g e => Below.heap_setCell wr ⟨B, 0, none⟩ _ g (fun e2 => by have := (Lr.lt h.gone g e).1; have : g = B := e2; omega)), _, ⟨World.cell?_setCell_same _ _ _ h.q.c0, by rw [World.frozen?_setCell]; exact h.q.thaw, Lr.base_le (Lr.block h.stay (fun g e => Below.heap_setCell wr ⟨B, 0, none⟩ _ g (fun e2 => by have := hlt g e; have : g = B := e2; omega))) hb, hne, h.q.base⟩, (But.of_below h.bel).trans (But.set _ B 0 _ (mem_feet.2 (.inl rfl))), fun g e => .inr (hlt g e)⟩
theorem Rmd.nil (h : QAt w base B v l) : Rmd w base B v l (.slice none 0 0) [] (.slice none 0 0) [] w :=
  ⟨h, Lr.nil _ _, Lr.nil _ _, Below.refl _ _, fun g e => by simp [Value.ownBlock] at e, fun k hk => (h.feet hk).2⟩
end
theorem prt_some {t : Int → It → Bool × Int} {n : Int} {l : List It} {k : Nat} {A : It} (hk : k < l.length) (hA : l[k] = A) : prt t n (l.take (k + 1)) = pst t (prt t n (l.take k)) A := by
  rw [take_next hk, prt_snoc, hA]
theorem prt_small (t : Int → It → Bool × Int) (n : Int) (l : List It) (k : Nat) (hl : l.length ≤ 100000) : (prt t n (l.take k)).1.length ≤ 100000 ∧ (prt t n (l.take k)).2.1.length ≤ 100000 := by
  have := prt_len t n (l.take k)
  have h2 : (l.take k).length ≤ l.length := by rw [List.length_take]; omega
  omega

set_option maxRecDepth 100000 in
set_option maxHeartbeats 2000000 in
theorem rexpire_any (base B : Nat) (c : Int) (v : Value) (l : List It) (w : World) (HQ : Hid (QAt w base B v l)) (Hn : Hid (l.length ≤ 100000)) (Hb : Hid (base ≤ w.heap.size)) :
    Calls Try.prog 16 #[.pointer (some ⟨B, 0, none⟩), .int .i64 c] w (Gone (prt (late c) 0 l).1 (prt (late c) 0 l).2.1 w base B v) := by
  obtain ⟨r, cap, rfl⟩ := HQ.out.shape
  have HM : Hid (Rmd w base B (.slice r l.length cap) l (.slice none 0 0) [] (.slice none 0 0) [] w) := Rmd.nil HQ.out
  go_enter Try.func16, Try.ntmps16
  go_wp2_with fail
  go_loopw [5, 6, 7] (fun vs vg i wr => ∃ (K : Nat) (rg rs : Option Addr) (cg cs : Nat) (G S : List It), K ≤ l.length ∧ i = .int .i64 (K : Int) ∧ vs = .slice rs S.length cs ∧ vg = .slice rg G.length cg ∧ Hid (G = (prt (late c) 0 (l.take K)).1) ∧ Hid (S = (prt (late c) 0 (l.take K)).2.1) ∧ Hid (Rmd w base B (.slice r l.length cap) l (.slice rg G.length cg) G (.slice rs S.length cs) S wr)) (fun _ _ i _ => l.length - (intOf i).toNat)
  case atStart => exact ⟨0, none, none, 0, 0, [], [], Nat.zero_le _, rfl, rfl, rfl, by simp only [List.take_zero]; exact rfl, by simp only [List.take_zero]; exact rfl, HM⟩
  case round =>
    obtain ⟨K, rg, rs, cg, cs, G, S, hK, rfl, rfl, rfl, hG, hS, hm⟩ := hrel
    clear HM
    have q0 := hm.out.q.c0
    by_cases hk : K < l.length
    · have i1 : (K : Int) < (l.length : Int) := by omega
      have hKb : K ≤ 100000 := by have := Hn.out; omega
      obtain ⟨g0, hrg, hit⟩ := hm.out.q.item hk
      subst hrg
      obtain ⟨hl1, hl2⟩ := prt_small (late c) 0 l K Hn.out
      rw [← hG.out] at hl1
      rw [← hS.out] at hl2
      obtain ⟨A, hA⟩ : ∃ A, l[K] = A := ⟨_, rfl⟩
      have hps := prt_some (t := late c) (n := 0) hk hA
      rw [hA] at hit
      obtain ⟨c0, c1, c2, c3, c4⟩ := hit
      obtain ⟨y1, e1⟩ : ∃ x, wr.alloc (.cells #[.int .u32 (A.f : Int), .int .i64 A.s, .int .i64 A.r, .int .i64 A.b, .int .i64 A.d] 32) = x := ⟨_, rfl⟩
      obtain ⟨H, hH⟩ : ∃ H, wr.heap.size = H := ⟨_, rfl⟩
      have B1 : Below wr.heap.size wr y1 := e1 ▸ (Below.refl _ _).alloc (Nat.le_refl _) _
      have A1 : ItAt y1 H 0 A := by rw [← e1, ← hH]; exact ItAt.made wr _ A
      have M1 := hm.out.grew B1
      by_cases hT : A.d ≤ c
      · have i2 : decide (A.d ≤ c) = true := decide_eq_true hT
        have hp1 : (prt (late c) 0 (l.take (K + 1))).1 = G ++ [A] ∧ (prt (late c) 0 (l.take (K + 1))).2.1 = S := by
          rw [hps, hG.out, hS.out]
          unfold pst late
          rw [i2]
          exact ⟨rfl, rfl⟩
        obtain ⟨r2, c2', w2, happ, M2, -⟩ := M1.goes 27 A1 hl1
        have HG2 : Hid (G ++ [A] = (prt (late c) 0 (l.take (K + 1))).1) := hp1.1.symm
        have HS2 : Hid (S = (prt (late c) 0 (l.take (K + 1))).2.1) := hp1.2.symm
        have HM2 : Hid (Rmd w base B (.slice (some ⟨g0, 0, none⟩) l.length cap) l (.slice r2 (G ++ [A]).length c2') (G ++ [A]) (.slice rs S.length cs) S w2) := M2
        generalize G ++ [A] = G2 at *
        clear hm hG hS hps hp1 B1 M1 M2 A1 hA hT
        go_wp2_with (at_builtin; refine Go.Lib.wpList_append_run _ rfl (.tmp 27) (.tmp 35) 27 27 rfl _ _ rfl rfl _ _ happ ?_)
        go_roundw
        case rel => exact ⟨K + 1, r2, rs, c2', cs, G2, S, by omega, by go_num, rfl, rfl, HG2, HS2, HM2⟩
        case measure => simp [intOf]; omega
      · have i2 : decide (A.d ≤ c) = false := decide_eq_false hT
        have hp1 : (prt (late c) 0 (l.take (K + 1))).1 = G ∧ (prt (late c) 0 (l.take (K + 1))).2.1 = S ++ [A] := by
          rw [hps, hG.out, hS.out]
          unfold pst late
          rw [i2]
          exact ⟨rfl, rfl⟩
        obtain ⟨r2, c2', w2, happ, M2, -⟩ := M1.swap.goes 27 A1 hl2
        have HG2 : Hid (G = (prt (late c) 0 (l.take (K + 1))).1) := hp1.1.symm
        have HS2 : Hid (S ++ [A] = (prt (late c) 0 (l.take (K + 1))).2.1) := hp1.2.symm
        have HM2 : Hid (Rmd w base B (.slice (some ⟨g0, 0, none⟩) l.length cap) l (.slice rg G.length cg) G (.slice r2 (S ++ [A]).length c2') (S ++ [A]) w2) := M2.swap
        generalize S ++ [A] = S2 at *
        clear hm hG hS hps hp1 B1 M1 M2 A1 hA hT
        go_wp2_with (at_builtin; refine Go.Lib.wpList_append_run _ rfl (.tmp 37) (.tmp 45) 27 27 rfl _ _ rfl rfl _ _ happ ?_)
        go_roundw
        case rel => exact ⟨K + 1, rg, r2, cg, c2', G, S2, by omega, by go_num, rfl, rfl, HG2, HS2, HM2⟩
        case measure => simp [intOf]; omega
    · obtain rfl : K = l.length := by omega
      have i1 : decide ((l.length : Int) < (l.length : Int)) = false := by simp
      have z1 := hm.out.q.thaw
      have HE : Hid (Gone (prt (late c) 0 l).1 (prt (late c) 0 l).2.1 w base B (.slice r l.length cap) (.returned (.slice rg G.length cg)) (wr.setCell ⟨B, 0, none⟩ (.slice rs S.length cs))) := by
        obtain ⟨h1, h2⟩ := hm.out.down Hb.out
        have hG := hG.out
        have hS := hS.out
        rw [List.take_length] at hG hS
        rw [← hG, ← hS]
        exact ⟨_, _, rfl, h1, h2⟩
      clear hm hG hS
      go_wp2_with fail
      go_ret
      exact HE.out

set_option maxRecDepth 100000 in
set_option maxHeartbeats 2000000 in
theorem rdrop_any (base B f : Nat) (v : Value) (l : List It) (w : World) (HQ : Hid (QAt w base B v l)) (Hn : Hid (l.length ≤ 100000)) (Hb : Hid (base ≤ w.heap.size)) :
    Calls Try.prog 18 #[.pointer (some ⟨B, 0, none⟩), .int .u32 (f : Int)] w fun e w' => e = .returned (.int .i64 ((prt (whose f) 0 l).1.length : Int)) ∧ QTo w w' base B v (prt (whose f) 0 l).2.1 := by
  obtain ⟨r, cap, rfl⟩ := HQ.out.shape
  have HM : Hid (Rmd w base B (.slice r l.length cap) l (.slice none 0 0) [] (.slice none 0 0) [] w) := Rmd.nil HQ.out
  go_enter Try.func18, Try.ntmps18
  go_wp2_with fail
  go_loopw [5, 6] (fun vs i wr => ∃ (K : Nat) (rs : Option Addr) (cs : Nat) (S : List It), K ≤ l.length ∧ i = .int .i64 (K : Int) ∧ vs = .slice rs S.length cs ∧ Hid (S = (prt (whose f) 0 (l.take K)).2.1) ∧ Hid (Rmd w base B (.slice r l.length cap) l (.slice none 0 0) [] (.slice rs S.length cs) S wr)) (fun _ i _ => l.length - (intOf i).toNat)
  case atStart => exact ⟨0, none, 0, [], Nat.zero_le _, rfl, rfl, by simp only [List.take_zero]; exact rfl, HM⟩
  case round =>
    obtain ⟨K, rs, cs, S, hK, rfl, rfl, hS, hm⟩ := hrel
    clear HM
    have q0 := hm.out.q.c0
    by_cases hk : K < l.length
    · have i1 : (K : Int) < (l.length : Int) := by omega
      have hKb : K ≤ 100000 := by have := Hn.out; omega
      obtain ⟨g0, hrg, hit⟩ := hm.out.q.item hk
      subst hrg
      obtain ⟨hl1, hl2⟩ := prt_small (whose f) 0 l K Hn.out
      rw [← hS.out] at hl2
      obtain ⟨A, hA⟩ : ∃ A, l[K] = A := ⟨_, rfl⟩
      have hps := prt_some (t := whose f) (n := 0) hk hA
      rw [hA] at hit
      obtain ⟨c0, c1, c2, c3, c4⟩ := hit
      obtain ⟨y1, e1⟩ : ∃ x, wr.alloc (.cells #[.int .u32 (A.f : Int), .int .i64 A.s, .int .i64 A.r, .int .i64 A.b, .int .i64 A.d] 32) = x := ⟨_, rfl⟩
      obtain ⟨H, hH⟩ : ∃ H, wr.heap.size = H := ⟨_, rfl⟩
      have B1 : Below wr.heap.size wr y1 := e1 ▸ (Below.refl _ _).alloc (Nat.le_refl _) _
      have A1 : ItAt y1 H 0 A := by rw [← e1, ← hH]; exact ItAt.made wr _ A
      have M1 := hm.out.grew B1
      by_cases hT : A.f = f
      · have i2 : ((A.f : Int) == (f : Int)) = true := by simp [hT]
        have hp1 : (prt (whose f) 0 (l.take (K + 1))).2.1 = S := by
          rw [hps, hS.out]
          unfold pst whose
          rw [decide_eq_true hT]
          rfl
        have HS2 : Hid (S = (prt (whose f) 0 (l.take (K + 1))).2.1) := hp1.symm
        clear hS hps hp1 B1 M1 A1 hA hl1 e1
        rw [hT] at c0
        clear i2 hT
        go_wp2_with fail
        go_roundw
        case rel => exact ⟨K + 1, rs, cs, S, by omega, by go_num, rfl, HS2, hm⟩
        case measure => simp [intOf]; omega
      · have i2 : ((A.f : Int) == (f : Int)) = false := by simp; omega
        have hp1 : (prt (whose f) 0 (l.take (K + 1))).2.1 = S ++ [A] := by
          rw [hps, hS.out]
          unfold pst whose
          rw [decide_eq_false hT]
          rfl
        obtain ⟨r2, c2', w2, happ, M2, -⟩ := M1.swap.goes 27 A1 hl2
        have HS2 : Hid (S ++ [A] = (prt (whose f) 0 (l.take (K + 1))).2.1) := by show _ = _; rw [hp1]
        have HM2 : Hid (Rmd w base B (.slice (some ⟨g0, 0, none⟩) l.length cap) l (.slice none 0 0) [] (.slice r2 (S ++ [A]).length c2') (S ++ [A]) w2) := M2.swap
        generalize S ++ [A] = S2 at *
        clear hm hS hps hp1 B1 M1 M2 A1 hA hT
        go_wp2_with (at_builtin; refine Go.Lib.wpList_append_run _ rfl (.tmp 27) (.tmp 35) 27 27 rfl _ _ rfl rfl _ _ happ ?_)
        go_roundw
        case rel => exact ⟨K + 1, r2, c2', S2, by omega, by go_num, rfl, HS2, HM2⟩
        case measure => simp [intOf]; omega
    · obtain rfl : K = l.length := by omega
      have i1 : decide ((l.length : Int) < (l.length : Int)) = false := by simp
      have z1 := hm.out.q.thaw
      have hSl : S = (prt (whose f) 0 l).2.1 := by have := hS.out; rwa [List.take_length] at this
      have hln := prt_len (whose f) 0 l
      have HE : Hid (QTo w (wr.setCell ⟨B, 0, none⟩ (.slice rs S.length cs)) base B (.slice r l.length cap) (prt (whose f) 0 l).2.1) := by
        obtain ⟨h1, h2⟩ := hm.out.down Hb.out
        rw [← hSl]
        exact h2
      rw [← hSl] at hln
      obtain ⟨N, hN⟩ : ∃ N, (prt (whose f) 0 l).1.length = N := ⟨_, rfl⟩
      have HN : Hid ((prt (whose f) 0 l).1.length = N) := hN
      have hnn := Hn.out
      have i5 : IntKind.i64.wrap ((l.length : Int) - (S.length : Int)) = (N : Int) := by rw [w64 _ (by omega) (by omega)]; omega
      clear hm hS hSl hln hnn hN
      go_wp2_with fail
      go_ret
      exact ⟨ret_int (by rw [HN.out]), HE.out⟩
end Go.Proofs.Ytaikkoijoolhkaa
