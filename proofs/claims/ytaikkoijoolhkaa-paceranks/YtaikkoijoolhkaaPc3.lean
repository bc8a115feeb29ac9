/-
  Package pace: part, walked.
-/
import Derived.Test.YtaikkoijoolhkaaPc2
namespace Go.Proofs.Ytaikkoijoolhkaa
open Go.RowKit Go.Deep

/-- What part answers. -/
def PartIs (X : List Nat) (t : Int → It → Bool × Int) (n0 : Int) (w : World) (base B : Nat) (v : Value) (l : List It) (e : Ending) (w' : World) : Prop :=
  ∃ vg, e = .returned vg ∧ Ir w' w.heap.size vg (prt t n0 l).1 ∧ ∃ v', QAt w' base B v' (prt t n0 l).2.1 ∧ But (X ++ feet B v) w w' ∧ ∀ g, v'.ownBlock = some g → v.ownBlock = some g

set_option maxRecDepth 100000 in
theorem part_nil (F : Value) (w : World) : Calls Try.prog 24 #[.pointer none, F] w fun e w' => e = .returned (.slice none 0 0) ∧ w' = w := by
  go_enter Try.func24, Try.ntmps24
  go_wp2
  go_ret
  exact ⟨rfl, rfl⟩

set_option maxRecDepth 100000 in
set_option maxHeartbeats 2000000 in
theorem part_any (X : List Nat) (St : World → Int → Prop) (t : Int → It → Bool × Int) (n0 : Int) (fn : Nat) (x : Value) (base B : Nat) (v : Value) (l : List It) (w : World)
    (hcf : ∀ args W, (callFunc fn args).run Try.prog W = .ok (.enter fn args) W)
    (HSt : Hid (∀ W W' n, St W n → (∀ q, q ∈ X → W'.heap[q]? = W.heap[q]?) → St W' n))
    (HF : Hid (∀ W n a, St W n → a ∈ l → Calls Try.prog fn #[x, a.val] W fun e w' => e = .returned (.bool (t n a).1) ∧ St w' (t n a).2 ∧ But X W w'))
    (HQ : Hid (QAt w base B v l)) (Hn : Hid (l.length ≤ 100000)) (HX : Hid (∀ q, q ∈ X → q < w.heap.size ∧ q ≠ B ∧ v.ownBlock ≠ some q)) (HS0 : Hid (St w n0)) :
    Calls Try.prog 24 #[.pointer (some ⟨B, 0, none⟩), .func (.func fn) #[x] #[]] w (PartIs X t n0 w base B v l) := by
  obtain ⟨r, cap, rfl⟩ := HQ.out.shape
  have hcut := fun W => cut_items r l.length cap W
  have q0 := HQ.out.c0
  have HM : Hid (Mid X t n0 w base B r cap l 0 (.slice none 0 0) 0 l w) :=
    { row := HQ.out.row
      len := rfl
      drop := rfl
      stay := by simp [prt]
      sk := Nat.le_refl _
      gone := by simp only [List.take_zero]; exact Lr.nil _ _
      but := But.refl _ _
      sep := HX.out
      q0 := HQ.out.c0
      th := HQ.out.thaw
      ne := HQ.out.ne
      own := fun g e => (Lr.lt HQ.out.row g e).2 }
  go_enter Try.func24, Try.ntmps24
  go_wp2_with fail
  clear q0 hcut
  go_loopw [5, 6, 21] (fun vg vs i wr => ∃ (K s' : Nat) (n : Int) (rg : Option Addr) (ng cg : Nat) (L : List It), K ≤ l.length ∧ i = .int .i64 (K : Int) ∧ vs = .slice r s' cap ∧ vg = .slice rg ng cg ∧ Hid (Mid X t n0 w base B r cap l K (.slice rg ng cg) s' L wr) ∧ Hid (St wr n) ∧ Hid (n = (prt t n0 (l.take K)).2.2)) (fun _ _ i _ => l.length - (intOf i).toNat)
  case atStart => exact ⟨0, 0, n0, none, 0, 0, l, Nat.zero_le _, rfl, rfl, rfl, HM, HS0, by simp only [List.take_zero]; exact rfl⟩
  case round =>
    obtain ⟨K, s', n, rg, ng, cg, L, hK, rfl, rfl, rfl, hm, hst, hn⟩ := hrel
    clear HM HS0
    by_cases hk : K < l.length
    · have i1 : (K : Int) < (l.length : Int) := by omega
      have hKb : K ≤ 100000 := by have := Hn.out; omega
      obtain ⟨g, hrg, hit⟩ := hm.out.item hk
      subst hrg
      have hmem : l[K] ∈ l := List.getElem_mem hk
      have htk := take_next hk
      have hsL : s' < L.length := by have := hm.out.sk; have := hm.out.len; omega
      have hgs : (prt t n0 (l.take K)).1.length ≤ 100000 := by
        have := prt_len t n0 (l.take K)
        have h2 : (l.take K).length ≤ l.length := by rw [List.length_take]; omega
        have := Hn.out
        omega
      obtain ⟨A, hA⟩ : ∃ A, l[K] = A := ⟨_, rfl⟩
      rw [hA] at hit hmem htk
      obtain ⟨c0, c1, c2, c3, c4⟩ := hit
      obtain ⟨V0, e0⟩ : ∃ x, wr.alloc (.cells #[.int .u32 (A.f : Int), .int .i64 A.s, .int .i64 A.r, .int .i64 A.b, .int .i64 A.d] 32) = x := ⟨_, rfl⟩
      obtain ⟨H, hH⟩ : ∃ H, wr.heap.size = H := ⟨_, rfl⟩
      have B0 : Below wr.heap.size wr V0 := e0 ▸ (Below.refl _ _).alloc (Nat.le_refl _) _
      have A0 : ItAt V0 H 0 A := by rw [← e0, ← hH]; exact ItAt.made wr _ A
      have HA0 : Hid (ItAt V0 H 0 A) := A0
      have M0 := hm.out.grew B0
      have HM0 : Hid (Mid X t n0 w base B (some ⟨g, 0, none⟩) cap l K (.slice rg ng cg) s' L V0) := M0
      have HHw : Hid (w.heap.size ≤ H) := hH ▸ hm.out.but.size
      have CALL : Hid (Calls Try.prog fn #[x, A.val] V0 fun e w' => e = .returned (.bool (t n A).1) ∧ St w' (t n A).2 ∧ But X V0 w') :=
        HF.out V0 n A (HSt.out wr V0 n hst.out (fun q hq => B0.block q (by have := (M0.sep q hq).1; have := hm.out.but.size; omega))) hmem
      have HPS : Hid (prt t n0 (l.take (K + 1)) = pst t (prt t n0 (l.take K)) A) := by show _ = _; rw [htk, prt_snoc]
      have HN : Hid (n = (prt t n0 (l.take K)).2.2) := hn
      have HsL : Hid (s' < L.length) := hsL
      have Hgs : Hid ((prt t n0 (l.take K)).1.length ≤ 100000) := hgs
      have Hk : Hid (K < l.length) := hk
      obtain ⟨d0, d1, d2, d3, d4⟩ := A0
      unfold It.val at CALL
      cases hT : (t n A).1 with
      | true =>
        have HP : Hid (prt t n0 (l.take (K + 1)) = ((prt t n0 (l.take K)).1 ++ [A], (prt t n0 (l.take K)).2.1, (t n A).2)) := by
          show _ = _
          rw [HPS.out]
          unfold pst
          rw [← HN.out, hT]
          rfl
        rw [hT] at CALL
        clear hm hst hn hT HPS B0 hmem htk hA hgs hsL M0
        go_wp2_with fail
        refine CALL.out.mono ?_
        rintro e x1 ⟨rfl, hs1, b1⟩
        have M1 := HM0.out.but' b1
        have A1 : ItAt x1 H 0 A := HA0.out.block (b1.block H (cell_lt HA0.out.c0) (fun m => by have := (HM0.out.sep H m).1; have := HHw.out; omega))
        obtain ⟨y1, e1⟩ : ∃ y, x1.alloc (.cells #[.int .u32 (A.f : Int), .int .i64 A.s, .int .i64 A.r, .int .i64 A.b, .int .i64 A.d] 32) = y := ⟨_, rfl⟩
        obtain ⟨H1, hH1⟩ : ∃ H, x1.heap.size = H := ⟨_, rfl⟩
        have B1 : Below x1.heap.size x1 y1 := e1 ▸ (Below.refl _ _).alloc (Nat.le_refl _) _
        have A2 : ItAt y1 H1 0 A := by rw [← e1, ← hH1]; exact ItAt.made x1 _ A
        have M2 := M1.grew B1
        obtain ⟨v2, w2, happ, R2, g2, -⟩ := ir_push 27 M2.gone A2 Hgs.out M2.but.size
        obtain ⟨r2, cap2, rfl, -⟩ := Lr.any R2
        have HST : Hid (St w2 (t n A).2) := by
          refine HSt.out x1 w2 _ hs1 (fun q hq => ?_)
          have hq1 := (M1.sep q hq).1
          have hq2 := M1.but.size
          refine (g2.block q (by have := M2.but.size; omega) (fun e => ?_)).trans (B1.block q (by omega))
          have := (Lr.lt M2.gone q e.symm).1
          omega
        have HM2 : Hid (Mid X t n0 w base B (some ⟨g, 0, none⟩) cap l (K + 1) (.slice r2 ((prt t n0 (l.take K)).1 ++ [A]).length cap2) s' L w2) := by
          exact M2.goes HP.out R2 g2
        have HN2 : Hid ((t n A).2 = (prt t n0 (l.take (K + 1))).2.2) := by show _ = _; rw [HP.out]
        obtain ⟨d0, d1, d2, d3, d4⟩ := A1
        clear CALL HM0 HP M1 M2 R2 g2 A2 B1 b1 hs1 HA0 HF
        generalize ((prt t n0 (l.take K)).1 ++ [A]).length = N2 at *
        go_wp2_with (at_builtin; refine Go.Lib.wpList_append_run _ rfl (.tmp 28) (.tmp 30) 27 27 rfl _ _ rfl rfl _ _ happ ?_)
        go_roundw
        case rel => exact ⟨K + 1, s', (t n A).2, r2, N2, cap2, L, by omega, by go_num, rfl, rfl, HM2, HST, HN2⟩
        case measure => simp [intOf]; omega
      | false =>
        have HP : Hid (prt t n0 (l.take (K + 1)) = ((prt t n0 (l.take K)).1, (prt t n0 (l.take K)).2.1 ++ [A], (t n A).2)) := by
          show _ = _
          rw [HPS.out]
          unfold pst
          rw [← HN.out, hT]
          rfl
        rw [hT] at CALL
        clear hm hst hn hT HPS B0 hmem htk hA hgs hsL M0
        go_wp2_with fail
        refine CALL.out.mono ?_
        rintro e x1 ⟨rfl, hs1, b1⟩
        have M1 := HM0.out.but' b1
        have A1 : ItAt x1 H 0 A := HA0.out.block (b1.block H (cell_lt HA0.out.c0) (fun m => by have := (HM0.out.sep H m).1; have := HHw.out; omega))
        obtain ⟨y1, e1⟩ : ∃ y, x1.alloc (.cells #[.int .u32 (A.f : Int), .int .i64 A.s, .int .i64 A.r, .int .i64 A.b, .int .i64 A.d] 32) = y := ⟨_, rfl⟩
        obtain ⟨H1, hH1⟩ : ∃ H, x1.heap.size = H := ⟨_, rfl⟩
        have B1 : Below x1.heap.size x1 y1 := e1 ▸ (Below.refl _ _).alloc (Nat.le_refl _) _
        have A2 : ItAt y1 H1 0 A := by rw [← e1, ← hH1]; exact ItAt.made x1 _ A
        have M2 := M1.grew B1
        obtain ⟨w2, happ, R2, g2⟩ := ir_put 27 M2.row A2 HsL.out
        have HST : Hid (St w2 (t n A).2) := by
          refine HSt.out x1 w2 _ hs1 (fun q hq => ?_)
          have hq1 := (M1.sep q hq).1
          have hq2 := M1.but.size
          exact (g2.block q (by have := M2.but.size; omega) (fun e => (M1.sep q hq).2.2 (by rw [e]; rfl))).trans (B1.block q (by omega))
        have HM2 : Hid (Mid X t n0 w base B (some ⟨g, 0, none⟩) cap l (K + 1) (.slice rg ng cg) (s' + 1) (L.set s' A) w2) := by
          exact M2.stays Hk.out HP.out R2 g2
        have HN2 : Hid ((t n A).2 = (prt t n0 (l.take (K + 1))).2.2) := by show _ = _; rw [HP.out]
        obtain ⟨d0, d1, d2, d3, d4⟩ := A1
        clear CALL HM0 HP M1 M2 R2 g2 A2 B1 b1 hs1 HA0 HF
        go_wp2_with (at_builtin; refine Go.Lib.wpList_append_run _ rfl (.tmp 32) (.tmp 34) 27 27 rfl _ _ rfl rfl _ _ happ ?_)
        go_roundw
        case rel => exact ⟨K + 1, s' + 1, (t n A).2, rg, ng, cg, _, by omega, by go_num, rfl, rfl, HM2, HST, HN2⟩
        case measure => simp [intOf]; omega
    · obtain rfl : K = l.length := by omega
      have i1 : decide ((l.length : Int) < (l.length : Int)) = false := by simp
      have p0 := hm.out.c0
      have p1 := hm.out.thaw
      have HE : Hid (PartIs X t n0 w base B (.slice r l.length cap) l (.returned (.slice rg ng cg)) (wr.setCell ⟨B, 0, none⟩ (.slice r s' cap))) := by
        obtain ⟨h1, h2⟩ := hm.out.done HQ.out.base
        exact ⟨_, rfl, h1, h2⟩
      clear hm hst hn HF HSt HQ HX
      go_wp2_with fail
      go_ret
      exact HE.out
end Go.Proofs.Ytaikkoijoolhkaa
