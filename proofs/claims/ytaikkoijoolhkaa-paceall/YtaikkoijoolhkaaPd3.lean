/-
  The document's Queue: Take, Rank.
-/
import Derived.Test.YtaikkoijoolhkaaPd2
import Derived.Test.YtaikkoijoolhkaaPc5
namespace Go.Proofs.Ytaikkoijoolhkaa
open Go.RowKit Go.Deep

/-- How the document counts: what has gone so far, and whether no more goes. -/
structure Tkn (sum : Int) (full : Bool) (n most : Int) (K : Nat) : Prop where
  lo : 0 ≤ sum
  hi : sum ≤ 65536 * (K : Int)
  eq : (full = false ∧ n = most - sum) ∨ (full = true ∧ n ≤ 0)
theorem pst_go {f : Nat} {x : List It × List It × Int} {a : It} (h : hold f x.2.2 a = (true, x.2.2 - a.b)) : (pst (hold f) x a).1 = x.1 ++ [a] ∧ (pst (hold f) x a).2.1 = x.2.1 ∧ (pst (hold f) x a).2.2 = x.2.2 - a.b := by
  unfold pst
  rw [h]
  exact ⟨rfl, rfl, rfl⟩
theorem pst_no {f : Nat} {x : List It × List It × Int} {a : It} {m : Int} (h : hold f x.2.2 a = (false, m)) : (pst (hold f) x a).1 = x.1 ∧ (pst (hold f) x a).2.1 = x.2.1 ++ [a] ∧ (pst (hold f) x a).2.2 = m := by
  unfold pst
  rw [h]
  exact ⟨rfl, rfl, rfl⟩

set_option maxRecDepth 100000 in
set_option maxHeartbeats 8000000 in
theorem rtake_any (base B f : Nat) (most : Int) (v : Value) (l : List It) (w : World) (HQ : Hid (QAt w base B v l)) (Hn : Hid (l.length ≤ 100000)) (Hb : Hid (base ≤ w.heap.size)) (Ha : Hid (∀ a, a ∈ l → 1 ≤ a.b ∧ a.b ≤ 65536)) :
    Calls Try.prog 14 #[.pointer (some ⟨B, 0, none⟩), .int .u32 (f : Int), .int .i64 most] w (Gone (prt (hold f) most l).1 (prt (hold f) most l).2.1 w base B v) := by
  obtain ⟨r, cap, rfl⟩ := HQ.out.shape
  have HM : Hid (Rmd w base B (.slice r l.length cap) l (.slice none 0 0) [] (.slice none 0 0) [] w) := Rmd.nil HQ.out
  go_enter Try.func14, Try.ntmps14
  go_wp2_with fail
  go_loopw [7, 8, 9, 10, 11] (fun vs vg sv fv i wr => ∃ (K : Nat) (rg rs : Option Addr) (cg cs : Nat) (G S : List It) (sum : Int) (full : Bool), K ≤ l.length ∧ i = .int .i64 (K : Int) ∧ vs = .slice rs S.length cs ∧ vg = .slice rg G.length cg ∧ sv = .int .i64 sum ∧ fv = .bool full ∧ Hid (Tkn sum full (prt (hold f) most (l.take K)).2.2 most K) ∧ Hid (G = (prt (hold f) most (l.take K)).1) ∧ Hid (S = (prt (hold f) most (l.take K)).2.1) ∧ Hid (Rmd w base B (.slice r l.length cap) l (.slice rg G.length cg) G (.slice rs S.length cs) S wr)) (fun _ _ _ _ i _ => l.length - (intOf i).toNat)
  case atStart => exact ⟨0, none, none, 0, 0, [], [], 0, false, Nat.zero_le _, rfl, rfl, rfl, rfl, rfl, ⟨Int.le_refl _, by omega, .inl ⟨rfl, by simp [prt]⟩⟩, by simp only [List.take_zero]; exact rfl, by simp only [List.take_zero]; exact rfl, HM⟩
  case round =>
    obtain ⟨K, rg, rs, cg, cs, G, S, sum, full, hK, rfl, rfl, rfl, rfl, rfl, htk, hG, hS, hm⟩ := hrel
    clear HM
    have q0 := hm.out.q.c0
    by_cases hk : K < l.length
    · have i1 : (K : Int) < (l.length : Int) := by omega
      have hKb : K ≤ 100000 := by have := Hn.out; omega
      obtain ⟨g0, hrg, hit⟩ := hm.out.q.item hk
      subst hrg
      obtain ⟨hl1, hl2⟩ := prt_small (hold f) most l K Hn.out
      rw [← hG.out] at hl1
      rw [← hS.out] at hl2
      have hab := Ha.out _ (List.getElem_mem hk)
      obtain ⟨A, hA⟩ : ∃ A, l[K] = A := ⟨_, rfl⟩
      have hps := prt_some (t := hold f) (n := most) hk hA
      rw [hA] at hit hab
      obtain ⟨c0, c1, c2, c3, c4⟩ := hit
      obtain ⟨V0, e0⟩ : ∃ x, wr.alloc (.cells #[.int .u32 (A.f : Int), .int .i64 A.s, .int .i64 A.r, .int .i64 A.b, .int .i64 A.d] 32) = x := ⟨_, rfl⟩
      obtain ⟨H, hH⟩ : ∃ H, wr.heap.size = H := ⟨_, rfl⟩
      have B0 : Below wr.heap.size wr V0 := e0 ▸ (Below.refl _ _).alloc (Nat.le_refl _) _
      have A0 : ItAt V0 H 0 A := by rw [← e0, ← hH]; exact ItAt.made wr _ A
      obtain ⟨d0, d1, d2, d3, d4⟩ := id A0
      have M0 := hm.out.grew B0
      obtain ⟨hlo, hhi, heq⟩ := htk.out
      obtain ⟨n, hn⟩ : ∃ n, (prt (hold f) most (l.take K)).2.2 = n := ⟨_, rfl⟩
      rw [hn] at heq
      obtain ⟨y1, e1⟩ : ∃ x, V0.alloc (.cells #[.int .u32 (A.f : Int), .int .i64 A.s, .int .i64 A.r, .int .i64 A.b, .int .i64 A.d] 32) = x := ⟨_, rfl⟩
      obtain ⟨H1, hH1⟩ : ∃ H, V0.heap.size = H := ⟨_, rfl⟩
      have B1 : Below V0.heap.size V0 y1 := e1 ▸ (Below.refl _ _).alloc (Nat.le_refl _) _
      have A1 : ItAt y1 H1 0 A := by rw [← e1, ← hH1]; exact ItAt.made V0 _ A
      have M1 := M0.grew B1
      by_cases hf : A.f = f
      case neg =>
        have i2 : ((A.f : Int) == (f : Int)) = false := by simp; omega
        have hh : hold f n A = (false, n) := if_neg hf
        cases full with
        | true =>
          obtain ⟨p1, p2, p3⟩ := pst_no (x := prt (hold f) most (l.take K)) (hn.symm ▸ hh)
          rw [← hps] at p1 p2 p3
          obtain ⟨r2, c2', w2, happ, M2, -⟩ := M1.swap.goes 27 A1 hl2
          have HG2 : Hid (G = (prt (hold f) most (l.take (K + 1))).1) := by show _ = _; rw [p1]; exact hG.out
          have HS2 : Hid (S ++ [A] = (prt (hold f) most (l.take (K + 1))).2.1) := by show _ = _; rw [p2, ← hS.out]
          have HM2 : Hid (Rmd w base B (.slice (some ⟨g0, 0, none⟩) l.length cap) l (.slice rg G.length cg) G (.slice r2 (S ++ [A]).length c2') (S ++ [A]) w2) := M2.swap
          have HT2 : Hid (Tkn sum true (prt (hold f) most (l.take (K + 1))).2.2 most (K + 1)) := by (first | rw [p3, hn] | rw [p3]); exact ⟨hlo, by omega, (by rcases heq with ⟨h, -⟩ | ⟨-, h⟩ <;> first | (cases h; done) | exact .inr ⟨rfl, h⟩)⟩
          generalize S ++ [A] = S2 at *
          clear htk hm hG hS hps B0 B1 M0 M1 M2 A0 A1 hA hn hh heq p1 p2 p3 hlo
          go_wp2_with (at_builtin; refine Go.Lib.wpList_append_run _ rfl (.tmp 60) (.tmp 62) 27 27 rfl _ _ rfl rfl _ _ happ ?_)
          go_roundw
          case rel => exact ⟨K + 1, rg, r2, cg, c2', G, S2, sum, true, by omega, by go_num, rfl, rfl, rfl, rfl, HT2, HG2, HS2, HM2⟩
          case measure => simp [intOf]; omega
        | false =>
          obtain ⟨p1, p2, p3⟩ := pst_no (x := prt (hold f) most (l.take K)) (hn.symm ▸ hh)
          rw [← hps] at p1 p2 p3
          obtain ⟨r2, c2', w2, happ, M2, -⟩ := M1.swap.goes 27 A1 hl2
          have HG2 : Hid (G = (prt (hold f) most (l.take (K + 1))).1) := by show _ = _; rw [p1]; exact hG.out
          have HS2 : Hid (S ++ [A] = (prt (hold f) most (l.take (K + 1))).2.1) := by show _ = _; rw [p2, ← hS.out]
          have HM2 : Hid (Rmd w base B (.slice (some ⟨g0, 0, none⟩) l.length cap) l (.slice rg G.length cg) G (.slice r2 (S ++ [A]).length c2') (S ++ [A]) w2) := M2.swap
          have HT2 : Hid (Tkn sum false (prt (hold f) most (l.take (K + 1))).2.2 most (K + 1)) := by (first | rw [p3, hn] | rw [p3]); exact ⟨hlo, by omega, (by rcases heq with ⟨-, h⟩ | ⟨h, -⟩ <;> first | (cases h; done) | exact .inl ⟨rfl, h⟩)⟩
          generalize S ++ [A] = S2 at *
          clear htk hm hG hS hps B0 B1 M0 M1 M2 A0 A1 hA hn hh heq p1 p2 p3 hlo
          go_wp2_with (at_builtin; refine Go.Lib.wpList_append_run _ rfl (.tmp 60) (.tmp 62) 27 27 rfl _ _ rfl rfl _ _ happ ?_)
          go_roundw
          case rel => exact ⟨K + 1, rg, r2, cg, c2', G, S2, sum, false, by omega, by go_num, rfl, rfl, rfl, rfl, HT2, HG2, HS2, HM2⟩
          case measure => simp [intOf]; omega
      case pos =>
        have i2 : ((A.f : Int) == (f : Int)) = true := by simp [hf]
        have HF : Hid (A.f = f) := hf
        rw [hf] at c0 d0
        cases full with
        | true =>
          have hh : hold f n A = (false, 0) := by
            rcases heq with ⟨h, -⟩ | ⟨-, h⟩
            · cases h
            · unfold hold; rw [if_pos hf, if_neg (by omega)]
          have i9 : ((f : Int) == (f : Int)) = true := by simp
          rw [hf] at e0 e1
          obtain ⟨p1, p2, p3⟩ := pst_no (x := prt (hold f) most (l.take K)) (hn.symm ▸ hh)
          rw [← hps] at p1 p2 p3
          obtain ⟨r2, c2', w2, happ, M2, -⟩ := M1.swap.goes 27 A1 hl2
          have HG2 : Hid (G = (prt (hold f) most (l.take (K + 1))).1) := by show _ = _; rw [p1]; exact hG.out
          have HS2 : Hid (S ++ [A] = (prt (hold f) most (l.take (K + 1))).2.1) := by show _ = _; rw [p2, ← hS.out]
          have HM2 : Hid (Rmd w base B (.slice (some ⟨g0, 0, none⟩) l.length cap) l (.slice rg G.length cg) G (.slice r2 (S ++ [A]).length c2') (S ++ [A]) w2) := M2.swap
          have HT2 : Hid (Tkn sum true (prt (hold f) most (l.take (K + 1))).2.2 most (K + 1)) := by (first | rw [p3, hn] | rw [p3]); exact ⟨hlo, by omega, .inr ⟨rfl, Int.le_refl _⟩⟩
          generalize S ++ [A] = S2 at *
          clear htk hm hG hS hps B0 B1 M0 M1 M2 A0 A1 hA hn hh heq hf p1 p2 p3 hlo
          go_wp2_with (at_builtin; refine Go.Lib.wpList_append_run _ rfl (.tmp 60) (.tmp 62) 27 27 rfl _ _ rfl rfl _ _ happ ?_)
          go_roundw
          case rel => exact ⟨K + 1, rg, r2, cg, c2', G, S2, sum, true, by omega, by go_num, rfl, rfl, rfl, rfl, HT2, HG2, HS2, HM2⟩
          case measure => simp [intOf]; omega
        | false =>
          have hnn : n = most - sum := by
            rcases heq with ⟨-, h⟩ | ⟨h, -⟩
            · exact h
            · cases h
          have i4 : IntKind.i64.wrap (sum + A.b) = sum + A.b := w64 _ (by omega) (by omega)
          by_cases hfit : sum + A.b ≤ most
          case neg =>
            have hh : hold f n A = (false, 0) := by unfold hold; rw [if_pos hf, if_neg (by omega)]
            have i3 : decide (sum + A.b ≤ most) = false := decide_eq_false hfit
            rw [hf] at e0 e1
            obtain ⟨p1, p2, p3⟩ := pst_no (x := prt (hold f) most (l.take K)) (hn.symm ▸ hh)
            rw [← hps] at p1 p2 p3
            obtain ⟨r2, c2', w2, happ, M2, -⟩ := M1.swap.goes 27 A1 hl2
            have HG2 : Hid (G = (prt (hold f) most (l.take (K + 1))).1) := by show _ = _; rw [p1]; exact hG.out
            have HS2 : Hid (S ++ [A] = (prt (hold f) most (l.take (K + 1))).2.1) := by show _ = _; rw [p2, ← hS.out]
            have HM2 : Hid (Rmd w base B (.slice (some ⟨g0, 0, none⟩) l.length cap) l (.slice rg G.length cg) G (.slice r2 (S ++ [A]).length c2') (S ++ [A]) w2) := M2.swap
            have HT2 : Hid (Tkn sum true (prt (hold f) most (l.take (K + 1))).2.2 most (K + 1)) := by (first | rw [p3, hn] | rw [p3]); exact ⟨hlo, by omega, .inr ⟨rfl, Int.le_refl _⟩⟩
            generalize S ++ [A] = S2 at *
            clear htk hm hG hS hps B0 B1 M0 M1 M2 A0 A1 hA hn hh heq hf hnn hfit p1 p2 p3 hlo
            go_wp2_with (at_builtin; refine Go.Lib.wpList_append_run _ rfl (.tmp 60) (.tmp 62) 27 27 rfl _ _ rfl rfl _ _ happ ?_)
            go_roundw
            case rel => exact ⟨K + 1, rg, r2, cg, c2', G, S2, sum, true, by omega, by go_num, rfl, rfl, rfl, rfl, HT2, HG2, HS2, HM2⟩
            case measure => simp [intOf]; omega
          case pos =>
            have hh : hold f n A = (true, n - A.b) := by unfold hold; rw [if_pos hf, if_pos (by omega)]
            have i3 : decide (sum + A.b ≤ most) = true := decide_eq_true hfit
            obtain ⟨p1, p2, p3⟩ := pst_go (x := prt (hold f) most (l.take K)) (by rw [hn]; exact hh)
            rw [← hps] at p1 p2 p3
            clear e1 hH1 B1 A1 M1
            clear y1 H1
            have MD := M0.grew (below_drews 1)
            have AD : ItAt V0.drew H 0 A := A0.grew (below_drews 1)
            obtain ⟨y1, e1⟩ : ∃ x, V0.drew.alloc (.cells #[.int .u32 (A.f : Int), .int .i64 A.s, .int .i64 A.r, .int .i64 A.b, .int .i64 A.d] 32) = x := ⟨_, rfl⟩
            obtain ⟨H1, hH1⟩ : ∃ H, V0.drew.heap.size = H := ⟨_, rfl⟩
            have B1 : Below V0.drew.heap.size V0.drew y1 := e1 ▸ (Below.refl _ _).alloc (Nat.le_refl _) _
            have A1 : ItAt y1 H1 0 A := by rw [← e1, ← hH1]; exact ItAt.made V0.drew _ A
            have A2 : ItAt y1 H 0 A := AD.grew B1
            have M1 : Rmd w base B (.slice (some ⟨g0, 0, none⟩) l.length cap) l (.slice rg G.length cg) G (.slice rs S.length cs) S y1 := Rmd.grew MD B1
            obtain ⟨r2, c2', w2, happ, M2, hk2⟩ := M1.goes 27 A1 hl1
            have A3 : ItAt w2 H 0 A := A2.block (hk2 H (cell_lt A2.c0) (fun e => by have := (Lr.lt hm.out.gone H e).2; omega))
            have HG2 : Hid (G ++ [A] = (prt (hold f) most (l.take (K + 1))).1) := by show _ = _; rw [p1, ← hG.out]
            have HS2 : Hid (S = (prt (hold f) most (l.take (K + 1))).2.1) := by show _ = _; rw [p2]; exact hS.out
            have HM2 : Hid (Rmd w base B (.slice (some ⟨g0, 0, none⟩) l.length cap) l (.slice r2 (G ++ [A]).length c2') (G ++ [A]) (.slice rs S.length cs) S w2) := M2
            have HT2 : Hid (Tkn (sum + A.b) false (prt (hold f) most (l.take (K + 1))).2.2 most (K + 1)) := by rw [p3, hn]; exact ⟨by omega, by omega, .inl ⟨rfl, by omega⟩⟩
            have HS3 : Hid (ItAt y1 H 0 A ∧ ItAt w2 H 0 A) := ⟨A2, A3⟩
            have HS0 : Hid (ItAt V0.drew H 0 A) := AD
            generalize G ++ [A] = G2 at *
            rw [hf] at e0 e1
            clear htk hm hG hS hps B0 B1 M0 M1 M2 MD AD A0 A1 A2 A3 hA hn hh heq p1 p2 p3 hlo hnn hfit hk2
            go_wp2_with fail
            refine wp_region_held (S := fun W => ItAt W H 0 A) (by kernel_rfl) ?_
            change wpAnyH _ _ _ _ _ _ _ _ V0.drew
            have hr := HS0.out
            generalize V0.drew = z0 at *
            refine wpAnyH_take (i := 0) (v := .slice rg G.length cg) rfl (by kernel_rfl) (by kernel_rfl) (by kernel_rfl) (fun _ _ _ h => h) (Yields.yieldsIf (Or.inl ⟨by kernel_rfl, fun _ => by go_simp⟩)) hr ?_
            refine wpAnyH_take (i := 1) (v := .agg #[.int .u32 (f : Int), .int .i64 A.s, .int .i64 A.r, .int .i64 A.b, .int .i64 A.d]) rfl (by kernel_rfl) (by kernel_rfl) (by kernel_rfl) (fun _ _ _ h => h) (Or.inl ⟨by kernel_rfl, fun W hW => by have c0 := hW.c0; rw [HF.out] at c0; have c1 := hW.c1; have c2 := hW.c2; have c3 := hW.c3; have c4 := hW.c4; go_simp⟩) hr ?_
            refine wpAnyH_take (i := 4) (v := .int .i64 sum) rfl (by kernel_rfl) (by kernel_rfl) (by kernel_rfl) (fun _ _ _ h => h) (Yields.yieldsIf (Or.inl ⟨by kernel_rfl, fun _ => by go_simp⟩)) hr ?_
            refine wpAnyH_take (i := 5) (v := .pointer (some ⟨H, 3, none⟩)) rfl (by kernel_rfl) (by kernel_rfl) (by kernel_rfl) (fun _ _ _ h => h) (Yields.yieldsIf (Or.inl ⟨by kernel_rfl, fun _ => by go_simp⟩)) hr ?_
            refine wpAnyH_take (i := 6) (v := .int .i64 A.b) rfl (by kernel_rfl) (by kernel_rfl) (by kernel_rfl) (fun _ _ _ h => h) (Or.inl ⟨by kernel_rfl, fun W hW => by have c3 := hW.c3; go_simp⟩) hr ?_
            refine wpAnyH_take (i := 7) (v := .int .i64 (sum + A.b)) rfl (by kernel_rfl) (by kernel_rfl) (by kernel_rfl) (fun _ _ _ h => h) (Yields.yieldsIf (Or.inl ⟨by kernel_rfl, fun _ => by go_simp⟩)) hr ?_
            refine wpAnyH_ready (rs := [2]) (by kernel_rfl) (by simp) ?_
            refine AllReadyH.cons rfl (fun K2 hK2 => ?_) AllReadyH.nil
            go_simp
            refine hK2.out _ _ HS3.out.1 (fun hr => ?_)
            clear hK2 K2
            refine wpAnyH_ready (rs := [3]) (by kernel_rfl) (by simp) ?_
            refine AllReadyH.cons rfl (fun K2 hK2 => ?_) AllReadyH.nil
            refine step_append_run rfl (.tmp 45) (.tmp 47) 27 rfl _ _ rfl rfl _ _ happ ?_
            refine hK2.out _ _ HS3.out.2 (fun hr => ?_)
            clear hK2 K2
            refine wpAnyH_take (i := 8) (v := .slice r2 G2.length c2') rfl (by kernel_rfl) (by kernel_rfl) (by kernel_rfl) (fun _ _ _ h => h) (Yields.yieldsIf (Or.inl ⟨by kernel_rfl, fun _ => by kernel_rfl⟩)) hr ?_
            refine wpAnyH_take (i := 9) (v := .int .i64 (sum + A.b)) rfl (by kernel_rfl) (by kernel_rfl) (by kernel_rfl) (fun _ _ _ h => h) (Yields.yieldsIf (Or.inl ⟨by kernel_rfl, fun _ => by kernel_rfl⟩)) hr ?_
            refine wpAnyH_done (by kernel_rfl) ?_ _
            clear hr happ HS0 HS3
            go_wp2_with fail
            go_roundw
            case rel => exact ⟨K + 1, r2, rs, c2', cs, G2, S, sum + A.b, false, by omega, by go_num, rfl, rfl, rfl, rfl, HT2, HG2, HS2, HM2⟩
            case measure => simp [intOf]; omega
    · obtain rfl : K = l.length := by omega
      have i1 : decide ((l.length : Int) < (l.length : Int)) = false := by simp
      have z1 := hm.out.q.thaw
      have HE : Hid (Gone (prt (hold f) most l).1 (prt (hold f) most l).2.1 w base B (.slice r l.length cap) (.returned (.slice rg G.length cg)) (wr.setCell ⟨B, 0, none⟩ (.slice rs S.length cs))) := by
        obtain ⟨h1, h2⟩ := hm.out.down Hb.out
        have hG := hG.out
        have hS := hS.out
        rw [List.take_length] at hG hS
        rw [← hG, ← hS]
        exact ⟨_, _, rfl, h1, h2⟩
      clear hm hG hS
      go_wp2_with fail
      go_ret
      exact HE.out

set_option maxRecDepth 100000 in
set_option maxHeartbeats 2000000 in
theorem rrank_any (base B f : Nat) (rk : Int) (v : Value) (l : List It) (w : World) (HQ : Hid (QAt w base B v l)) (Hn : Hid (l.length ≤ 100000)) :
    Calls Try.prog 20 #[.pointer (some ⟨B, 0, none⟩), .int .u32 (f : Int), .int .i64 rk] w fun e w' => e = .returned (.int .i64 (count f l : Int)) ∧ QAt w' base B v (l.map (ranked f rk)) ∧ But (feet B v) w w' := by
  obtain ⟨r, cap, rfl⟩ := HQ.out.shape
  go_enter Try.func20, Try.ntmps20
  go_wp2_with fail
  go_loopw [7, 8] (fun nv i wr => ∃ K : Nat, K ≤ l.length ∧ i = .int .i64 (K : Int) ∧ nv = .int .i64 (count f (l.take K) : Int) ∧ Hid (QAt wr base B (.slice r l.length cap) (rankTo f rk l K)) ∧ Hid (But (feet B (.slice r l.length cap)) w wr)) (fun _ i _ => l.length - (intOf i).toNat)
  case atStart => exact ⟨0, Nat.zero_le _, rfl, rfl, by simpa [rankTo] using HQ, But.refl _ _⟩
  case round =>
    obtain ⟨K, hK, rfl, rfl, hq, hb⟩ := hrel
    have q0 := hq.out.c0
    have hcl : count f (l.take K) ≤ 100000 := by
      have := count_le (f := f) (l := l.take K)
      have h2 : (l.take K).length ≤ l.length := by rw [List.length_take]; omega
      have := Hn.out
      omega
    by_cases hk : K < l.length
    · have i1 : (K : Int) < (l.length : Int) := by omega
      have hKb : K ≤ 100000 := by have := Hn.out; omega
      obtain ⟨r', cap', e, hls, -, -, hsome⟩ := Lr.any hq.out.row
      injection e with e1 e4 e3
      clear e4
      subst e1
      subst e3
      have hkL : K < (rankTo f rk l K).length := by rw [rankTo_len]; exact hk
      obtain ⟨b, o, e⟩ := hls.addr (by omega)
      obtain ⟨g, e2, -, hgl, hfr⟩ := hsome _ e
      clear e
      subst e2
      have hit := ls_it hls K hkL
      have e3 : (rankTo f rk l K)[K] = l[K] := by
        have := rankTo_get (f := f) (r := rk) hk
        rw [List.getElem?_eq_getElem hkL] at this
        exact Option.some.inj this
      rw [e3, Nat.zero_add] at hit
      have hcn := count_next (f := f) hk
      have hnx := rankTo_next (f := f) (r := rk) hk
      have hsm := fun h => rankTo_same (f := f) (r := rk) hk h
      have hst : ∀ W : World, Ir W base (.slice (some ⟨g, 0, none⟩) l.length cap) (rankTo f rk l K) → l[K].f = f → Ir (W.setCell ⟨g, K * 5 + 2, none⟩ (.int .i64 rk)) base (.slice (some ⟨g, 0, none⟩) l.length cap) (rankTo f rk l (K + 1)) := fun W hW hf => by
        rw [hnx]
        refine Lr.set hW hkL (j := 2) (by decide) rfl ?_
        rw [e3]
        unfold ranked
        rw [if_pos hf]
        rfl
      obtain ⟨A, hA⟩ : ∃ A, l[K] = A := ⟨_, rfl⟩
      rw [hA] at hit hcn hsm hst
      obtain ⟨c0, c1, c2, c3, c4⟩ := hit
      have HQ0 : Hid (QAt wr base B (.slice (some ⟨g, 0, none⟩) l.length cap) (rankTo f rk l K)) := hq
      have HB0 : Hid (But (feet B (.slice (some ⟨g, 0, none⟩) l.length cap)) w wr) := hb
      have HST : Hid (∀ W : World, Ir W base (.slice (some ⟨g, 0, none⟩) l.length cap) (rankTo f rk l K) → A.f = f → Ir (W.setCell ⟨g, K * 5 + 2, none⟩ (.int .i64 rk)) base (.slice (some ⟨g, 0, none⟩) l.length cap) (rankTo f rk l (K + 1))) := hst
      have p1 : wr.frozen? ⟨g, K * 5 + 2, none⟩ = false := hfr _
      by_cases hf : A.f = f
      · rw [if_pos hf] at hcn
        have HF : Hid (A.f = f) := hf
        have i2 : ((A.f : Int) == (f : Int)) = true := by simp [hf]
        have HCN : Hid (count f (l.take (K + 1)) = count f (l.take K) + 1) := hcn
        have Q1 := HQ0.out
        have hgB : B ≠ g := fun e => Q1.ne (by rw [e]; rfl)
        have HQ2 : Hid (QAt (wr.setCell ⟨g, K * 5 + 2, none⟩ (.int .i64 rk)) base B (.slice (some ⟨g, 0, none⟩) l.length cap) (rankTo f rk l (K + 1))) :=
          ⟨(World.cell?_setCell_other _ _ _ _ (by intro e; exact hgB (Addr.mk.inj e).1.symm)).trans Q1.c0, by rw [World.frozen?_setCell]; exact Q1.thaw, HST.out wr Q1.row HF.out, Q1.ne, Q1.base⟩
        have HB2 : Hid (But (feet B (.slice (some ⟨g, 0, none⟩) l.length cap)) w (wr.setCell ⟨g, K * 5 + 2, none⟩ (.int .i64 rk))) := HB0.out.trans (But.set _ g _ _ (mem_feet.2 (.inr rfl)))
        rw [hf] at c0
        clear i2 hst hsm hnx hcn hA hls hsome hfr hgl hq hb e3 hkL hf Q1 hgB HQ0 HB0
        go_wp2_with fail
        go_roundw
        case rel => exact ⟨K + 1, by omega, by go_num, by rw [HCN.out]; go_num, HQ2, HB2⟩
        case measure => simp [intOf]; omega
      · rw [if_neg hf] at hcn
        have i2 : ((A.f : Int) == (f : Int)) = false := by simp; omega
        have HCN : Hid (count f (l.take (K + 1)) = count f (l.take K)) := hcn
        have HQ2 : Hid (QAt wr base B (.slice (some ⟨g, 0, none⟩) l.length cap) (rankTo f rk l (K + 1))) := by rw [hsm hf]; exact HQ0.out
        clear hst hsm hnx hcn hA hls hsome hfr hgl hq e3 hkL hf HQ0
        go_wp2_with fail
        go_roundw
        case rel => exact ⟨K + 1, by omega, by go_num, by rw [HCN.out], HQ2, HB0⟩
        case measure => simp [intOf]; omega
    · obtain rfl : K = l.length := by omega
      have i1 : decide ((l.length : Int) < (l.length : Int)) = false := by simp
      have e1 : rankTo f rk l l.length = l.map (ranked f rk) := by simp [rankTo]
      have HE : Hid (QAt wr base B (.slice r l.length cap) (l.map (ranked f rk)) ∧ But (feet B (.slice r l.length cap)) w wr) := ⟨e1 ▸ hq.out, hb.out⟩
      rw [List.take_length]
      clear hq hb e1
      go_wp2_with fail
      go_ret
      exact ⟨rfl, HE.out⟩
end Go.Proofs.Ytaikkoijoolhkaa
