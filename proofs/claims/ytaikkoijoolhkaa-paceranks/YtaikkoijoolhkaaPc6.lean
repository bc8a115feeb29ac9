/-
  Package pace: Wants.
-/
import Derived.Test.YtaikkoijoolhkaaPwf
import Derived.Test.YtaikkoijoolhkaaPc1
import Derived.Test.YtaikkoijoolhkaaMpi
namespace Go.Proofs.Ytaikkoijoolhkaa
open Go.RowKit Go.Deep Go.Maps

/-- In the middle of it. -/
structure Wst (w : World) (base B : Nat) (v : Value) (l : List It) (M kc : Nat) (vs : Value) (W : List Wn) (wr : World) : Prop where
  q : QAt wr base B v l
  idx : IdxAt wr M kc (wplc W)
  row : Wr wr (M + 1) vs W
  bel : Below w.heap.size w wr
  le : w.heap.size ≤ M
  ml : M < wr.heap.size
  ql : ∀ k, k ∈ feet B v → k < w.heap.size
section
variable {w wr w' : World} {base B : Nat} {v : Value} {l : List It} {M kc : Nat} {vs : Value} {W : List Wn}
theorem Wst.grew (h : Wst w base B v l M kc vs W wr) (hb : Below wr.heap.size wr w') : Wst w base B v l M kc vs W w' :=
  ⟨h.q.grew hb, h.idx.below hb (Nat.le_refl _), Lr.grew h.row hb, h.bel.trans (hb.mono h.bel.size), h.le, Nat.lt_of_lt_of_le h.ml hb.size, h.ql⟩
/-- What the want at q holds, and that it may be written. -/
theorem Wst.at (h : Wst w base B v l M kc vs W wr) {q : Nat} (hq : q < W.length) : ∃ g cap, vs = .slice (some ⟨g, 0, none⟩) W.length cap ∧ wr.cell? ⟨g, q * 3 + 2, none⟩ = some (.int .i64 W[q].b) ∧ wr.frozen? ⟨g, q * 3 + 2, none⟩ = false ∧ M < g ∧ g < wr.heap.size := by
  obtain ⟨r, cap, e, hls, -, -, hsome⟩ := Lr.any h.row
  obtain ⟨b, o, er⟩ := hls.addr (by omega)
  obtain ⟨g, er2, h1, h2, h3⟩ := hsome _ er
  rw [er2] at hls e
  have := (ls_wn hls q hq).c2
  rw [Nat.zero_add] at this
  exact ⟨g, cap, e, this, h3 _, h1, h2⟩
theorem Wst.bump {g cap q n : Nat} {a : It} {x : Int} (h : Wst w base B v l M kc (.slice (some ⟨g, 0, none⟩) n cap) W wr) (hq : q < W.length) (hi : W[q].i = a.f) (hx : x = min (W[q].b + a.b) 65536) (hf : ∀ y, wplc (W.modify q (bump a)) y = wplc W y) :
    Wst w base B v l M kc (.slice (some ⟨g, 0, none⟩) n cap) (W.modify q (bump a)) (wr.setCell ⟨g, q * 3 + 2, none⟩ (.int .i64 x)) := by
  have hg := Lr.lt h.row g rfl
  have hle := h.le
  have hbs := h.bel.size
  have hm : W.modify q (Go.Proofs.Ytaikkoijoolhkaa.bump a) = W.set q (Go.Proofs.Ytaikkoijoolhkaa.bump a W[q]) := by
    refine List.ext_getElem? fun i => ?_
    rw [List.getElem?_modify, List.getElem?_set]
    by_cases e : q = i
    · subst e; simp [hq]
    · simp [e]
  have hrow : Wr (wr.setCell ⟨g, q * 3 + 2, none⟩ (.int .i64 x)) (M + 1) (.slice (some ⟨g, 0, none⟩) n cap) (W.modify q (Go.Proofs.Ytaikkoijoolhkaa.bump a)) := by
    rw [hm]
    refine Lr.set h.row hq (j := 2) (by decide) rfl ?_
    unfold Go.Proofs.Ytaikkoijoolhkaa.bump
    rw [if_pos hi, hx]
    rfl
  have hk := Kept.set (R := g) wr (q * 3 + 2) (.int .i64 x)
  refine ⟨h.q.block (fun k hk' => hk.block k (h.q.feet hk').2 (fun e => ?_)), (h.idx.kept (row := some g) ⟨hk.os, hk.tape, hk.output, hk.size, fun k hk' hne => hk.block k hk' (fun e => hne (by rw [e]))⟩ (fun e => by cases e; omega)).congr (fun y => (hf y).symm), hrow, ?_, h.le, ?_, h.ql⟩
  · have := h.ql k hk'; omega
  · exact h.bel.trans (hk.below (by omega) hbs)
  · exact Nat.lt_of_lt_of_le h.ml hk.size
theorem Wst.push {H : Nat} {a : It} (ty : TypeId) (h : Wst w base B v l M kc vs W wr) (hn : wplc W a.f = none) (hf : a.f < 4294967296) (hW : W.length ≤ 100000) (hk : kc ≤ 100000) (hA : ItAt wr H 0 a) (hH1 : H ≠ M) (hH2 : vs.ownBlock ≠ some H) :
    ∃ w1 v2 w2, (Instr.mapUpdate 62 (.map (some M)) (.int .u32 (a.f : Int)) (.int .i64 (W.length : Int))).run Try.prog wr = .ok () w1 ∧ ItAt w1 H 0 a ∧
      (Builtin.append_ #[41, 41] ty #[vs, .slice (some ⟨w1.heap.size, 0, none⟩) 1 1]).run Try.prog (w1.alloc (.cells #[.int .u32 (a.f : Int), .int .i64 a.r, .int .i64 0] 45)) = .ok v2 w2 ∧
      Wst w base B v l M (kc + 1) v2 (W ++ [⟨a.f, a.r, 0⟩]) w2 ∧ ItAt w2 H 0 a := by
  obtain ⟨w1, hrun, I1, g1⟩ := h.idx.put hf (q := W.length) (by omega) (by omega)
  have k1 : Kept M wr w1 := ⟨g1.os, g1.tape, g1.output, g1.size, fun k hk hne => g1.block k hk (fun e => hne (by cases e; rfl))⟩
  have hle := h.le
  have hbs := h.bel.size
  have A1 : ItAt w1 H 0 a := hA.block (k1.block H (cell_lt hA.c0) hH1)
  have R1 : Wr w1 (M + 1) vs W := Lr.block h.row (fun g e => k1.block g (Lr.lt h.row g e).2 (by have := (Lr.lt h.row g e).1; omega))
  have b1 : Below w.heap.size w w1 := h.bel.trans (k1.below hle hbs)
  have Q1 : QAt w1 base B v l := h.q.block (fun k hk' => k1.block k (h.q.feet hk').2 (by have := h.ql k hk'; omega))
  obtain ⟨y1, e1⟩ : ∃ y, w1.alloc (.cells #[.int .u32 (a.f : Int), .int .i64 a.r, .int .i64 0] 45) = y := ⟨_, rfl⟩
  have B1 : Below w1.heap.size w1 y1 := e1 ▸ (Below.refl _ _).alloc (Nat.le_refl _) _
  have C1 : WnAt y1 w1.heap.size 0 ⟨a.f, a.r, 0⟩ := by rw [← e1]; exact WnAt.made w1 _ ⟨a.f, a.r, 0⟩
  have hs1 := k1.size
  have hml := h.ml
  have hs2 := B1.size
  have R2 : Wr y1 (M + 1) vs W := Lr.grew R1 B1
  obtain ⟨v2, w2, happ, R3, g2, -⟩ := wr_push ty R2 C1 hW (by omega)
  have hown : ∀ g, vs.ownBlock = some g → M + 1 ≤ g := fun g e => (Lr.lt R2 g e).1
  have b2 : ∀ k, k < y1.heap.size → vs.ownBlock ≠ some k → w2.heap[k]? = y1.heap[k]? := fun k hk hne => g2.block k hk (fun e => hne e.symm)
  refine ⟨w1, v2, w2, hrun, A1, by rw [e1]; exact happ, ⟨?_, ?_, R3, ?_, hle, by have := g2.size; omega, h.ql⟩, ?_⟩
  · refine (Q1.grew B1).block (fun k hk' => b2 k (by have := h.ql k hk'; omega) (fun e => ?_))
    have := hown k e
    have := h.ql k hk'
    omega
  · exact ((I1.below B1 (Nat.le_refl _)).kept g2 (fun e => by have := hown M e.symm; omega)).congr (fun y => wplc_push (c := ⟨a.f, a.r, 0⟩) rfl hn y)
  · refine b1.trans ⟨g2.os.trans B1.os, g2.tape.trans B1.tape, g2.output.trans B1.output, Nat.le_trans hs2 g2.size, fun k hk => ?_⟩
    exact (b2 k (by omega) (fun e => by have := hown k e; omega)).trans (B1.block k (by omega))
  · have hHl := cell_lt A1.c0
    exact (A1.grew B1).block (b2 H (by omega) hH2)
end
theorem QAt.item {w : World} {base B : Nat} {r : Option Addr} {n cap k : Nat} {l : List It} (h : QAt w base B (.slice r n cap) l) (hk : k < l.length) : ∃ g, r = some ⟨g, 0, none⟩ ∧ ItAt w g (k * 5) l[k] := by
  obtain ⟨r', cap', e, hls, -, -, hsome⟩ := Lr.any h.row
  injection e with e1 e4 e3
  clear e4
  subst e1
  subst e3
  obtain ⟨b, o, e⟩ := hls.addr (by omega)
  obtain ⟨g, e2, -⟩ := hsome _ e
  rw [e2] at hls
  have hit := ls_it hls k hk
  rw [Nat.zero_add] at hit
  exact ⟨g, e2, hit⟩
/-- What Wants answers. -/
def WantsIs (l : List It) (w : World) (e : Ending) (w' : World) : Prop :=
  ∃ r c s, e = .returned (.slice r (wfold l).length c) ∧ Told (wfold l) s ∧ LsAt wE w' r s ∧ Below w.heap.size w w' ∧ ∀ b o, r = some ⟨b, o, none⟩ → w.heap.size ≤ b
theorem push_modify (W : List Wn) (a : It) (c : Wn) : (W ++ [c]).modify W.length (bump a) = W ++ [bump a c] := by
  rw [List.modify_eq_take_drop]
  simp

set_option maxRecDepth 100000 in
set_option maxHeartbeats 1000000 in
theorem wants_nil (w : World) : Calls Try.prog 21 #[.pointer none] w fun e w' => e = .returned (.slice none 0 0) ∧ Below w.heap.size w w' := by
  have hmm := @run_makeMap Try.prog
  obtain ⟨x0, e0⟩ : ∃ y, w.alloc (.map #[] 0) = y := ⟨_, rfl⟩
  have HB : Hid (Below w.heap.size w x0) := e0 ▸ (Below.refl _ _).alloc (Nat.le_refl _) _
  have CALL : Hid (Calls Try.prog 28 #[.pointer none] x0 fun e w' => e = .returned (.slice none 0 0) ∧ w' = x0) := waiting_nil x0
  have SORT : Hid (Calls Try.prog 29 #[.slice none 0 0, .func (.func 30) #[] #[]] x0 fun e w' => e = .returned (.tuple #[]) ∧ w' = x0) := wsort_none none 0 _ x0
  go_enter Try.func21, Try.ntmps21
  go_wp2_with fail
  refine CALL.out.mono ?_
  rintro e w' ⟨rfl, hw⟩
  subst w'
  clear hmm
  go_wp2_with fail
  refine wp_loop_rounds 1 ?_
  rw [rounds_succ]
  go_wp2_with fail
  refine SORT.out.mono ?_
  rintro e w' ⟨rfl, hw⟩
  subst w'
  go_wp2_with fail
  go_ret
  exact ⟨rfl, HB.out⟩

set_option maxRecDepth 100000 in
set_option maxHeartbeats 4000000 in
theorem wants_any (base B : Nat) (v : Value) (l : List It) (w : World) (HQ : Hid (QAt w base B v l)) (Hn : Hid (l.length ≤ 100000)) (Hb : Hid (∀ a, a ∈ l → 0 ≤ a.b ∧ a.b ≤ 65536)) (Hf : Hid (∀ a, a ∈ l → a.f < 4294967296)) :
    Calls Try.prog 21 #[.pointer (some ⟨B, 0, none⟩)] w (WantsIs l w) := by
  have hmm := @run_makeMap Try.prog
  obtain ⟨r, cap, rfl⟩ := HQ.out.shape
  obtain ⟨M, hM⟩ : ∃ M, w.heap.size = M := ⟨_, rfl⟩
  obtain ⟨x0, e0⟩ : ∃ y, w.alloc (.map #[] 0) = y := ⟨_, rfl⟩
  have B0 : Below w.heap.size w x0 := e0 ▸ (Below.refl _ _).alloc (Nat.le_refl _) _
  have Q0 := HQ.out.grew B0
  have HW : Hid (Wst w base B (.slice r l.length cap) l M 0 (.slice none 0 0) [] x0) :=
    ⟨Q0, by rw [← e0, ← hM]; exact IdxAt.made w, Lr.nil _ _, B0, Nat.le_of_eq hM, by rw [← e0, ← hM]; simp, fun k hk => (HQ.out.feet hk).2⟩
  have CALL : Hid (Calls Try.prog 28 #[.pointer (some ⟨B, 0, none⟩)] x0 fun e w' => e = .returned (.slice r l.length cap) ∧ w' = x0) := waiting_any B l.length cap r x0 Q0.c0
  clear B0 Q0
  go_enter Try.func21, Try.ntmps21
  go_wp2_with fail
  refine CALL.out.mono ?_
  rintro e w' ⟨rfl, hw⟩
  subst w'
  clear hmm CALL
  go_wp2_with fail
  clear e0
  go_loopw [3, 13] (fun vs i wr => ∃ (K kc : Nat) (rw : Option Addr) (cw : Nat) (W : List Wn), K ≤ l.length ∧ i = .int .i64 (K : Int) ∧ vs = .slice rw W.length cw ∧ Hid (kc ≤ K) ∧ Hid (W = wfold (l.take K)) ∧ Hid (Wst w base B (.slice r l.length cap) l M kc (.slice rw W.length cw) W wr)) (fun _ i _ => l.length - (intOf i).toNat)
  case atStart => exact ⟨0, 0, none, 0, [], Nat.zero_le _, rfl, rfl, Nat.le_refl _, by simp only [List.take_zero]; exact rfl, HW⟩
  case round =>
    obtain ⟨K, kc, rw, cw, W, hK, rfl, rfl, hkc, hWf, hm⟩ := hrel
    clear HW
    by_cases hk : K < l.length
    · have i1 : (K : Int) < (l.length : Int) := by omega
      have hKb : K ≤ 100000 := by have := Hn.out; omega
      obtain ⟨g0, hrg, hit⟩ := hm.out.q.item hk
      subst hrg
      have hmem : l[K] ∈ l := List.getElem_mem hk
      have HSN : Hid (wfold (l.take (K + 1)) = wadd W l[K]) := by
        show _ = _
        rw [hWf.out, ← wfold_snoc, List.take_add_one, List.getElem?_eq_getElem hk]
        rfl
      have hWl : W.length ≤ K := by
        rw [hWf.out]
        have := wfold_len (l.take K)
        rw [List.length_take] at this
        omega
      have HOK : Hid (Wok W) := by
        rw [hWf.out]
        exact Wok.fold fun a ha => (Hb.out a (List.mem_of_mem_take ha)).1
      obtain ⟨A, hA⟩ : ∃ A, l[K] = A := ⟨_, rfl⟩
      rw [hA] at hit hmem HSN
      clear hA hWf
      obtain ⟨c0, c1, c2, c3, c4⟩ := hit
      have HAb := Hb.out A hmem
      have HAf := Hf.out A hmem
      obtain ⟨V0, e0⟩ : ∃ x, wr.alloc (.cells #[.int .u32 (A.f : Int), .int .i64 A.s, .int .i64 A.r, .int .i64 A.b, .int .i64 A.d] 32) = x := ⟨_, rfl⟩
      obtain ⟨H, hH⟩ : ∃ H, wr.heap.size = H := ⟨_, rfl⟩
      have B0 : Below wr.heap.size wr V0 := e0 ▸ (Below.refl _ _).alloc (Nat.le_refl _) _
      have A0 : ItAt V0 H 0 A := by rw [← e0, ← hH]; exact ItAt.made wr _ A
      have M0 := hm.out.grew B0
      have hH1 : H ≠ M := by have := hm.out.ml; omega
      have hH2 : (Value.slice rw W.length cw).ownBlock ≠ some H := fun e => by have := (Lr.lt hm.out.row H e).2; omega
      cases hp : wplc W A.f with
      | some q =>
        have l1 := M0.idx.found HAf hp
        obtain ⟨hq, hqi⟩ := wplc_some hp
        obtain ⟨g, cap2, ev, k2, f2, hg1, hg2⟩ := M0.at hq
        injection ev with ev1 ev2 ev3
        clear ev2 ev3
        subst ev1
        have hwb := HOK.out.bnd _ (List.getElem_mem hq)
        obtain ⟨m, hmn⟩ : ∃ m, min (W[q].b + A.b) 65536 = m := ⟨_, rfl⟩
        have r1 := fun ts ty Wd => min_run ts ty (W[q].b + A.b) 65536 m Wd hmn
        have i5 : IntKind.i64.wrap (W[q].b + A.b) = W[q].b + A.b := w64 _ (by omega) (by omega)
        have hwa : wadd W A = W.modify q (bump A) := by unfold wadd; rw [hp]
        have HE : Hid (Wst w base B (.slice (some ⟨g0, 0, none⟩) l.length cap) l M kc (.slice (some ⟨g, 0, none⟩) W.length cw) (wadd W A) (V0.setCell ⟨g, q * 3 + 2, none⟩ (.int .i64 m))) := by
          rw [hwa]
          exact M0.bump hq hqi hmn.symm (fun y => wplc_modify W q A y)
        have HL : Hid ((wadd W A).length = W.length) := by show _ = _; rw [hwa, List.length_modify]
        have i3 : (q : Int) < (W.length : Int) := by omega
        generalize W[q].b = X at *
        obtain ⟨d0, d1, d2, d3, d4⟩ := A0
        clear hm M0 B0 hwa hmn hqi hwb hp hmem
        go_wp2_with fail
        go_region
        all_goals
          go_wp2_with fail
          go_roundw
          case rel => exact ⟨K + 1, kc, some ⟨g, 0, none⟩, cw, wadd W A, by omega, by go_num, by rw [HL.out], Nat.le_succ_of_le hkc.out, HSN.out.symm, by rw [HL.out]; exact HE.out.grew (below_drews 1)⟩
          case measure => simp [intOf]; omega
      | none =>
        have l1 := M0.idx.none HAf hp
        obtain ⟨w1, v2, w2, hput, A1, happ, M2, A2⟩ := M0.push 41 hp HAf (by omega) (by have := hkc.out; omega) A0 hH1 hH2
        obtain ⟨y1, e1⟩ : ∃ y, w1.alloc (.cells #[.int .u32 (A.f : Int), .int .i64 A.r, .int .i64 0] 45) = y := ⟨_, rfl⟩
        obtain ⟨H1, hH1'⟩ : ∃ H, w1.heap.size = H := ⟨_, rfl⟩
        rw [e1, hH1'] at happ
        have hl1 : W.length < (W ++ [(⟨A.f, A.r, 0⟩ : Wn)]).length := by simp
        obtain ⟨g, cap2, ev, k2, f2, hg1, hg2⟩ := M2.at hl1
        subst ev
        have hz : (W ++ [(⟨A.f, A.r, 0⟩ : Wn)])[W.length] = ⟨A.f, A.r, 0⟩ := by simp
        rw [hz] at k2
        obtain ⟨m, hmn⟩ : ∃ m, min (0 + A.b) 65536 = m := ⟨_, rfl⟩
        have r1 := fun ts ty Wd => min_run ts ty A.b 65536 m Wd (by rw [← hmn, Int.zero_add])
        have hwa : wadd W A = (W ++ [(⟨A.f, A.r, 0⟩ : Wn)]).modify W.length (bump A) := by unfold wadd; rw [hp, push_modify]
        have i5 : IntKind.i64.wrap A.b = A.b := w64 _ (by omega) (by omega)
        have HE : Hid (Wst w base B (.slice (some ⟨g0, 0, none⟩) l.length cap) l M (kc + 1) (.slice (some ⟨g, 0, none⟩) (W ++ [(⟨A.f, A.r, 0⟩ : Wn)]).length cap2) (wadd W A) (w2.setCell ⟨g, W.length * 3 + 2, none⟩ (.int .i64 m))) := by
          rw [hwa]
          exact M2.bump hl1 (by rw [hz]) (by rw [hz]; exact hmn.symm) (fun y => wplc_modify _ _ A y)
        have HL : Hid ((wadd W A).length = (W ++ [(⟨A.f, A.r, 0⟩ : Wn)]).length) := by show _ = _; rw [hwa, List.length_modify]
        have hN : ∃ N, (W ++ [(⟨A.f, A.r, 0⟩ : Wn)]).length = N := ⟨_, rfl⟩
        obtain ⟨N, hN⟩ := hN
        rw [hN] at happ HE HL hl1
        have i3 : (W.length : Int) < (N : Int) := by omega
        obtain ⟨d0, d1, d2, d3, d4⟩ := A0
        obtain ⟨n0, n1, n2, n3, n4⟩ := A1
        obtain ⟨t0, t1, t2, t3, t4⟩ := A2
        clear hm M0 B0 hwa hmn hp hmem M2 hz hN
        go_wp2_with (at_builtin; refine Go.Lib.wpList_append_run _ rfl (.tmp 32) (.tmp 38) 41 41 rfl _ _ rfl rfl _ _ happ ?_)
        go_region
        all_goals
          go_wp2_with fail
          go_roundw
          case rel => exact ⟨K + 1, kc + 1, some ⟨g, 0, none⟩, cap2, wadd W A, by omega, by go_num, by rw [HL.out], Nat.succ_le_succ hkc.out, HSN.out.symm, by rw [HL.out]; exact HE.out.grew (below_drews 1)⟩
          case measure => simp [intOf]; omega
    · obtain rfl : K = l.length := by omega
      have i1 : decide ((l.length : Int) < (l.length : Int)) = false := by simp
      have hWE : W = wfold l := by have := hWf.out; rwa [List.take_length] at this
      have hWl : W.length ≤ 100000 := by
        rw [hWE]
        have := wfold_len l
        have := Hn.out
        omega
      have SORT : Hid (Calls Try.prog 29 #[.slice rw W.length cw, .func (.func 30) #[] #[]] wr fun e w' => e = .returned (.tuple #[]) ∧ WantsIs l w (.returned (.slice rw W.length cw)) w') := by
        obtain ⟨r', cap', e, hls, -, hnone, hsome⟩ := Lr.any hm.out.row
        injection e with e1 e4 e3
        clear e4
        subst e1
        subst e3
        cases rw with
        | none =>
          have h0 := hnone rfl
          rw [h0]
          refine Calls.mono (wsort_none none _ _ wr) ?_
          rintro e w' ⟨rfl, rfl⟩
          have h1 : wfold l = [] := by rw [← hWE, h0]
          refine ⟨rfl, none, _, [], by rw [h1], by rw [h1]; exact ⟨List.Perm.refl _, List.Pairwise.nil⟩, LsAt.nil _ _, hm.out.bel, fun b o e => by cases e⟩
        | some a =>
          obtain ⟨g, e2, h1, h2, h3⟩ := hsome a rfl
          cases e2
          refine Calls.mono (wsort_any g _ W wr hls h2 h3 hWl) ?_
          rintro e w' ⟨rfl, ⟨s, h4, h5⟩, h6⟩
          have hbs := hm.out.bel.size
          have hle := hm.out.le
          exact ⟨rfl, _, _, s, by rw [← hWE], hWE ▸ h4, h5, hm.out.bel.trans (h6.below (by omega) hbs), fun b o e => by cases e; omega⟩
      clear hm hWf hWE HQ Hb Hf
      go_wp2_with fail
      refine SORT.out.mono ?_
      rintro e w' ⟨rfl, h⟩
      have HE : Hid (WantsIs l w (.returned (.slice rw W.length cw)) w') := h
      clear h SORT
      go_wp2_with fail
      go_ret
      exact HE.out
end Go.Proofs.Ytaikkoijoolhkaa
