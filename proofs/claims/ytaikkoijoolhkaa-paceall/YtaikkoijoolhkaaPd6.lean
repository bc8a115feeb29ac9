/-
  The document's Queue: Wants.
-/
import Derived.Test.YtaikkoijoolhkaaPd5
import Derived.OrdersHeld
import Derived.Deep.RegionHeld
import Derived.BigQuiet
namespace Go.Proofs.Ytaikkoijoolhkaa
open Go.RowKit Go.Deep

/-- In the middle of it. -/
structure Rst (w : World) (base B : Nat) (v : Value) (l : List It) (vs : Value) (W : List Wn) (wr : World) : Prop where
  q : QAt wr base B v l
  row : Wr wr w.heap.size vs W
  bel : Below w.heap.size w wr
  ql : ∀ k, k ∈ feet B v → k < w.heap.size
section
variable {w wr w' : World} {base B : Nat} {v : Value} {l : List It} {vs : Value} {W : List Wn}
theorem Rst.grew (h : Rst w base B v l vs W wr) (hb : Below wr.heap.size wr w') : Rst w base B v l vs W w' :=
  ⟨h.q.grew hb, Lr.grew h.row hb, h.bel.trans (hb.mono h.bel.size), h.ql⟩
theorem Rst.at (h : Rst w base B v l vs W wr) {q : Nat} (hq : q < W.length) : ∃ g cap, vs = .slice (some ⟨g, 0, none⟩) W.length cap ∧ WnAt wr g (q * 3) W[q] ∧ wr.frozen? ⟨g, q * 3 + 2, none⟩ = false ∧ g < wr.heap.size := by
  obtain ⟨r, cap, e, hls, -, -, hsome⟩ := Lr.any h.row
  obtain ⟨b, o, er⟩ := hls.addr (by omega)
  obtain ⟨g, er2, h1, h2, h3⟩ := hsome _ er
  rw [er2] at hls e
  have := ls_wn hls q hq
  rw [Nat.zero_add] at this
  exact ⟨g, cap, e, this, h3 _, h2⟩
theorem Rst.bump {g cap q n : Nat} {a : It} {x : Int} (h : Rst w base B v l (.slice (some ⟨g, 0, none⟩) n cap) W wr) (hq : q < W.length) (hi : W[q].i = a.f) (hx : x = min (W[q].b + a.b) 65536) :
    Rst w base B v l (.slice (some ⟨g, 0, none⟩) n cap) (W.modify q (bump a)) (wr.setCell ⟨g, q * 3 + 2, none⟩ (.int .i64 x)) := by
  have hg := Lr.lt h.row g rfl
  have hbs := h.bel.size
  have hm : W.modify q (Go.Proofs.Ytaikkoijoolhkaa.bump a) = W.set q (Go.Proofs.Ytaikkoijoolhkaa.bump a W[q]) := by
    refine List.ext_getElem? fun i => ?_
    rw [List.getElem?_modify, List.getElem?_set]
    by_cases e : q = i
    · subst e; simp [hq]
    · simp [e]
  have hk := Kept.set (R := g) wr (q * 3 + 2) (.int .i64 x)
  refine ⟨h.q.block (fun k hk' => hk.block k (h.q.feet hk').2 (fun e => by have := h.ql k hk'; omega)), ?_, h.bel.trans (hk.below (by omega) hbs), h.ql⟩
  rw [hm]
  refine Lr.set h.row hq (j := 2) (by decide) rfl ?_
  unfold Go.Proofs.Ytaikkoijoolhkaa.bump
  rw [if_pos hi, hx]
  rfl
theorem Rst.push {H : Nat} {a : It} {c : Wn} {H1 : Nat} (ty : TypeId) (h : Rst w base B v l vs W wr) (hW : W.length ≤ 100000) (hA : ItAt wr H 0 a) (hc : WnAt wr H1 0 c) (hH2 : vs.ownBlock ≠ some H) :
    ∃ r2 c2 w2, (Builtin.append_ #[41, 41] ty #[vs, .slice (some ⟨H1, 0, none⟩) 1 1]).run Try.prog wr = .ok (.slice r2 (W ++ [c]).length c2) w2 ∧ Rst w base B v l (.slice r2 (W ++ [c]).length c2) (W ++ [c]) w2 ∧ ItAt w2 H 0 a := by
  obtain ⟨v2, w2, hr, R2, g2, -⟩ := wr_push ty h.row hc hW h.bel.size
  obtain ⟨r2, c2, rfl, -⟩ := Lr.any R2
  have hl : ∀ k, vs.ownBlock = some k → w.heap.size ≤ k := fun k e => (Lr.lt h.row k e).1
  have hbs := h.bel.size
  refine ⟨r2, c2, w2, hr, ⟨h.q.block (fun k hk' => g2.block k (h.q.feet hk').2 (fun e => by have := hl k e.symm; have := h.ql k hk'; omega)), R2, ⟨g2.os.trans h.bel.os, g2.tape.trans h.bel.tape, g2.output.trans h.bel.output, Nat.le_trans hbs g2.size, fun k hk => (g2.block k (by omega) (fun e => by have := hl k e.symm; omega)).trans (h.bel.block k hk)⟩, h.ql⟩, hA.block (g2.block H (cell_lt hA.c0) (fun e => hH2 e.symm))⟩
end
def atOf : Option Nat → Int
  | some q => (q : Int)
  | none => -1
theorem wplc_next {W : List Wn} {x k : Nat} (hk : k < W.length) (hn : (W.map (·.i)).Nodup) : (W[k].i = x → wplc (W.take (k + 1)) x = some k) ∧ (W[k].i ≠ x → wplc (W.take (k + 1)) x = wplc (W.take k) x) := by
  have hl : (W.take k).length = k := by rw [List.length_take]; omega
  have e : W.take (k + 1) = W.take k ++ [W[k]] := by rw [List.take_add_one, List.getElem?_eq_getElem hk]; rfl
  constructor
  · intro hx
    have h0 : wplc (W.take k) x = none := by
      cases h : wplc (W.take k) x with
      | none => rfl
      | some q =>
        obtain ⟨hq, hqi⟩ := wplc_some h
        rw [hl] at hq
        rw [List.getElem_take] at hqi
        rw [List.Nodup, List.pairwise_map] at hn
        exact absurd (hqi.trans hx.symm) (List.pairwise_iff_getElem.1 hn q k (by omega) hk hq)
    rw [e, ← wplc_push hx h0, if_pos rfl, hl]
  · intro hx
    rw [e]
    unfold wplc
    rw [List.findIdx?_append]
    have : (W[k].i == x) = false := by simp [hx]
    simp [this]

set_option maxRecDepth 100000 in
set_option maxHeartbeats 16000000 in
theorem rwants_any (base B : Nat) (v : Value) (l : List It) (w : World) (HQ : Hid (QAt w base B v l)) (Hn : Hid (l.length ≤ 100000)) (Hb : Hid (∀ a, a ∈ l → 0 ≤ a.b ∧ a.b ≤ 65536)) :
    Calls Try.prog 22 #[.pointer (some ⟨B, 0, none⟩)] w (WantsIs l w) := by
  obtain ⟨r, cap, rfl⟩ := HQ.out.shape
  have HW : Hid (Rst w base B (.slice r l.length cap) l (.slice none 0 0) [] w) := ⟨HQ.out, Lr.nil _ _, Below.refl _ _, fun k hk => (HQ.out.feet hk).2⟩
  go_enter Try.func22, Try.ntmps22
  go_wp2_with fail
  go_loopw [3, 4] (fun vs i wr => ∃ (K : Nat) (rw : Option Addr) (cw : Nat) (W : List Wn), K ≤ l.length ∧ i = .int .i64 (K : Int) ∧ vs = .slice rw W.length cw ∧ Hid (W = wfold (l.take K)) ∧ Hid (Rst w base B (.slice r l.length cap) l (.slice rw W.length cw) W wr)) (fun _ i _ => l.length - (intOf i).toNat)
  case atStart => exact ⟨0, none, 0, [], Nat.zero_le _, rfl, rfl, by simp only [List.take_zero]; exact rfl, HW⟩
  case round =>
    obtain ⟨K, rw, cw, W, hK, rfl, rfl, hWf, hm⟩ := hrel
    clear HW
    have q0 := hm.out.q.c0
    have hWl : W.length ≤ K := by
      rw [hWf.out]
      have := wfold_len (l.take K)
      rw [List.length_take] at this
      omega
    have hKb : K ≤ 100000 := by have := Hn.out; omega
    by_cases hk : K < l.length
    · have i1 : (K : Int) < (l.length : Int) := by omega
      obtain ⟨g0, hrg, hit⟩ := hm.out.q.item hk
      subst hrg
      have hmem : l[K] ∈ l := List.getElem_mem hk
      have HSN : Hid (wfold (l.take (K + 1)) = wadd W l[K]) := by
        show _ = _
        rw [hWf.out, ← wfold_snoc, List.take_add_one, List.getElem?_eq_getElem hk]
        rfl
      have HOK : Hid (Wok W) := by
        rw [hWf.out]
        exact Wok.fold fun a ha => (Hb.out a (List.mem_of_mem_take ha)).1
      obtain ⟨A, hA⟩ : ∃ A, l[K] = A := ⟨_, rfl⟩
      rw [hA] at hit hmem HSN
      clear hA hWf
      obtain ⟨c0, c1, c2, c3, c4⟩ := hit
      have HAb := Hb.out A hmem
      obtain ⟨V0, e0⟩ : ∃ x, wr.alloc (.cells #[.int .u32 (A.f : Int), .int .i64 A.s, .int .i64 A.r, .int .i64 A.b, .int .i64 A.d] 32) = x := ⟨_, rfl⟩
      obtain ⟨H, hH⟩ : ∃ H, wr.heap.size = H := ⟨_, rfl⟩
      have B0 : Below wr.heap.size wr V0 := e0 ▸ (Below.refl _ _).alloc (Nat.le_refl _) _
      have HA0 : Hid (ItAt V0 H 0 A) := by rw [← e0, ← hH]; exact ItAt.made wr _ A
      have HM0 : Hid (Rst w base B (.slice (some ⟨g0, 0, none⟩) l.length cap) l (.slice rw W.length cw) W V0) := hm.out.grew B0
      have HH2 : Hid ((Value.slice rw W.length cw).ownBlock ≠ some H) := fun e => by have := (Lr.lt hm.out.row H e).2; omega
      clear hm B0 hmem
      go_wp2_with fail
      clear q0 c0 c1 c2 c3 c4 e0 hH
      generalize wr = wo at *
      go_loopw [6, 7] (fun av kv wr => ∃ k : Nat, k ≤ W.length ∧ kv = .int .i64 (k : Int) ∧ av = .int .i64 (atOf (wplc (W.take k) A.f)) ∧ Hid (Same V0 wr)) (fun _ kv _ => W.length - (intOf kv).toNat)
      case atStart => exact ⟨0, Nat.zero_le _, rfl, rfl, Same.refl _⟩
      case round =>
        obtain ⟨k, hkW, rfl, rfl, hsm⟩ := hrel
        have A1 : ItAt wr H 0 A := HA0.out.grew (hsm.out.below _)
        obtain ⟨d0, d1, d2, d3, d4⟩ := A1
        by_cases hkl : k < W.length
        · have j1 : (k : Int) < (W.length : Int) := by omega
          obtain ⟨g, cap2, ev, hwn, -, -⟩ := (HM0.out.grew (hsm.out.below _)).at hkl
          injection ev with ev1 ev2 ev3
          clear ev2 ev3
          subst ev1
          obtain ⟨n1, n2⟩ := wplc_next (x := A.f) hkl HOK.out.ids
          obtain ⟨X, hX⟩ : ∃ X, W[k] = X := ⟨_, rfl⟩
          rw [hX] at hwn n1 n2
          obtain ⟨t0, t1, t2⟩ := hwn
          by_cases hf : X.i = A.f
          · have i2 : ((X.i : Int) == (A.f : Int)) = true := by simp [hf]
            have HN : Hid (wplc (W.take (k + 1)) A.f = some k) := n1 hf
            clear n1 n2 hX
            rw [hf] at t0
            clear i2
            go_wp2_with fail
            go_quiet (fail)
            go_wp2_with fail
            go_roundw
            case rel => exact ⟨k + 1, by omega, by go_num, by rw [HN.out]; rfl, hsm.out.trans ⟨_, rfl⟩⟩
            case measure => simp [intOf]; omega
          · have i2 : ((X.i : Int) == (A.f : Int)) = false := by simp; omega
            have HN : Hid (wplc (W.take (k + 1)) A.f = wplc (W.take k) A.f) := n2 hf
            clear n1 n2 hX hf
            go_wp2_with fail
            go_quiet (fail)
            go_wp2_with fail
            go_roundw
            case rel => exact ⟨k + 1, by omega, by go_num, by rw [HN.out], hsm.out.trans ⟨_, rfl⟩⟩
            case measure => simp [intOf]; omega
        · obtain rfl : k = W.length := by omega
          have j1 : decide ((W.length : Int) < (W.length : Int)) = false := by simp
          rw [List.take_length]
          have M0 := HM0.out.grew (hsm.out.below _)
          cases hp : wplc W A.f with
          | some q =>
            obtain ⟨hq, hqi⟩ := wplc_some hp
            obtain ⟨g, cap2, ev, hwn, f2, -⟩ := M0.at hq
            injection ev with ev1 ev2 ev3
            clear ev2 ev3
            subst ev1
            have k2 := hwn.c2
            have hwb := HOK.out.bnd _ (List.getElem_mem hq)
            obtain ⟨m, hmn⟩ : ∃ m, min (W[q].b + A.b) 65536 = m := ⟨_, rfl⟩
            have r1 := fun ts ty Wd => min_run ts ty (W[q].b + A.b) 65536 m Wd hmn
            have i5 : IntKind.i64.wrap (W[q].b + A.b) = W[q].b + A.b := w64 _ (by omega) (by omega)
            have hwa : wadd W A = W.modify q (bump A) := by unfold wadd; rw [hp]
            have HE : Hid (Rst w base B (.slice (some ⟨g0, 0, none⟩) l.length cap) l (.slice (some ⟨g, 0, none⟩) W.length cw) (wadd W A) (wr.setCell ⟨g, q * 3 + 2, none⟩ (.int .i64 m))) := by
              rw [hwa]
              exact M0.bump hq hqi hmn.symm
            have HL : Hid ((wadd W A).length = W.length) := by show _ = _; rw [hwa, List.length_modify]
            have i3 : (q : Int) < (W.length : Int) := by omega
            have i6 : decide ((q : Int) < 0) = false := by simp
            generalize W[q].b = X at *
            unfold atOf
            clear M0 hwa hmn hqi hwb hp hwn hsm
            go_wp2_with fail
            go_region
            all_goals
              go_wp2_with fail
              go_roundw
              case rel => exact ⟨K + 1, some ⟨g, 0, none⟩, cw, wadd W A, by omega, by go_num, by rw [HL.out], HSN.out.symm, by rw [HL.out]; exact HE.out.grew (below_drews 1)⟩
              case measure => simp [intOf]; omega
          | none =>
            obtain ⟨y1, e1⟩ : ∃ y, wr.alloc (.cells #[.int .u32 (A.f : Int), .int .i64 A.r, .int .i64 0] 45) = y := ⟨_, rfl⟩
            obtain ⟨H1, hH1⟩ : ∃ H, wr.heap.size = H := ⟨_, rfl⟩
            have B1 : Below wr.heap.size wr y1 := e1 ▸ (Below.refl _ _).alloc (Nat.le_refl _) _
            have C1 : WnAt y1 H1 0 ⟨A.f, A.r, 0⟩ := by rw [← e1, ← hH1]; exact WnAt.made wr _ ⟨A.f, A.r, 0⟩
            have A1 : ItAt y1 H 0 A := (HA0.out.grew (hsm.out.below _)).grew B1
            obtain ⟨r2, c2', w2, happ, M2, A2⟩ := (M0.grew B1).push 41 (by omega) A1 C1 HH2.out
            have hl1 : W.length < (W ++ [(⟨A.f, A.r, 0⟩ : Wn)]).length := by simp
            obtain ⟨g, cap2, ev, hwn, f2, -⟩ := M2.at hl1
            injection ev with ev1 ev2 ev3
            clear ev2
            subst ev1
            subst ev3
            have hz : (W ++ [(⟨A.f, A.r, 0⟩ : Wn)])[W.length] = ⟨A.f, A.r, 0⟩ := by simp
            rw [hz] at hwn
            have k2 := hwn.c2
            obtain ⟨m, hmn⟩ : ∃ m, min (0 + A.b) 65536 = m := ⟨_, rfl⟩
            have r1 := fun ts ty Wd => min_run ts ty A.b 65536 m Wd (by rw [← hmn, Int.zero_add])
            have hwa : wadd W A = (W ++ [(⟨A.f, A.r, 0⟩ : Wn)]).modify W.length (bump A) := by unfold wadd; rw [hp, push_modify]
            have i5 : IntKind.i64.wrap A.b = A.b := w64 _ (by omega) (by omega)
            have HE : Hid (Rst w base B (.slice (some ⟨g0, 0, none⟩) l.length cap) l (.slice (some ⟨g, 0, none⟩) (W ++ [(⟨A.f, A.r, 0⟩ : Wn)]).length c2') (wadd W A) (w2.setCell ⟨g, W.length * 3 + 2, none⟩ (.int .i64 m))) := by
              rw [hwa]
              exact M2.bump hl1 (by rw [hz]) (by rw [hz]; exact hmn.symm)
            have HL : Hid ((wadd W A).length = (W ++ [(⟨A.f, A.r, 0⟩ : Wn)]).length) := by show _ = _; rw [hwa, List.length_modify]
            have hNe : (W ++ [(⟨A.f, A.r, 0⟩ : Wn)]).length = W.length + 1 := by simp
            obtain ⟨N, hN⟩ : ∃ N, (W ++ [(⟨A.f, A.r, 0⟩ : Wn)]).length = N := ⟨_, rfl⟩
            rw [hN] at happ HE HL hl1 hNe
            have i3 : (W.length : Int) < (N : Int) := by omega
            have i7 : IntKind.i64.wrap ((N : Int) - 1) = (W.length : Int) := by rw [w64 _ (by omega) (by omega)]; omega
            obtain ⟨t0, t1, t2, t3, t4⟩ := A2
            unfold atOf
            clear M0 hwa hmn hp M2 hz hN hwn hsm C1 A1 B1
            go_wp2_with (at_builtin; refine Go.Lib.wpList_append_run _ rfl (.tmp 44) (.tmp 50) 41 41 rfl _ _ rfl rfl _ _ happ ?_)
            go_region
            all_goals
              go_wp2_with fail
              go_roundw
              case rel => exact ⟨K + 1, some ⟨g, 0, none⟩, c2', wadd W A, by omega, by go_num, by rw [HL.out, hNe], HSN.out.symm, by rw [HL.out]; exact HE.out.grew (below_drews 1)⟩
              case measure => simp [intOf]; omega
    · obtain rfl : K = l.length := by omega
      have i1 : decide ((l.length : Int) < (l.length : Int)) = false := by simp
      have HWE : Hid (W = wfold l) := by have := hWf.out; rwa [List.take_length] at this
      have HWl : Hid (W.length ≤ 100000) := by show _ ≤ _; omega
      have hWb : W.length ≤ 100000 := by omega
      have HR1 : Hid (Wr wr w.heap.size (.slice rw W.length cw) W) := hm.out.row
      have HB1 : Hid (Below w.heap.size w wr) := hm.out.bel
      clear hWf hm hWl hKb hk hK
      go_wp2_with fail
      clear q0
      generalize wr = wo at *
      go_loopw [8, 9] (fun os iv wr => ∃ (i : Nat) (ro : Option Addr) (co : Nat) (O : List Wn), i ≤ W.length ∧ iv = .int .i64 (i : Int) ∧ os = .slice ro O.length co ∧ O.length = i ∧ Hid (Told (W.take i) O) ∧ Hid (Wr wr w.heap.size (.slice ro O.length co) O) ∧ Hid (Wr wr w.heap.size (.slice rw W.length cw) W) ∧ Hid (Below w.heap.size w wr)) (fun _ iv _ => W.length - (intOf iv).toNat)
      case atStart => exact ⟨0, none, 0, [], Nat.zero_le _, rfl, rfl, rfl, by simp only [List.take_zero]; exact Told.nil, Lr.nil _ _, HR1, HB1⟩
      case round =>
        obtain ⟨i, ro, co, O, hi, rfl, rfl, hOi, hto, hO, hW, hb⟩ := hrel
        clear HR1 HB1
        by_cases hil : i < W.length
        case neg =>
          obtain rfl : i = W.length := by omega
          have j1 : decide ((W.length : Int) < (W.length : Int)) = false := by simp
          have HE : Hid (WantsIs l w (.returned (.slice ro O.length co)) wr) := by
            have ht := hto.out
            rw [List.take_length, HWE.out] at ht
            obtain ⟨r', c', e, hls, -, -, hsome⟩ := Lr.any hO.out
            injection e with e1 e2 e3
            subst e1
            exact ⟨_, _, O, by rw [ht.perm.length_eq], ht, hls, hb.out, fun b o e => by obtain ⟨g, e2, h1, -⟩ := hsome _ e; rw [e2] at e; cases e; exact h1⟩
          clear hto hO hW hb hOi
          go_wp2_with fail
          go_ret
          exact HE.out
        case pos =>
          have j1 : (i : Int) < (W.length : Int) := by omega
          have HOi : Hid (O.length = i) := hOi
          obtain ⟨a, ha⟩ : ∃ a, W[i] = a := ⟨_, rfl⟩
          have HTA : Hid (W.take (i + 1) = W.take i ++ [a]) := by show _ = _; rw [List.take_add_one, List.getElem?_eq_getElem hil, ha]; rfl
          obtain ⟨rw', cw', ewx, hlsW, -, -, hsomeW⟩ := Lr.any hW.out
          injection ewx with ew1 ew2 ew3
          clear ew2
          subst ew1
          subst ew3
          obtain ⟨b0, o0, er⟩ := hlsW.addr (by omega)
          obtain ⟨gw, er2, -, hgwl, -⟩ := hsomeW _ er
          clear er
          subst er2
          have hwn := ls_wn hlsW i hil
          rw [ha, Nat.zero_add] at hwn
          have HWN : Hid (WnAt wr gw (i * 3) a) := hwn
          have hOb : O.length ≤ 100000 := by omega
          have hib : i ≤ 100000 := by omega
          clear hlsW hsomeW ha hwn hOi
          go_wp2_with fail
          obtain ⟨V, hV⟩ : ∃ V, wr = V := ⟨_, rfl⟩
          subst hV
          generalize wr = V at *
          go_loopw [10] (fun kv wr => ∃ k : Nat, k ≤ O.length ∧ kv = .int .i64 (k : Int) ∧ Hid (∀ j (hj : j < O.length), j < k → bet O[j] a = true) ∧ Hid (Rt V wr)) (fun kv _ => O.length - (intOf kv).toNat)
          case atStart => exact ⟨0, Nat.zero_le _, rfl, fun j hj h => absurd h (Nat.not_lt_zero j), ⟨Below.refl _ _⟩⟩
          case round =>
            obtain ⟨k, hkO, rfl, hbk, hrt⟩ := hrel
            have O1 : Wr wr w.heap.size (.slice ro O.length co) O := Lr.grew hO.out hrt.out.bel
            obtain ⟨n0, n1, n2⟩ := HWN.out.grew hrt.out.bel
            by_cases hkl : k < O.length
            case pos =>
              have j2 : (k : Int) < (O.length : Int) := by omega
              obtain ⟨ro', co', eo, hlsO, -, -, hsomeO⟩ := Lr.any hO.out
              injection eo with eo1 eo2 eo3
              clear eo2
              subst eo1
              subst eo3
              obtain ⟨b1, o1, er⟩ := hlsO.addr (by omega)
              obtain ⟨go, er2, -, hgol, -⟩ := hsomeO _ er
              clear er
              subst er2
              have MN := ls_wn hlsO k hkl
              rw [Nat.zero_add] at MN
              obtain ⟨x, hx⟩ : ∃ x, O[k] = x := ⟨_, rfl⟩
              rw [hx] at MN
              have CALL : ∀ W : World, Hid (Calls Try.prog 31 #[.agg #[.int .u32 (x.i : Int), .int .i64 x.r, .int .i64 x.b], .agg #[.int .u32 (a.i : Int), .int .i64 a.r, .int .i64 a.b], .int .i64 0, .int .i64 1] W fun e w' => e = .returned (.bool (bet x a)) ∧ Below W.heap.size W w') := fun W => better_any x a W
              have HRD : Hid (Rt V wr.drew) := hrt.out.grew (below_drews 1)
              have NN := HWN.out
              clear n0 n1 n2 O1 hrt hsomeO
              cases hbt : bet x a with
              | true =>
                rw [hbt] at CALL
                have HBK : Hid (∀ j (hj : j < O.length), j < k + 1 → bet O[j] a = true) := fun j hj h => by
                  by_cases e : j = k
                  · subst e; rw [hx]; exact hbt
                  · exact hbk.out j hj (by omega)
                clear hbk hbt hx hlsO
                go_wp2_with fail
                refine wp_region_held (S := fun W => Rt V W) (by kernel_rfl) ?_
                change wpAnyH _ _ _ _ _ _ _ _ wr.drew
                have hr := HRD.out
                generalize wr.drew = z1 at *
                refine wpAnyH_take (i := 0) (v := .int .i64 (k : Int)) rfl (by kernel_rfl) (by kernel_rfl) (by kernel_rfl) (fun _ _ _ h => h) (Yields.yieldsIf (Or.inl ⟨by kernel_rfl, fun _ => by go_simp⟩)) hr ?_
                refine wpAnyH_take (i := 1) (v := .slice (some ⟨go, 0, none⟩) O.length co) rfl (by kernel_rfl) (by kernel_rfl) (by kernel_rfl) (fun _ _ _ h => h) (Yields.yieldsIf (Or.inl ⟨by kernel_rfl, fun _ => by go_simp⟩)) hr ?_
                refine wpAnyH_take (i := 2) (v := .int .i64 (O.length : Int)) rfl (by kernel_rfl) (by kernel_rfl) (by kernel_rfl) (fun _ _ _ h => h) (Yields.yieldsIf (Or.inl ⟨by kernel_rfl, fun _ => by go_simp⟩)) hr ?_
                refine wpAnyH_take (i := 3) (v := .bool true) rfl (by kernel_rfl) (by kernel_rfl) (by kernel_rfl) (fun _ _ _ h => h) (Yields.yieldsIf (Or.inl ⟨by kernel_rfl, fun _ => by go_simp⟩)) hr ?_
                refine wpAnyH_take (i := 4) (v := .bool true) rfl (by kernel_rfl) (by kernel_rfl) (by kernel_rfl) (fun _ _ _ h => h) (Yields.yieldsIf (Or.inl ⟨by kernel_rfl, fun _ => by kernel_rfl⟩)) hr ?_
                refine wpAnyH_take (i := 5) (v := .slice (some ⟨go, 0, none⟩) O.length co) rfl (by kernel_rfl) (by kernel_rfl) (by kernel_rfl) (fun _ _ _ h => h) (Yields.yieldsIf (Or.inl ⟨by kernel_rfl, fun _ => by go_simp⟩)) hr ?_
                refine wpAnyH_take (i := 6) (v := .int .i64 (k : Int)) rfl (by kernel_rfl) (by kernel_rfl) (by kernel_rfl) (fun _ _ _ h => h) (Yields.yieldsIf (Or.inl ⟨by kernel_rfl, fun _ => by go_simp⟩)) hr ?_
                refine wpAnyH_take (i := 7) (v := .pointer (some ⟨go, k * 3, none⟩)) rfl (by kernel_rfl) (by kernel_rfl) (by kernel_rfl) (fun _ _ _ h => h) (Yields.yieldsIf (Or.inl ⟨by kernel_rfl, fun _ => by go_simp⟩)) hr ?_
                refine wpAnyH_take (i := 8) (v := .agg #[.int .u32 (x.i : Int), .int .i64 x.r, .int .i64 x.b]) rfl (by kernel_rfl) (by kernel_rfl) (by kernel_rfl) (fun _ _ _ h => h) (Or.inl ⟨by kernel_rfl, fun W hW => by have c0 := (hW.bel.cell (p := ⟨go, k * 3, none⟩) (cell_lt MN.c0)).trans MN.c0; have c1 := (hW.bel.cell (p := ⟨go, k * 3 + 1, none⟩) (cell_lt MN.c1)).trans MN.c1; have c2 := (hW.bel.cell (p := ⟨go, k * 3 + 2, none⟩) (cell_lt MN.c2)).trans MN.c2; go_simp⟩) hr ?_
                refine wpAnyH_take (i := 9) (v := .slice (some ⟨gw, 0, none⟩) W.length cw) rfl (by kernel_rfl) (by kernel_rfl) (by kernel_rfl) (fun _ _ _ h => h) (Yields.yieldsIf (Or.inl ⟨by kernel_rfl, fun _ => by go_simp⟩)) hr ?_
                refine wpAnyH_take (i := 10) (v := .int .i64 (i : Int)) rfl (by kernel_rfl) (by kernel_rfl) (by kernel_rfl) (fun _ _ _ h => h) (Yields.yieldsIf (Or.inl ⟨by kernel_rfl, fun _ => by go_simp⟩)) hr ?_
                refine wpAnyH_take (i := 11) (v := .pointer (some ⟨gw, i * 3, none⟩)) rfl (by kernel_rfl) (by kernel_rfl) (by kernel_rfl) (fun _ _ _ h => h) (Yields.yieldsIf (Or.inl ⟨by kernel_rfl, fun _ => by go_simp⟩)) hr ?_
                refine wpAnyH_take (i := 12) (v := .agg #[.int .u32 (a.i : Int), .int .i64 a.r, .int .i64 a.b]) rfl (by kernel_rfl) (by kernel_rfl) (by kernel_rfl) (fun _ _ _ h => h) (Or.inl ⟨by kernel_rfl, fun W hW => by have c0 := (hW.bel.cell (p := ⟨gw, i * 3, none⟩) (cell_lt NN.c0)).trans NN.c0; have c1 := (hW.bel.cell (p := ⟨gw, i * 3 + 1, none⟩) (cell_lt NN.c1)).trans NN.c1; have c2 := (hW.bel.cell (p := ⟨gw, i * 3 + 2, none⟩) (cell_lt NN.c2)).trans NN.c2; go_simp⟩) hr ?_
                refine wpAnyH_ready (rs := [13]) (by kernel_rfl) (by simp) ?_
                refine AllReadyH.cons rfl (fun K2 hK2 => ?_) AllReadyH.nil
                go_simp
                refine ((CALL z1).out).mono ?_
                rintro e x1 ⟨rfl, b1⟩
                have hr := hr.grew b1
                clear b1
                refine hK2.out _ _ hr (fun hr => ?_)
                clear hK2 K2
                refine wpAnyH_take (i := 14) (v := .bool true) rfl (by kernel_rfl) (by kernel_rfl) (by kernel_rfl) (fun _ _ _ h => h) (Yields.yieldsIf (Or.inl ⟨by kernel_rfl, fun _ => by kernel_rfl⟩)) hr ?_
                refine wpAnyH_done (by kernel_rfl) ?_ _
                go_wp2_with fail
                go_roundw
                case rel => exact ⟨k + 1, by omega, by go_num, HBK, hr⟩
                case measure => simp [intOf]; omega
              | false =>
                rw [hbt] at CALL
                have HK2 : Hid (∀ hj : k < O.length, bet O[k] a = false) := fun hj => by rw [hx]; exact hbt
                clear hbt hx hlsO
                go_wp2_with fail
                refine wp_region_held (S := fun W => Rt V W) (by kernel_rfl) ?_
                change wpAnyH _ _ _ _ _ _ _ _ wr.drew
                have hr := HRD.out
                generalize wr.drew = z1 at *
                refine wpAnyH_take (i := 0) (v := .int .i64 (k : Int)) rfl (by kernel_rfl) (by kernel_rfl) (by kernel_rfl) (fun _ _ _ h => h) (Yields.yieldsIf (Or.inl ⟨by kernel_rfl, fun _ => by go_simp⟩)) hr ?_
                refine wpAnyH_take (i := 1) (v := .slice (some ⟨go, 0, none⟩) O.length co) rfl (by kernel_rfl) (by kernel_rfl) (by kernel_rfl) (fun _ _ _ h => h) (Yields.yieldsIf (Or.inl ⟨by kernel_rfl, fun _ => by go_simp⟩)) hr ?_
                refine wpAnyH_take (i := 2) (v := .int .i64 (O.length : Int)) rfl (by kernel_rfl) (by kernel_rfl) (by kernel_rfl) (fun _ _ _ h => h) (Yields.yieldsIf (Or.inl ⟨by kernel_rfl, fun _ => by go_simp⟩)) hr ?_
                refine wpAnyH_take (i := 3) (v := .bool true) rfl (by kernel_rfl) (by kernel_rfl) (by kernel_rfl) (fun _ _ _ h => h) (Yields.yieldsIf (Or.inl ⟨by kernel_rfl, fun _ => by go_simp⟩)) hr ?_
                refine wpAnyH_take (i := 4) (v := .bool true) rfl (by kernel_rfl) (by kernel_rfl) (by kernel_rfl) (fun _ _ _ h => h) (Yields.yieldsIf (Or.inl ⟨by kernel_rfl, fun _ => by kernel_rfl⟩)) hr ?_
                refine wpAnyH_take (i := 5) (v := .slice (some ⟨go, 0, none⟩) O.length co) rfl (by kernel_rfl) (by kernel_rfl) (by kernel_rfl) (fun _ _ _ h => h) (Yields.yieldsIf (Or.inl ⟨by kernel_rfl, fun _ => by go_simp⟩)) hr ?_
                refine wpAnyH_take (i := 6) (v := .int .i64 (k : Int)) rfl (by kernel_rfl) (by kernel_rfl) (by kernel_rfl) (fun _ _ _ h => h) (Yields.yieldsIf (Or.inl ⟨by kernel_rfl, fun _ => by go_simp⟩)) hr ?_
                refine wpAnyH_take (i := 7) (v := .pointer (some ⟨go, k * 3, none⟩)) rfl (by kernel_rfl) (by kernel_rfl) (by kernel_rfl) (fun _ _ _ h => h) (Yields.yieldsIf (Or.inl ⟨by kernel_rfl, fun _ => by go_simp⟩)) hr ?_
                refine wpAnyH_take (i := 8) (v := .agg #[.int .u32 (x.i : Int), .int .i64 x.r, .int .i64 x.b]) rfl (by kernel_rfl) (by kernel_rfl) (by kernel_rfl) (fun _ _ _ h => h) (Or.inl ⟨by kernel_rfl, fun W hW => by have c0 := (hW.bel.cell (p := ⟨go, k * 3, none⟩) (cell_lt MN.c0)).trans MN.c0; have c1 := (hW.bel.cell (p := ⟨go, k * 3 + 1, none⟩) (cell_lt MN.c1)).trans MN.c1; have c2 := (hW.bel.cell (p := ⟨go, k * 3 + 2, none⟩) (cell_lt MN.c2)).trans MN.c2; go_simp⟩) hr ?_
                refine wpAnyH_take (i := 9) (v := .slice (some ⟨gw, 0, none⟩) W.length cw) rfl (by kernel_rfl) (by kernel_rfl) (by kernel_rfl) (fun _ _ _ h => h) (Yields.yieldsIf (Or.inl ⟨by kernel_rfl, fun _ => by go_simp⟩)) hr ?_
                refine wpAnyH_take (i := 10) (v := .int .i64 (i : Int)) rfl (by kernel_rfl) (by kernel_rfl) (by kernel_rfl) (fun _ _ _ h => h) (Yields.yieldsIf (Or.inl ⟨by kernel_rfl, fun _ => by go_simp⟩)) hr ?_
                refine wpAnyH_take (i := 11) (v := .pointer (some ⟨gw, i * 3, none⟩)) rfl (by kernel_rfl) (by kernel_rfl) (by kernel_rfl) (fun _ _ _ h => h) (Yields.yieldsIf (Or.inl ⟨by kernel_rfl, fun _ => by go_simp⟩)) hr ?_
                refine wpAnyH_take (i := 12) (v := .agg #[.int .u32 (a.i : Int), .int .i64 a.r, .int .i64 a.b]) rfl (by kernel_rfl) (by kernel_rfl) (by kernel_rfl) (fun _ _ _ h => h) (Or.inl ⟨by kernel_rfl, fun W hW => by have c0 := (hW.bel.cell (p := ⟨gw, i * 3, none⟩) (cell_lt NN.c0)).trans NN.c0; have c1 := (hW.bel.cell (p := ⟨gw, i * 3 + 1, none⟩) (cell_lt NN.c1)).trans NN.c1; have c2 := (hW.bel.cell (p := ⟨gw, i * 3 + 2, none⟩) (cell_lt NN.c2)).trans NN.c2; go_simp⟩) hr ?_
                refine wpAnyH_ready (rs := [13]) (by kernel_rfl) (by simp) ?_
                refine AllReadyH.cons rfl (fun K2 hK2 => ?_) AllReadyH.nil
                go_simp
                refine ((CALL z1).out).mono ?_
                rintro e x1 ⟨rfl, b1⟩
                have hr := hr.grew b1
                clear b1
                refine hK2.out _ _ hr (fun hr => ?_)
                clear hK2 K2
                refine wpAnyH_take (i := 14) (v := .bool false) rfl (by kernel_rfl) (by kernel_rfl) (by kernel_rfl) (fun _ _ _ h => h) (Yields.yieldsIf (Or.inl ⟨by kernel_rfl, fun _ => by kernel_rfl⟩)) hr ?_
                refine wpAnyH_done (by kernel_rfl) ?_ _
                go_wp2_with fail
                clear CALL MN NN
                obtain ⟨z0, hz0⟩ : ∃ z, (x1).drew = z := ⟨_, rfl⟩
                have RZ : Rt V z0 := hz0 ▸ (hr).grew (below_drews 1)
                refine wp_region_held (S := fun W => Below z0.heap.size z0 W) (by kernel_rfl) ?_
                change wpAnyH _ _ _ _ _ _ _ _ (x1).drew
                rw [hz0]
                clear hz0
                have OZ : Wr z0 w.heap.size (.slice (some ⟨go, 0, none⟩) O.length co) O := Lr.grew hO.out RZ.bel
                have WZ : Wr z0 w.heap.size (.slice (some ⟨gw, 0, none⟩) W.length cw) W := Lr.grew hW.out RZ.bel
                have BZ : Below w.heap.size w z0 := hb.out.trans (RZ.bel.mono hb.out.size)
                have NZ := HWN.out.grew RZ.bel
                obtain ⟨roq, coq, ev, hle, -, hcut, hslc, hfrom⟩ := wr_wsl OZ
                injection ev with ev1 ev2 ev3
                clear ev2
                subst ev1
                subst ev3
                have hc1 := hcut k hkO
                have S1 := hslc k hkO
                obtain ⟨vd, hc2, S2⟩ := hfrom k hkO
                obtain ⟨rd, cd, rfl, -⟩ := S2.is
                have hsT := Told.ins hto.out hkO hbk.out HK2.out
                have HT2 : Hid (Told (W.take (i + 1)) (O.take k ++ [a] ++ O.drop k)) := by rw [HTA.out]; exact hsT
                have HL2 : Hid ((O.take k ++ [a] ++ O.drop k).length = i + 1) := by
                  show _ = _
                  have := HOi.out
                  simp only [List.length_append, List.length_take, List.length_drop, List.length_singleton]
                  omega
                have hT1 : (O.take k).length ≤ 100000 := by rw [List.length_take]; omega
                have hT2 : (O.drop k).length ≤ 100000 := by rw [List.length_drop]; omega
                have hT3 : (O.take k ++ [a]).length + (O.drop k).length ≤ 100000 := by
                  have := HOi.out
                  simp only [List.length_append, List.length_take, List.length_drop, List.length_singleton]
                  omega
                have hr : Below z0.heap.size z0 z0 := Below.refl _ _
                clear hcut hslc hfrom hsT OZ RZ
                generalize O.take k = T1 at *
                generalize O.drop k = D1 at *
                refine wpAnyH_take (i := 1) (v := .slice (some ⟨go, 0, none⟩) O.length co) rfl (by kernel_rfl) (by kernel_rfl) (by kernel_rfl) (fun _ _ _ h => h) (Yields.yieldsIf (Or.inl ⟨by kernel_rfl, fun _ => by go_simp⟩)) hr ?_
                refine wpAnyH_take (i := 2) (v := .int .i64 (k : Int)) rfl (by kernel_rfl) (by kernel_rfl) (by kernel_rfl) (fun _ _ _ h => h) (Yields.yieldsIf (Or.inl ⟨by kernel_rfl, fun _ => by go_simp⟩)) hr ?_
                refine wpAnyH_take (i := 3) (v := .slice (some ⟨go, 0, none⟩) k co) rfl (by kernel_rfl) (by kernel_rfl) (by kernel_rfl) (fun _ _ _ h => h) (Yields.yieldsIf (Or.inl ⟨by kernel_rfl, fun _ => by go_simp⟩)) hr ?_
                refine wpAnyH_take (i := 5) (v := .slice (some ⟨gw, 0, none⟩) W.length cw) rfl (by kernel_rfl) (by kernel_rfl) (by kernel_rfl) (fun _ _ _ h => h) (Yields.yieldsIf (Or.inl ⟨by kernel_rfl, fun _ => by go_simp⟩)) hr ?_
                refine wpAnyH_take (i := 6) (v := .int .i64 (i : Int)) rfl (by kernel_rfl) (by kernel_rfl) (by kernel_rfl) (fun _ _ _ h => h) (Yields.yieldsIf (Or.inl ⟨by kernel_rfl, fun _ => by go_simp⟩)) hr ?_
                refine wpAnyH_take (i := 7) (v := .pointer (some ⟨gw, i * 3, none⟩)) rfl (by kernel_rfl) (by kernel_rfl) (by kernel_rfl) (fun _ _ _ h => h) (Yields.yieldsIf (Or.inl ⟨by kernel_rfl, fun _ => by go_simp⟩)) hr ?_
                refine wpAnyH_take (i := 8) (v := .agg #[.int .u32 (a.i : Int), .int .i64 a.r, .int .i64 a.b]) rfl (by kernel_rfl) (by kernel_rfl) (by kernel_rfl) (fun _ _ _ h => h) (Or.inl ⟨by kernel_rfl, fun W hW => by have c0 := (hW.cell (p := ⟨gw, i * 3, none⟩) (cell_lt NZ.c0)).trans NZ.c0; have c1 := (hW.cell (p := ⟨gw, i * 3 + 1, none⟩) (cell_lt NZ.c1)).trans NZ.c1; have c2 := (hW.cell (p := ⟨gw, i * 3 + 2, none⟩) (cell_lt NZ.c2)).trans NZ.c2; go_simp⟩) hr ?_
                refine wpAnyH_take (i := 11) (v := .slice (some ⟨go, 0, none⟩) O.length co) rfl (by kernel_rfl) (by kernel_rfl) (by kernel_rfl) (fun _ _ _ h => h) (Yields.yieldsIf (Or.inl ⟨by kernel_rfl, fun _ => by go_simp⟩)) hr ?_
                refine wpAnyH_take (i := 12) (v := .int .i64 (k : Int)) rfl (by kernel_rfl) (by kernel_rfl) (by kernel_rfl) (fun _ _ _ h => h) (Yields.yieldsIf (Or.inl ⟨by kernel_rfl, fun _ => by go_simp⟩)) hr ?_
                refine wpAnyH_take (i := 13) (v := .slice rd D1.length cd) rfl (by kernel_rfl) (by kernel_rfl) (by kernel_rfl) (fun _ _ _ h => h) (Yields.yieldsIf (Or.inl ⟨by kernel_rfl, fun _ => by go_simp⟩)) hr ?_
                refine wpAnyH_ready (rs := [0, 9]) (by kernel_rfl) (by simp) ?_
                refine AllReadyH.cons rfl (fun K2 hK2 => ?_) (AllReadyH.cons rfl (fun K2 hK2 => ?_) AllReadyH.nil)
                · skip
                  go_simp
                  have E : Wr (z0.alloc (.cells #[] 45)) z0.heap.size (.slice (some ⟨z0.heap.size, 0, none⟩) 0 0) [] := Lr.empty (E := wE) _ hr.size
                  have hr := (Rt.grew ⟨hr⟩ ((Below.refl z0.heap.size z0).alloc (Nat.le_refl _) (.cells #[] 45))).bel
                  refine hK2.out _ _ hr (fun hr => ?_)
                  clear hK2 K2
                  generalize z0.alloc (.cells #[] 45) = W1 at *
                  refine wpAnyH_ready (rs := [4, 9]) (by kernel_rfl) (by simp) ?_
                  refine AllReadyH.cons rfl (fun K2 hK2 => ?_) (AllReadyH.cons rfl (fun K2 hK2 => ?_) AllReadyH.nil)
                  · skip
                    obtain ⟨r2, c2, W2, happ, L2, g2, w2⟩ := wr_first 41 E (S1.below hr (Nat.le_refl _)) hT1 hr.size
                    refine step_append_run rfl (.tmp 91) (.tmp 94) 41 rfl _ _ rfl rfl _ _ happ ?_
                    have hr := (Rt.grown ⟨hr⟩ E g2).bel
                    refine hK2.out _ _ hr (fun hr => ?_)
                    clear hK2 K2 happ
                    refine wpAnyH_ready (rs := [9]) (by kernel_rfl) (by simp) ?_
                    refine AllReadyH.cons rfl (fun K2 hK2 => ?_) AllReadyH.nil
                    · skip
                      go_simp
                      have T : WnAt (W2.alloc (.cells #[.int .u32 (a.i : Int), .int .i64 a.r, .int .i64 a.b] 45)) W2.heap.size 0 a := WnAt.made W2 _ a
                      have hLT : (Value.slice r2 T1.length c2).ownBlock ≠ some W2.heap.size := fun e => by have := (Lr.lt L2 _ e).2; omega
                      have L2 := Lr.grew L2 ((Below.refl W2.heap.size W2).alloc (Nat.le_refl _) (.cells #[.int .u32 (a.i : Int), .int .i64 a.r, .int .i64 a.b] 45))
                      have hr := (Rt.grew ⟨hr⟩ ((Below.refl W2.heap.size W2).alloc (Nat.le_refl _) (.cells #[.int .u32 (a.i : Int), .int .i64 a.r, .int .i64 a.b] 45))).bel
                      refine hK2.out _ _ hr (fun hr => ?_)
                      clear hK2 K2
                      generalize W2.alloc (.cells #[.int .u32 (a.i : Int), .int .i64 a.r, .int .i64 a.b] 45) = W3 at *
                      obtain ⟨r3, c3, W8, happ3, L3, g3, w3⟩ := wr_push' 41 L2 T hT1 hr.size
                      refine wpAnyH_ready (rs := [10]) (by kernel_rfl) (by simp) ?_
                      refine AllReadyH.cons rfl (fun K2 hK2 => ?_) AllReadyH.nil
                      refine step_append_run rfl (.tmp 95) (.tmp 100) 41 rfl _ _ rfl rfl _ _ happ3 ?_
                      have hr9 := (Rt.grown ⟨hr⟩ L2 g3).bel
                      refine hK2.out _ _ hr9 (fun hr => ?_)
                      clear hK2 K2 happ3
                      obtain ⟨r4, c4, W9, happ4, L4, g4, w4⟩ := wr_all 41 L3 (S2.below hr (Nat.le_refl _)) hT3 hr.size
                      refine wpAnyH_ready (rs := [14]) (by kernel_rfl) (by simp) ?_
                      refine AllReadyH.cons rfl (fun K2 hK2 => ?_) AllReadyH.nil
                      refine step_append_run rfl (.tmp 101) (.tmp 104) 41 rfl _ _ rfl rfl _ _ happ4 ?_
                      have hr10 := (Rt.grown ⟨hr⟩ L3 g4).bel
                      have HO9 : Hid (Wr W9 w.heap.size (.slice r4 (T1 ++ [a] ++ D1).length c4) (T1 ++ [a] ++ D1)) := Lr.base_le L4 BZ.size
                      have HW9 : Hid (Wr W9 w.heap.size (.slice (some ⟨gw, 0, none⟩) W.length cw) W) := Lr.grew WZ hr10
                      have HB9 : Hid (Below w.heap.size w W9) := BZ.trans (hr10.mono BZ.size)
                      refine hK2.out _ _ hr10 (fun hr => ?_)
                      clear hK2 K2 happ4
                      refine wpAnyH_take (i := 15) (v := .slice r4 (T1 ++ [a] ++ D1).length c4) rfl (by kernel_rfl) (by kernel_rfl) (by kernel_rfl) (fun _ _ _ h => h) (Yields.yieldsIf (Or.inl ⟨by kernel_rfl, fun _ => by kernel_rfl⟩)) hr ?_
                      refine wpAnyH_done (by kernel_rfl) ?_ _
                      clear hr hr9 hr10 L2 L3 L4 T g3 g4 w3 w4 hc1 hc2 S1 S2 NZ BZ WZ
                      generalize T1 ++ [a] ++ D1 = O2 at *
                      go_wp2_with fail
                      go_roundw
                      case rel => exact ⟨i + 1, r4, c4, O2, by omega, by go_num, rfl, HL2.out, HT2, HO9, HW9, HB9⟩
                      case measure => simp [intOf]; omega
                  · skip
                    go_simp
                    have T : WnAt (W1.alloc (.cells #[.int .u32 (a.i : Int), .int .i64 a.r, .int .i64 a.b] 45)) W1.heap.size 0 a := WnAt.made W1 _ a
                    have hTE : (Value.slice (some ⟨z0.heap.size, 0, none⟩) 0 0).ownBlock ≠ some W1.heap.size := fun e => by have := (Lr.lt E _ e).2; omega
                    have E := Lr.grew E ((Below.refl W1.heap.size W1).alloc (Nat.le_refl _) (.cells #[.int .u32 (a.i : Int), .int .i64 a.r, .int .i64 a.b] 45))
                    have hr := (Rt.grew ⟨hr⟩ ((Below.refl W1.heap.size W1).alloc (Nat.le_refl _) (.cells #[.int .u32 (a.i : Int), .int .i64 a.r, .int .i64 a.b] 45))).bel
                    refine hK2.out _ _ hr (fun hr => ?_)
                    clear hK2 K2
                    generalize W1.alloc (.cells #[.int .u32 (a.i : Int), .int .i64 a.r, .int .i64 a.b] 45) = W2 at *
                    refine wpAnyH_ready (rs := [4]) (by kernel_rfl) (by simp) ?_
                    refine AllReadyH.cons rfl (fun K2 hK2 => ?_) AllReadyH.nil
                    · skip
                      obtain ⟨r2, c2, W3, happ, L2, g2, w2⟩ := wr_first 41 E (S1.below hr (Nat.le_refl _)) hT1 hr.size
                      refine step_append_run rfl (.tmp 91) (.tmp 94) 41 rfl _ _ rfl rfl _ _ happ ?_
                      have hr := (Rt.grown ⟨hr⟩ E g2).bel
                      obtain ⟨T, hLT⟩ := wn_grown T E hTE g2 w2
                      refine hK2.out _ _ hr (fun hr => ?_)
                      clear hK2 K2 happ
                      obtain ⟨r3, c3, W8, happ3, L3, g3, w3⟩ := wr_push' 41 L2 T hT1 hr.size
                      refine wpAnyH_ready (rs := [10]) (by kernel_rfl) (by simp) ?_
                      refine AllReadyH.cons rfl (fun K2 hK2 => ?_) AllReadyH.nil
                      refine step_append_run rfl (.tmp 95) (.tmp 100) 41 rfl _ _ rfl rfl _ _ happ3 ?_
                      have hr9 := (Rt.grown ⟨hr⟩ L2 g3).bel
                      refine hK2.out _ _ hr9 (fun hr => ?_)
                      clear hK2 K2 happ3
                      obtain ⟨r4, c4, W9, happ4, L4, g4, w4⟩ := wr_all 41 L3 (S2.below hr (Nat.le_refl _)) hT3 hr.size
                      refine wpAnyH_ready (rs := [14]) (by kernel_rfl) (by simp) ?_
                      refine AllReadyH.cons rfl (fun K2 hK2 => ?_) AllReadyH.nil
                      refine step_append_run rfl (.tmp 101) (.tmp 104) 41 rfl _ _ rfl rfl _ _ happ4 ?_
                      have hr10 := (Rt.grown ⟨hr⟩ L3 g4).bel
                      have HO9 : Hid (Wr W9 w.heap.size (.slice r4 (T1 ++ [a] ++ D1).length c4) (T1 ++ [a] ++ D1)) := Lr.base_le L4 BZ.size
                      have HW9 : Hid (Wr W9 w.heap.size (.slice (some ⟨gw, 0, none⟩) W.length cw) W) := Lr.grew WZ hr10
                      have HB9 : Hid (Below w.heap.size w W9) := BZ.trans (hr10.mono BZ.size)
                      refine hK2.out _ _ hr10 (fun hr => ?_)
                      clear hK2 K2 happ4
                      refine wpAnyH_take (i := 15) (v := .slice r4 (T1 ++ [a] ++ D1).length c4) rfl (by kernel_rfl) (by kernel_rfl) (by kernel_rfl) (fun _ _ _ h => h) (Yields.yieldsIf (Or.inl ⟨by kernel_rfl, fun _ => by kernel_rfl⟩)) hr ?_
                      refine wpAnyH_done (by kernel_rfl) ?_ _
                      clear hr hr9 hr10 L2 L3 L4 T g3 g4 w3 w4 hc1 hc2 S1 S2 NZ BZ WZ
                      generalize T1 ++ [a] ++ D1 = O2 at *
                      go_wp2_with fail
                      go_roundw
                      case rel => exact ⟨i + 1, r4, c4, O2, by omega, by go_num, rfl, HL2.out, HT2, HO9, HW9, HB9⟩
                      case measure => simp [intOf]; omega
                · skip
                  go_simp
                  have T : WnAt (z0.alloc (.cells #[.int .u32 (a.i : Int), .int .i64 a.r, .int .i64 a.b] 45)) z0.heap.size 0 a := WnAt.made z0 _ a
                  have hr := (Rt.grew ⟨hr⟩ ((Below.refl z0.heap.size z0).alloc (Nat.le_refl _) (.cells #[.int .u32 (a.i : Int), .int .i64 a.r, .int .i64 a.b] 45))).bel
                  refine hK2.out _ _ hr (fun hr => ?_)
                  clear hK2 K2
                  generalize z0.alloc (.cells #[.int .u32 (a.i : Int), .int .i64 a.r, .int .i64 a.b] 45) = W1 at *
                  refine wpAnyH_ready (rs := [0]) (by kernel_rfl) (by simp) ?_
                  refine AllReadyH.cons rfl (fun K2 hK2 => ?_) AllReadyH.nil
                  · skip
                    go_simp
                    have E : Wr (W1.alloc (.cells #[] 45)) z0.heap.size (.slice (some ⟨W1.heap.size, 0, none⟩) 0 0) [] := Lr.empty (E := wE) _ hr.size
                    have hr := (Rt.grew ⟨hr⟩ ((Below.refl W1.heap.size W1).alloc (Nat.le_refl _) (.cells #[] 45))).bel
                    have hTE : (Value.slice (some ⟨W1.heap.size, 0, none⟩) 0 0).ownBlock ≠ some z0.heap.size := fun e => by have e2 : W1.heap.size = z0.heap.size := Option.some.inj e; have := cell_lt T.c0; omega
                    have T := T.grew ((Below.refl W1.heap.size W1).alloc (Nat.le_refl _) (.cells #[] 45))
                    refine hK2.out _ _ hr (fun hr => ?_)
                    clear hK2 K2
                    generalize W1.alloc (.cells #[] 45) = W2 at *
                    refine wpAnyH_ready (rs := [4]) (by kernel_rfl) (by simp) ?_
                    refine AllReadyH.cons rfl (fun K2 hK2 => ?_) AllReadyH.nil
                    · skip
                      obtain ⟨r2, c2, W3, happ, L2, g2, w2⟩ := wr_first 41 E (S1.below hr (Nat.le_refl _)) hT1 hr.size
                      refine step_append_run rfl (.tmp 91) (.tmp 94) 41 rfl _ _ rfl rfl _ _ happ ?_
                      have hr := (Rt.grown ⟨hr⟩ E g2).bel
                      obtain ⟨T, hLT⟩ := wn_grown T E hTE g2 w2
                      refine hK2.out _ _ hr (fun hr => ?_)
                      clear hK2 K2 happ
                      obtain ⟨r3, c3, W8, happ3, L3, g3, w3⟩ := wr_push' 41 L2 T hT1 hr.size
                      refine wpAnyH_ready (rs := [10]) (by kernel_rfl) (by simp) ?_
                      refine AllReadyH.cons rfl (fun K2 hK2 => ?_) AllReadyH.nil
                      refine step_append_run rfl (.tmp 95) (.tmp 100) 41 rfl _ _ rfl rfl _ _ happ3 ?_
                      have hr9 := (Rt.grown ⟨hr⟩ L2 g3).bel
                      refine hK2.out _ _ hr9 (fun hr => ?_)
                      clear hK2 K2 happ3
                      obtain ⟨r4, c4, W9, happ4, L4, g4, w4⟩ := wr_all 41 L3 (S2.below hr (Nat.le_refl _)) hT3 hr.size
                      refine wpAnyH_ready (rs := [14]) (by kernel_rfl) (by simp) ?_
                      refine AllReadyH.cons rfl (fun K2 hK2 => ?_) AllReadyH.nil
                      refine step_append_run rfl (.tmp 101) (.tmp 104) 41 rfl _ _ rfl rfl _ _ happ4 ?_
                      have hr10 := (Rt.grown ⟨hr⟩ L3 g4).bel
                      have HO9 : Hid (Wr W9 w.heap.size (.slice r4 (T1 ++ [a] ++ D1).length c4) (T1 ++ [a] ++ D1)) := Lr.base_le L4 BZ.size
                      have HW9 : Hid (Wr W9 w.heap.size (.slice (some ⟨gw, 0, none⟩) W.length cw) W) := Lr.grew WZ hr10
                      have HB9 : Hid (Below w.heap.size w W9) := BZ.trans (hr10.mono BZ.size)
                      refine hK2.out _ _ hr10 (fun hr => ?_)
                      clear hK2 K2 happ4
                      refine wpAnyH_take (i := 15) (v := .slice r4 (T1 ++ [a] ++ D1).length c4) rfl (by kernel_rfl) (by kernel_rfl) (by kernel_rfl) (fun _ _ _ h => h) (Yields.yieldsIf (Or.inl ⟨by kernel_rfl, fun _ => by kernel_rfl⟩)) hr ?_
                      refine wpAnyH_done (by kernel_rfl) ?_ _
                      clear hr hr9 hr10 L2 L3 L4 T g3 g4 w3 w4 hc1 hc2 S1 S2 NZ BZ WZ
                      generalize T1 ++ [a] ++ D1 = O2 at *
                      go_wp2_with fail
                      go_roundw
                      case rel => exact ⟨i + 1, r4, c4, O2, by omega, by go_num, rfl, HL2.out, HT2, HO9, HW9, HB9⟩
                      case measure => simp [intOf]; omega
            case neg =>
              obtain rfl : k = O.length := by omega
              have j2 : decide ((O.length : Int) < (O.length : Int)) = false := by simp
              have HK2 : Hid (∀ hj : O.length < O.length, bet O[O.length] a = false) := fun hj => absurd hj (Nat.lt_irrefl _)
              clear O1
              go_wp2_with fail
              go_quiet (fail)
              go_wp2_with fail
              obtain ⟨z0, hz0⟩ : ∃ z, (wr.drewN nq).drew = z := ⟨_, rfl⟩
              have RZ : Rt V z0 := hz0 ▸ ((hrt.out.grew (below_drews _))).grew (below_drews 1)
              refine wp_region_held (S := fun W => Below z0.heap.size z0 W) (by kernel_rfl) ?_
              change wpAnyH _ _ _ _ _ _ _ _ (wr.drewN nq).drew
              rw [hz0]
              clear hz0
              have OZ : Wr z0 w.heap.size (.slice ro O.length co) O := Lr.grew hO.out RZ.bel
              have WZ : Wr z0 w.heap.size (.slice (some ⟨gw, 0, none⟩) W.length cw) W := Lr.grew hW.out RZ.bel
              have BZ : Below w.heap.size w z0 := hb.out.trans (RZ.bel.mono hb.out.size)
              have NZ := HWN.out.grew RZ.bel
              obtain ⟨roq, coq, ev, hle, -, hcut, hslc, hfrom⟩ := wr_wsl OZ
              injection ev with ev1 ev2 ev3
              clear ev2
              subst ev1
              subst ev3
              have hc1 := hcut O.length hkO
              have S1 := hslc O.length hkO
              obtain ⟨vd, hc2, S2⟩ := hfrom O.length hkO
              obtain ⟨rd, cd, rfl, -⟩ := S2.is
              have hsT := Told.ins hto.out hkO hbk.out HK2.out
              have HT2 : Hid (Told (W.take (i + 1)) (O.take O.length ++ [a] ++ O.drop O.length)) := by rw [HTA.out]; exact hsT
              have HL2 : Hid ((O.take O.length ++ [a] ++ O.drop O.length).length = i + 1) := by
                show _ = _
                have := HOi.out
                simp only [List.length_append, List.length_take, List.length_drop, List.length_singleton]
                omega
              have hT1 : (O.take O.length).length ≤ 100000 := by rw [List.length_take]; omega
              have hT2 : (O.drop O.length).length ≤ 100000 := by rw [List.length_drop]; omega
              have hT3 : (O.take O.length ++ [a]).length + (O.drop O.length).length ≤ 100000 := by
                have := HOi.out
                simp only [List.length_append, List.length_take, List.length_drop, List.length_singleton]
                omega
              have hr : Below z0.heap.size z0 z0 := Below.refl _ _
              clear hcut hslc hfrom hsT OZ RZ
              generalize O.take O.length = T1 at *
              generalize O.drop O.length = D1 at *
              refine wpAnyH_take (i := 1) (v := .slice ro O.length co) rfl (by kernel_rfl) (by kernel_rfl) (by kernel_rfl) (fun _ _ _ h => h) (Yields.yieldsIf (Or.inl ⟨by kernel_rfl, fun _ => by go_simp⟩)) hr ?_
              refine wpAnyH_take (i := 2) (v := .int .i64 (O.length : Int)) rfl (by kernel_rfl) (by kernel_rfl) (by kernel_rfl) (fun _ _ _ h => h) (Yields.yieldsIf (Or.inl ⟨by kernel_rfl, fun _ => by go_simp⟩)) hr ?_
              refine wpAnyH_take (i := 3) (v := .slice ro O.length co) rfl (by kernel_rfl) (by kernel_rfl) (by kernel_rfl) (fun _ _ _ h => h) (Yields.yieldsIf (Or.inl ⟨by kernel_rfl, fun _ => by go_simp⟩)) hr ?_
              refine wpAnyH_take (i := 5) (v := .slice (some ⟨gw, 0, none⟩) W.length cw) rfl (by kernel_rfl) (by kernel_rfl) (by kernel_rfl) (fun _ _ _ h => h) (Yields.yieldsIf (Or.inl ⟨by kernel_rfl, fun _ => by go_simp⟩)) hr ?_
              refine wpAnyH_take (i := 6) (v := .int .i64 (i : Int)) rfl (by kernel_rfl) (by kernel_rfl) (by kernel_rfl) (fun _ _ _ h => h) (Yields.yieldsIf (Or.inl ⟨by kernel_rfl, fun _ => by go_simp⟩)) hr ?_
              refine wpAnyH_take (i := 7) (v := .pointer (some ⟨gw, i * 3, none⟩)) rfl (by kernel_rfl) (by kernel_rfl) (by kernel_rfl) (fun _ _ _ h => h) (Yields.yieldsIf (Or.inl ⟨by kernel_rfl, fun _ => by go_simp⟩)) hr ?_
              refine wpAnyH_take (i := 8) (v := .agg #[.int .u32 (a.i : Int), .int .i64 a.r, .int .i64 a.b]) rfl (by kernel_rfl) (by kernel_rfl) (by kernel_rfl) (fun _ _ _ h => h) (Or.inl ⟨by kernel_rfl, fun W hW => by have c0 := (hW.cell (p := ⟨gw, i * 3, none⟩) (cell_lt NZ.c0)).trans NZ.c0; have c1 := (hW.cell (p := ⟨gw, i * 3 + 1, none⟩) (cell_lt NZ.c1)).trans NZ.c1; have c2 := (hW.cell (p := ⟨gw, i * 3 + 2, none⟩) (cell_lt NZ.c2)).trans NZ.c2; go_simp⟩) hr ?_
              refine wpAnyH_take (i := 11) (v := .slice ro O.length co) rfl (by kernel_rfl) (by kernel_rfl) (by kernel_rfl) (fun _ _ _ h => h) (Yields.yieldsIf (Or.inl ⟨by kernel_rfl, fun _ => by go_simp⟩)) hr ?_
              refine wpAnyH_take (i := 12) (v := .int .i64 (O.length : Int)) rfl (by kernel_rfl) (by kernel_rfl) (by kernel_rfl) (fun _ _ _ h => h) (Yields.yieldsIf (Or.inl ⟨by kernel_rfl, fun _ => by go_simp⟩)) hr ?_
              refine wpAnyH_take (i := 13) (v := .slice rd D1.length cd) rfl (by kernel_rfl) (by kernel_rfl) (by kernel_rfl) (fun _ _ _ h => h) (Yields.yieldsIf (Or.inl ⟨by kernel_rfl, fun _ => by go_simp⟩)) hr ?_
              refine wpAnyH_ready (rs := [0, 9]) (by kernel_rfl) (by simp) ?_
              refine AllReadyH.cons rfl (fun K2 hK2 => ?_) (AllReadyH.cons rfl (fun K2 hK2 => ?_) AllReadyH.nil)
              · skip
                go_simp
                have E : Wr (z0.alloc (.cells #[] 45)) z0.heap.size (.slice (some ⟨z0.heap.size, 0, none⟩) 0 0) [] := Lr.empty (E := wE) _ hr.size
                have hr := (Rt.grew ⟨hr⟩ ((Below.refl z0.heap.size z0).alloc (Nat.le_refl _) (.cells #[] 45))).bel
                refine hK2.out _ _ hr (fun hr => ?_)
                clear hK2 K2
                generalize z0.alloc (.cells #[] 45) = W1 at *
                refine wpAnyH_ready (rs := [4, 9]) (by kernel_rfl) (by simp) ?_
                refine AllReadyH.cons rfl (fun K2 hK2 => ?_) (AllReadyH.cons rfl (fun K2 hK2 => ?_) AllReadyH.nil)
                · skip
                  obtain ⟨r2, c2, W2, happ, L2, g2, w2⟩ := wr_first 41 E (S1.below hr (Nat.le_refl _)) hT1 hr.size
                  refine step_append_run rfl (.tmp 91) (.tmp 94) 41 rfl _ _ rfl rfl _ _ happ ?_
                  have hr := (Rt.grown ⟨hr⟩ E g2).bel
                  refine hK2.out _ _ hr (fun hr => ?_)
                  clear hK2 K2 happ
                  refine wpAnyH_ready (rs := [9]) (by kernel_rfl) (by simp) ?_
                  refine AllReadyH.cons rfl (fun K2 hK2 => ?_) AllReadyH.nil
                  · skip
                    go_simp
                    have T : WnAt (W2.alloc (.cells #[.int .u32 (a.i : Int), .int .i64 a.r, .int .i64 a.b] 45)) W2.heap.size 0 a := WnAt.made W2 _ a
                    have hLT : (Value.slice r2 T1.length c2).ownBlock ≠ some W2.heap.size := fun e => by have := (Lr.lt L2 _ e).2; omega
                    have L2 := Lr.grew L2 ((Below.refl W2.heap.size W2).alloc (Nat.le_refl _) (.cells #[.int .u32 (a.i : Int), .int .i64 a.r, .int .i64 a.b] 45))
                    have hr := (Rt.grew ⟨hr⟩ ((Below.refl W2.heap.size W2).alloc (Nat.le_refl _) (.cells #[.int .u32 (a.i : Int), .int .i64 a.r, .int .i64 a.b] 45))).bel
                    refine hK2.out _ _ hr (fun hr => ?_)
                    clear hK2 K2
                    generalize W2.alloc (.cells #[.int .u32 (a.i : Int), .int .i64 a.r, .int .i64 a.b] 45) = W3 at *
                    obtain ⟨r3, c3, W8, happ3, L3, g3, w3⟩ := wr_push' 41 L2 T hT1 hr.size
                    refine wpAnyH_ready (rs := [10]) (by kernel_rfl) (by simp) ?_
                    refine AllReadyH.cons rfl (fun K2 hK2 => ?_) AllReadyH.nil
                    refine step_append_run rfl (.tmp 95) (.tmp 100) 41 rfl _ _ rfl rfl _ _ happ3 ?_
                    have hr9 := (Rt.grown ⟨hr⟩ L2 g3).bel
                    refine hK2.out _ _ hr9 (fun hr => ?_)
                    clear hK2 K2 happ3
                    obtain ⟨r4, c4, W9, happ4, L4, g4, w4⟩ := wr_all 41 L3 (S2.below hr (Nat.le_refl _)) hT3 hr.size
                    refine wpAnyH_ready (rs := [14]) (by kernel_rfl) (by simp) ?_
                    refine AllReadyH.cons rfl (fun K2 hK2 => ?_) AllReadyH.nil
                    refine step_append_run rfl (.tmp 101) (.tmp 104) 41 rfl _ _ rfl rfl _ _ happ4 ?_
                    have hr10 := (Rt.grown ⟨hr⟩ L3 g4).bel
                    have HO9 : Hid (Wr W9 w.heap.size (.slice r4 (T1 ++ [a] ++ D1).length c4) (T1 ++ [a] ++ D1)) := Lr.base_le L4 BZ.size
                    have HW9 : Hid (Wr W9 w.heap.size (.slice (some ⟨gw, 0, none⟩) W.length cw) W) := Lr.grew WZ hr10
                    have HB9 : Hid (Below w.heap.size w W9) := BZ.trans (hr10.mono BZ.size)
                    refine hK2.out _ _ hr10 (fun hr => ?_)
                    clear hK2 K2 happ4
                    refine wpAnyH_take (i := 15) (v := .slice r4 (T1 ++ [a] ++ D1).length c4) rfl (by kernel_rfl) (by kernel_rfl) (by kernel_rfl) (fun _ _ _ h => h) (Yields.yieldsIf (Or.inl ⟨by kernel_rfl, fun _ => by kernel_rfl⟩)) hr ?_
                    refine wpAnyH_done (by kernel_rfl) ?_ _
                    clear hr hr9 hr10 L2 L3 L4 T g3 g4 w3 w4 hc1 hc2 S1 S2 NZ BZ WZ
                    generalize T1 ++ [a] ++ D1 = O2 at *
                    go_wp2_with fail
                    go_roundw
                    case rel => exact ⟨i + 1, r4, c4, O2, by omega, by go_num, rfl, HL2.out, HT2, HO9, HW9, HB9⟩
                    case measure => simp [intOf]; omega
                · skip
                  go_simp
                  have T : WnAt (W1.alloc (.cells #[.int .u32 (a.i : Int), .int .i64 a.r, .int .i64 a.b] 45)) W1.heap.size 0 a := WnAt.made W1 _ a
                  have hTE : (Value.slice (some ⟨z0.heap.size, 0, none⟩) 0 0).ownBlock ≠ some W1.heap.size := fun e => by have := (Lr.lt E _ e).2; omega
                  have E := Lr.grew E ((Below.refl W1.heap.size W1).alloc (Nat.le_refl _) (.cells #[.int .u32 (a.i : Int), .int .i64 a.r, .int .i64 a.b] 45))
                  have hr := (Rt.grew ⟨hr⟩ ((Below.refl W1.heap.size W1).alloc (Nat.le_refl _) (.cells #[.int .u32 (a.i : Int), .int .i64 a.r, .int .i64 a.b] 45))).bel
                  refine hK2.out _ _ hr (fun hr => ?_)
                  clear hK2 K2
                  generalize W1.alloc (.cells #[.int .u32 (a.i : Int), .int .i64 a.r, .int .i64 a.b] 45) = W2 at *
                  refine wpAnyH_ready (rs := [4]) (by kernel_rfl) (by simp) ?_
                  refine AllReadyH.cons rfl (fun K2 hK2 => ?_) AllReadyH.nil
                  · skip
                    obtain ⟨r2, c2, W3, happ, L2, g2, w2⟩ := wr_first 41 E (S1.below hr (Nat.le_refl _)) hT1 hr.size
                    refine step_append_run rfl (.tmp 91) (.tmp 94) 41 rfl _ _ rfl rfl _ _ happ ?_
                    have hr := (Rt.grown ⟨hr⟩ E g2).bel
                    obtain ⟨T, hLT⟩ := wn_grown T E hTE g2 w2
                    refine hK2.out _ _ hr (fun hr => ?_)
                    clear hK2 K2 happ
                    obtain ⟨r3, c3, W8, happ3, L3, g3, w3⟩ := wr_push' 41 L2 T hT1 hr.size
                    refine wpAnyH_ready (rs := [10]) (by kernel_rfl) (by simp) ?_
                    refine AllReadyH.cons rfl (fun K2 hK2 => ?_) AllReadyH.nil
                    refine step_append_run rfl (.tmp 95) (.tmp 100) 41 rfl _ _ rfl rfl _ _ happ3 ?_
                    have hr9 := (Rt.grown ⟨hr⟩ L2 g3).bel
                    refine hK2.out _ _ hr9 (fun hr => ?_)
                    clear hK2 K2 happ3
                    obtain ⟨r4, c4, W9, happ4, L4, g4, w4⟩ := wr_all 41 L3 (S2.below hr (Nat.le_refl _)) hT3 hr.size
                    refine wpAnyH_ready (rs := [14]) (by kernel_rfl) (by simp) ?_
                    refine AllReadyH.cons rfl (fun K2 hK2 => ?_) AllReadyH.nil
                    refine step_append_run rfl (.tmp 101) (.tmp 104) 41 rfl _ _ rfl rfl _ _ happ4 ?_
                    have hr10 := (Rt.grown ⟨hr⟩ L3 g4).bel
                    have HO9 : Hid (Wr W9 w.heap.size (.slice r4 (T1 ++ [a] ++ D1).length c4) (T1 ++ [a] ++ D1)) := Lr.base_le L4 BZ.size
                    have HW9 : Hid (Wr W9 w.heap.size (.slice (some ⟨gw, 0, none⟩) W.length cw) W) := Lr.grew WZ hr10
                    have HB9 : Hid (Below w.heap.size w W9) := BZ.trans (hr10.mono BZ.size)
                    refine hK2.out _ _ hr10 (fun hr => ?_)
                    clear hK2 K2 happ4
                    refine wpAnyH_take (i := 15) (v := .slice r4 (T1 ++ [a] ++ D1).length c4) rfl (by kernel_rfl) (by kernel_rfl) (by kernel_rfl) (fun _ _ _ h => h) (Yields.yieldsIf (Or.inl ⟨by kernel_rfl, fun _ => by kernel_rfl⟩)) hr ?_
                    refine wpAnyH_done (by kernel_rfl) ?_ _
                    clear hr hr9 hr10 L2 L3 L4 T g3 g4 w3 w4 hc1 hc2 S1 S2 NZ BZ WZ
                    generalize T1 ++ [a] ++ D1 = O2 at *
                    go_wp2_with fail
                    go_roundw
                    case rel => exact ⟨i + 1, r4, c4, O2, by omega, by go_num, rfl, HL2.out, HT2, HO9, HW9, HB9⟩
                    case measure => simp [intOf]; omega
              · skip
                go_simp
                have T : WnAt (z0.alloc (.cells #[.int .u32 (a.i : Int), .int .i64 a.r, .int .i64 a.b] 45)) z0.heap.size 0 a := WnAt.made z0 _ a
                have hr := (Rt.grew ⟨hr⟩ ((Below.refl z0.heap.size z0).alloc (Nat.le_refl _) (.cells #[.int .u32 (a.i : Int), .int .i64 a.r, .int .i64 a.b] 45))).bel
                refine hK2.out _ _ hr (fun hr => ?_)
                clear hK2 K2
                generalize z0.alloc (.cells #[.int .u32 (a.i : Int), .int .i64 a.r, .int .i64 a.b] 45) = W1 at *
                refine wpAnyH_ready (rs := [0]) (by kernel_rfl) (by simp) ?_
                refine AllReadyH.cons rfl (fun K2 hK2 => ?_) AllReadyH.nil
                · skip
                  go_simp
                  have E : Wr (W1.alloc (.cells #[] 45)) z0.heap.size (.slice (some ⟨W1.heap.size, 0, none⟩) 0 0) [] := Lr.empty (E := wE) _ hr.size
                  have hr := (Rt.grew ⟨hr⟩ ((Below.refl W1.heap.size W1).alloc (Nat.le_refl _) (.cells #[] 45))).bel
                  have hTE : (Value.slice (some ⟨W1.heap.size, 0, none⟩) 0 0).ownBlock ≠ some z0.heap.size := fun e => by have e2 : W1.heap.size = z0.heap.size := Option.some.inj e; have := cell_lt T.c0; omega
                  have T := T.grew ((Below.refl W1.heap.size W1).alloc (Nat.le_refl _) (.cells #[] 45))
                  refine hK2.out _ _ hr (fun hr => ?_)
                  clear hK2 K2
                  generalize W1.alloc (.cells #[] 45) = W2 at *
                  refine wpAnyH_ready (rs := [4]) (by kernel_rfl) (by simp) ?_
                  refine AllReadyH.cons rfl (fun K2 hK2 => ?_) AllReadyH.nil
                  · skip
                    obtain ⟨r2, c2, W3, happ, L2, g2, w2⟩ := wr_first 41 E (S1.below hr (Nat.le_refl _)) hT1 hr.size
                    refine step_append_run rfl (.tmp 91) (.tmp 94) 41 rfl _ _ rfl rfl _ _ happ ?_
                    have hr := (Rt.grown ⟨hr⟩ E g2).bel
                    obtain ⟨T, hLT⟩ := wn_grown T E hTE g2 w2
                    refine hK2.out _ _ hr (fun hr => ?_)
                    clear hK2 K2 happ
                    obtain ⟨r3, c3, W8, happ3, L3, g3, w3⟩ := wr_push' 41 L2 T hT1 hr.size
                    refine wpAnyH_ready (rs := [10]) (by kernel_rfl) (by simp) ?_
                    refine AllReadyH.cons rfl (fun K2 hK2 => ?_) AllReadyH.nil
                    refine step_append_run rfl (.tmp 95) (.tmp 100) 41 rfl _ _ rfl rfl _ _ happ3 ?_
                    have hr9 := (Rt.grown ⟨hr⟩ L2 g3).bel
                    refine hK2.out _ _ hr9 (fun hr => ?_)
                    clear hK2 K2 happ3
                    obtain ⟨r4, c4, W9, happ4, L4, g4, w4⟩ := wr_all 41 L3 (S2.below hr (Nat.le_refl _)) hT3 hr.size
                    refine wpAnyH_ready (rs := [14]) (by kernel_rfl) (by simp) ?_
                    refine AllReadyH.cons rfl (fun K2 hK2 => ?_) AllReadyH.nil
                    refine step_append_run rfl (.tmp 101) (.tmp 104) 41 rfl _ _ rfl rfl _ _ happ4 ?_
                    have hr10 := (Rt.grown ⟨hr⟩ L3 g4).bel
                    have HO9 : Hid (Wr W9 w.heap.size (.slice r4 (T1 ++ [a] ++ D1).length c4) (T1 ++ [a] ++ D1)) := Lr.base_le L4 BZ.size
                    have HW9 : Hid (Wr W9 w.heap.size (.slice (some ⟨gw, 0, none⟩) W.length cw) W) := Lr.grew WZ hr10
                    have HB9 : Hid (Below w.heap.size w W9) := BZ.trans (hr10.mono BZ.size)
                    refine hK2.out _ _ hr10 (fun hr => ?_)
                    clear hK2 K2 happ4
                    refine wpAnyH_take (i := 15) (v := .slice r4 (T1 ++ [a] ++ D1).length c4) rfl (by kernel_rfl) (by kernel_rfl) (by kernel_rfl) (fun _ _ _ h => h) (Yields.yieldsIf (Or.inl ⟨by kernel_rfl, fun _ => by kernel_rfl⟩)) hr ?_
                    refine wpAnyH_done (by kernel_rfl) ?_ _
                    clear hr hr9 hr10 L2 L3 L4 T g3 g4 w3 w4 hc1 hc2 S1 S2 NZ BZ WZ
                    generalize T1 ++ [a] ++ D1 = O2 at *
                    go_wp2_with fail
                    go_roundw
                    case rel => exact ⟨i + 1, r4, c4, O2, by omega, by go_num, rfl, HL2.out, HT2, HO9, HW9, HB9⟩
                    case measure => simp [intOf]; omega
end Go.Proofs.Ytaikkoijoolhkaa
