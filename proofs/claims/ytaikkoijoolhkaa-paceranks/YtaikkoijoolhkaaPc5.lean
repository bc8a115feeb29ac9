/-
  Package pace: Rank.
-/
import Derived.Test.YtaikkoijoolhkaaPc1
namespace Go.Proofs.Ytaikkoijoolhkaa
open Go.RowKit Go.Deep

/-- An item of that frame has another rank. -/
def ranked (f : Nat) (r : Int) (a : It) : It := if a.f = f then { a with r := r } else a
/-- The first k have been looked at. -/
def rankTo (f : Nat) (r : Int) (l : List It) (k : Nat) : List It := (l.take k).map (ranked f r) ++ l.drop k
def count (f : Nat) (l : List It) : Nat := (l.filter fun a => decide (a.f = f)).length
theorem set_same {α : Type} {l : List α} {k : Nat} {a : α} (h : l[k]? = some a) : l.set k a = l := by
  obtain ⟨hk, rfl⟩ := List.getElem?_eq_some_iff.1 h
  exact List.set_getElem_self hk
section
variable {f : Nat} {r : Int} {l : List It} {k : Nat}
theorem rankTo_len : (rankTo f r l k).length = l.length := by
  unfold rankTo
  rw [List.length_append, List.length_map, List.length_take, List.length_drop]
  omega
theorem rankTo_get (h : k < l.length) : (rankTo f r l k)[k]? = some l[k] := by
  unfold rankTo
  have hk : ((l.take k).map (ranked f r)).length = k := by rw [List.length_map, List.length_take]; omega
  rw [List.getElem?_append_right (by omega), hk, Nat.sub_self, List.getElem?_drop, Nat.add_zero, List.getElem?_eq_getElem h]
theorem rankTo_next (h : k < l.length) : rankTo f r l (k + 1) = (rankTo f r l k).set k (ranked f r l[k]) := by
  unfold rankTo
  have hk : ((l.take k).map (ranked f r)).length = k := by rw [List.length_map, List.length_take]; omega
  rw [List.set_append_right _ _ (by omega), hk, Nat.sub_self, List.drop_eq_getElem_cons h, List.set_cons_zero, List.take_add_one, List.getElem?_eq_getElem h, List.map_append, List.append_assoc]
  rfl
theorem rankTo_same (h : k < l.length) (hf : l[k].f ≠ f) : rankTo f r l (k + 1) = rankTo f r l k := by
  rw [rankTo_next h]
  have : ranked f r l[k] = l[k] := if_neg hf
  rw [this]
  exact set_same (rankTo_get h)
theorem count_next (h : k < l.length) : count f (l.take (k + 1)) = count f (l.take k) + if l[k].f = f then 1 else 0 := by
  unfold count
  rw [List.take_add_one, List.getElem?_eq_getElem h, List.filter_append, List.length_append]
  by_cases e : l[k].f = f
  · simp [e]
  · simp [e]
theorem count_le : count f l ≤ l.length := List.length_filter_le _ _
end

set_option maxRecDepth 100000 in
theorem prank_nil (f : Nat) (r : Int) (w : World) : Calls Try.prog 19 #[.pointer none, .int .u32 (f : Int), .int .i64 r] w fun e w' => e = .returned (.int .i64 0) ∧ w' = w := by
  have CALL : Hid (Calls Try.prog 28 #[.pointer none] w fun e w' => e = .returned (.slice none 0 0) ∧ w' = w) := waiting_nil w
  go_enter Try.func19, Try.ntmps19
  go_wp2_with fail
  refine CALL.out.mono ?_
  rintro e w' ⟨rfl, hw⟩
  subst w'
  go_wp2_with fail
  refine wp_loop_rounds 1 ?_
  rw [rounds_succ]
  go_wp2
  go_ret
  exact ⟨rfl, rfl⟩

set_option maxRecDepth 100000 in
set_option maxHeartbeats 2000000 in
theorem prank_any (base B f : Nat) (rk : Int) (v : Value) (l : List It) (w : World) (HQ : Hid (QAt w base B v l)) (Hn : Hid (l.length ≤ 100000)) :
    Calls Try.prog 19 #[.pointer (some ⟨B, 0, none⟩), .int .u32 (f : Int), .int .i64 rk] w fun e w' => e = .returned (.int .i64 (count f l : Int)) ∧ QAt w' base B v (l.map (ranked f rk)) ∧ But (feet B v) w w' := by
  obtain ⟨r, cap, rfl⟩ := HQ.out.shape
  have CALL : Hid (Calls Try.prog 28 #[.pointer (some ⟨B, 0, none⟩)] w fun e w' => e = .returned (.slice r l.length cap) ∧ w' = w) := waiting_any B l.length cap r w HQ.out.c0
  go_enter Try.func19, Try.ntmps19
  go_wp2_with fail
  refine CALL.out.mono ?_
  rintro e w' ⟨rfl, hw⟩
  subst w'
  clear CALL
  go_wp2_with fail
  go_loopw [7, 15] (fun nv i wr => ∃ K : Nat, K ≤ l.length ∧ i = .int .i64 (K : Int) ∧ nv = .int .i64 (count f (l.take K) : Int) ∧ Hid (QAt wr base B (.slice r l.length cap) (rankTo f rk l K)) ∧ Hid (But (feet B (.slice r l.length cap)) w wr)) (fun _ i _ => l.length - (intOf i).toNat)
  case atStart => exact ⟨0, Nat.zero_le _, rfl, rfl, by simpa [rankTo] using HQ, But.refl _ _⟩
  case round =>
    obtain ⟨K, hK, rfl, rfl, hq, hb⟩ := hrel
    have hcl : count f (l.take K) ≤ 100000 := by
      have := count_le (f := f) (l := l.take K)
      have h2 : (l.take K).length ≤ l.length := by rw [List.length_take]; omega
      have := Hn.out
      omega
    by_cases hk : K < l.length
    · have i1 : (K : Int) < (l.length : Int) := by omega
      have hKb : K ≤ 100000 := by have := Hn.out; omega
      obtain ⟨r', cap', e, hls, -, -, hsome⟩ := Lr.any hq.out.row
      injection e with e1 e4 e3
      clear e4
      subst e1
      subst e3
      have hkL : K < (rankTo f rk l K).length := by rw [rankTo_len]; exact hk
      obtain ⟨b, o, e⟩ := hls.addr (by omega)
      obtain ⟨g, e2, -, hgl, hfr⟩ := hsome _ e
      clear e
      subst e2
      have hit := ls_it hls K hkL
      have e3 : (rankTo f rk l K)[K] = l[K] := by
        have := rankTo_get (f := f) (r := rk) hk
        rw [List.getElem?_eq_getElem hkL] at this
        exact Option.some.inj this
      rw [e3, Nat.zero_add] at hit
      have hcn := count_next (f := f) hk
      have hnx := rankTo_next (f := f) (r := rk) hk
      have hsm := fun h => rankTo_same (f := f) (r := rk) hk h
      have hst : ∀ W : World, Ir W base (.slice (some ⟨g, 0, none⟩) l.length cap) (rankTo f rk l K) → l[K].f = f → Ir (W.setCell ⟨g, K * 5 + 2, none⟩ (.int .i64 rk)) base (.slice (some ⟨g, 0, none⟩) l.length cap) (rankTo f rk l (K + 1)) := fun W hW hf => by
        rw [hnx]
        refine Lr.set hW hkL (j := 2) (by decide) rfl ?_
        rw [e3]
        unfold ranked
        rw [if_pos hf]
        rfl
      obtain ⟨A, hA⟩ : ∃ A, l[K] = A := ⟨_, rfl⟩
      rw [hA] at hit hcn hsm hst
      obtain ⟨c0, c1, c2, c3, c4⟩ := hit
      obtain ⟨V0, e0⟩ : ∃ x, wr.alloc (.cells #[.int .u32 (A.f : Int), .int .i64 A.s, .int .i64 A.r, .int .i64 A.b, .int .i64 A.d] 32) = x := ⟨_, rfl⟩
      obtain ⟨H, hH⟩ : ∃ H, wr.heap.size = H := ⟨_, rfl⟩
      have B0 : Below wr.heap.size wr V0 := e0 ▸ (Below.refl _ _).alloc (Nat.le_refl _) _
      have A0 : ItAt V0 H 0 A := by rw [← e0, ← hH]; exact ItAt.made wr _ A
      have Q0 := hq.out.grew B0
      have HQ0 : Hid (QAt V0 base B (.slice (some ⟨g, 0, none⟩) l.length cap) (rankTo f rk l K)) := Q0
      have HB0 : Hid (But (feet B (.slice (some ⟨g, 0, none⟩) l.length cap)) w V0) := hb.out.trans (But.of_below B0)
      have CALL : Hid (Calls Try.prog 27 #[.int .u32 (f : Int), A.val] V0 fun e w' => e = .returned (.bool (decide (A.f = f))) ∧ Below V0.heap.size V0 w') := has_any f A V0
      have HGc : Hid (V0.cell? ⟨g, K * 5 + 2, none⟩ = some (.int .i64 A.r)) := (World.cell?_of_block (a := ⟨g, K * 5 + 2, none⟩) (B0.block g hgl)).trans c2
      have HGf : Hid (V0.frozen? ⟨g, K * 5 + 2, none⟩ = false) := (World.frozen?_of_block (a := ⟨g, K * 5 + 2, none⟩) (B0.block g hgl)).trans (hfr _)
      have HGl : Hid (g < V0.heap.size) := Nat.lt_of_lt_of_le hgl B0.size
      have HST : Hid (∀ W : World, Ir W base (.slice (some ⟨g, 0, none⟩) l.length cap) (rankTo f rk l K) → A.f = f → Ir (W.setCell ⟨g, K * 5 + 2, none⟩ (.int .i64 rk)) base (.slice (some ⟨g, 0, none⟩) l.length cap) (rankTo f rk l (K + 1))) := hst
      unfold It.val at CALL
      obtain ⟨d0, d1, d2, d3, d4⟩ := A0
      by_cases hf : A.f = f
      · rw [if_pos hf] at hcn
        rw [decide_eq_true hf] at CALL
        have HF : Hid (A.f = f) := hf
        have HCN : Hid (count f (l.take (K + 1)) = count f (l.take K) + 1) := hcn
        clear hst hsm hnx hcn hA hls hsome hfr hgl Q0 B0 hq hb e3 hkL hf
        go_wp2_with fail
        refine CALL.out.mono ?_
        rintro e x1 ⟨rfl, b1⟩
        have p0 : x1.cell? ⟨g, K * 5 + 2, none⟩ = some (.int .i64 A.r) := (World.cell?_of_block (a := ⟨g, K * 5 + 2, none⟩) (b1.block g HGl.out)).trans HGc.out
        have p1 : x1.frozen? ⟨g, K * 5 + 2, none⟩ = false := (World.frozen?_of_block (a := ⟨g, K * 5 + 2, none⟩) (b1.block g HGl.out)).trans HGf.out
        have Q1 := HQ0.out.grew b1
        have hgB : B ≠ g := fun e => Q1.ne (by rw [e]; rfl)
        have HQ2 : Hid (QAt (x1.setCell ⟨g, K * 5 + 2, none⟩ (.int .i64 rk)) base B (.slice (some ⟨g, 0, none⟩) l.length cap) (rankTo f rk l (K + 1))) :=
          ⟨(World.cell?_setCell_other _ _ _ _ (by intro e; exact hgB (Addr.mk.inj e).1.symm)).trans Q1.c0, by rw [World.frozen?_setCell]; exact Q1.thaw, HST.out x1 Q1.row HF.out, Q1.ne, Q1.base⟩
        have HB2 : Hid (But (feet B (.slice (some ⟨g, 0, none⟩) l.length cap)) w (x1.setCell ⟨g, K * 5 + 2, none⟩ (.int .i64 rk))) := (HB0.out.trans (But.of_below b1)).trans (But.set _ g _ _ (mem_feet.2 (.inr rfl)))
        clear Q1 b1 HQ0 HB0 CALL
        go_wp2_with fail
        go_roundw
        case rel => exact ⟨K + 1, by omega, by go_num, by rw [HCN.out]; go_num, HQ2, HB2⟩
        case measure => simp [intOf]; omega
      · rw [if_neg hf] at hcn
        rw [decide_eq_false hf] at CALL
        have HCN : Hid (count f (l.take (K + 1)) = count f (l.take K)) := hcn
        have HSM : Hid (rankTo f rk l (K + 1) = rankTo f rk l K) := hsm hf
        clear hst hsm hnx hcn hA hls hsome hfr hgl Q0 B0 hq hb e3 hkL hf
        go_wp2_with fail
        refine CALL.out.mono ?_
        rintro e x1 ⟨rfl, b1⟩
        have HQ2 : Hid (QAt x1 base B (.slice (some ⟨g, 0, none⟩) l.length cap) (rankTo f rk l (K + 1))) := by rw [HSM.out]; exact HQ0.out.grew b1
        have HB2 : Hid (But (feet B (.slice (some ⟨g, 0, none⟩) l.length cap)) w x1) := HB0.out.trans (But.of_below b1)
        clear b1 HQ0 HB0 CALL
        go_wp2_with fail
        go_roundw
        case rel => exact ⟨K + 1, by omega, by go_num, by rw [HCN.out], HQ2, HB2⟩
        case measure => simp [intOf]; omega
    · obtain rfl : K = l.length := by omega
      have i1 : decide ((l.length : Int) < (l.length : Int)) = false := by simp
      have e1 : rankTo f rk l l.length = l.map (ranked f rk) := by simp [rankTo]
      have HE : Hid (QAt wr base B (.slice r l.length cap) (l.map (ranked f rk)) ∧ But (feet B (.slice r l.length cap)) w wr) := ⟨e1 ▸ hq.out, hb.out⟩
      rw [List.take_length]
      clear hq hb e1
      go_wp2_with fail
      go_ret
      exact ⟨rfl, HE.out⟩
end Go.Proofs.Ytaikkoijoolhkaa
