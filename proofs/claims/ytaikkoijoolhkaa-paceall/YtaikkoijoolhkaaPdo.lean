/-
  The program's Queue and the document's, side by side: each deed.
-/
import Derived.Test.YtaikkoijoolhkaaPdh
import Derived.Test.YtaikkoijoolhkaaPd6
namespace Go.Proofs.Ytaikkoijoolhkaa
open Go.RowKit Go.Deep

section
variable {w0 W W' : World} {B1 B2 : Nat} {l1 l2 l' : List It} {P : List Nat}
/-- Some go out of the first; nobody asks where they lie. -/
theorem Dh.went {fn : Nat} {args : Array Value} {g : List It} (h : Dh w0 B1 B2 l1 l2 P W) (o' : Okl l') (C : ∀ v1, QAt W w0.heap.size B1 v1 l1 → Calls Try.prog fn args W (Gone g l' W w0.heap.size B1 v1)) :
    Calls Try.prog fn args W fun e w' => ∃ r c, e = .returned (.slice r g.length c) ∧ LsAt iE w' r g ∧ Dh w0 B1 B2 l' l2 P w' ∧ ∀ k, k ∈ P → w'.heap[k]? = W.heap[k]? := by
  obtain ⟨v1, v2, q1, q2, h3, h4⟩ := h.ex
  refine Calls.mono (C v1 q1) ?_
  rintro e w' ⟨r, c, rfl, hr, ht⟩
  obtain ⟨r', c', e2, hls, -⟩ := Lr.any hr
  injection e2 with e3 e4 e5
  subst e3
  exact ⟨r, c, rfl, hls, Dh.to q1 q2 h3 h4 h.bel h.ok2 ht o' (fun k hk => .inl hk)⟩
theorem part_gone {t : Int → It → Bool × Int} {n : Int} {v1 : Value} {e : Ending} (q1 : QAt W w0.heap.size B1 v1 l1) (h : PartIs [] t n W w0.heap.size B1 v1 l1 e W') :
    ∃ r c, e = .returned (.slice r (prt t n l1).1.length c) ∧ Ir W' W.heap.size (.slice r (prt t n l1).1.length c) (prt t n l1).1 ∧ (∀ b, (Value.slice r (prt t n l1).1.length c).ownBlock = some b → ∀ v, QAt W' w0.heap.size B1 v (prt t n l1).2.1 → (∀ g', v.ownBlock = some g' → v1.ownBlock = some g' ∨ W.heap.size ≤ g') → b ∉ feet B1 v) ∧ QTo W W' w0.heap.size B1 v1 (prt t n l1).2.1 := by
  obtain ⟨vg, rfl, h1, v', h2, h3, h4⟩ := h
  obtain ⟨r, c, rfl, -⟩ := Lr.any h1
  refine ⟨r, c, rfl, h1, fun b hb v hv _ hm => ?_, v', h2, h3, fun g e => .inl (h4 g e)⟩
  have hbl := (Lr.lt h1 b hb).1
  have e1 : v = v' := by have := hv.c0.symm.trans h2.c0; injection this
  subst e1
  rcases mem_feet.1 hm with h | h
  · have := q1.lt; omega
  · have := (Lr.lt q1.row b (h4 b h)).2; omega
/-- Behind the others, if it may. -/
def putl (l : List It) (a : It) : List It := if may l a then l ++ [a] else l
theorem Okl.putl (h : Okl l1) (a : It) (hf : a.f < 4294967296) : Okl (putl l1 a) := by
  unfold Go.Proofs.Ytaikkoijoolhkaa.putl
  split
  · exact h.put ‹_› hf
  · exact h
theorem put1 (a : It) (hf : a.f < 4294967296) (h : Dh w0 B1 B2 l1 l2 P W) : Calls Try.prog 10 #[.pointer (some ⟨B1, 0, none⟩), a.val] W fun e w' => e = .returned (.bool (decide (may l1 a))) ∧ Dh w0 B1 B2 (putl l1 a) l2 P w' ∧ ∀ k, k ∈ P → w'.heap[k]? = W.heap[k]? := by
  refine h.move (R := fun e => e = .returned (.bool (decide (may l1 a)))) (h.ok1.putl a hf) fun v1 q1 => ?_
  unfold putl
  by_cases hm : may l1 a
  · rw [if_pos hm, decide_eq_true hm]
    exact put_yes _ B1 v1 l1 a W q1 hm h.bel.size
  · rw [if_neg hm, decide_eq_false hm]
    refine Calls.mono (put_no _ B1 v1 l1 a W q1 h.ok1.len hm) ?_
    rintro e w' ⟨h1, h2⟩
    exact ⟨h1, QTo.same q1 h2⟩
theorem put2 (a : It) (hf : a.f < 4294967296) (h : Dh w0 B1 B2 l1 l2 P W) : Calls Try.prog 11 #[.pointer (some ⟨B2, 0, none⟩), a.val] W fun e w' => e = .returned (.bool (decide (may l2 a))) ∧ Dh w0 B1 B2 l1 (putl l2 a) P w' ∧ ∀ k, k ∈ P → w'.heap[k]? = W.heap[k]? := by
  refine Calls.mono (h.swap.move (R := fun e => e = .returned (.bool (decide (may l2 a)))) (h.ok2.putl a hf) fun v1 q1 => ?_) (fun e w' ⟨h1, h2, h3⟩ => ⟨h1, h2.swap, h3⟩)
  unfold putl
  by_cases hm : may l2 a
  · rw [if_pos hm, decide_eq_true hm]
    exact rput_yes _ B2 v1 l2 a W q1 hm h.bel.size
  · rw [if_neg hm, decide_eq_false hm]
    refine Calls.mono (rput_no _ B2 v1 l2 a W q1 h.ok2.len hm) ?_
    rintro e w' ⟨h1, h2⟩
    exact ⟨h1, QTo.same q1 h2⟩
theorem small (h : Okl l1) : l1.length ≤ 100000 := by have := h.len; omega
theorem take1 (f : Nat) (most : Int) (hm : most < 9223372036854775808) (h : Dh w0 B1 B2 l1 l2 P W) : Calls Try.prog 13 #[.pointer (some ⟨B1, 0, none⟩), .int .u32 (f : Int), .int .i64 most] W fun e w' => ∃ r c, e = .returned (.slice r (prt (hold f) most l1).1.length c) ∧ LsAt iE w' r (prt (hold f) most l1).1 ∧ Dh w0 B1 B2 (prt (hold f) most l1).2.1 l2 (blk r ++ P) w' ∧ ∀ k, k ∈ P → w'.heap[k]? = W.heap[k]? :=
  h.gone (h.ok1.part _ _) fun v1 q1 => Calls.mono (take_any _ B1 f most v1 l1 W q1 (small h.ok1) (fun a ha => (h.ok1.bts a ha).1) hm) fun _e _w' hp => part_gone q1 hp
theorem take2 (f : Nat) (most : Int) (h : Dh w0 B1 B2 l1 l2 P W) : Calls Try.prog 14 #[.pointer (some ⟨B2, 0, none⟩), .int .u32 (f : Int), .int .i64 most] W fun e w' => ∃ r c, e = .returned (.slice r (prt (hold f) most l2).1.length c) ∧ LsAt iE w' r (prt (hold f) most l2).1 ∧ Dh w0 B1 B2 l1 (prt (hold f) most l2).2.1 P w' ∧ ∀ k, k ∈ P → w'.heap[k]? = W.heap[k]? :=
  Calls.mono (h.swap.went (h.ok2.part _ _) fun v1 q1 => rtake_any _ B2 f most v1 l2 W q1 (small h.ok2) h.bel.size h.ok2.bts) fun _e _w' ⟨r, c, h1, h2, h3, h4⟩ => ⟨r, c, h1, h2, h3.swap, h4⟩
theorem expire1 (c : Int) (h : Dh w0 B1 B2 l1 l2 P W) : Calls Try.prog 15 #[.pointer (some ⟨B1, 0, none⟩), .int .i64 c] W fun e w' => ∃ r cp, e = .returned (.slice r (prt (late c) 0 l1).1.length cp) ∧ LsAt iE w' r (prt (late c) 0 l1).1 ∧ Dh w0 B1 B2 (prt (late c) 0 l1).2.1 l2 (blk r ++ P) w' ∧ ∀ k, k ∈ P → w'.heap[k]? = W.heap[k]? :=
  h.gone (h.ok1.part _ _) fun v1 q1 => Calls.mono (expire_any _ B1 c v1 l1 W q1 (small h.ok1)) fun _e _w' hp => part_gone q1 hp
theorem expire2 (c : Int) (h : Dh w0 B1 B2 l1 l2 P W) : Calls Try.prog 16 #[.pointer (some ⟨B2, 0, none⟩), .int .i64 c] W fun e w' => ∃ r cp, e = .returned (.slice r (prt (late c) 0 l2).1.length cp) ∧ LsAt iE w' r (prt (late c) 0 l2).1 ∧ Dh w0 B1 B2 l1 (prt (late c) 0 l2).2.1 P w' ∧ ∀ k, k ∈ P → w'.heap[k]? = W.heap[k]? :=
  Calls.mono (h.swap.went (h.ok2.part _ _) fun v1 q1 => rexpire_any _ B2 c v1 l2 W q1 (small h.ok2) h.bel.size) fun _e _w' ⟨r, c, h1, h2, h3, h4⟩ => ⟨r, c, h1, h2, h3.swap, h4⟩
theorem drop1 (f : Nat) (h : Dh w0 B1 B2 l1 l2 P W) : Calls Try.prog 17 #[.pointer (some ⟨B1, 0, none⟩), .int .u32 (f : Int)] W fun e w' => e = .returned (.int .i64 ((prt (whose f) 0 l1).1.length : Int)) ∧ Dh w0 B1 B2 (prt (whose f) 0 l1).2.1 l2 P w' ∧ ∀ k, k ∈ P → w'.heap[k]? = W.heap[k]? :=
  h.move (R := fun e => e = .returned (.int .i64 ((prt (whose f) 0 l1).1.length : Int))) (h.ok1.part _ _) fun v1 q1 => Calls.mono (drop_any _ B1 f v1 l1 W q1 (small h.ok1)) fun _e _w' ⟨h1, v', h2, h3, h4⟩ => ⟨h1, v', h2, h3, fun g e => .inl (h4 g e)⟩
theorem drop2 (f : Nat) (h : Dh w0 B1 B2 l1 l2 P W) : Calls Try.prog 18 #[.pointer (some ⟨B2, 0, none⟩), .int .u32 (f : Int)] W fun e w' => e = .returned (.int .i64 ((prt (whose f) 0 l2).1.length : Int)) ∧ Dh w0 B1 B2 l1 (prt (whose f) 0 l2).2.1 P w' ∧ ∀ k, k ∈ P → w'.heap[k]? = W.heap[k]? :=
  Calls.mono (h.swap.move (R := fun e => e = .returned (.int .i64 ((prt (whose f) 0 l2).1.length : Int))) (h.ok2.part _ _) fun v1 q1 => rdrop_any _ B2 f v1 l2 W q1 (small h.ok2) h.bel.size) fun _e _w' ⟨h1, h2, h3⟩ => ⟨h1, h2.swap, h3⟩
theorem rank1 (f : Nat) (r : Int) (h : Dh w0 B1 B2 l1 l2 P W) : Calls Try.prog 19 #[.pointer (some ⟨B1, 0, none⟩), .int .u32 (f : Int), .int .i64 r] W fun e w' => e = .returned (.int .i64 (count f l1 : Int)) ∧ Dh w0 B1 B2 (l1.map (ranked f r)) l2 P w' ∧ ∀ k, k ∈ P → w'.heap[k]? = W.heap[k]? :=
  h.move (R := fun e => e = .returned (.int .i64 (count f l1 : Int))) (h.ok1.rank f r) fun v1 q1 => Calls.mono (prank_any _ B1 f r v1 l1 W q1 (small h.ok1)) fun _e _w' ⟨h1, h2, h3⟩ => ⟨h1, v1, h2, h3, fun _g e => .inl e⟩
theorem rank2 (f : Nat) (r : Int) (h : Dh w0 B1 B2 l1 l2 P W) : Calls Try.prog 20 #[.pointer (some ⟨B2, 0, none⟩), .int .u32 (f : Int), .int .i64 r] W fun e w' => e = .returned (.int .i64 (count f l2 : Int)) ∧ Dh w0 B1 B2 l1 (l2.map (ranked f r)) P w' ∧ ∀ k, k ∈ P → w'.heap[k]? = W.heap[k]? :=
  Calls.mono (h.swap.move (R := fun e => e = .returned (.int .i64 (count f l2 : Int))) (h.ok2.rank f r) fun v1 q1 => Calls.mono (rrank_any _ B2 f r v1 l2 W q1 (small h.ok2)) fun _e _w' ⟨h1, h2, h3⟩ => ⟨h1, v1, h2, h3, fun _g e => .inl e⟩) fun _e _w' ⟨h1, h2, h3⟩ => ⟨h1, h2.swap, h3⟩
theorem wants1 (h : Dh w0 B1 B2 l1 l2 P W) : Calls Try.prog 21 #[.pointer (some ⟨B1, 0, none⟩)] W (WantsIs l1 W) := by
  obtain ⟨v1, v2, q1, q2, -⟩ := h.ex
  exact wants_any _ B1 v1 l1 W q1 (small h.ok1) (fun a ha => by have := h.ok1.bts a ha; omega) h.ok1.frm
theorem wants2 (h : Dh w0 B1 B2 l1 l2 P W) : Calls Try.prog 22 #[.pointer (some ⟨B2, 0, none⟩)] W (WantsIs l2 W) := by
  obtain ⟨v1, v2, q1, q2, -⟩ := h.ex
  exact rwants_any _ B2 v2 l2 W q2 (small h.ok2) (fun a ha => by have := h.ok2.bts a ha; omega)
theorem len1 (h : Dh w0 B1 B2 l1 l2 P W) : Calls Try.prog 23 #[.pointer (some ⟨B1, 0, none⟩)] W fun e w' => e = .returned (.int .i64 (l1.length : Int)) ∧ w' = W := by
  obtain ⟨v1, v2, q1, q2, -⟩ := h.ex
  exact len_any _ B1 v1 l1 W q1
/-- What the document's holds, as a slice. -/
theorem Dh.two (h : Dh w0 B1 B2 l1 l2 P W) : ∃ r c, W.cell? ⟨B2, 0, none⟩ = some (.slice r l2.length c) := by
  obtain ⟨v1, v2, q1, q2, -⟩ := h.ex
  obtain ⟨r, c, rfl⟩ := q2.shape
  exact ⟨r, c, q2.c0⟩
end

set_option maxRecDepth 100000 in
set_option maxHeartbeats 1000000 in
theorem same_yes (r1 r2 : Option Addr) (c1 c2 : Nat) (l : List It) (w : World) (H1 : Hid (LsAt iE w r1 l)) (H2 : Hid (LsAt iE w r2 l)) (Hn : Hid (l.length ≤ 100000)) :
    Calls Try.prog 12 #[.slice r1 l.length c1, .slice r2 l.length c2] w fun e w' => e = .returned (.bool true) ∧ Same w w' := by
  go_enter Try.func12, Try.ntmps12
  go_wp2_with fail
  go_loopw [5] (fun i wr => ∃ k : Nat, k ≤ l.length ∧ i = .int .i64 (k : Int) ∧ Hid (Same w wr)) (fun i _ => l.length - (intOf i).toNat)
  case atStart => exact ⟨0, Nat.zero_le _, rfl, Same.refl _⟩
  case round =>
    obtain ⟨k, hk, rfl, hs⟩ := hrel
    by_cases h : k < l.length
    · have i1 : (k : Int) < (l.length : Int) := by omega
      have hkb : k ≤ 100000 := by have := Hn.out; omega
      obtain ⟨b1, o1, rfl⟩ := H1.out.addr (by omega)
      obtain ⟨b2, o2, rfl⟩ := H2.out.addr (by omega)
      obtain ⟨c0, c1, c2, c3, c4⟩ := ls_it (H1.out.below (hs.out.below w.heap.size) (Nat.le_refl _)) k h
      obtain ⟨d0, d1, d2, d3, d4⟩ := ls_it (H2.out.below (hs.out.below w.heap.size) (Nat.le_refl _)) k h
      generalize l[k] = A at *
      go_wp2_with fail
      go_quiet (fail)
      go_wp2_with fail
      go_roundw
      case rel => exact ⟨k + 1, by omega, by go_num, hs.out.trans ⟨_, rfl⟩⟩
      case measure => simp [intOf]; omega
    · obtain rfl : k = l.length := by omega
      have i1 : decide ((l.length : Int) < (l.length : Int)) = false := by simp
      go_wp2
      go_ret
      exact ⟨rfl, hs.out⟩
end Go.Proofs.Ytaikkoijoolhkaa
