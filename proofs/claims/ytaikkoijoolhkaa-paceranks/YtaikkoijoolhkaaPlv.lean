/-
  A Queue that the call made, and all that is done to it; the document's beside it.
-/
import Derived.Test.YtaikkoijoolhkaaPd2
import Derived.Test.YtaikkoijoolhkaaPc5
import Derived.Test.YtaikkoijoolhkaaPc6
namespace Go.Proofs.Ytaikkoijoolhkaa
open Go.RowKit Go.Deep

/-- Items that may wait. -/
structure Okl (l : List It) : Prop where
  len : l.length ≤ 2000
  bts : ∀ a, a ∈ l → 1 ≤ a.b ∧ a.b ≤ 65536
  frm : ∀ a, a ∈ l → a.f < 4294967296
theorem Okl.nil : Okl [] := ⟨by simp, by simp, by simp⟩
theorem Okl.put {l : List It} {a : It} (h : Okl l) (hm : may l a) (hf : a.f < 4294967296) : Okl (l ++ [a]) := by
  obtain ⟨h1, h2, h3⟩ := hm
  refine ⟨by simp; omega, fun x hx => ?_, fun x hx => ?_⟩
  · rcases List.mem_append.1 hx with hx | hx
    · exact h.bts x hx
    · simp at hx; subst hx; exact ⟨h1, h2⟩
  · rcases List.mem_append.1 hx with hx | hx
    · exact h.frm x hx
    · simp at hx; subst hx; exact hf
theorem prt_mem (t : Int → It → Bool × Int) (n : Int) (l : List It) : ∀ a, a ∈ (prt t n l).2.1 → a ∈ l := by
  have key : ∀ (l : List It) (x : List It × List It × Int) a, a ∈ (l.foldl (pst t) x).2.1 → a ∈ x.2.1 ∨ a ∈ l := by
    intro l
    induction l with
    | nil => intro x a h; exact .inl h
    | cons b l ih =>
      intro x a h
      rw [List.foldl_cons] at h
      rcases ih _ a h with h | h
      · unfold pst at h
        split at h
        · exact .inl h
        · rcases List.mem_append.1 h with h | h
          · exact .inl h
          · simp at h; subst h; exact .inr (by simp)
      · exact .inr (by simp [h])
  intro a h
  rcases key l ([], [], n) a h with h | h
  · simp at h
  · exact h
theorem Okl.part {l : List It} (h : Okl l) (t : Int → It → Bool × Int) (n : Int) : Okl (prt t n l).2.1 :=
  ⟨by have := prt_len t n l; have := h.len; omega, fun a ha => h.bts a (prt_mem t n l a ha), fun a ha => h.frm a (prt_mem t n l a ha)⟩
theorem Okl.rank {l : List It} (h : Okl l) (f : Nat) (r : Int) : Okl (l.map (ranked f r)) := by
  refine ⟨by rw [List.length_map]; exact h.len, fun a ha => ?_, fun a ha => ?_⟩
  · obtain ⟨x, hx, rfl⟩ := List.mem_map.1 ha
    have := h.bts x hx
    unfold ranked
    split
    · exact this
    · exact this
  · obtain ⟨x, hx, rfl⟩ := List.mem_map.1 ha
    have := h.frm x hx
    unfold ranked
    split
    · exact this
    · exact this
/-- A Queue B of the call's own: what waits in it. -/
structure Lv (w0 : World) (B : Nat) (l : List It) (W : World) : Prop where
  q : ∃ v, QAt W w0.heap.size B v l
  bel : Below w0.heap.size w0 W
  ok : Okl l
section
variable {w0 W W' : World} {B : Nat} {l l' : List It}
theorem Lv.grew (h : Lv w0 B l W) (b : Below W.heap.size W W') : Lv w0 B l W' := by
  obtain ⟨v, hq⟩ := h.q
  exact ⟨⟨v, hq.grew b⟩, h.bel.trans (b.mono h.bel.size), h.ok⟩
theorem feet_below {base B : Nat} {v : Value} {l : List It} {w0 W W' : World} (hq : QAt W base B v l) (h0 : w0.heap.size ≤ base) (b : Below w0.heap.size w0 W) (hb : But (feet B v) W W') : Below w0.heap.size w0 W' :=
  b.trans (hb.below (fun k hk => by have := (hq.feet hk).1; omega) b.size)
theorem Lv.made (w : World) (T : TypeId) : Lv w w.heap.size [] (w.alloc (.cells #[.slice none 0 0] T)) := ⟨⟨_, QAt.made w _ T (Nat.le_refl _)⟩, (Below.refl _ _).alloc (Nat.le_refl _) _, Okl.nil⟩
theorem put_lv (a : It) (h : Lv w0 B l W) (hm : may l a) (hf : a.f < 4294967296) : Calls Try.prog 10 #[.pointer (some ⟨B, 0, none⟩), a.val] W fun e w' => e = .returned (.bool true) ∧ Lv w0 B (l ++ [a]) w' := by
  obtain ⟨v, hq⟩ := h.q
  refine Calls.mono (put_yes _ B v l a W hq hm h.bel.size) ?_
  rintro e w' ⟨rfl, v', h1, h2, -⟩
  exact ⟨rfl, ⟨_, h1⟩, feet_below hq (Nat.le_refl _) h.bel h2, h.ok.put hm hf⟩
theorem put_lv_no (a : It) (h : Lv w0 B l W) (hm : ¬ may l a) : Calls Try.prog 10 #[.pointer (some ⟨B, 0, none⟩), a.val] W fun e w' => e = .returned (.bool false) ∧ Lv w0 B l w' := by
  obtain ⟨v, hq⟩ := h.q
  refine Calls.mono (put_no _ B v l a W hq h.ok.len hm) ?_
  rintro e w' ⟨rfl, b⟩
  exact ⟨rfl, h.grew b⟩
theorem len_lv (h : Lv w0 B l W) : Calls Try.prog 23 #[.pointer (some ⟨B, 0, none⟩)] W fun e w' => e = .returned (.int .i64 (l.length : Int)) ∧ w' = W := by
  obtain ⟨v, hq⟩ := h.q
  exact len_any _ B v l W hq
theorem wants_lv (h : Lv w0 B l W) : Calls Try.prog 21 #[.pointer (some ⟨B, 0, none⟩)] W fun e w' => (∃ r c s, e = .returned (.slice r (wfold l).length c) ∧ Told (wfold l) s ∧ LsAt wE w' r s) ∧ Lv w0 B l w' := by
  obtain ⟨v, hq⟩ := h.q
  refine Calls.mono (wants_any _ B v l W hq (show l.length ≤ 100000 by have := h.ok.len; omega) (fun a ha => by have := h.ok.bts a ha; omega) h.ok.frm) ?_
  rintro e w' ⟨r, c, s, rfl, h1, h2, b, -⟩
  exact ⟨⟨r, c, s, rfl, h1, h2⟩, h.grew b⟩
theorem part_lv {t : Int → It → Bool × Int} {n : Int} {v : Value} {e : Ending} (h : Lv w0 B l W) (hq : QAt W w0.heap.size B v l) (hp : PartIs [] t n W w0.heap.size B v l e W') : (∃ r c, e = .returned (.slice r (prt t n l).1.length c) ∧ LsAt iE W' r (prt t n l).1) ∧ Lv w0 B (prt t n l).2.1 W' := by
  obtain ⟨vg, rfl, h1, v', h2, h3, -⟩ := hp
  obtain ⟨r, c, rfl, h4, -⟩ := Lr.any h1
  exact ⟨⟨r, c, rfl, h4⟩, ⟨_, h2⟩, feet_below hq (Nat.le_refl _) h.bel h3, h.ok.part t n⟩
theorem take_lv (f : Nat) (most : Int) (h : Lv w0 B l W) (hm : most < 9223372036854775808) : Calls Try.prog 13 #[.pointer (some ⟨B, 0, none⟩), .int .u32 (f : Int), .int .i64 most] W fun e w' => (∃ r c, e = .returned (.slice r (prt (hold f) most l).1.length c) ∧ LsAt iE w' r (prt (hold f) most l).1) ∧ Lv w0 B (prt (hold f) most l).2.1 w' := by
  obtain ⟨v, hq⟩ := h.q
  refine Calls.mono (take_any _ B f most v l W hq (show l.length ≤ 100000 by have := h.ok.len; omega) (fun a ha => (h.ok.bts a ha).1) hm) ?_
  exact fun e w' hp => part_lv h hq hp
theorem expire_lv (c : Int) (h : Lv w0 B l W) : Calls Try.prog 15 #[.pointer (some ⟨B, 0, none⟩), .int .i64 c] W fun e w' => (∃ r cp, e = .returned (.slice r (prt (late c) 0 l).1.length cp) ∧ LsAt iE w' r (prt (late c) 0 l).1) ∧ Lv w0 B (prt (late c) 0 l).2.1 w' := by
  obtain ⟨v, hq⟩ := h.q
  refine Calls.mono (expire_any _ B c v l W hq (show l.length ≤ 100000 by have := h.ok.len; omega)) ?_
  exact fun e w' hp => part_lv h hq hp
theorem drop_lv (f : Nat) (h : Lv w0 B l W) : Calls Try.prog 17 #[.pointer (some ⟨B, 0, none⟩), .int .u32 (f : Int)] W fun e w' => e = .returned (.int .i64 ((prt (whose f) 0 l).1.length : Int)) ∧ Lv w0 B (prt (whose f) 0 l).2.1 w' := by
  obtain ⟨v, hq⟩ := h.q
  refine Calls.mono (drop_any _ B f v l W hq (show l.length ≤ 100000 by have := h.ok.len; omega)) ?_
  rintro e w' ⟨rfl, v', h1, h2, -⟩
  exact ⟨rfl, ⟨_, h1⟩, feet_below hq (Nat.le_refl _) h.bel h2, h.ok.part _ _⟩
theorem rank_lv (f : Nat) (r : Int) (h : Lv w0 B l W) : Calls Try.prog 19 #[.pointer (some ⟨B, 0, none⟩), .int .u32 (f : Int), .int .i64 r] W fun e w' => e = .returned (.int .i64 (count f l : Int)) ∧ Lv w0 B (l.map (ranked f r)) w' := by
  obtain ⟨v, hq⟩ := h.q
  refine Calls.mono (prank_any _ B f r v l W hq (show l.length ≤ 100000 by have := h.ok.len; omega)) ?_
  rintro e w' ⟨rfl, h1, h2⟩
  exact ⟨rfl, ⟨_, h1⟩, feet_below hq (Nat.le_refl _) h.bel h2, h.ok.rank f r⟩
end
/-- One want alone. -/
theorem Told.single {c : Wn} {s : List Wn} (h : Told [c] s) : s = [c] := List.perm_singleton.1 h.perm
end Go.Proofs.Ytaikkoijoolhkaa
