/-
  Two Tallies side by side.
-/
import Derived.Test.YtalfncnpffbmmaaTm0
namespace Go.Proofs.Ytalfncnpffbmmaa
open Go.RowKit Go.Deep

/-- Two Tallies that share no block; all else lies as in w0. -/
def Pair (w0 : World) (ga gb ka kb : Nat) (sa sb : Tl) (w : World) : Prop :=
  ∃ ea ca ia fa ma eb cb ib fb mb, TlAt w ga ea ca ia fa ma ka sa ∧ TlAt w gb eb cb ib fb mb kb sb ∧ (∀ R, Blk ga ea ca ia fa R → ¬ Blk gb eb cb ib fb R) ∧ (∀ R, Blk ga ea ca ia fa R → w0.heap.size ≤ R) ∧ (∀ R, Blk gb eb cb ib fb R → w0.heap.size ≤ R) ∧ Below w0.heap.size w0 w
theorem Pair.swap {w0 w : World} {ga gb ka kb : Nat} {sa sb : Tl} (h : Pair w0 ga gb ka kb sa sb w) : Pair w0 gb ga kb ka sb sa w := by
  obtain ⟨ea, ca, ia, fa, ma, eb, cb, ib, fb, mb, h1, h2, h3, h4, h5, h6⟩ := h
  exact ⟨eb, cb, ib, fb, mb, ea, ca, ia, fa, ma, h2, h1, fun R hb ha => h3 R ha hb, h5, h4, h6⟩
theorem Pair.below {w0 w : World} {ga gb ka kb : Nat} {sa sb : Tl} (h : Pair w0 ga gb ka kb sa sb w) : Below w0.heap.size w0 w := by
  obtain ⟨ea, ca, ia, fa, ma, eb, cb, ib, fb, mb, h1, h2, h3, h4, h5, h6⟩ := h
  exact h6
theorem Pair.grew {w0 w w' : World} {ga gb ka kb : Nat} {sa sb : Tl} (h : Pair w0 ga gb ka kb sa sb w) (hb : Below w.heap.size w w') : Pair w0 ga gb ka kb sa sb w' := by
  obtain ⟨ea, ca, ia, fa, ma, eb, cb, ib, fb, mb, h1, h2, h3, h4, h5, h6⟩ := h
  exact ⟨ea, ca, ia, fa, ma, eb, cb, ib, fb, mb, h1.block (KeptF.of_below hb), h2.block (KeptF.of_below hb), h3, h4, h5, h6.trans (hb.mono h6.size)⟩
theorem TlAt.lt {w : World} {g ex cm im fb m k R : Nat} {s : Tl} (h : TlAt w g ex cm im fb m k s) (hR : Blk g ex cm im fb R) : R < w.heap.size := by
  rcases hR with e | e | e | e | e
  · rw [e]; exact h.G.lt
  · rw [e]; exact h.ext.lt
  · rw [e]; exact h.hal.lt
  · rw [e]; exact h.set.lt
  · rw [e]; exact h.row.lt
/-- The first of the two was handed a number that did not come yet. -/
theorem pair_got {w0 w : World} {ga gb ka kb n x : Nat} {sa sb : Tl} (h : Pair w0 ga gb ka kb sa sb w) (hx : x = 65536 + n) (hn : n < 32768) (ht1 : 65536 ≤ sa.top) (ht2 : sa.top < 98304) (hs : sa.since < x) (hS : sa.S x = false) (hk : ka ≤ 1000) (hg : sa.got ≤ 1000) (hd : sa.d.size ≤ 1000) :
    Calls Try.prog 6 #[.pointer (some ⟨ga, 0, none⟩), .int .u16 (n : Int)] w fun e w' => e = .returned (.tuple #[.int .u64 (x : Int), .bool true]) ∧ Pair w0 ga gb (ka + 1) kb (sa.one x) sb w' := by
  subst hx
  obtain ⟨ea, ca, ia, fa, ma, eb, cb, ib, fb, mb, h1, h2, h3, h4, h5, h6⟩ := h
  refine (tgot_new ga ea ca ia fa ma ka n sa w hn ht1 ht2 hs hS hk hg hd h1).mono ?_
  rintro e w' ⟨rfl, fa', ma', z, T, K⟩
  have hz : ∀ R, Blk ga ea ca ia fa' R → Blk ga ea ca ia fa R ∨ w.heap.size ≤ R := fun R hR => by
    rcases hR with e | e | e | e | e
    · exact Or.inl (Or.inl e)
    · exact Or.inl (Or.inr (Or.inl e))
    · exact Or.inl (Or.inr (Or.inr (Or.inl e)))
    · exact Or.inl (Or.inr (Or.inr (Or.inr (Or.inl e))))
    · rcases z with z | z
      · exact Or.inl (Or.inr (Or.inr (Or.inr (Or.inr (e.trans z)))))
      · exact Or.inr (by omega)
  refine ⟨rfl, ea, ca, ia, fa', ma', eb, cb, ib, fb, mb, T, h2.other K (fun R hR hF => h3 R hF hR), fun R ha hb => ?_, fun R ha => ?_, h5, K.below h6 h4 (Nat.le_refl _)⟩
  · rcases hz R ha with e | e
    · exact h3 R e hb
    · have := h2.lt hb
      omega
  · rcases hz R ha with e | e
    · exact h4 R e
    · have := h6.size
      omega
/-- The first of the two reports. -/
theorem pair_report {w0 w : World} {ga gb ka kb L : Nat} {sa sb : Tl} (y : Nat → Nat) (h : Pair w0 ga gb ka kb sa sb w) (hL : sa.d.size = L) (hL2 : L < 50) (hR : ∀ R, SortTo 0 L sa.d R → ∀ i, i < L → R[i]! = (y i : Int)) (hs : ∀ i, i < L → stl y sa.settled i < y i) (hy : ∀ i, i < L → y i ≤ 1000000000000)
    (hb : sa.burst ≤ 1000000000000) (ht : 65536 ≤ sa.top) (ht2 : sa.top ≤ 1000000000) (hg : sa.got ≤ 1000000) (hl : sa.since + sa.got ≤ sa.top) :
    Calls Try.prog 7 #[.pointer (some ⟨ga, 0, none⟩)] w fun e w' => e = .returned (rpV sa.top (sa.top - sa.since - sa.got) sa.got (min (bst y sa.settled sa.burst L) 65535)) ∧ Pair w0 ga gb ka kb sa.told sb w' := by
  obtain ⟨ea, ca, ia, fa, ma, eb, cb, ib, fb, mb, h1, h2, h3, h4, h5, h6⟩ := h
  refine (treport_any ga ea ca ia fa ma ka L sa y w hL hL2 hR hs hy hb ht ht2 hg hl h1).mono ?_
  rintro e w' ⟨rfl, T, K⟩
  exact ⟨rfl, ea, ca, ia, fa, ma, eb, cb, ib, fb, mb, T, h2.other K (fun R hR hF => h3 R hF hR), h3, h4, h5, K.below h6 h4 (Nat.le_refl _)⟩
theorem pair_late {w0 w : World} {ga gb ka kb : Nat} {sa sb : Tl} (h : Pair w0 ga gb ka kb sa sb w) :
    Calls Try.prog 8 #[.pointer (some ⟨ga, 0, none⟩)] w fun e w' => e = .returned (.int .u64 (sa.late : Int)) ∧ w' = w := by
  obtain ⟨ea, ca, ia, fa, ma, eb, cb, ib, fb, mb, h1, h2, h3, h4, h5, h6⟩ := h
  exact tlate_any ga ea ca ia fa ma ka sa w h1
theorem TlNew.block {w w' : World} {g ex cm : Nat} (h : TlNew w g ex cm) (h1 : w'.heap[g]? = w.heap[g]?) (h2 : w'.heap[ex]? = w.heap[ex]?) (h3 : w'.heap[cm]? = w.heap[cm]?) : TlNew w' g ex cm :=
  ⟨h.G.block h1, h.ext.block h2, h.hal.block h3, h.ge, h.gc, h.ec⟩
/-- Two new ones that were handed 100. -/
def Pair0 (w0 : World) (ga gb : Nat) (w : World) : Prop := ∃ ea ca eb cb, TlNew w ga ea ca ∧ TlNew w gb eb cb ∧ (∀ R, (R = ga ∨ R = ea ∨ R = ca) → w0.heap.size ≤ R ∧ R < gb ∧ R < eb ∧ R < cb) ∧ Below w0.heap.size w0 w
def Pair1 (w0 : World) (ga gb : Nat) (w : World) : Prop := ∃ ea ca ia fa ma eb cb, TlAt w ga ea ca ia fa ma 1 tl0 ∧ TlNew w gb eb cb ∧ (∀ R, (R = gb ∨ R = eb ∨ R = cb) → w0.heap.size ≤ R ∧ ¬ Blk ga ea ca ia fa R) ∧ (∀ R, Blk ga ea ca ia fa R → w0.heap.size ≤ R) ∧ Below w0.heap.size w0 w
theorem pair_first {w0 w : World} {ga gb : Nat} (h : Pair0 w0 ga gb w) :
    Calls Try.prog 6 #[.pointer (some ⟨ga, 0, none⟩), .int .u16 100] w fun e w' => e = .returned (.tuple #[.int .u64 65636, .bool true]) ∧ Pair1 w0 ga gb w' := by
  obtain ⟨ea, ca, eb, cb, h1, h2, h3, h4⟩ := h
  refine (tgot_first ga ea ca 100 w (by decide) h1).mono ?_
  rintro e w' ⟨rfl, ia, fa, ma, z1, z2, T, K⟩
  have lb : gb < w.heap.size ∧ eb < w.heap.size ∧ cb < w.heap.size := ⟨h2.G.lt, h2.ext.lt, h2.hal.lt⟩
  have a1 := h3 ga (Or.inl rfl)
  have a2 := h3 ea (Or.inr (Or.inl rfl))
  have a3 := h3 ca (Or.inr (Or.inr rfl))
  refine ⟨rfl, ea, ca, ia, fa, ma, eb, cb, T, h2.block (K.block gb lb.1 (fun h => by rcases h with h | h | h <;> omega)) (K.block eb lb.2.1 (fun h => by rcases h with h | h | h <;> omega)) (K.block cb lb.2.2 (fun h => by rcases h with h | h | h <;> omega)), fun R hR => ⟨by rcases hR with h | h | h <;> omega, fun hB => ?_⟩, fun R hR => ?_, K.below h4 (fun R hR => (h3 R hR).1) (Nat.le_refl _)⟩
  · rcases hB with e | e | e | e | e <;> rcases hR with h | h | h <;> omega
  · have := h4.size
    rcases hR with e | e | e | e | e <;> omega
theorem pair_second {w0 w : World} {ga gb : Nat} (h : Pair1 w0 ga gb w) :
    Calls Try.prog 6 #[.pointer (some ⟨gb, 0, none⟩), .int .u16 100] w fun e w' => e = .returned (.tuple #[.int .u64 65636, .bool true]) ∧ Pair w0 ga gb 1 1 tl0 tl0 w' := by
  obtain ⟨ea, ca, ia, fa, ma, eb, cb, h1, h2, h3, h4, h5⟩ := h
  refine (tgot_first gb eb cb 100 w (by decide) h2).mono ?_
  rintro e w' ⟨rfl, ib, fb, mb, z1, z2, T, K⟩
  refine ⟨rfl, ea, ca, ia, fa, ma, eb, cb, ib, fb, mb, h1.other K (fun R hR hF => (h3 R hF).2 hR), T, fun R hA hB => ?_, h4, fun R hB => ?_, K.below h5 (fun R hR => (h3 R hR).1) (Nat.le_refl _)⟩
  · have l := h1.lt hA
    rcases hB with e | e | e | e | e
    · exact (h3 R (Or.inl e)).2 hA
    · exact (h3 R (Or.inr (Or.inl e))).2 hA
    · exact (h3 R (Or.inr (Or.inr e))).2 hA
    · omega
    · omega
  · have := h5.size
    rcases hB with e | e | e | e | e
    · exact (h3 R (Or.inl e)).1
    · exact (h3 R (Or.inr (Or.inl e))).1
    · exact (h3 R (Or.inr (Or.inr e))).1
    · omega
    · omega
theorem max_two (ts : Array TypeId) (t : TypeId) (x y z : Nat) (w : World) (h : max x y = z) : (Builtin.max_ ts t #[.int .i64 (x : Int), .int .i64 (y : Int)]).run Try.prog w = .ok (.int .i64 (z : Int)) w := by
  subst h
  simp [Builtin.max_, Builtin.max2]
  split <;> omega
end Go.Proofs.Ytalfncnpffbmmaa
