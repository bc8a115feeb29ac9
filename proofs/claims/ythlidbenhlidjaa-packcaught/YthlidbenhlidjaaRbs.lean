/-
  The document's Basis in memory: its rows and data as they came; copies of them that grow by one; two lists of texts held against one another.
-/
import Derived.Test.YthlidbenhlidjaaCpy
import Derived.Test.YthlidbenhlidjaaLen
import Derived.Test.YthlidbenhlidjaaHld
namespace Go.Proofs.Ythlidbenhlidjaa
open Go.RowKit Go.Deep

/-- append of nil onto a row without elements. -/
theorem append_none (t e ty : TypeId) (i : TypeInfo) (ht : Try.prog.underlying t = some (.slice e)) (hi : Try.prog.info? e = some i) (a : Addr) (W : World) :
    (Builtin.append_ #[t, t] ty #[.slice (some a) 0 0, .slice none 0 0]).run Try.prog W = .ok (.slice (some a) 0 0) W := by
  simp [Builtin.append_, run_underlying ht, sizeOf, typeInfo, hi, Builtin.lenOf, Builtin.firstCells, loadCells, loadCellsFrom, storeCells]

/-- A row without elements or room is one of the call's own. -/
theorem empty_own (w : World) (base n : Nat) (x : Nat → Nat → Nat) (hb : base ≤ w.heap.size) : Own (w.alloc (.cells #[] 26)) base (.slice (some ⟨w.heap.size, 0, none⟩) 0 0) 0 n x := by
  refine ⟨[], World.ownsRow_made w #[] 0 hb (Nat.zero_le _) rfl, fun _ g e => ?_, fun i hi => absurd hi (Nat.not_lt_zero _)⟩
  have e : g = w.heap.size := by simp [Value.ownBlock] at e; exact e.symm
  subst e
  rw [World.cell?_alloc_at _ _ _ _ rfl]
  rfl

/-- append([][]byte{}, l...): the same rows, in a row of the call's own. -/
theorem rows_run {w0 W : World} {va : Value} {d n : Nat} {x : Nat → Nat → Nat} (ty : TypeId) (h : Own W 0 va d n x) (h0 : d = 0 → va = .slice none 0 0) (hn : 0 < n) (hd : d ≤ 1000) (hb : Below w0.heap.size w0 W) :
    ∃ v W', (Builtin.append_ #[77, 77] ty #[.slice (some ⟨W.heap.size, 0, none⟩) 0 0, va]).run Try.prog (W.alloc (.cells #[] 26)) = .ok v W' ∧ Own W' w0.heap.size v d n x ∧ Below W.heap.size W W' ∧ ∀ g, v.ownBlock = some g → W.heap.size ≤ g := by
  obtain ⟨i0, hi, hz0, hz1, hz2⟩ := info_parts Try.infoRow
  have hE := empty_own W w0.heap.size n x hb.size
  have b1 : Below W.heap.size W (W.alloc (.cells #[] 26)) := (Below.refl _ _).alloc (Nat.le_refl _) _
  by_cases hd0 : d = 0
  · subst hd0
    rw [h0 rfl]
    exact ⟨_, _, append_none _ _ ty i0 Try.underlying77 hi _ _, hE, b1, fun g e => by simp [Value.ownBlock] at e; omega⟩
  · have h1 := h.grew b1
    obtain ⟨xs, ho, -, hx⟩ := h1
    obtain ⟨es, eo, -, -⟩ := hE
    rcases ho.2 with ⟨-, e⟩ | ⟨g, cap, cur, rfl, -, hg, hle, hm, hs, ht⟩
    · exact absurd e hd0
    · have hl := ho.1
      rw [Nat.mul_one] at hl
      have hes : es = [] := List.eq_nil_of_length_eq_zero (by have := eo.1; omega)
      subst hes
      obtain ⟨v, W', hr, hown, hgr, -, hat⟩ := run_append_own_at (P := Try.prog) (W.alloc (.cells #[] 26)) w0.heap.size 77 ty 26 i0 (.slice none 0 0) 1 24 Try.underlying77 hi hz0 hz1 hz2 rfl (by decide) _ 0 [] eo ⟨g, 0, none⟩ d cap xs (by rw [hl, Nat.mul_one])
        (fun j u hj => ho.cells rfl j u hj) (fun u hu => by
          obtain ⟨j, hj, e⟩ := List.getElem_of_mem hu
          obtain ⟨b, c, h1, -⟩ := hx j (by omega)
          rw [List.getElem?_eq_getElem hj, e] at h1
          cases h1
          rfl) (by unfold maxLen; omega) (by omega) (by have := hb.size; simp; omega)
      rw [Nat.zero_add, List.nil_append] at hown
      have nb : ∀ b y, BytesAt (W.alloc (.cells #[] 26)) (some ⟨b, 0, none⟩) n y → b ≠ W.heap.size := by
        rintro b y hB rfl
        have h3 := bytes_cell hB 0 hn
        rw [Nat.add_zero, World.cell?_alloc_at _ _ _ _ rfl] at h3
        cases h3
      refine ⟨v, W', hr, ⟨xs, hown, fun e => absurd e hd0, fun i hi => ?_⟩, ?_, ?_⟩
      · obtain ⟨b, c, h1, h2⟩ := hx i hi
        exact ⟨b, c, h1, h2.grown hgr (by simp [Value.ownBlock]; exact fun e => nb b _ h2 e.symm)⟩
      · exact b1.grown hgr (by simp) (fun k e => by simp [Value.ownBlock] at e; omega)
      · intro g' e
        rcases hat with e2 | e2
        · rw [e2] at e; simp [Value.ownBlock] at e; omega
        · rw [e2] at e; simp at e; omega

/-- The block D holds the document's Basis: d rows and their data, as they came: V has both, one behind the other. They lie neither there nor in block R. -/
structure RefAt (w : World) (D R k size d : Nat) (V : Nat → Nat → Nat) : Prop where
  kc : w.cell? ⟨D, 0, none⟩ = some (.int .i64 (k : Int))
  sc : w.cell? ⟨D, 1, none⟩ = some (.int .i64 (size : Int))
  rows : ∃ va, w.cell? ⟨D, 2, none⟩ = some va ∧ Own w 0 va d k V ∧ (d = 0 → va = .slice none 0 0) ∧ va.ownBlock ≠ some D ∧ va.ownBlock ≠ some R
  data : ∃ vb, w.cell? ⟨D, 3, none⟩ = some vb ∧ Own w 0 vb d size (fun i t => V i (k + t)) ∧ (d = 0 → vb = .slice none 0 0) ∧ vb.ownBlock ≠ some D ∧ vb.ownBlock ≠ some R
  thaw : ∀ o, w.frozen? ⟨D, o, none⟩ = false

theorem Own.kept {w w' : World} {base : Nat} {v : Value} {j n R : Nat} {x : Nat → Nat → Nat} (h : Own w base v j n x) (hk : Kept R w w') (hv : v.ownBlock ≠ some R) (hb : ∀ b m y, 0 < m → BytesAt w (some ⟨b, 0, none⟩) m y → b ≠ R) (hn : 0 < n) : Own w' base v j n x := by
  obtain ⟨xs, ho, h0, hx⟩ := h
  have hg : ∀ g, v.ownBlock = some g → w'.heap[g]? = w.heap[g]? := fun g e => hk.block g (ho.lt g e).2 (fun e2 => hv (by rw [e, e2]))
  refine ⟨xs, ⟨ho.1, ?_⟩, fun hj g e => ?_, fun i hi => ?_⟩
  · rcases ho.2 with h1 | ⟨g, cap, cur, rfl, h2, h3, h4⟩
    · exact .inl h1
    · exact .inr ⟨g, cap, cur, rfl, h2, by rw [hg g rfl]; exact h3, h4⟩
  · rw [World.cell?_of_block (w := w) (hg g e)]
    exact h0 hj g e
  · obtain ⟨b, c, h1, h2⟩ := hx i hi
    refine ⟨b, c, h1, ⟨fun hn' => ?_, h2.lt⟩⟩
    obtain ⟨b', o, e, hc⟩ := h2.cells hn'
    cases e
    exact ⟨b, 0, rfl, fun i hi => hk.cell (hc i hi) (hb b n _ hn h2)⟩

theorem RefAt.grew {w w' : World} {D R k size d : Nat} {V : Nat → Nat → Nat} (h : RefAt w D R k size d V) (hb : Below w.heap.size w w') : RefAt w' D R k size d V := by
  have hl : D < w.heap.size := cell_lt h.kc
  obtain ⟨va, a1, a2, a3⟩ := h.rows
  obtain ⟨vb, b1, b2, b3⟩ := h.data
  exact ⟨(hb.cell (p := ⟨D, 0, none⟩) hl).trans h.kc, (hb.cell (p := ⟨D, 1, none⟩) hl).trans h.sc, ⟨va, (hb.cell (p := ⟨D, 2, none⟩) hl).trans a1, a2.grew hb, a3⟩, ⟨vb, (hb.cell (p := ⟨D, 3, none⟩) hl).trans b1, b2.grew hb, b3⟩, fun o => (hb.frozen (p := ⟨D, o, none⟩) hl).trans (h.thaw o)⟩
theorem Apart.bytes {w : World} {R : Nat} (ha : Apart w R) : ∀ b m y, 0 < m → BytesAt w (some ⟨b, 0, none⟩) m y → b ≠ R := by
  intro b m y hm hb
  have := bytes_cell hb 0 hm
  exact ha _ _ _ _ this
/-- It stays as it is while the program's Basis goes on. -/
theorem RefAt.kept {w w' : World} {D R k size d : Nat} {V : Nat → Nat → Nat} (h : RefAt w D R k size d V) (hk : Kept R w w') (ha : Apart w R) (k1 : 0 < k) (s1 : 0 < size) : RefAt w' D R k size d V := by
  have hD : D ≠ R := ha _ _ _ _ h.kc
  have hl : D < w.heap.size := cell_lt h.kc
  obtain ⟨va, a1, a2, a3, a4, a5⟩ := h.rows
  obtain ⟨vb, b1, b2, b3, b4, b5⟩ := h.data
  exact ⟨hk.cell h.kc hD, hk.cell h.sc hD, ⟨va, hk.cell a1 hD, a2.kept hk a5 ha.bytes k1, a3, a4, a5⟩, ⟨vb, hk.cell b1 hD, b2.kept hk b5 ha.bytes s1, b3, b4, b5⟩, fun o => (World.frozen?_of_block (a := ⟨D, o, none⟩) (hk.block D hl hD)).trans (h.thaw o)⟩

set_option maxRecDepth 100000 in
set_option maxHeartbeats 400000 in
theorem rnew_no (k size : Int) (w : World) (hno : ¬ (1 ≤ k ∧ k ≤ 32 ∧ 1 ≤ size ∧ size ≤ 64)) :
    Calls Try.prog 25 #[.int .i64 k, .int .i64 size] w fun e w' => e = .returned (.tuple #[.pointer none, .bool false]) ∧ w' = w := by
  by_cases c1 : k < 1
  · go_enter Try.func25, Try.ntmps25
    go_wp2
    go_ret2
    exact ⟨rfl, rfl⟩
  by_cases c2 : 32 < k
  · go_enter Try.func25, Try.ntmps25
    go_wp2
    go_ret2
    exact ⟨rfl, rfl⟩
  by_cases c3 : size < 1
  · go_enter Try.func25, Try.ntmps25
    go_wp2
    go_ret2
    exact ⟨rfl, rfl⟩
  have c4 : 64 < size := by omega
  go_enter Try.func25, Try.ntmps25
  go_wp2
  go_ret2
  exact ⟨rfl, rfl⟩

/-- A new Basis of the document's was answered. -/
def RNew (w : World) (R k size : Nat) (e : Ending) (w' : World) : Prop :=
  ∃ D, e = .returned (.tuple #[.pointer (some ⟨D, 0, none⟩), .bool true]) ∧ w.heap.size ≤ D ∧ RefAt w' D R k size 0 (fun _ _ => 0) ∧ Below w.heap.size w w'

theorem ref_new (w : World) (R k size : Nat) : RefAt (w.alloc (.cells #[.int .i64 (k : Int), .int .i64 (size : Int), .slice none 0 0, .slice none 0 0] 79)) w.heap.size R k size 0 (fun _ _ => 0) := by
  refine ⟨?_, ?_, ⟨.slice none 0 0, ?_, ⟨[], World.ownsRow_nil _ _ _ _, (fun _ _ e => nomatch e), fun i hi => absurd hi (Nat.not_lt_zero _)⟩, fun _ => rfl, nofun, nofun⟩, ⟨.slice none 0 0, ?_, ⟨[], World.ownsRow_nil _ _ _ _, (fun _ _ e => nomatch e), fun i hi => absurd hi (Nat.not_lt_zero _)⟩, fun _ => rfl, nofun, nofun⟩, fun o => ?_⟩
  · rw [World.cell?_alloc_at _ _ _ _ rfl]; rfl
  · rw [World.cell?_alloc_at _ _ _ _ rfl]; rfl
  · rw [World.cell?_alloc_at _ _ _ _ rfl]; rfl
  · rw [World.cell?_alloc_at _ _ _ _ rfl]; rfl
  · rw [frozen?_alloc_cells]; simp [World.frozen?]

set_option maxRecDepth 100000 in
set_option maxHeartbeats 400000 in
theorem rnew_yes (k size R : Nat) (w : World) (k1 : 1 ≤ k) (k2 : k ≤ 32) (s1 : 1 ≤ size) (s2 : size ≤ 64) :
    Calls Try.prog 25 #[.int .i64 (k : Int), .int .i64 (size : Int)] w fun e w' => RNew w R k size e w' := by
  have hbu : ∀ w, (Instr.build 79 #[(0, .int .i64 (k : Int)), (1, .int .i64 (size : Int))]).run Try.prog w = .ok (.agg #[.int .i64 (k : Int), .int .i64 (size : Int), .slice none 0 0, .slice none 0 0]) w := fun w => by kernel_rfl
  have i1 : (1 : Int) ≤ (k : Int) := by omega
  have i2 : (k : Int) ≤ 32 := by omega
  have i3 : (1 : Int) ≤ (size : Int) := by omega
  have i4 : (size : Int) ≤ 64 := by omega
  have RN : Hid (RefAt (w.alloc (.cells #[.int .i64 (k : Int), .int .i64 (size : Int), .slice none 0 0, .slice none 0 0] 79)) w.heap.size R k size 0 (fun _ _ => 0)) := ref_new w R k size
  have BB : Hid (Below w.heap.size w (w.alloc (.cells #[.int .i64 (k : Int), .int .i64 (size : Int), .slice none 0 0, .slice none 0 0] 79))) := (Below.refl _ _).alloc (Nat.le_refl _) _
  go_enter Try.func25, Try.ntmps25
  go_wp2
  go_ret2
  exact ⟨w.heap.size, rfl, Nat.le_refl _, RN.out, BB.out⟩

/-- Two lists of texts. -/
def Txts (w : World) (g m n : Nat) (x : Nat → Nat → Nat) : Prop := ∀ i, i < m → ∃ r c, w.cell? ⟨g, i, none⟩ = some (.slice r n c) ∧ BytesAt w r n (x i)
theorem Txts.same {w w' : World} {g m n : Nat} {x : Nat → Nat → Nat} (h : Txts w g m n x) (q : Same w w') : Txts w' g m n x := by
  intro i hi
  obtain ⟨r, c, h1, h2⟩ := h i hi
  exact ⟨r, c, (q.cell _).trans h1, q.bytes h2⟩
end Go.Proofs.Ythlidbenhlidjaa
