/-
  That package pack has begun: the statements' own look at it answers true.
-/
import Derived.Test.YthlidbenhlidjaaJ6
import Derived.OrdersHeld
import Derived.Deep.RegionHeld
namespace Go.Proofs.Ythlidbenhlidjaa
open Go.RowKit Go.Deep

/-- Bytes that are written out are marked, wherever they lie. -/
theorem conv_row (w : World) (C : Array Value) (n c g : Nat) (h : w.heap[g]? = some (.cells C 5)) :
    ∃ w', (convert 26 26 (.slice (some ⟨g, 0, none⟩) n c)).run Try.prog w = .ok (.slice (some ⟨g, 0, none⟩) n c) w' ∧ Kept g w w' ∧ w'.heap[g]? = some (.cells C 5 (C.size, C.size + 1)) := by
  have hsh : w.shape? g = some (5, C.size) := by
    unfold World.shape?
    rw [h]
  refine ⟨w.freeze ⟨g, C.size, none⟩ 1, ?_, ⟨rfl, rfl, rfl, ?_, fun k _ hk => ?_⟩, ?_⟩
  · simp [convert, run_underlying Try.underlying26, run_underlying Try.underlying5, markStringish, hsh]
  · unfold World.freeze; simp
  · unfold World.freeze
    rw [if_neg (by decide)]
    simp only [Array.getElem?_modify]
    rw [if_neg (fun e => hk e.symm)]
  · unfold World.freeze
    rw [if_neg (by decide)]
    simp only [Array.getElem?_modify, h]
    simp
theorem heap_alloc (w : World) (o : Obj) : (w.alloc o).heap[w.heap.size]? = some o := by
  show (w.heap.push o)[w.heap.size]? = _
  simp
/-- A conversion whose run is known, as one step of a region that draws. -/
theorem step_conv_run {P : Program} {ops : Array Oper} {o : Oper} {a : Act} {w : World} {K : Act → World → Prop} {Q : Exit → Act → World → Prop} {E : Prop}
    (hg : o.guard = none) (s : Operand) (t : TypeId) (hop : o.op = Op.convert t t s) (vs : Value) (hs : a.eval s = vs) (v' : Value) (w' : World) (hr : (convert t t vs).run P w = .ok v' w') (hK : K (a.put o.dst v') w') :
    if Region.wanted o (yielded ops a.tmps) = true then Oper.wp P o a w K Q else E := by
  have hw : Region.wanted o (yielded ops a.tmps) = true := by simp [Region.wanted, hg]
  rw [if_pos hw]
  unfold Oper.wp
  simp [execOp, hop, hs, hr, Result.andThen]
  exact hK
theorem bytes_of {w : World} {g : Nat} {f : Nat × Nat} (l : List Nat) (hl : ∀ i, i < l.length → listAt l i < 256) (h : w.heap[g]? = some (.cells (l.map fun (n : Nat) => Value.int .u8 (n : Int)).toArray 5 f)) : BytesAt w (some ⟨g, 0, none⟩) l.length (listAt l) := by
  refine ⟨fun _ => ⟨g, 0, rfl, fun i hi => ?_⟩, hl⟩
  rw [Nat.zero_add]
  simp [World.cell?, h, listAt, List.getD, hi]
theorem IntsAt.kept {w w' : World} {b o m R : Nat} {z : Nat → Int} (h : IntsAt w (some ⟨b, o, none⟩) m z) (hk : Kept R w w') (hR : b ≠ R) : IntsAt w' (some ⟨b, o, none⟩) m z := fun h0 => by
  obtain ⟨b', o', e, hc⟩ := h h0
  cases e
  exact ⟨b, o, rfl, fun i hi => hk.cell (hc i hi) hR⟩
theorem IntsAt.grew {w w' : World} {a : Option Addr} {m : Nat} {z : Nat → Int} (h : IntsAt w a m z) (hb : Below w.heap.size w w') : IntsAt w' a m z := h.below hb (Nat.le_refl _)
theorem IntsAt.nil (w : World) (z : Nat → Int) : IntsAt w none 0 z := fun h => absurd h (by omega)
def lit2 (x y : Int) (i : Nat) : Int := if i = 0 then x else y
theorem ints_two (w : World) (x y : Int) : IntsAt (w.alloc (.cells #[.int .i64 x, .int .i64 y] 3)) (some ⟨w.heap.size, 0, none⟩) 2 (lit2 x y) := fun _ => ⟨w.heap.size, 0, rfl, fun i hi => by
  rw [World.cell?_alloc_at _ _ _ _ rfl, Nat.zero_add]
  have : i = 0 ∨ i = 1 := by omega
  rcases this with rfl | rfl <;> rfl⟩
theorem Dor.lit {w : World} {base : Nat} {v : Value} {m : Nat} {K : Nat → Dt} (h : Dor w base v m K) (h0 : 0 < m) :
    ∃ g cap, v = .slice (some ⟨g, 0, none⟩) m cap ∧ base ≤ g ∧ ∀ i j n, i < m → j < 5 → n = i * 5 + j → w.cell? ⟨g, n, none⟩ = some ((K i).cell j) := by
  have hl : ∀ g, v.ownBlock = some g → base ≤ g ∧ g < w.heap.size := fun g e => World.ownsRow.lt h g e
  rcases h.2 with ⟨rfl, rfl⟩ | ⟨g, cap, cur, rfl, hb, hh, hle, hm, hs, ht⟩
  · omega
  · refine ⟨g, cap, rfl, (hl g rfl).1, fun i j n hi hj hn => ?_⟩
    subst hn
    have e : cur.toList[i * 5 + j]? = some ((K i).cell j) := by
      have : (cur.toList.take (m * 5))[i * 5 + j]? = cur.toList[i * 5 + j]? := by rw [List.getElem?_take_of_lt (by omega)]
      rw [← this, ht]
      simp [dcells, show i * 5 + j < m * 5 by omega, show (i * 5 + j) / 5 = i by omega, show (i * 5 + j) % 5 = j by omega]
    simp [World.cell?, hh]
    simpa using e
theorem FrAt.kept {w w' : World} {B R : Nat} {f : Fr} (h : FrAt w B f) (hk : Kept R w w') (hR : B ≠ R) : FrAt w' B f := h.block (hk.block B h.lt hR)
/-- Packets, by numbers that are written out. -/
theorem packets_is (fv : Option Addr) (b : Bool) (F : Fr) (v : Value) (a : Option Addr) (n c : Nat) (s : Int) (ia : Option Addr) (m ic q t : Nat) (qv tv : Int) (z : Nat → Int) (x : Nat → Nat) (w : World) (hv : v = F.val) (hqv : qv = (q : Int)) (htv : tv = (t : Int)) (hF : FldIs w fv b) (hx : BytesAt w a n x) (hz : IntsAt w ia m z) (hm : m ≤ 1000) (hc : n ≤ c) (hf : F.id < 4294967296) (hq : q < 65536) :
    Calls Try.prog 8 #[.pointer fv, v, .slice a n c, .int .i64 s, .slice ia m ic, .int .u16 qv, .int .u16 tv] w (PacksIs w b m q t F.id n F.s s x z) := by
  subst hv hqv htv
  exact packets_any fv b F a n c s ia m ic q t z x w hF hx hz hm hc hf hq
theorem PacksIs.yes {w w' : World} {b : Bool} {m q t f n : Nat} {size s : Int} {x : Nat → Nat} {z : Nat → Int} {e : Ending} (h : PacksIs w b m q t f n size s x z e w') (h1 : size = (n : Int)) (h2 : Fit b n s z m) : PksYes w.heap.size w.heap.size w m q t f n s x z e w' :=
  h.elim (fun h => h.2) (fun h => absurd ⟨h1, h2⟩ h.1)
theorem PacksIs.no {w w' : World} {b : Bool} {m q t f n : Nat} {size s : Int} {x : Nat → Nat} {z : Nat → Int} {e : Ending} (h : PacksIs w b m q t f n size s x z e w') (h1 : ¬ (size = (n : Int) ∧ Fit b n s z m)) : PksNo w.heap.size w e w' :=
  h.elim (fun h => absurd h.1 h1) (fun h => h.2)
instance (n : Nat) (s id : Int) : Decidable (fitS n s id) := by unfold fitS; infer_instance
theorem fit_list {b : Bool} {n : Nat} {s : Int} {z : Nat → Int} {m : Nat} (h : (List.range m).all (fun i => decide (b = true ∧ fitS n s (z i))) = true) : Fit b n s z m := fun i hi => by
  have := List.all_eq_true.1 h i (List.mem_range.2 hi)
  exact of_decide_eq_true this

def frB : Fr := ⟨4, 1, none, 0, 0, 3, 0, 0⟩
/-- The string of a body. -/
theorem Dts.str {w : World} {base m : Nat} {v : Value} {K : Nat → Dt} {Y : Nat → Nat → Nat} (h : Dts w base v m K Y) (i n : Nat) (hi : i < m) (hn : (K i).n = n) (S : ByteArray) (hS : strOf n (Y i) = S) :
    ∃ a c, (K i).cell 4 = .slice a n c ∧ (convert 26 9 (.slice a n c)).run Try.prog w = .ok (.string S) w := by
  refine ⟨(K i).a, (K i).c, ?_, ?_⟩
  · rw [← hn]; rfl
  · have := conv_bytes (K i).a (K i).n (K i).c _ w (h.body i hi).bs
    rw [hn] at this
    rw [← hS]
    exact this

set_option maxRecDepth 100000 in
set_option maxHeartbeats 2000000 in
theorem begun15 (w : World) : Calls Try.prog 6 #[] w fun e w' => e = .returned (.bool true) ∧ Below w.heap.size w w' := by
  have B1 : Hid (Below w.heap.size w (w.alloc (.cells #[.int .u32 4, .int .i64 1, .slice none 0 0, .int .i64 3, .int .i64 0, .int .i64 0] 25))) := (Below.refl _ _).alloc (Nat.le_refl _) _
  have F1 : Hid (FrAt (w.alloc (.cells #[.int .u32 4, .int .i64 1, .slice none 0 0, .int .i64 3, .int .i64 0, .int .i64 0] 25)) w.heap.size frB) := FrAt.made w _ frB
  go_enter Try.func6, Try.ntmps6
  go_wp2_with fail
  generalize (w.alloc (.cells #[.int .u32 4, .int .i64 1, .slice none 0 0, .int .i64 3, .int .i64 0, .int .i64 0] 25)) = w1 at *
  rename_i KK hKK
  have REST : ∀ (v7 v8 v9 v10 v11 v12 v13 v14 v15 : Value) (r : Option Addr) (cap base : Nat) (K : Nat → Dt) (W : World), FrAt W w.heap.size frB → Below w.heap.size w W → Dts W base (.slice r 2 cap) 2 K (fun i => symOf 4 (listAt [97, 98, 99]) 3 2 (lit2 0 1 i).toNat) → Told15 2 65535 9 4 2 (lit2 0 1) K → KK { tmps := #[.bool false, .pointer (some ⟨w.heap.size, 0, none⟩), .slice r 2 cap, .bool true, undef, undef, .agg #[.int .u32 4, .int .i64 1, .slice none 0 0, .int .i64 3, .int .i64 0, .int .i64 0], v7, v8, v9, v10, v11, v12, v13, v14, v15, undef, undef, undef, undef, undef, undef, undef, undef, undef, undef, undef, undef, undef, undef, undef, undef, undef, undef, undef, undef, undef, undef, undef, undef, undef, undef, undef, undef, undef, undef, undef, undef, undef, undef, undef, undef, undef, undef, undef, undef, undef, undef, undef, undef, undef, undef, undef, undef, undef, undef, undef, undef], defers := [] } W := by
    intro v7 v8 v9 v10 v11 v12 v13 v14 v15 r cap base K W hfr hbl hds htl
    apply hKK
    clear hKK B1 F1
    obtain ⟨g, cap2, eqv, hg, hcell⟩ := hds.row.lit (by decide)
    cases eqv
    have HFR : Hid (FrAt W w.heap.size frB) := hfr
    have HBL : Hid (Below w.heap.size w W) := hbl
    have e0 : ((K 1).s : Int) = 0 := by rw [(htl 1 (by decide)).1]; rfl
    have e1 : ((K 1).t : Int) = 9 := by rw [(htl 1 (by decide)).2.1]; rfl
    have e2 : ((K 1).f : Int) = 4 := by rw [(htl 1 (by decide)).2.2.1]; rfl
    have e3 : ((K 1).y : Int) = 1 := by rw [(htl 1 (by decide)).2.2.2.1]; rfl
    have c5 : W.cell? ⟨g, 5, none⟩ = some (.int .u16 0) := (hcell 1 0 5 (by decide) (by decide) rfl).trans (by show some (Value.int .u16 ((K 1).s : Int)) = _; rw [e0])
    have c6 : W.cell? ⟨g, 6, none⟩ = some (.int .u16 9) := (hcell 1 1 6 (by decide) (by decide) rfl).trans (by show some (Value.int .u16 ((K 1).t : Int)) = _; rw [e1])
    have c7 : W.cell? ⟨g, 7, none⟩ = some (.int .u32 4) := (hcell 1 2 7 (by decide) (by decide) rfl).trans (by show some (Value.int .u32 ((K 1).f : Int)) = _; rw [e2])
    have c8 : W.cell? ⟨g, 8, none⟩ = some (.int .u16 1) := (hcell 1 3 8 (by decide) (by decide) rfl).trans (by show some (Value.int .u16 ((K 1).y : Int)) = _; rw [e3])
    have c4 := hcell 0 4 4 (by decide) (by decide) rfl
    have HDS : Hid (Dts W base (.slice (some ⟨g, 0, none⟩) 2 cap) 2 K (fun i => symOf 4 (listAt [97, 98, 99]) 3 2 (lit2 0 1 i).toNat)) := hds
    have HN0 : Hid ((K 0).n = 2) := (htl 0 (by decide)).2.2.2.2
    have HC : Hid (W.cell? ⟨g, 4, none⟩ = some ((K 0).cell 4) ∧ W.cell? ⟨g, 5, none⟩ = some (.int .u16 0) ∧ W.cell? ⟨g, 6, none⟩ = some (.int .u16 9) ∧ W.cell? ⟨g, 7, none⟩ = some (.int .u32 4) ∧ W.cell? ⟨g, 8, none⟩ = some (.int .u16 1)) := ⟨c4, c5, c6, c7, c8⟩
    clear hfr hbl hds htl hcell c4 c5 c6 c7 c8 e0 e1 e2 e3
    go_wp2_with fail
    refine wp_region_held (S := fun X => Below W.heap.size W X) (by kernel_rfl) ?_
    change wpAnyH _ _ _ _ _ _ _ _ W.drew
    have hr : Below W.heap.size W W.drew := below_drews 1
    generalize W.drew = w3 at *
    refine wpAnyH_take (i := 1) (v := .agg #[.int .u32 4, .int .i64 1, .slice none 0 0, .int .i64 3, .int .i64 0, .int .i64 0]) rfl (by kernel_rfl) (by kernel_rfl) (by kernel_rfl) (fun _ _ _ h => h) (Or.inl ⟨by kernel_rfl, fun W hW => by obtain ⟨g0, g1, g2, g3, g4, g5, -⟩ := HFR.out.grew hW; simp only [frB] at g0 g1 g2 g3 g4 g5; go_simp⟩) hr ?_
    refine wpAnyH_ready (rs := [0]) (by kernel_rfl) (by simp) ?_
    refine AllReadyH.cons rfl (fun K2 hK2 => ?_) AllReadyH.nil
    go_simp
    refine Calls.mono (new_any _) ?_
    rintro e w4 ⟨rfl, bb, HF, -⟩
    have hr := hr.trans (bb.mono hr.size)
    refine hK2.out _ _ hr (fun hr => ?_)
    clear hK2 K2 bb
    refine wpAnyH_ready (rs := [2]) (by kernel_rfl) (by simp) ?_
    refine AllReadyH.cons rfl (fun K2 hK2 => ?_) AllReadyH.nil
    go_simp
    refine Calls.mono (packets_is _ true frB _ none 0 0 2 none 0 0 0 0 _ _ (fun _ => 0) (fun _ => 0) w4 rfl rfl rfl (FldIs.mk' HF) (nil_bytes _ _) (IntsAt.nil _ _) (by decide) (by decide) (by decide) (by decide)) ?_
    rintro e w5 hpk
    obtain ⟨rfl, bb⟩ := hpk.no (fun h => absurd h.1 (by decide))
    have hr := hr.trans (bb.mono hr.size)
    refine hK2.out _ _ hr (fun hr => ?_)
    clear hK2 K2 bb hpk
    refine wpAnyH_take (i := 3) (v := .tuple #[.slice none 0 0, .bool false]) rfl (by kernel_rfl) (by kernel_rfl) (by kernel_rfl) (fun _ _ _ h => h) (Yields.yieldsIf (Or.inl ⟨by kernel_rfl, fun _ => by kernel_rfl⟩)) hr ?_
    refine wpAnyH_take (i := 4) (v := .slice none 0 0) rfl (by kernel_rfl) (by kernel_rfl) (by kernel_rfl) (fun _ _ _ h => h) (Yields.yieldsIf (Or.inl ⟨by kernel_rfl, fun _ => by go_simp⟩)) hr ?_
    refine wpAnyH_take (i := 5) (v := .bool false) rfl (by kernel_rfl) (by kernel_rfl) (by kernel_rfl) (fun _ _ _ h => h) (Yields.yieldsIf (Or.inl ⟨by kernel_rfl, fun _ => by go_simp⟩)) hr ?_
    refine wpAnyH_take (i := 6) (v := .slice none 0 0) rfl (by kernel_rfl) (by kernel_rfl) (by kernel_rfl) (fun _ _ _ h => h) (Yields.yieldsIf (Or.inl ⟨by kernel_rfl, fun _ => by kernel_rfl⟩)) hr ?_
    refine wpAnyH_take (i := 7) (v := .bool false) rfl (by kernel_rfl) (by kernel_rfl) (by kernel_rfl) (fun _ _ _ h => h) (Yields.yieldsIf (Or.inl ⟨by kernel_rfl, fun _ => by kernel_rfl⟩)) hr ?_
    refine wpAnyH_done (by kernel_rfl) ?_ _
    have HB5 : Hid (Below w.heap.size w w5) := HBL.out.trans (hr.mono HBL.out.size)
    obtain ⟨c4, c5, c6, c7, c8⟩ := HC.out
    have lg : g < W.heap.size := cell_lt c5
    have d5 := (hr.cell (p := ⟨g, 5, none⟩) lg).trans c5
    have d6 := (hr.cell (p := ⟨g, 6, none⟩) lg).trans c6
    have d7 := (hr.cell (p := ⟨g, 7, none⟩) lg).trans c7
    have d8 := (hr.cell (p := ⟨g, 8, none⟩) lg).trans c8
    obtain ⟨a0, k0, ec, hcv⟩ := (HDS.out.grew hr).str 0 2 (by decide) HN0.out ⟨#[97, 98]⟩ (by decide +kernel)
    rw [ec] at c4
    have d4 := (hr.cell (p := ⟨g, 4, none⟩) lg).trans c4
    clear c4 c5 c6 c7 c8 lg ec hr HDS HC HFR HBL HN0 HF
    go_wp2
    go_ret
    exact ⟨rfl, HB5.out⟩
  refine wp_region_held (S := fun W => FrAt W w.heap.size frB) (by kernel_rfl) ?_
  change wpAnyH _ _ _ _ _ _ _ _ w1.drew
  have hr : FrAt w1.drew w.heap.size frB := F1.out.grew (below_drews 1)
  have hb : Below w.heap.size w w1.drew := B1.out.trans (below_drews 1)
  clear B1 F1 hKK
  generalize w1.drew = w2 at *
  refine wpAnyH_take (i := 1) (v := .agg #[.int .u32 4, .int .i64 1, .slice none 0 0, .int .i64 3, .int .i64 0, .int .i64 0]) rfl (by kernel_rfl) (by kernel_rfl) (by kernel_rfl) (fun _ _ _ h => h) (Or.inl ⟨by kernel_rfl, fun W hW => by have g0 := hW.c0; have g1 := hW.c1; have g2 := hW.c2; have g3 := hW.c3; have g4 := hW.c4; have g5 := hW.c5; simp only [frB] at g0 g1 g2 g3 g4 g5; go_simp⟩) hr ?_
  refine wpAnyH_ready (rs := [0, 2, 4]) (by kernel_rfl) (by simp) ?_
  refine AllReadyH.cons rfl (fun K2 hK2 => ?_) (AllReadyH.cons rfl (fun K2 hK2 => ?_) (AllReadyH.cons rfl (fun K2 hK2 => ?_) AllReadyH.nil))
  · go_simp
    refine Calls.mono (new_any _) ?_
    rintro e w3 ⟨rfl, bb, HF0, -⟩
    have hr := hr.grew bb
    have hb := hb.trans (bb.mono hb.size)
    have HF := HF0
    clear HF0 bb
    refine hK2.out _ _ hr (fun hr => ?_)
    clear hK2 K2
    refine wpAnyH_ready (rs := [2, 4]) (by kernel_rfl) (by simp) ?_
    refine AllReadyH.cons rfl (fun K2 hK2 => ?_) (AllReadyH.cons rfl (fun K2 hK2 => ?_) AllReadyH.nil)
    · go_simp
      have bb : Below w3.heap.size w3 (w3.alloc (.cells #[.int .u8 97, .int .u8 98, .int .u8 99] 5)) := (Below.refl _ _).alloc (Nat.le_refl _) _
      have nfb := Nat.ne_of_lt HF.lt
      have HR : (w3.alloc (.cells #[.int .u8 97, .int .u8 98, .int .u8 99] 5)).heap[w3.heap.size]? = some (.cells #[.int .u8 97, .int .u8 98, .int .u8 99] 5) := heap_alloc _ _
      have lb : w3.heap.size < (w3.alloc (.cells #[.int .u8 97, .int .u8 98, .int .u8 99] 5)).heap.size := by simp
      have nrb := Nat.ne_of_lt hr.lt
      have rb := Nat.le_of_lt hr.lt
      have HF := HF.below bb HF.lt
      have hr := hr.grew bb
      have hb := hb.trans (bb.mono hb.size)
      generalize w3.alloc (.cells #[.int .u8 97, .int .u8 98, .int .u8 99] 5) = w4 at *
      clear bb
      refine hK2.out _ _ hr (fun hr => ?_)
      clear hK2 K2
      refine wpAnyH_ready (rs := [3, 4]) (by kernel_rfl) (by simp) ?_
      refine AllReadyH.cons rfl (fun K2 hK2 => ?_) (AllReadyH.cons rfl (fun K2 hK2 => ?_) AllReadyH.nil)
      · obtain ⟨w5, hcv, kp, HR2⟩ := conv_row w4 _ 3 3 _ HR
        refine step_conv_run rfl (.tmp 10) 26 rfl _ rfl _ _ hcv ?_
        have HB : BytesAt w5 _ 3 (listAt [97, 98, 99]) := bytes_of [97, 98, 99] (by decide) HR2
        have hr := hr.kept kp nrb
        have hb := hb.trans (kp.below rb hb.size)
        have HF := HF.kept kp nfb
        clear hcv kp HR HR2
        refine hK2.out _ _ hr (fun hr => ?_)
        clear hK2 K2
        refine wpAnyH_ready (rs := [4]) (by kernel_rfl) (by simp) ?_
        refine AllReadyH.cons rfl (fun K2 hK2 => ?_) AllReadyH.nil
        · go_simp
          have bb : Below w5.heap.size w5 (w5.alloc (.cells #[.int .i64 0, .int .i64 1] 3)) := (Below.refl _ _).alloc (Nat.le_refl _) _
          have HI : IntsAt (w5.alloc (.cells #[.int .i64 0, .int .i64 1] 3)) (some ⟨w5.heap.size, 0, none⟩) 2 (lit2 0 1) := ints_two w5 0 1
          have HF := HF.below bb HF.lt
          have HB := HB.grew bb
          have hr := hr.grew bb
          have hb := hb.trans (bb.mono hb.size)
          generalize w5.alloc (.cells #[.int .i64 0, .int .i64 1] 3) = w6 at *
          clear bb
          refine hK2.out _ _ hr (fun hr => ?_)
          clear hK2 K2
          refine wpAnyH_ready (rs := [5]) (by kernel_rfl) (by simp) ?_
          refine AllReadyH.cons rfl (fun K2 hK2 => ?_) AllReadyH.nil
          go_simp
          refine Calls.mono (packets_is _ true frB _ _ 3 _ 2 _ 2 2 65535 9 _ _ (lit2 0 1) (listAt [97, 98, 99]) w6 rfl rfl rfl (FldIs.mk' HF) HB HI (by decide) (by decide) (by decide) (by decide)) ?_
          rintro e w7 hpk
          obtain ⟨v, K, rfl, hds, htl, hbb⟩ := hpk.yes rfl (fit_list (by decide +kernel))
          have hr := hr.grew hbb
          have hb := hb.trans (hbb.mono hb.size)
          obtain ⟨r, cap, rfl, -⟩ := hds.row.any
          refine hK2.out _ _ hr (fun hr => ?_)
          clear hK2 K2
          refine wpAnyH_take (i := 6) (v := .tuple #[.slice r 2 cap, .bool true]) rfl (by kernel_rfl) (by kernel_rfl) (by kernel_rfl) (fun _ _ _ h => h) (Yields.yieldsIf (Or.inl ⟨by kernel_rfl, fun _ => by kernel_rfl⟩)) hr ?_
          refine wpAnyH_take (i := 7) (v := .slice r 2 cap) rfl (by kernel_rfl) (by kernel_rfl) (by kernel_rfl) (fun _ _ _ h => h) (Yields.yieldsIf (Or.inl ⟨by kernel_rfl, fun _ => by go_simp⟩)) hr ?_
          refine wpAnyH_take (i := 8) (v := .bool true) rfl (by kernel_rfl) (by kernel_rfl) (by kernel_rfl) (fun _ _ _ h => h) (Yields.yieldsIf (Or.inl ⟨by kernel_rfl, fun _ => by go_simp⟩)) hr ?_
          refine wpAnyH_take (i := 9) (v := .slice r 2 cap) rfl (by kernel_rfl) (by kernel_rfl) (by kernel_rfl) (fun _ _ _ h => h) (Yields.yieldsIf (Or.inl ⟨by kernel_rfl, fun _ => by kernel_rfl⟩)) hr ?_
          refine wpAnyH_take (i := 10) (v := .bool true) rfl (by kernel_rfl) (by kernel_rfl) (by kernel_rfl) (fun _ _ _ h => h) (Yields.yieldsIf (Or.inl ⟨by kernel_rfl, fun _ => by kernel_rfl⟩)) hr ?_
          refine wpAnyH_done (by kernel_rfl) ?_ _
          exact REST _ _ _ _ _ _ _ _ _ _ _ _ _ _ hr hb hds htl
      · go_simp
        have bb : Below w4.heap.size w4 (w4.alloc (.cells #[.int .i64 0, .int .i64 1] 3)) := (Below.refl _ _).alloc (Nat.le_refl _) _
        have HI : IntsAt (w4.alloc (.cells #[.int .i64 0, .int .i64 1] 3)) (some ⟨w4.heap.size, 0, none⟩) 2 (lit2 0 1) := ints_two w4 0 1
        have nib := Nat.ne_of_gt lb
        have HF := HF.below bb HF.lt
        have HR := (bb.block _ lb).trans HR
        have lb := Nat.lt_of_lt_of_le lb bb.size
        have hr := hr.grew bb
        have hb := hb.trans (bb.mono hb.size)
        generalize w4.alloc (.cells #[.int .i64 0, .int .i64 1] 3) = w5 at *
        clear bb
        refine hK2.out _ _ hr (fun hr => ?_)
        clear hK2 K2
        refine wpAnyH_ready (rs := [3]) (by kernel_rfl) (by simp) ?_
        refine AllReadyH.cons rfl (fun K2 hK2 => ?_) AllReadyH.nil
        · obtain ⟨w6, hcv, kp, HR2⟩ := conv_row w5 _ 3 3 _ HR
          refine step_conv_run rfl (.tmp 10) 26 rfl _ rfl _ _ hcv ?_
          have HB : BytesAt w6 _ 3 (listAt [97, 98, 99]) := bytes_of [97, 98, 99] (by decide) HR2
          have hr := hr.kept kp nrb
          have hb := hb.trans (kp.below rb hb.size)
          have HF := HF.kept kp nfb
          have HI := HI.kept kp nib
          clear hcv kp HR HR2
          refine hK2.out _ _ hr (fun hr => ?_)
          clear hK2 K2
          refine wpAnyH_ready (rs := [5]) (by kernel_rfl) (by simp) ?_
          refine AllReadyH.cons rfl (fun K2 hK2 => ?_) AllReadyH.nil
          go_simp
          refine Calls.mono (packets_is _ true frB _ _ 3 _ 2 _ 2 2 65535 9 _ _ (lit2 0 1) (listAt [97, 98, 99]) w6 rfl rfl rfl (FldIs.mk' HF) HB HI (by decide) (by decide) (by decide) (by decide)) ?_
          rintro e w7 hpk
          obtain ⟨v, K, rfl, hds, htl, hbb⟩ := hpk.yes rfl (fit_list (by decide +kernel))
          have hr := hr.grew hbb
          have hb := hb.trans (hbb.mono hb.size)
          obtain ⟨r, cap, rfl, -⟩ := hds.row.any
          refine hK2.out _ _ hr (fun hr => ?_)
          clear hK2 K2
          refine wpAnyH_take (i := 6) (v := .tuple #[.slice r 2 cap, .bool true]) rfl (by kernel_rfl) (by kernel_rfl) (by kernel_rfl) (fun _ _ _ h => h) (Yields.yieldsIf (Or.inl ⟨by kernel_rfl, fun _ => by kernel_rfl⟩)) hr ?_
          refine wpAnyH_take (i := 7) (v := .slice r 2 cap) rfl (by kernel_rfl) (by kernel_rfl) (by kernel_rfl) (fun _ _ _ h => h) (Yields.yieldsIf (Or.inl ⟨by kernel_rfl, fun _ => by go_simp⟩)) hr ?_
          refine wpAnyH_take (i := 8) (v := .bool true) rfl (by kernel_rfl) (by kernel_rfl) (by kernel_rfl) (fun _ _ _ h => h) (Yields.yieldsIf (Or.inl ⟨by kernel_rfl, fun _ => by go_simp⟩)) hr ?_
          refine wpAnyH_take (i := 9) (v := .slice r 2 cap) rfl (by kernel_rfl) (by kernel_rfl) (by kernel_rfl) (fun _ _ _ h => h) (Yields.yieldsIf (Or.inl ⟨by kernel_rfl, fun _ => by kernel_rfl⟩)) hr ?_
          refine wpAnyH_take (i := 10) (v := .bool true) rfl (by kernel_rfl) (by kernel_rfl) (by kernel_rfl) (fun _ _ _ h => h) (Yields.yieldsIf (Or.inl ⟨by kernel_rfl, fun _ => by kernel_rfl⟩)) hr ?_
          refine wpAnyH_done (by kernel_rfl) ?_ _
          exact REST _ _ _ _ _ _ _ _ _ _ _ _ _ _ hr hb hds htl
    · go_simp
      have bb : Below w3.heap.size w3 (w3.alloc (.cells #[.int .i64 0, .int .i64 1] 3)) := (Below.refl _ _).alloc (Nat.le_refl _) _
      have HI : IntsAt (w3.alloc (.cells #[.int .i64 0, .int .i64 1] 3)) (some ⟨w3.heap.size, 0, none⟩) 2 (lit2 0 1) := ints_two w3 0 1
      have HF := HF.below bb HF.lt
      have hr := hr.grew bb
      have hb := hb.trans (bb.mono hb.size)
      have lI : w3.heap.size < (w3.alloc (.cells #[.int .i64 0, .int .i64 1] 3)).heap.size := by simp
      generalize w3.alloc (.cells #[.int .i64 0, .int .i64 1] 3) = w4 at *
      clear bb
      refine hK2.out _ _ hr (fun hr => ?_)
      clear hK2 K2
      refine wpAnyH_ready (rs := [2]) (by kernel_rfl) (by simp) ?_
      refine AllReadyH.cons rfl (fun K2 hK2 => ?_) AllReadyH.nil
      · go_simp
        have bb : Below w4.heap.size w4 (w4.alloc (.cells #[.int .u8 97, .int .u8 98, .int .u8 99] 5)) := (Below.refl _ _).alloc (Nat.le_refl _) _
        have nfb := Nat.ne_of_lt HF.lt
        have nib := Nat.ne_of_lt lI
        have HR : (w4.alloc (.cells #[.int .u8 97, .int .u8 98, .int .u8 99] 5)).heap[w4.heap.size]? = some (.cells #[.int .u8 97, .int .u8 98, .int .u8 99] 5) := heap_alloc _ _
        have lb : w4.heap.size < (w4.alloc (.cells #[.int .u8 97, .int .u8 98, .int .u8 99] 5)).heap.size := by simp
        have nrb := Nat.ne_of_lt hr.lt
        have rb := Nat.le_of_lt hr.lt
        have HF := HF.below bb HF.lt
        have HI := HI.grew bb
        have lI := Nat.lt_of_lt_of_le lI bb.size
        have hr := hr.grew bb
        have hb := hb.trans (bb.mono hb.size)
        generalize w4.alloc (.cells #[.int .u8 97, .int .u8 98, .int .u8 99] 5) = w5 at *
        clear bb
        refine hK2.out _ _ hr (fun hr => ?_)
        clear hK2 K2
        refine wpAnyH_ready (rs := [3]) (by kernel_rfl) (by simp) ?_
        refine AllReadyH.cons rfl (fun K2 hK2 => ?_) AllReadyH.nil
        · obtain ⟨w6, hcv, kp, HR2⟩ := conv_row w5 _ 3 3 _ HR
          refine step_conv_run rfl (.tmp 10) 26 rfl _ rfl _ _ hcv ?_
          have HB : BytesAt w6 _ 3 (listAt [97, 98, 99]) := bytes_of [97, 98, 99] (by decide) HR2
          have hr := hr.kept kp nrb
          have hb := hb.trans (kp.below rb hb.size)
          have HF := HF.kept kp nfb
          have HI := HI.kept kp nib
          clear hcv kp HR HR2
          refine hK2.out _ _ hr (fun hr => ?_)
          clear hK2 K2
          refine wpAnyH_ready (rs := [5]) (by kernel_rfl) (by simp) ?_
          refine AllReadyH.cons rfl (fun K2 hK2 => ?_) AllReadyH.nil
          go_simp
          refine Calls.mono (packets_is _ true frB _ _ 3 _ 2 _ 2 2 65535 9 _ _ (lit2 0 1) (listAt [97, 98, 99]) w6 rfl rfl rfl (FldIs.mk' HF) HB HI (by decide) (by decide) (by decide) (by decide)) ?_
          rintro e w7 hpk
          obtain ⟨v, K, rfl, hds, htl, hbb⟩ := hpk.yes rfl (fit_list (by decide +kernel))
          have hr := hr.grew hbb
          have hb := hb.trans (hbb.mono hb.size)
          obtain ⟨r, cap, rfl, -⟩ := hds.row.any
          refine hK2.out _ _ hr (fun hr => ?_)
          clear hK2 K2
          refine wpAnyH_take (i := 6) (v := .tuple #[.slice r 2 cap, .bool true]) rfl (by kernel_rfl) (by kernel_rfl) (by kernel_rfl) (fun _ _ _ h => h) (Yields.yieldsIf (Or.inl ⟨by kernel_rfl, fun _ => by kernel_rfl⟩)) hr ?_
          refine wpAnyH_take (i := 7) (v := .slice r 2 cap) rfl (by kernel_rfl) (by kernel_rfl) (by kernel_rfl) (fun _ _ _ h => h) (Yields.yieldsIf (Or.inl ⟨by kernel_rfl, fun _ => by go_simp⟩)) hr ?_
          refine wpAnyH_take (i := 8) (v := .bool true) rfl (by kernel_rfl) (by kernel_rfl) (by kernel_rfl) (fun _ _ _ h => h) (Yields.yieldsIf (Or.inl ⟨by kernel_rfl, fun _ => by go_simp⟩)) hr ?_
          refine wpAnyH_take (i := 9) (v := .slice r 2 cap) rfl (by kernel_rfl) (by kernel_rfl) (by kernel_rfl) (fun _ _ _ h => h) (Yields.yieldsIf (Or.inl ⟨by kernel_rfl, fun _ => by kernel_rfl⟩)) hr ?_
          refine wpAnyH_take (i := 10) (v := .bool true) rfl (by kernel_rfl) (by kernel_rfl) (by kernel_rfl) (fun _ _ _ h => h) (Yields.yieldsIf (Or.inl ⟨by kernel_rfl, fun _ => by kernel_rfl⟩)) hr ?_
          refine wpAnyH_done (by kernel_rfl) ?_ _
          exact REST _ _ _ _ _ _ _ _ _ _ _ _ _ _ hr hb hds htl
  · go_simp
    have bb : Below w2.heap.size w2 (w2.alloc (.cells #[.int .u8 97, .int .u8 98, .int .u8 99] 5)) := (Below.refl _ _).alloc (Nat.le_refl _) _
    have HR : (w2.alloc (.cells #[.int .u8 97, .int .u8 98, .int .u8 99] 5)).heap[w2.heap.size]? = some (.cells #[.int .u8 97, .int .u8 98, .int .u8 99] 5) := heap_alloc _ _
    have lb : w2.heap.size < (w2.alloc (.cells #[.int .u8 97, .int .u8 98, .int .u8 99] 5)).heap.size := by simp
    have nrb := Nat.ne_of_lt hr.lt
    have rb := Nat.le_of_lt hr.lt
    have hr := hr.grew bb
    have hb := hb.trans (bb.mono hb.size)
    generalize w2.alloc (.cells #[.int .u8 97, .int .u8 98, .int .u8 99] 5) = w3 at *
    clear bb
    refine hK2.out _ _ hr (fun hr => ?_)
    clear hK2 K2
    refine wpAnyH_ready (rs := [0, 3, 4]) (by kernel_rfl) (by simp) ?_
    refine AllReadyH.cons rfl (fun K2 hK2 => ?_) (AllReadyH.cons rfl (fun K2 hK2 => ?_) (AllReadyH.cons rfl (fun K2 hK2 => ?_) AllReadyH.nil))
    · go_simp
      refine Calls.mono (new_any _) ?_
      rintro e w4 ⟨rfl, bb, HF0, -⟩
      have nfb := Nat.ne_of_gt lb
      have HR := (bb.block _ lb).trans HR
      have lb := Nat.lt_of_lt_of_le lb bb.size
      have hr := hr.grew bb
      have hb := hb.trans (bb.mono hb.size)
      have HF := HF0
      clear HF0 bb
      refine hK2.out _ _ hr (fun hr => ?_)
      clear hK2 K2
      refine wpAnyH_ready (rs := [3, 4]) (by kernel_rfl) (by simp) ?_
      refine AllReadyH.cons rfl (fun K2 hK2 => ?_) (AllReadyH.cons rfl (fun K2 hK2 => ?_) AllReadyH.nil)
      · obtain ⟨w5, hcv, kp, HR2⟩ := conv_row w4 _ 3 3 _ HR
        refine step_conv_run rfl (.tmp 10) 26 rfl _ rfl _ _ hcv ?_
        have HB : BytesAt w5 _ 3 (listAt [97, 98, 99]) := bytes_of [97, 98, 99] (by decide) HR2
        have hr := hr.kept kp nrb
        have hb := hb.trans (kp.below rb hb.size)
        have HF := HF.kept kp nfb
        clear hcv kp HR HR2
        refine hK2.out _ _ hr (fun hr => ?_)
        clear hK2 K2
        refine wpAnyH_ready (rs := [4]) (by kernel_rfl) (by simp) ?_
        refine AllReadyH.cons rfl (fun K2 hK2 => ?_) AllReadyH.nil
        · go_simp
          have bb : Below w5.heap.size w5 (w5.alloc (.cells #[.int .i64 0, .int .i64 1] 3)) := (Below.refl _ _).alloc (Nat.le_refl _) _
          have HI : IntsAt (w5.alloc (.cells #[.int .i64 0, .int .i64 1] 3)) (some ⟨w5.heap.size, 0, none⟩) 2 (lit2 0 1) := ints_two w5 0 1
          have HF := HF.below bb HF.lt
          have HB := HB.grew bb
          have hr := hr.grew bb
          have hb := hb.trans (bb.mono hb.size)
          generalize w5.alloc (.cells #[.int .i64 0, .int .i64 1] 3) = w6 at *
          clear bb
          refine hK2.out _ _ hr (fun hr => ?_)
          clear hK2 K2
          refine wpAnyH_ready (rs := [5]) (by kernel_rfl) (by simp) ?_
          refine AllReadyH.cons rfl (fun K2 hK2 => ?_) AllReadyH.nil
          go_simp
          refine Calls.mono (packets_is _ true frB _ _ 3 _ 2 _ 2 2 65535 9 _ _ (lit2 0 1) (listAt [97, 98, 99]) w6 rfl rfl rfl (FldIs.mk' HF) HB HI (by decide) (by decide) (by decide) (by decide)) ?_
          rintro e w7 hpk
          obtain ⟨v, K, rfl, hds, htl, hbb⟩ := hpk.yes rfl (fit_list (by decide +kernel))
          have hr := hr.grew hbb
          have hb := hb.trans (hbb.mono hb.size)
          obtain ⟨r, cap, rfl, -⟩ := hds.row.any
          refine hK2.out _ _ hr (fun hr => ?_)
          clear hK2 K2
          refine wpAnyH_take (i := 6) (v := .tuple #[.slice r 2 cap, .bool true]) rfl (by kernel_rfl) (by kernel_rfl) (by kernel_rfl) (fun _ _ _ h => h) (Yields.yieldsIf (Or.inl ⟨by kernel_rfl, fun _ => by kernel_rfl⟩)) hr ?_
          refine wpAnyH_take (i := 7) (v := .slice r 2 cap) rfl (by kernel_rfl) (by kernel_rfl) (by kernel_rfl) (fun _ _ _ h => h) (Yields.yieldsIf (Or.inl ⟨by kernel_rfl, fun _ => by go_simp⟩)) hr ?_
          refine wpAnyH_take (i := 8) (v := .bool true) rfl (by kernel_rfl) (by kernel_rfl) (by kernel_rfl) (fun _ _ _ h => h) (Yields.yieldsIf (Or.inl ⟨by kernel_rfl, fun _ => by go_simp⟩)) hr ?_
          refine wpAnyH_take (i := 9) (v := .slice r 2 cap) rfl (by kernel_rfl) (by kernel_rfl) (by kernel_rfl) (fun _ _ _ h => h) (Yields.yieldsIf (Or.inl ⟨by kernel_rfl, fun _ => by kernel_rfl⟩)) hr ?_
          refine wpAnyH_take (i := 10) (v := .bool true) rfl (by kernel_rfl) (by kernel_rfl) (by kernel_rfl) (fun _ _ _ h => h) (Yields.yieldsIf (Or.inl ⟨by kernel_rfl, fun _ => by kernel_rfl⟩)) hr ?_
          refine wpAnyH_done (by kernel_rfl) ?_ _
          exact REST _ _ _ _ _ _ _ _ _ _ _ _ _ _ hr hb hds htl
      · go_simp
        have bb : Below w4.heap.size w4 (w4.alloc (.cells #[.int .i64 0, .int .i64 1] 3)) := (Below.refl _ _).alloc (Nat.le_refl _) _
        have HI : IntsAt (w4.alloc (.cells #[.int .i64 0, .int .i64 1] 3)) (some ⟨w4.heap.size, 0, none⟩) 2 (lit2 0 1) := ints_two w4 0 1
        have nib := Nat.ne_of_gt lb
        have HF := HF.below bb HF.lt
        have HR := (bb.block _ lb).trans HR
        have lb := Nat.lt_of_lt_of_le lb bb.size
        have hr := hr.grew bb
        have hb := hb.trans (bb.mono hb.size)
        generalize w4.alloc (.cells #[.int .i64 0, .int .i64 1] 3) = w5 at *
        clear bb
        refine hK2.out _ _ hr (fun hr => ?_)
        clear hK2 K2
        refine wpAnyH_ready (rs := [3]) (by kernel_rfl) (by simp) ?_
        refine AllReadyH.cons rfl (fun K2 hK2 => ?_) AllReadyH.nil
        · obtain ⟨w6, hcv, kp, HR2⟩ := conv_row w5 _ 3 3 _ HR
          refine step_conv_run rfl (.tmp 10) 26 rfl _ rfl _ _ hcv ?_
          have HB : BytesAt w6 _ 3 (listAt [97, 98, 99]) := bytes_of [97, 98, 99] (by decide) HR2
          have hr := hr.kept kp nrb
          have hb := hb.trans (kp.below rb hb.size)
          have HF := HF.kept kp nfb
          have HI := HI.kept kp nib
          clear hcv kp HR HR2
          refine hK2.out _ _ hr (fun hr => ?_)
          clear hK2 K2
          refine wpAnyH_ready (rs := [5]) (by kernel_rfl) (by simp) ?_
          refine AllReadyH.cons rfl (fun K2 hK2 => ?_) AllReadyH.nil
          go_simp
          refine Calls.mono (packets_is _ true frB _ _ 3 _ 2 _ 2 2 65535 9 _ _ (lit2 0 1) (listAt [97, 98, 99]) w6 rfl rfl rfl (FldIs.mk' HF) HB HI (by decide) (by decide) (by decide) (by decide)) ?_
          rintro e w7 hpk
          obtain ⟨v, K, rfl, hds, htl, hbb⟩ := hpk.yes rfl (fit_list (by decide +kernel))
          have hr := hr.grew hbb
          have hb := hb.trans (hbb.mono hb.size)
          obtain ⟨r, cap, rfl, -⟩ := hds.row.any
          refine hK2.out _ _ hr (fun hr => ?_)
          clear hK2 K2
          refine wpAnyH_take (i := 6) (v := .tuple #[.slice r 2 cap, .bool true]) rfl (by kernel_rfl) (by kernel_rfl) (by kernel_rfl) (fun _ _ _ h => h) (Yields.yieldsIf (Or.inl ⟨by kernel_rfl, fun _ => by kernel_rfl⟩)) hr ?_
          refine wpAnyH_take (i := 7) (v := .slice r 2 cap) rfl (by kernel_rfl) (by kernel_rfl) (by kernel_rfl) (fun _ _ _ h => h) (Yields.yieldsIf (Or.inl ⟨by kernel_rfl, fun _ => by go_simp⟩)) hr ?_
          refine wpAnyH_take (i := 8) (v := .bool true) rfl (by kernel_rfl) (by kernel_rfl) (by kernel_rfl) (fun _ _ _ h => h) (Yields.yieldsIf (Or.inl ⟨by kernel_rfl, fun _ => by go_simp⟩)) hr ?_
          refine wpAnyH_take (i := 9) (v := .slice r 2 cap) rfl (by kernel_rfl) (by kernel_rfl) (by kernel_rfl) (fun _ _ _ h => h) (Yields.yieldsIf (Or.inl ⟨by kernel_rfl, fun _ => by kernel_rfl⟩)) hr ?_
          refine wpAnyH_take (i := 10) (v := .bool true) rfl (by kernel_rfl) (by kernel_rfl) (by kernel_rfl) (fun _ _ _ h => h) (Yields.yieldsIf (Or.inl ⟨by kernel_rfl, fun _ => by kernel_rfl⟩)) hr ?_
          refine wpAnyH_done (by kernel_rfl) ?_ _
          exact REST _ _ _ _ _ _ _ _ _ _ _ _ _ _ hr hb hds htl
    · obtain ⟨w4, hcv, kp, HR2⟩ := conv_row w3 _ 3 3 _ HR
      refine step_conv_run rfl (.tmp 10) 26 rfl _ rfl _ _ hcv ?_
      have HB : BytesAt w4 _ 3 (listAt [97, 98, 99]) := bytes_of [97, 98, 99] (by decide) HR2
      have hr := hr.kept kp nrb
      have hb := hb.trans (kp.below rb hb.size)
      clear hcv kp HR HR2
      refine hK2.out _ _ hr (fun hr => ?_)
      clear hK2 K2
      refine wpAnyH_ready (rs := [0, 4]) (by kernel_rfl) (by simp) ?_
      refine AllReadyH.cons rfl (fun K2 hK2 => ?_) (AllReadyH.cons rfl (fun K2 hK2 => ?_) AllReadyH.nil)
      · go_simp
        refine Calls.mono (new_any _) ?_
        rintro e w5 ⟨rfl, bb, HF0, -⟩
        have HB := HB.grew bb
        have hr := hr.grew bb
        have hb := hb.trans (bb.mono hb.size)
        have HF := HF0
        clear HF0 bb
        refine hK2.out _ _ hr (fun hr => ?_)
        clear hK2 K2
        refine wpAnyH_ready (rs := [4]) (by kernel_rfl) (by simp) ?_
        refine AllReadyH.cons rfl (fun K2 hK2 => ?_) AllReadyH.nil
        · go_simp
          have bb : Below w5.heap.size w5 (w5.alloc (.cells #[.int .i64 0, .int .i64 1] 3)) := (Below.refl _ _).alloc (Nat.le_refl _) _
          have HI : IntsAt (w5.alloc (.cells #[.int .i64 0, .int .i64 1] 3)) (some ⟨w5.heap.size, 0, none⟩) 2 (lit2 0 1) := ints_two w5 0 1
          have HF := HF.below bb HF.lt
          have HB := HB.grew bb
          have hr := hr.grew bb
          have hb := hb.trans (bb.mono hb.size)
          generalize w5.alloc (.cells #[.int .i64 0, .int .i64 1] 3) = w6 at *
          clear bb
          refine hK2.out _ _ hr (fun hr => ?_)
          clear hK2 K2
          refine wpAnyH_ready (rs := [5]) (by kernel_rfl) (by simp) ?_
          refine AllReadyH.cons rfl (fun K2 hK2 => ?_) AllReadyH.nil
          go_simp
          refine Calls.mono (packets_is _ true frB _ _ 3 _ 2 _ 2 2 65535 9 _ _ (lit2 0 1) (listAt [97, 98, 99]) w6 rfl rfl rfl (FldIs.mk' HF) HB HI (by decide) (by decide) (by decide) (by decide)) ?_
          rintro e w7 hpk
          obtain ⟨v, K, rfl, hds, htl, hbb⟩ := hpk.yes rfl (fit_list (by decide +kernel))
          have hr := hr.grew hbb
          have hb := hb.trans (hbb.mono hb.size)
          obtain ⟨r, cap, rfl, -⟩ := hds.row.any
          refine hK2.out _ _ hr (fun hr => ?_)
          clear hK2 K2
          refine wpAnyH_take (i := 6) (v := .tuple #[.slice r 2 cap, .bool true]) rfl (by kernel_rfl) (by kernel_rfl) (by kernel_rfl) (fun _ _ _ h => h) (Yields.yieldsIf (Or.inl ⟨by kernel_rfl, fun _ => by kernel_rfl⟩)) hr ?_
          refine wpAnyH_take (i := 7) (v := .slice r 2 cap) rfl (by kernel_rfl) (by kernel_rfl) (by kernel_rfl) (fun _ _ _ h => h) (Yields.yieldsIf (Or.inl ⟨by kernel_rfl, fun _ => by go_simp⟩)) hr ?_
          refine wpAnyH_take (i := 8) (v := .bool true) rfl (by kernel_rfl) (by kernel_rfl) (by kernel_rfl) (fun _ _ _ h => h) (Yields.yieldsIf (Or.inl ⟨by kernel_rfl, fun _ => by go_simp⟩)) hr ?_
          refine wpAnyH_take (i := 9) (v := .slice r 2 cap) rfl (by kernel_rfl) (by kernel_rfl) (by kernel_rfl) (fun _ _ _ h => h) (Yields.yieldsIf (Or.inl ⟨by kernel_rfl, fun _ => by kernel_rfl⟩)) hr ?_
          refine wpAnyH_take (i := 10) (v := .bool true) rfl (by kernel_rfl) (by kernel_rfl) (by kernel_rfl) (fun _ _ _ h => h) (Yields.yieldsIf (Or.inl ⟨by kernel_rfl, fun _ => by kernel_rfl⟩)) hr ?_
          refine wpAnyH_done (by kernel_rfl) ?_ _
          exact REST _ _ _ _ _ _ _ _ _ _ _ _ _ _ hr hb hds htl
      · go_simp
        have bb : Below w4.heap.size w4 (w4.alloc (.cells #[.int .i64 0, .int .i64 1] 3)) := (Below.refl _ _).alloc (Nat.le_refl _) _
        have HI : IntsAt (w4.alloc (.cells #[.int .i64 0, .int .i64 1] 3)) (some ⟨w4.heap.size, 0, none⟩) 2 (lit2 0 1) := ints_two w4 0 1
        have HB := HB.grew bb
        have hr := hr.grew bb
        have hb := hb.trans (bb.mono hb.size)
        generalize w4.alloc (.cells #[.int .i64 0, .int .i64 1] 3) = w5 at *
        clear bb
        refine hK2.out _ _ hr (fun hr => ?_)
        clear hK2 K2
        refine wpAnyH_ready (rs := [0]) (by kernel_rfl) (by simp) ?_
        refine AllReadyH.cons rfl (fun K2 hK2 => ?_) AllReadyH.nil
        · go_simp
          refine Calls.mono (new_any _) ?_
          rintro e w6 ⟨rfl, bb, HF0, -⟩
          have HB := HB.grew bb
          have HI := HI.grew bb
          have hr := hr.grew bb
          have hb := hb.trans (bb.mono hb.size)
          have HF := HF0
          clear HF0 bb
          refine hK2.out _ _ hr (fun hr => ?_)
          clear hK2 K2
          refine wpAnyH_ready (rs := [5]) (by kernel_rfl) (by simp) ?_
          refine AllReadyH.cons rfl (fun K2 hK2 => ?_) AllReadyH.nil
          go_simp
          refine Calls.mono (packets_is _ true frB _ _ 3 _ 2 _ 2 2 65535 9 _ _ (lit2 0 1) (listAt [97, 98, 99]) w6 rfl rfl rfl (FldIs.mk' HF) HB HI (by decide) (by decide) (by decide) (by decide)) ?_
          rintro e w7 hpk
          obtain ⟨v, K, rfl, hds, htl, hbb⟩ := hpk.yes rfl (fit_list (by decide +kernel))
          have hr := hr.grew hbb
          have hb := hb.trans (hbb.mono hb.size)
          obtain ⟨r, cap, rfl, -⟩ := hds.row.any
          refine hK2.out _ _ hr (fun hr => ?_)
          clear hK2 K2
          refine wpAnyH_take (i := 6) (v := .tuple #[.slice r 2 cap, .bool true]) rfl (by kernel_rfl) (by kernel_rfl) (by kernel_rfl) (fun _ _ _ h => h) (Yields.yieldsIf (Or.inl ⟨by kernel_rfl, fun _ => by kernel_rfl⟩)) hr ?_
          refine wpAnyH_take (i := 7) (v := .slice r 2 cap) rfl (by kernel_rfl) (by kernel_rfl) (by kernel_rfl) (fun _ _ _ h => h) (Yields.yieldsIf (Or.inl ⟨by kernel_rfl, fun _ => by go_simp⟩)) hr ?_
          refine wpAnyH_take (i := 8) (v := .bool true) rfl (by kernel_rfl) (by kernel_rfl) (by kernel_rfl) (fun _ _ _ h => h) (Yields.yieldsIf (Or.inl ⟨by kernel_rfl, fun _ => by go_simp⟩)) hr ?_
          refine wpAnyH_take (i := 9) (v := .slice r 2 cap) rfl (by kernel_rfl) (by kernel_rfl) (by kernel_rfl) (fun _ _ _ h => h) (Yields.yieldsIf (Or.inl ⟨by kernel_rfl, fun _ => by kernel_rfl⟩)) hr ?_
          refine wpAnyH_take (i := 10) (v := .bool true) rfl (by kernel_rfl) (by kernel_rfl) (by kernel_rfl) (fun _ _ _ h => h) (Yields.yieldsIf (Or.inl ⟨by kernel_rfl, fun _ => by kernel_rfl⟩)) hr ?_
          refine wpAnyH_done (by kernel_rfl) ?_ _
          exact REST _ _ _ _ _ _ _ _ _ _ _ _ _ _ hr hb hds htl
    · go_simp
      have bb : Below w3.heap.size w3 (w3.alloc (.cells #[.int .i64 0, .int .i64 1] 3)) := (Below.refl _ _).alloc (Nat.le_refl _) _
      have HI : IntsAt (w3.alloc (.cells #[.int .i64 0, .int .i64 1] 3)) (some ⟨w3.heap.size, 0, none⟩) 2 (lit2 0 1) := ints_two w3 0 1
      have nib := Nat.ne_of_gt lb
      have HR := (bb.block _ lb).trans HR
      have lb := Nat.lt_of_lt_of_le lb bb.size
      have hr := hr.grew bb
      have hb := hb.trans (bb.mono hb.size)
      generalize w3.alloc (.cells #[.int .i64 0, .int .i64 1] 3) = w4 at *
      clear bb
      refine hK2.out _ _ hr (fun hr => ?_)
      clear hK2 K2
      refine wpAnyH_ready (rs := [0, 3]) (by kernel_rfl) (by simp) ?_
      refine AllReadyH.cons rfl (fun K2 hK2 => ?_) (AllReadyH.cons rfl (fun K2 hK2 => ?_) AllReadyH.nil)
      · go_simp
        refine Calls.mono (new_any _) ?_
        rintro e w5 ⟨rfl, bb, HF0, -⟩
        have nfb := Nat.ne_of_gt lb
        have HR := (bb.block _ lb).trans HR
        have lb := Nat.lt_of_lt_of_le lb bb.size
        have HI := HI.grew bb
        have hr := hr.grew bb
        have hb := hb.trans (bb.mono hb.size)
        have HF := HF0
        clear HF0 bb
        refine hK2.out _ _ hr (fun hr => ?_)
        clear hK2 K2
        refine wpAnyH_ready (rs := [3]) (by kernel_rfl) (by simp) ?_
        refine AllReadyH.cons rfl (fun K2 hK2 => ?_) AllReadyH.nil
        · obtain ⟨w6, hcv, kp, HR2⟩ := conv_row w5 _ 3 3 _ HR
          refine step_conv_run rfl (.tmp 10) 26 rfl _ rfl _ _ hcv ?_
          have HB : BytesAt w6 _ 3 (listAt [97, 98, 99]) := bytes_of [97, 98, 99] (by decide) HR2
          have hr := hr.kept kp nrb
          have hb := hb.trans (kp.below rb hb.size)
          have HF := HF.kept kp nfb
          have HI := HI.kept kp nib
          clear hcv kp HR HR2
          refine hK2.out _ _ hr (fun hr => ?_)
          clear hK2 K2
          refine wpAnyH_ready (rs := [5]) (by kernel_rfl) (by simp) ?_
          refine AllReadyH.cons rfl (fun K2 hK2 => ?_) AllReadyH.nil
          go_simp
          refine Calls.mono (packets_is _ true frB _ _ 3 _ 2 _ 2 2 65535 9 _ _ (lit2 0 1) (listAt [97, 98, 99]) w6 rfl rfl rfl (FldIs.mk' HF) HB HI (by decide) (by decide) (by decide) (by decide)) ?_
          rintro e w7 hpk
          obtain ⟨v, K, rfl, hds, htl, hbb⟩ := hpk.yes rfl (fit_list (by decide +kernel))
          have hr := hr.grew hbb
          have hb := hb.trans (hbb.mono hb.size)
          obtain ⟨r, cap, rfl, -⟩ := hds.row.any
          refine hK2.out _ _ hr (fun hr => ?_)
          clear hK2 K2
          refine wpAnyH_take (i := 6) (v := .tuple #[.slice r 2 cap, .bool true]) rfl (by kernel_rfl) (by kernel_rfl) (by kernel_rfl) (fun _ _ _ h => h) (Yields.yieldsIf (Or.inl ⟨by kernel_rfl, fun _ => by kernel_rfl⟩)) hr ?_
          refine wpAnyH_take (i := 7) (v := .slice r 2 cap) rfl (by kernel_rfl) (by kernel_rfl) (by kernel_rfl) (fun _ _ _ h => h) (Yields.yieldsIf (Or.inl ⟨by kernel_rfl, fun _ => by go_simp⟩)) hr ?_
          refine wpAnyH_take (i := 8) (v := .bool true) rfl (by kernel_rfl) (by kernel_rfl) (by kernel_rfl) (fun _ _ _ h => h) (Yields.yieldsIf (Or.inl ⟨by kernel_rfl, fun _ => by go_simp⟩)) hr ?_
          refine wpAnyH_take (i := 9) (v := .slice r 2 cap) rfl (by kernel_rfl) (by kernel_rfl) (by kernel_rfl) (fun _ _ _ h => h) (Yields.yieldsIf (Or.inl ⟨by kernel_rfl, fun _ => by kernel_rfl⟩)) hr ?_
          refine wpAnyH_take (i := 10) (v := .bool true) rfl (by kernel_rfl) (by kernel_rfl) (by kernel_rfl) (fun _ _ _ h => h) (Yields.yieldsIf (Or.inl ⟨by kernel_rfl, fun _ => by kernel_rfl⟩)) hr ?_
          refine wpAnyH_done (by kernel_rfl) ?_ _
          exact REST _ _ _ _ _ _ _ _ _ _ _ _ _ _ hr hb hds htl
      · obtain ⟨w5, hcv, kp, HR2⟩ := conv_row w4 _ 3 3 _ HR
        refine step_conv_run rfl (.tmp 10) 26 rfl _ rfl _ _ hcv ?_
        have HB : BytesAt w5 _ 3 (listAt [97, 98, 99]) := bytes_of [97, 98, 99] (by decide) HR2
        have hr := hr.kept kp nrb
        have hb := hb.trans (kp.below rb hb.size)
        have HI := HI.kept kp nib
        clear hcv kp HR HR2
        refine hK2.out _ _ hr (fun hr => ?_)
        clear hK2 K2
        refine wpAnyH_ready (rs := [0]) (by kernel_rfl) (by simp) ?_
        refine AllReadyH.cons rfl (fun K2 hK2 => ?_) AllReadyH.nil
        · go_simp
          refine Calls.mono (new_any _) ?_
          rintro e w6 ⟨rfl, bb, HF0, -⟩
          have HB := HB.grew bb
          have HI := HI.grew bb
          have hr := hr.grew bb
          have hb := hb.trans (bb.mono hb.size)
          have HF := HF0
          clear HF0 bb
          refine hK2.out _ _ hr (fun hr => ?_)
          clear hK2 K2
          refine wpAnyH_ready (rs := [5]) (by kernel_rfl) (by simp) ?_
          refine AllReadyH.cons rfl (fun K2 hK2 => ?_) AllReadyH.nil
          go_simp
          refine Calls.mono (packets_is _ true frB _ _ 3 _ 2 _ 2 2 65535 9 _ _ (lit2 0 1) (listAt [97, 98, 99]) w6 rfl rfl rfl (FldIs.mk' HF) HB HI (by decide) (by decide) (by decide) (by decide)) ?_
          rintro e w7 hpk
          obtain ⟨v, K, rfl, hds, htl, hbb⟩ := hpk.yes rfl (fit_list (by decide +kernel))
          have hr := hr.grew hbb
          have hb := hb.trans (hbb.mono hb.size)
          obtain ⟨r, cap, rfl, -⟩ := hds.row.any
          refine hK2.out _ _ hr (fun hr => ?_)
          clear hK2 K2
          refine wpAnyH_take (i := 6) (v := .tuple #[.slice r 2 cap, .bool true]) rfl (by kernel_rfl) (by kernel_rfl) (by kernel_rfl) (fun _ _ _ h => h) (Yields.yieldsIf (Or.inl ⟨by kernel_rfl, fun _ => by kernel_rfl⟩)) hr ?_
          refine wpAnyH_take (i := 7) (v := .slice r 2 cap) rfl (by kernel_rfl) (by kernel_rfl) (by kernel_rfl) (fun _ _ _ h => h) (Yields.yieldsIf (Or.inl ⟨by kernel_rfl, fun _ => by go_simp⟩)) hr ?_
          refine wpAnyH_take (i := 8) (v := .bool true) rfl (by kernel_rfl) (by kernel_rfl) (by kernel_rfl) (fun _ _ _ h => h) (Yields.yieldsIf (Or.inl ⟨by kernel_rfl, fun _ => by go_simp⟩)) hr ?_
          refine wpAnyH_take (i := 9) (v := .slice r 2 cap) rfl (by kernel_rfl) (by kernel_rfl) (by kernel_rfl) (fun _ _ _ h => h) (Yields.yieldsIf (Or.inl ⟨by kernel_rfl, fun _ => by kernel_rfl⟩)) hr ?_
          refine wpAnyH_take (i := 10) (v := .bool true) rfl (by kernel_rfl) (by kernel_rfl) (by kernel_rfl) (fun _ _ _ h => h) (Yields.yieldsIf (Or.inl ⟨by kernel_rfl, fun _ => by kernel_rfl⟩)) hr ?_
          refine wpAnyH_done (by kernel_rfl) ?_ _
          exact REST _ _ _ _ _ _ _ _ _ _ _ _ _ _ hr hb hds htl
  · go_simp
    have bb : Below w2.heap.size w2 (w2.alloc (.cells #[.int .i64 0, .int .i64 1] 3)) := (Below.refl _ _).alloc (Nat.le_refl _) _
    have HI : IntsAt (w2.alloc (.cells #[.int .i64 0, .int .i64 1] 3)) (some ⟨w2.heap.size, 0, none⟩) 2 (lit2 0 1) := ints_two w2 0 1
    have hr := hr.grew bb
    have hb := hb.trans (bb.mono hb.size)
    have lI : w2.heap.size < (w2.alloc (.cells #[.int .i64 0, .int .i64 1] 3)).heap.size := by simp
    generalize w2.alloc (.cells #[.int .i64 0, .int .i64 1] 3) = w3 at *
    clear bb
    refine hK2.out _ _ hr (fun hr => ?_)
    clear hK2 K2
    refine wpAnyH_ready (rs := [0, 2]) (by kernel_rfl) (by simp) ?_
    refine AllReadyH.cons rfl (fun K2 hK2 => ?_) (AllReadyH.cons rfl (fun K2 hK2 => ?_) AllReadyH.nil)
    · go_simp
      refine Calls.mono (new_any _) ?_
      rintro e w4 ⟨rfl, bb, HF0, -⟩
      have HI := HI.grew bb
      have lI := Nat.lt_of_lt_of_le lI bb.size
      have hr := hr.grew bb
      have hb := hb.trans (bb.mono hb.size)
      have HF := HF0
      clear HF0 bb
      refine hK2.out _ _ hr (fun hr => ?_)
      clear hK2 K2
      refine wpAnyH_ready (rs := [2]) (by kernel_rfl) (by simp) ?_
      refine AllReadyH.cons rfl (fun K2 hK2 => ?_) AllReadyH.nil
      · go_simp
        have bb : Below w4.heap.size w4 (w4.alloc (.cells #[.int .u8 97, .int .u8 98, .int .u8 99] 5)) := (Below.refl _ _).alloc (Nat.le_refl _) _
        have nfb := Nat.ne_of_lt HF.lt
        have nib := Nat.ne_of_lt lI
        have HR : (w4.alloc (.cells #[.int .u8 97, .int .u8 98, .int .u8 99] 5)).heap[w4.heap.size]? = some (.cells #[.int .u8 97, .int .u8 98, .int .u8 99] 5) := heap_alloc _ _
        have lb : w4.heap.size < (w4.alloc (.cells #[.int .u8 97, .int .u8 98, .int .u8 99] 5)).heap.size := by simp
        have nrb := Nat.ne_of_lt hr.lt
        have rb := Nat.le_of_lt hr.lt
        have HF := HF.below bb HF.lt
        have HI := HI.grew bb
        have lI := Nat.lt_of_lt_of_le lI bb.size
        have hr := hr.grew bb
        have hb := hb.trans (bb.mono hb.size)
        generalize w4.alloc (.cells #[.int .u8 97, .int .u8 98, .int .u8 99] 5) = w5 at *
        clear bb
        refine hK2.out _ _ hr (fun hr => ?_)
        clear hK2 K2
        refine wpAnyH_ready (rs := [3]) (by kernel_rfl) (by simp) ?_
        refine AllReadyH.cons rfl (fun K2 hK2 => ?_) AllReadyH.nil
        · obtain ⟨w6, hcv, kp, HR2⟩ := conv_row w5 _ 3 3 _ HR
          refine step_conv_run rfl (.tmp 10) 26 rfl _ rfl _ _ hcv ?_
          have HB : BytesAt w6 _ 3 (listAt [97, 98, 99]) := bytes_of [97, 98, 99] (by decide) HR2
          have hr := hr.kept kp nrb
          have hb := hb.trans (kp.below rb hb.size)
          have HF := HF.kept kp nfb
          have HI := HI.kept kp nib
          clear hcv kp HR HR2
          refine hK2.out _ _ hr (fun hr => ?_)
          clear hK2 K2
          refine wpAnyH_ready (rs := [5]) (by kernel_rfl) (by simp) ?_
          refine AllReadyH.cons rfl (fun K2 hK2 => ?_) AllReadyH.nil
          go_simp
          refine Calls.mono (packets_is _ true frB _ _ 3 _ 2 _ 2 2 65535 9 _ _ (lit2 0 1) (listAt [97, 98, 99]) w6 rfl rfl rfl (FldIs.mk' HF) HB HI (by decide) (by decide) (by decide) (by decide)) ?_
          rintro e w7 hpk
          obtain ⟨v, K, rfl, hds, htl, hbb⟩ := hpk.yes rfl (fit_list (by decide +kernel))
          have hr := hr.grew hbb
          have hb := hb.trans (hbb.mono hb.size)
          obtain ⟨r, cap, rfl, -⟩ := hds.row.any
          refine hK2.out _ _ hr (fun hr => ?_)
          clear hK2 K2
          refine wpAnyH_take (i := 6) (v := .tuple #[.slice r 2 cap, .bool true]) rfl (by kernel_rfl) (by kernel_rfl) (by kernel_rfl) (fun _ _ _ h => h) (Yields.yieldsIf (Or.inl ⟨by kernel_rfl, fun _ => by kernel_rfl⟩)) hr ?_
          refine wpAnyH_take (i := 7) (v := .slice r 2 cap) rfl (by kernel_rfl) (by kernel_rfl) (by kernel_rfl) (fun _ _ _ h => h) (Yields.yieldsIf (Or.inl ⟨by kernel_rfl, fun _ => by go_simp⟩)) hr ?_
          refine wpAnyH_take (i := 8) (v := .bool true) rfl (by kernel_rfl) (by kernel_rfl) (by kernel_rfl) (fun _ _ _ h => h) (Yields.yieldsIf (Or.inl ⟨by kernel_rfl, fun _ => by go_simp⟩)) hr ?_
          refine wpAnyH_take (i := 9) (v := .slice r 2 cap) rfl (by kernel_rfl) (by kernel_rfl) (by kernel_rfl) (fun _ _ _ h => h) (Yields.yieldsIf (Or.inl ⟨by kernel_rfl, fun _ => by kernel_rfl⟩)) hr ?_
          refine wpAnyH_take (i := 10) (v := .bool true) rfl (by kernel_rfl) (by kernel_rfl) (by kernel_rfl) (fun _ _ _ h => h) (Yields.yieldsIf (Or.inl ⟨by kernel_rfl, fun _ => by kernel_rfl⟩)) hr ?_
          refine wpAnyH_done (by kernel_rfl) ?_ _
          exact REST _ _ _ _ _ _ _ _ _ _ _ _ _ _ hr hb hds htl
    · go_simp
      have bb : Below w3.heap.size w3 (w3.alloc (.cells #[.int .u8 97, .int .u8 98, .int .u8 99] 5)) := (Below.refl _ _).alloc (Nat.le_refl _) _
      have nib := Nat.ne_of_lt lI
      have HR : (w3.alloc (.cells #[.int .u8 97, .int .u8 98, .int .u8 99] 5)).heap[w3.heap.size]? = some (.cells #[.int .u8 97, .int .u8 98, .int .u8 99] 5) := heap_alloc _ _
      have lb : w3.heap.size < (w3.alloc (.cells #[.int .u8 97, .int .u8 98, .int .u8 99] 5)).heap.size := by simp
      have nrb := Nat.ne_of_lt hr.lt
      have rb := Nat.le_of_lt hr.lt
      have HI := HI.grew bb
      have lI := Nat.lt_of_lt_of_le lI bb.size
      have hr := hr.grew bb
      have hb := hb.trans (bb.mono hb.size)
      generalize w3.alloc (.cells #[.int .u8 97, .int .u8 98, .int .u8 99] 5) = w4 at *
      clear bb
      refine hK2.out _ _ hr (fun hr => ?_)
      clear hK2 K2
      refine wpAnyH_ready (rs := [0, 3]) (by kernel_rfl) (by simp) ?_
      refine AllReadyH.cons rfl (fun K2 hK2 => ?_) (AllReadyH.cons rfl (fun K2 hK2 => ?_) AllReadyH.nil)
      · go_simp
        refine Calls.mono (new_any _) ?_
        rintro e w5 ⟨rfl, bb, HF0, -⟩
        have nfb := Nat.ne_of_gt lb
        have HR := (bb.block _ lb).trans HR
        have lb := Nat.lt_of_lt_of_le lb bb.size
        have HI := HI.grew bb
        have hr := hr.grew bb
        have hb := hb.trans (bb.mono hb.size)
        have HF := HF0
        clear HF0 bb
        refine hK2.out _ _ hr (fun hr => ?_)
        clear hK2 K2
        refine wpAnyH_ready (rs := [3]) (by kernel_rfl) (by simp) ?_
        refine AllReadyH.cons rfl (fun K2 hK2 => ?_) AllReadyH.nil
        · obtain ⟨w6, hcv, kp, HR2⟩ := conv_row w5 _ 3 3 _ HR
          refine step_conv_run rfl (.tmp 10) 26 rfl _ rfl _ _ hcv ?_
          have HB : BytesAt w6 _ 3 (listAt [97, 98, 99]) := bytes_of [97, 98, 99] (by decide) HR2
          have hr := hr.kept kp nrb
          have hb := hb.trans (kp.below rb hb.size)
          have HF := HF.kept kp nfb
          have HI := HI.kept kp nib
          clear hcv kp HR HR2
          refine hK2.out _ _ hr (fun hr => ?_)
          clear hK2 K2
          refine wpAnyH_ready (rs := [5]) (by kernel_rfl) (by simp) ?_
          refine AllReadyH.cons rfl (fun K2 hK2 => ?_) AllReadyH.nil
          go_simp
          refine Calls.mono (packets_is _ true frB _ _ 3 _ 2 _ 2 2 65535 9 _ _ (lit2 0 1) (listAt [97, 98, 99]) w6 rfl rfl rfl (FldIs.mk' HF) HB HI (by decide) (by decide) (by decide) (by decide)) ?_
          rintro e w7 hpk
          obtain ⟨v, K, rfl, hds, htl, hbb⟩ := hpk.yes rfl (fit_list (by decide +kernel))
          have hr := hr.grew hbb
          have hb := hb.trans (hbb.mono hb.size)
          obtain ⟨r, cap, rfl, -⟩ := hds.row.any
          refine hK2.out _ _ hr (fun hr => ?_)
          clear hK2 K2
          refine wpAnyH_take (i := 6) (v := .tuple #[.slice r 2 cap, .bool true]) rfl (by kernel_rfl) (by kernel_rfl) (by kernel_rfl) (fun _ _ _ h => h) (Yields.yieldsIf (Or.inl ⟨by kernel_rfl, fun _ => by kernel_rfl⟩)) hr ?_
          refine wpAnyH_take (i := 7) (v := .slice r 2 cap) rfl (by kernel_rfl) (by kernel_rfl) (by kernel_rfl) (fun _ _ _ h => h) (Yields.yieldsIf (Or.inl ⟨by kernel_rfl, fun _ => by go_simp⟩)) hr ?_
          refine wpAnyH_take (i := 8) (v := .bool true) rfl (by kernel_rfl) (by kernel_rfl) (by kernel_rfl) (fun _ _ _ h => h) (Yields.yieldsIf (Or.inl ⟨by kernel_rfl, fun _ => by go_simp⟩)) hr ?_
          refine wpAnyH_take (i := 9) (v := .slice r 2 cap) rfl (by kernel_rfl) (by kernel_rfl) (by kernel_rfl) (fun _ _ _ h => h) (Yields.yieldsIf (Or.inl ⟨by kernel_rfl, fun _ => by kernel_rfl⟩)) hr ?_
          refine wpAnyH_take (i := 10) (v := .bool true) rfl (by kernel_rfl) (by kernel_rfl) (by kernel_rfl) (fun _ _ _ h => h) (Yields.yieldsIf (Or.inl ⟨by kernel_rfl, fun _ => by kernel_rfl⟩)) hr ?_
          refine wpAnyH_done (by kernel_rfl) ?_ _
          exact REST _ _ _ _ _ _ _ _ _ _ _ _ _ _ hr hb hds htl
      · obtain ⟨w5, hcv, kp, HR2⟩ := conv_row w4 _ 3 3 _ HR
        refine step_conv_run rfl (.tmp 10) 26 rfl _ rfl _ _ hcv ?_
        have HB : BytesAt w5 _ 3 (listAt [97, 98, 99]) := bytes_of [97, 98, 99] (by decide) HR2
        have hr := hr.kept kp nrb
        have hb := hb.trans (kp.below rb hb.size)
        have HI := HI.kept kp nib
        clear hcv kp HR HR2
        refine hK2.out _ _ hr (fun hr => ?_)
        clear hK2 K2
        refine wpAnyH_ready (rs := [0]) (by kernel_rfl) (by simp) ?_
        refine AllReadyH.cons rfl (fun K2 hK2 => ?_) AllReadyH.nil
        · go_simp
          refine Calls.mono (new_any _) ?_
          rintro e w6 ⟨rfl, bb, HF0, -⟩
          have HB := HB.grew bb
          have HI := HI.grew bb
          have hr := hr.grew bb
          have hb := hb.trans (bb.mono hb.size)
          have HF := HF0
          clear HF0 bb
          refine hK2.out _ _ hr (fun hr => ?_)
          clear hK2 K2
          refine wpAnyH_ready (rs := [5]) (by kernel_rfl) (by simp) ?_
          refine AllReadyH.cons rfl (fun K2 hK2 => ?_) AllReadyH.nil
          go_simp
          refine Calls.mono (packets_is _ true frB _ _ 3 _ 2 _ 2 2 65535 9 _ _ (lit2 0 1) (listAt [97, 98, 99]) w6 rfl rfl rfl (FldIs.mk' HF) HB HI (by decide) (by decide) (by decide) (by decide)) ?_
          rintro e w7 hpk
          obtain ⟨v, K, rfl, hds, htl, hbb⟩ := hpk.yes rfl (fit_list (by decide +kernel))
          have hr := hr.grew hbb
          have hb := hb.trans (hbb.mono hb.size)
          obtain ⟨r, cap, rfl, -⟩ := hds.row.any
          refine hK2.out _ _ hr (fun hr => ?_)
          clear hK2 K2
          refine wpAnyH_take (i := 6) (v := .tuple #[.slice r 2 cap, .bool true]) rfl (by kernel_rfl) (by kernel_rfl) (by kernel_rfl) (fun _ _ _ h => h) (Yields.yieldsIf (Or.inl ⟨by kernel_rfl, fun _ => by kernel_rfl⟩)) hr ?_
          refine wpAnyH_take (i := 7) (v := .slice r 2 cap) rfl (by kernel_rfl) (by kernel_rfl) (by kernel_rfl) (fun _ _ _ h => h) (Yields.yieldsIf (Or.inl ⟨by kernel_rfl, fun _ => by go_simp⟩)) hr ?_
          refine wpAnyH_take (i := 8) (v := .bool true) rfl (by kernel_rfl) (by kernel_rfl) (by kernel_rfl) (fun _ _ _ h => h) (Yields.yieldsIf (Or.inl ⟨by kernel_rfl, fun _ => by go_simp⟩)) hr ?_
          refine wpAnyH_take (i := 9) (v := .slice r 2 cap) rfl (by kernel_rfl) (by kernel_rfl) (by kernel_rfl) (fun _ _ _ h => h) (Yields.yieldsIf (Or.inl ⟨by kernel_rfl, fun _ => by kernel_rfl⟩)) hr ?_
          refine wpAnyH_take (i := 10) (v := .bool true) rfl (by kernel_rfl) (by kernel_rfl) (by kernel_rfl) (fun _ _ _ h => h) (Yields.yieldsIf (Or.inl ⟨by kernel_rfl, fun _ => by kernel_rfl⟩)) hr ?_
          refine wpAnyH_done (by kernel_rfl) ?_ _
          exact REST _ _ _ _ _ _ _ _ _ _ _ _ _ _ hr hb hds htl
end Go.Proofs.Ythlidbenhlidjaa
