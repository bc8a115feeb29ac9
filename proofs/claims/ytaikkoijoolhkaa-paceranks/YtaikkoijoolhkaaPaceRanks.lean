/-
  Wants are told by rank, then by frame, each once, with all of its bytes: the statement PaceRanks: the call returns true (every row of numbers).
-/
import Derived.Test.YtaikkoijoolhkaaRows
import Derived.WalkKit
import Derived.ProofKit
import Derived.OpenShut
import Derived.ShutString
import Derived.ChangeOld
import Derived.Below
import Derived.Carry
import Derived.Test.YtaikkoijoolhkaaOpn
import Derived.Test.YtaikkoijoolhkaaPbg
import Derived.Test.YtaikkoijoolhkaaPpl
import Derived.Test.YtaikkoijoolhkaaPlp
import Derived.BigQuiet
namespace Go.Proofs.Ytaikkoijoolhkaa.paceRanks
open Go.ChangeShapes Go.WideShapes Go.ChangeAt Go.RowKit
open Go.ChangeMaps (open_string shut_string)
set_option linter.unusedVariables false

theorem own : ownKnob Try.prog.godebug = none := by kernel_rfl
theorem laidOut : laidOutB Try.prog = true := by kernel_rfl

open Go.Deep Go.BigFrame

def itm (x : Nat → Nat) (i : Nat) : It := ⟨x i % 8, 0, ((x i % 8 / 2 % 3 : Nat) : Int), 1 + (i : Int), 1⟩
/-- How many bytes frame f has, of the first k. -/
def byt (x : Nat → Nat) : Nat → Nat → Int
  | 0, _ => 0
  | k + 1, f => if f = x k % 8 then byt x k f + (1 + (k : Int)) else byt x k f
theorem byt_le (x : Nat → Nat) : ∀ k f, 0 ≤ byt x k f ∧ byt x k f ≤ 41 * (k : Int) ∨ 40 < k
  | 0, _ => .inl ⟨Int.le_refl _, by simp [byt]⟩
  | k + 1, f => by
    by_cases hk : 40 < k + 1
    · exact .inr hk
    rcases byt_le x k f with h | h
    · refine .inl ?_
      unfold byt
      split <;> omega
    · omega
/-- What is wanted so far. -/
structure Wx (x : Nat → Nat) (k : Nat) (W : List Wn) : Prop where
  ids : (W.map (·.i)).Nodup
  is : ∀ c, c ∈ W → c.i < 8 ∧ c.r = ((c.i / 2 % 3 : Nat) : Int) ∧ c.b = byt x k c.i ∧ 0 < c.b
  all : ∀ f, f < 8 → 0 < byt x k f → ∃ c, c ∈ W ∧ c.i = f
theorem Wx.next {x : Nat → Nat} {k : Nat} {W : List Wn} (h : Wx x k W) (hk : k < 40) : Wx x (k + 1) (wadd W (itm x k)) := by
  have hb : ∀ f, 0 ≤ byt x k f ∧ byt x k f ≤ 41 * (k : Int) := fun f => by rcases byt_le x k f with h | h; exact h; omega
  have hx8 : x k % 8 < 8 := Nat.mod_lt _ (by decide)
  have hstep : ∀ f, byt x (k + 1) f = if f = x k % 8 then byt x k f + (1 + (k : Int)) else byt x k f := fun f => rfl
  unfold wadd
  show Wx x (k + 1) (match wplc W (x k % 8) with | some q => W.modify q (bump (itm x k)) | none => W ++ [bump (itm x k) ⟨x k % 8, ((x k % 8 / 2 % 3 : Nat) : Int), 0⟩])
  cases hp : wplc W (x k % 8) with
  | some q =>
    obtain ⟨hq, hqi⟩ := wplc_some hp
    refine ⟨by rw [modify_ids]; exact h.ids, fun c hc => ?_, fun f hf hpos => ?_⟩
    · obtain ⟨i, hi, rfl⟩ := List.mem_iff_getElem.1 hc
      rw [List.length_modify] at hi
      have hci := h.is _ (List.getElem_mem hi)
      rw [List.getElem_modify]
      by_cases e : q = i
      · rw [if_pos e]
        subst e
        unfold bump
        rw [if_pos (show W[q].i = (itm x k).f from hqi)]
        refine ⟨hci.1, hci.2.1, ?_, ?_⟩
        · show min (W[q].b + (1 + (k : Int))) 65536 = byt x (k + 1) W[q].i
          rw [hstep, if_pos hqi, hci.2.2.1]
          have := hb W[q].i
          omega
        · show 0 < min (W[q].b + (1 + (k : Int))) 65536
          have := hci.2.2.2
          omega
      · rw [if_neg e]
        have hne : W[i].i ≠ x k % 8 := by
          intro e2
          have hpw := h.ids
          rw [List.Nodup, List.pairwise_map] at hpw
          rcases Nat.lt_or_ge q i with g | g
          · exact List.pairwise_iff_getElem.1 hpw q i hq hi g (hqi.trans e2.symm)
          · exact List.pairwise_iff_getElem.1 hpw i q hi hq (by omega) (e2.trans hqi.symm)
        refine ⟨hci.1, hci.2.1, ?_, hci.2.2.2⟩
        rw [hstep, if_neg hne]
        exact hci.2.2.1
    · by_cases e : f = x k % 8
      · subst e
        refine ⟨(W.modify q (bump (itm x k)))[q]'(by rw [List.length_modify]; exact hq), List.getElem_mem _, ?_⟩
        rw [List.getElem_modify, if_pos rfl]
        unfold bump
        split <;> exact hqi
      · rw [hstep, if_neg e] at hpos
        obtain ⟨c, hc, hci⟩ := h.all f hf hpos
        have hm : f ∈ (W.modify q (bump (itm x k))).map (·.i) := by
          rw [modify_ids]
          exact List.mem_map.2 ⟨c, hc, hci⟩
        obtain ⟨d, hd, hdi⟩ := List.mem_map.1 hm
        exact ⟨d, hd, hdi⟩
  | none =>
    have hno := wplc_none hp
    have hz : byt x k (x k % 8) = 0 := by
      by_cases e : 0 < byt x k (x k % 8)
      · obtain ⟨c, hc, hci⟩ := h.all _ hx8 e
        exact absurd hci (hno c hc)
      · have := hb (x k % 8); omega
    have hbmp : bump (itm x k) ⟨x k % 8, ((x k % 8 / 2 % 3 : Nat) : Int), 0⟩ = ⟨x k % 8, ((x k % 8 / 2 % 3 : Nat) : Int), 1 + (k : Int)⟩ := by
      unfold bump
      rw [if_pos (show (⟨x k % 8, ((x k % 8 / 2 % 3 : Nat) : Int), 0⟩ : Wn).i = (itm x k).f from rfl)]
      show (⟨_, _, min (0 + (1 + (k : Int))) 65536⟩ : Wn) = _
      rw [show min (0 + (1 + (k : Int))) 65536 = 1 + (k : Int) by omega]
    show Wx x (k + 1) (W ++ [bump (itm x k) ⟨x k % 8, ((x k % 8 / 2 % 3 : Nat) : Int), 0⟩])
    rw [hbmp]
    refine ⟨?_, fun c hc => ?_, fun f hf hpos => ?_⟩
    · rw [List.map_append, List.nodup_append]
      refine ⟨h.ids, by simp, fun a ha b hb => ?_⟩
      obtain ⟨c, hc, rfl⟩ := List.mem_map.1 ha
      simp at hb
      subst hb
      exact hno c hc
    · rcases List.mem_append.1 hc with hc | hc
      · have hci := h.is c hc
        refine ⟨hci.1, hci.2.1, ?_, hci.2.2.2⟩
        rw [hstep, if_neg (hno c hc)]
        exact hci.2.2.1
      · simp at hc
        subst hc
        refine ⟨hx8, rfl, ?_, by show (0 : Int) < 1 + (k : Int); omega⟩
        show 1 + (k : Int) = byt x (k + 1) (x k % 8)
        rw [hstep, if_pos rfl, hz]
        omega
    · by_cases e : f = x k % 8
      · subst e
        exact ⟨_, List.mem_append.2 (.inr (List.mem_singleton.2 rfl)), rfl⟩
      · rw [hstep, if_neg e] at hpos
        obtain ⟨c, hc, hci⟩ := h.all f hf hpos
        exact ⟨c, List.mem_append.2 (.inl hc), hci⟩
theorem wx_all (x : Nat → Nat) : ∀ k, k ≤ 40 → Wx x k (wfold (items (itm x) k))
  | 0, _ => ⟨by simp [items, wfold], fun c hc => by simp [items, wfold] at hc, fun f _ h => by simp [byt] at h⟩
  | k + 1, hk => by
    rw [items_next, wfold_snoc]
    exact (wx_all x k (by omega)).next (by omega)
/-- How many of the first f frames have bytes. -/
def nf (x : Nat → Nat) (k : Nat) : Nat → Nat
  | 0 => 0
  | f + 1 => if 0 < byt x k f then nf x k f + 1 else nf x k f
theorem nf_le (x : Nat → Nat) (k : Nat) : ∀ f, nf x k f ≤ f
  | 0 => Nat.le_refl _
  | f + 1 => by
    have := nf_le x k f
    unfold nf
    split <;> omega
theorem nf_filter (x : Nat → Nat) (k : Nat) : ∀ f, nf x k f = ((List.range f).filter (fun g => decide (0 < byt x k g))).length
  | 0 => rfl
  | f + 1 => by
    rw [List.range_succ, List.filter_append, List.length_append, ← nf_filter x k f]
    have e : nf x k (f + 1) = if 0 < byt x k f then nf x k f + 1 else nf x k f := rfl
    rw [e]
    by_cases h : 0 < byt x k f
    · simp [h]
    · simp [h]
theorem nf_is {x : Nat → Nat} {k : Nat} {W : List Wn} (h : Wx x k W) : W.length = nf x k 8 := by
  have e : W.length = (W.map (·.i)).length := by rw [List.length_map]
  rw [nf_filter, e]
  refine List.Perm.length_eq ((List.perm_ext_iff_of_nodup h.ids ((List.nodup_range).filter _)).2 fun f => ?_)
  rw [List.mem_filter, List.mem_range, List.mem_map]
  constructor
  · rintro ⟨c, hc, rfl⟩
    have := h.is c hc
    exact ⟨this.1, by rw [← this.2.2.1]; simpa using this.2.2.2⟩
  · rintro ⟨h1, h2⟩
    obtain ⟨c, hc, hci⟩ := h.all f h1 (by simpa using h2)
    exact ⟨c, hc, hci⟩

/-- The array at q: how many bytes each frame has. -/
def Arr (W : World) (q : Nat) (x : Nat → Nat) (k : Nat) : Prop := ∀ f, f < 8 → W.cell? ⟨q, f, none⟩ = some (.int .i64 (byt x k f)) ∧ W.frozen? ⟨q, f, none⟩ = false
theorem Arr.block {W W' : World} {q k : Nat} {x : Nat → Nat} (h : Arr W q x k) (e : W'.heap[q]? = W.heap[q]?) : Arr W' q x k := fun f hf =>
  ⟨(World.cell?_of_block (a := ⟨q, f, none⟩) e).trans (h f hf).1, (World.frozen?_of_block (a := ⟨q, f, none⟩) e).trans (h f hf).2⟩
theorem Arr.made (W : World) (T : TypeId) (x : Nat → Nat) : Arr (W.alloc (.cells #[.int .i64 0, .int .i64 0, .int .i64 0, .int .i64 0, .int .i64 0, .int .i64 0, .int .i64 0, .int .i64 0] T)) W.heap.size x 0 := fun f hf => by
  refine ⟨?_, by rw [World.frozen?_alloc_at _ _ _ _ rfl]⟩
  rw [World.cell?_alloc_at _ _ _ _ rfl]
  match f, hf with
  | 0, _ => rfl
  | 1, _ => rfl
  | 2, _ => rfl
  | 3, _ => rfl
  | 4, _ => rfl
  | 5, _ => rfl
  | 6, _ => rfl
  | 7, _ => rfl
theorem Arr.next {W : World} {q k : Nat} {x : Nat → Nat} (h : Arr W q x k) : Arr (W.setCell ⟨q, x k % 8, none⟩ (.int .i64 (byt x k (x k % 8) + (1 + (k : Int))))) q x (k + 1) := fun f hf => by
  refine ⟨?_, by rw [World.frozen?_setCell]; exact (h f hf).2⟩
  have e0 : byt x (k + 1) f = if f = x k % 8 then byt x k f + (1 + (k : Int)) else byt x k f := rfl
  rw [e0]
  by_cases e : f = x k % 8
  · rw [if_pos e]
    subst e
    rw [World.cell?_setCell_same _ _ _ (h _ hf).1]
  · rw [if_neg e, World.cell?_setCell_other _ _ _ _ (by intro e2; exact e ((Addr.mk.inj e2).2.1).symm)]
    exact (h f hf).1
theorem Lp.put {w0 W : World} {B q i : Nat} {l : List It} {v : Value} (h : Lp w0 B l [q] W) (hq : w0.heap.size ≤ q) : Lp w0 B l [q] (W.setCell ⟨q, i, none⟩ v) := by
  obtain ⟨u, h1, h2⟩ := h.ex
  obtain ⟨p1, p2⟩ := h2 q (by simp)
  have hk := Kept.set (R := q) W i v
  exact ⟨⟨u, h1.block (fun k hk' => hk.block k (h1.feet hk').2 (fun e => p2 (e ▸ hk'))), fun k hk' => by simp at hk'; subst hk'; exact ⟨Nat.lt_of_lt_of_le p1 hk.size, p2⟩⟩, h.bel.trans (hk.below hq h.bel.size), h.ok⟩

set_option maxRecDepth 100000 in
set_option maxHeartbeats 8000000 in
theorem walk (a : Option Addr) (n c : Nat) (x : Nat → Nat) (w : World) (hK : BytesAt w a n x ∧ n ≤ c ∧ c ≤ maxLen) :
    Calls Try.prog 7 #[.slice a n c] w fun e w' => e = .returned (.bool true) ∧ Below w.heap.size w w' := by
  obtain ⟨hK, hc1, hc2⟩ := hK
  have hB : Hid (Calls Try.prog 8 #[] w fun e w' => e = .returned (.bool true) ∧ Below w.heap.size w w') := begun22 w
  have HK : Hid (BytesAt w a n x) := hK
  have hn64 : (n : Int) ≤ 9223372036854775807 := by unfold maxLen at hc2; omega
  clear hK hc1 hc2
  by_cases h40 : 40 < n
  · have i1 : (40 : Int) < (n : Int) := by omega
    clear h40
    go_enter Try.func7, Try.ntmps7
    go_wp2_with fail
    refine hB.out.mono ?_
    rintro e w1 ⟨rfl, b1⟩
    have HB : Hid (Below w.heap.size w w1) := b1
    clear b1 hB
    go_wp2
    go_ret
    exact ⟨rfl, HB.out⟩
  have i1 : decide ((40 : Int) < (n : Int)) = false := by simp; omega
  have hn : n ≤ 40 := by omega
  clear h40 hn64
  go_enter Try.func7, Try.ntmps7
  go_wp2_with fail
  refine hB.out.mono ?_
  rintro e w1 ⟨rfl, b1⟩
  obtain ⟨B, hB1⟩ : ∃ B, w1.heap.size = B := ⟨_, rfl⟩
  obtain ⟨x1, e1⟩ : ∃ x, w1.alloc (.cells #[.slice none 0 0] 55) = x := ⟨_, rfl⟩
  obtain ⟨Q, hQ⟩ : ∃ Q, x1.heap.size = Q := ⟨_, rfl⟩
  obtain ⟨x2, e2⟩ : ∃ y, x1.alloc (.cells #[.int .i64 0, .int .i64 0, .int .i64 0, .int .i64 0, .int .i64 0, .int .i64 0, .int .i64 0, .int .i64 0] 52) = y := ⟨_, rfl⟩
  have HN : Hid (Calls Try.prog 9 #[] w1 fun e w' => e = .returned (.pointer (some ⟨B, 0, none⟩)) ∧ w' = x1) := by
    rw [← hB1, ← e1]
    exact pnew_any w1
  have L1 : Lp w B (items (itm x) 0) [] x1 := by
    rw [← e1, ← hB1]
    exact Lv.lp ⟨⟨_, QAt.made w1 w.heap.size _ b1.size⟩, b1.trans (((Below.refl _ _).alloc (Nat.le_refl _) _).mono b1.size), Okl.nil⟩
  have HL : Hid (Lp w B (items (itm x) 0) [Q] x2) := by
    rw [← e2, ← hQ]
    exact L1.add ((Below.refl _ _).alloc (Nat.le_refl _) _) (Nat.le_refl _) (by simp)
  have HA : Hid (Arr x2 Q x 0) := by
    rw [← e2, ← hQ]
    exact Arr.made x1 _ x
  have HQ : Hid (w.heap.size ≤ Q) := by rw [← hQ]; exact L1.bel.size
  clear hB b1 hB1 e1 L1
  go_wp2_with fail
  refine HN.out.mono ?_
  rintro e w' ⟨rfl, hw⟩
  subst w'
  clear HN
  go_wp2_with fail
  clear e2 hQ
  go_loopw [5] (fun iv wr => ∃ k : Nat, k ≤ n ∧ iv = .int .i64 (k : Int) ∧ Hid (Arr wr Q x k) ∧ Hid (Lp w B (items (itm x) k) [Q] wr)) (fun iv _ => n - (intOf iv).toNat)
  case atStart => exact ⟨0, Nat.zero_le _, rfl, HA, HL⟩
  case round =>
    obtain ⟨k, hk, rfl, ha, hl⟩ := hrel
    clear HA HL
    have hkb : k ≤ 40 := by omega
    by_cases h : k < n
    · have i2 : (k : Int) < (n : Int) := by omega
      obtain ⟨ab, ao, rfl⟩ := bytes_some HK.out (by omega)
      have c0 := bytes_cell (HK.out.below hl.out.bel (Nat.le_refl _)) k h
      have hx := HK.out.lt k h
      have HI : Hid (items (itm x) (k + 1) = items (itm x) k ++ [itm x k]) := items_next _ _
      have HIT : Hid (itm x k = ⟨x k % 8, 0, ((x k % 8 / 2 % 3 : Nat) : Int), 1 + (k : Int), 1⟩) := rfl
      have HAN : Hid (∀ W : World, Arr W Q x k → Arr (W.setCell ⟨Q, x k % 8, none⟩ (.int .i64 (byt x k (x k % 8) + (1 + (k : Int))))) Q x (k + 1)) := fun W h => h.next
      obtain ⟨X, hX⟩ : ∃ X, x k = X := ⟨_, rfl⟩
      rw [hX] at c0 hx HIT HAN
      obtain ⟨F, hF⟩ : ∃ F : Nat, X % 8 = F := ⟨_, rfl⟩
      obtain ⟨h2, hh2⟩ : ∃ h2 : Nat, F / 2 = h2 := ⟨_, rfl⟩
      obtain ⟨r3, hr3⟩ : ∃ r3 : Nat, h2 % 3 = r3 := ⟨_, rfl⟩
      rw [hF, hh2, hr3] at HIT
      rw [hF] at HAN
      have hF8 : F < 8 := by omega
      have g1 : (X : Int) % 8 = (F : Int) := by omega
      have g2 : (F : Int) / 2 = (h2 : Int) := by omega
      have g3 : (h2 : Int).tmod 3 = (r3 : Int) := by rw [Int.tmod_eq_emod_of_nonneg (by omega)]; omega
      have g4 : (h2 : Int) % 3 = (r3 : Int) := by omega
      have hr3b : r3 < 3 := by omega
      have hb := byt_le x k F
      have hb2 : 0 ≤ byt x k F ∧ byt x k F ≤ 1640 := by rcases hb with h | h <;> omega
      have CALL : Hid (Calls Try.prog 10 #[.pointer (some ⟨B, 0, none⟩), .agg #[.int .u32 (F : Int), .int .i64 0, .int .i64 (r3 : Int), .int .i64 (1 + (k : Int)), .int .i64 1]] wr fun e w' => e = .returned (.bool true) ∧ Lp w B (items (itm x) (k + 1)) [Q] w' ∧ ∀ q, q ∈ [Q] → w'.heap[q]? = wr.heap[q]?) := by
        rw [HI.out, HIT.out]
        exact put_lp ⟨F, 0, (r3 : Int), 1 + (k : Int), 1⟩ hl.out ⟨by show 1 ≤ 1 + (k : Int); omega, by show 1 + (k : Int) ≤ 65536; omega, by rw [items_len]; omega⟩ (by show F < 4294967296; omega)
      have HAR : Hid (Arr wr Q x k) := ha
      clear hX hF hh2 hr3 ha hl hb
      go_wp2_with fail
      refine CALL.out.mono ?_
      rintro e w2 ⟨rfl, L2, hk2⟩
      have A2 : Arr w2 Q x k := HAR.out.block (hk2 Q (by simp))
      obtain ⟨d0, d1⟩ := A2 F hF8
      have HL3 : Hid (Lp w B (items (itm x) (k + 1)) [Q] (w2.setCell ⟨Q, F, none⟩ (.int .i64 (byt x k F + (1 + (k : Int)))))) := Lp.put L2 HQ.out
      have HA3 : Hid (Arr (w2.setCell ⟨Q, F, none⟩ (.int .i64 (byt x k F + (1 + (k : Int))))) Q x (k + 1)) := HAN.out w2 A2
      have g5 : IntKind.i64.wrap (byt x k F + (1 + (k : Int))) = byt x k F + (1 + (k : Int)) := w64 _ (by omega) (by omega)
      generalize byt x k F = Z at *
      clear CALL L2 hk2 A2 HAR HAN c0
      go_wp2_with fail
      go_roundw
      case rel => exact ⟨k + 1, by omega, by go_num, HA3, HL3⟩
      case measure => simp [intOf]; omega
    · obtain rfl : k = n := by omega
      have i2 : decide ((k : Int) < (k : Int)) = false := by simp
      have HW : Hid (Wx x k (wfold (items (itm x) k))) := wx_all x k hn
      have C1 : Hid (Calls Try.prog 21 #[.pointer (some ⟨B, 0, none⟩)] wr (WantsIs (items (itm x) k) wr)) := by
        obtain ⟨v, q1, -⟩ := hl.out.ex
        exact wants_any _ B v _ wr q1 (show _ ≤ 100000 by rw [items_len]; omega) (fun a ha => by have := hl.out.ok.bts a ha; omega) hl.out.ok.frm
      have HAR : Hid (Arr wr Q x k) := ha
      have HX : Hid (Below w.heap.size w wr) := hl.out.bel
      have HQl : Hid (Q < wr.heap.size) := by
        have := (ha.out 0 (by decide)).1
        exact cell_lt this
      clear ha hl
      go_wp2_with fail
      refine C1.out.mono ?_
      rintro e w2 ⟨r, cp, s, rfl, ht, hls, b2, -⟩
      have HA2 : Hid (Arr w2 Q x k) := HAR.out.block (b2.block Q HQl.out)
      have HX2 : Hid (Below w.heap.size w w2) := HX.out.trans (b2.mono HX.out.size)
      have hNl := nf_is HW.out
      have hNs : s.length = nf x k 8 := by rw [← hNl]; exact ht.perm.length_eq
      have HNs : Hid (s.length = nf x k 8) := hNs
      rw [hNl]
      have HS : Hid (∀ i (hi : i < s.length), s[i].i < 8 ∧ s[i].r = ((s[i].i / 2 % 3 : Nat) : Int) ∧ s[i].b = byt x k s[i].i) := fun i hi => by
        have := HW.out.is s[i] (ht.perm.mem_iff.1 (List.getElem_mem hi))
        exact ⟨this.1, this.2.1, this.2.2.1⟩
      have HO : Hid (∀ i j (hi : i < s.length) (hj : j < s.length), i < j → s[i].r < s[j].r ∨ (s[i].r = s[j].r ∧ s[i].i < s[j].i)) := fun i j hi hj hij => by
        have h1 := List.pairwise_iff_getElem.1 ht.ord i j hi hj hij
        have hnd : (s.map (·.i)).Nodup := ((ht.perm.map (·.i)).nodup_iff).2 HW.out.ids
        rw [List.Nodup, List.pairwise_map] at hnd
        have h2 := List.pairwise_iff_getElem.1 hnd i j hi hj hij
        unfold Wn.lt at h1
        omega
      have HLS : Hid (LsAt wE w2 r s) := hls
      have HNF : Hid (∀ f, nf x k f ≤ f) := nf_le x k
      clear C1 HAR HX HQl b2 ht hls hNl hNs HW
      go_wp2_with fail
      generalize wr = wo at *
      go_loopw [8, 9] (fun nv fv wr => ∃ f : Nat, f ≤ 8 ∧ fv = .int .i64 (f : Int) ∧ nv = .int .i64 (nf x k f : Int) ∧ Hid (Same w2 wr)) (fun _ fv _ => 8 - (intOf fv).toNat)
      case atStart => exact ⟨0, Nat.zero_le _, rfl, rfl, Same.refl _⟩
      case round =>
        obtain ⟨f, hf, rfl, rfl, hs⟩ := hrel
        by_cases hf8 : f < 8
        · have j1 : decide (f < 8) = true := by simpa using hf8
          have j1' : (f : Int) < 8 := by omega
          have d0 := ((HA2.out.block ((hs.out.below (Q + 1)).block Q (Nat.lt_succ_self Q))) f hf8).1
          have HNn : Hid (nf x k (f + 1) = if 0 < byt x k f then nf x k f + 1 else nf x k f) := rfl
          have hnf := HNF.out f
          by_cases hz : 0 < byt x k f
          · have j2 : decide (0 < byt x k f) = true := decide_eq_true hz
            have HN1 : Hid (nf x k (f + 1) = nf x k f + 1) := by show _ = _; rw [HNn.out, if_pos hz]
            generalize byt x k f = Z at *
            clear hz HNn
            go_wp2_with fail
            go_roundw
            case rel => exact ⟨f + 1, by omega, by go_num, by rw [HN1.out]; go_num, hs⟩
            case measure => simp [intOf]; omega
          · have j2 : decide (0 < byt x k f) = false := decide_eq_false hz
            have HN1 : Hid (nf x k (f + 1) = nf x k f) := by show _ = _; rw [HNn.out, if_neg hz]
            generalize byt x k f = Z at *
            clear hz HNn
            go_wp2_with fail
            go_roundw
            case rel => exact ⟨f + 1, by omega, by go_num, by rw [HN1.out], hs⟩
            case measure => simp [intOf]; omega
        · obtain rfl : f = 8 := by omega
          have hnf := HNF.out 8
          obtain ⟨N, hN⟩ : ∃ N, nf x k 8 = N := ⟨_, rfl⟩
          have HNs2 : Hid (s.length = N) := by show _ = _; rw [← hN]; exact HNs.out
          rw [hN] at hnf
          rw [hN]
          clear hN HNs
          go_wp2_with fail
          generalize wr = wp at *
          go_loopw [10] (fun iv wr => ∃ i : Nat, i ≤ N ∧ iv = .int .i64 (i : Int) ∧ Hid (Same w2 wr)) (fun iv _ => N - (intOf iv).toNat)
          case atStart => exact ⟨0, Nat.zero_le _, rfl, hs⟩
          case round =>
            clear hs
            obtain ⟨i, hi, rfl, hs⟩ := hrel
            by_cases hiN : i < N
            · have j1 : (i : Int) < (N : Int) := by omega
              have his : i < s.length := by rw [HNs2.out]; exact hiN
              obtain ⟨b0, o0, rfl⟩ := HLS.out.addr (by omega)
              have hls2 := HLS.out.below (hs.out.below w2.heap.size) (Nat.le_refl _)
              obtain ⟨c0, c1, c2⟩ := ls_wn hls2 i his
              obtain ⟨q1, q2, q3⟩ := HS.out i his
              have d0 := ((HA2.out.block ((hs.out.below (Q + 1)).block Q (Nat.lt_succ_self Q))) s[i].i q1).1
              rw [← q3] at d0
              obtain ⟨h2, hh2⟩ : ∃ h2 : Nat, s[i].i / 2 = h2 := ⟨_, rfl⟩
              rw [hh2] at q2
              have g2 : (s[i].i : Int) / 2 = (h2 : Int) := by omega
              have g3 : (h2 : Int).tmod 3 = s[i].r := by rw [Int.tmod_eq_emod_of_nonneg (by omega)]; omega
              have g4 : (h2 : Int) % 3 = s[i].r := by omega
              have hh3 : h2 < 4 := by omega
              have g6 : IntKind.u32.wrap (h2 : Int) = (h2 : Int) := by rw [IntKind.wrap_u32']; omega
              have g7 : IntKind.i64.wrap (h2 : Int) = (h2 : Int) := w64 _ (by omega) (by omega)
              have q5 : (s[i].i : Int) < 8 := by omega
              have q6 : ¬ (8 ≤ s[i].i) := by omega
              have j2 : decide (7 < s[i].i) = false := by simp; omega
              have j2' : decide ((7 : Int) < (s[i].i : Int)) = false := by simp; omega
              by_cases h0 : i = 0
              · have j3 : decide (0 < i) = false := by simp; omega
                generalize s[i] = C at *
                clear q2 q3 hh2 h0 hls2
                go_wp2_with fail
                refine wp_region_quiet_lit (by kernel_rfl) (by kernel_rfl) ?_
                dsimp only [List.append]
                repeat (go_big_quiet_step (fail))
                refine wpQuiet_nil ?_
                intro _ hw'
                obtain ⟨nq, hw''⟩ := hw'
                subst hw''
                go_wp2_with fail
                go_roundw
                case rel => exact ⟨i + 1, by omega, by go_num, hs.out.trans ⟨_, rfl⟩⟩
                case measure => simp [intOf]; omega
              · obtain ⟨j, hj⟩ : ∃ j, i = j + 1 := ⟨i - 1, by omega⟩
                have j3 : decide (0 < i) = true := by simp; omega
                have j4 : IntKind.i64.wrap ((i : Int) - 1) = (j : Int) := by rw [w64 _ (by omega) (by omega)]; omega
                have j5 : (j : Int) < (N : Int) := by omega
                have hjs : j < s.length := by omega
                obtain ⟨p0, p1, p2⟩ := ls_wn hls2 j hjs
                have hor := HO.out j i hjs his (by omega)
                obtain ⟨p4, -⟩ := HS.out j hjs
                generalize s[i] = C at *
                generalize s[j] = D at *
                rcases hor with hor | ⟨ho1, ho2⟩
                · have k1 : decide (C.r < D.r) = false := by simp; omega
                  have k2 : (D.r == C.r) = false := by simp; omega
                  clear q2 q3 hh2 h0 hls2 hor hj
                  go_wp2_with fail
                  refine wp_region_quiet_lit (by kernel_rfl) (by kernel_rfl) ?_
                  dsimp only [List.append]
                  repeat (go_big_quiet_step (fail))
                  refine wpQuiet_nil ?_
                  intro _ hw'
                  obtain ⟨nq, hw''⟩ := hw'
                  subst hw''
                  go_wp2_with fail
                  go_roundw
                  case rel => exact ⟨i + 1, by omega, by go_num, hs.out.trans ⟨_, rfl⟩⟩
                  case measure => simp [intOf]; omega
                · have k1 : decide (C.r < C.r) = false := by simp
                  have k3 : decide (C.i ≤ D.i) = false := by simp; omega
                  rw [ho1] at p1
                  clear q2 q3 hh2 h0 hls2 ho1 ho2 hj
                  go_wp2_with fail
                  refine wp_region_quiet_lit (by kernel_rfl) (by kernel_rfl) ?_
                  dsimp only [List.append]
                  repeat (go_big_quiet_step (fail))
                  refine wpQuiet_nil ?_
                  intro _ hw'
                  obtain ⟨nq, hw''⟩ := hw'
                  subst hw''
                  go_wp2_with fail
                  go_roundw
                  case rel => exact ⟨i + 1, by omega, by go_num, hs.out.trans ⟨_, rfl⟩⟩
                  case measure => simp [intOf]; omega
            · obtain rfl : i = N := by omega
              have j1 : decide ((i : Int) < (i : Int)) = false := by simp
              have HE : Hid (Below w.heap.size w wr) := HX2.out.trans (hs.out.below _)
              clear hs
              go_wp2
              go_ret
              exact ⟨rfl, HE.out⟩

set_option maxRecDepth 100000 in
theorem lifted (os : Os) (started : os.Started) (H : Type) (enc : TypeId × Value → H) :
    ReturnsInHanded {} Try.checked os 7 .any (Rows.paceRanksSpec.pre6 enc Try.prog Try.f7 Rows.paceRanksRow.domain false) (Rows.paceRanksSpec.post enc Try.prog Try.f7 false true false false) := by
  refine returnsInHanded_of_change (C := Try.checked) own started (by kernel_rfl) Try.func7
    (ChangeSpec.witness6 (enc := enc) (C := Try.checked) false ⟨#[], #[.slice none 0 0], []⟩ 8 (by kernel_rfl) (by kernel_rfl) (by kernel_rfl) (by kernel_rfl)) ?_
  intro W base args ds gs before hval0 hW hcnd _
  have hval : ∀ (j : Nat) t v, Try.f7.params[j]? = some t → args[j]? = some v → Value.okWide Try.prog W .any base t v := hval0
  have hW' := hW
  obtain ⟨p, q, hA0, hV, rfl, hfz, hnd⟩ := hW
  have hA : DataW.TrodAll enc Try.prog W 0 (fun _ => true) true Try.f7.params.toList args.toList ds p := hA0
  rw [Try.params7] at hA hval
  obtain ⟨v0, vs0, d0, ds0, p0, q0, hargs, rfl, rfl, h0, r0⟩ := trodAll_cons hA
  obtain ⟨rfl, rfl, rfl⟩ := trodAll_nil r0
  obtain rfl : args = #[v0] := by cases args; simp_all
  obtain ⟨rfl, rfl⟩ := trodVars_none hV
  obtain ⟨a0, len0, cap0, rfl⟩ := okWide_slice Try.underlying47 (hval 0 47 v0 rfl rfl)
  have k0 := h0
  have lt0 : ∀ x ∈ p0, x.block < W.heap.size := by obtain ⟨m, hm⟩ := k0; exact DataW.trod_lt m _ _ _ hm
  obtain ⟨x0, w0⟩ : ∃ x, BytesAt W a0 len0 x ∧ len0 ≤ cap0 ∧ cap0 ≤ maxLen := open_bytes Try.underlying47 Try.underlying5 (by kernel_rfl) h0
  clear hA0 hval0
  refine (walk a0 len0 cap0 x0 W w0).mono fun e W' ⟨he, bel⟩ => ?_
  subst he
  exact ⟨_, rfl, _, _, _, [], _, [], hW', trodAll_mk1 (shut_bool Try.underlying4 _), (trodAll_cons_mk (Below.trod laidOut (by kernel_rfl) (of_decide_eq_true (by kernel_rfl)) k0 bel lt0) trodAll_mk0), rfl, bel.frame _, fun h => by cases h⟩

theorem over : Rows.paceRanksRow.holds Try.pinned (OpenSpec.ofChange Rows.paceRanksSpec) :=
  OpenClaim.holds_of_wide 7 Try.f7 rfl rfl rfl rfl rfl rfl rfl ⟨rfl, rfl, rfl, rfl, rfl⟩ rfl rfl rfl rfl rfl (by kernel_rfl) Try.func7 (by kernel_rfl)
    (of_decide_eq_true (by kernel_rfl)) (by unfold Func.isWrapper; first | (rw [if_pos (by decide +kernel)]; kernel_rfl) | (rw [if_neg (by decide +kernel)]; exact ⟨rfl, rfl⟩))
    (fun os started H enc _ => lifted os started H enc)

theorem proved : Rows.PaceRanksSaid := over
end Go.Proofs.Ytaikkoijoolhkaa.paceRanks
namespace Go.Proofs.Ytaikkoijoolhkaa
theorem paceRanks_holds : Rows.PaceRanksSaid := paceRanks.proved
#print axioms paceRanks_holds
end Go.Proofs.Ytaikkoijoolhkaa
