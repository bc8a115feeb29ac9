/-
  copy, of bytes onto a row of bytes.
-/
import Derived.Test.YthlidbenhlidjaaMem
import Derived.Laws.CopyOwn
import Derived.Deep.RegionLaw
namespace Go.Proofs.Ythlidbenhlidjaa
open Go.RowKit Go.Deep

/-- A row of bytes. -/
def byteAt (f : Nat → Nat) (i : Nat) : Value := .int .u8 (f i : Int)
/-- The row f with n bytes of x laid over it from off on. -/
def over (f x : Nat → Nat) (off n i : Nat) : Nat := if off ≤ i ∧ i < off + n then x (i - off) else f i

theorem copy_run (w : World) (ty : TypeId) (g off dLen dCap K : Nat) (f : Nat → Nat) (a : Option Addr) (sLen sCap : Nat) (x : Nat → Nat)
    (hr : w.rowIs g 5 K (byteAt f)) (hx : BytesAt w a sLen x) (hfit : off + min sLen dLen ≤ K) :
    ∃ w', (Builtin.copy_ #[26, 26] ty #[.slice (some ⟨g, off, none⟩) dLen dCap, .slice a sLen sCap]).run Try.prog w = .ok (goInt (min sLen dLen : Nat)) w' ∧
      w'.rowIs g 5 K (byteAt (over f x off (min sLen dLen))) ∧ Kept g w w' ∧ w'.heap.size = w.heap.size := by
  have hsz : (Try.prog.info? 5).map (·.size) = some 1 := by
    obtain ⟨i0, hi, hz0, hz1, hz2⟩ := info_parts Try.infoByte
    rw [hi]
    exact congrArg some hz1
  by_cases h0 : min sLen dLen = 0
  · refine ⟨w, ?_, hr.congr fun i _ => ?_, Kept.refl _ _, rfl⟩
    · rw [run_copy_none (P := Try.prog) w 26 26 ty 5 _ _ dLen dCap sLen sCap Try.underlying26 hsz h0, h0]
      rfl
    · unfold byteAt over
      rw [if_neg (by omega)]
  · obtain ⟨b, o, rfl, hc⟩ := hx.cells (by omega)
    obtain ⟨c, hb, hn, hcc⟩ := hr
    have hl : (cellsAt x 0 (min sLen dLen)).length = min sLen dLen := cellsAt_len _ _ _
    have hrun := run_copy_row (P := Try.prog) w 26 26 ty 5 g off dLen dCap ⟨b, o, none⟩ sLen sCap c 5 (cellsAt x 0 (min sLen dLen)) Try.underlying26 hsz hb hl
      (fun j v hj => by
        obtain ⟨hjn, rfl⟩ := cellsAt_get _ _ _ _ _ hj
        rw [Addr.add_mid, Nat.zero_add]
        exact hc j (by omega)) (by rw [hl]; omega) (cellsAt_one _ _ _)
    rw [hl] at hrun
    refine ⟨_, hrun, ⟨_, setRow_heap w g c _ 5 _ hb, ?_, fun i hi => ?_⟩, ⟨rfl, rfl, rfl, by simp [World.setRow], fun k _ hk => setRow_other w g k _ hk⟩, by simp [World.setRow]⟩
    · simp [hl]
      omega
    · have hci := hcc i hi
      simp only [List.getElem?_toArray]
      unfold byteAt over
      by_cases h1 : i < off
      · rw [if_neg (by omega), List.append_assoc, List.getElem?_append_left (by simp; omega), List.getElem?_take_of_lt h1, Array.getElem?_toList]
        exact hci
      · by_cases h2 : i < off + min sLen dLen
        · rw [if_pos (by omega), List.append_assoc, List.getElem?_append_right (by simp; omega), List.getElem?_append_left (by simp [hl]; omega)]
          simp only [List.length_take, Array.length_toList]
          rw [show i - min off c.size = i - off by omega]
          simp [cellsAt, show i - off < min sLen dLen by omega]
        · rw [if_neg (by omega), List.append_assoc, List.getElem?_append_right (by simp; omega), List.getElem?_append_right (by simp [hl]; omega), List.getElem?_drop]
          simp only [List.length_take, Array.length_toList, hl]
          rw [show off + min sLen dLen + (i - min off c.size - min sLen dLen) = i by omega, Array.getElem?_toList]
          exact hci

/-- .. as one step of a region that draws. -/
theorem step_copy_run {ops : Array Oper} {o : Oper} {A : Act} {w : World} {C : Act → World → Prop} {Q : Exit → Act → World → Prop} {E : Prop}
    (hg : o.guard = none) (d s : Operand) (hop : o.op = Op.call { callee := Callee.builtin Builtin.copy, args := #[d, s], argTypes := #[26, 26] })
    (g off dLen dCap K : Nat) (f : Nat → Nat) (a : Option Addr) (sLen sCap : Nat) (x : Nat → Nat) (hd : A.eval d = .slice (some ⟨g, off, none⟩) dLen dCap) (hs : A.eval s = .slice a sLen sCap)
    (hr : w.rowIs g 5 K (byteAt f)) (hx : BytesAt w a sLen x) (hfit : off + min sLen dLen ≤ K)
    (h : ∀ w', Hid (w'.rowIs g 5 K (byteAt (over f x off (min sLen dLen)))) → Hid (Kept g w w') → Hid (w'.heap.size = w.heap.size) → C (A.put o.dst (goInt (min sLen dLen : Nat))) w') :
    if Region.wanted o (yielded ops A.tmps) = true then Oper.wp Try.prog o A w C Q else E := by
  have hw : Region.wanted o (yielded ops A.tmps) = true := by simp [Region.wanted, hg]
  rw [if_pos hw]
  obtain ⟨w', hrun, h1, h2, h3⟩ := copy_run w o.type g off dLen dCap K f a sLen sCap x hr hx hfit
  unfold Oper.wp
  simp only [execOp, hop, resolve, invoke, builtin]
  simp [hd, hs, hrun, Result.andThen]
  exact h w' h1 h2 h3

/-- .. as a law for the walk. -/
theorem wpList_copy_bytes {w : World} {ops : Array Oper} {rest : List Oper} {o : Oper} {A : Act} {Q : Exit → Act → World → Prop}
    (hg : o.guard = none) (d s : Operand) (hop : o.op = Op.call { callee := Callee.builtin Builtin.copy, args := #[d, s], argTypes := #[26, 26] })
    (g off dLen dCap K : Nat) (f : Nat → Nat) (a : Option Addr) (sLen sCap : Nat) (x : Nat → Nat) (hd : A.eval d = .slice (some ⟨g, off, none⟩) dLen dCap) (hs : A.eval s = .slice a sLen sCap)
    (hr : w.rowIs g 5 K (byteAt f)) (hx : BytesAt w a sLen x) (hfit : off + min sLen dLen ≤ K)
    (h : ∀ w', Hid (w'.rowIs g 5 K (byteAt (over f x off (min sLen dLen)))) → Hid (Kept g w w') → Hid (w'.heap.size = w.heap.size) → wpList Try.prog ops Q rest (A.put o.dst (goInt (min sLen dLen : Nat))) w') :
    wpList Try.prog ops Q (o :: rest) A w := by
  refine wpList_plain hg fun C hC => ?_
  obtain ⟨w', hrun, h1, h2, h3⟩ := copy_run w o.type g off dLen dCap K f a sLen sCap x hr hx hfit
  unfold Oper.wp
  simp [execOp, hop, resolve, invoke, builtin, hd, hs, hrun, Result.andThen]
  exact hC _ _ (h w' h1 h2 h3)
theorem row_bytes' {w : World} {g t K : Nat} {f x : Nat → Nat} (h : w.rowIs g t K (byteAt f)) (hx : ∀ i, i < K → f i = x i) (lt : ∀ i, i < K → x i < 256) : BytesAt w (some ⟨g, 0, none⟩) K x :=
  ⟨fun _ => ⟨g, 0, rfl, fun i hi => by rw [Nat.zero_add, h.cell hi, ← hx i hi]; rfl⟩, lt⟩
set_option maxRecDepth 100000 in
theorem slice_from (b o n c l : Nat) (w : World) (h1 : l < n) (h2 : n ≤ c) : (Instr.slice 26 (.slice (some ⟨b, o, none⟩) n c) (some (.int .i64 (l : Int))) none none).run Try.prog w = .ok (.slice (some ⟨b, o + l, none⟩) (n - l) (c - l)) w := by
  have e := run_slice_l (P := Try.prog) w 26 (some ⟨b, o, none⟩) n c Try.underlying26 .i64 (l : Int) (by omega) (by omega)
  rw [e]
  have hs : (sizeOf (Try.prog.elem 26)).run Try.prog w = .ok 1 w := by kernel_rfl
  rw [hs]
  have hz : (⟨b, o, none⟩ : Addr).add l = ⟨b, o + l, none⟩ := by unfold Addr.add; split <;> simp_all
  simp only [Result.andThen, sliced, Int.toNat_natCast, Nat.mul_one, Option.map_some, hz]
  rw [if_neg (by omega)]
theorem BytesAt.drop {w : World} {b o n m : Nat} {x : Nat → Nat} (h : BytesAt w (some ⟨b, o, none⟩) (m + n) x) : BytesAt w (some ⟨b, o + m, none⟩) n (fun i => x (m + i)) := by
  refine ⟨fun _ => ⟨b, o + m, rfl, fun i hi => ?_⟩, fun i hi => h.lt _ (by omega)⟩
  have := bytes_cell h (m + i) (by omega)
  rwa [← Nat.add_assoc] at this
theorem over_set {w : World} {g t K off n : Nat} {f x : Nat → Nat} (h : w.rowIs g t K (byteAt (over f x off n))) : (w.setCell ⟨g, off + n, none⟩ (.int .u8 (x n : Int))).rowIs g t K (byteAt (over f x off (n + 1))) := by
  refine (h.set (off + n) _).congr fun i _ => ?_
  unfold byteAt over
  by_cases e : i = off + n
  · subst e; rw [if_pos rfl, if_pos (by omega), Nat.add_sub_cancel_left]
  · rw [if_neg e]
    by_cases g : off ≤ i ∧ i < off + n
    · rw [if_pos g, if_pos (by omega)]
    · rw [if_neg g, if_neg (by omega)]
theorem over_none (f x : Nat → Nat) (off : Nat) : over f x off 0 = f := by
  funext i
  unfold over
  rw [if_neg (by omega)]
end Go.Proofs.Ythlidbenhlidjaa
