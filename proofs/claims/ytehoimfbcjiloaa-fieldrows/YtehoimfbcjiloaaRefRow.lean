/-
  The document's answers on rows (Axpy, Dot), as contracts; and an append onto a row of the call's own inside a region that draws its order.
-/
import Derived.Test.YtehoimfbcjiloaaStr
import Derived.Test.YtehoimfbcjiloaaRef
import Derived.Deep.RegionLaw
namespace Go.Proofs.Ytehoimfbcjiloaa
open Go.RowKit Go.Deep

/-- 'append' onto a row of the call's own, as one step of a region that draws. -/
theorem step_append_mine {P : Program} {ops : Array Oper} {o : Oper} {a : Act} {w : World} {K : Act → World → Prop} {Q : Exit → Act → World → Prop} {E : Prop}
    (hg : o.guard = none) (s x : Operand) (t : TypeId) (hop : o.op = Op.call { callee := Callee.builtin Builtin.append, args := #[s, x], argTypes := #[t, t] })
    (base : Nat) (e : TypeId) (i : TypeInfo) (z : Value) (size bytes : Nat) (h1 : P.underlying t = some (.slice e)) (h2 : P.info? e = some i) (h3 : i.zero = some z) (h4 : i.size = size) (h5 : i.bytes = bytes) (h6 : z.cells.size = size) (h7 : 0 < size)
    (v : Value) (n : Nat) (xs : List Value) (hs : a.eval s = v) (hown : w.ownsRow base e size v n xs)
    (ad : Addr) (m c : Nat) (news : List Value) (hx : a.eval x = .slice (some ad) m c) (hn : news.length = m * size) (hc : ∀ j u, news[j]? = some u → w.cell? (ad.add j) = some u) (h1c : ∀ u ∈ news, u.oneCell' = true)
    (b1 : n + m ≤ maxLen) (b2 : (n + m) * bytes ≤ 140737488355328) (hbase : base ≤ w.heap.size)
    (hK : ∀ v' w', w'.ownsRow base e size v' (n + m) (xs ++ news) → w.grownBy w' v.ownBlock → K (a.put o.dst v') w') :
    if Region.wanted o (yielded ops a.tmps) = true then Oper.wp P o a w K Q else E := by
  have hw : Region.wanted o (yielded ops a.tmps) = true := by simp [Region.wanted, hg]
  rw [if_pos hw]
  obtain ⟨v', w', hrun, r1, r2, _⟩ := run_append_own (P := P) w base t o.type e i z size bytes h1 h2 h3 h4 h5 h6 h7 v n xs hown ad m c news hn hc h1c b1 b2 hbase
  unfold Oper.wp
  simp [execOp, hop, resolve, invoke, builtin, hs, hx, hrun, Result.andThen]
  exact hK v' w' r1 r2

/-- The first k numbers of x, as cells. -/
def cellsOf (x : Nat → Nat) (k : Nat) : List Value := (List.range k).map fun i => .int .u8 (x i)
theorem cellsOf_succ (x : Nat → Nat) (k : Nat) : cellsOf x (k + 1) = cellsOf x k ++ [.int .u8 (x k)] := by
  unfold cellsOf; rw [List.range_succ, List.map_append]; rfl

theorem own_bytes {w : World} {base e : Nat} {v : Value} {n : Nat} {x : Nat → Nat} (h : w.ownsRow base e 1 v n (cellsOf x n)) (hx : ∀ i, i < n → x i < 256) :
    ∃ a c, v = .slice a n c ∧ BytesAt w a n x := by
  obtain ⟨h1, h2⟩ := h
  rcases h2 with ⟨rfl, rfl⟩ | ⟨g, cap, cur, rfl, hb, hh, hle, hm, hs, ht⟩
  · exact ⟨none, 0, rfl, ⟨fun h => absurd h (by omega), fun i hi => absurd hi (by omega)⟩⟩
  · refine ⟨_, cap, rfl, ⟨fun _ => ⟨g, 0, rfl, fun i hi => ?_⟩, hx⟩⟩
    have e : cur.toList[i]? = some (.int .u8 (x i)) := by
      have : (cur.toList.take (n * 1))[i]? = cur.toList[i]? := by rw [List.getElem?_take_of_lt (by omega)]
      rw [← this, ht]
      simp [cellsOf, hi]
    simp [World.cell?, hh]
    simpa using e

set_option maxRecDepth 100000 in
set_option maxHeartbeats 400000 in
theorem rdot_any (n m cn cm : Nat) (a b : Option Addr) (x y : Nat → Nat) (w : World) (hx : BytesAt w a n x) (hy : BytesAt w b m y) (hn : n ≤ maxLen) (hm : m ≤ maxLen) :
    Calls Try.prog 25 #[.slice a n cn, .slice b m cm] w fun e w' => e = .returned (.int .u8 (dot x y (min n m))) ∧ Same w w' := by
  unfold maxLen at hn hm
  go_enter Try.func25, Try.ntmps25
  go_wp2_with fail
  go_loopw [5, 6] (fun s i wr => ∃ k : Nat, k ≤ min n m ∧ i = .int .i64 k ∧ s = .int .u8 (dot x y k) ∧ Same w wr) (fun _ i _ => min n m - (intOf i).toNat)
  case atStart => exact ⟨0, Nat.zero_le _, rfl, rfl, Same.refl _⟩
  case round =>
    obtain ⟨k, hk, rfl, rfl, hq⟩ := hrel
    by_cases hkm : k < min n m
    · obtain ⟨b1, o1, rfl, cx⟩ := hx.cells (by omega)
      obtain ⟨b2, o2, rfl, cy⟩ := hy.cells (by omega)
      have c1 : wr.cell? ⟨b1, o1 + k, none⟩ = some (.int .u8 (x k)) := (hq.cell _).trans (cx k (by omega))
      have c2 : wr.cell? ⟨b2, o2 + k, none⟩ = some (.int .u8 (y k)) := (hq.cell _).trans (cy k (by omega))
      have l1 := hx.lt k (by omega)
      have l2 := hy.lt k (by omega)
      have l3 := dot_lt x y k
      have l4 := Gf.mul_lt (x k) (y k)
      have HD : Hid (dot x y (k + 1) = dot x y k ^^^ Gf.mul (x k) (y k)) := rfl
      have HX : Hid (bits .xor .u8 (dot x y k : Int) (Gf.mul (x k) (y k) : Int) = ((dot x y k ^^^ Gf.mul (x k) (y k) : Nat) : Int)) := u8_xor_nat _ _ l3 l4
      have i1 : (k : Int) < (n : Int) := by omega
      have i2 : (k : Int) < (m : Int) := by omega
      clear cx cy hx hy
      generalize x k = u at *
      generalize y k = v at *
      generalize dot x y k = s at *
      go_wp2_with fail
      go_quiet ((go_at_call 18; exact Calls.quiet_of_same (rmul_any u v l1 l2 _)))
      go_wp2
      go_roundw
      case rel => exact ⟨k + 1, by omega, by go_num, by rw [HD.out, ← HX.out], hq.trans ⟨nq, rfl⟩⟩
      case measure => simp [intOf]; omega
    · have hke : k = min n m := by omega
      by_cases hnm : k < n
      · have hnm2 : ¬ (k : Int) < (m : Int) := by omega
        have HK : Hid (k = min n m) := hke
        clear hke
        go_wp2
        go_ret
        exact ⟨ret_int (by rw [HK.out]), hq⟩
      · have hnm2 : decide ((k : Int) < (n : Int)) = false := by simp; omega
        have HK : Hid (k = min n m) := hke
        clear hke
        go_wp2
        go_ret
        exact ⟨ret_int (by rw [HK.out]), hq⟩

/-- The call has handed back n bytes, the i-th x i; nothing that was there has turned. -/
def RowBack (w : World) (n : Nat) (x : Nat → Nat) (e : Ending) (w' : World) : Prop := ∃ r cr, e = .returned (.slice r n cr) ∧ BytesAt w' r n x ∧ Below w.heap.size w w'

set_option maxRecDepth 100000 in
set_option maxHeartbeats 400000 in
theorem raxpy_any (n m cn cm c : Nat) (a b : Option Addr) (y x : Nat → Nat) (w : World) (hy : BytesAt w a n y) (hx : BytesAt w b m x) (hn : n ≤ 140737488351232) (hm : m ≤ 140737488351232) (hc : c < 256) :
    Calls Try.prog 23 #[.slice a n cn, .slice b m cm, .int .u8 c] w fun e w' => RowBack w (min n m) (addUp y x c) e w' := by
  obtain ⟨i0, hi, hz0, hz1, hz2⟩ := info_parts Try.infoByte
  go_enter Try.func23, Try.ntmps23
  go_wp2_with fail
  go_loopw [7, 8] (fun v i wr => ∃ k : Nat, k ≤ min n m ∧ i = .int .i64 k ∧ wr.ownsRow w.heap.size 5 1 v k (cellsOf (addUp y x c) k) ∧ Below w.heap.size w wr) (fun _ i _ => min n m - (intOf i).toNat)
  case atStart => exact ⟨0, Nat.zero_le _, rfl, World.ownsRow_nil _ _ _ _, Below.refl _ _⟩
  case round =>
    obtain ⟨k, hk, rfl, hown, hb⟩ := hrel
    by_cases hkm : k < min n m
    · obtain ⟨b1, o1, rfl, cy⟩ := hy.cells (by omega)
      obtain ⟨b2, o2, rfl, cx⟩ := hx.cells (by omega)
      have c1 : wr.cell? ⟨b1, o1 + k, none⟩ = some (.int .u8 (y k)) := (hb.cell (p := ⟨b1, o1 + k, none⟩) (cell_lt (cy k (by omega)))).trans (cy k (by omega))
      have c2 : wr.cell? ⟨b2, o2 + k, none⟩ = some (.int .u8 (x k)) := (hb.cell (p := ⟨b2, o2 + k, none⟩) (cell_lt (cx k (by omega)))).trans (cx k (by omega))
      have l1 := hy.lt k (by omega)
      have l2 := hx.lt k (by omega)
      have l4 := Gf.mul_lt c (x k)
      have hxx : bits .xor .u8 (y k : Int) (Gf.mul c (x k) : Int) = ((addUp y x c k : Nat) : Int) := u8_xor_nat _ _ l1 l4
      have HC : Hid (cellsOf (addUp y x c) (k + 1) = cellsOf (addUp y x c) k ++ [.int .u8 (addUp y x c k)]) := cellsOf_succ _ _
      have i1 : (k : Int) < (n : Int) := by omega
      have i2 : (k : Int) < (m : Int) := by omega
      generalize addUp y x c k = r at *
      generalize y k = v at *
      generalize x k = u at *
      clear cx cy hx hy
      have hks : k + 1 ≤ maxLen := by unfold maxLen; omega
      have hlt := hown.lt
      go_wp2_with fail
      go_region_law (first | (refine step_append_mine rfl (.tmp 21) (.tmp 33) 33 rfl w.heap.size 5 i0 (.int .u8 0) 1 1 Try.underlying33 hi hz0 hz1 hz2 rfl (by decide) u7 k (cellsOf (addUp y x c) k) rfl (by exact hown.alloc _) ⟨wr.heap.size, 0, none⟩ 1 1 [.int .u8 (r : Int)] rfl rfl (by exact cell_one_new _ _ _) (by simp [Value.oneCell']) hks (by omega) (by have := hb.size; simp; omega) ?_; intro v' w1 hown' hgrow) | (go_simp; go_at_call 18; refine (rmul_any c u hc l2 _).mono ?_; rintro e w' ⟨rfl, rfl⟩))
      all_goals
        have hB : Below w.heap.size w w1 := Below.grown (by first | exact (hb.drew).alloc hb.size _ | exact (hb.alloc hb.size _).drew) hgrow (by have := hb.size; simp; omega) (fun k e => (hlt k e).1)
        have hown2 := hown'
        rw [← HC.out] at hown2
        clear hown' hgrow hown hb hlt hi hz0 hz1 hz2
        go_wp2
        go_roundw
        case rel => exact ⟨k + 1, by omega, by go_num, hown2, hB⟩
        case measure => simp [intOf]; omega
    · have hke : k = min n m := by omega
      have hfin : ∃ r cr, u7 = .slice r (min n m) cr ∧ BytesAt wr r (min n m) (addUp y x c) := by
        subst hke
        exact own_bytes hown (fun i hi => Gf.xor_lt _ _ (hy.lt i (by omega)) (Gf.mul_lt _ _))
      have HF : Hid (∃ r cr, u7 = .slice r (min n m) cr ∧ BytesAt wr r (min n m) (addUp y x c)) := hfin
      clear hfin hown hi hz0 hz1 hz2 hx hy
      by_cases hnm : k < n
      · have hnm2 : ¬ (k : Int) < (m : Int) := by omega
        clear hke
        go_wp2
        go_ret
        obtain ⟨r, cr, e, h⟩ := HF.out
        subst e
        exact ⟨r, cr, rfl, h, hb⟩
      · have hnm2 : decide ((k : Int) < (n : Int)) = false := by simp; omega
        clear hke
        go_wp2
        go_ret
        obtain ⟨r, cr, e, h⟩ := HF.out
        subst e
        exact ⟨r, cr, rfl, h, hb⟩
end Go.Proofs.Ytehoimfbcjiloaa
