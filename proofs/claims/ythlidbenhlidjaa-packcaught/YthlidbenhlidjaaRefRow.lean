/-
  The document's answers on rows (Axpy, Dot), as contracts; and an append onto a row of the call's own inside a region that draws its order.
-/
import Derived.Test.YthlidbenhlidjaaStr
import Derived.Test.YthlidbenhlidjaaRef
import Derived.Deep.RegionLaw
namespace Go.Proofs.Ythlidbenhlidjaa
open Go.RowKit Go.Deep

/-- 'append' onto a row of the call's own, as one step of a region that draws. -/
theorem step_append_mine {P : Program} {ops : Array Oper} {o : Oper} {a : Act} {w : World} {K : Act → World → Prop} {Q : Exit → Act → World → Prop} {E : Prop}
    (hg : o.guard = none) (s x : Operand) (t : TypeId) (hop : o.op = Op.call { callee := Callee.builtin Builtin.append, args := #[s, x], argTypes := #[t, t] })
    (base : Nat) (e : TypeId) (i : TypeInfo) (z : Value) (size bytes : Nat) (h1 : P.underlying t = some (.slice e)) (h2 : P.info? e = some i) (h3 : i.zero = some z) (h4 : i.size = size) (h5 : i.bytes = bytes) (h6 : z.cells.size = size) (h7 : 0 < size)
    (v : Value) (n : Nat) (xs : List Value) (hs : a.eval s = v) (hown : w.ownsRow base e size v n xs)
    (ad : Addr) (m c : Nat) (news : List Value) (hx : a.eval x = .slice (some ad) m c) (hn : news.length = m * size) (hc : ∀ j u, news[j]? = some u → w.cell? (ad.add j) = some u) (h1c : ∀ u ∈ news, u.oneCell' = true)
    (b1 : n + m ≤ maxLen) (b2 : (n + m) * bytes ≤ 140737488355328) (hbase : base ≤ w.heap.size)
    (hK : ∀ v' w', w'.ownsRow base e size v' (n + m) (xs ++ news) → w.grownBy w' v.ownBlock → K (a.put o.dst v') w') :
    if Region.wanted o (yielded ops a.tmps) = true then Oper.wp P o a w K Q else E := by
  have hw : Region.wanted o (yielded ops a.tmps) = true := by simp [Region.wanted, hg]
  rw [if_pos hw]
  obtain ⟨v', w', hrun, r1, r2, _⟩ := run_append_own (P := P) w base t o.type e i z size bytes h1 h2 h3 h4 h5 h6 h7 v n xs hown ad m c news hn hc h1c b1 b2 hbase
  unfold Oper.wp
  simp [execOp, hop, resolve, invoke, builtin, hs, hx, hrun, Result.andThen]
  exact hK v' w' r1 r2

/-- The first k numbers of x, as cells. -/
def cellsOf (x : Nat → Nat) (k : Nat) : List Value := (List.range k).map fun i => .int .u8 (x i)
theorem cellsOf_succ (x : Nat → Nat) (k : Nat) : cellsOf x (k + 1) = cellsOf x k ++ [.int .u8 (x k)] := by
  unfold cellsOf; rw [List.range_succ, List.map_append]; rfl

theorem own_bytes {w : World} {base e : Nat} {v : Value} {n : Nat} {x : Nat → Nat} (h : w.ownsRow base e 1 v n (cellsOf x n)) (hx : ∀ i, i < n → x i < 256) :
    ∃ a c, v = .slice a n c ∧ BytesAt w a n x := by
  obtain ⟨h1, h2⟩ := h
  rcases h2 with ⟨rfl, rfl⟩ | ⟨g, cap, cur, rfl, hb, hh, hle, hm, hs, ht⟩
  · exact ⟨none, 0, rfl, ⟨fun h => absurd h (by omega), fun i hi => absurd hi (by omega)⟩⟩
  · refine ⟨_, cap, rfl, ⟨fun _ => ⟨g, 0, rfl, fun i hi => ?_⟩, hx⟩⟩
    have e : cur.toList[i]? = some (.int .u8 (x i)) := by
      have : (cur.toList.take (n * 1))[i]? = cur.toList[i]? := by rw [List.getElem?_take_of_lt (by omega)]
      rw [← this, ht]
      simp [cellsOf, hi]
    simp [World.cell?, hh]
    simpa using e


/-- The call has handed back n bytes, the i-th x i; nothing that was there has turned. -/
def RowBack (w : World) (n : Nat) (x : Nat → Nat) (e : Ending) (w' : World) : Prop := ∃ r cr, e = .returned (.slice r n cr) ∧ BytesAt w' r n x ∧ Below w.heap.size w w'

/-- A row of the call's own was answered. -/
def RowOwn (w : World) (n : Nat) (x : Nat → Nat) (e : Ending) (w' : World) : Prop := ∃ v, e = .returned v ∧ w'.ownsRow w.heap.size 5 1 v n (cellsOf x n) ∧ Below w.heap.size w w'
/-- .. in a block of its own. -/
def RowNew (w : World) (n : Nat) (x : Nat → Nat) (e : Ending) (w' : World) : Prop := ∃ g c, e = .returned (.slice (some ⟨g, 0, none⟩) n c) ∧ w.heap.size ≤ g ∧ BytesAt w' (some ⟨g, 0, none⟩) n x ∧ Below w.heap.size w w'

set_option maxRecDepth 100000 in
set_option maxHeartbeats 400000 in
theorem raxpy_own (n m cn cm c : Nat) (a b : Option Addr) (y x : Nat → Nat) (w : World) (hy : BytesAt w a n y) (hx : BytesAt w b m x) (hn : n ≤ 140737488351232) (hm : m ≤ 140737488351232) (hc : c < 256) :
    Calls Try.prog 32 #[.slice a n cn, .slice b m cm, .int .u8 c] w fun e w' => RowOwn w (min n m) (addUp y x c) e w' := by
  obtain ⟨i0, hi, hz0, hz1, hz2⟩ := info_parts Try.infoByte
  go_enter Try.func32, Try.ntmps32
  go_wp2_with fail
  go_loopw [7, 8] (fun v i wr => ∃ k : Nat, k ≤ min n m ∧ i = .int .i64 k ∧ wr.ownsRow w.heap.size 5 1 v k (cellsOf (addUp y x c) k) ∧ Below w.heap.size w wr) (fun _ i _ => min n m - (intOf i).toNat)
  case atStart => exact ⟨0, Nat.zero_le _, rfl, World.ownsRow_nil _ _ _ _, Below.refl _ _⟩
  case round =>
    obtain ⟨k, hk, rfl, hown, hb⟩ := hrel
    by_cases hkm : k < min n m
    · obtain ⟨b1, o1, rfl, cy⟩ := hy.cells (by omega)
      obtain ⟨b2, o2, rfl, cx⟩ := hx.cells (by omega)
      have c1 : wr.cell? ⟨b1, o1 + k, none⟩ = some (.int .u8 (y k)) := (hb.cell (p := ⟨b1, o1 + k, none⟩) (cell_lt (cy k (by omega)))).trans (cy k (by omega))
      have c2 : wr.cell? ⟨b2, o2 + k, none⟩ = some (.int .u8 (x k)) := (hb.cell (p := ⟨b2, o2 + k, none⟩) (cell_lt (cx k (by omega)))).trans (cx k (by omega))
      have l1 := hy.lt k (by omega)
      have l2 := hx.lt k (by omega)
      have l4 := Gf.mul_lt c (x k)
      have hxx : bits .xor .u8 (y k : Int) (Gf.mul c (x k) : Int) = ((addUp y x c k : Nat) : Int) := u8_xor_nat _ _ l1 l4
      have HC : Hid (cellsOf (addUp y x c) (k + 1) = cellsOf (addUp y x c) k ++ [.int .u8 (addUp y x c k)]) := cellsOf_succ _ _
      have i1 : (k : Int) < (n : Int) := by omega
      have i2 : (k : Int) < (m : Int) := by omega
      generalize addUp y x c k = r at *
      generalize y k = v at *
      generalize x k = u at *
      clear cx cy hx hy
      have hks : k + 1 ≤ maxLen := by unfold maxLen; omega
      have hlt := hown.lt
      go_wp2_with fail
      go_region_law (first | (refine step_append_mine rfl (.tmp 21) (.tmp 33) 26 rfl w.heap.size 5 i0 (.int .u8 0) 1 1 Try.underlying26 hi hz0 hz1 hz2 rfl (by decide) u7 k (cellsOf (addUp y x c) k) rfl (by exact hown.alloc _) ⟨wr.heap.size, 0, none⟩ 1 1 [.int .u8 (r : Int)] rfl rfl (by exact cell_one_new _ _ _) (by simp [Value.oneCell']) hks (by omega) (by have := hb.size; simp; omega) ?_; intro v' w1 hown' hgrow) | (go_simp; go_at_call 39; refine (rmul_any c u hc l2 _).mono ?_; rintro e w' ⟨rfl, rfl⟩))
      all_goals
        have hB : Below w.heap.size w w1 := Below.grown (by first | exact (hb.drew).alloc hb.size _ | exact (hb.alloc hb.size _).drew) hgrow (by have := hb.size; simp; omega) (fun k e => (hlt k e).1)
        have hown2 := hown'
        rw [← HC.out] at hown2
        clear hown' hgrow hown hb hlt hi hz0 hz1 hz2
        go_wp2
        go_roundw
        case rel => exact ⟨k + 1, by omega, by go_num, hown2, hB⟩
        case measure => simp [intOf]; omega
    · have hke : k = min n m := by omega
      have HF : Hid (wr.ownsRow w.heap.size 5 1 u7 (min n m) (cellsOf (addUp y x c) (min n m))) := by rw [← hke]; exact hown
      clear hown hi hz0 hz1 hz2 hx hy
      by_cases hnm : k < n
      · have hnm2 : ¬ (k : Int) < (m : Int) := by omega
        clear hke
        go_wp2
        go_ret
        exact ⟨_, rfl, HF.out, hb⟩
      · have hnm2 : decide ((k : Int) < (n : Int)) = false := by simp; omega
        clear hke
        go_wp2
        go_ret
        exact ⟨_, rfl, HF.out, hb⟩
theorem raxpy_any (n m cn cm c : Nat) (a b : Option Addr) (y x : Nat → Nat) (w : World) (hy : BytesAt w a n y) (hx : BytesAt w b m x) (hn : n ≤ 140737488351232) (hm : m ≤ 140737488351232) (hc : c < 256) :
    Calls Try.prog 32 #[.slice a n cn, .slice b m cm, .int .u8 c] w fun e w' => RowBack w (min n m) (addUp y x c) e w' := by
  refine (raxpy_own n m cn cm c a b y x w hy hx hn hm hc).mono ?_
  rintro e w' ⟨v, rfl, hown, hb⟩
  obtain ⟨r, cr, rfl, h⟩ := own_bytes hown (fun i hi => Gf.xor_lt _ _ (hy.lt i (by omega)) (Gf.mul_lt _ _))
  exact ⟨r, cr, rfl, h, hb⟩
theorem raxpy_new (n cn cm c : Nat) (a b : Option Addr) (y x : Nat → Nat) (w : World) (hy : BytesAt w a n y) (hx : BytesAt w b n x) (hn : n ≤ 1000000) (h0 : 0 < n) (hc : c < 256) :
    Calls Try.prog 32 #[.slice a n cn, .slice b n cm, .int .u8 c] w fun e w' => RowNew w n (addUp y x c) e w' := by
  refine (raxpy_own n n cn cm c a b y x w hy hx (by omega) (by omega) hc).mono ?_
  rintro e w' ⟨v, rfl, hown, hb⟩
  rw [Nat.min_self] at hown
  obtain ⟨r, cr, rfl, h⟩ := own_bytes hown (fun i hi => Gf.xor_lt _ _ (hy.lt i (by omega)) (Gf.mul_lt _ _))
  rcases hown.2 with ⟨-, e⟩ | ⟨g, cap, cur, e, hg, -⟩
  · omega
  · cases e
    exact ⟨g, _, rfl, hg, h, hb⟩
end Go.Proofs.Ythlidbenhlidjaa
