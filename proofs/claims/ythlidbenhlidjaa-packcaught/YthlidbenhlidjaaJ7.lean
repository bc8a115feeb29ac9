/-
  Several texts, one behind the other.
-/
import Derived.Test.YthlidbenhlidjaaJ2
import Derived.Deep.RegionLaw
import Derived.Laws.CopyOwn
import Derived.Test.YthlidbenhlidjaaJ3
import Derived.Test.YthlidbenhlidjaaJ6
import Derived.OrdersHeld
import Derived.Deep.RegionHeld
/-
  The document's answers of layer 1 (products bit by bit; inverses, powers and logs by trying), as contracts over the tables of Gf.
-/
namespace Go.Proofs.Ythlidbenhlidjaa
open Go.RowKit Go.Deep

theorem i64_xor_nat (a b : Nat) (ha : a < 9223372036854775808) (hb : b < 9223372036854775808) : bits .xor .i64 (a : Int) (b : Int) = ((a ^^^ b : Nat) : Int) := by
  have hx : a ^^^ b < 2 ^ 63 := Nat.xor_lt_two_pow (by omega) (by omega)
  show IntKind.i64.wrap ((BitVec.ofInt 64 (a : Int) ^^^ BitVec.ofInt 64 (b : Int)).toNat : Int) = _
  rw [BitVec.toNat_xor, ofInt_u64 a (by omega), ofInt_u64 b (by omega)]
  simp [IntKind.wrap, IntKind.bits, IntKind.signed]
  omega

theorem bits_odd (f X Y p R : Nat) (h : p ^^^ Gf.mulBits (f + 1) X Y = R) (ho : Y % 2 = 1) : (p ^^^ X) ^^^ Gf.mulBits f (Gf.dbl X) (Y / 2) = R := by
  rw [← h]
  show _ = p ^^^ ((if Y % 2 = 1 then X else 0) ^^^ Gf.mulBits f (Gf.dbl X) (Y / 2))
  rw [if_pos ho, Nat.xor_assoc]
theorem bits_even (f X Y p R : Nat) (h : p ^^^ Gf.mulBits (f + 1) X Y = R) (ho : Y % 2 ≠ 1) : p ^^^ Gf.mulBits f (Gf.dbl X) (Y / 2) = R := by
  rw [← h]
  show _ = p ^^^ ((if Y % 2 = 1 then X else 0) ^^^ Gf.mulBits f (Gf.dbl X) (Y / 2))
  rw [if_neg ho, Nat.zero_xor]
theorem dbl_hi2 (X : Nat) (hX : X < 256) (h : 128 ≤ X) : bits .xor .i64 (2 * (X : Int)) 285 = (Gf.dbl X : Int) := by
  have := i64_xor_nat (2 * X) 285 (by omega) (by omega)
  unfold Gf.dbl
  rw [if_neg (by omega), ← this]
  rfl
theorem dbl_lo2 (X : Nat) (h : X < 128) : 2 * (X : Int) = (Gf.dbl X : Int) := by
  unfold Gf.dbl; rw [if_pos h]; omega
theorem val_int {k : IntKind} {a b : Int} (h : a = b) : Value.int k a = .int k b := by rw [h]

set_option maxRecDepth 100000 in
set_option maxHeartbeats 400000 in
theorem rmul_any (a b : Nat) (ha : a < 256) (hb : b < 256) (w : World) :
    Calls Try.prog 39 #[.int .u8 a, .int .u8 b] w fun e w' => e = .returned (.int .u8 (Gf.mul a b)) ∧ w' = w := by
  have HR : Hid (Gf.mul a b = Gf.mulBits 8 a b) := Gf.mul_eq_mulBits a b ha hb
  have hl := Gf.mul_lt a b
  generalize Gf.mul a b = R at *
  go_enter Try.func39, Try.ntmps39
  go_wp2
  go_loop [5, 6, 7] (fun x y p => ∃ f X Y q : Nat, Y < 2 ^ f ∧ X < 256 ∧ Y < 256 ∧ q < 256 ∧ x = .int .i64 X ∧ y = .int .i64 Y ∧ p = .int .i64 q ∧ q ^^^ Gf.mulBits f X Y = R) (fun _ y _ => (intOf y).toNat)
  case atStart => exact ⟨8, a, b, 0, hb, ha, hb, by decide, rfl, rfl, rfl, by rw [Nat.zero_xor]; exact HR.out.symm⟩
  case round =>
    obtain ⟨f, X, Y, q, hY, hX, hY2, hq, rfl, rfl, rfl, hr⟩ := hrel
    have HS : Hid (q ^^^ Gf.mulBits f X Y = R) := hr
    clear hr
    by_cases h0 : Y = 0
    · subst h0
      have e : q = R := by have := HS.out; rw [Gf.mulBits_zero, Nat.xor_zero] at this; exact this
      subst e
      go_wp2
      go_ret
      exact ⟨rfl, rfl⟩
    · obtain ⟨g, rfl⟩ : ∃ g, f = g + 1 := by
        cases f with
        | zero => exfalso; rw [Nat.pow_zero] at hY; omega
        | succ g => exact ⟨g, rfl⟩
      have hY3 : Y / 2 < 2 ^ g := by rw [Nat.pow_succ] at hY; omega
      have hp : (0 : Int) < (Y : Int) := by omega
      have hd := Gf.dbl_lt X hX
      clear h0 hY
      by_cases ho : Y % 2 = 1
      · have ho' : (((Y : Int) % 2) == 1) = true := by simp; omega
        have hx := i64_xor_nat q X (by omega) (by omega)
        have hz := Gf.xor_lt q X hq hX
        have HS2 : Hid ((q ^^^ X) ^^^ Gf.mulBits g (Gf.dbl X) (Y / 2) = R) := bits_odd g X Y q R HS.out ho
        clear HS ho
        by_cases hh : 128 ≤ X
        · have HD : Hid (bits .xor .i64 (2 * (X : Int)) 285 = (Gf.dbl X : Int)) := dbl_hi2 X hX hh
          go_wp2
          go_round
          case rel => exact ⟨g, Gf.dbl X, Y / 2, q ^^^ X, hY3, hd, by omega, hz, val_int HD.out, by go_num, rfl, HS2.out⟩
          case measure => simp [intOf]; omega
        · have HD : Hid (2 * (X : Int) = (Gf.dbl X : Int)) := dbl_lo2 X (by omega)
          go_wp2
          go_round
          case rel => exact ⟨g, Gf.dbl X, Y / 2, q ^^^ X, hY3, hd, by omega, hz, val_int HD.out, by go_num, rfl, HS2.out⟩
          case measure => simp [intOf]; omega
      · have ho' : (((Y : Int) % 2) == 1) = false := by simp; omega
        have HS2 : Hid (q ^^^ Gf.mulBits g (Gf.dbl X) (Y / 2) = R) := bits_even g X Y q R HS.out ho
        clear HS ho
        by_cases hh : 128 ≤ X
        · have HD : Hid (bits .xor .i64 (2 * (X : Int)) 285 = (Gf.dbl X : Int)) := dbl_hi2 X hX hh
          go_wp2
          go_round
          case rel => exact ⟨g, Gf.dbl X, Y / 2, q, hY3, hd, by omega, hq, val_int HD.out, by go_num, rfl, HS2.out⟩
          case measure => simp [intOf]; omega
        · have HD : Hid (2 * (X : Int) = (Gf.dbl X : Int)) := dbl_lo2 X (by omega)
          go_wp2
          go_round
          case rel => exact ⟨g, Gf.dbl X, Y / 2, q, hY3, hd, by omega, hq, val_int HD.out, by go_num, rfl, HS2.out⟩
          case measure => simp [intOf]; omega
theorem rmul_at (x y z : Int) (w : World) (hx : 0 ≤ x ∧ x < 256) (hy : 0 ≤ y ∧ y < 256) (hz : (Gf.mul x.toNat y.toNat : Int) = z) :
    Calls Try.prog 39 #[.int .u8 x, .int .u8 y] w fun e w' => e = .returned (.int .u8 z) ∧ w' = w := by
  obtain ⟨n, rfl, hn⟩ := int_nat x hx
  obtain ⟨m, rfl, hm⟩ := int_nat y hy
  subst hz
  exact rmul_any n m hn hm w

theorem inv_unique (a k : Nat) (ha : a < 256) (h0 : a ≠ 0) (hk : k < 256) (h : Gf.mul a k = 1) : k = Gf.inv a := by
  have e : Gf.mul k (Gf.mul a (Gf.inv a)) = k := by rw [Gf.mul_inv a ha h0, Gf.mul_one k hk]
  rw [Gf.mul_assoc, Gf.mul_comm k a, h, Gf.mul_comm, Gf.mul_one _ (Gf.inv_lt a)] at e
  exact e.symm
theorem inv_pos (a : Nat) (h0 : a ≠ 0) : 1 ≤ Gf.inv a := by
  have : Gf.inv a ≠ 0 := by unfold Gf.inv; rw [if_neg h0]; exact Gf.pw_pos _
  omega

set_option maxRecDepth 100000 in
set_option maxHeartbeats 400000 in
theorem rinv_zero (a : Nat) (h0 : a = 0) (w : World) :
    Calls Try.prog 40 #[.int .u8 a] w fun e w' => e = .returned (.tuple #[.int .u8 0, .bool false]) ∧ w' = w := by
  have HZ : Hid (a = 0) := h0
  clear h0
  go_enter Try.func40, Try.ntmps40
  go_wp2
  go_loop [4] (fun i => ∃ k : Nat, k ≤ 256 ∧ i = .int .i64 k) (fun i => 256 - (intOf i).toNat)
  case atStart => exact ⟨1, by omega, rfl⟩
  case round =>
    obtain ⟨k, hk, rfl⟩ := hrel
    by_cases hlt : k < 256
    · go_wp2_with (go_at_call 39; refine (rmul_at (a : Int) (k : Int) 0 _ ⟨by omega, by have := HZ.out; omega⟩ ⟨by omega, by omega⟩ (by rw [HZ.out]; exact congrArg Int.ofNat (Gf.zero_mul _))).mono ?_; rintro e w' ⟨rfl, rfl⟩)
      go_round
      case rel => exact ⟨k + 1, by omega, by go_num⟩
      case measure => simp [intOf]; omega
    · have hk' : k = 256 := by omega
      subst hk'
      go_wp2
      go_ret2
      exact ⟨rfl, rfl⟩

set_option maxRecDepth 100000 in
set_option maxHeartbeats 400000 in
theorem rinv_ne (a : Nat) (ha : a < 256) (h0 : a ≠ 0) (w : World) :
    Calls Try.prog 40 #[.int .u8 a] w fun e w' => e = .returned (.tuple #[.int .u8 (Gf.inv a), .bool true]) ∧ w' = w := by
  have HU : Hid (∀ k, k < 256 → Gf.mul a k = 1 → k = Gf.inv a) := fun k hk h => inv_unique a k ha h0 hk h
  have HM : Hid (Gf.mul a (Gf.inv a) = 1) := Gf.mul_inv a ha h0
  have h1 := inv_pos a h0
  have h2 := Gf.inv_lt a
  clear h0
  generalize Gf.inv a = v at *
  go_enter Try.func40, Try.ntmps40
  go_wp2
  go_loop [4] (fun i => ∃ k : Nat, k ≤ v ∧ i = .int .i64 k) (fun i => 256 - (intOf i).toNat)
  case atStart => exact ⟨1, by omega, rfl⟩
  case round =>
    obtain ⟨k, hk, rfl⟩ := hrel
    have hl := Gf.mul_lt a k
    have hk2 : (k : Int) < 256 := by omega
    by_cases hlt : k = v
    · subst hlt
      go_wp2_with (go_at_call 39; refine (rmul_at (a : Int) (k : Int) 1 _ ⟨by omega, by omega⟩ ⟨by omega, by omega⟩ (congrArg Int.ofNat HM.out)).mono ?_; rintro e w' ⟨rfl, rfl⟩)
      go_ret2
      exact ⟨rfl, rfl⟩
    · have hne : Gf.mul a k ≠ 1 := fun h => hlt (HU.out k (by omega) h)
      have hne' : ((Gf.mul a k : Int) == 1) = false := by simp; omega
      have HL : Hid (¬ k = v) := hlt
      clear hlt hne
      go_wp2_with (go_at_call 39; refine (rmul_any a k ha (by omega) _).mono ?_; rintro e w' ⟨rfl, rfl⟩)
      go_round
      case rel => exact ⟨k + 1, by have := HL.out; omega, by go_num⟩
      case measure => simp [intOf]; omega



end Go.Proofs.Ythlidbenhlidjaa

/-
  The document's answers on rows (Axpy, Dot), as contracts; and an append onto a row of the call's own inside a region that draws its order.
-/
namespace Go.Proofs.Ythlidbenhlidjaa
open Go.RowKit Go.Deep

/-- 'append' onto a row of the call's own, as one step of a region that draws. -/
theorem step_append_mine {P : Program} {ops : Array Oper} {o : Oper} {a : Act} {w : World} {K : Act → World → Prop} {Q : Exit → Act → World → Prop} {E : Prop}
    (hg : o.guard = none) (s x : Operand) (t : TypeId) (hop : o.op = Op.call { callee := Callee.builtin Builtin.append, args := #[s, x], argTypes := #[t, t] })
    (base : Nat) (e : TypeId) (i : TypeInfo) (z : Value) (size bytes : Nat) (h1 : P.underlying t = some (.slice e)) (h2 : P.info? e = some i) (h3 : i.zero = some z) (h4 : i.size = size) (h5 : i.bytes = bytes) (h6 : z.cells.size = size) (h7 : 0 < size)
    (v : Value) (n : Nat) (xs : List Value) (hs : a.eval s = v) (hown : w.ownsRow base e size v n xs)
    (ad : Addr) (m c : Nat) (news : List Value) (hx : a.eval x = .slice (some ad) m c) (hn : news.length = m * size) (hc : ∀ j u, news[j]? = some u → w.cell? (ad.add j) = some u) (h1c : ∀ u ∈ news, u.oneCell' = true)
    (b1 : n + m ≤ maxLen) (b2 : (n + m) * bytes ≤ 140737488355328) (hbase : base ≤ w.heap.size)
    (hK : ∀ v' w', w'.ownsRow base e size v' (n + m) (xs ++ news) → w.grownBy w' v.ownBlock → K (a.put o.dst v') w') :
    if Region.wanted o (yielded ops a.tmps) = true then Oper.wp P o a w K Q else E := by
  have hw : Region.wanted o (yielded ops a.tmps) = true := by simp [Region.wanted, hg]
  rw [if_pos hw]
  obtain ⟨v', w', hrun, r1, r2, _⟩ := run_append_own (P := P) w base t o.type e i z size bytes h1 h2 h3 h4 h5 h6 h7 v n xs hown ad m c news hn hc h1c b1 b2 hbase
  unfold Oper.wp
  simp [execOp, hop, resolve, invoke, builtin, hs, hx, hrun, Result.andThen]
  exact hK v' w' r1 r2

/-- The first k numbers of x, as cells. -/
def cellsOf (x : Nat → Nat) (k : Nat) : List Value := (List.range k).map fun i => .int .u8 (x i)
theorem cellsOf_succ (x : Nat → Nat) (k : Nat) : cellsOf x (k + 1) = cellsOf x k ++ [.int .u8 (x k)] := by
  unfold cellsOf; rw [List.range_succ, List.map_append]; rfl

theorem own_bytes {w : World} {base e : Nat} {v : Value} {n : Nat} {x : Nat → Nat} (h : w.ownsRow base e 1 v n (cellsOf x n)) (hx : ∀ i, i < n → x i < 256) :
    ∃ a c, v = .slice a n c ∧ BytesAt w a n x := by
  obtain ⟨h1, h2⟩ := h
  rcases h2 with ⟨rfl, rfl⟩ | ⟨g, cap, cur, rfl, hb, hh, hle, hm, hs, ht⟩
  · exact ⟨none, 0, rfl, ⟨fun h => absurd h (by omega), fun i hi => absurd hi (by omega)⟩⟩
  · refine ⟨_, cap, rfl, ⟨fun _ => ⟨g, 0, rfl, fun i hi => ?_⟩, hx⟩⟩
    have e : cur.toList[i]? = some (.int .u8 (x i)) := by
      have : (cur.toList.take (n * 1))[i]? = cur.toList[i]? := by rw [List.getElem?_take_of_lt (by omega)]
      rw [← this, ht]
      simp [cellsOf, hi]
    simp [World.cell?, hh]
    simpa using e


/-- The call has handed back n bytes, the i-th x i; nothing that was there has turned. -/
def RowBack (w : World) (n : Nat) (x : Nat → Nat) (e : Ending) (w' : World) : Prop := ∃ r cr, e = .returned (.slice r n cr) ∧ BytesAt w' r n x ∧ Below w.heap.size w w'

/-- A row of the call's own was answered. -/
def RowOwn (w : World) (n : Nat) (x : Nat → Nat) (e : Ending) (w' : World) : Prop := ∃ v, e = .returned v ∧ w'.ownsRow w.heap.size 5 1 v n (cellsOf x n) ∧ Below w.heap.size w w'
/-- .. in a block of its own. -/
def RowNew (w : World) (n : Nat) (x : Nat → Nat) (e : Ending) (w' : World) : Prop := ∃ g c, e = .returned (.slice (some ⟨g, 0, none⟩) n c) ∧ w.heap.size ≤ g ∧ BytesAt w' (some ⟨g, 0, none⟩) n x ∧ Below w.heap.size w w'

set_option maxRecDepth 100000 in
set_option maxHeartbeats 400000 in
theorem raxpy_own (n m cn cm c : Nat) (a b : Option Addr) (y x : Nat → Nat) (w : World) (hy : BytesAt w a n y) (hx : BytesAt w b m x) (hn : n ≤ 140737488351232) (hm : m ≤ 140737488351232) (hc : c < 256) :
    Calls Try.prog 32 #[.slice a n cn, .slice b m cm, .int .u8 c] w fun e w' => RowOwn w (min n m) (addUp y x c) e w' := by
  obtain ⟨i0, hi, hz0, hz1, hz2⟩ := info_parts Try.infoByte
  go_enter Try.func32, Try.ntmps32
  go_wp2_with fail
  go_loopw [7, 8] (fun v i wr => ∃ k : Nat, k ≤ min n m ∧ i = .int .i64 k ∧ wr.ownsRow w.heap.size 5 1 v k (cellsOf (addUp y x c) k) ∧ Below w.heap.size w wr) (fun _ i _ => min n m - (intOf i).toNat)
  case atStart => exact ⟨0, Nat.zero_le _, rfl, World.ownsRow_nil _ _ _ _, Below.refl _ _⟩
  case round =>
    obtain ⟨k, hk, rfl, hown, hb⟩ := hrel
    by_cases hkm : k < min n m
    · obtain ⟨b1, o1, rfl, cy⟩ := hy.cells (by omega)
      obtain ⟨b2, o2, rfl, cx⟩ := hx.cells (by omega)
      have c1 : wr.cell? ⟨b1, o1 + k, none⟩ = some (.int .u8 (y k)) := (hb.cell (p := ⟨b1, o1 + k, none⟩) (cell_lt (cy k (by omega)))).trans (cy k (by omega))
      have c2 : wr.cell? ⟨b2, o2 + k, none⟩ = some (.int .u8 (x k)) := (hb.cell (p := ⟨b2, o2 + k, none⟩) (cell_lt (cx k (by omega)))).trans (cx k (by omega))
      have l1 := hy.lt k (by omega)
      have l2 := hx.lt k (by omega)
      have l4 := Gf.mul_lt c (x k)
      have hxx : bits .xor .u8 (y k : Int) (Gf.mul c (x k) : Int) = ((addUp y x c k : Nat) : Int) := u8_xor_nat _ _ l1 l4
      have HC : Hid (cellsOf (addUp y x c) (k + 1) = cellsOf (addUp y x c) k ++ [.int .u8 (addUp y x c k)]) := cellsOf_succ _ _
      have i1 : (k : Int) < (n : Int) := by omega
      have i2 : (k : Int) < (m : Int) := by omega
      generalize addUp y x c k = r at *
      generalize y k = v at *
      generalize x k = u at *
      clear cx cy hx hy
      have hks : k + 1 ≤ maxLen := by unfold maxLen; omega
      have hlt := hown.lt
      go_wp2_with fail
      go_region_law (first | (refine step_append_mine rfl (.tmp 21) (.tmp 33) 26 rfl w.heap.size 5 i0 (.int .u8 0) 1 1 Try.underlying26 hi hz0 hz1 hz2 rfl (by decide) u7 k (cellsOf (addUp y x c) k) rfl (by exact hown.alloc _) ⟨wr.heap.size, 0, none⟩ 1 1 [.int .u8 (r : Int)] rfl rfl (by exact cell_one_new _ _ _) (by simp [Value.oneCell']) hks (by omega) (by have := hb.size; simp; omega) ?_; intro v' w1 hown' hgrow) | (go_simp; go_at_call 39; refine (rmul_any c u hc l2 _).mono ?_; rintro e w' ⟨rfl, rfl⟩))
      all_goals
        have hB : Below w.heap.size w w1 := Below.grown (by first | exact (hb.drew).alloc hb.size _ | exact (hb.alloc hb.size _).drew) hgrow (by have := hb.size; simp; omega) (fun k e => (hlt k e).1)
        have hown2 := hown'
        rw [← HC.out] at hown2
        clear hown' hgrow hown hb hlt hi hz0 hz1 hz2
        go_wp2
        go_roundw
        case rel => exact ⟨k + 1, by omega, by go_num, hown2, hB⟩
        case measure => simp [intOf]; omega
    · have hke : k = min n m := by omega
      have HF : Hid (wr.ownsRow w.heap.size 5 1 u7 (min n m) (cellsOf (addUp y x c) (min n m))) := by rw [← hke]; exact hown
      clear hown hi hz0 hz1 hz2 hx hy
      by_cases hnm : k < n
      · have hnm2 : ¬ (k : Int) < (m : Int) := by omega
        clear hke
        go_wp2
        go_ret
        exact ⟨_, rfl, HF.out, hb⟩
      · have hnm2 : decide ((k : Int) < (n : Int)) = false := by simp; omega
        clear hke
        go_wp2
        go_ret
        exact ⟨_, rfl, HF.out, hb⟩
theorem raxpy_any (n m cn cm c : Nat) (a b : Option Addr) (y x : Nat → Nat) (w : World) (hy : BytesAt w a n y) (hx : BytesAt w b m x) (hn : n ≤ 140737488351232) (hm : m ≤ 140737488351232) (hc : c < 256) :
    Calls Try.prog 32 #[.slice a n cn, .slice b m cm, .int .u8 c] w fun e w' => RowBack w (min n m) (addUp y x c) e w' := by
  refine (raxpy_own n m cn cm c a b y x w hy hx hn hm hc).mono ?_
  rintro e w' ⟨v, rfl, hown, hb⟩
  obtain ⟨r, cr, rfl, h⟩ := own_bytes hown (fun i hi => Gf.xor_lt _ _ (hy.lt i (by omega)) (Gf.mul_lt _ _))
  exact ⟨r, cr, rfl, h, hb⟩
theorem raxpy_new (n cn cm c : Nat) (a b : Option Addr) (y x : Nat → Nat) (w : World) (hy : BytesAt w a n y) (hx : BytesAt w b n x) (hn : n ≤ 1000000) (h0 : 0 < n) (hc : c < 256) :
    Calls Try.prog 32 #[.slice a n cn, .slice b n cm, .int .u8 c] w fun e w' => RowNew w n (addUp y x c) e w' := by
  refine (raxpy_own n n cn cm c a b y x w hy hx (by omega) (by omega) hc).mono ?_
  rintro e w' ⟨v, rfl, hown, hb⟩
  rw [Nat.min_self] at hown
  obtain ⟨r, cr, rfl, h⟩ := own_bytes hown (fun i hi => Gf.xor_lt _ _ (hy.lt i (by omega)) (Gf.mul_lt _ _))
  rcases hown.2 with ⟨-, e⟩ | ⟨g, cap, cur, e, hg, -⟩
  · omega
  · cases e
    exact ⟨g, _, rfl, hg, h, hb⟩
end Go.Proofs.Ythlidbenhlidjaa

/-
  The document's Count.
-/
namespace Go.Proofs.Ythlidbenhlidjaa
open Go.RowKit Go.Deep

set_option maxRecDepth 100000 in
theorem rcount_yes (n s : Nat) (w : World) (s1 : 1 ≤ s) (s2 : s ≤ 64) (n1 : 1 ≤ n) (n2 : n ≤ 32 * s) :
    Calls Try.prog 24 #[.int .i64 (n : Int), .int .i64 (s : Int)] w fun e w' => e = .returned (.tuple #[.int .i64 (cntOf n s : Int), .bool true]) ∧ w' = w := by
  have i1 : ¬ (s : Int) < 1 := by omega
  have i2 : ¬ 64 < (s : Int) := by omega
  have i3 : ¬ (n : Int) < 1 := by omega
  have i4 : ¬ 32 * (s : Int) < (n : Int) := by omega
  go_enter Try.func24, Try.ntmps24
  go_wp2
  go_ret2
  exact ⟨by show Ending.returned (.tuple #[.int .i64 (((n : Int) + (s : Int) - 1) / (s : Int)), .bool true]) = _; rw [cntOf_cast n s s1], rfl⟩

set_option maxRecDepth 100000 in
theorem rcount_no (n s : Int) (w : World) (h : ¬ (1 ≤ s ∧ s ≤ 64 ∧ 1 ≤ n ∧ n ≤ 32 * s)) :
    Calls Try.prog 24 #[.int .i64 n, .int .i64 s] w fun e w' => e = .returned (.tuple #[.int .i64 0, .bool false]) ∧ w' = w := by
  go_enter Try.func24, Try.ntmps24
  go_wp2
  all_goals first | (go_ret2; exact ⟨rfl, rfl⟩) | (exfalso; simp_all; omega)
end Go.Proofs.Ythlidbenhlidjaa

/-
  The document's Count and Split.
-/
namespace Go.Proofs.Ythlidbenhlidjaa
open Go.RowKit Go.Deep

/-- One more row at a list's end. -/
theorem Own.push {W : World} {base : Nat} {va : Value} {ja k : Nat} {V : Nat → Nat → Nat} (h : Own W base va ja k V) (q g c : Nat) (ty : TypeId) (hc : W.cell? ⟨q, 0, none⟩ = some (.slice (some ⟨g, 0, none⟩) k c)) (hB : BytesAt W (some ⟨g, 0, none⟩) k (V ja)) (hk : 0 < k) (hj : ja ≤ 1000) (hbase : base ≤ W.heap.size) :
    ∃ va' W', (Builtin.append_ #[77, 77] ty #[va, .slice (some ⟨q, 0, none⟩) 1 1]).run Try.prog W = .ok va' W' ∧ Own W' base va' (ja + 1) k V ∧ W.grownBy W' va.ownBlock := by
  obtain ⟨i0, hi, hz0, hz1, hz2⟩ := info_parts Try.infoRow
  have h' := h
  obtain ⟨xs, ho, h0, hx⟩ := h
  obtain ⟨va', W', hr, hown, hgr, hnil, hat⟩ := run_append_own_at (P := Try.prog) W base 77 ty 26 i0 (.slice none 0 0) 1 24 Try.underlying77 hi hz0 hz1 hz2 rfl (by decide) va ja xs ho ⟨q, 0, none⟩ 1 1 [.slice (some ⟨g, 0, none⟩) k c] rfl
    (fun j u hj => by
      cases j with
      | zero => cases hj; exact hc
      | succ j => simp at hj) (by intro u hu; simp at hu; subst hu; rfl) (by unfold maxLen; omega) (by omega) hbase
  refine ⟨va', W', hr, ⟨_, hown, fun e => absurd e (by omega), fun i hi => ?_⟩, hgr⟩
  by_cases e : i = ja
  · subst e
    refine ⟨g, c, ?_, hB.grown hgr (h'.apart hB hk)⟩
    have hl := ho.1
    rw [Nat.mul_one] at hl
    rw [List.getElem?_append_right (by omega), hl, Nat.sub_self]
    rfl
  · obtain ⟨b, cc, h1, h2⟩ := hx i (by omega)
    have hl := ho.1
    rw [Nat.mul_one] at hl
    exact ⟨b, cc, by rw [List.getElem?_append_left (by omega)]; exact h1, h2.grown hgr (h'.apart h2 hk)⟩

/-- The first t bytes of a symbol. -/
def pieceTo (x : Nat → Nat) (n s i t j : Nat) : Nat := if j < t then piece x n s i j else 0

theorem pieceTo_step {w : World} {g u s n m i t : Nat} {x : Nat → Nat} (h : w.rowIs g u s (byteAt (pieceTo x n s i t))) (hm : m = i * s) (ht : m + t < n) : (w.setCell ⟨g, t, none⟩ (.int .u8 (x (m + t) : Int))).rowIs g u s (byteAt (pieceTo x n s i (t + 1))) := by
  refine (h.set t _).congr fun j _ => ?_
  by_cases e : j = t
  · subst e
    rw [if_pos rfl]
    unfold byteAt pieceTo piece
    rw [if_pos (by omega), ← hm, if_pos ht]
  · rw [if_neg e]
    unfold byteAt pieceTo
    by_cases g : j < t
    · rw [if_pos g, if_pos (by omega)]
    · rw [if_neg g, if_neg (by omega)]
theorem Own.nil (w : World) (k : Nat) (V : Nat → Nat → Nat) (base : Nat) : Own w base (.slice none 0 0) 0 k V :=
  ⟨[], ⟨rfl, .inl ⟨rfl, rfl⟩⟩, fun _ g e => by simp [Value.ownBlock] at e, fun i hi => absurd hi (by omega)⟩
set_option maxRecDepth 100000 in
set_option maxHeartbeats 1000000 in
theorem rsplit_yes (a : Option Addr) (n c s k : Nat) (x : Nat → Nat) (w : World) (hx : BytesAt w a n x) (s1 : 1 ≤ s) (s2 : s ≤ 64) (n1 : 1 ≤ n) (n2 : n ≤ 32 * s) (hk : k = cntOf n s) :
    Calls Try.prog 31 #[.slice a n c, .int .i64 (s : Int)] w fun e w' => ∃ v, e = .returned (.tuple #[v, .bool true]) ∧ Own w' w.heap.size v k s (piece x n s) ∧ Below w.heap.size w w' := by
  have k32 : k ≤ 32 := by rw [hk]; exact cnt_le n s s1 n2
  have n3 : n ≤ 2048 := by omega
  have HM : Hid (∀ i, i < k → i * s < n) := fun i hi => cnt_mul n s i s1 n1 (hk ▸ hi)
  have HK : Hid (cntOf n s = k) := hk.symm
  clear hk
  have hms := run_make_row' (P := Try.prog) 26 5 (.int .u8 0) 1 Try.underlying26 Try.infoByte rfl .i64 .i64 s (by omega) (by omega)
  obtain ⟨b0, o0, rfl⟩ := bytes_some hx n1
  have HX : Hid (BytesAt w (some ⟨b0, o0, none⟩) n x) := hx
  clear hx
  go_enter Try.func31, Try.ntmps31
  go_wp2_with fail
  refine (rcount_yes n s _ s1 s2 n1 n2).mono ?_
  rintro e w ⟨rfl, rfl⟩
  rw [HK.out]
  clear HK n2
  go_wp2_with fail
  go_loopw [8, 9] (fun v i wr => ∃ j : Nat, j ≤ k ∧ i = .int .i64 j ∧ Own wr w.heap.size v j s (piece x n s) ∧ Below w.heap.size w wr) (fun _ i _ => k - (intOf i).toNat)
  case atStart => exact ⟨0, Nat.zero_le _, rfl, Own.nil _ _ _ _, Below.refl _ _⟩
  case round =>
    obtain ⟨j, hj, rfl, ho, hb⟩ := hrel
    have HO : Hid (Own wr w.heap.size u8 j s (piece x n s)) := ho
    have HB : Hid (Below w.heap.size w wr) := hb
    clear ho hb
    by_cases hjk : j < k
    · have i1 : (j : Int) < (k : Int) := by omega
      have jm := HM.out j hjk
      obtain ⟨m, hm⟩ : ∃ m, m = j * s := ⟨_, rfl⟩
      have HMJ : Hid (m = j * s) := hm
      have hw := mul_fits j s m hm (by omega)
      have mn : m < n := by omega
      clear hm jm
      generalize wr = wo at *
      have HG : Hid ((wo.alloc (.cells (madeCells #[.int .u8 0] s) 5)).rowIs wo.heap.size 5 s (byteAt (pieceTo x n s j 0))) := (World.rowIs_made wo (.int .u8 0) s 5).congr fun i _ => by unfold byteAt pieceTo; rw [if_neg (by omega)]; rfl
      go_wp2_with fail
      go_loopw [11] (fun i wr => ∃ t : Nat, t ≤ s ∧ m + t ≤ n ∧ i = .int .i64 t ∧ wr.rowIs wo.heap.size 5 s (byteAt (pieceTo x n s j t)) ∧ Below wo.heap.size wo wr) (fun i _ => s - (intOf i).toNat)
      case atStart => exact ⟨0, Nat.zero_le _, by omega, rfl, HG.out, (Below.refl _ _).alloc (Nat.le_refl _) _⟩
      case round =>
        clear HG
        obtain ⟨t, t1, t2, rfl, hr, hbi⟩ := hrel
        have HR : Hid (wr.rowIs wo.heap.size 5 s (byteAt (pieceTo x n s j t))) := hr
        have HI : Hid (Below wo.heap.size wo wr) := hbi
        clear hr hbi
        by_cases hts : t < s ∧ m + t < n
        · obtain ⟨t3, t4⟩ := hts
          have i3 : (t : Int) < (s : Int) := by omega
          have i4 : (m : Int) + (t : Int) < (n : Int) := by omega
          have BX := HX.out.below (HB.out.trans (HI.out.mono HB.out.size)) (Nat.le_refl _)
          have c1 := bytes_cell BX (m + t) t4
          have c2 := HR.out.cell t3
          have f2 := HR.out.frozen t
          have e1 : ((m : Int) + (t : Int)).toNat = m + t := by omega
          clear BX
          go_wp2
          go_roundw
          case rel => exact ⟨t + 1, by omega, by omega, by go_num, pieceTo_step HR.out HMJ.out t4, HI.out.setCell (Nat.le_refl _) _⟩
          case measure => simp [intOf]; omega
        · have HP : Hid (BytesAt wr (some ⟨wo.heap.size, 0, none⟩) s (piece x n s j)) := row_bytes' HR.out (fun i hi => by
            unfold pieceTo
            by_cases g : i < t
            · rw [if_pos g]
            · rw [if_neg g]
              unfold piece
              rw [← HMJ.out, if_neg (by omega)]) (fun i _ => piece_lt HX.out.lt i)
          have HO2 : Hid (Own wr w.heap.size u8 j s (piece x n s)) := HO.out.grew HI.out
          have HB2 : Hid (Below w.heap.size w wr) := HB.out.trans (HI.out.mono HB.out.size)
          have l1 := HR.out.lt
          clear HO HB HR HI
          have cq : (wr.alloc (.cells #[.slice (some ⟨wo.heap.size, 0, none⟩) s s] 26)).cell? ⟨wr.heap.size, 0, none⟩ = some (.slice (some ⟨wo.heap.size, 0, none⟩) s s) := by rw [World.cell?_alloc_at _ _ _ _ rfl]; rfl
          have A2 : Below wr.heap.size wr (wr.alloc (.cells #[.slice (some ⟨wo.heap.size, 0, none⟩) s s] 26)) := (Below.refl _ _).alloc (Nat.le_refl _) _
          obtain ⟨v', w5, happ, ho5, hg5⟩ := (HO2.out.grew A2).push wr.heap.size wo.heap.size s 77 cq (HP.out.grew A2) (by omega) (by omega) (by have := HB2.out.size; simp; omega)
          have HO5 : Hid (Own w5 w.heap.size v' (j + 1) s (piece x n s)) := ho5
          have HB5 : Hid (Below w.heap.size w w5) := (HB2.out.trans (A2.mono HB2.out.size)).grown hg5 (by have := HB2.out.size; simp; omega) (fun g e => (HO2.out.lt g e).1)
          clear ho5 hg5 cq A2
          by_cases ht : t < s
          · have i3 : (t : Int) < (s : Int) := by omega
            have i4 : ¬ (m : Int) + (t : Int) < (n : Int) := by omega
            clear hts
            go_wp2_with (at_builtin; refine Go.Lib.wpList_append_run _ rfl (.tmp 54) (.tmp 56) 77 77 rfl _ _ rfl rfl _ _ happ ?_)
            go_roundw
            case rel => exact ⟨j + 1, by omega, by go_num, HO5.out, HB5.out⟩
            case measure => simp [intOf]; omega
          · obtain rfl : t = s := by omega
            clear hts ht
            go_wp2_with (at_builtin; refine Go.Lib.wpList_append_run _ rfl (.tmp 54) (.tmp 56) 77 77 rfl _ _ rfl rfl _ _ happ ?_)
            go_roundw
            case rel => exact ⟨j + 1, by omega, by go_num, HO5.out, HB5.out⟩
            case measure => simp [intOf]; omega
    · obtain rfl : j = k := by omega
      clear hjk hj
      go_wp2
      go_ret2
      exact ⟨_, rfl, HO.out, HB.out⟩

theorem rsplit_no (a : Option Addr) (n c : Nat) (s : Int) (w : World) (h : ¬ (1 ≤ s ∧ s ≤ 64 ∧ 1 ≤ (n : Int) ∧ (n : Int) ≤ 32 * s)) :
    Calls Try.prog 31 #[.slice a n c, .int .i64 s] w fun e w' => e = .returned (.tuple #[.slice none 0 0, .bool false]) ∧ w' = w := by
  go_enter Try.func31, Try.ntmps31
  go_wp2_with fail
  refine (rcount_no n s _ h).mono ?_
  rintro e w ⟨rfl, rfl⟩
  go_wp2
  go_ret2
  exact ⟨rfl, rfl⟩
end Go.Proofs.Ythlidbenhlidjaa

/-
  The document's Symbol; that package fount's answers as it does.
-/
namespace Go.Proofs.Ythlidbenhlidjaa
open Go.RowKit Go.Deep

/-- A symbol was answered by the document's. -/
def RSymAns (w : World) (s : Nat) (y : Nat → Nat) (e : Ending) (w' : World) : Prop :=
  ∃ b c, e = .returned (.tuple #[.slice (some ⟨b, 0, none⟩) s c, .bool true]) ∧ w.heap.size ≤ b ∧ BytesAt w' (some ⟨b, 0, none⟩) s y ∧ Below w.heap.size w w'

set_option maxRecDepth 100000 in
theorem rsymbol_cut (f id s : Int) (a : Option Addr) (n c : Nat) (w : World) (hno : ¬ (1 ≤ s ∧ s ≤ 64 ∧ 1 ≤ (n : Int) ∧ (n : Int) ≤ 32 * s)) :
    Calls Try.prog 22 #[.int .u32 f, .slice a n c, .int .i64 s, .int .i64 id] w fun e w' => SymNo w e w' := by
  go_enter Try.func22, Try.ntmps22
  go_wp2_with fail
  refine (rsplit_no a n c s _ hno).mono ?_
  rintro e w2 ⟨rfl, rfl⟩
  go_wp2
  go_ret2
  exact ⟨rfl, Below.refl _ _⟩

set_option maxRecDepth 100000 in
theorem rsymbol_dice (f id : Int) (a : Option Addr) (n c s k : Nat) (x : Nat → Nat) (w : World) (hx : BytesAt w a n x) (s1 : 1 ≤ s) (s2 : s ≤ 64) (n1 : 1 ≤ n) (n2 : n ≤ 32 * s) (hk : k = cntOf n s) (k1 : 1 ≤ k) (hno : ¬ (0 ≤ id ∧ id < (k : Int) + 64)) :
    Calls Try.prog 22 #[.int .u32 f, .slice a n c, .int .i64 (s : Int), .int .i64 id] w fun e w' => SymNo w e w' := by
  have HK : Hid (k = cntOf n s) := hk
  clear hk
  go_enter Try.func22, Try.ntmps22
  go_wp2_with fail
  refine (rsplit_yes a n c s k x _ hx s1 s2 n1 n2 HK.out).mono ?_
  rintro e w2 ⟨v, rfl, O2, b2⟩
  obtain ⟨g, cap, rfl, -, -⟩ := O2.lst k1 s1
  have HB : Hid (Below w.heap.size w w2) := b2
  clear O2 b2 hx
  go_wp2_with fail
  refine (rrow_no f id k _ (by omega)).mono ?_
  rintro e w3 ⟨rfl, rfl⟩
  go_wp2
  go_ret2
  exact ⟨rfl, HB.out⟩

set_option maxRecDepth 100000 in
set_option maxHeartbeats 1000000 in
theorem rsymbol_yes (f id : Nat) (a : Option Addr) (n c s k : Nat) (x : Nat → Nat) (w : World) (hx : BytesAt w a n x) (hf : f < 4294967296) (s1 : 1 ≤ s) (s2 : s ≤ 64) (n1 : 1 ≤ n) (n2 : n ≤ 32 * s) (hk : k = cntOf n s) (k1 : 1 ≤ k) (k2 : k ≤ 32) (hi : id < k + 64) :
    Calls Try.prog 22 #[.int .u32 (f : Int), .slice a n c, .int .i64 (s : Int), .int .i64 (id : Int)] w fun e w' => RSymAns w s (symOf f x n s id) e w' := by
  have HK : Hid (k = cntOf n s) := hk
  have hmk := run_make_row' (P := Try.prog) 26 5 (.int .u8 0) 1 Try.underlying26 Try.infoByte rfl .i64 .i64 s (by omega) (by omega)
  clear hk
  go_enter Try.func22, Try.ntmps22
  go_wp2_with fail
  refine (rsplit_yes a n c s k x _ hx s1 s2 n1 n2 HK.out).mono ?_
  rintro e w2 ⟨v, rfl, O2, b2⟩
  obtain ⟨L, cap, rfl, -, L2⟩ := O2.lst k1 s1
  clear O2 hx
  go_wp2_with fail
  refine (rrow_yes f id k _ hf k1 k2 hi).mono ?_
  rintro e w3 ⟨q, rfl, -, Q3, b3⟩
  have B3 : Below w.heap.size w w3 := b2.trans (b3.mono b2.size)
  have L3 := L2.grew b3
  clear b3 b2 L2
  have HB3 : Hid (Below w.heap.size w w3) := B3
  have z3 := B3.size
  have HQ : Hid (BytesAt w3 (some ⟨q, 0, none⟩) k (Dice.rowOf f id k)) := Q3
  have HL : Hid (Lst w3 L cap k s (piece x n s)) := L3
  have Y4 : BytesAt (w3.alloc (.cells (madeCells #[.int .u8 0] s) 5)) (some ⟨w3.heap.size, 0, none⟩) s (fun _ => 0) :=
    ⟨fun _ => ⟨_, 0, rfl, fun i hi => by rw [Nat.zero_add]; exact (World.rowIs_made w3 (.int .u8 0) s 5).cell hi⟩, fun _ _ => by decide⟩
  have HR : Hid (∀ i, Dice.rowOf f id k i < 256) := fun i => Dice.rowOf_lt _ _ _ _
  have HS : Hid (symOf f x n s id = mixTo (Dice.rowOf f id k) (piece x n s) k) := by show symOf f x n s id = _; unfold symOf; rw [← HK.out]
  clear Q3 L3 B3
  generalize Dice.rowOf f id k = R at *
  go_wp2_with fail
  clear hmk
  go_loopw [14, 15] (fun v i wr => ∃ (j b cc : Nat), j ≤ k ∧ i = .int .i64 j ∧ v = .slice (some ⟨b, 0, none⟩) s cc ∧ w.heap.size ≤ b ∧ BytesAt wr (some ⟨b, 0, none⟩) s (mixTo R (piece x n s) j) ∧ Below w3.heap.size w3 wr) (fun _ i _ => k - (intOf i).toNat)
  case atStart => exact ⟨0, w3.heap.size, s, Nat.zero_le _, rfl, rfl, z3, Y4, (Below.refl _ _).alloc (Nat.le_refl _) _⟩
  case round =>
    obtain ⟨j, b, cc, hj, rfl, rfl, hb, BY, BE⟩ := hrel
    have HY : Hid (BytesAt wr (some ⟨b, 0, none⟩) s (mixTo R (piece x n s) j)) := BY
    have HB : Hid (Below w3.heap.size w3 wr) := BE
    clear BY BE Y4
    by_cases hjk : j < k
    · have i1 : (j : Int) < (k : Int) := by omega
      have c1 := bytes_cell (HQ.out.below HB.out (Nat.le_refl _)) j hjk
      rw [Nat.zero_add] at c1
      obtain ⟨b', c', c2, B2, -⟩ := (HL.out.grew HB.out).at j hjk
      have l1 := HR.out j
      have HB2 : Hid (BytesAt wr (some ⟨b', 0, none⟩) s (piece x n s j)) := B2
      have HX : Hid (mixTo R (piece x n s) (j + 1) = addUp (mixTo R (piece x n s) j) (piece x n s j) (R j)) := (rfl : _ = _)
      have z1 : w.heap.size ≤ wr.heap.size := Nat.le_trans z3 HB.out.size
      clear B2
      generalize R j = rj at *
      go_wp2_with fail
      go_region_with (go_at_call 32; refine (raxpy_new s cc c' rj _ _ (mixTo R (piece x n s) j) (piece x n s j) _ ?_ ?_ (by omega) (by omega) l1).mono ?_; (first | exact HY.out | exact HY.out.grew (below_drews 1)); (first | exact HB2.out | exact HB2.out.grew (below_drews 1)); rintro e w1 ⟨g1, d1, rfl, g2, B1, b1⟩)
      all_goals
        have HB3' : Hid (Below w3.heap.size w3 w1) := HB.out.trans (by first | exact b1.mono HB.out.size | exact (below_drews 1).trans (b1.mono HB.out.size))
        have HY3 : Hid (BytesAt w1 (some ⟨g1, 0, none⟩) s (mixTo R (piece x n s) (j + 1))) := by show BytesAt _ _ _ _; rw [HX.out]; exact B1
        have z2 : w.heap.size ≤ g1 := Nat.le_trans z1 g2
        clear B1 b1
        go_wp2
        go_roundw
        case rel => exact ⟨j + 1, g1, d1, by omega, by go_num, rfl, z2, HY3.out, HB3'.out⟩
        case measure => simp [intOf]; omega
    · obtain rfl : j = k := by omega
      clear hjk hj
      go_wp2
      go_ret2
      exact ⟨b, cc, rfl, hb, by rw [HS.out]; exact HY.out, HB3.out.trans (HB.out.mono z3)⟩

/-- A text, or none, was answered. -/
def SayAns (w : World) (S : ByteArray) (ok : Bool) (e : Ending) (w' : World) : Prop :=
  ∃ a n c x, e = .returned (.tuple #[.slice a n c, .bool ok]) ∧ BytesAt w' a n x ∧ strOf n x = S ∧ Below w.heap.size w w'
theorem bytes_none (w : World) (a : Option Addr) (x : Nat → Nat) : BytesAt w a 0 x := ⟨fun g => absurd g (by decide), fun i hi => absurd hi (Nat.not_lt_zero i)⟩
theorem SymNo.say {w : World} {e : Ending} {w' : World} (h : SymNo w e w') : SayAns w (strOf 0 (fun _ => 0)) false e w' := by
  obtain ⟨rfl, hb⟩ := h
  exact ⟨_, _, _, _, rfl, bytes_none _ _ _, rfl, hb⟩

theorem symOf_congr {f n s id : Nat} {x y : Nat → Nat} (h : ∀ i, i < n → x i = y i) : symOf f x n s id = symOf f y n s id := by
  have e : piece x n s = piece y n s := by
    funext i j
    unfold piece
    split
    · exact h _ (by assumption)
    · rfl
  unfold symOf
  rw [e]

/-- Both answer alike. -/
theorem symbol_both (f : Nat) (id s : Int) (n : Nat) (x : Nat → Nat) (hf : f < 4294967296) : ∃ (S : ByteArray) (ok : Bool),
    (∀ p a c w y, FieldAt w p → BytesAt w a n y → n ≤ c → (∀ i, i < n → y i = x i) → Calls Try.prog 30 #[.pointer (some ⟨p, 0, none⟩), .int .u32 (f : Int), .slice a n c, .int .i64 s, .int .i64 id] w fun e w' => SayAns w S ok e w') ∧
    (∀ a c w, BytesAt w a n x → Calls Try.prog 22 #[.int .u32 (f : Int), .slice a n c, .int .i64 s, .int .i64 id] w fun e w' => SayAns w S ok e w') := by
  by_cases h : 1 ≤ s ∧ s ≤ 64 ∧ 1 ≤ (n : Int) ∧ (n : Int) ≤ 32 * s
  · obtain ⟨b, rfl⟩ : ∃ b : Nat, s = b := ⟨s.toNat, by omega⟩
    have k1 : 1 ≤ cntOf n b := by
      unfold cntOf
      exact (Nat.le_div_iff_mul_le (by omega)).2 (by omega)
    have k2 : cntOf n b ≤ 32 := cnt_le n b (by omega) (by omega)
    by_cases g : 0 ≤ id ∧ id < (cntOf n b : Int) + 64
    · obtain ⟨i, rfl⟩ : ∃ i : Nat, id = i := ⟨id.toNat, by omega⟩
      refine ⟨strOf b (symOf f x n b i), true, fun p a c w y hp hy hc hxy => ?_, fun a c w hx => ?_⟩
      · refine (symbol_yes p f i a n c b _ y w hp hy hc hf (by omega) (by omega) (by omega) (by omega) rfl (by omega)).mono ?_
        rintro e w' ⟨r, rfl, -, R, hb⟩
        exact ⟨_, _, _, _, rfl, R, by rw [symOf_congr hxy], hb⟩
      · refine (rsymbol_yes f i a n c b _ x w hx hf (by omega) (by omega) (by omega) (by omega) rfl k1 k2 (by omega)).mono ?_
        rintro e w' ⟨r, cr, rfl, -, R, hb⟩
        exact ⟨_, _, _, _, rfl, R, rfl, hb⟩
    · exact ⟨_, _, fun p a c w y hp hy hc _ => (symbol_dice p f id a n c b _ y w hp hy hc (by omega) (by omega) (by omega) (by omega) rfl g).mono fun _ _ h => h.say,
        fun a c w hx => (rsymbol_dice f id a n c b _ x w hx (by omega) (by omega) (by omega) (by omega) rfl k1 g).mono fun _ _ h => h.say⟩
  · exact ⟨_, _, fun p a c w y hp _ _ _ => (symbol_cut p f id s a n c w hp h).mono fun _ _ h => h.say, fun a c w _ => (rsymbol_cut f id s a n c w h).mono fun _ _ h => h.say⟩
end Go.Proofs.Ythlidbenhlidjaa

/-
  The document's Packets.
-/
namespace Go.Proofs.Ythlidbenhlidjaa
open Go.RowKit Go.Deep

theorem cnt_pos' {n : Nat} {s : Int} (h : 1 ≤ s ∧ s ≤ 64 ∧ 1 ≤ (n : Int) ∧ (n : Int) ≤ 32 * s) : 1 ≤ cntOf n s.toNat ∧ cntOf n s.toNat ≤ 32 := by
  obtain ⟨m, rfl⟩ : ∃ m : Nat, s = m := ⟨s.toNat, by omega⟩
  rw [Int.toNat_natCast]
  refine ⟨?_, cnt_le n m (by omega) (by omega)⟩
  unfold cntOf
  exact (Nat.le_div_iff_mul_le (by omega)).2 (by omega)
theorem rask_no (f : Int) (id s : Int) (a : Option Addr) (n c : Nat) (x : Nat → Nat) (w : World) (hx : BytesAt w a n x) (hno : ¬ fitS n s id) :
    Calls Try.prog 22 #[.int .u32 f, .slice a n c, .int .i64 s, .int .i64 id] w fun e w' => SymNo w e w' := by
  by_cases g : 1 ≤ s ∧ s ≤ 64 ∧ 1 ≤ (n : Int) ∧ (n : Int) ≤ 32 * s
  · have k1 := (cnt_pos' g).1
    obtain ⟨m, rfl⟩ : ∃ m : Nat, s = m := ⟨s.toNat, by omega⟩
    rw [Int.toNat_natCast] at k1
    refine rsymbol_dice f id a n c m _ x w hx (by omega) (by omega) (by omega) (by omega) rfl k1 fun h2 => hno ⟨g, h2.1, ?_⟩
    rw [Int.toNat_natCast]
    exact h2.2
  · exact rsymbol_cut f id s a n c w g
theorem rask_yes (f : Nat) (id s : Int) (a : Option Addr) (n c : Nat) (x : Nat → Nat) (w : World) (hx : BytesAt w a n x) (hf : f < 4294967296) (hfit : fitS n s id) :
    Calls Try.prog 22 #[.int .u32 (f : Int), .slice a n c, .int .i64 s, .int .i64 id] w fun e w' => RSymAns w s.toNat (symOf f x n s.toNat id.toNat) e w' := by
  obtain ⟨g, z1, z2⟩ := hfit
  obtain ⟨k1, k2⟩ := cnt_pos' g
  obtain ⟨m, rfl⟩ : ∃ m : Nat, s = m := ⟨s.toNat, by omega⟩
  obtain ⟨i, rfl⟩ : ∃ i : Nat, id = i := ⟨id.toNat, by omega⟩
  simp only [Int.toNat_natCast] at z2 k1 k2 ⊢
  exact rsymbol_yes f i a n c m _ x w hx hf (by omega) (by omega) (by omega) (by omega) rfl k1 k2 (by omega)

set_option maxRecDepth 100000 in
set_option maxHeartbeats 2000000 in
theorem rpackets_any (F : Fr) (a : Option Addr) (n c : Nat) (s : Int) (ia : Option Addr) (m ic q t : Nat) (z : Nat → Int) (x : Nat → Nat) (w : World) (hx : BytesAt w a n x) (hz : IntsAt w ia m z) (hm : m ≤ 1000) (hf : F.id < 4294967296) (hq : q < 65536) :
    Calls Try.prog 10 #[F.val, .slice a n c, .int .i64 s, .slice ia m ic, .int .u16 (q : Int), .int .u16 (t : Int)] w (PacksIs w true m q t F.id n F.s s x z) := by
  obtain ⟨w1, e1⟩ : ∃ y, w.alloc (.cells #[.int .u32 (F.id : Int), .int .i64 F.k, .slice F.a F.n F.c, .int .i64 F.s, .int .i64 F.p, .int .i64 F.d] 25) = y := ⟨_, rfl⟩
  have B1 : Below w.heap.size w w1 := e1 ▸ (Below.refl _ _).alloc (Nat.le_refl _) _
  have F1 : FrAt w1 w.heap.size F := e1 ▸ FrAt.made w _ F
  have HB1 : Hid (Below w.heap.size w w1) := B1
  have HX : Hid (BytesAt w1 a n x) := hx.grew B1
  have HZ : Hid (IntsAt w1 ia m z) := hz.below B1 (Nat.le_refl _)
  have lR : w.heap.size < w1.heap.size := F1.lt
  obtain ⟨f0, f1, f2, f3, f4, f5, -⟩ := F1
  clear B1 hx hz
  unfold Fr.val
  by_cases hs : F.s = (n : Int)
  case neg =>
    have HN : Hid (¬ (F.s = (n : Int) ∧ Fit true n s z m)) := fun h => hs h.1
    have h1 : ((n : Int) != F.s) = true := by simp; omega
    clear hs
    go_enter Try.func10, Try.ntmps10
    go_wp2
    go_ret2
    exact .inr ⟨HN.out, rfl, HB1.out⟩
  have HSN : Hid (F.s = (n : Int)) := hs
  have h1 : ((n : Int) != F.s) = false := by simp; omega
  clear hs
  go_enter Try.func10, Try.ntmps10
  go_wp2_with fail
  clear e1 h1
  go_loopw [14, 15] (fun l i wr => ∃ (j : Nat) (K : Nat → Dt), i = .int .i64 j ∧ j ≤ m ∧ Hid (Fit true n s z j) ∧ Hid (Dts wr w1.heap.size l j K (fun i => symOf F.id x n s.toNat (z i).toNat)) ∧ Hid (Told15 j q t F.id s.toNat z K) ∧ Hid (Below w1.heap.size w1 wr)) (fun _ i _ => m - (intOf i).toNat)
  case atStart => exact ⟨0, fun _ => ⟨0, 0, 0, 0, none, 0, 0⟩, rfl, Nat.zero_le _, fun i hi => absurd hi (Nat.not_lt_zero i), Dts.nil _ _ _ _, Told15.nil _ _ _ _ _ _, Below.refl _ _⟩
  case round =>
    obtain ⟨j, K, rfl, hj, hfit, hds, htl, hbl⟩ := hrel
    by_cases hjm : j < m
    case neg =>
      obtain rfl : j = m := by omega
      have j1 : decide ((j : Int) < (j : Int)) = false := by simp
      obtain ⟨r, cap, rfl, -⟩ := hds.out.row.any
      have HA : Hid (PacksIs w true j q t F.id n F.s s x z (.returned (.tuple #[.slice r j cap, .bool true])) wr) := .inl ⟨⟨HSN.out, hfit.out⟩, _, K, rfl, hds.out.base (by omega), htl.out, HB1.out.trans (hbl.out.mono (by omega))⟩
      clear hds htl hfit hbl
      go_wp2
      go_ret2
      exact HA.out
    have j1 : (j : Int) < (m : Int) := by omega
    obtain ⟨ib, io, rfl⟩ := HZ.out.addr (by omega)
    have C1 := HZ.out.at j hjm
    obtain ⟨r, cap, rfl, -, -⟩ := hds.out.row.any
    obtain ⟨zj, hzj⟩ : ∃ zj, zj = z j := ⟨_, rfl⟩
    have HZJ : Hid (zj = z j) := hzj
    rw [← hzj] at C1
    clear hzj
    go_wp2_with fail
    refine wp_region_held (S := fun W => Below w1.heap.size w1 W) (by kernel_rfl) ?_
    change wpAnyH _ _ _ _ _ _ _ _ wr.drew
    have hr : Below w1.heap.size w1 wr.drew := hbl.out.drew
    have HR : Hid (Below w1.heap.size w1 wr.drew) := hr
    have hds : Hid (Dts wr.drew w1.heap.size (.slice r j cap) j K (fun i => symOf F.id x n s.toNat (z i).toNat)) := hds.out.grew (below_drews 1)
    clear hbl
    generalize wr.drew = w2 at *
    refine wpAnyH_take (i := 0) (v := .pointer (some ⟨w.heap.size, 0, none⟩)) rfl (by kernel_rfl) (by kernel_rfl) (by kernel_rfl) (fun _ _ _ h => h) (Yields.yieldsIf (Or.inl ⟨by kernel_rfl, fun _ => by go_simp⟩)) hr ?_
    refine wpAnyH_take (i := 1) (v := .int .u32 (F.id : Int)) rfl (by kernel_rfl) (by kernel_rfl) (by kernel_rfl) (fun _ _ _ h => h) (Or.inl ⟨by kernel_rfl, fun W hW => by have g := (hW.cell (p := ⟨w.heap.size, 0, none⟩) lR).trans f0; go_simp⟩) hr ?_
    refine wpAnyH_take (i := 2) (v := .slice a n c) rfl (by kernel_rfl) (by kernel_rfl) (by kernel_rfl) (fun _ _ _ h => h) (Yields.yieldsIf (Or.inl ⟨by kernel_rfl, fun _ => by kernel_rfl⟩)) hr ?_
    refine wpAnyH_take (i := 3) (v := .int .i64 s) rfl (by kernel_rfl) (by kernel_rfl) (by kernel_rfl) (fun _ _ _ h => h) (Yields.yieldsIf (Or.inl ⟨by kernel_rfl, fun _ => by kernel_rfl⟩)) hr ?_
    refine wpAnyH_take (i := 4) (v := .slice (some ⟨ib, io, none⟩) m ic) rfl (by kernel_rfl) (by kernel_rfl) (by kernel_rfl) (fun _ _ _ h => h) (Yields.yieldsIf (Or.inl ⟨by kernel_rfl, fun _ => by kernel_rfl⟩)) hr ?_
    refine wpAnyH_take (i := 5) (v := .int .i64 (j : Int)) rfl (by kernel_rfl) (by kernel_rfl) (by kernel_rfl) (fun _ _ _ h => h) (Yields.yieldsIf (Or.inl ⟨by kernel_rfl, fun _ => by kernel_rfl⟩)) hr ?_
    refine wpAnyH_take (i := 6) (v := .pointer (some ⟨ib, io + j, none⟩)) rfl (by kernel_rfl) (by kernel_rfl) (by kernel_rfl) (fun _ _ _ h => h) (Yields.yieldsIf (Or.inl ⟨by kernel_rfl, fun _ => by go_simp⟩)) hr ?_
    refine wpAnyH_take (i := 7) (v := .int .i64 zj) rfl (by kernel_rfl) (by kernel_rfl) (by kernel_rfl) (fun _ _ _ h => h) (Or.inl ⟨by kernel_rfl, fun W hW => by have g := (hW.cell (p := ⟨ib, io + j, none⟩) (cell_lt C1)).trans C1; go_simp⟩) hr ?_
    refine wpAnyH_ready (rs := [8]) (by kernel_rfl) (by simp) ?_
    refine AllReadyH.cons rfl (fun K2 hK2 => ?_) AllReadyH.nil
    go_simp
    have X2 : BytesAt w2 a n x := HX.out.below hr (Nat.le_refl _)
    by_cases hs : fitS n s zj
    case neg =>
      have HNF : Hid (¬ (F.s = (n : Int) ∧ Fit true n s z m)) := fun hh => hs (by have := HZJ.out; subst this; exact (hh.2 j hjm).2)
      refine Calls.mono (rask_no F.id zj s a n c x w2 X2 hs) ?_
      rintro e w3 ⟨rfl, b3⟩
      have hr := hr.trans (b3.mono hr.size)
      refine hK2.out _ _ hr (fun hr => ?_)
      clear hK2 K2 hs X2
      refine wpAnyH_take (i := 9) (v := .tuple #[.slice none 0 0, .bool false]) rfl (by kernel_rfl) (by kernel_rfl) (by kernel_rfl) (fun _ _ _ h => h) (Yields.yieldsIf (Or.inl ⟨by kernel_rfl, fun _ => by kernel_rfl⟩)) hr ?_
      refine wpAnyH_take (i := 10) (v := .slice none 0 0) rfl (by kernel_rfl) (by kernel_rfl) (by kernel_rfl) (fun _ _ _ h => h) (Yields.yieldsIf (Or.inl ⟨by kernel_rfl, fun _ => by go_simp⟩)) hr ?_
      refine wpAnyH_take (i := 11) (v := .bool false) rfl (by kernel_rfl) (by kernel_rfl) (by kernel_rfl) (fun _ _ _ h => h) (Yields.yieldsIf (Or.inl ⟨by kernel_rfl, fun _ => by go_simp⟩)) hr ?_
      refine wpAnyH_take (i := 12) (v := .slice none 0 0) rfl (by kernel_rfl) (by kernel_rfl) (by kernel_rfl) (fun _ _ _ h => h) (Yields.yieldsIf (Or.inl ⟨by kernel_rfl, fun _ => by kernel_rfl⟩)) hr ?_
      refine wpAnyH_take (i := 13) (v := .bool false) rfl (by kernel_rfl) (by kernel_rfl) (by kernel_rfl) (fun _ _ _ h => h) (Yields.yieldsIf (Or.inl ⟨by kernel_rfl, fun _ => by kernel_rfl⟩)) hr ?_
      refine wpAnyH_done (by kernel_rfl) ?_ _
      have HA : Hid (PacksIs w true m q t F.id n F.s s x z (.returned (.tuple #[.slice none 0 0, .bool false])) w3) := .inr ⟨HNF.out, rfl, HB1.out.trans (hr.mono (by omega))⟩
      clear hr b3
      go_wp2
      go_ret2
      exact HA.out
    have HS : Hid (fitS n s zj) := hs
    refine Calls.mono (rask_yes F.id zj s a n c x w2 X2 hf hs) ?_
    rintro e w3 ⟨g, gc, rfl, g1, Y3, b3⟩
    have HG3 : Hid (w2.heap.size ≤ g) := g1
    have HD3 : Hid (Dts w3 w1.heap.size (.slice r j cap) j K (fun i => symOf F.id x n s.toNat (z i).toNat)) := hds.out.grew b3
    have hr := hr.trans (b3.mono hr.size)
    have HB3 : Hid (Below w1.heap.size w1 w3) := hr
    have lg2 : Hid (s.toNat ≠ 0 → g < w3.heap.size) := fun h => by
      obtain ⟨b, o, e, hc⟩ := Y3.cells (by omega)
      cases e
      exact cell_lt (hc 0 (by omega))
    have HSP : Hid (s.toNat ≠ 0) := by show s.toNat ≠ 0; have := HS.out.1.1; omega
    obtain ⟨S, hS⟩ : ∃ S, S = s.toNat := ⟨_, rfl⟩
    have HSS : Hid (S = s.toNat) := hS
    rw [← hS] at Y3 ⊢
    obtain ⟨Z, hZ⟩ : ∃ Z, Z = zj.toNat := ⟨_, rfl⟩
    have HZZ : Hid (Z = zj.toNat) := hZ
    rw [← hZ] at Y3
    have zn : zj = (Z : Int) := by rw [hZ, Int.toNat_of_nonneg hs.2.1]
    have z6 : Z < 65536 := by
      have h1 := hs.2.2
      have h2 := (cnt_pos' hs.1).2
      omega
    have HY3 : Hid (BytesAt w3 (some ⟨g, 0, none⟩) S (symOf F.id x n S Z)) := Y3
    refine hK2.out _ _ hr (fun hr => ?_)
    clear hK2 K2 hs X2 Y3 g1 hS hZ
    subst zn
    refine wpAnyH_take (i := 9) (v := .tuple #[.slice (some ⟨g, 0, none⟩) S gc, .bool true]) rfl (by kernel_rfl) (by kernel_rfl) (by kernel_rfl) (fun _ _ _ h => h) (Yields.yieldsIf (Or.inl ⟨by kernel_rfl, fun _ => by kernel_rfl⟩)) hr ?_
    refine wpAnyH_take (i := 10) (v := .slice (some ⟨g, 0, none⟩) S gc) rfl (by kernel_rfl) (by kernel_rfl) (by kernel_rfl) (fun _ _ _ h => h) (Yields.yieldsIf (Or.inl ⟨by kernel_rfl, fun _ => by go_simp⟩)) hr ?_
    refine wpAnyH_take (i := 11) (v := .bool true) rfl (by kernel_rfl) (by kernel_rfl) (by kernel_rfl) (fun _ _ _ h => h) (Yields.yieldsIf (Or.inl ⟨by kernel_rfl, fun _ => by go_simp⟩)) hr ?_
    refine wpAnyH_take (i := 12) (v := .slice (some ⟨g, 0, none⟩) S gc) rfl (by kernel_rfl) (by kernel_rfl) (by kernel_rfl) (fun _ _ _ h => h) (Yields.yieldsIf (Or.inl ⟨by kernel_rfl, fun _ => by kernel_rfl⟩)) hr ?_
    refine wpAnyH_take (i := 13) (v := .bool true) rfl (by kernel_rfl) (by kernel_rfl) (by kernel_rfl) (fun _ _ _ h => h) (Yields.yieldsIf (Or.inl ⟨by kernel_rfl, fun _ => by kernel_rfl⟩)) hr ?_
    refine wpAnyH_done (by kernel_rfl) ?_ _
    have HLg : Hid (w2.heap.size ≤ g ∧ g < w3.heap.size ∧ w1.heap.size ≤ w2.heap.size) := ⟨HG3.out, lg2.out HSP.out, HR.out.size⟩
    have HRG : Hid (∀ k, (Value.slice r j cap).ownBlock = some k → k < w2.heap.size) := fun k e => (World.ownsRow.lt hds.out.row k e).2
    clear hr b3 lg2 HG3 HR hds
    go_wp2_with fail
    refine wp_region_held (S := fun W => Below w1.heap.size w1 W) (by kernel_rfl) ?_
    change wpAnyH _ _ _ _ _ _ _ _ w3.drew
    have hr : Below w1.heap.size w1 w3.drew := HB3.out.drew
    have HD4 : Hid (Dts w3.drew w1.heap.size (.slice r j cap) j K (fun i => symOf F.id x n s.toNat (z i).toNat)) := HD3.out.grew (below_drews 1)
    have HY4 : Hid (BytesAt w3.drew (some ⟨g, 0, none⟩) S (symOf F.id x n S Z)) := HY3.out.grew (below_drews 1)
    have HL4 : Hid (w2.heap.size ≤ g ∧ g < w3.drew.heap.size ∧ w1.heap.size ≤ w2.heap.size) := HLg.out
    clear HB3 HD3 HY3 HLg
    generalize w3.drew = w4 at *
    have EW : IntKind.u16.wrap (Z : Int) = (Z : Int) := wrap_u16 Z z6
    obtain ⟨qj, hqj⟩ : ∃ qj, qj = (q + j) % 65536 := ⟨_, rfl⟩
    have EM : ((q : Int) + (j : Int)) % 65536 = (qj : Int) := by rw [hqj]; omega
    have q6 : qj < 65536 := by omega
    have EQ : IntKind.u16.wrap (qj : Int) = (qj : Int) := wrap_u16 qj q6
    have HQJ : Hid (qj = (q + j) % 65536) := hqj
    clear hqj
    refine wpAnyH_take (i := 0) (v := .slice r j cap) rfl (by kernel_rfl) (by kernel_rfl) (by kernel_rfl) (fun _ _ _ h => h) (Yields.yieldsIf (Or.inl ⟨by kernel_rfl, fun _ => by kernel_rfl⟩)) hr ?_
    refine wpAnyH_take (i := 1) (v := .int .u16 (q : Int)) rfl (by kernel_rfl) (by kernel_rfl) (by kernel_rfl) (fun _ _ _ h => h) (Yields.yieldsIf (Or.inl ⟨by kernel_rfl, fun _ => by kernel_rfl⟩)) hr ?_
    refine wpAnyH_take (i := 2) (v := .int .i64 (q : Int)) rfl (by kernel_rfl) (by kernel_rfl) (by kernel_rfl) (fun _ _ _ h => h) (Yields.yieldsIf (Or.inl ⟨by kernel_rfl, fun _ => by (go_simp; rw [IntKind.wrap_i64]; omega)⟩)) hr ?_
    refine wpAnyH_take (i := 3) (v := .int .i64 (j : Int)) rfl (by kernel_rfl) (by kernel_rfl) (by kernel_rfl) (fun _ _ _ h => h) (Yields.yieldsIf (Or.inl ⟨by kernel_rfl, fun _ => by kernel_rfl⟩)) hr ?_
    refine wpAnyH_take (i := 4) (v := .int .i64 ((q : Int) + (j : Int))) rfl (by kernel_rfl) (by kernel_rfl) (by kernel_rfl) (fun _ _ _ h => h) (Yields.yieldsIf (Or.inl ⟨by kernel_rfl, fun _ => by (go_simp; rw [IntKind.wrap_i64]; omega)⟩)) hr ?_
    refine wpAnyH_take (i := 5) (v := .int .i64 (qj : Int)) rfl (by kernel_rfl) (by kernel_rfl) (by kernel_rfl) (fun _ _ _ h => h) (Yields.yieldsIf (Or.inl ⟨by kernel_rfl, fun _ => by (go_simp; rw [Int.tmod_eq_emod_of_nonneg (by omega)]; exact EM)⟩)) hr ?_
    refine wpAnyH_take (i := 6) (v := .int .u16 (qj : Int)) rfl (by kernel_rfl) (by kernel_rfl) (by kernel_rfl) (fun _ _ _ h => h) (Yields.yieldsIf (Or.inl ⟨by kernel_rfl, fun _ => by go_simp⟩)) hr ?_
    refine wpAnyH_take (i := 7) (v := .int .u16 (t : Int)) rfl (by kernel_rfl) (by kernel_rfl) (by kernel_rfl) (fun _ _ _ h => h) (Yields.yieldsIf (Or.inl ⟨by kernel_rfl, fun _ => by kernel_rfl⟩)) hr ?_
    refine wpAnyH_take (i := 8) (v := .pointer (some ⟨w.heap.size, 0, none⟩)) rfl (by kernel_rfl) (by kernel_rfl) (by kernel_rfl) (fun _ _ _ h => h) (Yields.yieldsIf (Or.inl ⟨by kernel_rfl, fun _ => by go_simp⟩)) hr ?_
    refine wpAnyH_take (i := 9) (v := .int .u32 (F.id : Int)) rfl (by kernel_rfl) (by kernel_rfl) (by kernel_rfl) (fun _ _ _ h => h) (Or.inl ⟨by kernel_rfl, fun W hW => by have g := (hW.cell (p := ⟨w.heap.size, 0, none⟩) lR).trans f0; go_simp⟩) hr ?_
    refine wpAnyH_take (i := 10) (v := .slice (some ⟨ib, io, none⟩) m ic) rfl (by kernel_rfl) (by kernel_rfl) (by kernel_rfl) (fun _ _ _ h => h) (Yields.yieldsIf (Or.inl ⟨by kernel_rfl, fun _ => by kernel_rfl⟩)) hr ?_
    refine wpAnyH_take (i := 11) (v := .int .i64 (j : Int)) rfl (by kernel_rfl) (by kernel_rfl) (by kernel_rfl) (fun _ _ _ h => h) (Yields.yieldsIf (Or.inl ⟨by kernel_rfl, fun _ => by kernel_rfl⟩)) hr ?_
    refine wpAnyH_take (i := 12) (v := .pointer (some ⟨ib, io + j, none⟩)) rfl (by kernel_rfl) (by kernel_rfl) (by kernel_rfl) (fun _ _ _ h => h) (Yields.yieldsIf (Or.inl ⟨by kernel_rfl, fun _ => by go_simp⟩)) hr ?_
    refine wpAnyH_take (i := 13) (v := .int .i64 (Z : Int)) rfl (by kernel_rfl) (by kernel_rfl) (by kernel_rfl) (fun _ _ _ h => h) (Or.inl ⟨by kernel_rfl, fun W hW => by have g := (hW.cell (p := ⟨ib, io + j, none⟩) (cell_lt C1)).trans C1; go_simp⟩) hr ?_
    refine wpAnyH_take (i := 14) (v := .int .u16 (Z : Int)) rfl (by kernel_rfl) (by kernel_rfl) (by kernel_rfl) (fun _ _ _ h => h) (Yields.yieldsIf (Or.inl ⟨by kernel_rfl, fun _ => by go_simp⟩)) hr ?_
    refine wpAnyH_take (i := 15) (v := .slice (some ⟨g, 0, none⟩) S gc) rfl (by kernel_rfl) (by kernel_rfl) (by kernel_rfl) (fun _ _ _ h => h) (Yields.yieldsIf (Or.inl ⟨by kernel_rfl, fun _ => by kernel_rfl⟩)) hr ?_
    refine wpAnyH_take (i := 16) (v := .agg #[.int .u16 (qj : Int), .int .u16 (t : Int), .int .u32 (F.id : Int), .int .u16 (Z : Int), .slice (some ⟨g, 0, none⟩) S gc]) rfl (by kernel_rfl) (by kernel_rfl) (by kernel_rfl) (fun _ _ _ h => h) (Yields.yieldsIf (Or.inl ⟨by kernel_rfl, fun _ => by kernel_rfl⟩)) hr ?_
    refine wpAnyH_ready (rs := [17]) (by kernel_rfl) (by simp) ?_
    refine AllReadyH.cons rfl (fun K2 hK2 => ?_) AllReadyH.nil
    go_simp
    obtain ⟨y1, e1⟩ : ∃ y, w4.alloc (.cells #[.int .u16 (qj : Int), .int .u16 (t : Int), .int .u32 (F.id : Int), .int .u16 (Z : Int), .slice (some ⟨g, 0, none⟩) S gc] 40) = y := ⟨_, rfl⟩
    have B1 : Below w4.heap.size w4 y1 := e1 ▸ (Below.refl _ _).alloc (Nat.le_refl _) _
    have D1 : DatAt y1 w4.heap.size qj t F.id Z (some ⟨g, 0, none⟩) S gc := e1 ▸ DatAt.made w4 _ qj t F.id Z (some ⟨g, 0, none⟩) S gc
    rw [e1]
    clear e1
    have hr1 := hr.trans (B1.mono hr.size)
    refine hK2.out _ _ hr1 (fun _ => ?_)
    clear hK2 K2
    obtain ⟨d, hd⟩ : ∃ d : Dt, d = ⟨qj, t, F.id, Z, some ⟨g, 0, none⟩, S, gc⟩ := ⟨_, rfl⟩
    have BD : Bdy y1 w1.heap.size (.slice r j cap) d (symOf F.id x n S Z) := by
      rw [hd]
      refine Bdy.grew ⟨⟨g, rfl, by have := HL4.out; omega, HL4.out.2.1, fun e2 => ?_⟩, HY4.out⟩ B1
      have := HRG.out g e2
      have := HL4.out.1
      omega
    obtain ⟨v', y2, happ, D2, b2, -⟩ := Dts.push (d := d) 31 (HD4.out.grew B1) (by rw [hd]; exact D1) BD (by omega) hr1.size
    have HD5 : Hid (Dts y2 w1.heap.size v' (j + 1) (fun i => if i < j then K i else d) (fun i => symOf F.id x n s.toNat (z i).toNat)) := by
      refine ⟨D2.row, fun i hi => ?_⟩
      have := D2.body i hi
      by_cases e : i < j
      · simp only [if_pos e] at this ⊢; exact this
      · obtain rfl : i = j := by omega
        simp only [if_neg e] at this ⊢
        rw [← HSS.out, ← HZJ.out, ← HZZ.out]
        exact this
    have HT5 : Hid (Told15 (j + 1) q t F.id s.toNat z (fun i => if i < j then K i else d)) := htl.out.push d (by rw [hd]; exact ⟨HQJ.out, rfl, rfl, by rw [← HZJ.out, ← HZZ.out], HSS.out⟩)
    have hr2 := hr1.trans b2
    have HB5 : Hid (Below w1.heap.size w1 y2) := hr2
    have HFT : Hid (Fit true n s z (j + 1)) := fun i hi => by
      by_cases e : i = j
      · subst e
        rw [← HZJ.out]
        exact ⟨rfl, HS.out⟩
      · exact hfit.out i (by omega)
    clear hr
    refine wpAnyH_ready (rs := [18]) (by kernel_rfl) (by simp) ?_
    refine AllReadyH.cons rfl (fun K2 hK2 => ?_) AllReadyH.nil
    refine step_append_run rfl (.tmp 43) (.tmp 60) 31 rfl _ _ rfl rfl _ _ happ ?_
    refine hK2.out _ _ hr2 (fun hr => ?_)
    clear hK2 K2
    obtain ⟨r', cap', rfl, -⟩ := D2.row.any
    refine wpAnyH_take (i := 19) (v := .slice r' (j + 1) cap') rfl (by kernel_rfl) (by kernel_rfl) (by kernel_rfl) (fun _ _ _ h => h) (Yields.yieldsIf (Or.inl ⟨by kernel_rfl, fun _ => by kernel_rfl⟩)) hr ?_
    refine wpAnyH_done (by kernel_rfl) ?_ _
    clear hr hr1 hr2 b2 D2 BD D1 B1 happ hd HY4 HD4 HL4 HRG EW EQ EM HQJ HZJ HZZ HSS HSP htl hfit HS z6 q6 C1
    go_wp2_with fail
    go_roundw
    case rel => exact ⟨j + 1, _, by go_num, by omega, HFT, HD5, HT5, HB5⟩
    case measure => simp [intOf]; omega
end Go.Proofs.Ythlidbenhlidjaa
