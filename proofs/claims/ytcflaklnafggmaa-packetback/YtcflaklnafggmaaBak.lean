/-
  Package back: what its panics are, a number put behind bytes, its reader.
-/
import Derived.Test.YtcflaklnafggmaaRep
import Derived.Defers
import Derived.Recover
namespace Go.Proofs.Ytcflaklnafggmaa
open Go.RowKit Go.Deep

/-- What package back panics with. -/
def knoted : List PanicEntry := [{ v := .iface 97 (.agg #[]), recovered := false }]

theorem kdemand_yes (b : Bool) (w : World) (h : b = true) :
    Calls Try.prog 68 #[.bool b] w fun e w' => e = .returned (.tuple #[]) ∧ w' = w := by
  subst h
  go_enter Try.func68, Try.ntmps68
  go_wp2
  go_end0
  exact ⟨rfl, rfl⟩

theorem kdemand_no (b : Bool) (w : World) (h : b = false) :
    Calls Try.prog 68 #[.bool b] w fun e w' => e = .panicked knoted ∧ w' = w := by
  subst h
  go_enter Try.func68, Try.ntmps68
  go_wp2
  exact ⟨rfl, rfl, rfl⟩

theorem kwrite_0 {x d : Nat} (h : d = x / 256 ^ 0 % 256) : (x : Int) % 256 = (d : Int) := by rw [h]; simp
theorem kwrite_1 {x d : Nat} (h : d = x / 256 ^ 1 % 256) : (x : Int) / 256 % 256 = (d : Int) := by rw [h]; simp
theorem kwrite_2 {x d : Nat} (h : d = x / 256 ^ 2 % 256) : (x : Int) / 65536 % 256 = (d : Int) := by rw [h]; simp
theorem kwrite_3 {x d : Nat} (h : d = x / 256 ^ 3 % 256) : (x : Int) / 16777216 % 256 = (d : Int) := by rw [h]; simp
theorem kwrite_4 {x d : Nat} (h : d = x / 256 ^ 4 % 256) : (x : Int) / 4294967296 % 256 = (d : Int) := by rw [h]; simp
theorem kwrite_5 {x d : Nat} (h : d = x / 256 ^ 5 % 256) : (x : Int) / 1099511627776 % 256 = (d : Int) := by rw [h]; simp
theorem kwrite_6 {x d : Nat} (h : d = x / 256 ^ 6 % 256) : (x : Int) / 281474976710656 % 256 = (d : Int) := by rw [h]; simp
theorem kwrite_7 {x d : Nat} (h : d = x / 256 ^ 7 % 256) (lx : x < 18446744073709551616) : (x : Int) / 72057594037927936 = (d : Int) := by rw [h]; simp; omega

set_option maxRecDepth 100000 in
set_option maxHeartbeats 1000000 in
theorem kwrite_any (v : Value) (k n base x : Nat) (z : Nat → Nat) (w : World) (h : Ror w base v k z) (hb : base ≤ w.heap.size) (hk : k ≤ 1000) (hn : n ≤ 8) (lx : x < 18446744073709551616) :
    Calls Try.prog 60 #[v, .int .u64 (x : Int), .int .i64 (n : Int)] w fun e w' => ∃ v', e = .returned v' ∧ Ror w' base v' (k + n) (cat z (high x n) k) ∧ Below base w w' := by
  go_enter Try.func60, Try.ntmps60
  go_wp2_with fail
  go_loopw [0, 7] (fun b i wr => ∃ (j : Nat) (t : Int), j ≤ n ∧ t = (n : Int) - 1 - (j : Int) ∧ i = .int .i64 t ∧ Ror wr base b (k + j) (cat z (high x n) k) ∧ Below base w wr) (fun _ i _ => (intOf i + 1).toNat)
  case atStart => exact ⟨0, _, Nat.zero_le _, by omega, rfl, h.congr fun i hi => by unfold cat; rw [if_pos hi], Below.refl _ _⟩
  case round =>
    clear h
    obtain ⟨j, t, hj, ht, rfl, R, hB⟩ := hrel
    by_cases hlt : j < n
    · obtain ⟨m, hm⟩ : ∃ m, m = n - 1 - j := ⟨_, rfl⟩
      obtain rfl : t = (m : Int) := by omega
      have HM : Hid (m = n - 1 - j) := hm
      have m8 : m < 8 := by omega
      obtain ⟨d, hd⟩ : ∃ d, d = x / 256 ^ m % 256 := ⟨_, rfl⟩
      have ld : d < 256 := by rw [hd]; exact Nat.mod_lt _ (by decide)
      have B1 := one_byte wr d 5 ld
      have b1 : Below wr.heap.size wr (wr.alloc (.cells #[.int .u8 (d : Int)] 5)) := (Below.refl _ _).alloc (Nat.le_refl _) _
      obtain ⟨v2, w2, happ, R2, g2⟩ := (R.grown b1).push (c := 1) (z := cat z (high x n) k) 24 B1 (by omega) (Nat.le_trans hb (Nat.le_trans hB.size b1.size)) (fun _ _ => rfl) (fun i hi => by
        obtain rfl : i = 0 := by omega
        unfold cat high
        rw [if_neg (by omega), Nat.add_zero, Nat.add_sub_cancel_left, ← hm, hd])
      have HA : Hid (Ror w2 base v2 (k + (j + 1)) (cat z (high x n) k) ∧ Below base w w2) := ⟨R2, grown_below (R.grown b1) g2 (hB.trans (b1.mono (Nat.le_trans hb hB.size))) (Nat.le_trans hb (Nat.le_trans hB.size b1.size))⟩
      clear ht hm R hB B1 b1 R2 g2 hj hb
      match m, m8 with
      | 0, _ =>
        have e := kwrite_0 hd
        clear hd
        go_wp2_with (at_builtin; refine Go.Lib.wpList_append_run _ rfl (.tmp 14) (.tmp 20) 24 24 rfl _ _ rfl rfl _ _ happ ?_)
        go_roundw
        case rel => exact ⟨j + 1, _, by omega, by have := HM.out; go_num, rfl, HA.out⟩
        case measure => simp [intOf]
      | 1, _ =>
        have e := kwrite_1 hd
        clear hd
        go_wp2_with (at_builtin; refine Go.Lib.wpList_append_run _ rfl (.tmp 14) (.tmp 20) 24 24 rfl _ _ rfl rfl _ _ happ ?_)
        go_roundw
        case rel => exact ⟨j + 1, _, by omega, by have := HM.out; go_num, rfl, HA.out⟩
        case measure => simp [intOf]
      | 2, _ =>
        have e := kwrite_2 hd
        clear hd
        go_wp2_with (at_builtin; refine Go.Lib.wpList_append_run _ rfl (.tmp 14) (.tmp 20) 24 24 rfl _ _ rfl rfl _ _ happ ?_)
        go_roundw
        case rel => exact ⟨j + 1, _, by omega, by have := HM.out; go_num, rfl, HA.out⟩
        case measure => simp [intOf]
      | 3, _ =>
        have e := kwrite_3 hd
        clear hd
        go_wp2_with (at_builtin; refine Go.Lib.wpList_append_run _ rfl (.tmp 14) (.tmp 20) 24 24 rfl _ _ rfl rfl _ _ happ ?_)
        go_roundw
        case rel => exact ⟨j + 1, _, by omega, by have := HM.out; go_num, rfl, HA.out⟩
        case measure => simp [intOf]
      | 4, _ =>
        have e := kwrite_4 hd
        clear hd
        go_wp2_with (at_builtin; refine Go.Lib.wpList_append_run _ rfl (.tmp 14) (.tmp 20) 24 24 rfl _ _ rfl rfl _ _ happ ?_)
        go_roundw
        case rel => exact ⟨j + 1, _, by omega, by have := HM.out; go_num, rfl, HA.out⟩
        case measure => simp [intOf]
      | 5, _ =>
        have e := kwrite_5 hd
        clear hd
        go_wp2_with (at_builtin; refine Go.Lib.wpList_append_run _ rfl (.tmp 14) (.tmp 20) 24 24 rfl _ _ rfl rfl _ _ happ ?_)
        go_roundw
        case rel => exact ⟨j + 1, _, by omega, by have := HM.out; go_num, rfl, HA.out⟩
        case measure => simp [intOf]
      | 6, _ =>
        have e := kwrite_6 hd
        clear hd
        go_wp2_with (at_builtin; refine Go.Lib.wpList_append_run _ rfl (.tmp 14) (.tmp 20) 24 24 rfl _ _ rfl rfl _ _ happ ?_)
        go_roundw
        case rel => exact ⟨j + 1, _, by omega, by have := HM.out; go_num, rfl, HA.out⟩
        case measure => simp [intOf]
      | 7, _ =>
        have e := kwrite_7 hd lx
        clear hd
        go_wp2_with (at_builtin; refine Go.Lib.wpList_append_run _ rfl (.tmp 14) (.tmp 20) 24 24 rfl _ _ rfl rfl _ _ happ ?_)
        go_roundw
        case rel => exact ⟨j + 1, _, by omega, by have := HM.out; go_num, rfl, HA.out⟩
        case measure => simp [intOf]
    · obtain rfl : j = n := by omega
      obtain rfl : t = -1 := by omega
      have HR : Hid (Ror wr base u0 (k + j) (cat z (high x j) k) ∧ Below base w wr) := ⟨R, hB⟩
      clear R hB hlt hj ht
      go_wp2
      go_ret
      exact ⟨_, rfl, HR.out⟩

set_option maxRecDepth 100000 in
theorem knumber_no (R : Nat) (a : Option Addr) (L c n : Nat) (w : World) (hR : w.cell? ⟨R, 0, none⟩ = some (.slice a L c)) (h : L < n) :
    Calls Try.prog 62 #[.pointer (some ⟨R, 0, none⟩), .int .i64 (n : Int)] w fun e w' => e = .panicked knoted ∧ w' = w := by
  go_enter Try.func62, Try.ntmps62
  go_wp2_with fail
  refine (kdemand_no _ _ (by simp <;> omega)).mono ?_
  rintro e w ⟨rfl, rfl⟩
  go_wp2
  exact ⟨rfl, rfl, rfl⟩

set_option maxRecDepth 100000 in
set_option maxHeartbeats 400000 in
theorem knumber_yes (R : Nat) (a : Option Addr) (L c n : Nat) (x : Nat → Nat) (w : World) (hx : BytesAt w a L x) (hc : L ≤ c) (hR : w.cell? ⟨R, 0, none⟩ = some (.slice a L c)) (hF : w.frozen? ⟨R, 0, none⟩ = false) (n1 : 1 ≤ n) (n8 : n ≤ 8) (hn : n ≤ L) :
    Calls Try.prog 62 #[.pointer (some ⟨R, 0, none⟩), .int .i64 (n : Int)] w fun e w' => ∃ a', e = .returned (.int .u64 (Crc.numTo x n : Int)) ∧ w' = w.setCell ⟨R, 0, none⟩ (.slice a' (L - n) (c - n)) ∧ BytesAt w' a' (L - n) (fun i => x (n + i)) := by
  obtain ⟨a', hsl, hB⟩ := slice_left a L c n x w hx (by omega) hn hc
  have hst := fun W => slice_to a L c n W (by omega)
  have HX : Hid (BytesAt w a L x) := hx
  have HA : Hid (BytesAt (w.setCell ⟨R, 0, none⟩ (.slice a' (L - n) (c - n))) a' (L - n) (fun i => x (n + i))) := hB.setSlice hR
  have i1 : (n : Int) ≤ (L : Int) := by omega
  clear hx hB
  go_enter Try.func62, Try.ntmps62
  go_wp2_with fail
  refine (kdemand_yes _ _ (by simp <;> omega)).mono ?_
  rintro e w ⟨rfl, rfl⟩
  go_wp2_with fail
  go_loopw [5, 23] (fun r i wr => ∃ k : Nat, k ≤ n ∧ i = .int .i64 k ∧ r = .int .u64 (Crc.numTo x k : Int) ∧ wr = w) (fun _ i _ => n - (intOf i).toNat)
  case atStart => exact ⟨0, Nat.zero_le _, rfl, rfl, rfl⟩
  case round =>
    obtain ⟨k, hk, rfl, rfl, rfl⟩ := hrel
    by_cases hlt : k < n
    · obtain ⟨b1, o1, rfl, cx⟩ := HX.out.cells (by omega)
      have c1 := cx k (by omega)
      have lx := HX.out.lt k (by omega)
      have i2 : (k : Int) < (n : Int) := by omega
      have lr : Crc.numTo x k < 72057594037927936 := Nat.lt_of_lt_of_le (Crc.numTo_lt k fun i hi => HX.out.lt i (by omega)) (show 256 ^ k ≤ 256 ^ 7 from Nat.pow_le_pow_right (by decide) (by omega))
      have HE : Hid (Crc.numTo x (k + 1) = Crc.numTo x k * 256 + x k) := rfl
      generalize Crc.numTo x k = r at *
      generalize x k = v at *
      have e1 : bits .or .u64 ((r : Int) * 256) (v : Int) = ((r * 256 + v : Nat) : Int) := by
        have := u64_or (r * 256) v (by omega) (by omega)
        rw [or_byte r v lx] at this
        exact this
      clear cx hk
      go_wp2
      go_roundw
      case rel => exact ⟨k + 1, by omega, by go_num, by rw [HE.out, Int.natCast_add, Int.natCast_mul]; rfl, trivial⟩
      case measure => simp [intOf]; omega
    · obtain rfl : k = n := by omega
      clear hlt hk
      go_wp2
      go_ret
      exact ⟨a', rfl, rfl, HA.out⟩

set_option maxRecDepth 100000 in
theorem kend_no (R : Nat) (a : Option Addr) (L c : Nat) (w : World) (hR : w.cell? ⟨R, 0, none⟩ = some (.slice a L c)) (h : L ≠ 0) :
    Calls Try.prog 63 #[.pointer (some ⟨R, 0, none⟩)] w fun e w' => e = .panicked knoted ∧ w' = w := by
  go_enter Try.func63, Try.ntmps63
  go_wp2_with fail
  refine (kdemand_no _ _ (by simp <;> omega)).mono ?_
  rintro e w ⟨rfl, rfl⟩
  go_wp2
  exact ⟨rfl, rfl, rfl⟩

set_option maxRecDepth 100000 in
theorem kend_yes (R : Nat) (a : Option Addr) (L c : Nat) (w : World) (hR : w.cell? ⟨R, 0, none⟩ = some (.slice a L c)) (h : L = 0) :
    Calls Try.prog 63 #[.pointer (some ⟨R, 0, none⟩)] w fun e w' => e = .returned (.tuple #[]) ∧ w' = w := by
  subst h
  go_enter Try.func63, Try.ntmps63
  go_wp2_with fail
  refine (kdemand_yes _ _ rfl).mono ?_
  rintro e w ⟨rfl, rfl⟩
  go_wp2
  go_end0
  exact ⟨rfl, rfl⟩
end Go.Proofs.Ytcflaklnafggmaa
