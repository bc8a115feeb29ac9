/-
  Rows of bytes read as strings, and rows that came in as arguments.
-/
import Derived.Test.YtdlalcbcgdambaaBeg
import Derived.Laws.BytesArg
import Derived.OpenShut
namespace Go.Proofs.Ytdlalcbcgdambaa
open Go.RowKit Go.Deep

/-- The string of n bytes, the i-th x i. -/
def strOf (n : Nat) (x : Nat → Nat) : ByteArray := strOfNums ((List.range n).map fun i => (x i : Int))

theorem strOf_congr {n : Nat} {x y : Nat → Nat} (h : ∀ i, i < n → x i = y i) : strOf n x = strOf n y := by
  unfold strOf
  congr 1
  refine List.map_congr_left fun i hi => ?_
  rw [h i (List.mem_range.1 hi)]

theorem range_getD (n : Nat) (x : Nat → Nat) (i : Nat) (h : i < n) : ((List.range n).map fun i => (x i : Int)).getD i 0 = (x i : Int) := by
  simp [List.getD, h]

theorem conv_bytes (a : Option Addr) (n c : Nat) (x : Nat → Nat) (w : World) (h : BytesAt w a n x) :
    (convert 24 9 (.slice a n c)).run Try.prog w = .ok (.string (strOf n x)) w := by
  by_cases hn : 0 < n
  · obtain ⟨b, o, rfl, hc⟩ := h.cells hn
    exact run_convert_bytes_arg w 24 5 Try.underlying24 Try.underlying5 b o n c _ (by simp) (fun i hi => by rw [range_getD n x i hi]; exact hc i hi) 9 Try.underlying9
  · obtain rfl : n = 0 := by omega
    cases a with
    | none => exact run_convert_bytes_nil w 24 5 Try.underlying24 Try.underlying5 0 c 9 Try.underlying9
    | some a =>
      rw [run_convert_bytes_string w 24 9 5 _ 0 c Try.underlying24 Try.underlying5 Try.underlying9, run_bytesToString w a 0 c [] (by rfl)]
      rfl

/-- What the guide's shell tells of a slice of bytes that came in. -/
def Came (w : World) (a : Option Addr) (len cap : Nat) (zs : List Int) : Prop :=
  (a = none ∧ len = 0 ∧ cap = 0 ∧ zs = []) ∨
  ∃ x, a = some x ∧ len ≤ cap ∧ cap ≤ maxLen ∧ zs.length = cap ∧ (∀ i, i < zs.length → w.cell? (x.add i) = some (.int .u8 (zs.getD i 0))) ∧ ∀ n ∈ zs, (Lit.int .u8 n).wf = true

theorem addr_plain {w : World} {x : Addr} {v : Value} (h : w.cell? x = some v) : x.spot = none := by
  cases hs : x.spot with
  | none => rfl
  | some k => exfalso; obtain ⟨b, o, s⟩ := x; simp at hs; subst hs; simp [World.cell?] at h; split at h <;> simp at h

theorem Came.bytes {w : World} {a : Option Addr} {len cap : Nat} {zs : List Int} (h : Came w a len cap zs) :
    BytesAt w a len (fun i => (zs.getD i 0).toNat) ∧ len ≤ cap ∧ cap ≤ maxLen := by
  rcases h with ⟨rfl, rfl, rfl, rfl⟩ | ⟨x, rfl, h1, h2, h3, h4, h5⟩
  · exact ⟨⟨fun h => absurd h (by omega), fun i hi => absurd hi (by omega)⟩, by omega, by unfold maxLen; omega⟩
  · refine ⟨⟨fun hn => ?_, fun i hi => ?_⟩, h1, h2⟩
    · obtain ⟨b, o, s⟩ := x
      have hz := h4 0 (by omega)
      have e0 : (⟨b, o, s⟩ : Addr).add 0 = ⟨b, o, s⟩ := rfl
      rw [e0] at hz
      have hs : s = none := addr_plain hz
      subst hs
      refine ⟨b, o, rfl, fun i hi => ?_⟩
      have hc := h4 i (by omega)
      have ea : (⟨b, o, none⟩ : Addr).add i = ⟨b, o + i, none⟩ := by unfold Addr.add; split <;> simp_all
      rw [ea] at hc
      rw [hc]
      have hb := range_u8 h5 i
      simp only [List.getD] at *
      rw [Int.toNat_of_nonneg hb.1]
    · have hb := range_u8 h5 i
      simp only [List.getD] at *
      omega

/-- The sum of a row and c times another, place by place. -/
def addUp (y x : Nat → Nat) (c : Nat) (i : Nat) : Nat := y i ^^^ Gf.mul c (x i)

theorem min4 (ts : Array TypeId) (t : TypeId) (x y z u N : Int) (w : World) (h : min (min (min x y) z) u = N) : (Builtin.min_ ts t #[.int .i64 x, .int .i64 y, .int .i64 z, .int .i64 u]).run Try.prog w = .ok (.int .i64 N) w := by
  subst h
  simp [Builtin.min_, Builtin.min2]
  repeat' split
  all_goals omega
theorem slice_to (a : Option Addr) (len cap n : Nat) (w : World) (h : n ≤ cap) : (Instr.slice 24 (.slice a len cap) none (some (.int .i64 (n : Int))) none).run Try.prog w = .ok (.slice a n cap) w := by
  have hz : ∀ x : Addr, x.add 0 = x := fun _ => rfl
  have e := run_slice_h (P := Try.prog) w 24 a len cap Try.underlying24 .i64 (n : Int) (by omega) (by omega)
  rw [e]
  simp [sliced, hz]
  have hs : (sizeOf (Try.prog.elem 24)).run Try.prog w = .ok 1 w := by kernel_rfl
  rw [hs]
  rfl
theorem BytesAt.take {w : World} {a : Option Addr} {n m : Nat} {x : Nat → Nat} (h : BytesAt w a n x) (hm : m ≤ n) : BytesAt w a m x := by
  refine ⟨fun h0 => ?_, fun i hi => h.lt i (by omega)⟩
  obtain ⟨b, o, e, hc⟩ := h.cells (by omega)
  exact ⟨b, o, e, fun i hi => hc i (by omega)⟩
end Go.Proofs.Ytdlalcbcgdambaa
