/-
  Numbers of 64 bits: what fits, min and max of two, of three. No program.
-/
import Derived.Test.YtaikkoijoolhkaaMem
namespace Go.Proofs.Ytaikkoijoolhkaa
open Go.RowKit Go.Deep

theorem w64 (x : Int) (h1 : -9223372036854775808 ≤ x) (h2 : x < 9223372036854775808) : IntKind.i64.wrap x = x := by
  simp only [IntKind.wrap, IntKind.bits, IntKind.signed]; simp; omega
theorem min_run (ts : Array TypeId) (t : TypeId) (a b m : Int) (w : World) (h : min a b = m) : (Builtin.min_ ts t #[.int .i64 a, .int .i64 b]).run Try.prog w = .ok (.int .i64 m) w := by
  subst h
  simp [Builtin.min_, Builtin.min2]
  split <;> omega
theorem max_run (ts : Array TypeId) (t : TypeId) (a b m : Int) (w : World) (h : max a b = m) : (Builtin.max_ ts t #[.int .i64 a, .int .i64 b]).run Try.prog w = .ok (.int .i64 m) w := by
  subst h
  simp [Builtin.max_, Builtin.max2]
  split <;> omega
theorem min_run3 (ts : Array TypeId) (t : TypeId) (a b c m : Int) (w : World) (h : min (min a b) c = m) : (Builtin.min_ ts t #[.int .i64 a, .int .i64 b, .int .i64 c]).run Try.prog w = .ok (.int .i64 m) w := by
  subst h
  simp [Builtin.min_, Builtin.min2]
  repeat' split
  all_goals omega
end Go.Proofs.Ytaikkoijoolhkaa
