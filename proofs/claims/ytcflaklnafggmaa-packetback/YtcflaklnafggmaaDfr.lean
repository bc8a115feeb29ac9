/-
  A function that defers: what its end asks hangs on its result variables alone, so a region of it may be held.
-/
import Derived.Test.YtcflaklnafggmaaMem
import Derived.Defers
import Derived.Recover
namespace Go.Proofs.Ytcflaklnafggmaa
open Go.RowKit Go.Deep

theorem callsD_mono {P : Program} {f : FuncId} {args : Array Value} {u : FrameMode} {w : World} {R S : Ending → FrameMode → World → Prop} (h : CallsD P f args u w R) (hS : ∀ e u w, R e u w → S e u w) : CallsD P f args u w S :=
  fun c cs hu => let ⟨e, u', w', fr, hR, k⟩ := h c cs hu; ⟨e, u', w', fr, hS _ _ _ hR, k⟩
theorem leaves_congr {P : Program} {fn : Func} {t t' : Array Value} {R : Ending → World → Prop} (e : results fn t = results fn t') : ∀ (ds : List Deferred) (u : FrameMode) (w : World), Leaves P fn t R ds u w → Leaves P fn t' R ds u w
  | [], .returning, w, h => by simpa only [Leaves, e] using h
  | [], .panicking _, _, h => h
  | [], .run, _, h => h
  | d :: ds, u, w, h => by
    obtain ⟨h1, fv, cap, f, args, h2, h3, h4⟩ := h
    refine ⟨h1, fv, cap, f, args, h2, h3, callsD_mono h4 ?_⟩
    intro e' u' w' hR
    cases e' with
    | returned v => exact leaves_congr e ds _ _ hR
    | panicked c => exact leaves_congr e ds _ _ hR
    | outgrown => exact hR
/-- A slot that is no result variable's. -/
theorem put_free {P : Program} {fn : Func} {R : Ending → World → Prop} {K : Act → World → Prop} {i : Nat} {v : Value} (e : ∀ t : Array Value, results fn (t.setIfInBounds i v) = results fn t) :
    ∀ c a w, Exit.then K (bodyPostD P fn R) (.panic c) (a.put (some i) v) w → Exit.then K (bodyPostD P fn R) (.panic c) a w :=
  fun c a w h => leaves_congr (e a.tmps) a.defers (.panicking c) w h
end Go.Proofs.Ytcflaklnafggmaa
