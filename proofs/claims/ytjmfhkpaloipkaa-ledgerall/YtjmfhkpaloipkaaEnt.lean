/-
  A map's place made ready and stored to in two steps: for keys of any kind.
-/
import Derived.WideKeyEntry
import Derived.Test.YtjmfhkpaloipkaaMky
namespace Go.Proofs.Ytjmfhkpaloipkaa
open Go.RowKit Go.Deep Go.Maps Go.WideElems Go.ChangeMaps

section
variable {H : Type} {P : Program} {w : World} {t k e : TypeId} {R : Value → Option (DataW H × List MemPlace)} {b : Nat} {es : Array MapEntry} {clock : Nat}
/-- Of entries that fit, the one that bears a key is the one that is found. -/
theorem found_one (K : Keyed P k) (F : Fit P k R es clock) {key : Value} {kl : Lit} (hkey : keyOf P k key = some kl) {e0 : MapEntry} (he : e0 ∈ es.toList) (hk : e0.key = key) :
    ∃ j, (Instr.findKey k key es.toList).run P w = .ok (some (j, e0.val)) w ∧ es.toList[j]? = some e0 := by
  rcases K.find w hkey es.toList F.keys with ⟨-, h2⟩ | ⟨j, x, h1, h2, h3⟩
  · exact absurd hk (h2 e0 he)
  · obtain ⟨i, hi, hx⟩ := List.getElem_of_mem he
    by_cases g : i = j
    · subst g
      have : x = e0 := by
        rw [List.getElem?_eq_getElem hi, hx] at h2
        exact (Option.some.inj h2).symm
      subst this
      exact ⟨i, h1, h2⟩
    · exact absurd (hk.trans h3.symm) (other_key F h2 (by rw [List.getElem?_eq_getElem hi, hx]) g)
/-- Behind the making ready: the store by the stamp is the store by the key. -/
theorem store_at (K : Keyed P k) (ht : P.underlying t = some (.map k e)) (hb : w.heap[b]? = some (.map es clock)) (F : Fit P k R es clock) {key : Value} {kl : Lit} (hkey : keyOf P k key = some kl) {e0 : MapEntry} (he : e0 ∈ es.toList) (hk : e0.key = key) (val : Value) :
    (Instr.entryStore t (.map (some b)) (goInt e0.born) val).run P w = (Instr.mapUpdate t (.map (some b)) key val).run P w := by
  obtain ⟨j, h1, h2⟩ := found_one (w := w) K F hkey he hk
  have hx : es.findIdx? (fun y => ((y.born : Nat) : Int) == ((e0.born : Nat) : Int)) = some j := by
    rw [findIdx_arr]
    exact findIdx_born F.stamped.2.1 h2
  have hj : es[j]? = some e0 := by simpa using h2
  have hm : es.modify j (fun y => { y with val := val }) = es.modify j (fun y => { y with key := key, val := val }) := by
    apply Array.ext'
    simp only [Array.toList_modify, modify_eq_set _ _ _ _ h2, ← hk]
  simp [Instr.entryStore, Instr.mapUpdate, run_underlying ht, MapKept.run_getObj_map hb, K.check w false hkey, h1, hj, hk, K.stays w hkey, asInt, asIntOf, goInt, hx, hm, MapKept.run_setObj_map _ hb, Result.andThen]
/-- The making ready: the map as it was, or with the zero at the key. -/
theorem entry_at (K : Keyed P k) (ht : P.underlying t = some (.map k e)) {z : Value} (hz : ∀ u : World, (zeroValue e).run P u = .ok z u) (hb : w.heap[b]? = some (.map es clock)) (F : Fit P k R es clock) {key : Value} {kl : Lit} (hkey : keyOf P k key = some kl) :
    ∃ e0 es1 clock1, (Instr.mapEntry t (.map (some b)) key).run P w = .ok (.tuple #[e0.val, goInt e0.born]) (setBlock w b (.map es1 clock1)) ∧ e0 ∈ es1.toList ∧ e0.key = key ∧
      ((es1 = es ∧ clock1 = clock) ∨ (Instr.mapUpdate t (.map (some b)) key z).run P w = .ok () (setBlock w b (.map es1 clock1))) := by
  rcases K.find w hkey es.toList F.keys with ⟨h1, -⟩ | ⟨j, e0, h1, h2, h3⟩
  · refine ⟨⟨key, z, clock⟩, es.push ⟨key, z, clock⟩, clock + 1, ?_, by simp, rfl, .inr ?_⟩
    · simp [Instr.mapEntry, run_underlying ht, MapKept.run_getObj_map hb, K.check w false hkey, h1, hz, MapKept.run_setObj_map _ hb, Result.andThen, setBlock]
    · simp [Instr.mapUpdate, run_underlying ht, MapKept.run_getObj_map hb, K.check w false hkey, h1, MapKept.run_setObj_map _ hb, Result.andThen, setBlock]
  · have hj : es[j]? = some e0 := by simpa using h2
    have hm : es.modify j (fun y => { y with key := key }) = es := by
      apply Array.ext'
      rw [Array.toList_modify, modify_eq_set _ _ _ _ h2, ← h3]
      exact set_self _ _ _ h2
    refine ⟨e0, es, clock, ?_, List.mem_of_getElem? h2, h3, .inl ⟨rfl, rfl⟩⟩
    simp [Instr.mapEntry, run_underlying ht, MapKept.run_getObj_map hb, K.check w false hkey, h1, hj, h3, K.stays w hkey, hm, MapKept.run_setObj_map _ hb, Result.andThen, setBlock]
end
end Go.Proofs.Ytjmfhkpaloipkaa
