/-
  Several texts, one behind the other.
-/
import Derived.Test.YthlidbenhlidjaaJ3
import Derived.Test.YthlidbenhlidjaaJ4
import Derived.OrdersHeld
import Derived.Deep.RegionHeld
import Derived.Test.YthlidbenhlidjaaJ1
/-
  Package pack: the packer, one packet.
-/
namespace Go.Proofs.Ythlidbenhlidjaa
open Go.RowKit Go.Deep

/-- The block N holds a packer. -/
structure PkrAt (w : World) (N : Nat) (fv : Option Addr) (f : Nat) (a : Option Addr) (n c : Nat) (s : Int) (q t : Nat) : Prop where
  c0 : w.cell? ⟨N, 0, none⟩ = some (.pointer fv)
  c1 : w.cell? ⟨N, 1, none⟩ = some (.int .u32 (f : Int))
  c2 : w.cell? ⟨N, 2, none⟩ = some (.slice a n c)
  c3 : w.cell? ⟨N, 3, none⟩ = some (.int .i64 s)
  c4 : w.cell? ⟨N, 4, none⟩ = some (.int .u16 (q : Int))
  c5 : w.cell? ⟨N, 5, none⟩ = some (.int .u16 (t : Int))
  frz : ∀ i, w.frozen? ⟨N, i, none⟩ = false
theorem PkrAt.made (w : World) (T : TypeId) (fv : Option Addr) (f : Nat) (a : Option Addr) (n c : Nat) (s : Int) (q t : Nat) :
    PkrAt (w.alloc (.cells #[.pointer fv, .int .u32 (f : Int), .slice a n c, .int .i64 s, .int .u16 (q : Int), .int .u16 (t : Int)] T)) w.heap.size fv f a n c s q t :=
  ⟨by rw [World.cell?_alloc_at _ _ _ _ rfl]; rfl, by rw [World.cell?_alloc_at _ _ _ _ rfl]; rfl, by rw [World.cell?_alloc_at _ _ _ _ rfl]; rfl, by rw [World.cell?_alloc_at _ _ _ _ rfl]; rfl, by rw [World.cell?_alloc_at _ _ _ _ rfl]; rfl, by rw [World.cell?_alloc_at _ _ _ _ rfl]; rfl,
   fun i => by rw [World.frozen?_alloc_at _ _ _ _ rfl]⟩
theorem PkrAt.lt {w : World} {N : Nat} {fv : Option Addr} {f : Nat} {a : Option Addr} {n c : Nat} {s : Int} {q t : Nat} (h : PkrAt w N fv f a n c s q t) : N < w.heap.size := cell_lt h.c0
theorem PkrAt.block {w w' : World} {N : Nat} {fv : Option Addr} {f : Nat} {a : Option Addr} {n c : Nat} {s : Int} {q t : Nat} (h : PkrAt w N fv f a n c s q t) (hb : w'.heap[N]? = w.heap[N]?) : PkrAt w' N fv f a n c s q t :=
  ⟨(World.cell?_of_block (a := ⟨N, 0, none⟩) hb).trans h.c0, (World.cell?_of_block (a := ⟨N, 1, none⟩) hb).trans h.c1, (World.cell?_of_block (a := ⟨N, 2, none⟩) hb).trans h.c2, (World.cell?_of_block (a := ⟨N, 3, none⟩) hb).trans h.c3, (World.cell?_of_block (a := ⟨N, 4, none⟩) hb).trans h.c4, (World.cell?_of_block (a := ⟨N, 5, none⟩) hb).trans h.c5,
   fun i => (World.frozen?_of_block (a := ⟨N, i, none⟩) hb).trans (h.frz i)⟩
theorem PkrAt.grew {w w' : World} {N : Nat} {fv : Option Addr} {f : Nat} {a : Option Addr} {n c : Nat} {s : Int} {q t : Nat} (h : PkrAt w N fv f a n c s q t) (hb : Below w.heap.size w w') : PkrAt w' N fv f a n c s q t := h.block (hb.block N h.lt)
theorem PkrAt.next {w : World} {N : Nat} {fv : Option Addr} {f : Nat} {a : Option Addr} {n c : Nat} {s : Int} {q t : Nat} (h : PkrAt w N fv f a n c s q t) (q' : Nat) : PkrAt (w.setCell ⟨N, 4, none⟩ (.int .u16 (q' : Int))) N fv f a n c s q' t :=
  ⟨(World.cell?_setCell_other _ _ _ _ (by simp)).trans h.c0, (World.cell?_setCell_other _ _ _ _ (by simp)).trans h.c1, (World.cell?_setCell_other _ _ _ _ (by simp)).trans h.c2, (World.cell?_setCell_other _ _ _ _ (by simp)).trans h.c3, World.cell?_setCell_same _ _ _ h.c4, (World.cell?_setCell_other _ _ _ _ (by simp)).trans h.c5, fun i => by rw [World.frozen?_setCell]; exact h.frz i⟩
theorem FieldAt.kept {R : Nat} {w w' : World} {b : Nat} (h : FieldAt w b) (hk : Kept R w w') (hR : b ≠ R) : FieldAt w' b :=
  ⟨fun i hi => hk.cell (h.powers i hi) hR, fun a ha => hk.cell (h.logs a ha) hR⟩
theorem DatAt.block {w w' : World} {B s t f y : Nat} {a : Option Addr} {n c : Nat} (h : DatAt w B s t f y a n c) (hb : w'.heap[B]? = w.heap[B]?) : DatAt w' B s t f y a n c :=
  ⟨(World.cell?_of_block (a := ⟨B, 0, none⟩) hb).trans h.c0, (World.cell?_of_block (a := ⟨B, 1, none⟩) hb).trans h.c1, (World.cell?_of_block (a := ⟨B, 2, none⟩) hb).trans h.c2, (World.cell?_of_block (a := ⟨B, 3, none⟩) hb).trans h.c3, (World.cell?_of_block (a := ⟨B, 4, none⟩) hb).trans h.c4,
   fun i => (World.frozen?_of_block (a := ⟨B, i, none⟩) hb).trans (h.frz i)⟩
theorem BytesAt.keptN {w w' : World} {b o n R : Nat} {x : Nat → Nat} (h : BytesAt w (some ⟨b, o, none⟩) n x) (hk : Kept R w w') (hR : b ≠ R) : BytesAt w' (some ⟨b, o, none⟩) n x := by
  refine ⟨fun h0 => ?_, h.lt⟩
  obtain ⟨b', o', e, hc⟩ := h.cells h0
  cases e
  exact ⟨b, o, rfl, fun i hi => hk.cell (hc i hi) hR⟩
/-- Data are written over such. -/
theorem DatAt.write {w : World} {B s t f y : Nat} {a : Option Addr} {n c : Nat} (h : DatAt w B s t f y a n c) (s' t' f' y' : Nat) (a' : Option Addr) (n' c' : Nat) :
    DatAt (((((w.setCell ⟨B, 0, none⟩ (.int .u16 (s' : Int))).setCell ⟨B, 1, none⟩ (.int .u16 (t' : Int))).setCell ⟨B, 2, none⟩ (.int .u32 (f' : Int))).setCell ⟨B, 3, none⟩ (.int .u16 (y' : Int))).setCell ⟨B, 4, none⟩ (.slice a' n' c')) B s' t' f' y' a' n' c' :=
  ((((h.seq s').stamp t').frame f').symbol y').body a' n' c'

/-- May symbol id of n bytes be, in symbols of s bytes? -/
def fitS (n : Nat) (s id : Int) : Prop := (1 ≤ s ∧ s ≤ 64 ∧ 1 ≤ (n : Int) ∧ (n : Int) ≤ 32 * s) ∧ 0 ≤ id ∧ id < (cntOf n s.toNat : Int) + 64
/-- fv leads to a field, as New makes one, if b; it is nil else. -/
def FldIs (w : World) (fv : Option Addr) (b : Bool) : Prop := (b = true → ∃ p, fv = some ⟨p, 0, none⟩ ∧ FieldAt w p) ∧ (b = false → fv = none)
theorem FldIs.grew {w w' : World} {fv : Option Addr} {b : Bool} (h : FldIs w fv b) (hb : Below w.heap.size w w') : FldIs w' fv b :=
  ⟨fun e => by obtain ⟨p, e1, h1⟩ := h.1 e; exact ⟨p, e1, h1.below hb h1.lt⟩, h.2⟩
theorem FldIs.kept {R : Nat} {w w' : World} {fv : Option Addr} {b : Bool} (h : FldIs w fv b) (hk : Kept R w w') (hR : ∀ p, fv = some ⟨p, 0, none⟩ → p ≠ R) : FldIs w' fv b :=
  ⟨fun e => by obtain ⟨p, e1, h1⟩ := h.1 e; exact ⟨p, e1, h1.kept hk (hR p e1)⟩, h.2⟩
theorem FldIs.mk' {w : World} {p : Nat} (h : FieldAt w p) : FldIs w (some ⟨p, 0, none⟩) true := ⟨fun _ => ⟨p, rfl, h⟩, fun e => by cases e⟩
theorem FldIs.nil (w : World) : FldIs w none false := ⟨fun e => (by cases e), fun _ => rfl⟩

/-- Symbol says no, or yes. -/
theorem ask_no (fv : Option Addr) (b : Bool) (f : Int) (id s : Int) (a : Option Addr) (n c : Nat) (x : Nat → Nat) (w : World) (h : FldIs w fv b) (hx : BytesAt w a n x) (hc : n ≤ c) (hno : ¬ (b = true ∧ fitS n s id)) :
    Calls Try.prog 30 #[.pointer fv, .int .u32 f, .slice a n c, .int .i64 s, .int .i64 id] w fun e w' => SymNo w e w' := by
  cases b with
  | false =>
    rw [h.2 rfl]
    exact symbol_nil _ _ _ _ w
  | true =>
    obtain ⟨p, rfl, hF⟩ := h.1 rfl
    by_cases g : 1 ≤ s ∧ s ≤ 64 ∧ 1 ≤ (n : Int) ∧ (n : Int) ≤ 32 * s
    · obtain ⟨m, rfl⟩ : ∃ m : Nat, s = m := ⟨s.toNat, by omega⟩
      refine symbol_dice p f id a n c m _ x w hF hx hc (by omega) (by omega) (by omega) (by omega) rfl fun h2 => hno ⟨rfl, g, h2.1, ?_⟩
      rw [Int.toNat_natCast]
      exact h2.2
    · exact symbol_cut p f id s a n c w hF g

theorem wrap_u16 (x : Nat) (h : x < 65536) : IntKind.u16.wrap (x : Int) = (x : Int) := by
  simp [IntKind.wrap, IntKind.signed, IntKind.bits]
  omega
theorem wrap_next (q : Nat) : IntKind.u16.wrap ((q : Int) + 1) = (((q + 1) % 65536 : Nat) : Int) := by
  simp [IntKind.wrap, IntKind.signed, IntKind.bits]
/-- One packet was answered, of symbol id, with the number q. -/
def NextYes (w : World) (N : Nat) (fv : Option Addr) (f : Nat) (a : Option Addr) (n c : Nat) (s q t id : Nat) (y : Nat → Nat) (e : Ending) (w' : World) : Prop :=
  ∃ g, e = .returned (.tuple #[.agg #[.int .u16 (q : Int), .int .u16 (t : Int), .int .u32 (f : Int), .int .u16 (id : Int), .slice (some ⟨g, 0, none⟩) s s], .bool true]) ∧ w.heap.size ≤ g ∧ g < w'.heap.size ∧ BytesAt w' (some ⟨g, 0, none⟩) s y ∧ PkrAt w' N fv f a n c (s : Int) ((q + 1) % 65536) t ∧ Kept N w w'
/-- None was answered. -/
def NextNo (w : World) (e : Ending) (w' : World) : Prop := e = .returned (.tuple #[.agg #[.int .u16 0, .int .u16 0, .int .u32 0, .int .u16 0, .slice none 0 0], .bool false]) ∧ Below w.heap.size w w'
theorem FldIs.at {w : World} {p : Nat} {b : Bool} (h : FldIs w (some ⟨p, 0, none⟩) b) (e : b = true) : FieldAt w p := by
  obtain ⟨q, e1, h1⟩ := h.1 e
  cases e1
  exact h1
/-- The packer and the result's variable, in a world that has grown. -/
structure Asks15 (w0 : World) (N R : Nat) (fv : Option Addr) (f : Nat) (a : Option Addr) (n c : Nat) (s : Int) (q t : Nat) (b : Bool) (x : Nat → Nat) (W : World) : Prop where
  pk : PkrAt W N fv f a n c s q t
  res : DatAt W R 0 0 0 0 none 0 0
  fld : FldIs W fv b
  txt : BytesAt W a n x
  bel : Below w0.heap.size w0 W
theorem Asks15.grew {w0 W W' : World} {N R : Nat} {fv : Option Addr} {f : Nat} {a : Option Addr} {n c : Nat} {s : Int} {q t : Nat} {b : Bool} {x : Nat → Nat} (h : Asks15 w0 N R fv f a n c s q t b x W) (hb : Below W.heap.size W W') : Asks15 w0 N R fv f a n c s q t b x W' :=
  ⟨h.pk.grew hb, h.res.grew hb, h.fld.grew hb, h.txt.grew hb, h.bel.trans (hb.mono h.bel.size)⟩

set_option maxRecDepth 100000 in
set_option maxHeartbeats 1000000 in
theorem next_no (N : Nat) (fv : Option Addr) (b : Bool) (f : Nat) (a : Option Addr) (n c : Nat) (s : Int) (q t : Nat) (z : Int) (x : Nat → Nat) (w : World) (h : PkrAt w N fv f a n c s q t) (hF : FldIs w fv b) (hx : BytesAt w a n x) (hc : n ≤ c) (hno : ¬ (b = true ∧ fitS n s z)) :
    Calls Try.prog 20 #[.pointer (some ⟨N, 0, none⟩), .int .i64 z] w fun e w' => NextNo w e w' := by
  have H0 : Hid (Asks15 (w.alloc (.cells #[.int .u16 0, .int .u16 0, .int .u32 0, .int .u16 0, .slice none 0 0] 40)) N w.heap.size fv f a n c s q t b x (w.alloc (.cells #[.int .u16 0, .int .u16 0, .int .u32 0, .int .u16 0, .slice none 0 0] 40))) := ⟨h.grew ((Below.refl _ _).alloc (Nat.le_refl _) _), DatAt.made w _ 0 0 0 0 none 0 0, hF.grew ((Below.refl _ _).alloc (Nat.le_refl _) _), hx.grew ((Below.refl _ _).alloc (Nat.le_refl _) _), Below.refl _ _⟩
  have B0 : Hid (Below w.heap.size w (w.alloc (.cells #[.int .u16 0, .int .u16 0, .int .u32 0, .int .u16 0, .slice none 0 0] 40))) := (Below.refl _ _).alloc (Nat.le_refl _) _
  have HN : Hid (¬ (b = true ∧ fitS n s z)) := hno
  clear h hF hx hno
  go_enter Try.func20, Try.ntmps20
  go_wp2_with fail
  generalize (w.alloc (.cells #[.int .u16 0, .int .u16 0, .int .u32 0, .int .u16 0, .slice none 0 0] 40)) = w0 at *
  refine wp_region_held (S := Asks15 w0 N w.heap.size fv f a n c s q t b x) (by kernel_rfl) ?_
  change wpAnyH _ _ _ _ _ _ _ _ w0.drew
  have hr : Asks15 w0 N w.heap.size fv f a n c s q t b x w0.drew := H0.out.grew (below_drews 1)
  clear H0
  generalize w0.drew = w1 at *
  refine wpAnyH_take (i := 0) (v := .pointer (some ⟨N, 0, none⟩)) rfl (by kernel_rfl) (by kernel_rfl) (by kernel_rfl) (fun _ _ _ h => h) (Yields.yieldsIf (Or.inl ⟨by kernel_rfl, fun _ => by kernel_rfl⟩)) hr ?_
  refine wpAnyH_take (i := 1) (v := .pointer (some ⟨N, 0, none⟩)) rfl (by kernel_rfl) (by kernel_rfl) (by kernel_rfl) (fun _ _ _ h => h) (Yields.yieldsIf (Or.inl ⟨by kernel_rfl, fun _ => by go_simp⟩)) hr ?_
  refine wpAnyH_take (i := 2) (v := .pointer (some ⟨N, 0, none⟩)) rfl (by kernel_rfl) (by kernel_rfl) (by kernel_rfl) (fun _ _ _ h => h) (Yields.yieldsIf (Or.inl ⟨by kernel_rfl, fun _ => by go_simp⟩)) hr ?_
  refine wpAnyH_take (i := 3) (v := .pointer fv) rfl (by kernel_rfl) (by kernel_rfl) (by kernel_rfl) (fun _ _ _ h => h) (Or.inl ⟨by kernel_rfl, fun W hW => by have g := hW.pk.c0; go_simp⟩) hr ?_
  refine wpAnyH_take (i := 4) (v := .pointer (some ⟨N, 0, none⟩)) rfl (by kernel_rfl) (by kernel_rfl) (by kernel_rfl) (fun _ _ _ h => h) (Yields.yieldsIf (Or.inl ⟨by kernel_rfl, fun _ => by kernel_rfl⟩)) hr ?_
  refine wpAnyH_take (i := 5) (v := .pointer (some ⟨N, 0, none⟩)) rfl (by kernel_rfl) (by kernel_rfl) (by kernel_rfl) (fun _ _ _ h => h) (Yields.yieldsIf (Or.inl ⟨by kernel_rfl, fun _ => by go_simp⟩)) hr ?_
  refine wpAnyH_take (i := 6) (v := .pointer (some ⟨N, 1, none⟩)) rfl (by kernel_rfl) (by kernel_rfl) (by kernel_rfl) (fun _ _ _ h => h) (Yields.yieldsIf (Or.inl ⟨by kernel_rfl, fun _ => by go_simp⟩)) hr ?_
  refine wpAnyH_take (i := 7) (v := .int .u32 (f : Int)) rfl (by kernel_rfl) (by kernel_rfl) (by kernel_rfl) (fun _ _ _ h => h) (Or.inl ⟨by kernel_rfl, fun W hW => by have g := hW.pk.c1; go_simp⟩) hr ?_
  refine wpAnyH_take (i := 8) (v := .pointer (some ⟨N, 0, none⟩)) rfl (by kernel_rfl) (by kernel_rfl) (by kernel_rfl) (fun _ _ _ h => h) (Yields.yieldsIf (Or.inl ⟨by kernel_rfl, fun _ => by kernel_rfl⟩)) hr ?_
  refine wpAnyH_take (i := 9) (v := .pointer (some ⟨N, 0, none⟩)) rfl (by kernel_rfl) (by kernel_rfl) (by kernel_rfl) (fun _ _ _ h => h) (Yields.yieldsIf (Or.inl ⟨by kernel_rfl, fun _ => by go_simp⟩)) hr ?_
  refine wpAnyH_take (i := 10) (v := .pointer (some ⟨N, 2, none⟩)) rfl (by kernel_rfl) (by kernel_rfl) (by kernel_rfl) (fun _ _ _ h => h) (Yields.yieldsIf (Or.inl ⟨by kernel_rfl, fun _ => by go_simp⟩)) hr ?_
  refine wpAnyH_take (i := 11) (v := .slice a n c) rfl (by kernel_rfl) (by kernel_rfl) (by kernel_rfl) (fun _ _ _ h => h) (Or.inl ⟨by kernel_rfl, fun W hW => by have g := hW.pk.c2; go_simp⟩) hr ?_
  refine wpAnyH_take (i := 12) (v := .pointer (some ⟨N, 0, none⟩)) rfl (by kernel_rfl) (by kernel_rfl) (by kernel_rfl) (fun _ _ _ h => h) (Yields.yieldsIf (Or.inl ⟨by kernel_rfl, fun _ => by kernel_rfl⟩)) hr ?_
  refine wpAnyH_take (i := 13) (v := .pointer (some ⟨N, 0, none⟩)) rfl (by kernel_rfl) (by kernel_rfl) (by kernel_rfl) (fun _ _ _ h => h) (Yields.yieldsIf (Or.inl ⟨by kernel_rfl, fun _ => by go_simp⟩)) hr ?_
  refine wpAnyH_take (i := 14) (v := .pointer (some ⟨N, 3, none⟩)) rfl (by kernel_rfl) (by kernel_rfl) (by kernel_rfl) (fun _ _ _ h => h) (Yields.yieldsIf (Or.inl ⟨by kernel_rfl, fun _ => by go_simp⟩)) hr ?_
  refine wpAnyH_take (i := 15) (v := .int .i64 s) rfl (by kernel_rfl) (by kernel_rfl) (by kernel_rfl) (fun _ _ _ h => h) (Or.inl ⟨by kernel_rfl, fun W hW => by have g := hW.pk.c3; go_simp⟩) hr ?_
  refine wpAnyH_take (i := 16) (v := .int .i64 z) rfl (by kernel_rfl) (by kernel_rfl) (by kernel_rfl) (fun _ _ _ h => h) (Yields.yieldsIf (Or.inl ⟨by kernel_rfl, fun _ => by kernel_rfl⟩)) hr ?_
  refine wpAnyH_ready (rs := [17]) (by kernel_rfl) (by simp) ?_
  refine AllReadyH.cons rfl (fun K2 hK2 => ?_) AllReadyH.nil
  go_simp
  refine Calls.mono (ask_no fv b f z s a n c x _ hr.fld hr.txt hc HN.out) ?_
  rintro e w2 ⟨rfl, b1⟩
  have hr := hr.grew b1
  clear b1
  refine hK2.out _ _ hr (fun hr => ?_)
  clear hK2 K2
  refine wpAnyH_take (i := 18) (v := .tuple #[.slice none 0 0, .bool false]) rfl (by kernel_rfl) (by kernel_rfl) (by kernel_rfl) (fun _ _ _ h => h) (Yields.yieldsIf (Or.inl ⟨by kernel_rfl, fun _ => by kernel_rfl⟩)) hr ?_
  refine wpAnyH_take (i := 19) (v := .slice none 0 0) rfl (by kernel_rfl) (by kernel_rfl) (by kernel_rfl) (fun _ _ _ h => h) (Yields.yieldsIf (Or.inl ⟨by kernel_rfl, fun _ => by go_simp⟩)) hr ?_
  refine wpAnyH_take (i := 20) (v := .bool false) rfl (by kernel_rfl) (by kernel_rfl) (by kernel_rfl) (fun _ _ _ h => h) (Yields.yieldsIf (Or.inl ⟨by kernel_rfl, fun _ => by go_simp⟩)) hr ?_
  refine wpAnyH_take (i := 21) (v := .slice none 0 0) rfl (by kernel_rfl) (by kernel_rfl) (by kernel_rfl) (fun _ _ _ h => h) (Yields.yieldsIf (Or.inl ⟨by kernel_rfl, fun _ => by kernel_rfl⟩)) hr ?_
  refine wpAnyH_take (i := 22) (v := .bool false) rfl (by kernel_rfl) (by kernel_rfl) (by kernel_rfl) (fun _ _ _ h => h) (Yields.yieldsIf (Or.inl ⟨by kernel_rfl, fun _ => by kernel_rfl⟩)) hr ?_
  refine wpAnyH_done (by kernel_rfl) ?_ _
  have B1 : Hid (Below w.heap.size w w2) := B0.out.trans (hr.bel.mono B0.out.size)
  obtain ⟨r0, r1, r2, r3, r4, rz⟩ := hr.res
  have z0 := rz 0
  have z1 := rz 1
  have z2 := rz 2
  have z3 := rz 3
  have z4 := rz 4
  have HW : Hid (DatAt (((((w2.setCell ⟨w.heap.size, 0, none⟩ (.int .u16 0)).setCell ⟨w.heap.size, 1, none⟩ (.int .u16 0)).setCell ⟨w.heap.size, 2, none⟩ (.int .u32 0)).setCell ⟨w.heap.size, 3, none⟩ (.int .u16 0)).setCell ⟨w.heap.size, 4, none⟩ (.slice none 0 0)) w.heap.size 0 0 0 0 none 0 0) := DatAt.write ⟨r0, r1, r2, r3, r4, rz⟩ 0 0 0 0 none 0 0
  have HB : Hid (Below w.heap.size w (((((w2.setCell ⟨w.heap.size, 0, none⟩ (.int .u16 0)).setCell ⟨w.heap.size, 1, none⟩ (.int .u16 0)).setCell ⟨w.heap.size, 2, none⟩ (.int .u32 0)).setCell ⟨w.heap.size, 3, none⟩ (.int .u16 0)).setCell ⟨w.heap.size, 4, none⟩ (.slice none 0 0))) := (((((B1.out.setCell (p := ⟨w.heap.size, 0, none⟩) (Nat.le_refl _) _).setCell (p := ⟨w.heap.size, 1, none⟩) (Nat.le_refl _) _).setCell (p := ⟨w.heap.size, 2, none⟩) (Nat.le_refl _) _).setCell (p := ⟨w.heap.size, 3, none⟩) (Nat.le_refl _) _).setCell (p := ⟨w.heap.size, 4, none⟩) (Nat.le_refl _) _)
  clear hr rz B0 B1 HN
  go_wp2
  generalize (((((w2.setCell ⟨w.heap.size, 0, none⟩ (.int .u16 0)).setCell ⟨w.heap.size, 1, none⟩ (.int .u16 0)).setCell ⟨w.heap.size, 2, none⟩ (.int .u32 0)).setCell ⟨w.heap.size, 3, none⟩ (.int .u16 0)).setCell ⟨w.heap.size, 4, none⟩ (.slice none 0 0)) = w3 at *
  obtain ⟨q0, q1, q2, q3, q4, -⟩ := HW.out
  refine bodyPost_ret (v := .tuple #[.agg #[.int .u16 0, .int .u16 0, .int .u32 0, .int .u16 0, .slice none 0 0], .bool false]) ?_ rfl ⟨rfl, HB.out⟩
  simp [results, Try.results20, go_sem, q0, q1, q2, q3, q4]
set_option maxRecDepth 100000 in
set_option maxHeartbeats 1000000 in
theorem next_yes (N p f n c s q t k id : Nat) (z : Int) (a : Option Addr) (x : Nat → Nat) (w : World) (hz : z = (id : Int)) (h : PkrAt w N (some ⟨p, 0, none⟩) f a n c (s : Int) q t) (hF : FieldAt w p) (hx : BytesAt w a n x) (hc : n ≤ c) (hf : f < 4294967296) (_hq : q < 65536) (s1 : 1 ≤ s) (s2 : s ≤ 64) (n1 : 1 ≤ n) (n2 : n ≤ 32 * s) (hk : k = cntOf n s) (hi : id < k + 64) :
    Calls Try.prog 20 #[.pointer (some ⟨N, 0, none⟩), .int .i64 z] w fun e w' => NextYes w N (some ⟨p, 0, none⟩) f a n c s q t id (symOf f x n s id) e w' := by
  subst hz
  have k2 : k ≤ 32 := hk ▸ cnt_le n s s1 n2
  have i0 : (id : Int) < 65536 := by omega
  have i1 : (0 : Int) ≤ (id : Int) := by omega
  have HK : Hid (k = cntOf n s) := hk
  have EW : IntKind.u16.wrap (id : Int) = (id : Int) := wrap_u16 id (by omega)
  have hN := h.lt
  have H0 : Hid (Asks15 (w.alloc (.cells #[.int .u16 0, .int .u16 0, .int .u32 0, .int .u16 0, .slice none 0 0] 40)) N w.heap.size (some ⟨p, 0, none⟩) f a n c (s : Int) q t true x (w.alloc (.cells #[.int .u16 0, .int .u16 0, .int .u32 0, .int .u16 0, .slice none 0 0] 40))) := ⟨h.grew ((Below.refl _ _).alloc (Nat.le_refl _) _), DatAt.made w _ 0 0 0 0 none 0 0, (FldIs.mk' hF).grew ((Below.refl _ _).alloc (Nat.le_refl _) _), hx.grew ((Below.refl _ _).alloc (Nat.le_refl _) _), Below.refl _ _⟩
  have B0 : Hid (Below w.heap.size w (w.alloc (.cells #[.int .u16 0, .int .u16 0, .int .u32 0, .int .u16 0, .slice none 0 0] 40))) := (Below.refl _ _).alloc (Nat.le_refl _) _
  clear h hF hx hk
  go_enter Try.func20, Try.ntmps20
  go_wp2_with fail
  generalize (w.alloc (.cells #[.int .u16 0, .int .u16 0, .int .u32 0, .int .u16 0, .slice none 0 0] 40)) = w0 at *
  refine wp_region_held (S := Asks15 w0 N w.heap.size (some ⟨p, 0, none⟩) f a n c (s : Int) q t true x) (by kernel_rfl) ?_
  change wpAnyH _ _ _ _ _ _ _ _ w0.drew
  have hr : Asks15 w0 N w.heap.size (some ⟨p, 0, none⟩) f a n c (s : Int) q t true x w0.drew := H0.out.grew (below_drews 1)
  clear H0
  have HW1 : Hid (w0.heap.size ≤ w0.drew.heap.size) := (below_drews (B := 0) 1).size
  generalize w0.drew = w1 at *
  refine wpAnyH_take (i := 0) (v := .pointer (some ⟨N, 0, none⟩)) rfl (by kernel_rfl) (by kernel_rfl) (by kernel_rfl) (fun _ _ _ h => h) (Yields.yieldsIf (Or.inl ⟨by kernel_rfl, fun _ => by kernel_rfl⟩)) hr ?_
  refine wpAnyH_take (i := 1) (v := .pointer (some ⟨N, 0, none⟩)) rfl (by kernel_rfl) (by kernel_rfl) (by kernel_rfl) (fun _ _ _ h => h) (Yields.yieldsIf (Or.inl ⟨by kernel_rfl, fun _ => by go_simp⟩)) hr ?_
  refine wpAnyH_take (i := 2) (v := .pointer (some ⟨N, 0, none⟩)) rfl (by kernel_rfl) (by kernel_rfl) (by kernel_rfl) (fun _ _ _ h => h) (Yields.yieldsIf (Or.inl ⟨by kernel_rfl, fun _ => by go_simp⟩)) hr ?_
  refine wpAnyH_take (i := 3) (v := .pointer (some ⟨p, 0, none⟩)) rfl (by kernel_rfl) (by kernel_rfl) (by kernel_rfl) (fun _ _ _ h => h) (Or.inl ⟨by kernel_rfl, fun W hW => by have g := hW.pk.c0; go_simp⟩) hr ?_
  refine wpAnyH_take (i := 4) (v := .pointer (some ⟨N, 0, none⟩)) rfl (by kernel_rfl) (by kernel_rfl) (by kernel_rfl) (fun _ _ _ h => h) (Yields.yieldsIf (Or.inl ⟨by kernel_rfl, fun _ => by kernel_rfl⟩)) hr ?_
  refine wpAnyH_take (i := 5) (v := .pointer (some ⟨N, 0, none⟩)) rfl (by kernel_rfl) (by kernel_rfl) (by kernel_rfl) (fun _ _ _ h => h) (Yields.yieldsIf (Or.inl ⟨by kernel_rfl, fun _ => by go_simp⟩)) hr ?_
  refine wpAnyH_take (i := 6) (v := .pointer (some ⟨N, 1, none⟩)) rfl (by kernel_rfl) (by kernel_rfl) (by kernel_rfl) (fun _ _ _ h => h) (Yields.yieldsIf (Or.inl ⟨by kernel_rfl, fun _ => by go_simp⟩)) hr ?_
  refine wpAnyH_take (i := 7) (v := .int .u32 (f : Int)) rfl (by kernel_rfl) (by kernel_rfl) (by kernel_rfl) (fun _ _ _ h => h) (Or.inl ⟨by kernel_rfl, fun W hW => by have g := hW.pk.c1; go_simp⟩) hr ?_
  refine wpAnyH_take (i := 8) (v := .pointer (some ⟨N, 0, none⟩)) rfl (by kernel_rfl) (by kernel_rfl) (by kernel_rfl) (fun _ _ _ h => h) (Yields.yieldsIf (Or.inl ⟨by kernel_rfl, fun _ => by kernel_rfl⟩)) hr ?_
  refine wpAnyH_take (i := 9) (v := .pointer (some ⟨N, 0, none⟩)) rfl (by kernel_rfl) (by kernel_rfl) (by kernel_rfl) (fun _ _ _ h => h) (Yields.yieldsIf (Or.inl ⟨by kernel_rfl, fun _ => by go_simp⟩)) hr ?_
  refine wpAnyH_take (i := 10) (v := .pointer (some ⟨N, 2, none⟩)) rfl (by kernel_rfl) (by kernel_rfl) (by kernel_rfl) (fun _ _ _ h => h) (Yields.yieldsIf (Or.inl ⟨by kernel_rfl, fun _ => by go_simp⟩)) hr ?_
  refine wpAnyH_take (i := 11) (v := .slice a n c) rfl (by kernel_rfl) (by kernel_rfl) (by kernel_rfl) (fun _ _ _ h => h) (Or.inl ⟨by kernel_rfl, fun W hW => by have g := hW.pk.c2; go_simp⟩) hr ?_
  refine wpAnyH_take (i := 12) (v := .pointer (some ⟨N, 0, none⟩)) rfl (by kernel_rfl) (by kernel_rfl) (by kernel_rfl) (fun _ _ _ h => h) (Yields.yieldsIf (Or.inl ⟨by kernel_rfl, fun _ => by kernel_rfl⟩)) hr ?_
  refine wpAnyH_take (i := 13) (v := .pointer (some ⟨N, 0, none⟩)) rfl (by kernel_rfl) (by kernel_rfl) (by kernel_rfl) (fun _ _ _ h => h) (Yields.yieldsIf (Or.inl ⟨by kernel_rfl, fun _ => by go_simp⟩)) hr ?_
  refine wpAnyH_take (i := 14) (v := .pointer (some ⟨N, 3, none⟩)) rfl (by kernel_rfl) (by kernel_rfl) (by kernel_rfl) (fun _ _ _ h => h) (Yields.yieldsIf (Or.inl ⟨by kernel_rfl, fun _ => by go_simp⟩)) hr ?_
  refine wpAnyH_take (i := 15) (v := .int .i64 (s : Int)) rfl (by kernel_rfl) (by kernel_rfl) (by kernel_rfl) (fun _ _ _ h => h) (Or.inl ⟨by kernel_rfl, fun W hW => by have g := hW.pk.c3; go_simp⟩) hr ?_
  refine wpAnyH_take (i := 16) (v := .int .i64 (id : Int)) rfl (by kernel_rfl) (by kernel_rfl) (by kernel_rfl) (fun _ _ _ h => h) (Yields.yieldsIf (Or.inl ⟨by kernel_rfl, fun _ => by kernel_rfl⟩)) hr ?_
  refine wpAnyH_ready (rs := [17]) (by kernel_rfl) (by simp) ?_
  refine AllReadyH.cons rfl (fun K2 hK2 => ?_) AllReadyH.nil
  go_simp
  refine Calls.mono (symbol_yes p f id a n c s k x _ (hr.fld.at rfl) hr.txt hc hf s1 s2 n1 n2 HK.out hi) ?_
  rintro e w2 ⟨g, rfl, g1, Y1, b1⟩
  have lw1 : Hid (w.heap.size < w1.heap.size) := hr.res.lt
  have hr := hr.grew b1
  have gg : Hid (w1.heap.size ≤ g) := g1
  have HY : Hid (BytesAt w2 (some ⟨g, 0, none⟩) s (symOf f x n s id)) := Y1
  have hw1 : Hid (w0.heap.size ≤ w1.heap.size) := HW1.out
  clear b1 g1 Y1
  refine hK2.out _ _ hr (fun hr => ?_)
  clear hK2 K2
  refine wpAnyH_take (i := 18) (v := .tuple #[.slice (some ⟨g, 0, none⟩) s s, .bool true]) rfl (by kernel_rfl) (by kernel_rfl) (by kernel_rfl) (fun _ _ _ h => h) (Yields.yieldsIf (Or.inl ⟨by kernel_rfl, fun _ => by kernel_rfl⟩)) hr ?_
  refine wpAnyH_take (i := 19) (v := .slice (some ⟨g, 0, none⟩) s s) rfl (by kernel_rfl) (by kernel_rfl) (by kernel_rfl) (fun _ _ _ h => h) (Yields.yieldsIf (Or.inl ⟨by kernel_rfl, fun _ => by go_simp⟩)) hr ?_
  refine wpAnyH_take (i := 20) (v := .bool true) rfl (by kernel_rfl) (by kernel_rfl) (by kernel_rfl) (fun _ _ _ h => h) (Yields.yieldsIf (Or.inl ⟨by kernel_rfl, fun _ => by go_simp⟩)) hr ?_
  refine wpAnyH_take (i := 21) (v := .slice (some ⟨g, 0, none⟩) s s) rfl (by kernel_rfl) (by kernel_rfl) (by kernel_rfl) (fun _ _ _ h => h) (Yields.yieldsIf (Or.inl ⟨by kernel_rfl, fun _ => by kernel_rfl⟩)) hr ?_
  refine wpAnyH_take (i := 22) (v := .bool true) rfl (by kernel_rfl) (by kernel_rfl) (by kernel_rfl) (fun _ _ _ h => h) (Yields.yieldsIf (Or.inl ⟨by kernel_rfl, fun _ => by kernel_rfl⟩)) hr ?_
  refine wpAnyH_done (by kernel_rfl) ?_ _
  have hP2 : Hid (PkrAt w2 N (some ⟨p, 0, none⟩) f a n c (s : Int) q t) := hr.pk
  have hR2 : Hid (DatAt w2 w.heap.size 0 0 0 0 none 0 0) := hr.res
  have B2 : Hid (Below w.heap.size w w2) := B0.out.trans (hr.bel.mono B0.out.size)
  have hwg : Hid (w.heap.size < g ∧ g < w2.heap.size) := ⟨Nat.lt_of_lt_of_le lw1.out gg.out, by
    obtain ⟨b, o, e, hc⟩ := HY.out.cells (by omega)
    cases e
    exact cell_lt (hc 0 (by omega))⟩
  clear hr B0 hw1 gg HW1 HK lw1
  go_wp2_with fail
  refine wp_region_held (S := fun W => PkrAt W N (some ⟨p, 0, none⟩) f a n c (s : Int) q t) (by kernel_rfl) ?_
  change wpAnyH _ _ _ _ _ _ _ _ w2.drew
  have hr : PkrAt w2.drew N (some ⟨p, 0, none⟩) f a n c (s : Int) q t := hP2.out.grew (below_drews 1)
  have HR2 : Hid (DatAt w2.drew w.heap.size 0 0 0 0 none 0 0) := hR2.out.grew (below_drews 1)
  have HB2 : Hid (Below w.heap.size w w2.drew) := B2.out.trans (below_drews 1)
  have HY2 : Hid (BytesAt w2.drew (some ⟨g, 0, none⟩) s (symOf f x n s id)) := HY.out.grew (below_drews 1)
  have HG2 : Hid (w.heap.size < g ∧ g < w2.drew.heap.size) := hwg.out
  clear hP2 hR2 B2 HY hwg
  generalize w2.drew = w3 at *
  refine wpAnyH_take (i := 0) (v := .pointer (some ⟨N, 0, none⟩)) rfl (by kernel_rfl) (by kernel_rfl) (by kernel_rfl) (fun _ _ _ h => h) (Yields.yieldsIf (Or.inl ⟨by kernel_rfl, fun _ => by kernel_rfl⟩)) hr ?_
  refine wpAnyH_take (i := 1) (v := .pointer (some ⟨N, 0, none⟩)) rfl (by kernel_rfl) (by kernel_rfl) (by kernel_rfl) (fun _ _ _ h => h) (Yields.yieldsIf (Or.inl ⟨by kernel_rfl, fun _ => by go_simp⟩)) hr ?_
  refine wpAnyH_take (i := 2) (v := .pointer (some ⟨N, 4, none⟩)) rfl (by kernel_rfl) (by kernel_rfl) (by kernel_rfl) (fun _ _ _ h => h) (Yields.yieldsIf (Or.inl ⟨by kernel_rfl, fun _ => by go_simp⟩)) hr ?_
  refine wpAnyH_take (i := 3) (v := .int .u16 (q : Int)) rfl (by kernel_rfl) (by kernel_rfl) (by kernel_rfl) (fun _ _ _ h => h) (Or.inl ⟨by kernel_rfl, fun W hW => by have g := hW.c4; go_simp⟩) hr ?_
  refine wpAnyH_take (i := 4) (v := .pointer (some ⟨N, 0, none⟩)) rfl (by kernel_rfl) (by kernel_rfl) (by kernel_rfl) (fun _ _ _ h => h) (Yields.yieldsIf (Or.inl ⟨by kernel_rfl, fun _ => by kernel_rfl⟩)) hr ?_
  refine wpAnyH_take (i := 5) (v := .pointer (some ⟨N, 0, none⟩)) rfl (by kernel_rfl) (by kernel_rfl) (by kernel_rfl) (fun _ _ _ h => h) (Yields.yieldsIf (Or.inl ⟨by kernel_rfl, fun _ => by go_simp⟩)) hr ?_
  refine wpAnyH_take (i := 6) (v := .pointer (some ⟨N, 5, none⟩)) rfl (by kernel_rfl) (by kernel_rfl) (by kernel_rfl) (fun _ _ _ h => h) (Yields.yieldsIf (Or.inl ⟨by kernel_rfl, fun _ => by go_simp⟩)) hr ?_
  refine wpAnyH_take (i := 7) (v := .int .u16 (t : Int)) rfl (by kernel_rfl) (by kernel_rfl) (by kernel_rfl) (fun _ _ _ h => h) (Or.inl ⟨by kernel_rfl, fun W hW => by have g := hW.c5; go_simp⟩) hr ?_
  refine wpAnyH_take (i := 8) (v := .pointer (some ⟨N, 0, none⟩)) rfl (by kernel_rfl) (by kernel_rfl) (by kernel_rfl) (fun _ _ _ h => h) (Yields.yieldsIf (Or.inl ⟨by kernel_rfl, fun _ => by kernel_rfl⟩)) hr ?_
  refine wpAnyH_take (i := 9) (v := .pointer (some ⟨N, 0, none⟩)) rfl (by kernel_rfl) (by kernel_rfl) (by kernel_rfl) (fun _ _ _ h => h) (Yields.yieldsIf (Or.inl ⟨by kernel_rfl, fun _ => by go_simp⟩)) hr ?_
  refine wpAnyH_take (i := 10) (v := .pointer (some ⟨N, 1, none⟩)) rfl (by kernel_rfl) (by kernel_rfl) (by kernel_rfl) (fun _ _ _ h => h) (Yields.yieldsIf (Or.inl ⟨by kernel_rfl, fun _ => by go_simp⟩)) hr ?_
  refine wpAnyH_take (i := 11) (v := .int .u32 (f : Int)) rfl (by kernel_rfl) (by kernel_rfl) (by kernel_rfl) (fun _ _ _ h => h) (Or.inl ⟨by kernel_rfl, fun W hW => by have g := hW.c1; go_simp⟩) hr ?_
  refine wpAnyH_take (i := 12) (v := .int .i64 (id : Int)) rfl (by kernel_rfl) (by kernel_rfl) (by kernel_rfl) (fun _ _ _ h => h) (Yields.yieldsIf (Or.inl ⟨by kernel_rfl, fun _ => by kernel_rfl⟩)) hr ?_
  refine wpAnyH_take (i := 13) (v := .int .u16 (id : Int)) rfl (by kernel_rfl) (by kernel_rfl) (by kernel_rfl) (fun _ _ _ h => h) (Yields.yieldsIf (Or.inl ⟨by kernel_rfl, fun _ => by go_simp⟩)) hr ?_
  refine wpAnyH_take (i := 14) (v := .slice (some ⟨g, 0, none⟩) s s) rfl (by kernel_rfl) (by kernel_rfl) (by kernel_rfl) (fun _ _ _ h => h) (Yields.yieldsIf (Or.inl ⟨by kernel_rfl, fun _ => by kernel_rfl⟩)) hr ?_
  refine wpAnyH_take (i := 15) (v := .agg #[.int .u16 (q : Int), .int .u16 (t : Int), .int .u32 (f : Int), .int .u16 (id : Int), .slice (some ⟨g, 0, none⟩) s s]) rfl (by kernel_rfl) (by kernel_rfl) (by kernel_rfl) (fun _ _ _ h => h) (Yields.yieldsIf (Or.inl ⟨by kernel_rfl, fun _ => by kernel_rfl⟩)) hr ?_
  refine wpAnyH_ready (rs := [16]) (by kernel_rfl) (by simp) ?_
  refine AllReadyH.cons rfl (fun K2 hK2 => ?_) AllReadyH.nil
  go_simp
  obtain ⟨x3, e3⟩ : ∃ x, (w3.alloc (.cells #[.int .u16 0, .int .u16 0, .int .u32 0, .int .u16 0, .slice none 0 0] 40)) = x := ⟨_, rfl⟩
  have B3 : Below w3.heap.size w3 x3 := e3 ▸ (Below.refl _ _).alloc (Nat.le_refl _) _
  have D3 : Hid (DatAt x3 w3.heap.size 0 0 0 0 none 0 0) := e3 ▸ DatAt.made w3 _ 0 0 0 0 none 0 0
  have HR3 : Hid (DatAt x3 w.heap.size 0 0 0 0 none 0 0) := HR2.out.grew B3
  have HB3 : Hid (Below w.heap.size w x3) := HB2.out.trans (B3.mono HB2.out.size)
  have HY3 : Hid (BytesAt x3 (some ⟨g, 0, none⟩) s (symOf f x n s id)) := HY2.out.grew B3
  have HG3 : Hid (w.heap.size < g ∧ g < w3.heap.size ∧ w3.heap.size < x3.heap.size ∧ w.heap.size < w3.heap.size) := ⟨HG2.out.1, HG2.out.2, D3.out.lt, by have := HR2.out.lt; omega⟩
  have hr := hr.grew B3
  rw [e3]
  clear e3 B3 HR2 HB2 HY2 HG2
  refine hK2.out _ _ hr (fun hr => ?_)
  clear hK2 K2
  generalize w3.heap.size = G at *
  have lG := HG3.out
  refine wpAnyH_ready (rs := [17]) (by kernel_rfl) (by simp) ?_
  refine AllReadyH.cons rfl (fun K2 hK2 => ?_) AllReadyH.nil
  have lz := lG
  obtain ⟨d0, d1, d2, d3, d4, dz⟩ := D3.out
  have dz0 := dz 0
  have dz1 := dz 1
  have dz2 := dz 2
  have dz3 := dz 3
  have dz4 := dz 4
  go_simp
  obtain ⟨x4, e4⟩ : ∃ x, (((((x3.setCell ⟨G, 0, none⟩ (.int .u16 (q : Int))).setCell ⟨G, 1, none⟩ (.int .u16 (t : Int))).setCell ⟨G, 2, none⟩ (.int .u32 (f : Int))).setCell ⟨G, 3, none⟩ (.int .u16 (id : Int))).setCell ⟨G, 4, none⟩ (.slice (some ⟨g, 0, none⟩) s s)) = x := ⟨_, rfl⟩
  have D4 : Hid (DatAt x4 G q t f id (some ⟨g, 0, none⟩) s s) := e4 ▸ D3.out.write q t f id (some ⟨g, 0, none⟩) s s
  have K4 : Kept G x3 x4 := e4 ▸ (((((Kept.refl G x3).trans (Kept.set _ 0 _)).trans (Kept.set _ 1 _)).trans (Kept.set _ 2 _)).trans (Kept.set _ 3 _)).trans (Kept.set _ 4 _)
  have hr : PkrAt x4 N (some ⟨p, 0, none⟩) f a n c (s : Int) q t := hr.block (K4.block N hr.lt (by omega))
  have HR4 : Hid (DatAt x4 w.heap.size 0 0 0 0 none 0 0) := HR3.out.block (K4.block _ HR3.out.lt (by omega))
  have HB4 : Hid (Below w.heap.size w x4) := HB3.out.trans (K4.below (by omega) HB3.out.size)
  have HY4 : Hid (BytesAt x4 (some ⟨g, 0, none⟩) s (symOf f x n s id)) := HY3.out.keptN K4 (by omega)
  rw [e4]
  clear e4 K4 HR3 HB3 HY3 D3 d0 d1 d2 d3 d4 dz dz0 dz1 dz2 dz3 dz4
  refine hK2.out _ _ hr (fun hr => ?_)
  clear hK2 K2
  refine wpAnyH_done (by kernel_rfl) ?_ _
  obtain ⟨q1, hq1⟩ : ∃ q1, q1 = (q + 1) % 65536 := ⟨_, rfl⟩
  have EQ : IntKind.u16.wrap ((q : Int) + 1) = (q1 : Int) := by rw [hq1]; exact wrap_next q
  have HQ : Hid (q1 = (q + 1) % 65536) := hq1
  obtain ⟨x5, e5⟩ : ∃ x, x4.setCell ⟨N, 4, none⟩ (.int .u16 (q1 : Int)) = x := ⟨_, rfl⟩
  have hN2 : N < w.heap.size := hN
  have P5 : Hid (PkrAt x5 N (some ⟨p, 0, none⟩) f a n c (s : Int) q1 t) := e5 ▸ hr.next q1
  have K5 : Kept N x4 x5 := e5 ▸ Kept.set x4 4 _
  have D5 : Hid (DatAt x5 G q t f id (some ⟨g, 0, none⟩) s s) := D4.out.block (K5.block _ D4.out.lt (by omega))
  have R5 : Hid (DatAt x5 w.heap.size 0 0 0 0 none 0 0) := HR4.out.block (K5.block _ HR4.out.lt (by omega))
  have W5 : Hid (Kept N w x5) := (Kept.of_below HB4.out).trans K5
  have Y5 : Hid (BytesAt x5 (some ⟨g, 0, none⟩) s (symOf f x n s id)) := HY4.out.keptN K5 (by omega)
  have S5 : Hid (g < x5.heap.size) := Nat.lt_of_lt_of_le (by omega) (Nat.le_of_lt D5.out.lt)
  obtain ⟨p0, p1, p2, p3, p4, p5, pz⟩ := hr
  have pz4 := pz 4
  obtain ⟨d0, d1, d2, d3, d4, -⟩ := D5.out
  obtain ⟨r0, r1, r2, r3, r4, rz⟩ := R5.out
  have rz0 := rz 0
  have rz1 := rz 1
  have rz2 := rz 2
  have rz3 := rz 3
  have rz4 := rz 4
  have lg := HG3.out
  have hlt := R5.out.lt
  have HW : Hid (DatAt (((((x5.setCell ⟨w.heap.size, 0, none⟩ (.int .u16 (q : Int))).setCell ⟨w.heap.size, 1, none⟩ (.int .u16 (t : Int))).setCell ⟨w.heap.size, 2, none⟩ (.int .u32 (f : Int))).setCell ⟨w.heap.size, 3, none⟩ (.int .u16 (id : Int))).setCell ⟨w.heap.size, 4, none⟩ (.slice (some ⟨g, 0, none⟩) s s)) w.heap.size q t f id (some ⟨g, 0, none⟩) s s) := R5.out.write q t f id (some ⟨g, 0, none⟩) s s
  have K6 : Hid (Kept w.heap.size x5 (((((x5.setCell ⟨w.heap.size, 0, none⟩ (.int .u16 (q : Int))).setCell ⟨w.heap.size, 1, none⟩ (.int .u16 (t : Int))).setCell ⟨w.heap.size, 2, none⟩ (.int .u32 (f : Int))).setCell ⟨w.heap.size, 3, none⟩ (.int .u16 (id : Int))).setCell ⟨w.heap.size, 4, none⟩ (.slice (some ⟨g, 0, none⟩) s s))) := (((((Kept.refl _ x5).trans (Kept.set _ 0 _)).trans (Kept.set _ 1 _)).trans (Kept.set _ 2 _)).trans (Kept.set _ 3 _)).trans (Kept.set _ 4 _)
  have HB : Hid (Kept N w (((((x5.setCell ⟨w.heap.size, 0, none⟩ (.int .u16 (q : Int))).setCell ⟨w.heap.size, 1, none⟩ (.int .u16 (t : Int))).setCell ⟨w.heap.size, 2, none⟩ (.int .u32 (f : Int))).setCell ⟨w.heap.size, 3, none⟩ (.int .u16 (id : Int))).setCell ⟨w.heap.size, 4, none⟩ (.slice (some ⟨g, 0, none⟩) s s))) :=
    ⟨W5.out.os, W5.out.tape, W5.out.output, Nat.le_trans W5.out.size K6.out.size, fun k hk hne => (K6.out.block k (Nat.lt_of_lt_of_le hk W5.out.size) (by omega)).trans (W5.out.block k hk hne)⟩
  have P6 : Hid (PkrAt (((((x5.setCell ⟨w.heap.size, 0, none⟩ (.int .u16 (q : Int))).setCell ⟨w.heap.size, 1, none⟩ (.int .u16 (t : Int))).setCell ⟨w.heap.size, 2, none⟩ (.int .u32 (f : Int))).setCell ⟨w.heap.size, 3, none⟩ (.int .u16 (id : Int))).setCell ⟨w.heap.size, 4, none⟩ (.slice (some ⟨g, 0, none⟩) s s)) N (some ⟨p, 0, none⟩) f a n c (s : Int) q1 t) := P5.out.block (K6.out.block N P5.out.lt (by omega))
  have Y6 : Hid (BytesAt (((((x5.setCell ⟨w.heap.size, 0, none⟩ (.int .u16 (q : Int))).setCell ⟨w.heap.size, 1, none⟩ (.int .u16 (t : Int))).setCell ⟨w.heap.size, 2, none⟩ (.int .u32 (f : Int))).setCell ⟨w.heap.size, 3, none⟩ (.int .u16 (id : Int))).setCell ⟨w.heap.size, 4, none⟩ (.slice (some ⟨g, 0, none⟩) s s)) (some ⟨g, 0, none⟩) s (symOf f x n s id)) := Y5.out.keptN K6.out (by omega)
  have S6 : Hid (g < (((((x5.setCell ⟨w.heap.size, 0, none⟩ (.int .u16 (q : Int))).setCell ⟨w.heap.size, 1, none⟩ (.int .u16 (t : Int))).setCell ⟨w.heap.size, 2, none⟩ (.int .u32 (f : Int))).setCell ⟨w.heap.size, 3, none⟩ (.int .u16 (id : Int))).setCell ⟨w.heap.size, 4, none⟩ (.slice (some ⟨g, 0, none⟩) s s)).heap.size) := Nat.lt_of_lt_of_le S5.out K6.out.size
  clear hq1 rz pz P5 K5 D5 R5 W5 Y5 S5 K6 HB4 HR4 HY4 D4 HG3 hlt lG lz
  go_wp2
  generalize (((((x5.setCell ⟨w.heap.size, 0, none⟩ (.int .u16 (q : Int))).setCell ⟨w.heap.size, 1, none⟩ (.int .u16 (t : Int))).setCell ⟨w.heap.size, 2, none⟩ (.int .u32 (f : Int))).setCell ⟨w.heap.size, 3, none⟩ (.int .u16 (id : Int))).setCell ⟨w.heap.size, 4, none⟩ (.slice (some ⟨g, 0, none⟩) s s)) = x6 at *
  obtain ⟨q0, q1', q2, q3, q4, -⟩ := HW.out
  refine bodyPost_ret (v := .tuple #[.agg #[.int .u16 (q : Int), .int .u16 (t : Int), .int .u32 (f : Int), .int .u16 (id : Int), .slice (some ⟨g, 0, none⟩) s s], .bool true]) ?_ rfl ⟨g, rfl, Nat.le_of_lt lg.1, S6.out, Y6.out, by rw [← HQ.out]; exact P6.out, HB.out⟩
  simp [results, Try.results20, go_sem, q0, q1', q2, q3, q4]
end Go.Proofs.Ythlidbenhlidjaa

/-
  A slice of integers of any kind that came in, read as a plain function. No program.
-/
namespace Go.Proofs.Ythlidbenhlidjaa
open Go.RowKit Go.Deep

/-- The slice's address a leads to n integers of the kind κ: the i-th is x i. -/
def NumsAt (κ : IntKind) (w : World) (a : Option Addr) (n : Nat) (x : Nat → Int) : Prop :=
  0 < n → ∃ b o, a = some ⟨b, o, none⟩ ∧ ∀ i, i < n → w.cell? ⟨b, o + i, none⟩ = some (.int κ (x i))
theorem NumsAt.below {κ : IntKind} {w w' : World} {a : Option Addr} {n B : Nat} {x : Nat → Int} (h : NumsAt κ w a n x) (hb : Below B w w') (hB : w.heap.size ≤ B) : NumsAt κ w' a n x := fun hn => by
  obtain ⟨b, o, e, hc⟩ := h hn
  exact ⟨b, o, e, fun i hi => (hb.cell (p := ⟨b, o + i, none⟩) (Nat.lt_of_lt_of_le (cell_lt (hc i hi)) hB)).trans (hc i hi)⟩
theorem nums_cell {κ : IntKind} {w : World} {b o n : Nat} {x : Nat → Int} (h : NumsAt κ w (some ⟨b, o, none⟩) n x) (i : Nat) (hi : i < n) : w.cell? ⟨b, o + i, none⟩ = some (.int κ (x i)) := by
  obtain ⟨b', o', e, hc⟩ := h (by omega)
  cases e
  exact hc i hi
/-- What the guide's shell tells of a slice of integers that came in. -/
def CameAs (κ : IntKind) (w : World) (a : Option Addr) (len cap : Nat) (zs : List Int) : Prop :=
  (a = none ∧ len = 0 ∧ cap = 0 ∧ zs = []) ∨
  ∃ x, a = some x ∧ len ≤ cap ∧ cap ≤ maxLen ∧ zs.length = cap ∧ (∀ i, i < zs.length → w.cell? (x.add i) = some (.int κ (zs.getD i 0))) ∧ ∀ n ∈ zs, (Lit.int κ n).wf = true
theorem CameAs.nums {κ : IntKind} {w : World} {a : Option Addr} {len cap : Nat} {zs : List Int} (h : CameAs κ w a len cap zs) :
    NumsAt κ w a len (fun i => zs[i]?.getD 0) ∧ ∀ n ∈ zs, (Lit.int κ n).wf = true := by
  rcases h with ⟨rfl, rfl, rfl, rfl⟩ | ⟨x, rfl, h1, h2, h3, h4, h5⟩
  · exact ⟨fun h => absurd h (by omega), fun n hn => by cases hn⟩
  · refine ⟨fun hn => ?_, h5⟩
    obtain ⟨b, o, s⟩ := x
    have hz := h4 0 (by omega)
    have e0 : (⟨b, o, s⟩ : Addr).add 0 = ⟨b, o, s⟩ := rfl
    rw [e0] at hz
    have hs : s = none := addr_plain hz
    subst hs
    refine ⟨b, o, rfl, fun i hi => ?_⟩
    have hc := h4 i (by omega)
    have ea : (⟨b, o, none⟩ : Addr).add i = ⟨b, o + i, none⟩ := by unfold Addr.add; split <;> simp_all
    rw [ea] at hc
    rw [hc]
    rfl
end Go.Proofs.Ythlidbenhlidjaa

/-
  Frames in memory: one in a variable's block, many in a row. No program.
-/
namespace Go.Proofs.Ythlidbenhlidjaa
open Go.RowKit Go.Deep

/-- A frame: ID, Kind, Refs (where, how many, room), Size, Play, Deadline. -/
structure Fr where
  id : Nat
  k : Int
  a : Option Addr
  n : Nat
  c : Nat
  s : Int
  p : Int
  d : Int
def Fr.val (f : Fr) : Value := .agg #[.int .u32 (f.id : Int), .int .i64 f.k, .slice f.a f.n f.c, .int .i64 f.s, .int .i64 f.p, .int .i64 f.d]
/-- The block B holds the frame f. -/
structure FrAt (w : World) (B : Nat) (f : Fr) : Prop where
  c0 : w.cell? ⟨B, 0, none⟩ = some (.int .u32 (f.id : Int))
  c1 : w.cell? ⟨B, 1, none⟩ = some (.int .i64 f.k)
  c2 : w.cell? ⟨B, 2, none⟩ = some (.slice f.a f.n f.c)
  c3 : w.cell? ⟨B, 3, none⟩ = some (.int .i64 f.s)
  c4 : w.cell? ⟨B, 4, none⟩ = some (.int .i64 f.p)
  c5 : w.cell? ⟨B, 5, none⟩ = some (.int .i64 f.d)
  frz : ∀ i, w.frozen? ⟨B, i, none⟩ = false
theorem FrAt.made (w : World) (T : TypeId) (f : Fr) :
    FrAt (w.alloc (.cells #[.int .u32 (f.id : Int), .int .i64 f.k, .slice f.a f.n f.c, .int .i64 f.s, .int .i64 f.p, .int .i64 f.d] T)) w.heap.size f :=
  ⟨by rw [World.cell?_alloc_at _ _ _ _ rfl]; rfl, by rw [World.cell?_alloc_at _ _ _ _ rfl]; rfl, by rw [World.cell?_alloc_at _ _ _ _ rfl]; rfl, by rw [World.cell?_alloc_at _ _ _ _ rfl]; rfl, by rw [World.cell?_alloc_at _ _ _ _ rfl]; rfl, by rw [World.cell?_alloc_at _ _ _ _ rfl]; rfl,
   fun i => by rw [World.frozen?_alloc_at _ _ _ _ rfl]⟩
theorem FrAt.lt {w : World} {B : Nat} {f : Fr} (h : FrAt w B f) : B < w.heap.size := cell_lt h.c0
theorem FrAt.block {w w' : World} {B : Nat} {f : Fr} (h : FrAt w B f) (hb : w'.heap[B]? = w.heap[B]?) : FrAt w' B f :=
  ⟨(World.cell?_of_block (a := ⟨B, 0, none⟩) hb).trans h.c0, (World.cell?_of_block (a := ⟨B, 1, none⟩) hb).trans h.c1, (World.cell?_of_block (a := ⟨B, 2, none⟩) hb).trans h.c2, (World.cell?_of_block (a := ⟨B, 3, none⟩) hb).trans h.c3, (World.cell?_of_block (a := ⟨B, 4, none⟩) hb).trans h.c4, (World.cell?_of_block (a := ⟨B, 5, none⟩) hb).trans h.c5,
   fun i => (World.frozen?_of_block (a := ⟨B, i, none⟩) hb).trans (h.frz i)⟩
theorem FrAt.grew {w w' : World} {B : Nat} {f : Fr} (h : FrAt w B f) (hb : Below w.heap.size w w') : FrAt w' B f := h.block (hb.block B h.lt)
theorem FrAt.other {w : World} {B : Nat} {f : Fr} (h : FrAt w B f) {R i : Nat} (v : Value) (hne : R ≠ B) : FrAt (w.setCell ⟨R, i, none⟩ v) B f :=
  h.block (Below.heap_setCell w ⟨R, i, none⟩ v B (Ne.symm hne))

/-- The slice's address a leads to m frames: the i-th is K i. -/
def FrsAt (w : World) (a : Option Addr) (m : Nat) (K : Nat → Fr) : Prop :=
  0 < m → ∃ b o, a = some ⟨b, o, none⟩ ∧ ∀ i, i < m → w.cell? ⟨b, o + i * 6, none⟩ = some (.int .u32 ((K i).id : Int)) ∧ w.cell? ⟨b, o + i * 6 + 1, none⟩ = some (.int .i64 (K i).k) ∧ w.cell? ⟨b, o + i * 6 + 2, none⟩ = some (.slice (K i).a (K i).n (K i).c) ∧
    w.cell? ⟨b, o + i * 6 + 3, none⟩ = some (.int .i64 (K i).s) ∧ w.cell? ⟨b, o + i * 6 + 4, none⟩ = some (.int .i64 (K i).p) ∧ w.cell? ⟨b, o + i * 6 + 5, none⟩ = some (.int .i64 (K i).d)
theorem FrsAt.nil (w : World) (K : Nat → Fr) : FrsAt w none 0 K := fun h => absurd h (by omega)
theorem FrsAt.addr {w : World} {a : Option Addr} {m : Nat} {K : Nat → Fr} (h : FrsAt w a m K) (h0 : 0 < m) : ∃ b o, a = some ⟨b, o, none⟩ := by
  obtain ⟨b, o, e, -⟩ := h h0
  exact ⟨b, o, e⟩
theorem FrsAt.at {w : World} {b o m : Nat} {K : Nat → Fr} (h : FrsAt w (some ⟨b, o, none⟩) m K) (i : Nat) (hi : i < m) : w.cell? ⟨b, o + i * 6, none⟩ = some (.int .u32 ((K i).id : Int)) ∧ w.cell? ⟨b, o + i * 6 + 1, none⟩ = some (.int .i64 (K i).k) ∧ w.cell? ⟨b, o + i * 6 + 2, none⟩ = some (.slice (K i).a (K i).n (K i).c) ∧
    w.cell? ⟨b, o + i * 6 + 3, none⟩ = some (.int .i64 (K i).s) ∧ w.cell? ⟨b, o + i * 6 + 4, none⟩ = some (.int .i64 (K i).p) ∧ w.cell? ⟨b, o + i * 6 + 5, none⟩ = some (.int .i64 (K i).d) := by
  obtain ⟨b', o', e, hc⟩ := h (by omega)
  cases e
  exact hc i hi
theorem FrsAt.block {w w' : World} {a : Option Addr} {m : Nat} {K : Nat → Fr} (h : FrsAt w a m K) (hb : ∀ b o, a = some ⟨b, o, none⟩ → b < w.heap.size → w'.heap[b]? = w.heap[b]?) : FrsAt w' a m K := fun h0 => by
  obtain ⟨b, o, e, hc⟩ := h h0
  have hl := hb b o e (cell_lt (hc 0 h0).1)
  have q : ∀ j, w'.cell? ⟨b, j, none⟩ = w.cell? ⟨b, j, none⟩ := fun j => World.cell?_of_block (a := ⟨b, j, none⟩) hl
  refine ⟨b, o, e, fun i hi => ?_⟩
  rw [q, q, q, q, q, q]
  exact hc i hi
theorem FrsAt.below {w w' : World} {a : Option Addr} {m B : Nat} {K : Nat → Fr} (h : FrsAt w a m K) (hb : Below B w w') (hB : w.heap.size ≤ B) : FrsAt w' a m K :=
  h.block fun b _ _ hl => hb.block b (Nat.lt_of_lt_of_le hl hB)
theorem FrsAt.grew {w w' : World} {a : Option Addr} {m : Nat} {K : Nat → Fr} (h : FrsAt w a m K) (hb : Below w.heap.size w w') : FrsAt w' a m K := h.below hb (Nat.le_refl _)
theorem NumsAt.grew {κ : IntKind} {w w' : World} {a : Option Addr} {n : Nat} {x : Nat → Int} (h : NumsAt κ w a n x) (hb : Below w.heap.size w w') : NumsAt κ w' a n x := h.below hb (Nat.le_refl _)
end Go.Proofs.Ythlidbenhlidjaa
