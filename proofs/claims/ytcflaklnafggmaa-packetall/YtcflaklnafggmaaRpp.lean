/-
  The document's Put of a packet.
-/
import Derived.Test.YtcflaklnafggmaaPpu
import Derived.Test.YtcflaklnafggmaaHdr
import Derived.Test.YtcflaklnafggmaaBdr
import Derived.Test.YtcflaklnafggmaaRse
namespace Go.Proofs.Ytcflaklnafggmaa
open Go.RowKit Go.Deep


set_option maxRecDepth 100000 in
set_option maxHeartbeats 1000000 in
theorem rpack_data (p : Pk) (r : Option Addr) (c : Nat) (w : World) (o : p.Ok) (hx : BytesAt w r p.n p.x) (hk : p.k = 1) (h1 : 1 ≤ p.n) (h2 : p.n ≤ 64) :
    Calls Try.prog 10 #[.agg #[.int .i64 p.k, .int .u16 (p.s : Int), .int .u16 (p.t : Int), .int .u32 (p.f : Int), .int .u16 (p.y : Int), .slice r p.n c, .int .u64 (p.T : Int), .int .u32 (p.l : Int), .int .u32 (p.g : Int), .int .u16 (p.u : Int), .int .u16 (p.j : Int), .int .u32 (p.F : Int), .int .u16 (p.d : Int)]] w fun e w' => PutIs w (ptN p) (ptX p) (bE p) e w' := by
  have HK : Hid (p.k = 1) := hk
  have h1' := h1
  have h2' := h2
  have HX : Hid (BytesAt w r p.n p.x) := hx
  rw [hk]
  have D1 : PkAt (w.alloc (.cells #[.int .i64 1, .int .u16 (p.s : Int), .int .u16 (p.t : Int), .int .u32 (p.f : Int), .int .u16 (p.y : Int), .slice r p.n c, .int .u64 (p.T : Int), .int .u32 (p.l : Int), .int .u32 (p.g : Int), .int .u16 (p.u : Int), .int .u16 (p.j : Int), .int .u32 (p.F : Int), .int .u16 (p.d : Int)] 31)) w.heap.size p r c := by
    have := PkAt.made w 31 p r c
    rwa [hk] at this
  have b1 : Below w.heap.size w (w.alloc (.cells #[.int .i64 1, .int .u16 (p.s : Int), .int .u16 (p.t : Int), .int .u32 (p.f : Int), .int .u16 (p.y : Int), .slice r p.n c, .int .u64 (p.T : Int), .int .u32 (p.l : Int), .int .u32 (p.g : Int), .int .u16 (p.u : Int), .int .u16 (p.j : Int), .int .u32 (p.F : Int), .int .u16 (p.d : Int)] 31)) := (Below.refl _ _).alloc (Nat.le_refl _) _
  clear hk hx
  go_enter Try.func10, Try.ntmps10
  go_wp2_with fail
  generalize (w.alloc (.cells #[.int .i64 1, .int .u16 (p.s : Int), .int .u16 (p.t : Int), .int .u32 (p.f : Int), .int .u16 (p.y : Int), .slice r p.n c, .int .u64 (p.T : Int), .int .u32 (p.l : Int), .int .u32 (p.g : Int), .int .u16 (p.u : Int), .int .u16 (p.j : Int), .int .u32 (p.F : Int), .int .u16 (p.d : Int)] 31)) = w1 at *
  refine (rput_yes p.s p.t p.f p.y r p.n c p.x w1 (HX.out.grew b1) h1 h2 o.ls o.lt o.lf o.ly).mono ?_
  intro e w2 h
  obtain ⟨g, cg, rfl, -, -, B2, d2⟩ := h.row (by omega)
  have D2 := D1.grew d2
  have b2 := b1.trans (d2.mono b1.size)
  have q0 : w2.cell? ⟨w.heap.size, 0, none⟩ = some (.int .i64 1) := by rw [show (.int .i64 1 : Value) = .int .i64 p.k by rw [HK.out]]; exact D2.cell 0 (by decide)
  have a3 : Below w2.heap.size w2 (w2.alloc (.cells #[.int .u8 1] 5)) := (Below.refl _ _).alloc (Nat.le_refl _) _
  have O3 : Ror (w2.alloc (.cells #[.int .u8 1] 5)) w2.heap.size (.slice (some ⟨w2.heap.size, 0, none⟩) 1 1) 1 (fun _ => 1) := ror_made (one_row w2 1 5) (Nat.le_refl _) (by decide)
  obtain ⟨v4, w4, happ, O4, g4⟩ := O3.push (c := cg) (z := wire 1 (laid p.s p.t p.f p.y p.x)) 24 (B2.grew a3) (by omega) a3.size (wire_one 1 (laid p.s p.t p.f p.y p.x)) (fun i _ => (wire_succ 1 (laid p.s p.t p.f p.y p.x) i).symm)
  have d4 := grown_below O3 g4 a3 a3.size
  have b4 := b2.trans (d4.mono b2.size)
  obtain ⟨r4, c4, rfl, -, -, -, B4⟩ := ror_any O4 (fun i hi => wire_lt (k := 1) (by decide) B2.lt i hi)
  clear D1 b1 d2 D2 a3 O3 g4 O4 d4
  go_wp2_with (at_builtin; refine Go.Lib.wpList_append_run _ rfl (.tmp 40) (.tmp 41) 24 24 rfl _ _ rfl rfl _ _ happ ?_)
  refine (rseal_any r4 (1 + (10 + p.n)) c4 _ w4 B4 (by omega)).mono ?_
  rintro e w5 ⟨g5, c5, rfl, h1, h2, h3, d5⟩
  have HA : Hid (PutIs w (ptN p) (ptX p) (bE p) (.returned (.tuple #[.slice (some ⟨g5, 0, none⟩) (1 + (10 + p.n) + 4) c5, .int .i64 0])) w5) := by
    obtain ⟨e1, e2, e3⟩ := b_data HK.out
    have e3 : bE p = 0 := e3.trans (put_fit (fit_yes h1' h2')).2
    have e4 : p.k.toNat = 1 := by rw [HK.out]; rfl
    show PutIs _ _ _ _ _ _
    unfold ptX
    rw [ptN_yes e3, e3, e1, e2, e4]
    exact ⟨_, _, rfl, h2, fun _ => ⟨g5, rfl, Nat.le_trans b4.size h1⟩, h3, b4.trans (d5.mono b4.size)⟩
  clear h1 h2 h3 d5 b4 B4 happ q0 B2 b2
  go_wp2
  go_ret2
  exact HA.out

set_option maxRecDepth 100000 in
set_option maxHeartbeats 1000000 in
theorem rpack_rep (p : Pk) (r : Option Addr) (c : Nat) (w : World) (o : p.Ok) (hx : BytesAt w r p.n p.x) (hk : p.k = 2) :
    Calls Try.prog 10 #[.agg #[.int .i64 p.k, .int .u16 (p.s : Int), .int .u16 (p.t : Int), .int .u32 (p.f : Int), .int .u16 (p.y : Int), .slice r p.n c, .int .u64 (p.T : Int), .int .u32 (p.l : Int), .int .u32 (p.g : Int), .int .u16 (p.u : Int), .int .u16 (p.j : Int), .int .u32 (p.F : Int), .int .u16 (p.d : Int)]] w fun e w' => PutIs w (ptN p) (ptX p) (bE p) e w' := by
  have HK : Hid (p.k = 2) := hk
  have HX : Hid (BytesAt w r p.n p.x) := hx
  rw [hk]
  have D1 : PkAt (w.alloc (.cells #[.int .i64 2, .int .u16 (p.s : Int), .int .u16 (p.t : Int), .int .u32 (p.f : Int), .int .u16 (p.y : Int), .slice r p.n c, .int .u64 (p.T : Int), .int .u32 (p.l : Int), .int .u32 (p.g : Int), .int .u16 (p.u : Int), .int .u16 (p.j : Int), .int .u32 (p.F : Int), .int .u16 (p.d : Int)] 31)) w.heap.size p r c := by
    have := PkAt.made w 31 p r c
    rwa [hk] at this
  have b1 : Below w.heap.size w (w.alloc (.cells #[.int .i64 2, .int .u16 (p.s : Int), .int .u16 (p.t : Int), .int .u32 (p.f : Int), .int .u16 (p.y : Int), .slice r p.n c, .int .u64 (p.T : Int), .int .u32 (p.l : Int), .int .u32 (p.g : Int), .int .u16 (p.u : Int), .int .u16 (p.j : Int), .int .u32 (p.F : Int), .int .u16 (p.d : Int)] 31)) := (Below.refl _ _).alloc (Nat.le_refl _) _
  clear hk hx
  go_enter Try.func10, Try.ntmps10
  go_wp2_with fail
  generalize (w.alloc (.cells #[.int .i64 2, .int .u16 (p.s : Int), .int .u16 (p.t : Int), .int .u32 (p.f : Int), .int .u16 (p.y : Int), .slice r p.n c, .int .u64 (p.T : Int), .int .u32 (p.l : Int), .int .u32 (p.g : Int), .int .u16 (p.u : Int), .int .u16 (p.j : Int), .int .u32 (p.F : Int), .int .u16 (p.d : Int)] 31)) = w1 at *
  refine (rputr_any p.T p.l p.g p.u p.j w1 o.lT o.ll o.lg o.lu o.lj).mono ?_
  rintro e w2 ⟨g, cg, rfl, -, -, B2, d2⟩
  have D2 := D1.grew d2
  have b2 := b1.trans (d2.mono b1.size)
  have q0 : w2.cell? ⟨w.heap.size, 0, none⟩ = some (.int .i64 2) := by rw [show (.int .i64 2 : Value) = .int .i64 p.k by rw [HK.out]]; exact D2.cell 0 (by decide)
  have a3 : Below w2.heap.size w2 (w2.alloc (.cells #[.int .u8 2] 5)) := (Below.refl _ _).alloc (Nat.le_refl _) _
  have O3 : Ror (w2.alloc (.cells #[.int .u8 2] 5)) w2.heap.size (.slice (some ⟨w2.heap.size, 0, none⟩) 1 1) 1 (fun _ => 2) := ror_made (one_row w2 2 5) (Nat.le_refl _) (by decide)
  obtain ⟨v4, w4, happ, O4, g4⟩ := O3.push (c := cg) (z := wire 2 (repLaid p.T p.l p.g p.u p.j)) 24 (B2.grew a3) (by omega) a3.size (wire_one 2 (repLaid p.T p.l p.g p.u p.j)) (fun i _ => (wire_succ 2 (repLaid p.T p.l p.g p.u p.j) i).symm)
  have d4 := grown_below O3 g4 a3 a3.size
  have b4 := b2.trans (d4.mono b2.size)
  obtain ⟨r4, c4, rfl, -, -, -, B4⟩ := ror_any O4 (fun i hi => wire_lt (k := 2) (by decide) B2.lt i hi)
  clear D1 b1 d2 D2 a3 O3 g4 O4 d4
  go_wp2_with (at_builtin; refine Go.Lib.wpList_append_run _ rfl (.tmp 40) (.tmp 41) 24 24 rfl _ _ rfl rfl _ _ happ ?_)
  refine (rseal_any r4 (1 + 20) c4 _ w4 B4 (by omega)).mono ?_
  rintro e w5 ⟨g5, c5, rfl, h1, h2, h3, d5⟩
  have HA : Hid (PutIs w (ptN p) (ptX p) (bE p) (.returned (.tuple #[.slice (some ⟨g5, 0, none⟩) (1 + 20 + 4) c5, .int .i64 0])) w5) := by
    obtain ⟨e1, e2, e3⟩ := b_rep HK.out
    have e3 : bE p = 0 := e3
    have e4 : p.k.toNat = 2 := by rw [HK.out]; rfl
    show PutIs _ _ _ _ _ _
    unfold ptX
    rw [ptN_yes e3, e3, e1, e2, e4]
    exact ⟨_, _, rfl, h2, fun _ => ⟨g5, rfl, Nat.le_trans b4.size h1⟩, h3, b4.trans (d5.mono b4.size)⟩
  clear h1 h2 h3 d5 b4 B4 happ q0 B2 b2
  go_wp2
  go_ret2
  exact HA.out

set_option maxRecDepth 100000 in
set_option maxHeartbeats 1000000 in
theorem rpack_nack (p : Pk) (r : Option Addr) (c : Nat) (w : World) (o : p.Ok) (hx : BytesAt w r p.n p.x) (hk : p.k = 3) :
    Calls Try.prog 10 #[.agg #[.int .i64 p.k, .int .u16 (p.s : Int), .int .u16 (p.t : Int), .int .u32 (p.f : Int), .int .u16 (p.y : Int), .slice r p.n c, .int .u64 (p.T : Int), .int .u32 (p.l : Int), .int .u32 (p.g : Int), .int .u16 (p.u : Int), .int .u16 (p.j : Int), .int .u32 (p.F : Int), .int .u16 (p.d : Int)]] w fun e w' => PutIs w (ptN p) (ptX p) (bE p) e w' := by
  have HK : Hid (p.k = 3) := hk
  have HX : Hid (BytesAt w r p.n p.x) := hx
  rw [hk]
  have D1 : PkAt (w.alloc (.cells #[.int .i64 3, .int .u16 (p.s : Int), .int .u16 (p.t : Int), .int .u32 (p.f : Int), .int .u16 (p.y : Int), .slice r p.n c, .int .u64 (p.T : Int), .int .u32 (p.l : Int), .int .u32 (p.g : Int), .int .u16 (p.u : Int), .int .u16 (p.j : Int), .int .u32 (p.F : Int), .int .u16 (p.d : Int)] 31)) w.heap.size p r c := by
    have := PkAt.made w 31 p r c
    rwa [hk] at this
  have b1 : Below w.heap.size w (w.alloc (.cells #[.int .i64 3, .int .u16 (p.s : Int), .int .u16 (p.t : Int), .int .u32 (p.f : Int), .int .u16 (p.y : Int), .slice r p.n c, .int .u64 (p.T : Int), .int .u32 (p.l : Int), .int .u32 (p.g : Int), .int .u16 (p.u : Int), .int .u16 (p.j : Int), .int .u32 (p.F : Int), .int .u16 (p.d : Int)] 31)) := (Below.refl _ _).alloc (Nat.le_refl _) _
  clear hk hx
  go_enter Try.func10, Try.ntmps10
  go_wp2_with fail
  generalize (w.alloc (.cells #[.int .i64 3, .int .u16 (p.s : Int), .int .u16 (p.t : Int), .int .u32 (p.f : Int), .int .u16 (p.y : Int), .slice r p.n c, .int .u64 (p.T : Int), .int .u32 (p.l : Int), .int .u32 (p.g : Int), .int .u16 (p.u : Int), .int .u16 (p.j : Int), .int .u32 (p.F : Int), .int .u16 (p.d : Int)] 31)) = w1 at *
  refine (rputn_any p.F p.d w1 o.lF o.ld).mono ?_
  rintro e w2 ⟨g, cg, rfl, -, -, B2, d2⟩
  have D2 := D1.grew d2
  have b2 := b1.trans (d2.mono b1.size)
  have q0 : w2.cell? ⟨w.heap.size, 0, none⟩ = some (.int .i64 3) := by rw [show (.int .i64 3 : Value) = .int .i64 p.k by rw [HK.out]]; exact D2.cell 0 (by decide)
  have a3 : Below w2.heap.size w2 (w2.alloc (.cells #[.int .u8 3] 5)) := (Below.refl _ _).alloc (Nat.le_refl _) _
  have O3 : Ror (w2.alloc (.cells #[.int .u8 3] 5)) w2.heap.size (.slice (some ⟨w2.heap.size, 0, none⟩) 1 1) 1 (fun _ => 3) := ror_made (one_row w2 3 5) (Nat.le_refl _) (by decide)
  obtain ⟨v4, w4, happ, O4, g4⟩ := O3.push (c := cg) (z := wire 3 (nackLaid p.F p.d)) 24 (B2.grew a3) (by omega) a3.size (wire_one 3 (nackLaid p.F p.d)) (fun i _ => (wire_succ 3 (nackLaid p.F p.d) i).symm)
  have d4 := grown_below O3 g4 a3 a3.size
  have b4 := b2.trans (d4.mono b2.size)
  obtain ⟨r4, c4, rfl, -, -, -, B4⟩ := ror_any O4 (fun i hi => wire_lt (k := 3) (by decide) B2.lt i hi)
  clear D1 b1 d2 D2 a3 O3 g4 O4 d4
  go_wp2_with (at_builtin; refine Go.Lib.wpList_append_run _ rfl (.tmp 40) (.tmp 41) 24 24 rfl _ _ rfl rfl _ _ happ ?_)
  refine (rseal_any r4 (1 + 6) c4 _ w4 B4 (by omega)).mono ?_
  rintro e w5 ⟨g5, c5, rfl, h1, h2, h3, d5⟩
  have HA : Hid (PutIs w (ptN p) (ptX p) (bE p) (.returned (.tuple #[.slice (some ⟨g5, 0, none⟩) (1 + 6 + 4) c5, .int .i64 0])) w5) := by
    obtain ⟨e1, e2, e3⟩ := b_nack HK.out
    have e3 : bE p = 0 := e3
    have e4 : p.k.toNat = 3 := by rw [HK.out]; rfl
    show PutIs _ _ _ _ _ _
    unfold ptX
    rw [ptN_yes e3, e3, e1, e2, e4]
    exact ⟨_, _, rfl, h2, fun _ => ⟨g5, rfl, Nat.le_trans b4.size h1⟩, h3, b4.trans (d5.mono b4.size)⟩
  clear h1 h2 h3 d5 b4 B4 happ q0 B2 b2
  go_wp2
  go_ret2
  exact HA.out

set_option maxRecDepth 100000 in
set_option maxHeartbeats 1000000 in
theorem rpack_gone (p : Pk) (r : Option Addr) (c : Nat) (w : World) (o : p.Ok) (hx : BytesAt w r p.n p.x) (hk : p.k = 4) :
    Calls Try.prog 10 #[.agg #[.int .i64 p.k, .int .u16 (p.s : Int), .int .u16 (p.t : Int), .int .u32 (p.f : Int), .int .u16 (p.y : Int), .slice r p.n c, .int .u64 (p.T : Int), .int .u32 (p.l : Int), .int .u32 (p.g : Int), .int .u16 (p.u : Int), .int .u16 (p.j : Int), .int .u32 (p.F : Int), .int .u16 (p.d : Int)]] w fun e w' => PutIs w (ptN p) (ptX p) (bE p) e w' := by
  have HK : Hid (p.k = 4) := hk
  have lF := o.lF
  have HX : Hid (BytesAt w r p.n p.x) := hx
  rw [hk]
  have D1 : PkAt (w.alloc (.cells #[.int .i64 4, .int .u16 (p.s : Int), .int .u16 (p.t : Int), .int .u32 (p.f : Int), .int .u16 (p.y : Int), .slice r p.n c, .int .u64 (p.T : Int), .int .u32 (p.l : Int), .int .u32 (p.g : Int), .int .u16 (p.u : Int), .int .u16 (p.j : Int), .int .u32 (p.F : Int), .int .u16 (p.d : Int)] 31)) w.heap.size p r c := by
    have := PkAt.made w 31 p r c
    rwa [hk] at this
  have b1 : Below w.heap.size w (w.alloc (.cells #[.int .i64 4, .int .u16 (p.s : Int), .int .u16 (p.t : Int), .int .u32 (p.f : Int), .int .u16 (p.y : Int), .slice r p.n c, .int .u64 (p.T : Int), .int .u32 (p.l : Int), .int .u32 (p.g : Int), .int .u16 (p.u : Int), .int .u16 (p.j : Int), .int .u32 (p.F : Int), .int .u16 (p.d : Int)] 31)) := (Below.refl _ _).alloc (Nat.le_refl _) _
  clear hk hx
  go_enter Try.func10, Try.ntmps10
  go_wp2_with fail
  generalize (w.alloc (.cells #[.int .i64 4, .int .u16 (p.s : Int), .int .u16 (p.t : Int), .int .u32 (p.f : Int), .int .u16 (p.y : Int), .slice r p.n c, .int .u64 (p.T : Int), .int .u32 (p.l : Int), .int .u32 (p.g : Int), .int .u16 (p.u : Int), .int .u16 (p.j : Int), .int .u32 (p.F : Int), .int .u16 (p.d : Int)] 31)) = w1 at *
  refine (high_any p.F 4 w1 (by omega) (by decide)).mono ?_
  rintro e w2 ⟨rfl, R2, d2⟩
  have B2 : BytesAt w2 (some ⟨w1.heap.size, 0, none⟩) 4 (goneLaid p.F) := row_bytes' R2 (fun i _ => (goneLaid_is p.F i).symm) (fun i _ => goneLaid_lt p.F i)
  have D2 := D1.grew d2
  have b2 := b1.trans (d2.mono b1.size)
  have q0 : w2.cell? ⟨w.heap.size, 0, none⟩ = some (.int .i64 4) := by rw [show (.int .i64 4 : Value) = .int .i64 p.k by rw [HK.out]]; exact D2.cell 0 (by decide)
  have a3 : Below w2.heap.size w2 (w2.alloc (.cells #[.int .u8 4] 5)) := (Below.refl _ _).alloc (Nat.le_refl _) _
  have O3 : Ror (w2.alloc (.cells #[.int .u8 4] 5)) w2.heap.size (.slice (some ⟨w2.heap.size, 0, none⟩) 1 1) 1 (fun _ => 4) := ror_made (one_row w2 4 5) (Nat.le_refl _) (by decide)
  obtain ⟨v4, w4, happ, O4, g4⟩ := O3.push (c := 4) (z := wire 4 (goneLaid p.F)) 24 (B2.grew a3) (by omega) a3.size (wire_one 4 (goneLaid p.F)) (fun i _ => (wire_succ 4 (goneLaid p.F) i).symm)
  have d4 := grown_below O3 g4 a3 a3.size
  have b4 := b2.trans (d4.mono b2.size)
  obtain ⟨r4, c4, rfl, -, -, -, B4⟩ := ror_any O4 (fun i hi => wire_lt (k := 4) (by decide) B2.lt i hi)
  clear D1 b1 d2 D2 a3 O3 g4 O4 d4
  go_wp2_with (at_builtin; refine Go.Lib.wpList_append_run _ rfl (.tmp 40) (.tmp 41) 24 24 rfl _ _ rfl rfl _ _ happ ?_)
  refine (rseal_any r4 (1 + 4) c4 _ w4 B4 (by omega)).mono ?_
  rintro e w5 ⟨g5, c5, rfl, h1, h2, h3, d5⟩
  have HA : Hid (PutIs w (ptN p) (ptX p) (bE p) (.returned (.tuple #[.slice (some ⟨g5, 0, none⟩) (1 + 4 + 4) c5, .int .i64 0])) w5) := by
    obtain ⟨e1, e2, e3⟩ := b_gone HK.out
    have e3 : bE p = 0 := e3
    have e4 : p.k.toNat = 4 := by rw [HK.out]; rfl
    show PutIs _ _ _ _ _ _
    unfold ptX
    rw [ptN_yes e3, e3, e1, e2, e4]
    exact ⟨_, _, rfl, h2, fun _ => ⟨g5, rfl, Nat.le_trans b4.size h1⟩, h3, b4.trans (d5.mono b4.size)⟩
  clear h1 h2 h3 d5 b4 B4 happ q0 B2 b2
  go_wp2
  go_ret2
  exact HA.out

set_option maxRecDepth 100000 in
set_option maxHeartbeats 1000000 in
theorem rpack_unfit (p : Pk) (r : Option Addr) (c : Nat) (w : World) (hk : p.k = 1) (h : ¬ (1 ≤ p.n ∧ p.n ≤ 64)) :
    Calls Try.prog 10 #[.agg #[.int .i64 p.k, .int .u16 (p.s : Int), .int .u16 (p.t : Int), .int .u32 (p.f : Int), .int .u16 (p.y : Int), .slice r p.n c, .int .u64 (p.T : Int), .int .u32 (p.l : Int), .int .u32 (p.g : Int), .int .u16 (p.u : Int), .int .u16 (p.j : Int), .int .u32 (p.F : Int), .int .u16 (p.d : Int)]] w fun e w' => PutIs w (ptN p) (ptX p) (bE p) e w' := by
  have hT : bE p = 4 := (b_data hk).2.2.trans (put_unfit (fit_no h)).2
  have hE : bE p ≠ 0 := by rw [hT]; decide
  have b1 : Below w.heap.size w (w.alloc (.cells #[.int .i64 1, .int .u16 (p.s : Int), .int .u16 (p.t : Int), .int .u32 (p.f : Int), .int .u16 (p.y : Int), .slice r p.n c, .int .u64 (p.T : Int), .int .u32 (p.l : Int), .int .u32 (p.g : Int), .int .u16 (p.u : Int), .int .u16 (p.j : Int), .int .u32 (p.F : Int), .int .u16 (p.d : Int)] 31)) := (Below.refl _ _).alloc (Nat.le_refl _) _
  rw [hk]
  clear hk
  go_enter Try.func10, Try.ntmps10
  go_wp2_with fail
  generalize (w.alloc (.cells #[.int .i64 1, .int .u16 (p.s : Int), .int .u16 (p.t : Int), .int .u32 (p.f : Int), .int .u16 (p.y : Int), .slice r p.n c, .int .u64 (p.T : Int), .int .u32 (p.l : Int), .int .u32 (p.g : Int), .int .u16 (p.u : Int), .int .u16 (p.j : Int), .int .u32 (p.F : Int), .int .u16 (p.d : Int)] 31)) = w1 at *
  refine (rput_no p.s p.t p.f p.y r p.n c w1 h (fun _ => 0)).mono ?_
  rintro e w2 ⟨r2, c2, rfl, -, -, -, d2⟩
  have HA : Hid (PutIs w (ptN p) (ptX p) (bE p) (.returned (.tuple #[.slice none 0 0, .int .i64 4])) w2) := by
    show PutIs _ _ _ _ _ _
    rw [ptN_no hE, hT]
    exact PutIs.nothing (b1.trans (d2.mono b1.size))
  clear hT hE
  go_wp2
  go_ret2
  exact HA.out

set_option maxRecDepth 100000 in
set_option maxHeartbeats 1000000 in
theorem rpack_kind (p : Pk) (r : Option Addr) (c : Nat) (w : World) (h : ¬ (1 ≤ p.k ∧ p.k ≤ 4)) :
    Calls Try.prog 10 #[.agg #[.int .i64 p.k, .int .u16 (p.s : Int), .int .u16 (p.t : Int), .int .u32 (p.f : Int), .int .u16 (p.y : Int), .slice r p.n c, .int .u64 (p.T : Int), .int .u32 (p.l : Int), .int .u32 (p.g : Int), .int .u16 (p.u : Int), .int .u16 (p.j : Int), .int .u32 (p.F : Int), .int .u16 (p.d : Int)]] w fun e w' => PutIs w (ptN p) (ptX p) (bE p) e w' := by
  have hT : bE p = 1 := b_other h
  have hE : bE p ≠ 0 := by rw [hT]; decide
  have i1 : (p.k == 1) = false := by simp; omega
  have i2 : (p.k == 2) = false := by simp; omega
  have i3 : (p.k == 3) = false := by simp; omega
  have i4 : (p.k == 4) = false := by simp; omega
  have HA : Hid (PutIs w (ptN p) (ptX p) (bE p) (.returned (.tuple #[.slice none 0 0, .int .i64 1])) (w.alloc (.cells #[.int .i64 p.k, .int .u16 (p.s : Int), .int .u16 (p.t : Int), .int .u32 (p.f : Int), .int .u16 (p.y : Int), .slice r p.n c, .int .u64 (p.T : Int), .int .u32 (p.l : Int), .int .u32 (p.g : Int), .int .u16 (p.u : Int), .int .u16 (p.j : Int), .int .u32 (p.F : Int), .int .u16 (p.d : Int)] 31))) := by
    show PutIs _ _ _ _ _ _
    rw [ptN_no hE, hT]
    exact PutIs.nothing ((Below.refl _ _).alloc (Nat.le_refl _) _)
  clear hT hE h
  go_enter Try.func10, Try.ntmps10
  go_wp2
  go_ret2
  exact HA.out

theorem rpack_any (p : Pk) (r : Option Addr) (c : Nat) (w : World) (o : p.Ok) (hx : BytesAt w r p.n p.x) :
    Calls Try.prog 10 #[.agg #[.int .i64 p.k, .int .u16 (p.s : Int), .int .u16 (p.t : Int), .int .u32 (p.f : Int), .int .u16 (p.y : Int), .slice r p.n c, .int .u64 (p.T : Int), .int .u32 (p.l : Int), .int .u32 (p.g : Int), .int .u16 (p.u : Int), .int .u16 (p.j : Int), .int .u32 (p.F : Int), .int .u16 (p.d : Int)]] w fun e w' => PutIs w (ptN p) (ptX p) (bE p) e w' := by
  by_cases k1 : p.k = 1
  · by_cases h : 1 ≤ p.n ∧ p.n ≤ 64
    · exact rpack_data p r c w o hx k1 h.1 h.2
    · exact rpack_unfit p r c w k1 h
  by_cases k2 : p.k = 2
  · exact rpack_rep p r c w o hx k2
  by_cases k3 : p.k = 3
  · exact rpack_nack p r c w o hx k3
  by_cases k4 : p.k = 4
  · exact rpack_gone p r c w o hx k4
  exact rpack_kind p r c w (by omega)
end Go.Proofs.Ytcflaklnafggmaa
