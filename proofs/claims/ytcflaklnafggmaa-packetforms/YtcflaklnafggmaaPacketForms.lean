/-
  Which sealed bytes package packet takes as packets, which packets it does not put, and some sizes: the call returns true (a closed statement; no condition).
-/
import Derived.Test.YtcflaklnafggmaaRows
import Derived.WalkKit
import Derived.ProofKit
import Derived.OpenShut
import Derived.ShutString
import Derived.Test.YtcflaklnafggmaaPbg
import Derived.Test.YtcflaklnafggmaaRse
import Derived.Lib.ConvBytes
import Derived.ChangeOld
import Derived.Below
namespace Go.Proofs.Ytcflaklnafggmaa.packetForms
open Go.ChangeShapes Go.WideShapes Go.ChangeAt Go.RowKit
open Go.ChangeMaps (open_string shut_string)
set_option linter.unusedVariables false      -- a walk need not use every 'w<i>' (that an integer argument fits its kind)

theorem own : ownKnob Try.prog.godebug = none := by kernel_rfl

open Go.Deep

/-- Text k, and whether it is a packet. -/
def txt : Nat → ByteArray
  | 0 => ⟨#[]⟩
  | 1 => ⟨#[0]⟩
  | 2 => ⟨#[1]⟩
  | 3 => ⟨#[1, 0, 0, 0, 0, 0, 0, 0, 0, 0, 0]⟩
  | 4 => ⟨#[1, 0, 0, 0, 0, 0, 0, 0, 0, 0, 0, 5]⟩
  | 5 => ⟨#[2]⟩
  | 6 => ⟨#[3, 0, 0, 0, 1, 0, 2]⟩
  | 7 => ⟨#[3, 0, 0, 0, 1, 0]⟩
  | 8 => ⟨#[4, 0, 0, 0, 1]⟩
  | 9 => ⟨#[4, 0, 0, 0, 1, 0]⟩
  | _ => ⟨#[5, 0, 0, 0, 1]⟩
def gd (k : Nat) : Nat := ([110, 110, 110, 110, 121, 110, 121, 110, 121, 110, 110] : List Nat).getD k 0
def tb (s : ByteArray) (j : Nat) : Nat := (s.data.toList.getD j 0).toNat
theorem tb_lt (s : ByteArray) (j : Nat) : tb s j < 256 := UInt8.toNat_lt _
theorem text_bytes (w : World) (s : ByteArray) : ∃ c w', (convert 9 24 (.string s)).run Try.prog w = .ok (.slice (some ⟨w.heap.size, 0, none⟩) s.size c) w' ∧ BytesAt w' (some ⟨w.heap.size, 0, none⟩) s.size (tb s) ∧ Below w.heap.size w w' := by
  refine ⟨_, _, Go.Lib.run_convert_string_bytes w _ _ _ s Try.underlying9 Try.underlying24 Try.underlying5, ⟨fun _ => ⟨_, 0, rfl, fun i hi => ?_⟩, fun i _ => tb_lt s i⟩, ⟨rfl, rfl, rfl, ?_, ?_⟩⟩
  · rw [Nat.zero_add]; exact Go.Lib.bytesWorld_cell w _ s i hi
  · rw [Go.Lib.bytesWorld_size]; exact Nat.le_succ _
  · exact fun k hk => Go.Lib.bytesWorld_at_old w _ s k hk
theorem good_get (k : Nat) (h : k < 11) : ∀ w : World, (Instr.index 9 (.string { data := #[110, 110, 110, 110, 121, 110, 121, 110, 121, 110, 110] }) (.int .i64 (k : Int))).run Try.prog w = .ok (.int .u8 (gd k : Int)) w := by
  match k, h with
  | 0, _ => intro w; kernel_rfl
  | 1, _ => intro w; kernel_rfl
  | 2, _ => intro w; kernel_rfl
  | 3, _ => intro w; kernel_rfl
  | 4, _ => intro w; kernel_rfl
  | 5, _ => intro w; kernel_rfl
  | 6, _ => intro w; kernel_rfl
  | 7, _ => intro w; kernel_rfl
  | 8, _ => intro w; kernel_rfl
  | 9, _ => intro w; kernel_rfl
  | 10, _ => intro w; kernel_rfl
theorem tk_of {L m kd : Nat} {x : Nat → Nat} (hN : opN x L = m + 1) (h0 : x 0 = kd) : tkP L x = inP kd m (fun i => x (1 + i)) := by rw [tk_in hN, h0]
/-- A text that is sealed opens. -/
theorem seal_opens (s : ByteArray) : opB (Crc.seald (tb s) s.size) (s.size + 4) = true ∧ opN (Crc.seald (tb s) s.size) (s.size + 4) = s.size := op_yes (Crc.ok_seal fun i _ => tb_lt s i)
theorem sealed_zero (s : ByteArray) (h : 0 < s.size) : Crc.seald (tb s) s.size 0 = tb s 0 := by unfold Crc.seald; rw [if_pos h]
theorem form_is (k : Nat) (h : k < 11) : (gd k = 121 ∧ ∃ q, tkP ((txt k).size + 4) (Crc.seald (tb (txt k)) (txt k).size) = some q) ∨ (gd k = 110 ∧ tkP ((txt k).size + 4) (Crc.seald (tb (txt k)) (txt k).size) = none) := by
  match k, h with
  | 0, _ => exact .inr ⟨rfl, tk_bare (seal_opens (txt 0)).2⟩
  | 1, _ => exact .inr ⟨rfl, (tk_of (m := 0) (kd := 0) (seal_opens (txt 1)).2 (sealed_zero (txt 1) (by decide))).trans (inP_kind (by decide))⟩
  | 2, _ => exact .inr ⟨rfl, (tk_of (m := 0) (kd := 1) (seal_opens (txt 2)).2 (sealed_zero (txt 2) (by decide))).trans (inP_data_no (tk_no (by decide)))⟩
  | 3, _ => exact .inr ⟨rfl, (tk_of (m := 10) (kd := 1) (seal_opens (txt 3)).2 (sealed_zero (txt 3) (by decide))).trans (inP_data_no (tk_no (by decide)))⟩
  | 4, _ => exact .inl ⟨rfl, _, (tk_of (m := 11) (kd := 1) (seal_opens (txt 4)).2 (sealed_zero (txt 4) (by decide))).trans (inP_data (tk_yes (by decide) (by decide)))⟩
  | 5, _ => exact .inr ⟨rfl, (tk_of (m := 0) (kd := 2) (seal_opens (txt 5)).2 (sealed_zero (txt 5) (by decide))).trans (inP_rep_no (by decide))⟩
  | 6, _ => exact .inl ⟨rfl, _, (tk_of (m := 6) (kd := 3) (seal_opens (txt 6)).2 (sealed_zero (txt 6) (by decide))).trans (inP_nack _)⟩
  | 7, _ => exact .inr ⟨rfl, (tk_of (m := 5) (kd := 3) (seal_opens (txt 7)).2 (sealed_zero (txt 7) (by decide))).trans (inP_nack_no (by decide))⟩
  | 8, _ => exact .inl ⟨rfl, _, (tk_of (m := 4) (kd := 4) (seal_opens (txt 8)).2 (sealed_zero (txt 8) (by decide))).trans (inP_gone _)⟩
  | 9, _ => exact .inr ⟨rfl, (tk_of (m := 5) (kd := 4) (seal_opens (txt 9)).2 (sealed_zero (txt 9) (by decide))).trans (inP_gone_no (by decide))⟩
  | 10, _ => exact .inr ⟨rfl, (tk_of (m := 4) (kd := 5) (seal_opens (txt 10)).2 (sealed_zero (txt 10) (by decide))).trans (inP_kind (by decide))⟩
theorem txt_size (k : Nat) (h : k < 11) : (txt k).size ≤ 12 := by
  match k, h with
  | 0, _ => decide
  | 1, _ => decide
  | 2, _ => decide
  | 3, _ => decide
  | 4, _ => decide
  | 5, _ => decide
  | 6, _ => decide
  | 7, _ => decide
  | 8, _ => decide
  | 9, _ => decide
  | 10, _ => decide

set_option maxRecDepth 100000 in
set_option maxHeartbeats 2000000 in
theorem walk (w : World) :
    Calls Try.prog 6 #[] w fun e w' => e = .returned (.bool true) ∧ Below w.heap.size w w' := by
  go_enter Try.func6, Try.ntmps6
  go_wp2_with fail
  refine (begun11 _).mono ?_
  rintro e w0 ⟨rfl, b0⟩
  have V1 : Hid (VAt (w0.alloc (.cells #[.string { data := #[] }, .string { data := #[0] }, .string { data := #[1] }, .string { data := #[1, 0, 0, 0, 0, 0, 0, 0, 0, 0, 0] }, .string { data := #[1, 0, 0, 0, 0, 0, 0, 0, 0, 0, 0, 5] }, .string { data := #[2] }, .string { data := #[3, 0, 0, 0, 1, 0, 2] }, .string { data := #[3, 0, 0, 0, 1, 0] }, .string { data := #[4, 0, 0, 0, 1] }, .string { data := #[4, 0, 0, 0, 1, 0] }, .string { data := #[5, 0, 0, 0, 1] }] 9)) w0.heap.size 11 (fun k => .string (txt k))) := VAt.made fun i hi => match i, hi with
    | 0, _ => rfl
    | 1, _ => rfl
    | 2, _ => rfl
    | 3, _ => rfl
    | 4, _ => rfl
    | 5, _ => rfl
    | 6, _ => rfl
    | 7, _ => rfl
    | 8, _ => rfl
    | 9, _ => rfl
    | 10, _ => rfl
  have b1 : Hid (Below w.heap.size w (w0.alloc (.cells #[.string { data := #[] }, .string { data := #[0] }, .string { data := #[1] }, .string { data := #[1, 0, 0, 0, 0, 0, 0, 0, 0, 0, 0] }, .string { data := #[1, 0, 0, 0, 0, 0, 0, 0, 0, 0, 0, 5] }, .string { data := #[2] }, .string { data := #[3, 0, 0, 0, 1, 0, 2] }, .string { data := #[3, 0, 0, 0, 1, 0] }, .string { data := #[4, 0, 0, 0, 1] }, .string { data := #[4, 0, 0, 0, 1, 0] }, .string { data := #[5, 0, 0, 0, 1] }] 9))) := b0.alloc b0.size _
  clear b0
  go_wp2_with fail
  generalize (w0.alloc (.cells #[.string { data := #[] }, .string { data := #[0] }, .string { data := #[1] }, .string { data := #[1, 0, 0, 0, 0, 0, 0, 0, 0, 0, 0] }, .string { data := #[1, 0, 0, 0, 0, 0, 0, 0, 0, 0, 0, 5] }, .string { data := #[2] }, .string { data := #[3, 0, 0, 0, 1, 0, 2] }, .string { data := #[3, 0, 0, 0, 1, 0] }, .string { data := #[4, 0, 0, 0, 1] }, .string { data := #[4, 0, 0, 0, 1, 0] }, .string { data := #[5, 0, 0, 0, 1] }] 9)) = w1 at *
  generalize w0.heap.size = B at *
  go_loopw [3] (fun i wr => ∃ k : Nat, k ≤ 11 ∧ i = .int .i64 k ∧ VAt wr B 11 (fun k => .string (txt k)) ∧ Below w.heap.size w wr) (fun i _ => 11 - (intOf i).toNat)
  case atStart => exact ⟨0, by omega, rfl, V1.out, b1.out⟩
  case round =>
    clear V1 b1
    obtain ⟨k, hk, rfl, V, hb⟩ := hrel
    by_cases hlt : k < 11
    · have i1 : (k : Int) < 11 := by omega
      have q : wr.cell? ⟨B, k, none⟩ = some (.string (txt k)) := V.cell k hlt
      have hgd := good_get k hlt
      have HF : Hid ((gd k = 121 ∧ ∃ q, tkP ((txt k).size + 4) (Crc.seald (tb (txt k)) (txt k).size) = some q) ∨ (gd k = 110 ∧ tkP ((txt k).size + 4) (Crc.seald (tb (txt k)) (txt k).size) = none)) := form_is k hlt
      have HO : Hid (opB (Crc.seald (tb (txt k)) (txt k).size) ((txt k).size + 4) = true) := (seal_opens (txt k)).1
      have lS : (txt k).size ≤ 12 := txt_size k hlt
      obtain ⟨c2, w2, hcv, B2, d2⟩ := text_bytes wr (txt k)
      have V2 : Hid (VAt w2 B 11 (fun k => .string (txt k))) := V.grew (N := 10) d2
      have b2 : Hid (Below w.heap.size w w2) := hb.trans (d2.mono hb.size)
      generalize (txt k).size = n at *
      generalize tb (txt k) = x at *
      generalize txt k = s at *
      generalize gd k = g at *
      have HB2 : Hid (BytesAt w2 (some ⟨wr.heap.size, 0, none⟩) n x) := B2
      clear B2 V hb d2 hk
      go_wp2_with fail
      clear q hcv
      refine (rseal_any _ n c2 x w2 HB2.out (by omega)).mono ?_
      rintro e w3 ⟨g3, c3', rfl, -, k3, B3, d3⟩
      have V3 := V2.out.grew (N := 10) d3
      have b3 := b2.out.trans (d3.mono b2.out.size)
      clear HB2 V2 b2 d3
      go_wp2_with fail
      refine (packtake_any _ (n + 4) c3' _ w3 B3 k3 (by omega)).mono ?_
      intro e w4 h4
      have h4 : PkIs w3 (pkOf (tkP (n + 4) (Crc.seald x n))) (erOf (tkP (n + 4) (Crc.seald x n))) e w4 := by
        have h4 : PkIs w3 (pkOf (tkP (n + 4) (Crc.seald x n))) (tkErr (n + 4) (Crc.seald x n)) e w4 := h4
        rwa [tk_open HO.out] at h4
      clear B3 k3 HO
      rcases HF.out with ⟨rfl, q, hq⟩ | ⟨rfl, hq⟩
      · rw [hq] at h4
        obtain ⟨r3, c3, rfl, -, -, -, d4⟩ := h4
        have V4 := V3.grew (N := 10) d4
        have b4 := b3.trans (d4.mono b3.size)
        have a5 : Below w4.heap.size w4 (w4.alloc (.cells #[.int .i64 q.k, .int .u16 (q.s : Int), .int .u16 (q.t : Int), .int .u32 (q.f : Int), .int .u16 (q.y : Int), .slice r3 q.n c3, .int .u64 (q.T : Int), .int .u32 (q.l : Int), .int .u32 (q.g : Int), .int .u16 (q.u : Int), .int .u16 (q.j : Int), .int .u32 (q.F : Int), .int .u16 (q.d : Int)] 31)) := (Below.refl _ _).alloc (Nat.le_refl _) _
        have HA : Hid (VAt (w4.alloc (.cells #[.int .i64 q.k, .int .u16 (q.s : Int), .int .u16 (q.t : Int), .int .u32 (q.f : Int), .int .u16 (q.y : Int), .slice r3 q.n c3, .int .u64 (q.T : Int), .int .u32 (q.l : Int), .int .u32 (q.g : Int), .int .u16 (q.u : Int), .int .u16 (q.j : Int), .int .u32 (q.F : Int), .int .u16 (q.d : Int)] 31)) B 11 (fun k => .string (txt k)) ∧ Below w.heap.size w (w4.alloc (.cells #[.int .i64 q.k, .int .u16 (q.s : Int), .int .u16 (q.t : Int), .int .u32 (q.f : Int), .int .u16 (q.y : Int), .slice r3 q.n c3, .int .u64 (q.T : Int), .int .u32 (q.l : Int), .int .u32 (q.g : Int), .int .u16 (q.u : Int), .int .u16 (q.j : Int), .int .u32 (q.F : Int), .int .u16 (q.d : Int)] 31))) := ⟨V4.grew (N := 10) a5, b4.trans (a5.mono b4.size)⟩
        have hE : ((erOf (some q) : Nat) : Int) = 0 := rfl
        rw [hE]
        clear V3 b3 d4 V4 b4 a5 HF hq hE
        go_wp2_with fail
        go_roundw
        case rel => exact ⟨k + 1, by omega, by go_num, HA.out⟩
        case measure => simp [intOf]; omega
      · rw [hq] at h4
        obtain ⟨r3, c3, rfl, d4⟩ := PkIs.nought h4
        have V4 := V3.grew (N := 10) d4
        have b4 := b3.trans (d4.mono b3.size)
        have a5 : Below w4.heap.size w4 (w4.alloc (.cells #[.int .i64 0, .int .u16 0, .int .u16 0, .int .u32 0, .int .u16 0, .slice r3 0 c3, .int .u64 0, .int .u32 0, .int .u32 0, .int .u16 0, .int .u16 0, .int .u32 0, .int .u16 0] 31)) := (Below.refl _ _).alloc (Nat.le_refl _) _
        have HA : Hid (VAt (w4.alloc (.cells #[.int .i64 0, .int .u16 0, .int .u16 0, .int .u32 0, .int .u16 0, .slice r3 0 c3, .int .u64 0, .int .u32 0, .int .u32 0, .int .u16 0, .int .u16 0, .int .u32 0, .int .u16 0] 31)) B 11 (fun k => .string (txt k)) ∧ Below w.heap.size w (w4.alloc (.cells #[.int .i64 0, .int .u16 0, .int .u16 0, .int .u32 0, .int .u16 0, .slice r3 0 c3, .int .u64 0, .int .u32 0, .int .u32 0, .int .u16 0, .int .u16 0, .int .u32 0, .int .u16 0] 31))) := ⟨V4.grew (N := 10) a5, b4.trans (a5.mono b4.size)⟩
        have hE : ((erOf none : Nat) : Int) = 2 := rfl
        rw [hE]
        clear V3 b3 d4 V4 b4 a5 HF hq hE
        go_wp2_with fail
        go_roundw
        case rel => exact ⟨k + 1, by omega, by go_num, HA.out⟩
        case measure => simp [intOf]; omega
    · obtain rfl : k = 11 := by omega
      have HB : Hid (Below w.heap.size w wr) := hb
      clear hk hb hlt V
      go_wp2_with fail
      refine (put_kind 1 wr).mono ?_
      rintro e w2 ⟨r2, c2, rfl, -, -, -, d2⟩
      have e2 : ((bE (pKind 1) : Nat) : Int) = 4 := rfl
      rw [e2]
      have b2 := HB.out.trans (d2.mono HB.out.size)
      clear e2 HB d2
      go_wp2_with fail
      refine (put_kind 0 w2).mono ?_
      rintro e w3 ⟨r3, c3, rfl, -, -, -, d3⟩
      have e3 : ((bE (pKind 0) : Nat) : Int) = 1 := rfl
      rw [e3]
      have HB : Hid (Below w.heap.size w w3) := b2.trans (d3.mono b2.size)
      clear e3 b2 d3
      go_wp2_with fail
      refine (psize_any 0 w3 (by decide) (by decide)).mono ?_
      rintro e w4 ⟨rfl, rfl⟩
      go_wp2_with fail
      refine (psize_any 64 w4 (by decide) (by decide)).mono ?_
      rintro e w5 ⟨rfl, rfl⟩
      go_wp2
      go_ret
      exact ⟨rfl, HB.out⟩

/-! ### THE ROW's STEP: WRITTEN OUT: LEAVE IT -/
set_option maxRecDepth 100000 in
theorem lifted (os : Os) (started : os.Started) (H : Type) (enc : TypeId × Value → H) :
    ReturnsInHanded {} Try.checked os 6 .any (Rows.packetFormsSpec.pre6 enc Try.prog Try.f6 Rows.packetFormsRow.domain false) (Rows.packetFormsSpec.post enc Try.prog Try.f6 false true false false) := by
  refine returnsInHanded_of_change (C := Try.checked) own started (by kernel_rfl) Try.func6
    (ChangeSpec.witness6 (enc := enc) (C := Try.checked) false ⟨#[], #[], []⟩ 8 (by kernel_rfl) (by kernel_rfl) (by kernel_rfl) (by kernel_rfl)) ?_
  intro W base args ds gs before hval0 hW hcnd _
  have hval : ∀ (j : Nat) t v, Try.f6.params[j]? = some t → args[j]? = some v → Value.okWide Try.prog W .any base t v := hval0
  have hW' := hW
  obtain ⟨p, q, hA0, hV, rfl, hfz, hnd⟩ := hW
  have hA : DataW.TrodAll enc Try.prog W 0 (fun _ => true) true Try.f6.params.toList args.toList ds p := hA0
  rw [Try.params6] at hA hval
  obtain ⟨rfl, rfl, rfl⟩ := trodAll_none hA
  obtain ⟨rfl, rfl⟩ := trodVars_none hV
  clear hA0 hval0
  simp only [List.append_nil] at hW'
  refine (walk  W).mono fun e W' ⟨he, hg⟩ => ?_
  subst he
  exact ⟨_, rfl, _, _, _, [], [], [], hW', (trodAll_cons_mk (shut_bool Try.underlying4 _) trodAll_mk0), rfl, rfl, hg.frame _, fun h => by cases h⟩

theorem over : Rows.packetFormsRow.holds Try.pinned (OpenSpec.ofChange Rows.packetFormsSpec) :=
  OpenClaim.holds_of_wide 6 Try.f6 rfl rfl rfl rfl rfl rfl rfl ⟨rfl, rfl, rfl, rfl, rfl⟩ rfl rfl rfl rfl rfl (by kernel_rfl) Try.func6 (by kernel_rfl)
    (of_decide_eq_true (by kernel_rfl)) (by unfold Func.isWrapper; first | (rw [if_pos (by decide +kernel)]; kernel_rfl) | (rw [if_neg (by decide +kernel)]; exact ⟨rfl, rfl⟩))
    (fun os started H enc _ => lifted os started H enc)

theorem proved : Rows.PacketFormsSaid :=
  over
end Go.Proofs.Ytcflaklnafggmaa.packetForms
namespace Go.Proofs.Ytcflaklnafggmaa
theorem packetForms_holds : Rows.PacketFormsSaid := packetForms.proved
#print axioms packetForms_holds
end Go.Proofs.Ytcflaklnafggmaa
