/-
  Who waits, who goes, and who is late: the statement PaceAll: the call returns true (every run of deeds).
-/
import Derived.Test.YtaikkoijoolhkaaRows
import Derived.WalkKit
import Derived.ProofKit
import Derived.OpenShut
import Derived.ShutString
import Derived.ChangeOld
import Derived.Below
import Derived.Carry
import Derived.Test.YtaikkoijoolhkaaOpn
import Derived.Test.YtaikkoijoolhkaaOpj
import Derived.Test.YtaikkoijoolhkaaPbg
import Derived.Test.YtaikkoijoolhkaaPdo
import Derived.BigQuiet
import Derived.OrdersHeld
import Derived.Deep.RegionHeld
namespace Go.Proofs.Ytaikkoijoolhkaa.paceAll
open Go.ChangeShapes Go.WideShapes Go.ChangeAt Go.RowKit
open Go.ChangeMaps (open_string shut_string)
set_option linter.unusedVariables false

theorem own : ownKnob Try.prog.godebug = none := by kernel_rfl
theorem laidOut : laidOutB Try.prog = true := by kernel_rfl

open Go.Deep

theorem both_made (w0 w : World) (b : Below w0.heap.size w0 w) (T1 T2 : TypeId) :
    Dh w0 w.heap.size (w.heap.size + 1) [] [] [] ((w.alloc (.cells #[.slice none 0 0] T1)).alloc (.cells #[.slice none 0 0] T2)) := by
  have q1 := QAt.made w w0.heap.size T1 b.size
  have hs : (w.alloc (.cells #[.slice none 0 0] T1)).heap.size = w.heap.size + 1 := by simp
  have b1 : Below w.heap.size w (w.alloc (.cells #[.slice none 0 0] T1)) := (Below.refl _ _).alloc (Nat.le_refl _) _
  have b2 : Below (w.heap.size + 1) (w.alloc (.cells #[.slice none 0 0] T1)) ((w.alloc (.cells #[.slice none 0 0] T1)).alloc (.cells #[.slice none 0 0] T2)) := by
    have := (Below.refl (w.alloc (.cells #[.slice none 0 0] T1)).heap.size (w.alloc (.cells #[.slice none 0 0] T1))).alloc (Nat.le_refl _) (.cells #[.slice none 0 0] T2)
    rwa [hs] at this
  have q2 := QAt.made (w.alloc (.cells #[.slice none 0 0] T1)) w0.heap.size T2 (by rw [hs]; have := b.size; omega)
  rw [hs] at q2
  refine ⟨⟨_, _, q1.block (fun k hk => b2.block k (by have := mem_feet.1 hk; simp [Value.ownBlock] at this; omega)), q2, fun k hk hk' => ?_, fun k hk => by simp at hk⟩, (b.trans (b1.mono b.size)).trans (b2.mono (by have := b.size; omega)), Okl.nil, Okl.nil⟩
  have h1 := mem_feet.1 hk
  have h2 := mem_feet.1 hk'
  simp [Value.ownBlock] at h1 h2
  omega

/-- A deed at H, its item's frame F. -/
structure DdAt (w : World) (H : Nat) (D : Dd) (F : Nat) : Prop where
  c0 : w.cell? ⟨H, 0, none⟩ = some (.int .i64 D.k)
  c1 : w.cell? ⟨H, 1, none⟩ = some (.int .u32 (F : Int))
  c2 : w.cell? ⟨H, 2, none⟩ = some (.int .i64 D.s)
  c3 : w.cell? ⟨H, 3, none⟩ = some (.int .i64 D.r)
  c4 : w.cell? ⟨H, 4, none⟩ = some (.int .i64 D.b)
  c5 : w.cell? ⟨H, 5, none⟩ = some (.int .i64 D.d)
  c6 : w.cell? ⟨H, 6, none⟩ = some (.int .i64 D.m)
  c7 : w.cell? ⟨H, 7, none⟩ = some (.int .i64 D.t)
theorem DdAt.made (w : World) (T : TypeId) (D : Dd) (F : Nat) : DdAt (w.alloc (.cells #[.int .i64 D.k, .int .u32 (F : Int), .int .i64 D.s, .int .i64 D.r, .int .i64 D.b, .int .i64 D.d, .int .i64 D.m, .int .i64 D.t] T)) w.heap.size D F := by
  constructor <;> (rw [World.cell?_alloc_at _ _ _ _ rfl]; rfl)
theorem DdAt.block {w w' : World} {H : Nat} {D : Dd} {F : Nat} (h : DdAt w H D F) (e : w'.heap[H]? = w.heap[H]?) : DdAt w' H D F := by
  have q : ∀ j, w'.cell? ⟨H, j, none⟩ = w.cell? ⟨H, j, none⟩ := fun j => World.cell?_of_block (a := ⟨H, j, none⟩) e
  exact ⟨(q 0).trans h.c0, (q 1).trans h.c1, (q 2).trans h.c2, (q 3).trans h.c3, (q 4).trans h.c4, (q 5).trans h.c5, (q 6).trans h.c6, (q 7).trans h.c7⟩
/-- Which deed it is. -/
theorem tag_at (z : Int) : ∃ R Y T : Int, z.tmod 9 = R ∧ wrap64 (R + 9) = Y ∧ Y.tmod 9 = T ∧ (T = 0 ∨ T = 1 ∨ T = 2 ∨ T = 3 ∨ T = 4 ∨ T = 5 ∨ T = 6 ∨ T = 7 ∨ T = 8) := by
  have h1 := Int.lt_tmod_of_pos z (show (0 : Int) < 9 by decide)
  have h2 := Int.tmod_lt_of_pos z (show (0 : Int) < 9 by decide)
  have e : wrap64 (z.tmod 9 + 9) = z.tmod 9 + 9 := by unfold wrap64; omega
  have h3 := Int.lt_tmod_of_pos (z.tmod 9 + 9) (show (0 : Int) < 9 by decide)
  have h4 := Int.tmod_lt_of_pos (z.tmod 9 + 9) (show (0 : Int) < 9 by decide)
  have h5 : 0 ≤ (z.tmod 9 + 9).tmod 9 := Int.tmod_nonneg _ (by omega)
  exact ⟨_, _, _, rfl, e, rfl, by omega⟩

set_option maxRecDepth 100000 in
set_option maxHeartbeats 16000000 in
theorem walk (a : Option Addr) (n c : Nat) (K : Nat → Dd) (w : World) (hK : DdsAt w a n K ∧ n ≤ c ∧ c ≤ maxLen) :
    Calls Try.prog 3 #[.slice a n c] w fun e w' => e = .returned (.bool true) ∧ Below w.heap.size w w' := by
  obtain ⟨hK, hc1, hc2⟩ := hK
  have hB : Hid (Calls Try.prog 8 #[] w fun e w' => e = .returned (.bool true) ∧ Below w.heap.size w w') := begun22 w
  have HK : Hid (DdsAt w a n K) := hK
  have hn64 : (n : Int) ≤ 9223372036854775807 := by unfold maxLen at hc2; omega
  clear hK hc1 hc2
  by_cases h50 : 50 < n
  · have i1 : (50 : Int) < (n : Int) := by omega
    clear h50
    go_enter Try.func3, Try.ntmps3
    go_wp2_with fail
    refine hB.out.mono ?_
    rintro e w1 ⟨rfl, b1⟩
    have HB : Hid (Below w.heap.size w w1) := b1
    clear b1 hB
    go_wp2
    go_ret
    exact ⟨rfl, HB.out⟩
  have i1 : decide ((50 : Int) < (n : Int)) = false := by simp; omega
  have hn : n ≤ 50 := by omega
  clear h50 hn64
  go_enter Try.func3, Try.ntmps3
  go_wp2_with fail
  refine hB.out.mono ?_
  rintro e w1 ⟨rfl, b1⟩
  obtain ⟨B1, hB1⟩ : ∃ B, w1.heap.size = B := ⟨_, rfl⟩
  obtain ⟨x1, e1⟩ : ∃ x, w1.alloc (.cells #[.slice none 0 0] 55) = x := ⟨_, rfl⟩
  obtain ⟨x2, e2⟩ : ∃ x, x1.alloc (.cells #[.slice none 0 0] 29) = x := ⟨_, rfl⟩
  have hs1 : x1.heap.size = B1 + 1 := by rw [← e1]; simp [hB1]
  have HD : Hid (Dh w B1 (B1 + 1) [] [] [] x2) := by
    rw [← e2, ← e1, ← hB1]
    exact both_made w w1 b1 _ _
  have HN : Hid (Calls Try.prog 9 #[] w1 fun e w' => e = .returned (.pointer (some ⟨B1, 0, none⟩)) ∧ w' = x1) := by
    rw [← hB1, ← e1]
    exact pnew_any w1
  clear hB b1 hB1 e1
  go_wp2_with fail
  refine HN.out.mono ?_
  rintro e w' ⟨rfl, hw⟩
  subst w'
  clear HN
  go_wp2_with fail
  clear e2 hs1
  go_loopw [5] (fun i wr => ∃ (k : Nat) (l : List It), k ≤ n ∧ i = .int .i64 (k : Int) ∧ Hid (Dh w B1 (B1 + 1) l l [] wr)) (fun i _ => n - (intOf i).toNat)
  case atStart => exact ⟨0, [], Nat.zero_le _, rfl, HD⟩
  case round =>
    obtain ⟨k, l, hk, rfl, hd⟩ := hrel
    clear HD
    by_cases h : k < n
    · have i2 : (k : Int) < (n : Int) := by omega
      obtain ⟨ab, ao, rfl, hc⟩ := (HK.out.below hd.out.bel (Nat.le_refl _)) (by omega)
      obtain ⟨c0, c1, c2, c3, c4, c5, c6, c7, h1, h2, h3⟩ := hc k h
      clear hc
      generalize K k = D at *
      obtain ⟨F, hFe⟩ : ∃ F : Nat, D.f = (F : Int) := ⟨D.f.toNat, by omega⟩
      rw [hFe] at c1 h1
      have hF : F < 4294967296 := by omega
      obtain ⟨R, Y, T, hR, hY, hT, hTs⟩ := tag_at D.k
      obtain ⟨V0, e0⟩ : ∃ x, wr.alloc (.cells #[.int .i64 D.k, .int .u32 (F : Int), .int .i64 D.s, .int .i64 D.r, .int .i64 D.b, .int .i64 D.d, .int .i64 D.m, .int .i64 D.t] 34) = x := ⟨_, rfl⟩
      obtain ⟨H, hH⟩ : ∃ H, wr.heap.size = H := ⟨_, rfl⟩
      have B0 : Below wr.heap.size wr V0 := e0 ▸ (Below.refl _ _).alloc (Nat.le_refl _) _
      have D0 : DdAt V0 H D F := by rw [← e0, ← hH]; exact DdAt.made wr _ D F
      have HL : H < V0.heap.size := cell_lt D0.c0
      have HD0 : Hid (Dh w B1 (B1 + 1) l l [H] V0) := hd.out.new B0 (Nat.le_of_eq hH) HL
      have HOK : Hid (Okl l) := hd.out.ok1
      obtain ⟨d0, d1, d2, d3, d4, d5, d6, d7⟩ := id D0
      have HDD : Hid (DdAt V0 H D F) := D0
      clear hd HL B0 D0 h1 h3 hFe
      go_upto_region 13 with fail
      clear c0 c1 c2 c3 c4 c5 c6 c7 e0 d0 d1 d2 d3 d4 d5 d6 d7 hH
      rename_i Qr K3 A3 K2' A2 K1 A1 K0 A0
      have TAIL : Hid (∀ {s2 s6 s7 s8 s9 s19 s20 s21 s22 s23 s24 s25 s26 s27 s28 s29 s30 s31 s32 s33 s34 s35 s36 s37 s38 s39 s40 s41 s42 s43 s44 s45 s46 s47 s48 s49 s50 s51 s52 s53 s54 s55 s56 s57 s58 s59 s60 s61 s62 s63 s64 s65 s66 s67 s68 s69 s70 s71 s72 s73 s74 s75 s76 s77 s78 s79 s80 s81 s82 s83 s84 s85 s86 s87 s88 s89 s90 s91 s92 s93 s94 s95 s96 s97 s98 s99 s100 s101 s102 s103 s104 s105 s106 s107 s108 s109 s110 s111 s112 s113 s114 s115 s116 s117 s118 s119 s120 s121 s122 s123 s124 s125 s126 s127 s128 s129 s130 s131 s132 s133 s134 s135 s136 s137 s138 s139 s140 s141 s142 : Value} {wc : World} {l2 : List It}, Hid (Dh w B1 (B1 + 1) l2 l2 [] wc) → K2' ⟨#[.slice (some ⟨ab, ao, none⟩) n c, undef, s2, .pointer (some ⟨B1, 0, none⟩), .pointer (some ⟨B1 + 1, 0, none⟩), .int .i64 (k : Int), s6, s7, s8, s9, undef, .bool true, .bool false, .slice (some ⟨ab, ao, none⟩) n c, .int .i64 (n : Int), .bool false, .pointer (some ⟨B1, 0, none⟩), .agg #[.slice none 0 0], .pointer (some ⟨B1 + 1, 0, none⟩), s19, s20, s21, s22, s23, s24, s25, s26, s27, s28, s29, s30, s31, s32, s33, s34, s35, s36, s37, s38, s39, s40, s41, s42, s43, s44, s45, s46, s47, s48, s49, s50, s51, s52, s53, s54, s55, s56, s57, s58, s59, s60, s61, s62, s63, s64, s65, s66, s67, s68, s69, s70, s71, s72, s73, s74, s75, s76, s77, s78, s79, s80, s81, s82, s83, s84, s85, s86, s87, s88, s89, s90, s91, s92, s93, s94, s95, s96, s97, s98, s99, s100, s101, s102, s103, s104, s105, s106, s107, s108, s109, s110, s111, s112, s113, s114, s115, s116, s117, s118, s119, s120, s121, s122, s123, s124, s125, s126, s127, s128, s129, s130, s131, s132, s133, s134, s135, s136, s137, s138, s139, s140, s141, s142, undef, undef, undef, undef, undef, undef, undef, undef, undef, undef, undef, undef, undef, undef, undef, undef, undef, undef, undef, undef, undef, undef, undef, undef, undef, undef, undef], []⟩ wc) := by
        show ∀ {_}, _
        intro s2 s6 s7 s8 s9 s19 s20 s21 s22 s23 s24 s25 s26 s27 s28 s29 s30 s31 s32 s33 s34 s35 s36 s37 s38 s39 s40 s41 s42 s43 s44 s45 s46 s47 s48 s49 s50 s51 s52 s53 s54 s55 s56 s57 s58 s59 s60 s61 s62 s63 s64 s65 s66 s67 s68 s69 s70 s71 s72 s73 s74 s75 s76 s77 s78 s79 s80 s81 s82 s83 s84 s85 s86 s87 s88 s89 s90 s91 s92 s93 s94 s95 s96 s97 s98 s99 s100 s101 s102 s103 s104 s105 s106 s107 s108 s109 s110 s111 s112 s113 s114 s115 s116 s117 s118 s119 s120 s121 s122 s123 s124 s125 s126 s127 s128 s129 s130 s131 s132 s133 s134 s135 s136 s137 s138 s139 s140 s141 s142 wc l2 HDc
        refine A2 _ _ ?_
        clear A0 A1 HD0 HDD HOK hR hY hT hTs
        have CALL1 : Hid (Calls Try.prog 21 #[.pointer (some ⟨B1, 0, none⟩)] wc (WantsIs l2 wc)) := wants1 HDc.out
        go_wp2_with fail
        refine CALL1.out.mono ?_
        rintro e w2 ⟨r1, q1, s1, rfl, ht1, hls1, b1, -⟩
        have HDd : Hid (Dh w B1 (B1 + 1) l2 l2 [] w2) := HDc.out.grew b1
        have CALL2 : Hid (Calls Try.prog 22 #[.pointer (some ⟨B1 + 1, 0, none⟩)] w2 (WantsIs l2 w2)) := wants2 HDd.out
        have HT1 : Hid (Told (wfold l2) s1 ∧ LsAt wE w2 r1 s1) := ⟨ht1, hls1⟩
        clear CALL1 HDc ht1 hls1 b1
        go_wp2_with fail
        refine CALL2.out.mono ?_
        rintro e w3 ⟨r2, q2, s2, rfl, ht2, hls2, b2, -⟩
        have hs12 : s1 = s2 := HT1.out.1.one ht2 (Wok.fold (fun a ha => by have := HDd.out.ok1.bts a ha; omega)).ids
        subst hs12
        have HL1 : Hid (LsAt wE w3.drew r1 s1) := (HT1.out.2.grew b2).grew (below_drews 1)
        have HL2 : Hid (LsAt wE w3.drew r2 s1) := hls2.grew (below_drews 1)
        have HD3 : Hid (Dh w B1 (B1 + 1) l2 l2 [] w3.drew) := (HDd.out.grew b2).grew (below_drews 1)
        have hNs : (wfold l2).length = s1.length := ht2.perm.length_eq.symm
        have hNb : (wfold l2).length ≤ 100000 := by
          have := wfold_len l2
          have := HDd.out.ok1.len
          omega
        obtain ⟨N, hN⟩ : ∃ N, (wfold l2).length = N := ⟨_, rfl⟩
        have HN : Hid (s1.length = N) := by show _ = _; rw [← hNs, hN]
        have hNb : N ≤ 100000 := by omega
        obtain ⟨rq, cq, hq⟩ := HD3.out.two
        rw [hN]
        clear CALL2 HDd HT1 ht2 hls2 b2 hNs hN
        go_wp2_with fail
        refine wp_region_held (S := fun W => W.cell? ⟨B1 + 1, 0, none⟩ = some (.slice rq l2.length cq)) (by kernel_rfl) ?_
        change wpAnyH _ _ _ _ _ _ _ _ w3.drew
        generalize w3.drew = w4 at *
        have hr := hq
        clear hq
        refine wpAnyH_take (i := 0) (v := .slice r1 N q1) rfl (by kernel_rfl) (by kernel_rfl) (by kernel_rfl) (fun _ _ _ h => h) (Yields.yieldsIf (Or.inl ⟨by kernel_rfl, fun _ => by go_simp⟩)) hr ?_
        refine wpAnyH_take (i := 1) (v := .int .i64 (N : Int)) rfl (by kernel_rfl) (by kernel_rfl) (by kernel_rfl) (fun _ _ _ h => h) (Yields.yieldsIf (Or.inl ⟨by kernel_rfl, fun _ => by go_simp⟩)) hr ?_
        refine wpAnyH_take (i := 2) (v := .slice r2 N q2) rfl (by kernel_rfl) (by kernel_rfl) (by kernel_rfl) (fun _ _ _ h => h) (Yields.yieldsIf (Or.inl ⟨by kernel_rfl, fun _ => by go_simp⟩)) hr ?_
        refine wpAnyH_take (i := 3) (v := .int .i64 (N : Int)) rfl (by kernel_rfl) (by kernel_rfl) (by kernel_rfl) (fun _ _ _ h => h) (Yields.yieldsIf (Or.inl ⟨by kernel_rfl, fun _ => by go_simp⟩)) hr ?_
        refine wpAnyH_take (i := 4) (v := .bool false) rfl (by kernel_rfl) (by kernel_rfl) (by kernel_rfl) (fun _ _ _ h => h) (Yields.yieldsIf (Or.inl ⟨by kernel_rfl, fun _ => by go_simp⟩)) hr ?_
        refine wpAnyH_take (i := 5) (v := .bool false) rfl (by kernel_rfl) (by kernel_rfl) (by kernel_rfl) (fun _ _ _ h => h) (Yields.yieldsIf (Or.inl ⟨by kernel_rfl, fun _ => by kernel_rfl⟩)) hr ?_
        refine wpAnyH_take (i := 6) (v := .pointer (some ⟨B1, 0, none⟩)) rfl (by kernel_rfl) (by kernel_rfl) (by kernel_rfl) (fun _ _ _ h => h) (Yields.yieldsIf (Or.inl ⟨by kernel_rfl, fun _ => by go_simp⟩)) hr ?_
        refine wpAnyH_take (i := 8) (v := .pointer (some ⟨B1 + 1, 0, none⟩)) rfl (by kernel_rfl) (by kernel_rfl) (by kernel_rfl) (fun _ _ _ h => h) (Yields.yieldsIf (Or.inl ⟨by kernel_rfl, fun _ => by go_simp⟩)) hr ?_
        refine wpAnyH_take (i := 9) (v := .pointer (some ⟨B1 + 1, 0, none⟩)) rfl (by kernel_rfl) (by kernel_rfl) (by kernel_rfl) (fun _ _ _ h => h) (Yields.yieldsIf (Or.inl ⟨by kernel_rfl, fun _ => by go_simp⟩)) hr ?_
        refine wpAnyH_take (i := 10) (v := .pointer (some ⟨B1 + 1, 0, none⟩)) rfl (by kernel_rfl) (by kernel_rfl) (by kernel_rfl) (fun _ _ _ h => h) (Yields.yieldsIf (Or.inl ⟨by kernel_rfl, fun _ => by go_simp⟩)) hr ?_
        refine wpAnyH_take (i := 11) (v := .slice rq l2.length cq) rfl (by kernel_rfl) (by kernel_rfl) (by kernel_rfl) (fun _ _ _ h => h) (Or.inl ⟨by kernel_rfl, fun W hW => by have c0 := hW; go_simp⟩) hr ?_
        refine wpAnyH_take (i := 12) (v := .int .i64 (l2.length : Int)) rfl (by kernel_rfl) (by kernel_rfl) (by kernel_rfl) (fun _ _ _ h => h) (Yields.yieldsIf (Or.inl ⟨by kernel_rfl, fun _ => by go_simp⟩)) hr ?_
        refine wpAnyH_ready (rs := [7]) (by kernel_rfl) (by simp) ?_
        refine AllReadyH.cons rfl (fun K2 hK2 => ?_) AllReadyH.nil
        go_simp
        refine Calls.mono (len1 (P := []) HD3.out) ?_
        rintro e w' ⟨rfl, hw⟩
        subst w'
        refine hK2.out _ _ hr (fun hr => ?_)
        clear hK2 K2
        refine wpAnyH_take (i := 13) (v := .bool false) rfl (by kernel_rfl) (by kernel_rfl) (by kernel_rfl) (fun _ _ _ h => h) (Yields.yieldsIf (Or.inl ⟨by kernel_rfl, fun _ => by go_simp⟩)) hr ?_
        refine wpAnyH_take (i := 14) (v := .bool false) rfl (by kernel_rfl) (by kernel_rfl) (by kernel_rfl) (fun _ _ _ h => h) (Yields.yieldsIf (Or.inl ⟨by kernel_rfl, fun _ => by kernel_rfl⟩)) hr ?_
        refine wpAnyH_done (by kernel_rfl) ?_ _
        clear hr
        go_wp2_with fail
        generalize wr = wo at *
        go_loopw [9] (fun jv wr => ∃ j : Nat, j ≤ N ∧ jv = .int .i64 (j : Int) ∧ Hid (Same w4 wr)) (fun jv _ => N - (intOf jv).toNat)
        case atStart => exact ⟨0, Nat.zero_le _, rfl, Same.refl _⟩
        case round =>
          obtain ⟨j, hj, rfl, hsm⟩ := hrel
          by_cases hjn : j < N
          · have j1 : (j : Int) < (N : Int) := by omega
            have hjs : j < s1.length := by rw [HN.out]; exact hjn
            obtain ⟨b1, o1, rfl⟩ := HL1.out.addr (by omega)
            obtain ⟨b2, o2, rfl⟩ := HL2.out.addr (by omega)
            obtain ⟨c0, c1, c2⟩ := ls_wn (HL1.out.below (hsm.out.below w4.heap.size) (Nat.le_refl _)) j hjs
            obtain ⟨d0, d1, d2⟩ := ls_wn (HL2.out.below (hsm.out.below w4.heap.size) (Nat.le_refl _)) j hjs
            generalize s1[j] = A at *
            go_wp2_with fail
            go_quiet (fail)
            go_wp2_with fail
            go_roundw
            case rel => exact ⟨j + 1, by omega, by go_num, hsm.out.trans ⟨_, rfl⟩⟩
            case measure => simp [intOf]; omega
          · obtain rfl : j = N := by omega
            have j1 : decide ((j : Int) < (j : Int)) = false := by simp
            have HE : Hid (Dh w B1 (B1 + 1) l2 l2 [] wr) := HD3.out.grew (hsm.out.below _)
            go_wp2_with fail
            go_roundw
            case rel => exact ⟨k + 1, l2, by omega, by go_num, HE⟩
            case measure => simp [intOf]; omega
      clear A2
      rcases hTs with rfl | rfl | rfl | rfl | rfl | rfl | rfl | rfl | rfl
      · go_wp2_with fail
        refine wp_region_held (S := fun W => DdAt W H D F) (by kernel_rfl) ?_
        change wpAnyH _ _ _ _ _ _ _ _ V0.drew
        have hr : DdAt V0.drew H D F := HDD.out.block rfl
        have hd : Dh w B1 (B1 + 1) l l [H] V0.drew := HD0.out.grew (below_drews 1)
        clear HD0 HDD
        generalize V0.drew = z0 at *
        refine wpAnyH_take (i := 0) (v := .pointer (some ⟨B1, 0, none⟩)) rfl (by kernel_rfl) (by kernel_rfl) (by kernel_rfl) (fun _ _ _ h => h) (Yields.yieldsIf (Or.inl ⟨by kernel_rfl, fun _ => by go_simp⟩)) hr ?_
        refine wpAnyH_take (i := 1) (v := .pointer (some ⟨H, 1, none⟩)) rfl (by kernel_rfl) (by kernel_rfl) (by kernel_rfl) (fun _ _ _ h => h) (Yields.yieldsIf (Or.inl ⟨by kernel_rfl, fun _ => by go_simp⟩)) hr ?_
        refine wpAnyH_take (i := 2) (v := .agg #[.int .u32 (F : Int), .int .i64 D.s, .int .i64 D.r, .int .i64 D.b, .int .i64 D.d]) rfl (by kernel_rfl) (by kernel_rfl) (by kernel_rfl) (fun _ _ _ h => h) (Or.inl ⟨by kernel_rfl, fun W hW => by have c1 := hW.c1; have c2 := hW.c2; have c3 := hW.c3; have c4 := hW.c4; have c5 := hW.c5; go_simp⟩) hr ?_
        refine wpAnyH_take (i := 4) (v := .pointer (some ⟨B1 + 1, 0, none⟩)) rfl (by kernel_rfl) (by kernel_rfl) (by kernel_rfl) (fun _ _ _ h => h) (Yields.yieldsIf (Or.inl ⟨by kernel_rfl, fun _ => by go_simp⟩)) hr ?_
        refine wpAnyH_take (i := 5) (v := .pointer (some ⟨H, 1, none⟩)) rfl (by kernel_rfl) (by kernel_rfl) (by kernel_rfl) (fun _ _ _ h => h) (Yields.yieldsIf (Or.inl ⟨by kernel_rfl, fun _ => by go_simp⟩)) hr ?_
        refine wpAnyH_take (i := 6) (v := .agg #[.int .u32 (F : Int), .int .i64 D.s, .int .i64 D.r, .int .i64 D.b, .int .i64 D.d]) rfl (by kernel_rfl) (by kernel_rfl) (by kernel_rfl) (fun _ _ _ h => h) (Or.inl ⟨by kernel_rfl, fun W hW => by have c1 := hW.c1; have c2 := hW.c2; have c3 := hW.c3; have c4 := hW.c4; have c5 := hW.c5; go_simp⟩) hr ?_
        have CC := (show Calls Try.prog 10 #[.pointer (some ⟨B1, 0, none⟩), .agg #[.int .u32 (F : Int), .int .i64 D.s, .int .i64 D.r, .int .i64 D.b, .int .i64 D.d]] z0 _ from put1 ⟨F, D.s, D.r, D.b, D.d⟩ hF hd)
        refine wpAnyH_ready (rs := [3]) (by kernel_rfl) (by simp) ?_
        refine AllReadyH.cons rfl (fun K2 hK2 => ?_) AllReadyH.nil
        go_simp
        refine Calls.mono CC ?_
        clear CC
        rintro e x3 ⟨rfl, hd, hkp⟩
        have hr := hr.block (hkp H (by simp))
        clear hkp
        refine hK2.out _ _ hr (fun hr => ?_)
        clear hK2 K2
        have CC := (show Calls Try.prog 11 #[.pointer (some ⟨B1 + 1, 0, none⟩), .agg #[.int .u32 (F : Int), .int .i64 D.s, .int .i64 D.r, .int .i64 D.b, .int .i64 D.d]] x3 _ from put2 ⟨F, D.s, D.r, D.b, D.d⟩ hF hd)
        refine wpAnyH_ready (rs := [7]) (by kernel_rfl) (by simp) ?_
        refine AllReadyH.cons rfl (fun K2 hK2 => ?_) AllReadyH.nil
        go_simp
        refine Calls.mono CC ?_
        clear CC
        rintro e x7 ⟨rfl, hd, hkp⟩
        have hr := hr.block (hkp H (by simp))
        clear hkp
        refine hK2.out _ _ hr (fun hr => ?_)
        clear hK2 K2
        refine wpAnyH_take (i := 8) (v := .bool false) rfl (by kernel_rfl) (by kernel_rfl) (by kernel_rfl) (fun _ _ _ h => h) (Yields.yieldsIf (Or.inl ⟨by kernel_rfl, fun _ => by go_simp⟩)) hr ?_
        refine wpAnyH_done (by kernel_rfl) ?_ _
        have HX : Hid (Dh w B1 (B1 + 1) (putl l ⟨F, D.s, D.r, D.b, D.d⟩) (putl l ⟨F, D.s, D.r, D.b, D.d⟩) [] x7) := hd.less (fun k hk => by simp at hk)
        clear hd hr
        go_wp2_with fail
        go_simp
        exact TAIL.out HX
      · go_wp2_with fail
        refine wp_region_held (S := fun W => DdAt W H D F) (by kernel_rfl) ?_
        change wpAnyH _ _ _ _ _ _ _ _ V0.drew
        have hr : DdAt V0.drew H D F := HDD.out.block rfl
        have hd : Dh w B1 (B1 + 1) l l [H] V0.drew := HD0.out.grew (below_drews 1)
        clear HD0 HDD
        generalize V0.drew = z0 at *
        refine wpAnyH_take (i := 0) (v := .pointer (some ⟨B1, 0, none⟩)) rfl (by kernel_rfl) (by kernel_rfl) (by kernel_rfl) (fun _ _ _ h => h) (Yields.yieldsIf (Or.inl ⟨by kernel_rfl, fun _ => by go_simp⟩)) hr ?_
        refine wpAnyH_take (i := 1) (v := .pointer (some ⟨H, 1, none⟩)) rfl (by kernel_rfl) (by kernel_rfl) (by kernel_rfl) (fun _ _ _ h => h) (Yields.yieldsIf (Or.inl ⟨by kernel_rfl, fun _ => by go_simp⟩)) hr ?_
        refine wpAnyH_take (i := 2) (v := .agg #[.int .u32 (F : Int), .int .i64 D.s, .int .i64 D.r, .int .i64 D.b, .int .i64 D.d]) rfl (by kernel_rfl) (by kernel_rfl) (by kernel_rfl) (fun _ _ _ h => h) (Or.inl ⟨by kernel_rfl, fun W hW => by have c1 := hW.c1; have c2 := hW.c2; have c3 := hW.c3; have c4 := hW.c4; have c5 := hW.c5; go_simp⟩) hr ?_
        refine wpAnyH_take (i := 4) (v := .pointer (some ⟨B1 + 1, 0, none⟩)) rfl (by kernel_rfl) (by kernel_rfl) (by kernel_rfl) (fun _ _ _ h => h) (Yields.yieldsIf (Or.inl ⟨by kernel_rfl, fun _ => by go_simp⟩)) hr ?_
        refine wpAnyH_take (i := 5) (v := .pointer (some ⟨H, 1, none⟩)) rfl (by kernel_rfl) (by kernel_rfl) (by kernel_rfl) (fun _ _ _ h => h) (Yields.yieldsIf (Or.inl ⟨by kernel_rfl, fun _ => by go_simp⟩)) hr ?_
        refine wpAnyH_take (i := 6) (v := .agg #[.int .u32 (F : Int), .int .i64 D.s, .int .i64 D.r, .int .i64 D.b, .int .i64 D.d]) rfl (by kernel_rfl) (by kernel_rfl) (by kernel_rfl) (fun _ _ _ h => h) (Or.inl ⟨by kernel_rfl, fun W hW => by have c1 := hW.c1; have c2 := hW.c2; have c3 := hW.c3; have c4 := hW.c4; have c5 := hW.c5; go_simp⟩) hr ?_
        have CC := (show Calls Try.prog 10 #[.pointer (some ⟨B1, 0, none⟩), .agg #[.int .u32 (F : Int), .int .i64 D.s, .int .i64 D.r, .int .i64 D.b, .int .i64 D.d]] z0 _ from put1 ⟨F, D.s, D.r, D.b, D.d⟩ hF hd)
        refine wpAnyH_ready (rs := [3]) (by kernel_rfl) (by simp) ?_
        refine AllReadyH.cons rfl (fun K2 hK2 => ?_) AllReadyH.nil
        go_simp
        refine Calls.mono CC ?_
        clear CC
        rintro e x3 ⟨rfl, hd, hkp⟩
        have hr := hr.block (hkp H (by simp))
        clear hkp
        refine hK2.out _ _ hr (fun hr => ?_)
        clear hK2 K2
        have CC := (show Calls Try.prog 11 #[.pointer (some ⟨B1 + 1, 0, none⟩), .agg #[.int .u32 (F : Int), .int .i64 D.s, .int .i64 D.r, .int .i64 D.b, .int .i64 D.d]] x3 _ from put2 ⟨F, D.s, D.r, D.b, D.d⟩ hF hd)
        refine wpAnyH_ready (rs := [7]) (by kernel_rfl) (by simp) ?_
        refine AllReadyH.cons rfl (fun K2 hK2 => ?_) AllReadyH.nil
        go_simp
        refine Calls.mono CC ?_
        clear CC
        rintro e x7 ⟨rfl, hd, hkp⟩
        have hr := hr.block (hkp H (by simp))
        clear hkp
        refine hK2.out _ _ hr (fun hr => ?_)
        clear hK2 K2
        refine wpAnyH_take (i := 8) (v := .bool false) rfl (by kernel_rfl) (by kernel_rfl) (by kernel_rfl) (fun _ _ _ h => h) (Yields.yieldsIf (Or.inl ⟨by kernel_rfl, fun _ => by go_simp⟩)) hr ?_
        refine wpAnyH_done (by kernel_rfl) ?_ _
        have HX : Hid (Dh w B1 (B1 + 1) (putl l ⟨F, D.s, D.r, D.b, D.d⟩) (putl l ⟨F, D.s, D.r, D.b, D.d⟩) [] x7) := hd.less (fun k hk => by simp at hk)
        clear hd hr
        go_wp2_with fail
        go_simp
        exact TAIL.out HX
      · go_wp2_with fail
        refine wp_region_held (S := fun W => DdAt W H D F) (by kernel_rfl) ?_
        change wpAnyH _ _ _ _ _ _ _ _ V0.drew
        have hr : DdAt V0.drew H D F := HDD.out.block rfl
        have hd : Dh w B1 (B1 + 1) l l [H] V0.drew := HD0.out.grew (below_drews 1)
        clear HD0 HDD
        generalize V0.drew = z0 at *
        refine wpAnyH_take (i := 0) (v := .pointer (some ⟨B1, 0, none⟩)) rfl (by kernel_rfl) (by kernel_rfl) (by kernel_rfl) (fun _ _ _ h => h) (Yields.yieldsIf (Or.inl ⟨by kernel_rfl, fun _ => by go_simp⟩)) hr ?_
        refine wpAnyH_take (i := 1) (v := .pointer (some ⟨H, 1, none⟩)) rfl (by kernel_rfl) (by kernel_rfl) (by kernel_rfl) (fun _ _ _ h => h) (Yields.yieldsIf (Or.inl ⟨by kernel_rfl, fun _ => by go_simp⟩)) hr ?_
        refine wpAnyH_take (i := 2) (v := .agg #[.int .u32 (F : Int), .int .i64 D.s, .int .i64 D.r, .int .i64 D.b, .int .i64 D.d]) rfl (by kernel_rfl) (by kernel_rfl) (by kernel_rfl) (fun _ _ _ h => h) (Or.inl ⟨by kernel_rfl, fun W hW => by have c1 := hW.c1; have c2 := hW.c2; have c3 := hW.c3; have c4 := hW.c4; have c5 := hW.c5; go_simp⟩) hr ?_
        refine wpAnyH_take (i := 4) (v := .pointer (some ⟨B1 + 1, 0, none⟩)) rfl (by kernel_rfl) (by kernel_rfl) (by kernel_rfl) (fun _ _ _ h => h) (Yields.yieldsIf (Or.inl ⟨by kernel_rfl, fun _ => by go_simp⟩)) hr ?_
        refine wpAnyH_take (i := 5) (v := .pointer (some ⟨H, 1, none⟩)) rfl (by kernel_rfl) (by kernel_rfl) (by kernel_rfl) (fun _ _ _ h => h) (Yields.yieldsIf (Or.inl ⟨by kernel_rfl, fun _ => by go_simp⟩)) hr ?_
        refine wpAnyH_take (i := 6) (v := .agg #[.int .u32 (F : Int), .int .i64 D.s, .int .i64 D.r, .int .i64 D.b, .int .i64 D.d]) rfl (by kernel_rfl) (by kernel_rfl) (by kernel_rfl) (fun _ _ _ h => h) (Or.inl ⟨by kernel_rfl, fun W hW => by have c1 := hW.c1; have c2 := hW.c2; have c3 := hW.c3; have c4 := hW.c4; have c5 := hW.c5; go_simp⟩) hr ?_
        have CC := (show Calls Try.prog 10 #[.pointer (some ⟨B1, 0, none⟩), .agg #[.int .u32 (F : Int), .int .i64 D.s, .int .i64 D.r, .int .i64 D.b, .int .i64 D.d]] z0 _ from put1 ⟨F, D.s, D.r, D.b, D.d⟩ hF hd)
        refine wpAnyH_ready (rs := [3]) (by kernel_rfl) (by simp) ?_
        refine AllReadyH.cons rfl (fun K2 hK2 => ?_) AllReadyH.nil
        go_simp
        refine Calls.mono CC ?_
        clear CC
        rintro e x3 ⟨rfl, hd, hkp⟩
        have hr := hr.block (hkp H (by simp))
        clear hkp
        refine hK2.out _ _ hr (fun hr => ?_)
        clear hK2 K2
        have CC := (show Calls Try.prog 11 #[.pointer (some ⟨B1 + 1, 0, none⟩), .agg #[.int .u32 (F : Int), .int .i64 D.s, .int .i64 D.r, .int .i64 D.b, .int .i64 D.d]] x3 _ from put2 ⟨F, D.s, D.r, D.b, D.d⟩ hF hd)
        refine wpAnyH_ready (rs := [7]) (by kernel_rfl) (by simp) ?_
        refine AllReadyH.cons rfl (fun K2 hK2 => ?_) AllReadyH.nil
        go_simp
        refine Calls.mono CC ?_
        clear CC
        rintro e x7 ⟨rfl, hd, hkp⟩
        have hr := hr.block (hkp H (by simp))
        clear hkp
        refine hK2.out _ _ hr (fun hr => ?_)
        clear hK2 K2
        refine wpAnyH_take (i := 8) (v := .bool false) rfl (by kernel_rfl) (by kernel_rfl) (by kernel_rfl) (fun _ _ _ h => h) (Yields.yieldsIf (Or.inl ⟨by kernel_rfl, fun _ => by go_simp⟩)) hr ?_
        refine wpAnyH_done (by kernel_rfl) ?_ _
        have HX : Hid (Dh w B1 (B1 + 1) (putl l ⟨F, D.s, D.r, D.b, D.d⟩) (putl l ⟨F, D.s, D.r, D.b, D.d⟩) [] x7) := hd.less (fun k hk => by simp at hk)
        clear hd hr
        go_wp2_with fail
        go_simp
        exact TAIL.out HX
      · go_wp2_with fail
        refine wp_region_held (S := fun W => DdAt W H D F) (by kernel_rfl) ?_
        change wpAnyH _ _ _ _ _ _ _ _ V0.drew
        have hr : DdAt V0.drew H D F := HDD.out.block rfl
        have hd : Dh w B1 (B1 + 1) l l [H] V0.drew := HD0.out.grew (below_drews 1)
        clear HD0 HDD
        generalize V0.drew = z0 at *
        refine wpAnyH_take (i := 0) (v := .pointer (some ⟨B1, 0, none⟩)) rfl (by kernel_rfl) (by kernel_rfl) (by kernel_rfl) (fun _ _ _ h => h) (Yields.yieldsIf (Or.inl ⟨by kernel_rfl, fun _ => by go_simp⟩)) hr ?_
        refine wpAnyH_take (i := 1) (v := .pointer (some ⟨H, 1, none⟩)) rfl (by kernel_rfl) (by kernel_rfl) (by kernel_rfl) (fun _ _ _ h => h) (Yields.yieldsIf (Or.inl ⟨by kernel_rfl, fun _ => by go_simp⟩)) hr ?_
        refine wpAnyH_take (i := 2) (v := .agg #[.int .u32 (F : Int), .int .i64 D.s, .int .i64 D.r, .int .i64 D.b, .int .i64 D.d]) rfl (by kernel_rfl) (by kernel_rfl) (by kernel_rfl) (fun _ _ _ h => h) (Or.inl ⟨by kernel_rfl, fun W hW => by have c1 := hW.c1; have c2 := hW.c2; have c3 := hW.c3; have c4 := hW.c4; have c5 := hW.c5; go_simp⟩) hr ?_
        refine wpAnyH_take (i := 4) (v := .pointer (some ⟨B1 + 1, 0, none⟩)) rfl (by kernel_rfl) (by kernel_rfl) (by kernel_rfl) (fun _ _ _ h => h) (Yields.yieldsIf (Or.inl ⟨by kernel_rfl, fun _ => by go_simp⟩)) hr ?_
        refine wpAnyH_take (i := 5) (v := .pointer (some ⟨H, 1, none⟩)) rfl (by kernel_rfl) (by kernel_rfl) (by kernel_rfl) (fun _ _ _ h => h) (Yields.yieldsIf (Or.inl ⟨by kernel_rfl, fun _ => by go_simp⟩)) hr ?_
        refine wpAnyH_take (i := 6) (v := .agg #[.int .u32 (F : Int), .int .i64 D.s, .int .i64 D.r, .int .i64 D.b, .int .i64 D.d]) rfl (by kernel_rfl) (by kernel_rfl) (by kernel_rfl) (fun _ _ _ h => h) (Or.inl ⟨by kernel_rfl, fun W hW => by have c1 := hW.c1; have c2 := hW.c2; have c3 := hW.c3; have c4 := hW.c4; have c5 := hW.c5; go_simp⟩) hr ?_
        have CC := (show Calls Try.prog 10 #[.pointer (some ⟨B1, 0, none⟩), .agg #[.int .u32 (F : Int), .int .i64 D.s, .int .i64 D.r, .int .i64 D.b, .int .i64 D.d]] z0 _ from put1 ⟨F, D.s, D.r, D.b, D.d⟩ hF hd)
        refine wpAnyH_ready (rs := [3]) (by kernel_rfl) (by simp) ?_
        refine AllReadyH.cons rfl (fun K2 hK2 => ?_) AllReadyH.nil
        go_simp
        refine Calls.mono CC ?_
        clear CC
        rintro e x3 ⟨rfl, hd, hkp⟩
        have hr := hr.block (hkp H (by simp))
        clear hkp
        refine hK2.out _ _ hr (fun hr => ?_)
        clear hK2 K2
        have CC := (show Calls Try.prog 11 #[.pointer (some ⟨B1 + 1, 0, none⟩), .agg #[.int .u32 (F : Int), .int .i64 D.s, .int .i64 D.r, .int .i64 D.b, .int .i64 D.d]] x3 _ from put2 ⟨F, D.s, D.r, D.b, D.d⟩ hF hd)
        refine wpAnyH_ready (rs := [7]) (by kernel_rfl) (by simp) ?_
        refine AllReadyH.cons rfl (fun K2 hK2 => ?_) AllReadyH.nil
        go_simp
        refine Calls.mono CC ?_
        clear CC
        rintro e x7 ⟨rfl, hd, hkp⟩
        have hr := hr.block (hkp H (by simp))
        clear hkp
        refine hK2.out _ _ hr (fun hr => ?_)
        clear hK2 K2
        refine wpAnyH_take (i := 8) (v := .bool false) rfl (by kernel_rfl) (by kernel_rfl) (by kernel_rfl) (fun _ _ _ h => h) (Yields.yieldsIf (Or.inl ⟨by kernel_rfl, fun _ => by go_simp⟩)) hr ?_
        refine wpAnyH_done (by kernel_rfl) ?_ _
        have HX : Hid (Dh w B1 (B1 + 1) (putl l ⟨F, D.s, D.r, D.b, D.d⟩) (putl l ⟨F, D.s, D.r, D.b, D.d⟩) [] x7) := hd.less (fun k hk => by simp at hk)
        clear hd hr
        go_wp2_with fail
        go_simp
        exact TAIL.out HX
      · go_wp2_with fail
        refine wp_region_held (S := fun W => DdAt W H D F) (by kernel_rfl) ?_
        change wpAnyH _ _ _ _ _ _ _ _ V0.drew
        have hr : DdAt V0.drew H D F := HDD.out.block rfl
        have hd : Dh w B1 (B1 + 1) l l [H] V0.drew := HD0.out.grew (below_drews 1)
        clear HD0 HDD
        generalize V0.drew = z0 at *
        refine wpAnyH_take (i := 0) (v := .pointer (some ⟨B1, 0, none⟩)) rfl (by kernel_rfl) (by kernel_rfl) (by kernel_rfl) (fun _ _ _ h => h) (Yields.yieldsIf (Or.inl ⟨by kernel_rfl, fun _ => by go_simp⟩)) hr ?_
        refine wpAnyH_take (i := 1) (v := .pointer (some ⟨H, 1, none⟩)) rfl (by kernel_rfl) (by kernel_rfl) (by kernel_rfl) (fun _ _ _ h => h) (Yields.yieldsIf (Or.inl ⟨by kernel_rfl, fun _ => by go_simp⟩)) hr ?_
        refine wpAnyH_take (i := 2) (v := .pointer (some ⟨H, 1, none⟩)) rfl (by kernel_rfl) (by kernel_rfl) (by kernel_rfl) (fun _ _ _ h => h) (Yields.yieldsIf (Or.inl ⟨by kernel_rfl, fun _ => by go_simp⟩)) hr ?_
        refine wpAnyH_take (i := 3) (v := .int .u32 (F : Int)) rfl (by kernel_rfl) (by kernel_rfl) (by kernel_rfl) (fun _ _ _ h => h) (Or.inl ⟨by kernel_rfl, fun W hW => by have c1 := hW.c1; go_simp⟩) hr ?_
        refine wpAnyH_take (i := 4) (v := .pointer (some ⟨H, 6, none⟩)) rfl (by kernel_rfl) (by kernel_rfl) (by kernel_rfl) (fun _ _ _ h => h) (Yields.yieldsIf (Or.inl ⟨by kernel_rfl, fun _ => by go_simp⟩)) hr ?_
        refine wpAnyH_take (i := 5) (v := .int .i64 D.m) rfl (by kernel_rfl) (by kernel_rfl) (by kernel_rfl) (fun _ _ _ h => h) (Or.inl ⟨by kernel_rfl, fun W hW => by have c6 := hW.c6; go_simp⟩) hr ?_
        refine wpAnyH_take (i := 7) (v := .pointer (some ⟨B1 + 1, 0, none⟩)) rfl (by kernel_rfl) (by kernel_rfl) (by kernel_rfl) (fun _ _ _ h => h) (Yields.yieldsIf (Or.inl ⟨by kernel_rfl, fun _ => by go_simp⟩)) hr ?_
        refine wpAnyH_take (i := 8) (v := .pointer (some ⟨H, 1, none⟩)) rfl (by kernel_rfl) (by kernel_rfl) (by kernel_rfl) (fun _ _ _ h => h) (Yields.yieldsIf (Or.inl ⟨by kernel_rfl, fun _ => by go_simp⟩)) hr ?_
        refine wpAnyH_take (i := 9) (v := .pointer (some ⟨H, 1, none⟩)) rfl (by kernel_rfl) (by kernel_rfl) (by kernel_rfl) (fun _ _ _ h => h) (Yields.yieldsIf (Or.inl ⟨by kernel_rfl, fun _ => by go_simp⟩)) hr ?_
        refine wpAnyH_take (i := 10) (v := .int .u32 (F : Int)) rfl (by kernel_rfl) (by kernel_rfl) (by kernel_rfl) (fun _ _ _ h => h) (Or.inl ⟨by kernel_rfl, fun W hW => by have c1 := hW.c1; go_simp⟩) hr ?_
        refine wpAnyH_take (i := 11) (v := .pointer (some ⟨H, 6, none⟩)) rfl (by kernel_rfl) (by kernel_rfl) (by kernel_rfl) (fun _ _ _ h => h) (Yields.yieldsIf (Or.inl ⟨by kernel_rfl, fun _ => by go_simp⟩)) hr ?_
        refine wpAnyH_take (i := 12) (v := .int .i64 D.m) rfl (by kernel_rfl) (by kernel_rfl) (by kernel_rfl) (fun _ _ _ h => h) (Or.inl ⟨by kernel_rfl, fun W hW => by have c6 := hW.c6; go_simp⟩) hr ?_
        have CC := (show Calls Try.prog 13 #[.pointer (some ⟨B1, 0, none⟩), .int .u32 (F : Int), .int .i64 D.m] z0 _ from take1 F D.m h2.2 hd)
        refine wpAnyH_ready (rs := [6]) (by kernel_rfl) (by simp) ?_
        refine AllReadyH.cons rfl (fun K2 hK2 => ?_) AllReadyH.nil
        go_simp
        refine Calls.mono CC ?_
        clear CC
        rintro e x6 ⟨r1, q1, rfl, hls1, hd, hkp⟩
        have hr := hr.block (hkp H (by simp))
        clear hkp
        refine hK2.out _ _ hr (fun hr => ?_)
        clear hK2 K2
        have CC := (show Calls Try.prog 14 #[.pointer (some ⟨B1 + 1, 0, none⟩), .int .u32 (F : Int), .int .i64 D.m] x6 _ from take2 F D.m hd)
        refine wpAnyH_ready (rs := [13]) (by kernel_rfl) (by simp) ?_
        refine AllReadyH.cons rfl (fun K2 hK2 => ?_) AllReadyH.nil
        go_simp
        refine Calls.mono CC ?_
        clear CC
        rintro e x13 ⟨r2, q2, rfl, hls2, hd, hkp⟩
        have hr := hr.block (hkp H (by simp))
        have hls1 := blk_same hls1 (fun k hk => hkp k (List.mem_append.2 (.inl hk)))
        clear hkp
        refine hK2.out _ _ hr (fun hr => ?_)
        clear hK2 K2
        have CC := same_yes r1 r2 q1 q2 ((prt (hold F) D.m l).1) x13 hls1 hls2 (by have := prt_len (hold F) D.m l; have := hd.ok1.len; have := HOK.out.len; show _ ≤ _; omega)
        clear hls1 hls2
        refine wpAnyH_ready (rs := [14]) (by kernel_rfl) (by simp) ?_
        refine AllReadyH.cons rfl (fun K2 hK2 => ?_) AllReadyH.nil
        go_simp
        refine Calls.mono CC ?_
        clear CC
        rintro e x14 ⟨rfl, hsm⟩
        have hr := hr.block ((hsm.below (H + 1)).block H (Nat.lt_succ_self H))
        have hd := hd.grew (hsm.below _)
        clear hsm
        refine hK2.out _ _ hr (fun hr => ?_)
        clear hK2 K2
        refine wpAnyH_take (i := 15) (v := .bool false) rfl (by kernel_rfl) (by kernel_rfl) (by kernel_rfl) (fun _ _ _ h => h) (Yields.yieldsIf (Or.inl ⟨by kernel_rfl, fun _ => by go_simp⟩)) hr ?_
        refine wpAnyH_done (by kernel_rfl) ?_ _
        have HX : Hid (Dh w B1 (B1 + 1) ((prt (hold F) D.m l).2.1) ((prt (hold F) D.m l).2.1) [] x14) := hd.less (fun k hk => by simp at hk)
        clear hd hr
        go_wp2_with fail
        go_simp
        exact TAIL.out HX
      · go_wp2_with fail
        refine wp_region_held (S := fun W => DdAt W H D F) (by kernel_rfl) ?_
        change wpAnyH _ _ _ _ _ _ _ _ V0.drew
        have hr : DdAt V0.drew H D F := HDD.out.block rfl
        have hd : Dh w B1 (B1 + 1) l l [H] V0.drew := HD0.out.grew (below_drews 1)
        clear HD0 HDD
        generalize V0.drew = z0 at *
        refine wpAnyH_take (i := 0) (v := .pointer (some ⟨B1, 0, none⟩)) rfl (by kernel_rfl) (by kernel_rfl) (by kernel_rfl) (fun _ _ _ h => h) (Yields.yieldsIf (Or.inl ⟨by kernel_rfl, fun _ => by go_simp⟩)) hr ?_
        refine wpAnyH_take (i := 1) (v := .pointer (some ⟨H, 1, none⟩)) rfl (by kernel_rfl) (by kernel_rfl) (by kernel_rfl) (fun _ _ _ h => h) (Yields.yieldsIf (Or.inl ⟨by kernel_rfl, fun _ => by go_simp⟩)) hr ?_
        refine wpAnyH_take (i := 2) (v := .pointer (some ⟨H, 1, none⟩)) rfl (by kernel_rfl) (by kernel_rfl) (by kernel_rfl) (fun _ _ _ h => h) (Yields.yieldsIf (Or.inl ⟨by kernel_rfl, fun _ => by go_simp⟩)) hr ?_
        refine wpAnyH_take (i := 3) (v := .int .u32 (F : Int)) rfl (by kernel_rfl) (by kernel_rfl) (by kernel_rfl) (fun _ _ _ h => h) (Or.inl ⟨by kernel_rfl, fun W hW => by have c1 := hW.c1; go_simp⟩) hr ?_
        refine wpAnyH_take (i := 4) (v := .pointer (some ⟨H, 6, none⟩)) rfl (by kernel_rfl) (by kernel_rfl) (by kernel_rfl) (fun _ _ _ h => h) (Yields.yieldsIf (Or.inl ⟨by kernel_rfl, fun _ => by go_simp⟩)) hr ?_
        refine wpAnyH_take (i := 5) (v := .int .i64 D.m) rfl (by kernel_rfl) (by kernel_rfl) (by kernel_rfl) (fun _ _ _ h => h) (Or.inl ⟨by kernel_rfl, fun W hW => by have c6 := hW.c6; go_simp⟩) hr ?_
        refine wpAnyH_take (i := 7) (v := .pointer (some ⟨B1 + 1, 0, none⟩)) rfl (by kernel_rfl) (by kernel_rfl) (by kernel_rfl) (fun _ _ _ h => h) (Yields.yieldsIf (Or.inl ⟨by kernel_rfl, fun _ => by go_simp⟩)) hr ?_
        refine wpAnyH_take (i := 8) (v := .pointer (some ⟨H, 1, none⟩)) rfl (by kernel_rfl) (by kernel_rfl) (by kernel_rfl) (fun _ _ _ h => h) (Yields.yieldsIf (Or.inl ⟨by kernel_rfl, fun _ => by go_simp⟩)) hr ?_
        refine wpAnyH_take (i := 9) (v := .pointer (some ⟨H, 1, none⟩)) rfl (by kernel_rfl) (by kernel_rfl) (by kernel_rfl) (fun _ _ _ h => h) (Yields.yieldsIf (Or.inl ⟨by kernel_rfl, fun _ => by go_simp⟩)) hr ?_
        refine wpAnyH_take (i := 10) (v := .int .u32 (F : Int)) rfl (by kernel_rfl) (by kernel_rfl) (by kernel_rfl) (fun _ _ _ h => h) (Or.inl ⟨by kernel_rfl, fun W hW => by have c1 := hW.c1; go_simp⟩) hr ?_
        refine wpAnyH_take (i := 11) (v := .pointer (some ⟨H, 6, none⟩)) rfl (by kernel_rfl) (by kernel_rfl) (by kernel_rfl) (fun _ _ _ h => h) (Yields.yieldsIf (Or.inl ⟨by kernel_rfl, fun _ => by go_simp⟩)) hr ?_
        refine wpAnyH_take (i := 12) (v := .int .i64 D.m) rfl (by kernel_rfl) (by kernel_rfl) (by kernel_rfl) (fun _ _ _ h => h) (Or.inl ⟨by kernel_rfl, fun W hW => by have c6 := hW.c6; go_simp⟩) hr ?_
        have CC := (show Calls Try.prog 13 #[.pointer (some ⟨B1, 0, none⟩), .int .u32 (F : Int), .int .i64 D.m] z0 _ from take1 F D.m h2.2 hd)
        refine wpAnyH_ready (rs := [6]) (by kernel_rfl) (by simp) ?_
        refine AllReadyH.cons rfl (fun K2 hK2 => ?_) AllReadyH.nil
        go_simp
        refine Calls.mono CC ?_
        clear CC
        rintro e x6 ⟨r1, q1, rfl, hls1, hd, hkp⟩
        have hr := hr.block (hkp H (by simp))
        clear hkp
        refine hK2.out _ _ hr (fun hr => ?_)
        clear hK2 K2
        have CC := (show Calls Try.prog 14 #[.pointer (some ⟨B1 + 1, 0, none⟩), .int .u32 (F : Int), .int .i64 D.m] x6 _ from take2 F D.m hd)
        refine wpAnyH_ready (rs := [13]) (by kernel_rfl) (by simp) ?_
        refine AllReadyH.cons rfl (fun K2 hK2 => ?_) AllReadyH.nil
        go_simp
        refine Calls.mono CC ?_
        clear CC
        rintro e x13 ⟨r2, q2, rfl, hls2, hd, hkp⟩
        have hr := hr.block (hkp H (by simp))
        have hls1 := blk_same hls1 (fun k hk => hkp k (List.mem_append.2 (.inl hk)))
        clear hkp
        refine hK2.out _ _ hr (fun hr => ?_)
        clear hK2 K2
        have CC := same_yes r1 r2 q1 q2 ((prt (hold F) D.m l).1) x13 hls1 hls2 (by have := prt_len (hold F) D.m l; have := hd.ok1.len; have := HOK.out.len; show _ ≤ _; omega)
        clear hls1 hls2
        refine wpAnyH_ready (rs := [14]) (by kernel_rfl) (by simp) ?_
        refine AllReadyH.cons rfl (fun K2 hK2 => ?_) AllReadyH.nil
        go_simp
        refine Calls.mono CC ?_
        clear CC
        rintro e x14 ⟨rfl, hsm⟩
        have hr := hr.block ((hsm.below (H + 1)).block H (Nat.lt_succ_self H))
        have hd := hd.grew (hsm.below _)
        clear hsm
        refine hK2.out _ _ hr (fun hr => ?_)
        clear hK2 K2
        refine wpAnyH_take (i := 15) (v := .bool false) rfl (by kernel_rfl) (by kernel_rfl) (by kernel_rfl) (fun _ _ _ h => h) (Yields.yieldsIf (Or.inl ⟨by kernel_rfl, fun _ => by go_simp⟩)) hr ?_
        refine wpAnyH_done (by kernel_rfl) ?_ _
        have HX : Hid (Dh w B1 (B1 + 1) ((prt (hold F) D.m l).2.1) ((prt (hold F) D.m l).2.1) [] x14) := hd.less (fun k hk => by simp at hk)
        clear hd hr
        go_wp2_with fail
        go_simp
        exact TAIL.out HX
      · go_wp2_with fail
        refine wp_region_held (S := fun W => DdAt W H D F) (by kernel_rfl) ?_
        change wpAnyH _ _ _ _ _ _ _ _ V0.drew
        have hr : DdAt V0.drew H D F := HDD.out.block rfl
        have hd : Dh w B1 (B1 + 1) l l [H] V0.drew := HD0.out.grew (below_drews 1)
        clear HD0 HDD
        generalize V0.drew = z0 at *
        refine wpAnyH_take (i := 0) (v := .pointer (some ⟨B1, 0, none⟩)) rfl (by kernel_rfl) (by kernel_rfl) (by kernel_rfl) (fun _ _ _ h => h) (Yields.yieldsIf (Or.inl ⟨by kernel_rfl, fun _ => by go_simp⟩)) hr ?_
        refine wpAnyH_take (i := 1) (v := .pointer (some ⟨H, 7, none⟩)) rfl (by kernel_rfl) (by kernel_rfl) (by kernel_rfl) (fun _ _ _ h => h) (Yields.yieldsIf (Or.inl ⟨by kernel_rfl, fun _ => by go_simp⟩)) hr ?_
        refine wpAnyH_take (i := 2) (v := .int .i64 D.t) rfl (by kernel_rfl) (by kernel_rfl) (by kernel_rfl) (fun _ _ _ h => h) (Or.inl ⟨by kernel_rfl, fun W hW => by have c7 := hW.c7; go_simp⟩) hr ?_
        refine wpAnyH_take (i := 4) (v := .pointer (some ⟨B1 + 1, 0, none⟩)) rfl (by kernel_rfl) (by kernel_rfl) (by kernel_rfl) (fun _ _ _ h => h) (Yields.yieldsIf (Or.inl ⟨by kernel_rfl, fun _ => by go_simp⟩)) hr ?_
        refine wpAnyH_take (i := 5) (v := .pointer (some ⟨H, 7, none⟩)) rfl (by kernel_rfl) (by kernel_rfl) (by kernel_rfl) (fun _ _ _ h => h) (Yields.yieldsIf (Or.inl ⟨by kernel_rfl, fun _ => by go_simp⟩)) hr ?_
        refine wpAnyH_take (i := 6) (v := .int .i64 D.t) rfl (by kernel_rfl) (by kernel_rfl) (by kernel_rfl) (fun _ _ _ h => h) (Or.inl ⟨by kernel_rfl, fun W hW => by have c7 := hW.c7; go_simp⟩) hr ?_
        have CC := (show Calls Try.prog 15 #[.pointer (some ⟨B1, 0, none⟩), .int .i64 D.t] z0 _ from expire1 D.t hd)
        refine wpAnyH_ready (rs := [3]) (by kernel_rfl) (by simp) ?_
        refine AllReadyH.cons rfl (fun K2 hK2 => ?_) AllReadyH.nil
        go_simp
        refine Calls.mono CC ?_
        clear CC
        rintro e x3 ⟨r1, q1, rfl, hls1, hd, hkp⟩
        have hr := hr.block (hkp H (by simp))
        clear hkp
        refine hK2.out _ _ hr (fun hr => ?_)
        clear hK2 K2
        have CC := (show Calls Try.prog 16 #[.pointer (some ⟨B1 + 1, 0, none⟩), .int .i64 D.t] x3 _ from expire2 D.t hd)
        refine wpAnyH_ready (rs := [7]) (by kernel_rfl) (by simp) ?_
        refine AllReadyH.cons rfl (fun K2 hK2 => ?_) AllReadyH.nil
        go_simp
        refine Calls.mono CC ?_
        clear CC
        rintro e x7 ⟨r2, q2, rfl, hls2, hd, hkp⟩
        have hr := hr.block (hkp H (by simp))
        have hls1 := blk_same hls1 (fun k hk => hkp k (List.mem_append.2 (.inl hk)))
        clear hkp
        refine hK2.out _ _ hr (fun hr => ?_)
        clear hK2 K2
        have CC := same_yes r1 r2 q1 q2 ((prt (late D.t) 0 l).1) x7 hls1 hls2 (by have := prt_len (late D.t) 0 l; have := hd.ok1.len; have := HOK.out.len; show _ ≤ _; omega)
        clear hls1 hls2
        refine wpAnyH_ready (rs := [8]) (by kernel_rfl) (by simp) ?_
        refine AllReadyH.cons rfl (fun K2 hK2 => ?_) AllReadyH.nil
        go_simp
        refine Calls.mono CC ?_
        clear CC
        rintro e x8 ⟨rfl, hsm⟩
        have hr := hr.block ((hsm.below (H + 1)).block H (Nat.lt_succ_self H))
        have hd := hd.grew (hsm.below _)
        clear hsm
        refine hK2.out _ _ hr (fun hr => ?_)
        clear hK2 K2
        refine wpAnyH_take (i := 9) (v := .bool false) rfl (by kernel_rfl) (by kernel_rfl) (by kernel_rfl) (fun _ _ _ h => h) (Yields.yieldsIf (Or.inl ⟨by kernel_rfl, fun _ => by go_simp⟩)) hr ?_
        refine wpAnyH_done (by kernel_rfl) ?_ _
        have HX : Hid (Dh w B1 (B1 + 1) ((prt (late D.t) 0 l).2.1) ((prt (late D.t) 0 l).2.1) [] x8) := hd.less (fun k hk => by simp at hk)
        clear hd hr
        go_wp2_with fail
        go_simp
        exact TAIL.out HX
      · go_wp2_with fail
        refine wp_region_held (S := fun W => DdAt W H D F) (by kernel_rfl) ?_
        change wpAnyH _ _ _ _ _ _ _ _ V0.drew
        have hr : DdAt V0.drew H D F := HDD.out.block rfl
        have hd : Dh w B1 (B1 + 1) l l [H] V0.drew := HD0.out.grew (below_drews 1)
        clear HD0 HDD
        generalize V0.drew = z0 at *
        refine wpAnyH_take (i := 0) (v := .pointer (some ⟨B1, 0, none⟩)) rfl (by kernel_rfl) (by kernel_rfl) (by kernel_rfl) (fun _ _ _ h => h) (Yields.yieldsIf (Or.inl ⟨by kernel_rfl, fun _ => by go_simp⟩)) hr ?_
        refine wpAnyH_take (i := 1) (v := .pointer (some ⟨H, 1, none⟩)) rfl (by kernel_rfl) (by kernel_rfl) (by kernel_rfl) (fun _ _ _ h => h) (Yields.yieldsIf (Or.inl ⟨by kernel_rfl, fun _ => by go_simp⟩)) hr ?_
        refine wpAnyH_take (i := 2) (v := .pointer (some ⟨H, 1, none⟩)) rfl (by kernel_rfl) (by kernel_rfl) (by kernel_rfl) (fun _ _ _ h => h) (Yields.yieldsIf (Or.inl ⟨by kernel_rfl, fun _ => by go_simp⟩)) hr ?_
        refine wpAnyH_take (i := 3) (v := .int .u32 (F : Int)) rfl (by kernel_rfl) (by kernel_rfl) (by kernel_rfl) (fun _ _ _ h => h) (Or.inl ⟨by kernel_rfl, fun W hW => by have c1 := hW.c1; go_simp⟩) hr ?_
        refine wpAnyH_take (i := 5) (v := .pointer (some ⟨B1 + 1, 0, none⟩)) rfl (by kernel_rfl) (by kernel_rfl) (by kernel_rfl) (fun _ _ _ h => h) (Yields.yieldsIf (Or.inl ⟨by kernel_rfl, fun _ => by go_simp⟩)) hr ?_
        refine wpAnyH_take (i := 6) (v := .pointer (some ⟨H, 1, none⟩)) rfl (by kernel_rfl) (by kernel_rfl) (by kernel_rfl) (fun _ _ _ h => h) (Yields.yieldsIf (Or.inl ⟨by kernel_rfl, fun _ => by go_simp⟩)) hr ?_
        refine wpAnyH_take (i := 7) (v := .pointer (some ⟨H, 1, none⟩)) rfl (by kernel_rfl) (by kernel_rfl) (by kernel_rfl) (fun _ _ _ h => h) (Yields.yieldsIf (Or.inl ⟨by kernel_rfl, fun _ => by go_simp⟩)) hr ?_
        refine wpAnyH_take (i := 8) (v := .int .u32 (F : Int)) rfl (by kernel_rfl) (by kernel_rfl) (by kernel_rfl) (fun _ _ _ h => h) (Or.inl ⟨by kernel_rfl, fun W hW => by have c1 := hW.c1; go_simp⟩) hr ?_
        have CC := (show Calls Try.prog 17 #[.pointer (some ⟨B1, 0, none⟩), .int .u32 (F : Int)] z0 _ from drop1 F hd)
        refine wpAnyH_ready (rs := [4]) (by kernel_rfl) (by simp) ?_
        refine AllReadyH.cons rfl (fun K2 hK2 => ?_) AllReadyH.nil
        go_simp
        refine Calls.mono CC ?_
        clear CC
        rintro e x4 ⟨rfl, hd, hkp⟩
        have hr := hr.block (hkp H (by simp))
        clear hkp
        refine hK2.out _ _ hr (fun hr => ?_)
        clear hK2 K2
        have CC := (show Calls Try.prog 18 #[.pointer (some ⟨B1 + 1, 0, none⟩), .int .u32 (F : Int)] x4 _ from drop2 F hd)
        refine wpAnyH_ready (rs := [9]) (by kernel_rfl) (by simp) ?_
        refine AllReadyH.cons rfl (fun K2 hK2 => ?_) AllReadyH.nil
        go_simp
        refine Calls.mono CC ?_
        clear CC
        rintro e x9 ⟨rfl, hd, hkp⟩
        have hr := hr.block (hkp H (by simp))
        clear hkp
        refine hK2.out _ _ hr (fun hr => ?_)
        clear hK2 K2
        refine wpAnyH_take (i := 10) (v := .bool false) rfl (by kernel_rfl) (by kernel_rfl) (by kernel_rfl) (fun _ _ _ h => h) (Yields.yieldsIf (Or.inl ⟨by kernel_rfl, fun _ => by go_simp⟩)) hr ?_
        refine wpAnyH_done (by kernel_rfl) ?_ _
        have HX : Hid (Dh w B1 (B1 + 1) ((prt (whose F) 0 l).2.1) ((prt (whose F) 0 l).2.1) [] x9) := hd.less (fun k hk => by simp at hk)
        clear hd hr
        go_wp2_with fail
        go_simp
        exact TAIL.out HX
      · go_wp2_with fail
        refine wp_region_held (S := fun W => DdAt W H D F) (by kernel_rfl) ?_
        change wpAnyH _ _ _ _ _ _ _ _ V0.drew
        have hr : DdAt V0.drew H D F := HDD.out.block rfl
        have hd : Dh w B1 (B1 + 1) l l [H] V0.drew := HD0.out.grew (below_drews 1)
        clear HD0 HDD
        generalize V0.drew = z0 at *
        refine wpAnyH_take (i := 0) (v := .pointer (some ⟨B1, 0, none⟩)) rfl (by kernel_rfl) (by kernel_rfl) (by kernel_rfl) (fun _ _ _ h => h) (Yields.yieldsIf (Or.inl ⟨by kernel_rfl, fun _ => by go_simp⟩)) hr ?_
        refine wpAnyH_take (i := 1) (v := .pointer (some ⟨H, 1, none⟩)) rfl (by kernel_rfl) (by kernel_rfl) (by kernel_rfl) (fun _ _ _ h => h) (Yields.yieldsIf (Or.inl ⟨by kernel_rfl, fun _ => by go_simp⟩)) hr ?_
        refine wpAnyH_take (i := 2) (v := .pointer (some ⟨H, 1, none⟩)) rfl (by kernel_rfl) (by kernel_rfl) (by kernel_rfl) (fun _ _ _ h => h) (Yields.yieldsIf (Or.inl ⟨by kernel_rfl, fun _ => by go_simp⟩)) hr ?_
        refine wpAnyH_take (i := 3) (v := .int .u32 (F : Int)) rfl (by kernel_rfl) (by kernel_rfl) (by kernel_rfl) (fun _ _ _ h => h) (Or.inl ⟨by kernel_rfl, fun W hW => by have c1 := hW.c1; go_simp⟩) hr ?_
        refine wpAnyH_take (i := 4) (v := .pointer (some ⟨H, 1, none⟩)) rfl (by kernel_rfl) (by kernel_rfl) (by kernel_rfl) (fun _ _ _ h => h) (Yields.yieldsIf (Or.inl ⟨by kernel_rfl, fun _ => by go_simp⟩)) hr ?_
        refine wpAnyH_take (i := 5) (v := .pointer (some ⟨H, 3, none⟩)) rfl (by kernel_rfl) (by kernel_rfl) (by kernel_rfl) (fun _ _ _ h => h) (Yields.yieldsIf (Or.inl ⟨by kernel_rfl, fun _ => by go_simp⟩)) hr ?_
        refine wpAnyH_take (i := 6) (v := .int .i64 D.r) rfl (by kernel_rfl) (by kernel_rfl) (by kernel_rfl) (fun _ _ _ h => h) (Or.inl ⟨by kernel_rfl, fun W hW => by have c3 := hW.c3; go_simp⟩) hr ?_
        refine wpAnyH_take (i := 8) (v := .pointer (some ⟨B1 + 1, 0, none⟩)) rfl (by kernel_rfl) (by kernel_rfl) (by kernel_rfl) (fun _ _ _ h => h) (Yields.yieldsIf (Or.inl ⟨by kernel_rfl, fun _ => by go_simp⟩)) hr ?_
        refine wpAnyH_take (i := 9) (v := .pointer (some ⟨H, 1, none⟩)) rfl (by kernel_rfl) (by kernel_rfl) (by kernel_rfl) (fun _ _ _ h => h) (Yields.yieldsIf (Or.inl ⟨by kernel_rfl, fun _ => by go_simp⟩)) hr ?_
        refine wpAnyH_take (i := 10) (v := .pointer (some ⟨H, 1, none⟩)) rfl (by kernel_rfl) (by kernel_rfl) (by kernel_rfl) (fun _ _ _ h => h) (Yields.yieldsIf (Or.inl ⟨by kernel_rfl, fun _ => by go_simp⟩)) hr ?_
        refine wpAnyH_take (i := 11) (v := .int .u32 (F : Int)) rfl (by kernel_rfl) (by kernel_rfl) (by kernel_rfl) (fun _ _ _ h => h) (Or.inl ⟨by kernel_rfl, fun W hW => by have c1 := hW.c1; go_simp⟩) hr ?_
        refine wpAnyH_take (i := 12) (v := .pointer (some ⟨H, 1, none⟩)) rfl (by kernel_rfl) (by kernel_rfl) (by kernel_rfl) (fun _ _ _ h => h) (Yields.yieldsIf (Or.inl ⟨by kernel_rfl, fun _ => by go_simp⟩)) hr ?_
        refine wpAnyH_take (i := 13) (v := .pointer (some ⟨H, 3, none⟩)) rfl (by kernel_rfl) (by kernel_rfl) (by kernel_rfl) (fun _ _ _ h => h) (Yields.yieldsIf (Or.inl ⟨by kernel_rfl, fun _ => by go_simp⟩)) hr ?_
        refine wpAnyH_take (i := 14) (v := .int .i64 D.r) rfl (by kernel_rfl) (by kernel_rfl) (by kernel_rfl) (fun _ _ _ h => h) (Or.inl ⟨by kernel_rfl, fun W hW => by have c3 := hW.c3; go_simp⟩) hr ?_
        have CC := (show Calls Try.prog 19 #[.pointer (some ⟨B1, 0, none⟩), .int .u32 (F : Int), .int .i64 D.r] z0 _ from rank1 F D.r hd)
        refine wpAnyH_ready (rs := [7]) (by kernel_rfl) (by simp) ?_
        refine AllReadyH.cons rfl (fun K2 hK2 => ?_) AllReadyH.nil
        go_simp
        refine Calls.mono CC ?_
        clear CC
        rintro e x7 ⟨rfl, hd, hkp⟩
        have hr := hr.block (hkp H (by simp))
        clear hkp
        refine hK2.out _ _ hr (fun hr => ?_)
        clear hK2 K2
        have CC := (show Calls Try.prog 20 #[.pointer (some ⟨B1 + 1, 0, none⟩), .int .u32 (F : Int), .int .i64 D.r] x7 _ from rank2 F D.r hd)
        refine wpAnyH_ready (rs := [15]) (by kernel_rfl) (by simp) ?_
        refine AllReadyH.cons rfl (fun K2 hK2 => ?_) AllReadyH.nil
        go_simp
        refine Calls.mono CC ?_
        clear CC
        rintro e x15 ⟨rfl, hd, hkp⟩
        have hr := hr.block (hkp H (by simp))
        clear hkp
        refine hK2.out _ _ hr (fun hr => ?_)
        clear hK2 K2
        refine wpAnyH_take (i := 16) (v := .bool false) rfl (by kernel_rfl) (by kernel_rfl) (by kernel_rfl) (fun _ _ _ h => h) (Yields.yieldsIf (Or.inl ⟨by kernel_rfl, fun _ => by go_simp⟩)) hr ?_
        refine wpAnyH_done (by kernel_rfl) ?_ _
        have HX : Hid (Dh w B1 (B1 + 1) (l.map (ranked F D.r)) (l.map (ranked F D.r)) [] x15) := hd.less (fun k hk => by simp at hk)
        clear hd hr
        go_wp2_with fail
        go_simp
        exact TAIL.out HX
    · obtain rfl : k = n := by omega
      have i2 : decide ((k : Int) < (k : Int)) = false := by simp
      have HBd : Hid (Below w.heap.size w wr) := hd.out.bel
      have C1 : Hid (Calls Try.prog 10 #[.pointer none, .agg #[.int .u32 0, .int .i64 0, .int .i64 0, .int .i64 1, .int .i64 0]] wr fun e w' => e = .returned (.bool false) ∧ Below wr.heap.size wr w') := put_nil ⟨0, 0, 0, 1, 0⟩ wr
      clear hd
      go_wp2_with fail
      refine C1.out.mono ?_
      rintro e w1' ⟨rfl, b1⟩
      have HB1 : Hid (Below w.heap.size w w1') := HBd.out.trans (b1.mono HBd.out.size)
      have C2 : Hid (Calls Try.prog 21 #[.pointer none] w1' fun e w' => e = .returned (.slice none 0 0) ∧ Below w1'.heap.size w1' w') := wants_nil w1'
      clear C1 b1 HBd
      go_wp2_with fail
      refine C2.out.mono ?_
      rintro e w2' ⟨rfl, b1⟩
      have HB2 : Hid (Below w.heap.size w w2') := HB1.out.trans (b1.mono HB1.out.size)
      have C3 : Hid (Calls Try.prog 13 #[.pointer none, .int .u32 0, .int .i64 9] w2' fun e w' => e = .returned (.slice none 0 0) ∧ Below w2'.heap.size w2' w') := take_nil 0 9 w2'
      clear C2 b1 HB1
      go_wp2_with fail
      refine C3.out.mono ?_
      rintro e w3' ⟨rfl, b1⟩
      have HB3 : Hid (Below w.heap.size w w3') := HB2.out.trans (b1.mono HB2.out.size)
      have C4 : Hid (Calls Try.prog 15 #[.pointer none, .int .i64 9] w3' fun e w' => e = .returned (.slice none 0 0) ∧ w' = w3') := expire_nil 9 w3'
      have C5 : Hid (Calls Try.prog 17 #[.pointer none, .int .u32 0] w3' fun e w' => e = .returned (.int .i64 0) ∧ w' = w3') := drop_nil 0 w3'
      have C6 : Hid (Calls Try.prog 19 #[.pointer none, .int .u32 0, .int .i64 0] w3' fun e w' => e = .returned (.int .i64 0) ∧ w' = w3') := prank_nil 0 0 w3'
      have C7 : Hid (Calls Try.prog 23 #[.pointer none] w3' fun e w' => e = .returned (.int .i64 0) ∧ w' = w3') := len_nil w3'
      clear C3 b1 HB2
      go_wp2_with fail
      refine C4.out.mono ?_
      rintro e w' ⟨rfl, hw⟩
      subst w'
      clear C4
      go_wp2_with fail
      refine C5.out.mono ?_
      rintro e w' ⟨rfl, hw⟩
      subst w'
      clear C5
      go_wp2_with fail
      refine C6.out.mono ?_
      rintro e w' ⟨rfl, hw⟩
      subst w'
      clear C6
      go_wp2_with fail
      refine C7.out.mono ?_
      rintro e w' ⟨rfl, hw⟩
      subst w'
      clear C7
      go_wp2_with fail
      go_ret
      exact ⟨rfl, HB3.out⟩

set_option maxRecDepth 100000 in
theorem lifted (os : Os) (started : os.Started) (H : Type) (enc : TypeId × Value → H) :
    ReturnsInHanded {} Try.checked os 3 .any (Rows.paceAllSpec.pre6 enc Try.prog Try.f3 Rows.paceAllRow.domain false) (Rows.paceAllSpec.post enc Try.prog Try.f3 false true false false) := by
  refine returnsInHanded_of_change (C := Try.checked) own started (by kernel_rfl) Try.func3
    (ChangeSpec.witness6 (enc := enc) (C := Try.checked) false ⟨#[], #[.slice none 0 0], []⟩ 8 (by kernel_rfl) (by kernel_rfl) (by kernel_rfl) (by kernel_rfl)) ?_
  intro W base args ds gs before hval0 hW hcnd _
  have hval : ∀ (j : Nat) t v, Try.f3.params[j]? = some t → args[j]? = some v → Value.okWide Try.prog W .any base t v := hval0
  have hW' := hW
  obtain ⟨p, q, hA0, hV, rfl, hfz, hnd⟩ := hW
  have hA : DataW.TrodAll enc Try.prog W 0 (fun _ => true) true Try.f3.params.toList args.toList ds p := hA0
  rw [Try.params3] at hA hval
  obtain ⟨v0, vs0, d0, ds0, p0, q0, hargs, rfl, rfl, h0, r0⟩ := trodAll_cons hA
  obtain ⟨rfl, rfl, rfl⟩ := trodAll_nil r0
  obtain rfl : args = #[v0] := by cases args; simp_all
  obtain ⟨rfl, rfl⟩ := trodVars_none hV
  obtain ⟨a0, len0, cap0, rfl⟩ := okWide_slice Try.underlying22 (hval 0 22 v0 rfl rfl)
  have k0 := h0
  have lt0 : ∀ x ∈ p0, x.block < W.heap.size := by obtain ⟨m, hm⟩ := k0; exact DataW.trod_lt m _ _ _ hm
  obtain ⟨K0, w0⟩ := open_deeds h0
  clear hA0 hval0
  refine (walk a0 len0 cap0 K0 W w0).mono fun e W' ⟨he, bel⟩ => ?_
  subst he
  exact ⟨_, rfl, _, _, _, [], _, [], hW', trodAll_mk1 (shut_bool Try.underlying4 _), (trodAll_cons_mk (Below.trod laidOut (by kernel_rfl) (of_decide_eq_true (by kernel_rfl)) k0 bel lt0) trodAll_mk0), rfl, bel.frame _, fun h => by cases h⟩

theorem over : Rows.paceAllRow.holds Try.pinned (OpenSpec.ofChange Rows.paceAllSpec) :=
  OpenClaim.holds_of_wide 3 Try.f3 rfl rfl rfl rfl rfl rfl rfl ⟨rfl, rfl, rfl, rfl, rfl⟩ rfl rfl rfl rfl rfl (by kernel_rfl) Try.func3 (by kernel_rfl)
    (of_decide_eq_true (by kernel_rfl)) (by unfold Func.isWrapper; first | (rw [if_pos (by decide +kernel)]; kernel_rfl) | (rw [if_neg (by decide +kernel)]; exact ⟨rfl, rfl⟩))
    (fun os started H enc _ => lifted os started H enc)

theorem proved : Rows.PaceAllSaid := over
end Go.Proofs.Ytaikkoijoolhkaa.paceAll
namespace Go.Proofs.Ytaikkoijoolhkaa
theorem paceAll_holds : Rows.PaceAllSaid := paceAll.proved
#print axioms paceAll_holds
end Go.Proofs.Ytaikkoijoolhkaa
