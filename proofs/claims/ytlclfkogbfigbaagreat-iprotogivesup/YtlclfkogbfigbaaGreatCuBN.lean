/-
  Layer 16: the laws' begun: two ends. Layer 16: what happens to two ends, in memory; Right over a drive by its cells.
-/
import Derived.Test.YtlclfkogbfigbaaGreatCuBM
import Derived.Deep.RegionHeld3
import Derived.Deep.DeepCutAuto
namespace Go.Proofs.YtlclfkogbfigbaaGreat
open Go.RowKit
def izD : Gp.Dr := ⟨0, 0, false, 0, 0, 0, Wn.zero, 0, [], [], 0, [], 0, 0, []⟩
theorem izDH (Kp : Nat → Prop) (W : World) : IDH Kp W izD #[.int .i64 0, .int .i64 0, .bool false, .int .i64 0, .int .i64 0, .int .i64 0, .int .i64 0, .int .i64 0, .int .i64 0, .slice none 0 0, .int .i64 0, .slice none 0 0, .string ⟨#[]⟩, .int .i64 0, .slice none 0 0, .int .i64 0, .int .i64 0, .slice none 0 0] := ⟨⟨none, 0, none, 0, none, 0, none, 0⟩, rfl, ⟨.inl rfl, .inl rfl, .inl rfl, .inl rfl⟩, Nat.le_refl _, Nat.zero_le _, Nat.zero_le _, Nat.zero_le _, .inl rfl, .inl rfl, .inl rfl, .inl rfl⟩
/-- the rest of a pair's cells: what is under way; nothing was sent, came, or was lost -/
def ibR (w0 w1 : List UInt8) : List Value := [.string ⟨w0.toArray⟩, .string ⟨w1.toArray⟩, .string ⟨#[]⟩, .string ⟨#[]⟩, .string ⟨#[]⟩, .string ⟨#[]⟩, .string ⟨#[]⟩, .string ⟨#[]⟩, .string ⟨#[]⟩, .string ⟨#[]⟩, .int .i64 0, .int .i64 0, .slice none 0 0, .slice none 0 0, .bool false]
theorem iinfo_pair : (Tryz.prog.info? 54).map (·.size) = some 51 := by kernel_rfl
/-- what stands ahead of begun's rounds -/
structure IBg (Kp : Nat → Prop) (B4 B6 : Nat) (w wr : World) (a b : Gp.Dr) (w0 w1 : List UInt8) : Prop where
  pb : ∃ CA CB, IPB Kp B6 wr a b CA CB (ibR w0 w1)
  k4 : Rg.Bk B4 [.int .i64 0, .int .i64 0, .bool false, .int .i64 0, .int .i64 0, .int .i64 0, .int .i64 0, .int .i64 0, .int .i64 0, .slice none 0 0, .int .i64 0, .slice none 0 0, .string ⟨#[]⟩, .int .i64 0, .slice none 0 0, .int .i64 0, .int .i64 0, .slice none 0 0, .int .i64 0, .int .i64 0, .bool false, .int .i64 0, .int .i64 0, .int .i64 0, .int .i64 0, .int .i64 0, .int .i64 0, .slice none 0 0, .int .i64 0, .slice none 0 0, .string ⟨#[]⟩, .int .i64 0, .slice none 0 0, .int .i64 0, .int .i64 0, .slice none 0 0, .string ⟨#[]⟩, .string ⟨#[]⟩, .string ⟨#[]⟩, .string ⟨#[]⟩, .string ⟨#[]⟩, .string ⟨#[]⟩, .string ⟨#[]⟩, .string ⟨#[]⟩, .string ⟨#[]⟩, .string ⟨#[]⟩, .int .i64 0, .int .i64 0, .slice none 0 0, .slice none 0 0, .bool false] 54 wr
  bw : Below w.heap.size w wr
theorem IBg.start (w : World) : IBg (fun b => b ≠ w.heap.size + 1) w.heap.size (w.heap.size + 1) w ((w.alloc (.cells #[.int .i64 0, .int .i64 0, .bool false, .int .i64 0, .int .i64 0, .int .i64 0, .int .i64 0, .int .i64 0, .int .i64 0, .slice none 0 0, .int .i64 0, .slice none 0 0, .string ⟨#[]⟩, .int .i64 0, .slice none 0 0, .int .i64 0, .int .i64 0, .slice none 0 0, .int .i64 0, .int .i64 0, .bool false, .int .i64 0, .int .i64 0, .int .i64 0, .int .i64 0, .int .i64 0, .int .i64 0, .slice none 0 0, .int .i64 0, .slice none 0 0, .string ⟨#[]⟩, .int .i64 0, .slice none 0 0, .int .i64 0, .int .i64 0, .slice none 0 0, .string ⟨#[]⟩, .string ⟨#[]⟩, .string ⟨#[]⟩, .string ⟨#[]⟩, .string ⟨#[]⟩, .string ⟨#[]⟩, .string ⟨#[]⟩, .string ⟨#[]⟩, .string ⟨#[]⟩, .string ⟨#[]⟩, .int .i64 0, .int .i64 0, .slice none 0 0, .slice none 0 0, .bool false] 54)).alloc (.cells #[.int .i64 0, .int .i64 0, .bool false, .int .i64 0, .int .i64 0, .int .i64 0, .int .i64 0, .int .i64 0, .int .i64 0, .slice none 0 0, .int .i64 0, .slice none 0 0, .string ⟨#[]⟩, .int .i64 0, .slice none 0 0, .int .i64 0, .int .i64 0, .slice none 0 0, .int .i64 0, .int .i64 0, .bool false, .int .i64 0, .int .i64 0, .int .i64 0, .int .i64 0, .int .i64 0, .int .i64 0, .slice none 0 0, .int .i64 0, .slice none 0 0, .string ⟨#[]⟩, .int .i64 0, .slice none 0 0, .int .i64 0, .int .i64 0, .slice none 0 0, .string ⟨#[]⟩, .string ⟨#[]⟩, .string ⟨#[]⟩, .string ⟨#[]⟩, .string ⟨#[]⟩, .string ⟨#[]⟩, .string ⟨#[]⟩, .string ⟨#[]⟩, .string ⟨#[]⟩, .string ⟨#[]⟩, .int .i64 0, .int .i64 0, .slice none 0 0, .slice none 0 0, .bool false] 54)) izD izD [] [] := by
  refine ⟨⟨#[.int .i64 0, .int .i64 0, .bool false, .int .i64 0, .int .i64 0, .int .i64 0, .int .i64 0, .int .i64 0, .int .i64 0, .slice none 0 0, .int .i64 0, .slice none 0 0, .string ⟨#[]⟩, .int .i64 0, .slice none 0 0, .int .i64 0, .int .i64 0, .slice none 0 0], #[.int .i64 0, .int .i64 0, .bool false, .int .i64 0, .int .i64 0, .int .i64 0, .int .i64 0, .int .i64 0, .int .i64 0, .slice none 0 0, .int .i64 0, .slice none 0 0, .string ⟨#[]⟩, .int .i64 0, .slice none 0 0, .int .i64 0, .int .i64 0, .slice none 0 0], ?_, izDH _ _, izDH _ _, fun h => h rfl⟩, (Rg.Bk.new rfl).old _, Rg.al2 w _ _⟩
  exact Rg.Bk.new (b := w.heap.size + 1) (C := [.int .i64 0, .int .i64 0, .bool false, .int .i64 0, .int .i64 0, .int .i64 0, .int .i64 0, .int .i64 0, .int .i64 0, .slice none 0 0, .int .i64 0, .slice none 0 0, .string ⟨#[]⟩, .int .i64 0, .slice none 0 0, .int .i64 0, .int .i64 0, .slice none 0 0, .int .i64 0, .int .i64 0, .bool false, .int .i64 0, .int .i64 0, .int .i64 0, .int .i64 0, .int .i64 0, .int .i64 0, .slice none 0 0, .int .i64 0, .slice none 0 0, .string ⟨#[]⟩, .int .i64 0, .slice none 0 0, .int .i64 0, .int .i64 0, .slice none 0 0, .string ⟨#[]⟩, .string ⟨#[]⟩, .string ⟨#[]⟩, .string ⟨#[]⟩, .string ⟨#[]⟩, .string ⟨#[]⟩, .string ⟨#[]⟩, .string ⟨#[]⟩, .string ⟨#[]⟩, .string ⟨#[]⟩, .int .i64 0, .int .i64 0, .slice none 0 0, .slice none 0 0, .bool false]) (ty := 54) (W := w.alloc (.cells #[.int .i64 0, .int .i64 0, .bool false, .int .i64 0, .int .i64 0, .int .i64 0, .int .i64 0, .int .i64 0, .int .i64 0, .slice none 0 0, .int .i64 0, .slice none 0 0, .string ⟨#[]⟩, .int .i64 0, .slice none 0 0, .int .i64 0, .int .i64 0, .slice none 0 0, .int .i64 0, .int .i64 0, .bool false, .int .i64 0, .int .i64 0, .int .i64 0, .int .i64 0, .int .i64 0, .int .i64 0, .slice none 0 0, .int .i64 0, .slice none 0 0, .string ⟨#[]⟩, .int .i64 0, .slice none 0 0, .int .i64 0, .int .i64 0, .slice none 0 0, .string ⟨#[]⟩, .string ⟨#[]⟩, .string ⟨#[]⟩, .string ⟨#[]⟩, .string ⟨#[]⟩, .string ⟨#[]⟩, .string ⟨#[]⟩, .string ⟨#[]⟩, .string ⟨#[]⟩, .string ⟨#[]⟩, .int .i64 0, .int .i64 0, .slice none 0 0, .slice none 0 0, .bool false] 54)) (by simp)
theorem isize_at (wr : World) (K : Nat) (hK : K < 3) : ∃ z : Int, (wr.alloc (.cells #[.int .i64 100, .int .i64 7, .int .i64 4095] 3)).cell? ⟨wr.heap.size, K, none⟩ = some (.int .i64 z) ∧ 1 ≤ z ∧ z ≤ 4095 := by
  have k : Rg.Bk wr.heap.size [.int .i64 100, .int .i64 7, .int .i64 4095] 3 (wr.alloc (.cells #[.int .i64 100, .int .i64 7, .int .i64 4095] 3)) := Rg.Bk.new rfl
  match K, hK with
  | 0, _ => exact ⟨100, k.cell 0, by decide, by decide⟩
  | 1, _ => exact ⟨7, k.cell 1, by decide, by decide⟩
  | 2, _ => exact ⟨4095, k.cell 2, by decide, by decide⟩
/-- what begun leaves -/
def IBgPost (w : World) (e : Ending) (w' : World) : Prop := ∃ CA CB za zb ra rb, e = .returned (.tuple #[.agg (IPC2 CA CB (ibR (Ip.sync (Ip.begin_ false zb rb)) (Ip.sync (Ip.begin_ true za ra)))).toArray, .bool true]) ∧ Hid (∀ Kp : Nat → Prop, IDH Kp w' (Ip.begin_ true za ra) CA ∧ IDH Kp w' (Ip.begin_ false zb rb) CB) ∧ Hid (Below w.heap.size w w') ∧ Hid ((1 ≤ za ∧ za ≤ 4095) ∧ (1 ≤ zb ∧ zb ≤ 4095) ∧ (1 ≤ ra ∧ ra ≤ 16) ∧ 1 ≤ rb ∧ rb ≤ 16)
set_option maxHeartbeats 4000000 in
set_option maxRecDepth 100000 in
theorem ibegun_core (x y : Int) (U U1 V V5 K0 K1 J0 J1 : Nat) (r0 r1 : Int) (w : World)
    (u0 : IntKind.u64.wrap x = (U : Int)) (u1 : IntKind.u64.wrap (U : Int) = (U : Int)) (u2 : (U : Int).tmod 3 = (K0 : Int)) (u3 : IntKind.u64.wrap ((U : Int) + 1) = (U1 : Int)) (u4 : (U1 : Int).tmod 3 = (K1 : Int)) (hK0 : Hid (K0 < 3)) (hK1 : Hid (K1 < 3)) (c0 : (0 : Int) ≤ (K0 : Int)) (c1 : (K0 : Int) < 3) (c2 : (0 : Int) ≤ (K1 : Int)) (c3 : (K1 : Int) < 3)
    (v0 : IntKind.u64.wrap y = (V : Int)) (v1 : IntKind.u64.wrap (V : Int) = (V : Int)) (v2 : (V : Int).tmod 16 = (J0 : Int)) (v3 : IntKind.u64.wrap ((V : Int) + 5) = (V5 : Int)) (v4 : (V5 : Int).tmod 16 = (J1 : Int)) (j0 : IntKind.i64.wrap (J0 : Int) = (J0 : Int)) (j1 : IntKind.i64.wrap (J1 : Int) = (J1 : Int)) (r0e : wrap64 (1 + (J0 : Int)) = r0) (r1e : wrap64 (1 + (J1 : Int)) = r1) (hr : Hid ((1 ≤ r0 ∧ r0 ≤ 16) ∧ (1 ≤ r1 ∧ r1 ≤ 16))) :
    Calls Tryz.prog 23 #[.int .i64 x, .int .i64 y] w fun e w' => IBgPost w e w' := by
  have hS := Rg.hid (IBg.start w)
  go_enter Tryz.func23, Tryz.ntmps23
  go_upto_region 2 with fail
  generalize World.alloc _ _ = w1 at *
  obtain ⟨B4, hB4⟩ : ∃ B, B = w.heap.size := ⟨_, rfl⟩
  obtain ⟨B6, hB6⟩ : ∃ B, B = w.heap.size + 1 := ⟨_, rfl⟩
  rw [← hB6, ← hB4] at hS
  rw [← hB6, ← hB4]
  have n46 : Hid (B4 ≠ B6) := by show _ ≠ _; omega
  have h6w : Hid (w.heap.size ≤ B6) := by show _ ≤ _; omega
  have h4w : Hid (w.heap.size ≤ B4) := by show _ ≤ _; omega
  clear hB4 hB6
  generalize (fun b => b ≠ B6 : Nat → Prop) = Kp at hS
  go_wp2
  go_loopw [12] (fun vi wr => (vi = .int .i64 0 ∧ Hid (IBg Kp B4 B6 w wr izD izD [] [])) ∨ (∃ za, vi = .int .i64 1 ∧ Hid (1 ≤ za ∧ za ≤ 4095) ∧ Hid (IBg Kp B4 B6 w wr (Ip.begin_ true za r0) izD [] (Ip.sync (Ip.begin_ true za r0)))) ∨ (∃ za zb, vi = .int .i64 2 ∧ Hid (1 ≤ za ∧ za ≤ 4095) ∧ Hid (1 ≤ zb ∧ zb ≤ 4095) ∧ Hid (IBg Kp B4 B6 w wr (Ip.begin_ true za r0) (Ip.begin_ false zb r1) (Ip.sync (Ip.begin_ false zb r1)) (Ip.sync (Ip.begin_ true za r0))))) (fun vi _ => 2 - (intOf vi).toNat)
  case atStart => exact .inl ⟨rfl, hS⟩
  case round =>
    rcases hrel with ⟨rfl, hI⟩ | ⟨za, rfl, hza, hI⟩ | ⟨za, zb, rfl, hza, hzb, hI⟩
    · obtain ⟨⟨CA, CB, hP⟩, k6, bw⟩ := hI.out
      obtain ⟨z, cz, hz1, hz2⟩ := isize_at wr K0 hK0.out
      have HB := Rg.hid (fun W => ihbegin Kp true z r0 W ⟨hz1, hz2⟩ hr.out.1)
      have hz := Rg.hid (And.intro hz1 hz2)
      have bS := Rg.hid (Rg.al1 wr (.cells #[.int .i64 100, .int .i64 7, .int .i64 4095] 3))
      have hPS := Rg.hid (hP.below bS.out)
      have k6S := Rg.hid (k6.below bS.out k6.lt)
      have bwS := Rg.hid (Rg.chain bw bS.out)
      clear hz1 hz2 hP k6 bw bS
      clear hI hS
      go_upto_region 6 with fail
      clear cz
      generalize World.alloc _ _ = wS at *
      go_upto_region 7 with (first | (go_at_call 7; refine (HB.out _).mono ?_; rintro e w2 ⟨CD, rfl, hD2, b2⟩; obtain ⟨w3, st3, k3, b3, hD3⟩ := hD2.out.box) | (with_reducible refine is_store (.tmp 9) (.tmp 38) 29 ?_; refine list_store (.tmp 9) (.tmp 38) 29 rfl rfl st3.out ?_))
      obtain ⟨B9, hB9⟩ : ∃ B, B = w2.heap.size := ⟨_, rfl⟩
      rw [← hB9] at k3 ⊢
      have b13 := Rg.hid (Rg.chain b2.out b3.out)
      have hP3 := Rg.hid (hPS.out.below b13.out)
      have k63 := Rg.hid (k6S.out.below b13.out k6S.out.lt)
      have bw3 := Rg.hid (Rg.chain bwS.out b13.out)
      have hldD := Rg.hid (hD3.out.load k3.out)
      obtain ⟨w4, st4, hP4, o4⟩ := hP3.out.storeA hD3.out
      have k64 := Rg.hid (k63.out.same (o4.out.block B4 n46.out))
      have bw4 := Rg.hid (bw3.out.trans (o4.out.bel h6w.out))
      clear hB9 HB hPS k6S bwS hD2 b2 st3 b3 hP3 k63 bw3 b13 k3 hD3 o4
      go_upto_region 10 with (first | (with_reducible refine is_load (.tmp 9) 29 ?_; refine list_load (.tmp 9) 29 rfl hldD.out ?_) | (with_reducible refine is_store (.tmp 47) (.tmp 45) 29 ?_; refine list_mstore (.tmp 47) (.tmp 45) 29 rfl rfl st4.out ?_))
      have c37 : w4.cell? ⟨B6, 37, none⟩ = some (.string ⟨#[]⟩) := hP4.out.cell 1
      have f37 := hP4.out.bk.thaw 37
      have hP5 := Rg.hid (hP4.out.set 1 (.string ⟨(Ip.sync (Ip.begin_ true z r0)).toArray⟩))
      have k65 := Rg.hid (k64.out.same ((Rg.Only.setCell w4 B6 37 (.string ⟨(Ip.sync (Ip.begin_ true z r0)).toArray⟩)).block B4 n46.out))
      have bw5 := Rg.hid (bw4.out.trans ((Rg.Only.setCell w4 B6 37 (.string ⟨(Ip.sync (Ip.begin_ true z r0)).toArray⟩)).bel h6w.out))
      clear hldD st4 hP4 k64 bw4
      go_wp2
      go_roundw
      case rel => exact .inr (.inl ⟨z, by go_num, hz, ⟨CD, CB, hP5.out⟩, k65.out, bw5.out⟩)
      case measure => simp [intOf]
    · obtain ⟨⟨CA, CB, hP⟩, k6, bw⟩ := hI.out
      obtain ⟨z, cz, hz1, hz2⟩ := isize_at wr K1 hK1.out
      have HB := Rg.hid (fun W => ihbegin Kp false z r1 W ⟨hz1, hz2⟩ hr.out.2)
      have hz := Rg.hid (And.intro hz1 hz2)
      have bS := Rg.hid (Rg.al1 wr (.cells #[.int .i64 100, .int .i64 7, .int .i64 4095] 3))
      have hPS := Rg.hid (hP.below bS.out)
      have k6S := Rg.hid (k6.below bS.out k6.lt)
      have bwS := Rg.hid (Rg.chain bw bS.out)
      clear hz1 hz2 hP k6 bw bS
      clear hI hS
      go_upto_region 6 with fail
      clear cz
      generalize World.alloc _ _ = wS at *
      go_upto_region 7 with (first | (go_at_call 7; refine (HB.out _).mono ?_; rintro e w2 ⟨CD, rfl, hD2, b2⟩; obtain ⟨w3, st3, k3, b3, hD3⟩ := hD2.out.box) | (with_reducible refine is_store (.tmp 9) (.tmp 38) 29 ?_; refine list_store (.tmp 9) (.tmp 38) 29 rfl rfl st3.out ?_))
      obtain ⟨B9, hB9⟩ : ∃ B, B = w2.heap.size := ⟨_, rfl⟩
      rw [← hB9] at k3 ⊢
      have b13 := Rg.hid (Rg.chain b2.out b3.out)
      have hP3 := Rg.hid (hPS.out.below b13.out)
      have k63 := Rg.hid (k6S.out.below b13.out k6S.out.lt)
      have bw3 := Rg.hid (Rg.chain bwS.out b13.out)
      have hldD := Rg.hid (hD3.out.load k3.out)
      obtain ⟨w4, st4, hP4, o4⟩ := hP3.out.storeB hD3.out
      have k64 := Rg.hid (k63.out.same (o4.out.block B4 n46.out))
      have bw4 := Rg.hid (bw3.out.trans (o4.out.bel h6w.out))
      clear hB9 HB hPS k6S bwS hD2 b2 st3 b3 hP3 k63 bw3 b13 k3 hD3 o4
      go_upto_region 10 with (first | (with_reducible refine is_load (.tmp 9) 29 ?_; refine list_load (.tmp 9) 29 rfl hldD.out ?_) | (with_reducible refine is_store (.tmp 47) (.tmp 45) 29 ?_; refine list_mstore (.tmp 47) (.tmp 45) 29 rfl rfl st4.out ?_))
      have c37 : w4.cell? ⟨B6, 36, none⟩ = some (.string ⟨#[]⟩) := hP4.out.cell 0
      have f37 := hP4.out.bk.thaw 36
      have hP5 := Rg.hid (hP4.out.set 0 (.string ⟨(Ip.sync (Ip.begin_ false z r1)).toArray⟩))
      have k65 := Rg.hid (k64.out.same ((Rg.Only.setCell w4 B6 36 (.string ⟨(Ip.sync (Ip.begin_ false z r1)).toArray⟩)).block B4 n46.out))
      have bw5 := Rg.hid (bw4.out.trans ((Rg.Only.setCell w4 B6 36 (.string ⟨(Ip.sync (Ip.begin_ false z r1)).toArray⟩)).bel h6w.out))
      clear hldD st4 hP4 k64 bw4
      go_wp2
      go_roundw
      case rel => exact .inr (.inr ⟨za, z, by go_num, hza, hz, ⟨CA, CD, hP5.out⟩, k65.out, bw5.out⟩)
      case measure => simp [intOf]
    · obtain ⟨⟨CA, CB, hP⟩, k6, bw⟩ := hI.out
      have hsz : (IPC2 CA CB (ibR (Ip.sync (Ip.begin_ false zb r1)) (Ip.sync (Ip.begin_ true za r0)))).toArray.size = 51 := by
        unfold IPC2 ibR
        simp [hP.ha.size, hP.hb.size]
      have hone : (IPC2 CA CB (ibR (Ip.sync (Ip.begin_ false zb r1)) (Ip.sync (Ip.begin_ true za r0)))).toArray.all (·.oneCell') = true := by
        have h1 := hP.ha.one
        have h2 := hP.hb.one
        unfold IPC2 ibR
        simp [Value.oneCell'] at *
        exact ⟨h1, h2⟩
      obtain ⟨CP, hCP⟩ : ∃ CP, CP = (IPC2 CA CB (ibR (Ip.sync (Ip.begin_ false zb r1)) (Ip.sync (Ip.begin_ true za r0)))).toArray := ⟨_, rfl⟩
      have k8 := hP.bk
      have eL : IPC2 CA CB (ibR (Ip.sync (Ip.begin_ false zb r1)) (Ip.sync (Ip.begin_ true za r0))) = CP.toList := by rw [hCP]
      rw [eL] at k8
      rw [← hCP] at hsz hone
      have hin : (Tryz.prog.info? 54).map (·.size) = some CP.size := by rw [hsz]; exact iinfo_pair
      have hld := Rg.hid (Rg.row_loadVar (P := Tryz.prog) (t := 54) (CS := CP) k8 Tryz.underlying54 rfl hin)
      obtain ⟨w5, st5, k5, o5⟩ := Rg.row_storeVar (P := Tryz.prog) (t := 54) (CS := CP) k6 hin (by rw [hsz]; rfl) hone
      have hres := Rg.row_loadVar (P := Tryz.prog) (t := 54) (CS := CP) k5 Tryz.underlying54 rfl hin
      have hfe : IBgPost w (.returned (.tuple #[.agg CP, .bool true])) w5 := by
        refine ⟨CA, CB, za, zb, r0, r1, by rw [hCP], ?_, bw.trans (o5.bel h4w.out), ⟨hza.out, hzb.out, hr.out.1, hr.out.2⟩⟩
        intro Kq
        exact ⟨(hP.ha.any (Kq := fun b => b ≠ B4) rfl rfl rfl rfl).only (fun h => h rfl) o5 |>.any rfl rfl rfl rfl, (hP.hb.any (Kq := fun b => b ≠ B4) rfl rfl rfl rfl).only (fun h => h rfl) o5 |>.any rfl rfl rfl rfl⟩
      replace st5 := Rg.hid st5
      replace hres := Rg.hid hres
      replace hfe := Rg.hid hfe
      clear hsz hone hCP k8 eL hin k5 o5 hP k6 bw hI hza hzb hS
      go_upto_region 12 with fail
      go_wp2_with (first | (with_reducible refine is_load (.tmp 6) 54 ?_; refine list_load (.tmp 6) 54 rfl hld.out ?_) | (with_reducible refine is_store (.tmp 4) (.tmp 54) 54 ?_; refine list_store (.tmp 4) (.tmp 54) 54 rfl rfl st5.out ?_))
      exact bodyPost_ret (v := .tuple #[.agg CP, .bool true]) (iresults_row2 rfl rfl rfl hres.out) rfl hfe.out
theorem nums3 (x : Int) : ∃ U U1 K0 K1 : Nat, IntKind.u64.wrap x = (U : Int) ∧ IntKind.u64.wrap (U : Int) = (U : Int) ∧ (U : Int).tmod 3 = (K0 : Int) ∧ IntKind.u64.wrap ((U : Int) + 1) = (U1 : Int) ∧ (U1 : Int).tmod 3 = (K1 : Int) ∧ K0 < 3 ∧ K1 < 3 := by
  obtain ⟨U, hU⟩ : ∃ U : Nat, IntKind.u64.wrap x = (U : Int) := ⟨(IntKind.u64.wrap x).toNat, by rw [IntKind.wrap_u64]; omega⟩
  have hU2 : U < 18446744073709551616 := by rw [IntKind.wrap_u64] at hU; omega
  obtain ⟨U3, hU3⟩ : ∃ U3 : Nat, IntKind.u64.wrap ((U : Int) + 1) = (U3 : Int) := ⟨(IntKind.u64.wrap ((U : Int) + 1)).toNat, by rw [IntKind.wrap_u64]; omega⟩
  refine ⟨U, U3, U % 3, U3 % 3, hU, by rw [IntKind.wrap_u64]; omega, ?_, hU3, ?_, by omega, by omega⟩
  · rw [Int.tmod_eq_emod_of_nonneg (by omega)]; omega
  · rw [Int.tmod_eq_emod_of_nonneg (by omega)]; omega
theorem nums16 (x : Int) : ∃ U U1 K0 K1 : Nat, IntKind.u64.wrap x = (U : Int) ∧ IntKind.u64.wrap (U : Int) = (U : Int) ∧ (U : Int).tmod 16 = (K0 : Int) ∧ IntKind.u64.wrap ((U : Int) + 5) = (U1 : Int) ∧ (U1 : Int).tmod 16 = (K1 : Int) ∧ K0 < 16 ∧ K1 < 16 := by
  obtain ⟨U, hU⟩ : ∃ U : Nat, IntKind.u64.wrap x = (U : Int) := ⟨(IntKind.u64.wrap x).toNat, by rw [IntKind.wrap_u64]; omega⟩
  have hU2 : U < 18446744073709551616 := by rw [IntKind.wrap_u64] at hU; omega
  obtain ⟨U3, hU3⟩ : ∃ U3 : Nat, IntKind.u64.wrap ((U : Int) + 5) = (U3 : Int) := ⟨(IntKind.u64.wrap ((U : Int) + 5)).toNat, by rw [IntKind.wrap_u64]; omega⟩
  refine ⟨U, U3, U % 16, U3 % 16, hU, by rw [IntKind.wrap_u64]; omega, ?_, hU3, ?_, by omega, by omega⟩
  · rw [Int.tmod_eq_emod_of_nonneg (by omega)]; omega
  · rw [Int.tmod_eq_emod_of_nonneg (by omega)]; omega
theorem sm16 (J : Nat) (h : J < 16) : IntKind.i64.wrap (J : Int) = (J : Int) ∧ wrap64 (1 + (J : Int)) = 1 + (J : Int) ∧ (1 : Int) ≤ 1 + (J : Int) ∧ 1 + (J : Int) ≤ 16 := ⟨by rw [IntKind.wrap_i64]; omega, by unfold wrap64; omega, by omega, by omega⟩
theorem sm3 (K : Nat) (h : K < 3) : (0 : Int) ≤ (K : Int) ∧ (K : Int) < 3 := by omega
theorem ibegun_any (x y : Int) (w : World) : Calls Tryz.prog 23 #[.int .i64 x, .int .i64 y] w fun e w' => IBgPost w e w' := by
  obtain ⟨U, U1, K0, K1, u0, u1, u2, u3, u4, k0, k1⟩ := nums3 x
  obtain ⟨V, V5, J0, J1, v0, v1, v2, v3, v4, j0, j1⟩ := nums16 y
  obtain ⟨a1, a2, a3, a4⟩ := sm16 J0 j0
  obtain ⟨b1, b2, b3, b4⟩ := sm16 J1 j1
  obtain ⟨c1, c2⟩ := sm3 K0 k0
  obtain ⟨d1, d2⟩ := sm3 K1 k1
  exact ibegun_core x y U U1 V V5 K0 K1 J0 J1 _ _ w u0 u1 u2 u3 u4 k0 k1 c1 c2 d1 d2 v0 v1 v2 v3 v4 a1 b1 a2 b2 ⟨⟨a3, a4⟩, b3, b4⟩
end Go.Proofs.YtlclfkogbfigbaaGreat

namespace Go.Proofs.YtlclfkogbfigbaaGreat
open Go.RowKit
namespace Ip
/-- What happens. -/
structure Op6 where
  k : Int
  y : Int
  n : Int
  b : Int
  s : ByteArray
end Ip
/-- its cells -/
def ioE : Rg.El Ip.Op6 := { enc := fun o => [.int .i64 o.k, .int .i64 o.y, .int .i64 o.n, .int .i64 o.b, .string o.s], m := 5, hm := fun _ => rfl, pos := by decide, one := fun x u hu => by simp at hu; rcases hu with rfl | rfl | rfl | rfl | rfl <;> rfl, ty := 58 }
theorem io_at {W : World} {b o : Nat} {p : Ip.Op6} (h : Rg.At W b o (ioE.enc p)) : W.cell? ⟨b, o, none⟩ = some (.int .i64 p.k) ∧ W.cell? ⟨b, o + 1, none⟩ = some (.int .i64 p.y) ∧ W.cell? ⟨b, o + 2, none⟩ = some (.int .i64 p.n) ∧ W.cell? ⟨b, o + 3, none⟩ = some (.int .i64 p.b) ∧ W.cell? ⟨b, o + 4, none⟩ = some (.string p.s) := ⟨h 0 _ rfl, h 1 _ rfl, h 2 _ rfl, h 3 _ rfl, h 4 _ rfl⟩
theorem ihright {Kp : Nat → Prop} {w : World} {d : Gp.Dr} {CS : Array Value} (h : IDH Kp w d CS) (hr : Ip.right d) : Calls Tryz.prog 21 #[.agg CS] w fun e w' => e = .returned (.bool true) ∧ Below w.heap.size w w' := by
  obtain ⟨p, rfl, h⟩ := h
  exact iright_yes d p w hr h.at_.win h.at_.queue h.at_.ahead h.wl h.ql
theorem idh_buf {Kp : Nat → Prop} {W W2 : World} {d : Gp.Dr} {CS : Array Value} {B : Nat} (h : IDH Kp W d CS) (k : Rg.Bk B CS.toList 29 W2) : W2.cell? ⟨B, 12, none⟩ = some (.string ⟨d.buf.toArray⟩) := by
  obtain ⟨p, rfl, _⟩ := h
  exact k.cell 12
theorem idh_ahead {Kp : Nat → Prop} {W W2 : World} {d : Gp.Dr} {CS : Array Value} {B : Nat} (h : IDH Kp W d CS) (k : Rg.Bk B CS.toList 29 W2) : ∃ a c, W2.cell? ⟨B, 11, none⟩ = some (.slice a d.ahead.length c) := by
  obtain ⟨p, rfl, _⟩ := h
  exact ⟨_, _, k.cell 11⟩
/-- a pair laid in a new block -/
theorem ipair_box {w : World} {CA CB : Array Value} {a b : Gp.Dr} {w0 w1 : List UInt8} (hA : ∀ Kp : Nat → Prop, IDH Kp w a CA) (hB : ∀ Kp : Nat → Prop, IDH Kp w b CB) : ∃ W', Hid ((storeVar 54 ⟨w.heap.size, 0, none⟩ (.agg (IPC2 CA CB (ibR w0 w1)).toArray)).run Tryz.prog (w.alloc (.cells #[.int .i64 0, .int .i64 0, .bool false, .int .i64 0, .int .i64 0, .int .i64 0, .int .i64 0, .int .i64 0, .int .i64 0, .slice none 0 0, .int .i64 0, .slice none 0 0, .string ⟨#[]⟩, .int .i64 0, .slice none 0 0, .int .i64 0, .int .i64 0, .slice none 0 0, .int .i64 0, .int .i64 0, .bool false, .int .i64 0, .int .i64 0, .int .i64 0, .int .i64 0, .int .i64 0, .int .i64 0, .slice none 0 0, .int .i64 0, .slice none 0 0, .string ⟨#[]⟩, .int .i64 0, .slice none 0 0, .int .i64 0, .int .i64 0, .slice none 0 0, .string ⟨#[]⟩, .string ⟨#[]⟩, .string ⟨#[]⟩, .string ⟨#[]⟩, .string ⟨#[]⟩, .string ⟨#[]⟩, .string ⟨#[]⟩, .string ⟨#[]⟩, .string ⟨#[]⟩, .string ⟨#[]⟩, .int .i64 0, .int .i64 0, .slice none 0 0, .slice none 0 0, .bool false] 54)) = .ok () W') ∧ Hid (Below w.heap.size w W') ∧ Hid (∀ Kp : Nat → Prop, ¬ Kp w.heap.size → IPB Kp w.heap.size W' a b CA CB (ibR w0 w1)) := by
  have hsz : (IPC2 CA CB (ibR w0 w1)).toArray.size = 51 := by
    unfold IPC2 ibR
    simp [(hA fun _ => True).size, (hB fun _ => True).size]
  have hone : (IPC2 CA CB (ibR w0 w1)).toArray.all (·.oneCell') = true := by
    have h1 := (hA fun _ => True).one
    have h2 := (hB fun _ => True).one
    unfold IPC2 ibR
    simp [Value.oneCell'] at *
    exact ⟨h1, h2⟩
  have k : Rg.Bk w.heap.size [.int .i64 0, .int .i64 0, .bool false, .int .i64 0, .int .i64 0, .int .i64 0, .int .i64 0, .int .i64 0, .int .i64 0, .slice none 0 0, .int .i64 0, .slice none 0 0, .string ⟨#[]⟩, .int .i64 0, .slice none 0 0, .int .i64 0, .int .i64 0, .slice none 0 0, .int .i64 0, .int .i64 0, .bool false, .int .i64 0, .int .i64 0, .int .i64 0, .int .i64 0, .int .i64 0, .int .i64 0, .slice none 0 0, .int .i64 0, .slice none 0 0, .string ⟨#[]⟩, .int .i64 0, .slice none 0 0, .int .i64 0, .int .i64 0, .slice none 0 0, .string ⟨#[]⟩, .string ⟨#[]⟩, .string ⟨#[]⟩, .string ⟨#[]⟩, .string ⟨#[]⟩, .string ⟨#[]⟩, .string ⟨#[]⟩, .string ⟨#[]⟩, .string ⟨#[]⟩, .string ⟨#[]⟩, .int .i64 0, .int .i64 0, .slice none 0 0, .slice none 0 0, .bool false] 54 (w.alloc (.cells #[.int .i64 0, .int .i64 0, .bool false, .int .i64 0, .int .i64 0, .int .i64 0, .int .i64 0, .int .i64 0, .int .i64 0, .slice none 0 0, .int .i64 0, .slice none 0 0, .string ⟨#[]⟩, .int .i64 0, .slice none 0 0, .int .i64 0, .int .i64 0, .slice none 0 0, .int .i64 0, .int .i64 0, .bool false, .int .i64 0, .int .i64 0, .int .i64 0, .int .i64 0, .int .i64 0, .int .i64 0, .slice none 0 0, .int .i64 0, .slice none 0 0, .string ⟨#[]⟩, .int .i64 0, .slice none 0 0, .int .i64 0, .int .i64 0, .slice none 0 0, .string ⟨#[]⟩, .string ⟨#[]⟩, .string ⟨#[]⟩, .string ⟨#[]⟩, .string ⟨#[]⟩, .string ⟨#[]⟩, .string ⟨#[]⟩, .string ⟨#[]⟩, .string ⟨#[]⟩, .string ⟨#[]⟩, .int .i64 0, .int .i64 0, .slice none 0 0, .slice none 0 0, .bool false] 54)) := Rg.Bk.new rfl
  obtain ⟨W', h1, h2, h3⟩ := Rg.row_storeVar (P := Tryz.prog) (t := 54) (CS := (IPC2 CA CB (ibR w0 w1)).toArray) k (by rw [hsz]; exact iinfo_pair) (by rw [hsz]; rfl) hone
  have hb : Below w.heap.size w W' := (Rg.al1 _ _).trans (h3.bel (Nat.le_refl _))
  exact ⟨W', h1, hb, fun Kp hn => ⟨h2, (hA Kp).below hb, (hB Kp).below hb, hn⟩⟩
theorem isuc_wrap {i m : Nat} (h : m = i + 1) (hi : i ≤ 100) : wrap64 ((i : Int) + 1) = (m : Int) := by subst h; unfold wrap64; omega
theorem isuc_le {i m n : Nat} (h : m = i + 1) (hi : i < n) : m ≤ n := by omega
theorem isuc_meas {i m n : Nat} (h : m = i + 1) (hi : i < n) : n - (intOf (.int .i64 (m : Int))).toNat < n - (intOf (.int .i64 (i : Int))).toNat := by simp [intOf]; omega
end Go.Proofs.YtlclfkogbfigbaaGreat
