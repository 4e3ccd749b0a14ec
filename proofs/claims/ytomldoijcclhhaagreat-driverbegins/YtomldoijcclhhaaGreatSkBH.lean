/-
  Layer 17: awake; DriverBegins. For rows that lay no package variable: the world for the witness. Arguments of the statements of layers 15 and 16: what every row asks. A drive of whichever protocol begins with the letters, sizes and rooms that the document lets it have, and says what the document has it say; with all others it is refused. No condition.
-/
import Derived.Test.YtomldoijcclhhaaGreatSkBE
import Derived.Test.YtomldoijcclhhaaGreatSkBF
import Derived.Test.YtomldoijcclhhaaGreatSkBG
import Derived.Test.YtomldoijcclhhaaGreatRows
import Derived.WalkKit
import Derived.ProofKit
import Derived.OpenShut
import Derived.Deep.DeepHandedRow
import Derived.Lay
import Derived.MakeChecks
import Derived.Lib.SmallJoins
import Derived.Carry
namespace Go.Proofs.YtomldoijcclhhaaGreat
open Go.RowKit
theorem ctrl73 : (⟨(Gp.ctrl 7 3).toArray⟩ : ByteArray) = ⟨#[16, 9, 111, 170, 59, 247]⟩ := by kernel_rfl
theorem tk323 : Tk 103 32 3 := ⟨.inl rfl, by decide, by decide, by decide, by decide⟩
theorem abegin_e (W : World) : Calls Tryz.prog 5 #[.int .i64 101, .bool true, .int .i64 0, .int .i64 0] W fun e w' => ∃ (wa aa qa ta : Option Addr) (wc ac qc tc : Nat), e = .returned (.tuple #[.agg #[.int .i64 101, .int .i64 2, .bool true, .int .i64 0, .int .i64 0, .int .i64 0, .int .i64 0, .int .i64 0, .int .i64 0, .slice wa 0 wc, .int .i64 0, .slice aa 0 ac, .string ⟨#[]⟩, .int .i64 0, .slice qa 0 qc, .int .i64 0, .int .i64 0, .slice ta 0 tc], .string ⟨#[]⟩, .int .i64 0]) ∧ Hid (Below W.heap.size W w') := by
  have he : bareD (xeD true) := ⟨rfl, rfl, rfl, rfl⟩
  refine (dbegin_e 101 rfl rfl rfl true 0 0 _ _ _ W he (fun W => dplain_e true 0 0 W)).mono ?_
  rintro e w1 ⟨CS, rfl, hd, hb⟩
  obtain ⟨p, rfl, _⟩ := hd.out
  exact ⟨p.w, p.a, p.q, p.t, p.wc, p.ac, p.qc, p.tc, rfl, hb⟩
theorem abegin_g (W : World) : Calls Tryz.prog 5 #[.int .i64 103, .bool true, .int .i64 32, .int .i64 3] W fun e w' => ∃ CS, e = .returned (.tuple #[.agg CS, .string ⟨#[16, 9, 111, 170, 59, 247]⟩, .int .i64 0]) ∧ Hid (XD w' (Gp.begin_ 103 true 32 3) CS) ∧ Hid (∀ V, Calls Tryz.prog 19 #[.agg CS] V fun e w' => e = .returned (.int .i64 1) ∧ Below V.heap.size V w') ∧ Hid (∀ V, Calls Tryz.prog 20 #[.agg CS] V fun e w' => e = .returned (.bool true) ∧ Below V.heap.size V w') ∧ Hid (Below W.heap.size W w') := by
  have hd0 : bareD (Gp.begin_ 103 true 32 3) := ⟨rfl, rfl, rfl, rfl⟩
  refine (dbegin_g true 32 3 _ _ _ W hd0 (fun W => vpost_g tk323)).mono ?_
  rw [ctrl73]
  rintro e w1 ⟨CS, rfl, hd, hb⟩
  refine ⟨CS, rfl, hd, ?_, ?_, hb⟩
  · obtain ⟨p, rfl, _⟩ := hd.out
    exact fun V => dchan 103 rfl _ _ _ _ _ _ _ _ _ _ _ _ _ _ _ p.w p.q p.wc p.qc V
  · obtain ⟨p, rfl, _⟩ := hd.out
    exact fun V => dquiet 103 _ _ _ _ _ _ _ _ _ _ _ _ _ _ _ p.w p.q p.wc p.qc V
set_option maxHeartbeats 2000000 in
set_option maxRecDepth 100000 in
theorem xawake (w : World) : Calls Tryz.prog 8 #[] w fun e w' => e = .returned (.bool true) ∧ Below w.heap.size w w' := by
  go_enter Tryz.func8, Tryz.ntmps8
  go_upto_region 2 with (first | (go_at_call 5; refine (abegin_e _).mono ?_; rintro e w1 ⟨wa, aa, qa, ta, wc, ac, qc, tc, rfl, b1⟩; obtain ⟨w2, st2, k2, b2, _⟩ := (xE 0 wa aa qa ta wc ac qc tc w1).box) | (with_reducible refine is_store (.tmp 1) (.tmp 12) 29 ?_; refine list_store (.tmp 1) (.tmp 12) 29 rfl rfl st2.out ?_))
  obtain ⟨B, hB⟩ : ∃ B, B = w1.heap.size := ⟨_, rfl⟩
  rw [← hB] at k2 ⊢
  have hb2 := Rg.hid (Rg.chain b1.out b2.out)
  have hBw : Hid (w.heap.size ≤ B) := by show _ ≤ _; have := b1.out.size; omega
  clear hB st2 b1 b2
  have hl2 := Rg.hid (ldE wa aa qa ta wc ac qc tc 0 k2.out)
  go_upto_region 3 with (first | (with_reducible refine is_load (.tmp 1) 29 ?_; refine list_load (.tmp 1) 29 rfl hl2.out ?_) | (go_at_call 11; refine (dsend wa aa qa ta wc ac qc tc _).mono ?_; rintro e w3 ⟨rfl, b3⟩; obtain ⟨w4, st4, k4, o4⟩ := (xE 0 wa aa qa none wc ac qc 0 w3).over (xE 0 wa aa qa ta wc ac qc tc w3) (k2.out.below b3 k2.out.lt)) | (with_reducible refine is_store (.tmp 1) (.tmp 19) 29 ?_; refine list_store (.tmp 1) (.tmp 19) 29 rfl rfl st4.out ?_))
  have hb4 := Rg.hid ((Rg.chain hb2.out b3).trans (o4.out.bel hBw.out))
  clear hl2 hb2 b3 o4 st4 k2
  have hl4 := Rg.hid (ldE wa aa qa none wc ac qc 0 0 k4.out)
  go_upto_region 4 with (first | (with_reducible refine is_load (.tmp 1) 29 ?_; refine list_load (.tmp 1) 29 rfl hl4.out ?_) | (go_at_call 13; refine (dfeed wa aa qa none wc ac qc 0 _).mono ?_; rintro e w5 ⟨g, rfl, kg5, hg5, b5⟩; obtain ⟨w6, st6, k6, o6⟩ := (xE 2 wa aa qa none wc ac qc 0 w5).over (xE 0 wa aa qa none wc ac qc 0 w5) (k4.out.below b5.out k4.out.lt)) | (with_reducible refine is_store (.tmp 1) (.tmp 24) 29 ?_; refine list_store (.tmp 1) (.tmp 24) 29 rfl rfl st6.out ?_))
  have ngB : g ≠ B := by have h1 := k4.out.lt; have h2 := hg5.out; omega
  have kg6 : Hid (Rg.Bk g [.int .i64 0, .string ⟨#[120, 121]⟩] 44 w6) := kg5.out.same (o6.out.block g ngB)
  have hb6 := Rg.hid ((Rg.chain hb4.out b5.out).trans (o6.out.bel hBw.out))
  clear hl4 hb4 b5 o6 st6 k4 kg5 hg5 ngB
  go_upto_region 5 with (first | (go_at_call 5; refine (abegin_g _).mono ?_; rintro e w7 ⟨CG, rfl, hG7, HC, HQ, b7⟩; obtain ⟨w8, st8, k8, b8, hG8⟩ := hG7.out.box) | (with_reducible refine is_store (.tmp 7) (.tmp 29) 29 ?_; refine list_store (.tmp 7) (.tmp 29) 29 rfl rfl st8.out ?_))
  obtain ⟨G, hG⟩ : ∃ G, G = w7.heap.size := ⟨_, rfl⟩
  rw [← hG] at k8 ⊢
  have b68 := Rg.hid (Rg.chain b7.out b8.out)
  have hb8 := Rg.hid (Rg.chain hb6.out b68.out)
  have kB8 := Rg.hid (k6.out.below b68.out k6.out.lt)
  have kg8 := Rg.hid (kg6.out.below b68.out kg6.out.lt)
  clear hG st8 b7 b8 b68 hb6 k6 kg6 hG7
  have hl8 := Rg.hid (hG8.out.load k8.out)
  have z13 : w8.cell? ⟨B, 13, none⟩ = some (.int .i64 2) := kB8.out.cell 13
  have y1 : w8.cell? ⟨g, 1, none⟩ = some (.string ⟨#[120, 121]⟩) := kg8.out.cell 1
  clear kB8 kg8
  go_wp2_with (first | (refine Rg.wpList_load_row rfl (.tmp 7) 29 rfl rfl hl8.out ?_) | (refine Rg.wpList_load_row rfl (.tmp 7) 29 rfl rfl hl9.out ?_) | (go_at_call 19; refine (HC.out _).mono ?_; rintro e w9 ⟨rfl, b9⟩; have hb9 := Rg.hid (Rg.chain hb8.out b9); have k9 := Rg.hid (k8.out.below b9 k8.out.lt); clear hl8 z13 y1; have hl9 := Rg.hid ((hG8.out.below b9).load k9.out)) | (go_at_call 20; refine (HQ.out _).mono ?_; rintro e wA ⟨rfl, bA⟩))
  go_ret
  exact ⟨rfl, Rg.chain hb9.out bA⟩
theorem xsame {w : World} {d : Gp.Dr} {C1 C2 : Array Value} (h1 : XD w d C1) (h2 : XD w d C2) (h : bareD d) : Calls Tryz.prog 7 #[.agg C1, .agg C2] w fun e w' => e = .returned (.bool true) ∧ Below w.heap.size w w' := by
  obtain ⟨a1, a2, a3, a4⟩ := h
  obtain ⟨p, rfl, h1⟩ := h1
  obtain ⟨q, rfl, h2⟩ := h2
  exact xsame_any d p q (by rw [a1]; exact Nat.zero_le _) (by rw [a2]; exact Nat.zero_le _) (by rw [a3]; exact Nat.zero_le _) (by rw [a4]; exact Nat.zero_le _) w h1 h2
set_option maxHeartbeats 2000000 in
set_option maxRecDepth 100000 in
theorem xbegins_core (lt x ro T E : Int) (ca : Bool) (d : Gp.Dr) (s : ByteArray) (w : World) (u0 : ro.tmod 2 = T) (u1 : (T == 0) = ca) (a0 : Hid (bareD d))
    (H1 : Hid (∀ W, Calls Tryz.prog 5 #[.int .i64 lt, .bool ca, .int .i64 x, .int .i64 ro] W fun e w' => VPost W d s E e w')) (H2 : Hid (∀ W, Calls Tryz.prog 6 #[.int .i64 lt, .bool ca, .int .i64 x, .int .i64 ro] W fun e w' => VPost W d s E e w')) :
    Calls Tryz.prog 3 #[.int .i64 lt, .int .i64 x, .int .i64 ro] w fun e w' => e = .returned (.bool true) ∧ Below w.heap.size w w' := by
  have HA : Hid (∀ W, Calls Tryz.prog 8 #[] W fun e w' => e = .returned (.bool true) ∧ Below W.heap.size W w') := fun W => xawake W
  go_enter Tryz.func3, Tryz.ntmps3
  go_upto_region 2 with (first | (go_at_call 5; refine (H1.out _).mono ?_; rintro e w1 ⟨C1, rfl, hA1, b1⟩; obtain ⟨w2, st2, k2, b2, hA2⟩ := hA1.out.box) | (with_reducible refine is_store (.tmp 7) (.tmp 21) 29 ?_; refine list_store (.tmp 7) (.tmp 21) 29 rfl rfl st2.out ?_))
  obtain ⟨B7, hB7⟩ : ∃ B, B = w1.heap.size := ⟨_, rfl⟩
  rw [← hB7] at k2 ⊢
  have b12 := Rg.hid (Rg.chain b1.out b2.out)
  clear hB7 H1 hA1 st2 b1 b2
  go_upto_region 3 with (first | (go_at_call 6; refine (H2.out _).mono ?_; rintro e w3 ⟨C3, rfl, hA3, b3⟩; obtain ⟨w4, st4, k4, b4, hA4⟩ := hA3.out.box) | (with_reducible refine is_store (.tmp 10) (.tmp 32) 29 ?_; refine list_store (.tmp 10) (.tmp 32) 29 rfl rfl st4.out ?_))
  obtain ⟨B10, hB10⟩ : ∃ B, B = w3.heap.size := ⟨_, rfl⟩
  rw [← hB10] at k4 ⊢
  have b34 := Rg.hid (Rg.chain b3.out b4.out)
  have b04 := Rg.hid (Rg.chain b12.out b34.out)
  have kA4 := Rg.hid (k2.out.below b34.out k2.out.lt)
  have hA24 := Rg.hid (hA2.out.below b34.out)
  have hld1 := Rg.hid (hA24.out.load kA4.out)
  have hld2 := Rg.hid (hA4.out.load k4.out)
  have HS := Rg.hid (xsame hA24.out hA4.out a0.out)
  clear hB10 H2 hA3 st4 b3 b4 b12 b34 k2 k4 kA4 hA2 hA4 hA24 a0
  go_wp2_with (first | (with_reducible refine is_load (.tmp 7) 29 ?_; refine list_load (.tmp 7) 29 rfl hld1.out ?_) | (with_reducible refine is_load (.tmp 10) 29 ?_; refine list_load (.tmp 10) 29 rfl hld2.out ?_) | (go_at_call 7; refine HS.out.mono ?_; rintro e w5 ⟨rfl, b5⟩) | (go_at_call 8; refine (HA.out _).mono ?_; rintro e w6 ⟨rfl, b6⟩))
  go_ret
  exact ⟨rfl, Rg.chain (Rg.chain b04.out b5) b6⟩
theorem xbegins_walk (lt x ro : Int) (w : World) : Calls Tryz.prog 3 #[.int .i64 lt, .int .i64 x, .int .i64 ro] w fun e w' => e = .returned (.bool true) ∧ Below w.heap.size w w' := by
  obtain ⟨d, s, E, h0, h1, h2⟩ := both_begin lt x ro (ro.tmod 2 == 0)
  exact xbegins_core lt x ro _ E _ d s w rfl rfl h0 h1 h2
end Go.Proofs.YtomldoijcclhhaaGreat

namespace Go.Proofs.YtomldoijcclhhaaGreat
open Go.ChangeShapes Go.WideShapes Go.ChangeAt Go.RowKit

theorem own : ownKnob Tryz.prog.godebug = none := by kernel_rfl
def laidL : List (String × DataW Unit) := []
theorem laid_met (os : Os) (args : Array Value) : laidMet Tryz.prog laidL ((World.laidAll Tryz.prog os laidL).forCall (fun _ _ => 0) ⟨#[], args, []⟩).memory :=
  laidMet_laidAll args (by kernel_rfl) (by kernel_rfl)
end Go.Proofs.YtomldoijcclhhaaGreat

namespace Go.Proofs.YtomldoijcclhhaaGreat
open Go.ChangeShapes Go.WideShapes Go.ChangeAt Go.RowKit
theorem laidOutP : laidOutB Tryz.prog = true := by kernel_rfl
end Go.Proofs.YtomldoijcclhhaaGreat

namespace Go.Proofs.YtomldoijcclhhaaGreat.driverBegins
open Go.ChangeShapes Go.WideShapes Go.ChangeAt Go.RowKit

set_option maxRecDepth 100000 in
theorem contract (H : Type) (enc : TypeId × Value → H) (W : World) (base : Nat) (args : Array Value) (ds gs : List (DataW H)) (before : List MemPlace)
    (hval : ∀ (j : Nat) t v, Tryz.f3.params[j]? = some t → args[j]? = some v → Value.okWide Tryz.prog W .any base t v)
    (hW : DataW.Whole enc Tryz.prog Tryz.f3.params.toList Rows.driverBeginsSpec.vars false W args.toList ds gs before)
    (hz : (DataW.weightsEach Tryz.prog (Tryz.f3.params.toList ++ (OpenSpec.ofChange Rows.driverBeginsSpec).bare.plain.varTypes Tryz.prog) (ds ++ gs)).all (· ≤ reachBytes) = true) :
    Calls Tryz.prog 3 args W fun e W' => ∃ v, e = .returned v ∧ Rows.driverBeginsSpec.post enc Tryz.prog Tryz.f3 false true false false W args v W' := by
  have hW' := hW
  obtain ⟨p, q, hA0, hV, rfl, hfz, hnd⟩ := hW
  have hA : DataW.TrodAll enc Tryz.prog W 0 (fun _ => true) true Tryz.f3.params.toList args.toList ds p := hA0
  rw [Tryz.params3] at hA hval hz
  obtain ⟨v0, vs0, d0, ds0, p0, q0, hargs0, rfl, rfl, h0, r0⟩ := trodAll_cons hA
  obtain ⟨v1, vs1, d1, ds1, p1, q1, hargs1, rfl, rfl, h1, r1⟩ := trodAll_cons r0
  obtain ⟨v2, vs2, d2, ds2, p2, q2, hargs2, rfl, rfl, h2, r2⟩ := trodAll_cons r1
  obtain ⟨rfl, rfl, rfl⟩ := trodAll_nil r2
  subst hargs1
  subst hargs2
  obtain rfl : args = #[v0, v1, v2] := by cases args; simp_all
  obtain ⟨rfl, rfl⟩ := trodVars_none hV
  obtain ⟨x0, hv0, _, _, w0⟩ := open_int Tryz.underlying3 (hval 0 3 v0 rfl rfl) h0
  subst hv0
  obtain ⟨x1, hv1, _, _, w1⟩ := open_int Tryz.underlying3 (hval 1 3 v1 rfl rfl) h1
  subst hv1
  obtain ⟨x2, hv2, _, _, w2⟩ := open_int Tryz.underlying3 (hval 2 3 v2 rfl rfl) h2
  subst hv2
  clear hA0
  simp only [List.append_nil] at hW'
  have hlt0 : ∀ x ∈ p0, x.block < W.heap.size := fun x hx => hW'.lt x (by simp [hx])
  have hlt1 : ∀ x ∈ p1, x.block < W.heap.size := fun x hx => hW'.lt x (by simp [hx])
  have hlt2 : ∀ x ∈ p2, x.block < W.heap.size := fun x hx => hW'.lt x (by simp [hx])
  refine (xbegins_walk x0 x1 x2 W).mono fun e W' ⟨he, hb⟩ => ?_
  subst he
  refine ⟨_, rfl, _, _, _, [], p0 ++ (p1 ++ (p2 ++ [])), [], hW', ?_, ?_, rfl, hb.frame _, fun h => by cases h⟩
  · exact trodAll_cons_mk (shut_bool Tryz.underlying4 _) trodAll_mk0
  · exact trodAll_cons_mk (Below.trod laidOutP (by kernel_rfl) (of_decide_eq_true (by kernel_rfl)) h0 hb hlt0) (trodAll_cons_mk (Below.trod laidOutP (by kernel_rfl) (of_decide_eq_true (by kernel_rfl)) h1 hb hlt1) (trodAll_cons_mk (Below.trod laidOutP (by kernel_rfl) (of_decide_eq_true (by kernel_rfl)) h2 hb hlt2) trodAll_mk0))

theorem reads (os : Os) {H : Type} (enc : TypeId × Value → H) : ∃ places, DataW.whole enc Tryz.prog ((World.laidAll Tryz.prog os laidL).forCall (fun _ _ => 0) ⟨#[], #[.int .i64 0, .int .i64 0, .int .i64 0], []⟩).memory Tryz.f3.params.toList Rows.driverBeginsSpec.vars false (#[.int .i64 0, .int .i64 0, .int .i64 0] : Array Value).toList 8 = some ([.lit (.int .i64 0), .lit (.int .i64 0), .lit (.int .i64 0)], [], places) :=
  ⟨[], by kernel_rfl⟩

set_option maxRecDepth 100000 in
theorem lifted (os : Os) (started : os.Started) (H : Type) (enc : TypeId × Value → H) (F : Stop.Interp) :
    ReturnsInHanded {} Tryz.checked os 3 .any ((OpenSpec.ofChange Rows.driverBeginsSpec).preRow enc Tryz.prog Tryz.f3 Rows.driverBeginsRow.domain false Rows.driverBeginsRow.laid) (((OpenSpec.ofChange Rows.driverBeginsSpec).at F).post enc Tryz.prog Tryz.f3 false true false false) := by
  obtain ⟨places, hx⟩ := reads os enc
  refine returnsInHanded_of_row (C := Tryz.checked) (s := OpenSpec.ofChange Rows.driverBeginsSpec) own started (by kernel_rfl) Tryz.func3
    (witness_row_at (enc := enc) (C := Tryz.checked) false (World.laidAll Tryz.prog os laidL) #[.int .i64 0, .int .i64 0, .int .i64 0] (World.laidAll_os _ _ _) (by kernel_rfl) (by kernel_rfl) (by kernel_rfl)
      (OpenSpec.preRow_of_cond 8 hx (by kernel_rfl) (fun k hk => by cases hk) (by kernel_rfl) (laid_met os _))) ?_
  intro W base args ds gs before hval hW _ _ hz _ _ _
  exact contract H enc W base args ds gs before hval hW hz

theorem said : Rows.DriverBeginsSaid :=
  OpenClaim.holds_of_cond 3 Tryz.f3 rfl rfl rfl rfl rfl rfl rfl ⟨rfl, rfl, rfl, rfl, rfl⟩ rfl rfl rfl rfl rfl (by kernel_rfl) Tryz.func3 (by kernel_rfl)
    (of_decide_eq_true (by kernel_rfl)) (by unfold Func.isWrapper; first | (rw [if_pos (by decide +kernel)]; kernel_rfl) | (rw [if_neg (by decide +kernel)]; exact ⟨rfl, rfl⟩))
    (fun os started H enc _ F => by rw [OpenClaim.pre_eq_preRow]; exact lifted os started H enc F)

end Go.Proofs.YtomldoijcclhhaaGreat.driverBegins
namespace Go.Proofs.YtomldoijcclhhaaGreat
theorem driverBegins_said : Rows.DriverBeginsSaid := driverBegins.said
#print axioms driverBegins_said
end Go.Proofs.YtomldoijcclhhaaGreat
