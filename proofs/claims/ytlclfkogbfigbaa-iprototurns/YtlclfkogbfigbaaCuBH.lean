/-
  Walks of layer 16: takePackets: the loop.
-/
import Derived.Test.YtlclfkogbfigbaaCuBG
namespace Go.Proofs.Ytlclfkogbfigbaa
open Go.RowKit
/-- nothing came early: the list is nil -/
theorem IAt.noAhead {Kp : Nat → Prop} {W : World} {eb : Nat} {d : Gp.Dr} {p : Pl} {q : Qv} {S : List UInt8} {C : List Gp.Pc} (h : IAt Kp W eb d p q S C) (ha : d.ahead = []) : IAt Kp (W.setCell ⟨eb, 11, none⟩ (.slice none d.ahead.length 0)) eb d { p with a := none, ac := 0 } { q with ag := none } S C := by
  obtain ⟨w5, hw5⟩ : ∃ w5, w5 = W.setCell ⟨eb, 11, none⟩ (.slice none d.ahead.length 0) := ⟨_, rfl⟩
  have hb5 : Below eb W w5 := by rw [hw5]; exact below_set eb 11 _
  rw [← hw5]
  have hk5 : ∀ k, k ≠ eb → w5.heap[k]? = W.heap[k]? := fun k hke => by rw [hw5]; exact Below.heap_setCell _ _ _ _ hke
  have hkk : ∀ k, k < W.heap.size → k ≠ eb → (∀ v ∈ ivs d p q, v.ownBlock ≠ some k) → w5.heap[k]? = W.heap[k]? := fun k _ hke _ => hk5 k hke
  have hown : ∀ v ∈ ivs d p q, ∀ g, v.ownBlock = some g → w5.heap[g]? = W.heap[g]? := fun v hm g hg => hk5 g (Nat.ne_of_gt (h.vs v hm g hg).1)
  have hvv : ∀ z ∈ ivs d { p with a := none, ac := 0 } { q with ag := none }, ∀ g, z.ownBlock = some g → (∃ v ∈ ivs d p q, v.ownBlock = some g) ∨ W.heap.size ≤ g := by
    intro z hm g hg
    simp only [ivs, List.mem_cons, List.not_mem_nil, or_false] at hm
    rcases hm with rfl | rfl | rfl | rfl
    · exact .inl ⟨q.sb, by simp [ivs], hg⟩
    · exact .inl ⟨q.cv, by simp [ivs], hg⟩
    · exact .inl ⟨.slice p.t d.took.length p.tc, by simp [ivs], hg⟩
    · have := (tok_own none g).1 hg
      cases this
  have hbk : Rg.Bk eb (IC d { p with a := none, ac := 0 } { q with ag := none }) 51 w5 := by
    have := h.bk.set 11 (.slice none d.ahead.length 0)
    rw [hw5]
    have e : IC d { p with a := none, ac := 0 } { q with ag := none } = (IC d p q).set 11 (.slice none d.ahead.length 0) := by
      unfold IC
      simp [List.set]
    rw [e]; exact this
  exact ⟨hbk, h.win.kept hb5 hkk hvv, h.wcap, .inl ⟨rfl, .inl ha⟩, by show d.ahead.length ≤ 0; rw [ha]; exact Nat.zero_le _, h.queue.kept hb5 hkk hvv, own_kept h.took (hown _ (by simp [ivs])), h.sa, h.said.kept (hown _ (by simp [ivs])), own_kept h.came (hown _ (by simp [ivs]))⟩
/-- the list of what came early is one's own, or there is none -/
theorem IAt.cloned {Kp : Nat → Prop} {W W' : World} {eb : Nat} {d : Gp.Dr} {p : Pl} {q : Qv} {S : List UInt8} {C : List Gp.Pc} (h : IAt Kp W eb d p q S C) (hb : Below W.heap.size W W') {a' : Option Addr} {c' : Nat} (hx : (d.ahead = [] ∧ a' = none ∧ c' = 0) ∨ ∃ g, W.heap.size ≤ g ∧ d.ahead.length ≤ c' ∧ ∀ eb, eb < W.heap.size → AO W' eb g a' c' d.ahead) :
    ∃ p' q', IAt Kp (W'.setCell ⟨eb, 11, none⟩ (.slice a' d.ahead.length c')) eb d p' q' S C ∧ IOw d p' q' := by
  rcases hx with ⟨e, rfl, rfl⟩ | ⟨g, hg, hc, hA⟩
  · exact ⟨_, _, (h.below hb).noAhead e, fun _ => ⟨e, rfl⟩⟩
  · exact ⟨_, _, h.setAhead (hb.mono (Nat.le_of_lt h.bk.lt)) (fun k hk _ => hb.block k hk) (hA eb h.bk.lt) hc (.inr hg), fun x => by cases x⟩
/-- what the loop of takePackets keeps -/
def TQ (Kp : Nat → Prop) (eb : Nat) (d1 : Gp.Dr) (L0 : Nat) (S0 : List UInt8) (C0 : List Gp.Pc) (W wr : World) : Prop := ∃ dm p q Si Ci f, TJ Kp eb d1 L0 S0 C0 W wr dm p q Si Ci f
set_option maxHeartbeats 4000000 in
set_option maxRecDepth 100000 in
theorem itakePackets_go {Kp : Nat → Prop} {eb : Nat} {W : World} {d : Gp.Dr} {L0 : Nat} {S : List UInt8} {C : List Gp.Pc} (a : Option Addr) (n c : Nat) (c11 : W.cell? ⟨eb, 11, none⟩ = some (.slice a n c)) (Post : Ending → World → Prop) (hL0 : L0 ≤ 40000)
    (HK : Hid (Calls Try.prog 25 #[.slice a n c] W fun e w' => ∃ a' c', e = .returned (.slice a' n c') ∧ Hid (TQ Kp eb d L0 S C W (w'.setCell ⟨eb, 11, none⟩ (.slice a' n c'))) ∧ (∀ i, w'.frozen? ⟨eb, i, none⟩ = false) ∧ w'.cell? ⟨eb, 11, none⟩ = some (.slice a n c)))
    (HS : Hid (∀ W1 dm p q Si Ci f, TJ Kp eb d L0 S C W W1 dm p q Si Ci f → Calls Try.prog 26 #[.string ⟨dm.buf.toArray⟩] W1 fun e w' => e = .returned (scanV (If.scan 0 dm.buf)) ∧ Below W1.heap.size W1 w'))
    (HN : Hid (∀ W1 dm p q Si Ci f, TJ Kp eb d L0 S C W W1 dm p q Si Ci f → (If.scan 0 dm.buf).ok = false → ∀ W2, Below W1.heap.size W1 W2 → Calls Try.prog 27 #[.pointer (some ⟨eb, 0, none⟩), .int .i64 ((If.scan 0 dm.buf).a : Int)] W2 fun e w' => e = .returned (.tuple #[]) ∧ Post (.returned (.tuple #[])) w'))
    (HC : Hid (∀ W1 dm p q Si Ci f, TJ Kp eb d L0 S C W W1 dm p q Si Ci f → (If.scan 0 dm.buf).ok = true → ∀ W2 p2, IAt Kp W2 eb { dm with took := dm.took ++ [(dm.at_ + ((If.scan 0 dm.buf).a : Int), dm.at_ + ((If.scan 0 dm.buf).b : Int))] } p2 q Si Ci → Calls Try.prog 27 #[.pointer (some ⟨eb, 0, none⟩), .int .i64 ((If.scan 0 dm.buf).b : Int)] W2 fun e w' => e = .returned (.tuple #[]) ∧ Hid (IAt Kp w' eb (Ip.noted dm) p2 q Si Ci) ∧ Hid (Fr eb eb W2 w')))
    (HE : Hid (∀ W1 dm p q Si Ci f, TJ Kp eb d L0 S C W W1 dm p q Si Ci f → (If.scan 0 dm.buf).ok = true → (If.scan 0 dm.buf).f.ca = dm.caller → ∀ W2 t tc, IAt Kp W2 eb (Ip.noted dm) { p with t := t, tc := tc } q Si Ci → Below eb W W2 → Hid (TQ Kp eb d L0 S C W W2) ∧ Hid (ibufLen eb W2 < dm.buf.length)))
    (HT : Hid (∀ W1 dm p q Si Ci f, TJ Kp eb d L0 S C W W1 dm p q Si Ci f → (If.scan 0 dm.buf).ok = true → ¬ (If.scan 0 dm.buf).f.ca = dm.caller → ∀ W2 t tc, IAt Kp W2 eb { Ip.noted dm with wait := Gp.or2 dm.wait } { p with t := t, tc := tc } q Si Ci → Below eb W W2 → Calls Try.prog 28 #[.pointer (some ⟨eb, 0, none⟩), .agg #[.int .i64 (If.scan 0 dm.buf).f.kd, .int .i64 (If.scan 0 dm.buf).f.nm, .int .i64 (If.scan 0 dm.buf).f.ak, .int .i64 (If.scan 0 dm.buf).f.ch, .bool (If.scan 0 dm.buf).f.ca, .string ⟨(If.scan 0 dm.buf).f.data.toArray⟩]] W2 fun e w' => e = .returned (.tuple #[]) ∧ Hid (TQ Kp eb d L0 S C W w') ∧ Hid (ibufLen eb w' < dm.buf.length))) :
    Calls Try.prog 14 #[.pointer (some ⟨eb, 0, none⟩)] W Post := by
  go_enter Try.func14, Try.ntmps14
  go_step3
  go_wp2_with (go_at_call 25; refine HK.out.mono ?_; rintro e w1 ⟨a', c', rfl, h0, fz, d11⟩)
  clear HK c11 d11
  generalize World.setCell _ _ _ = w2 at *
  try clear fz
  go_step3
  go_wp2
  go_loopw [4] (fun _ wr => Hid (TQ Kp eb d L0 S C W wr)) (fun _ wr => ibufLen eb wr)
  case atStart => exact h0
  case round =>
    clear h0
    obtain ⟨dm, p, q, Si, Ci, f, hti⟩ := hrel.out
    clear hrel
    have hbl := Rg.hid hti.at_.bufLen
    have c12 : wr.cell? ⟨eb, 12, none⟩ = some (.string ⟨dm.buf.toArray⟩) := hti.at_.bk.cell 12
    have HS1 := Rg.hid (HS.out wr dm p q Si Ci f hti)
    have HN1 := Rg.hid (HN.out wr dm p q Si Ci f hti)
    have HC1 := Rg.hid (HC.out wr dm p q Si Ci f hti)
    have HE1 := Rg.hid (HE.out wr dm p q Si Ci f hti)
    have HT1 := Rg.hid (HT.out wr dm p q Si Ci f hti)
    have hmx := hti.mx
    have hat0 := hti.rt.1.at_.1
    have hw0 := hti.rt.1.wt.1
    have hw3 := hti.rt.1.wt.2
    have hlt := hti.lt
    have hblL := hti.bl
    have hbel := Rg.hid hti.bel
    have hE := Rg.hid hti.at_
    have hrn := Rg.hid (fun hs => iright_noted hti.rt hti.mx hs)
    have hnoted : Hid (Ip.noted dm = { dm with took := dm.took ++ [(dm.at_ + ((If.scan 0 dm.buf).a : Int), dm.at_ + ((If.scan 0 dm.buf).b : Int))], buf := dm.buf.drop (If.scan 0 dm.buf).b, at_ := dm.at_ + ((If.scan 0 dm.buf).b : Int) }) := rfl
    clear HS HN HC HE HT hti
    obtain ⟨dn, hdn⟩ : ∃ dn, dn = Ip.noted dm := ⟨_, rfl⟩
    rw [← hdn] at HC1 HE1 HT1 hnoted hrn
    clear hdn
    unfold scanV at HS1
    generalize If.scan 0 dm.buf = X at *
    obtain ⟨fr, xa, xb, ok⟩ := X
    obtain ⟨kd, nm, ak, ch, ca, data⟩ := fr
    dsimp only at HS1 HN1 HC1 HE1 HT1 hnoted hrn
    generalize (⟨data.toArray⟩ : ByteArray) = D at *
    have k0 := fun w1 : World => Rg.hid (show Rg.Bk w1.heap.size [.int .i64 kd, .int .i64 nm, .int .i64 ak, .int .i64 ch, .bool ca, .string D] 63 ((w1.alloc (.cells #[.int .i64 kd, .int .i64 nm, .int .i64 ak, .int .i64 ch, .bool ca, .string D] 63)).alloc (.cells #[.int .i64 (xa : Int), .int .i64 (xb : Int)] 68)) from (Rg.Bk.new rfl).old _)
    have k1 := fun w1 : World => Rg.hid (show Rg.Bk (w1.heap.size + 1) [.int .i64 (xa : Int), .int .i64 (xb : Int)] 68 ((w1.alloc (.cells #[.int .i64 kd, .int .i64 nm, .int .i64 ak, .int .i64 ch, .bool ca, .string D] 63)).alloc (.cells #[.int .i64 (xa : Int), .int .i64 (xb : Int)] 68)) from Rg.Bk.new (by simp))
    go_upto_region 2 with (go_at_call 26; refine HS1.out.mono ?_; rintro e w1 ⟨rfl, b1⟩)
    replace k0 := k0 w1
    replace k1 := k1 w1
    have b2 := Rg.hid (Rg.chain b1 (Rg.al2 w1 (.cells #[.int .i64 kd, .int .i64 nm, .int .i64 ak, .int .i64 ch, .bool ca, .string D] 63) (.cells #[.int .i64 (xa : Int), .int .i64 (xb : Int)] 68)))
    generalize World.alloc _ _ = w2 at *
    obtain ⟨F, hF⟩ : ∃ F, F = w1.heap.size := ⟨_, rfl⟩
    obtain ⟨P, hP⟩ : ∃ P, P = w1.heap.size + 1 := ⟨_, rfl⟩
    rw [← hP] at k1 ⊢
    rw [← hF] at k0 ⊢
    have hF1 : Hid (wr.heap.size ≤ F) := by show _ ≤ _; rw [hF]; exact b1.size
    have hP1 : Hid (wr.heap.size ≤ P) := by show _ ≤ _; rw [hP]; exact Nat.le_succ_of_le b1.size
    clear hF hP b1 HS1 c12
    have kp0 : w2.cell? ⟨P, 0, none⟩ = some (.int .i64 (xa : Int)) := k1.out.cell 0
    have kp1 : w2.cell? ⟨P, 1, none⟩ = some (.int .i64 (xb : Int)) := k1.out.cell 1
    cases ok with
    | false =>
      have HN2 := Rg.hid (HN1.out rfl w2 b2.out)
      clear HN1 HC1 HE1 HT1 hrn hE k0 k1
      go_wp2_with (go_at_call 27; refine HN2.out.mono ?_; rintro e w3 ⟨rfl, hp⟩)
      simp only [Exit.noGoto]
      go_end0
      exact hp
    | true =>
      obtain ⟨hr1, _, hr3, hr4, hr5⟩ := hrn.out rfl
      have HC2 := Rg.hid (HC1.out rfl)
      have HE2 := Rg.hid (HE1.out rfl)
      have HT2 := Rg.hid (HT1.out rfl)
      clear HN1 HC1 HE1 HT1 hrn hr1
      obtain ⟨at0, hat⟩ : ∃ a, dm.at_ = a := ⟨_, rfl⟩
      obtain ⟨tn, htn⟩ : ∃ n, dm.took.length = n := ⟨_, rfl⟩
      obtain ⟨tn1, htn1⟩ : ∃ n, tn + 1 = n := ⟨_, rfl⟩
      obtain ⟨X1, hX1⟩ : ∃ x : Int, at0 + (xa : Int) = x := ⟨_, rfl⟩
      obtain ⟨Y1, hY1⟩ : ∃ x : Int, at0 + (xb : Int) = x := ⟨_, rfl⟩
      have hE2 := hE.out.below b2.out
      have hbelw : Hid (Below eb W w2) := hbel.out.trans (b2.out.mono (Nat.le_of_lt hE.out.bk.lt))
      have c17 : w2.cell? ⟨eb, 17, none⟩ = some (.slice p.t tn p.tc) := by rw [← htn]; exact hE2.bk.cell 17
      have c13 : w2.cell? ⟨eb, 13, none⟩ = some (.int .i64 at0) := by rw [← hat]; exact hE2.bk.cell 13
      have s1 : wrap64 (at0 + (xa : Int)) = X1 := by rw [← hX1]; unfold wrap64; omega
      have s2 : wrap64 (at0 + (xb : Int)) = Y1 := by rw [← hY1]; unfold wrap64; omega
      have s3 : IntKind.i64.wrap (at0 + (xa : Int)) = X1 := by rw [← hX1, IntKind.wrap_i64]; omega
      have s4 : IntKind.i64.wrap (at0 + (xb : Int)) = Y1 := by rw [← hY1, IntKind.wrap_i64]; omega
      have fz := hE2.bk.thaw
      have htk1 : Hid (∀ k, wr.heap.size ≤ k → (Value.slice p.t dm.took.length p.tc).ownBlock ≠ some k) := fun k hk e => by have := (hE.out.took.lt k e).2; omega
      have HA : Hid (∀ W1 (ad : Addr), Below w2.heap.size w2 W1 → W1.cell? ad = some (.int .i64 X1) → W1.cell? (ad.add 1) = some (.int .i64 Y1) → ∃ v' W2, (Builtin.append_ #[30, 30] 30 #[.slice p.t tn p.tc, .slice (some ad) 1 1]).run Try.prog W1 = .ok v' W2 ∧ Took2 Kp eb w2 dm p q Si Ci X1 Y1 tn1 v' W2) := fun W1 ad hb e1 e2 => hE2.pushT hb X1 Y1 ad 1 tn tn1 htn htn1 e1 e2 (by omega)
      replace htn := Rg.hid htn
      replace htn1 := Rg.hid htn1
      replace hX1 := Rg.hid hX1
      replace hY1 := Rg.hid hY1
      replace hat := Rg.hid hat
      have hlt1 : eb < w2.heap.size := hE2.bk.lt
      have hPe : Hid (P ≠ eb) := fun e => by have := hE.out.bk.lt; have := hP1.out; omega
      have hlt2 : P < w2.heap.size := k1.out.lt
      obtain ⟨v', w3, hap, ht3⟩ := HA.out (w2.alloc (.cells #[.int .i64 X1, .int .i64 Y1] 68)).drew ⟨w2.heap.size, 0, none⟩ ((Rg.al1 _ _).drew) (Rg.cell_new rfl rfl) (Rg.cell_new rfl rfl)
      obtain ⟨⟨g, cap, rfl, hE3⟩, hb3, e17, fz3, bk3, hkp⟩ := ht3
      rw [htn.out] at e17
      replace hE3 := Rg.hid hE3
      replace hb3 := Rg.hid hb3
      replace hkp := Rg.hid hkp
      have j13 : (w3.setCell ⟨eb, 17, none⟩ (.slice (some ⟨g, 0, none⟩) tn1 cap)).cell? ⟨eb, 13, none⟩ = some (.int .i64 at0) := by rw [← hat.out]; exact hE3.out.bk.cell 13
      have e13 : w3.cell? ⟨eb, 13, none⟩ = some (.int .i64 at0) := by rw [← hat.out]; exact bk3.cell 13
      have a13 : (w2.alloc (.cells #[.int .i64 X1, .int .i64 Y1] 68)).drew.cell? ⟨eb, 13, none⟩ = some (.int .i64 at0) := by rw [← hat.out]; exact (hE2.alloc _).bk.cell 13
      have ap0 : (w2.alloc (.cells #[.int .i64 X1, .int .i64 Y1] 68)).drew.cell? ⟨P, 0, none⟩ = some (.int .i64 (xa : Int)) := (k1.out.old _).cell 0
      have ap1 : (w2.alloc (.cells #[.int .i64 X1, .int .i64 Y1] 68)).drew.cell? ⟨P, 1, none⟩ = some (.int .i64 (xb : Int)) := (k1.out.old _).cell 1
      have kP3 : w3.heap[P]? = w2.heap[P]? := hkp.out P hlt2 (htk1.out P hP1.out)
      have ep0 : w3.cell? ⟨P, 0, none⟩ = some (.int .i64 (xa : Int)) := by rw [World.cell?_of_block (a := ⟨P, 0, none⟩) kP3]; exact kp0
      have ep1 : w3.cell? ⟨P, 1, none⟩ = some (.int .i64 (xb : Int)) := by rw [World.cell?_of_block (a := ⟨P, 1, none⟩) kP3]; exact kp1
      have jp0 : (w3.setCell ⟨eb, 17, none⟩ (.slice (some ⟨g, 0, none⟩) tn1 cap)).cell? ⟨P, 0, none⟩ = some (.int .i64 (xa : Int)) := by rw [World.cell?_of_block (a := ⟨P, 0, none⟩) (Below.heap_setCell _ _ _ _ (by show P ≠ eb; exact hPe.out))]; exact ep0
      have jp1 : (w3.setCell ⟨eb, 17, none⟩ (.slice (some ⟨g, 0, none⟩) tn1 cap)).cell? ⟨P, 1, none⟩ = some (.int .i64 (xb : Int)) := by rw [World.cell?_of_block (a := ⟨P, 1, none⟩) (Below.heap_setCell _ _ _ _ (by show P ≠ eb; exact hPe.out))]; exact ep1
      replace hap := Rg.hid hap
      have hFe : Hid (F ≠ eb) := fun e => by have := hE.out.bk.lt; have := hF1.out; omega
      have kF3 : Hid (Rg.Bk F [.int .i64 kd, .int .i64 nm, .int .i64 ak, .int .i64 ch, .bool ca, .string D] 63 w3) := k0.out.same (hkp.out F k0.out.lt (htk1.out F hF1.out))
      have hdw : Hid (dn.wait = dm.wait) := by rw [hnoted.out]; rfl
      have hdc : Hid (dn.caller = dm.caller) := by rw [hnoted.out]; rfl
      rw [← hX1.out, ← hY1.out, ← hat.out] at hE3
      clear hE hE2 hmx hat0 HA htk1 b2 hbel hnoted kP3 bk3 k0 k1
      go_wp2
      refine wp_region_held_drew (S := (fun (w' : World) => w'.cell? ⟨eb, 13, none⟩ = some (.int .i64 at0) ∧ w'.cell? ⟨P, 0, none⟩ = some (.int .i64 (xa : Int)) ∧ w'.cell? ⟨P, 1, none⟩ = some (.int .i64 (xb : Int)))) (by kernel_rfl) ?_ (fun hH0 => ?_)
      · exact ⟨c13, kp0, kp1⟩
      refine wpAnyH_take (i := 0) (oi := { dst := some 31, op := _, type := _, pos := _, after := _, guard := _ }) (v := ?_) rfl (by kernel_rfl) (by kernel_rfl) (by kernel_rfl) (fun _ _ _ h => h) (Or.inl ⟨by rfl, ?_⟩) (by assumption) ?_
      rotate_left
      · (intro w hSw; (try dsimp only at hSw); go_simp); (try with_reducible rfl)
      simp only [Act.put, List.setIfInBounds_toArray, List.set_cons_zero, List.set_cons_succ]
      refine wpAnyH_take (i := 1) (oi := { dst := some 32, op := _, type := _, pos := _, after := _, guard := _ }) (v := ?_) rfl (by kernel_rfl) (by kernel_rfl) (by kernel_rfl) (fun _ _ _ h => h) (Or.inl ⟨by rfl, ?_⟩) (by assumption) ?_
      rotate_left
      · (intro w hSw; (try dsimp only at hSw); go_simp); (try with_reducible rfl)
      simp only [Act.put, List.setIfInBounds_toArray, List.set_cons_zero, List.set_cons_succ]
      refine wpAnyH_take (i := 2) (oi := { dst := some 33, op := _, type := _, pos := _, after := _, guard := _ }) (v := ?_) rfl (by kernel_rfl) (by kernel_rfl) (by kernel_rfl) (fun _ _ _ h => h) (Or.inl ⟨by rfl, ?_⟩) (by assumption) ?_
      rotate_left
      · (intro w hSw; (try dsimp only at hSw); go_simp); (try with_reducible rfl)
      simp only [Act.put, List.setIfInBounds_toArray, List.set_cons_zero, List.set_cons_succ]
      refine wpAnyH_take (i := 3) (oi := { dst := some 34, op := _, type := _, pos := _, after := _, guard := _ }) (v := ?_) rfl (by kernel_rfl) (by kernel_rfl) (by kernel_rfl) (fun _ _ _ h => h) (Or.inl ⟨by rfl, ?_⟩) (by assumption) ?_
      rotate_left
      · (intro w hSw; (try dsimp only at hSw); go_simp); (try with_reducible rfl)
      simp only [Act.put, List.setIfInBounds_toArray, List.set_cons_zero, List.set_cons_succ]
      refine wpAnyH_take (i := 4) (oi := { dst := some 35, op := _, type := _, pos := _, after := _, guard := _ }) (v := ?_) rfl (by kernel_rfl) (by kernel_rfl) (by kernel_rfl) (fun _ _ _ h => h) (Or.inl ⟨by rfl, ?_⟩) (by assumption) ?_
      rotate_left
      · (intro w hSw; (try dsimp only at hSw); go_simp); (try with_reducible rfl)
      simp only [Act.put, List.setIfInBounds_toArray, List.set_cons_zero, List.set_cons_succ]
      refine wpAnyH_take (i := 6) (oi := { dst := some 37, op := _, type := _, pos := _, after := _, guard := _ }) (v := ?_) rfl (by kernel_rfl) (by kernel_rfl) (by kernel_rfl) (fun _ _ _ h => h) (Or.inl ⟨by rfl, ?_⟩) (by assumption) ?_
      rotate_left
      · (intro w hSw; (try dsimp only at hSw); go_simp); (try with_reducible rfl)
      simp only [Act.put, List.setIfInBounds_toArray, List.set_cons_zero, List.set_cons_succ]
      refine wpAnyH_take (i := 7) (oi := { dst := some 38, op := _, type := _, pos := _, after := _, guard := _ }) (v := ?_) rfl (by kernel_rfl) (by kernel_rfl) (by kernel_rfl) (fun _ _ _ h => h) (Or.inl ⟨by rfl, ?_⟩) (by assumption) ?_
      rotate_left
      · (intro w hSw; (try dsimp only at hSw); go_simp); (try with_reducible rfl)
      simp only [Act.put, List.setIfInBounds_toArray, List.set_cons_zero, List.set_cons_succ]
      refine wpAnyH_take (i := 8) (oi := { dst := some 39, op := _, type := _, pos := _, after := _, guard := _ }) (v := ?_) rfl (by kernel_rfl) (by kernel_rfl) (by kernel_rfl) (fun _ _ _ h => h) (Or.inl ⟨by rfl, ?_⟩) (by assumption) ?_
      rotate_left
      · (intro w hSw; (try dsimp only at hSw); go_simp); (try with_reducible rfl)
      simp only [Act.put, List.setIfInBounds_toArray, List.set_cons_zero, List.set_cons_succ]
      refine wpAnyH_take (i := 9) (oi := { dst := some 40, op := _, type := _, pos := _, after := _, guard := _ }) (v := ?_) rfl (by kernel_rfl) (by kernel_rfl) (by kernel_rfl) (fun _ _ _ h => h) (Or.inl ⟨by rfl, ?_⟩) (by assumption) ?_
      rotate_left
      · (intro w hSw; (try dsimp only at hSw); go_simp); (try with_reducible rfl)
      simp only [Act.put, List.setIfInBounds_toArray, List.set_cons_zero, List.set_cons_succ]
      refine wpAnyH_take (i := 10) (oi := { dst := some 41, op := _, type := _, pos := _, after := _, guard := _ }) (v := ?_) rfl (by kernel_rfl) (by kernel_rfl) (by kernel_rfl) (fun _ _ _ h => h) (Or.inl ⟨by rfl, ?_⟩) (by assumption) ?_
      rotate_left
      · (intro w hSw; (try dsimp only at hSw); go_simp); (try with_reducible rfl)
      simp only [Act.put, List.setIfInBounds_toArray, List.set_cons_zero, List.set_cons_succ]
      refine wpAnyH_take (i := 11) (oi := { dst := some 42, op := _, type := _, pos := _, after := _, guard := _ }) (v := ?_) rfl (by kernel_rfl) (by kernel_rfl) (by kernel_rfl) (fun _ _ _ h => h) (Or.inl ⟨by rfl, ?_⟩) (by assumption) ?_
      rotate_left
      · (intro w hSw; (try dsimp only at hSw); go_simp); (try with_reducible rfl)
      simp only [Act.put, List.setIfInBounds_toArray, List.set_cons_zero, List.set_cons_succ]
      refine wpAnyH_take (i := 12) (oi := { dst := some 43, op := _, type := _, pos := _, after := _, guard := _ }) (v := ?_) rfl (by kernel_rfl) (by kernel_rfl) (by kernel_rfl) (fun _ _ _ h => h) (Or.inl ⟨by rfl, ?_⟩) (by assumption) ?_
      rotate_left
      · (intro w hSw; (try dsimp only at hSw); go_simp); (try with_reducible rfl)
      simp only [Act.put, List.setIfInBounds_toArray, List.set_cons_zero, List.set_cons_succ]
      refine wpAnyH_take (i := 13) (oi := { dst := some 44, op := _, type := _, pos := _, after := _, guard := _ }) (v := ?_) rfl (by kernel_rfl) (by kernel_rfl) (by kernel_rfl) (fun _ _ _ h => h) (Or.inl ⟨by rfl, ?_⟩) (by assumption) ?_
      rotate_left
      · (intro w hSw; (try dsimp only at hSw); go_simp); (try with_reducible rfl)
      simp only [Act.put, List.setIfInBounds_toArray, List.set_cons_zero, List.set_cons_succ]
      refine wpAnyH_take (i := 14) (oi := { dst := some 45, op := _, type := _, pos := _, after := _, guard := _ }) (v := ?_) rfl (by kernel_rfl) (by kernel_rfl) (by kernel_rfl) (fun _ _ _ h => h) (Or.inl ⟨by rfl, ?_⟩) (by assumption) ?_
      rotate_left
      · (intro w hSw; (try dsimp only at hSw); go_simp); (try with_reducible rfl)
      simp only [Act.put, List.setIfInBounds_toArray, List.set_cons_zero, List.set_cons_succ]
      refine wpAnyH_take (i := 15) (oi := { dst := some 46, op := _, type := _, pos := _, after := _, guard := _ }) (v := ?_) rfl (by kernel_rfl) (by kernel_rfl) (by kernel_rfl) (fun _ _ _ h => h) (Or.inl ⟨by rfl, ?_⟩) (by assumption) ?_
      rotate_left
      · (intro w hSw; (try dsimp only at hSw); go_simp); (try with_reducible rfl)
      simp only [Act.put, List.setIfInBounds_toArray, List.set_cons_zero, List.set_cons_succ]
      refine wpAnyH_take (i := 16) (oi := { dst := some 47, op := _, type := _, pos := _, after := _, guard := _ }) (v := ?_) rfl (by kernel_rfl) (by kernel_rfl) (by kernel_rfl) (fun _ _ _ h => h) (Or.inl ⟨by rfl, ?_⟩) (by assumption) ?_
      rotate_left
      · (intro w hSw; (try dsimp only at hSw); go_simp); (try with_reducible rfl)
      simp only [Act.put, List.setIfInBounds_toArray, List.set_cons_zero, List.set_cons_succ]
      refine wpAnyH_take (i := 17) (oi := { dst := some 48, op := _, type := _, pos := _, after := _, guard := _ }) (v := ?_) rfl (by kernel_rfl) (by kernel_rfl) (by kernel_rfl) (fun _ _ _ h => h) (Or.inl ⟨by rfl, ?_⟩) (by assumption) ?_
      rotate_left
      · (intro w hSw; (try dsimp only at hSw); go_simp); (try with_reducible rfl)
      simp only [Act.put, List.setIfInBounds_toArray, List.set_cons_zero, List.set_cons_succ]
      refine wpAnyH_take (i := 18) (oi := { dst := some 49, op := _, type := _, pos := _, after := _, guard := _ }) (v := ?_) rfl (by kernel_rfl) (by kernel_rfl) (by kernel_rfl) (fun _ _ _ h => h) (Or.inl ⟨by rfl, ?_⟩) (by assumption) ?_
      rotate_left
      · (intro w hSw; (try dsimp only at hSw); go_simp); (try with_reducible rfl)
      simp only [Act.put, List.setIfInBounds_toArray, List.set_cons_zero, List.set_cons_succ]
      refine wpAnyH_take (i := 19) (oi := { dst := some 50, op := _, type := _, pos := _, after := _, guard := _ }) (v := ?_) rfl (by kernel_rfl) (by kernel_rfl) (by kernel_rfl) (fun _ _ _ h => h) (Or.inl ⟨by rfl, ?_⟩) (by assumption) ?_
      rotate_left
      · (intro w hSw; (try dsimp only at hSw); go_simp); (try with_reducible rfl)
      simp only [Act.put, List.setIfInBounds_toArray, List.set_cons_zero, List.set_cons_succ]
      refine wpAnyH_take (i := 20) (oi := { dst := some 51, op := _, type := _, pos := _, after := _, guard := _ }) (v := ?_) rfl (by kernel_rfl) (by kernel_rfl) (by kernel_rfl) (fun _ _ _ h => h) (Or.inl ⟨by rfl, ?_⟩) (by assumption) ?_
      rotate_left
      · (intro w hSw; (try dsimp only at hSw); go_simp); (try with_reducible rfl)
      simp only [Act.put, List.setIfInBounds_toArray, List.set_cons_zero, List.set_cons_succ]
      refine wpAnyH_take (i := 21) (oi := { dst := some 52, op := _, type := _, pos := _, after := _, guard := _ }) (v := ?_) rfl (by kernel_rfl) (by kernel_rfl) (by kernel_rfl) (fun _ _ _ h => h) (Or.inl ⟨by rfl, ?_⟩) (by assumption) ?_
      rotate_left
      · (intro w hSw; (try dsimp only at hSw); go_simp); (try with_reducible rfl)
      simp only [Act.put, List.setIfInBounds_toArray, List.set_cons_zero, List.set_cons_succ]
      refine wpAnyH_take (i := 22) (oi := { dst := some 53, op := _, type := _, pos := _, after := _, guard := _ }) (v := ?_) rfl (by kernel_rfl) (by kernel_rfl) (by kernel_rfl) (fun _ _ _ h => h) (Or.inl ⟨by rfl, ?_⟩) (by assumption) ?_
      rotate_left
      · (intro w hSw; (try dsimp only at hSw); go_simp); (try with_reducible rfl)
      simp only [Act.put, List.setIfInBounds_toArray, List.set_cons_zero, List.set_cons_succ]
      refine wpAnyH_ready (rs := [5, 23]) (by kernel_rfl) (by simp) ?_
      refine AllReadyH.cons (o := { dst := some 36, op := _, type := _, pos := _, after := _, guard := _ }) rfl (fun K hK => ?_) (AllReadyH.cons (o := { dst := some 54, op := _, type := _, pos := _, after := _, guard := _ }) rfl (fun K hK => ?_) AllReadyH.nil)
      · go_simp
        refine hK.out _ _ ?_ (fun hH5 => ?_)
        · exact ⟨c13, kp0, kp1⟩
        clear hK K hH0
        try simp only [Act.put, List.setIfInBounds_toArray, List.set_cons_zero, List.set_cons_succ]
        refine wpAnyH_ready (rs := [23]) (by kernel_rfl) (by simp) ?_
        refine AllReadyH.cons (o := { dst := some 54, op := _, type := _, pos := _, after := _, guard := _ }) rfl (fun K hK => ?_) AllReadyH.nil
        go_simp
        refine hK.out _ _ ?_ (fun hH23 => ?_)
        · exact ⟨a13, ap0, ap1⟩
        clear hK K hH5
        refine wpAnyH_ready (rs := [24]) (by kernel_rfl) (by simp) ?_
        refine AllReadyH.cons (o := { dst := some 55, op := _, type := _, pos := _, after := _, guard := _ }) rfl (fun K hK => ?_) AllReadyH.nil
        refine Rg.step_append_run (by rfl) (.tmp 36) (.tmp 54) 30 (by rfl) _ _ (by rfl) (by rfl) hap.out ?_
        refine hK.out _ _ ?_ (fun hH24 => ?_)
        · exact ⟨e13, ep0, ep1⟩
        clear hK K hH23
        simp only [Act.put, List.setIfInBounds_toArray, List.set_cons_zero, List.set_cons_succ]
        refine wpAnyH_take (i := 25) (oi := { dst := some 56, op := _, type := _, pos := _, after := _, guard := _ }) (v := ?_) rfl (by kernel_rfl) (by kernel_rfl) (by kernel_rfl) (fun _ _ _ h => h) (Or.inl ⟨by rfl, ?_⟩) (by assumption) ?_
        rotate_left
        · (intro w hSw; (try dsimp only at hSw); go_simp); (try with_reducible rfl)
        simp only [Act.put, List.setIfInBounds_toArray, List.set_cons_zero, List.set_cons_succ]
        refine wpAnyH_take (i := 26) (oi := { dst := some 57, op := _, type := _, pos := _, after := _, guard := _ }) (v := ?_) rfl (by kernel_rfl) (by kernel_rfl) (by kernel_rfl) (fun _ _ _ h => h) (Or.inl ⟨by rfl, ?_⟩) (by assumption) ?_
        rotate_left
        · (intro w hSw; (try dsimp only at hSw); go_simp); (try with_reducible rfl)
        simp only [Act.put, List.setIfInBounds_toArray, List.set_cons_zero, List.set_cons_succ]
        refine wpAnyH_take (i := 27) (oi := { dst := some 58, op := _, type := _, pos := _, after := _, guard := _ }) (v := ?_) rfl (by kernel_rfl) (by kernel_rfl) (by kernel_rfl) (fun _ _ _ h => h) (Or.inl ⟨by rfl, ?_⟩) (by assumption) ?_
        rotate_left
        · (intro w hSw; (try dsimp only at hSw); go_simp); (try with_reducible rfl)
        simp only [Act.put, List.setIfInBounds_toArray, List.set_cons_zero, List.set_cons_succ]
        refine wpAnyH_ready (rs := [28]) (by kernel_rfl) (by simp) ?_
        refine AllReadyH.cons (o := { dst := none, op := _, type := _, pos := _, after := _, guard := _ }) rfl (fun K hK => ?_) AllReadyH.nil
        go_simp
        refine hK.out _ _ ?_ (fun hH28 => ?_)
        · exact ⟨j13, jp0, jp1⟩
        clear hK K hH24
        refine wpAnyH_done (by kernel_rfl) ?_ _
        have f4 := Rg.hid (hb3.out.trans (below_set eb 17 (.slice (some ⟨g, 0, none⟩) tn1 cap)))
        have kF4 := Rg.hid (kF3.out.other (i := 17) hFe.out (.slice (some ⟨g, 0, none⟩) tn1 cap))
        clear kF3 hb3 hkp hap e13 ep0 ep1 a13 ap0 ap1 c13 c17 kp0 kp1 fz fz3 e17
        generalize World.setCell _ _ _ = w4 at *
        clear j13 jp0
        have HC3 := Rg.hid (HC2.out w4 _ hE3.out)
        go_upto_region 6 with (go_at_call 27; refine HC3.out.mono ?_; rintro e w5 ⟨rfl, h5, fr5⟩)
        have kF5 := Rg.hid (fr5.out.bk kF4.out hFe.out (by decide))
        have b5 := Rg.hid ((hbelw.out.trans f4.out).trans fr5.out.bel)
        clear fr5 kF4 f4 HC3 HC2 jp1 hE3
        have c2 : w5.cell? ⟨eb, 2, none⟩ = some (.bool dm.caller) := by rw [← hdc.out]; exact h5.out.bk.cell 2
        have cf4 : w5.cell? ⟨F, 4, none⟩ = some (.bool ca) := kF5.out.cell 4
        by_cases hcc : ca = dm.caller
        · have hcc1 : (!(ca == dm.caller)) = false := by simp [hcc]
          have hcc2 := Rg.hid (HE2.out hcc)
          replace hcc := Rg.hid hcc
          clear HE2 HT2
          go_quiet (fail)
          have h6 := Rg.hid (h5.out.below (Rg.drewN (Below.refl _ _) nq))
          have b6 := Rg.hid (Rg.drewN b5.out nq)
          clear c2 cf4 h5 b5 kF5
          generalize World.drewN _ _ = w6 at *
          obtain ⟨hTQ, hlt7⟩ := hcc2.out w6 _ _ h6.out b6.out
          clear hcc2 h6 b6
          go_wp2
          go_roundw
          case rel => exact hTQ
          case measure =>
            show ibufLen eb w6 < ibufLen eb wr
            rw [hbl.out]
            exact hlt7.out
        · have hcc1 : (!(ca == dm.caller)) = true := by simp [hcc]
          have HT3 := Rg.hid (HT2.out hcc)
          replace hcc := Rg.hid hcc
          clear HE2 HT2
          go_quiet (fail)
          have h6 := Rg.hid (h5.out.below (Rg.drewN (Below.refl _ _) nq))
          have b6 := Rg.hid (Rg.drewN b5.out nq)
          have kF6 := Rg.hid (kF5.out.below (Rg.drewN (Below.refl _ _) nq) kF5.out.lt)
          clear c2 cf4 h5 b5 kF5
          generalize World.drewN _ _ = w6 at *
          have c15 : w6.cell? ⟨eb, 15, none⟩ = some (.int .i64 dm.wait) := by rw [← hdw.out]; exact h6.out.bk.cell 15
          have fz := h6.out.bk.thaw
          have ho2 := (wait_bits ⟨hw0, hw3⟩).2.2.2
          have h7 := Rg.hid (h6.out.upd 15 (.int .i64 (Gp.or2 dm.wait)) { dn with wait := Gp.or2 dm.wait } rfl rfl rfl rfl rfl)
          have b7 := Rg.hid (b6.out.trans (below_set eb 15 (.int .i64 (Gp.or2 dm.wait))))
          have kF7 := Rg.hid (kF6.out.other (i := 15) hFe.out (.int .i64 (Gp.or2 dm.wait)))
          clear h6 b6 kF6
          go_upto_region 8 with fail
          generalize World.setCell _ _ _ = w7 at *
          clear c15 fz
          have m0 : w7.cell? ⟨F, 0, none⟩ = some (.int .i64 kd) := kF7.out.cell 0
          have m1 : w7.cell? ⟨F, 1, none⟩ = some (.int .i64 nm) := kF7.out.cell 1
          have m2 : w7.cell? ⟨F, 2, none⟩ = some (.int .i64 ak) := kF7.out.cell 2
          have m3 : w7.cell? ⟨F, 3, none⟩ = some (.int .i64 ch) := kF7.out.cell 3
          have m4 : w7.cell? ⟨F, 4, none⟩ = some (.bool ca) := kF7.out.cell 4
          have m5 : w7.cell? ⟨F, 5, none⟩ = some (.string D) := kF7.out.cell 5
          have HT4 := Rg.hid (HT3.out w7 _ _ h7.out b7.out)
          clear HT3 h7 b7 kF7
          go_wp2_with (go_at_call 28; refine HT4.out.mono ?_; rintro e w8 ⟨rfl, hTQ, hlt7⟩)
          go_roundw
          case rel => exact hTQ
          case measure =>
            show ibufLen eb w8 < ibufLen eb wr
            rw [hbl.out]
            exact hlt7.out
      · go_simp
        refine hK.out _ _ ?_ (fun hH23 => ?_)
        · exact ⟨a13, ap0, ap1⟩
        clear hK K hH0
        try simp only [Act.put, List.setIfInBounds_toArray, List.set_cons_zero, List.set_cons_succ]
        refine wpAnyH_ready (rs := [5]) (by kernel_rfl) (by simp) ?_
        refine AllReadyH.cons (o := { dst := some 36, op := _, type := _, pos := _, after := _, guard := _ }) rfl (fun K hK => ?_) AllReadyH.nil
        go_simp
        refine hK.out _ _ ?_ (fun hH5 => ?_)
        · exact ⟨a13, ap0, ap1⟩
        clear hK K hH23
        refine wpAnyH_ready (rs := [24]) (by kernel_rfl) (by simp) ?_
        refine AllReadyH.cons (o := { dst := some 55, op := _, type := _, pos := _, after := _, guard := _ }) rfl (fun K hK => ?_) AllReadyH.nil
        refine Rg.step_append_run (by rfl) (.tmp 36) (.tmp 54) 30 (by rfl) _ _ (by rfl) (by rfl) hap.out ?_
        refine hK.out _ _ ?_ (fun hH24 => ?_)
        · exact ⟨e13, ep0, ep1⟩
        clear hK K hH5
        simp only [Act.put, List.setIfInBounds_toArray, List.set_cons_zero, List.set_cons_succ]
        refine wpAnyH_take (i := 25) (oi := { dst := some 56, op := _, type := _, pos := _, after := _, guard := _ }) (v := ?_) rfl (by kernel_rfl) (by kernel_rfl) (by kernel_rfl) (fun _ _ _ h => h) (Or.inl ⟨by rfl, ?_⟩) (by assumption) ?_
        rotate_left
        · (intro w hSw; (try dsimp only at hSw); go_simp); (try with_reducible rfl)
        simp only [Act.put, List.setIfInBounds_toArray, List.set_cons_zero, List.set_cons_succ]
        refine wpAnyH_take (i := 26) (oi := { dst := some 57, op := _, type := _, pos := _, after := _, guard := _ }) (v := ?_) rfl (by kernel_rfl) (by kernel_rfl) (by kernel_rfl) (fun _ _ _ h => h) (Or.inl ⟨by rfl, ?_⟩) (by assumption) ?_
        rotate_left
        · (intro w hSw; (try dsimp only at hSw); go_simp); (try with_reducible rfl)
        simp only [Act.put, List.setIfInBounds_toArray, List.set_cons_zero, List.set_cons_succ]
        refine wpAnyH_take (i := 27) (oi := { dst := some 58, op := _, type := _, pos := _, after := _, guard := _ }) (v := ?_) rfl (by kernel_rfl) (by kernel_rfl) (by kernel_rfl) (fun _ _ _ h => h) (Or.inl ⟨by rfl, ?_⟩) (by assumption) ?_
        rotate_left
        · (intro w hSw; (try dsimp only at hSw); go_simp); (try with_reducible rfl)
        simp only [Act.put, List.setIfInBounds_toArray, List.set_cons_zero, List.set_cons_succ]
        refine wpAnyH_ready (rs := [28]) (by kernel_rfl) (by simp) ?_
        refine AllReadyH.cons (o := { dst := none, op := _, type := _, pos := _, after := _, guard := _ }) rfl (fun K hK => ?_) AllReadyH.nil
        go_simp
        refine hK.out _ _ ?_ (fun hH28 => ?_)
        · exact ⟨j13, jp0, jp1⟩
        clear hK K hH24
        refine wpAnyH_done (by kernel_rfl) ?_ _
        have f4 := Rg.hid (hb3.out.trans (below_set eb 17 (.slice (some ⟨g, 0, none⟩) tn1 cap)))
        have kF4 := Rg.hid (kF3.out.other (i := 17) hFe.out (.slice (some ⟨g, 0, none⟩) tn1 cap))
        clear kF3 hb3 hkp hap e13 ep0 ep1 a13 ap0 ap1 c13 c17 kp0 kp1 fz fz3 e17
        generalize World.setCell _ _ _ = w4 at *
        clear j13 jp0
        have HC3 := Rg.hid (HC2.out w4 _ hE3.out)
        go_upto_region 6 with (go_at_call 27; refine HC3.out.mono ?_; rintro e w5 ⟨rfl, h5, fr5⟩)
        have kF5 := Rg.hid (fr5.out.bk kF4.out hFe.out (by decide))
        have b5 := Rg.hid ((hbelw.out.trans f4.out).trans fr5.out.bel)
        clear fr5 kF4 f4 HC3 HC2 jp1 hE3
        have c2 : w5.cell? ⟨eb, 2, none⟩ = some (.bool dm.caller) := by rw [← hdc.out]; exact h5.out.bk.cell 2
        have cf4 : w5.cell? ⟨F, 4, none⟩ = some (.bool ca) := kF5.out.cell 4
        by_cases hcc : ca = dm.caller
        · have hcc1 : (!(ca == dm.caller)) = false := by simp [hcc]
          have hcc2 := Rg.hid (HE2.out hcc)
          replace hcc := Rg.hid hcc
          clear HE2 HT2
          go_quiet (fail)
          have h6 := Rg.hid (h5.out.below (Rg.drewN (Below.refl _ _) nq))
          have b6 := Rg.hid (Rg.drewN b5.out nq)
          clear c2 cf4 h5 b5 kF5
          generalize World.drewN _ _ = w6 at *
          obtain ⟨hTQ, hlt7⟩ := hcc2.out w6 _ _ h6.out b6.out
          clear hcc2 h6 b6
          go_wp2
          go_roundw
          case rel => exact hTQ
          case measure =>
            show ibufLen eb w6 < ibufLen eb wr
            rw [hbl.out]
            exact hlt7.out
        · have hcc1 : (!(ca == dm.caller)) = true := by simp [hcc]
          have HT3 := Rg.hid (HT2.out hcc)
          replace hcc := Rg.hid hcc
          clear HE2 HT2
          go_quiet (fail)
          have h6 := Rg.hid (h5.out.below (Rg.drewN (Below.refl _ _) nq))
          have b6 := Rg.hid (Rg.drewN b5.out nq)
          have kF6 := Rg.hid (kF5.out.below (Rg.drewN (Below.refl _ _) nq) kF5.out.lt)
          clear c2 cf4 h5 b5 kF5
          generalize World.drewN _ _ = w6 at *
          have c15 : w6.cell? ⟨eb, 15, none⟩ = some (.int .i64 dm.wait) := by rw [← hdw.out]; exact h6.out.bk.cell 15
          have fz := h6.out.bk.thaw
          have ho2 := (wait_bits ⟨hw0, hw3⟩).2.2.2
          have h7 := Rg.hid (h6.out.upd 15 (.int .i64 (Gp.or2 dm.wait)) { dn with wait := Gp.or2 dm.wait } rfl rfl rfl rfl rfl)
          have b7 := Rg.hid (b6.out.trans (below_set eb 15 (.int .i64 (Gp.or2 dm.wait))))
          have kF7 := Rg.hid (kF6.out.other (i := 15) hFe.out (.int .i64 (Gp.or2 dm.wait)))
          clear h6 b6 kF6
          go_upto_region 8 with fail
          generalize World.setCell _ _ _ = w7 at *
          clear c15 fz
          have m0 : w7.cell? ⟨F, 0, none⟩ = some (.int .i64 kd) := kF7.out.cell 0
          have m1 : w7.cell? ⟨F, 1, none⟩ = some (.int .i64 nm) := kF7.out.cell 1
          have m2 : w7.cell? ⟨F, 2, none⟩ = some (.int .i64 ak) := kF7.out.cell 2
          have m3 : w7.cell? ⟨F, 3, none⟩ = some (.int .i64 ch) := kF7.out.cell 3
          have m4 : w7.cell? ⟨F, 4, none⟩ = some (.bool ca) := kF7.out.cell 4
          have m5 : w7.cell? ⟨F, 5, none⟩ = some (.string D) := kF7.out.cell 5
          have HT4 := Rg.hid (HT3.out w7 _ _ h7.out b7.out)
          clear HT3 h7 b7 kF7
          go_wp2_with (go_at_call 28; refine HT4.out.mono ?_; rintro e w8 ⟨rfl, hTQ, hlt7⟩)
          go_roundw
          case rel => exact hTQ
          case measure =>
            show ibufLen eb w8 < ibufLen eb wr
            rw [hbl.out]
            exact hlt7.out
end Go.Proofs.Ytlclfkogbfigbaa
