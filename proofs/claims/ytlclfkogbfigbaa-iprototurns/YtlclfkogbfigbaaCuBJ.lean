/-
  Walks of layer 16: Begin. Mathematics of layer 16: neighbours of one channel are one piece, reckoned from the front.
-/
import Derived.Test.YtlclfkogbfigbaaCuBI
import Derived.Test.YtlclfkogbfigbaaCuAE
namespace Go.Proofs.Ytlclfkogbfigbaa
open Go.RowKit
/-- where nothing lies -/
def Pl.inone : Pl := ⟨none, 0, none, 0, none, 0, none, 0⟩
theorem IDR.zero {Kp : Nat → Prop} (W : World) (ca : Bool) (z ro : Int) : IDR Kp W (Ip.begin_ ca z ro) Pl.inone := ⟨⟨.inl rfl, .inl rfl, .inl rfl, .inl rfl⟩, Nat.le_refl _, Nat.le_refl _, Nat.zero_le _, Nat.zero_le _, .inl rfl, .inl rfl, .inl rfl, .inl rfl⟩
/-- what Begin hands back -/
def IBPost (Kp : Nat → Prop) (w : World) (d : Gp.Dr) (s : List UInt8) (e : Ending) (w' : World) : Prop := ∃ p', e = .returned (.tuple #[DV d p', .string ⟨s.toArray⟩, .int .i64 0]) ∧ IDR Kp w' d p' ∧ Below w.heap.size w w'
set_option maxHeartbeats 4000000 in
set_option maxRecDepth 100000 in
theorem ibegin_yes {Kp : Nat → Prop} (ca : Bool) (z ro : Int) (w : World) (h1 : 1 ≤ z ∧ z ≤ 4095) (h2 : 1 ≤ ro ∧ ro ≤ 16) (hK : Hid (∀ b, w.heap.size ≤ b → Kp b)) :
    Calls Try.prog 5 #[.bool ca, .int .i64 z, .int .i64 ro] w fun e w' => IBPost Kp w (Ip.begin_ ca z ro) (Ip.sync (Ip.begin_ ca z ro)) e w' := by
  have HM := Rg.hid (fun W => imayBe_yes h1 h2 W)
  have kR0 : Hid (Rg.Bk w.heap.size [.int .i64 0, .int .i64 0, .bool false, .int .i64 0, .int .i64 0, .int .i64 0, .int .i64 0, .int .i64 0, .int .i64 0, .slice none 0 0, .int .i64 0, .slice none 0 0, .string ⟨#[]⟩, .int .i64 0, .slice none 0 0, .int .i64 0, .int .i64 0, .slice none 0 0] 32 (w.alloc (.cells #[.int .i64 0, .int .i64 0, .bool false, .int .i64 0, .int .i64 0, .int .i64 0, .int .i64 0, .int .i64 0, .int .i64 0, .slice none 0 0, .int .i64 0, .slice none 0 0, .string ⟨#[]⟩, .int .i64 0, .slice none 0 0, .int .i64 0, .int .i64 0, .slice none 0 0] 32))) := Rg.Bk.new (by simp)
  have hb0 := Rg.hid (Rg.al1 w (.cells #[.int .i64 0, .int .i64 0, .bool false, .int .i64 0, .int .i64 0, .int .i64 0, .int .i64 0, .int .i64 0, .int .i64 0, .slice none 0 0, .int .i64 0, .slice none 0 0, .string ⟨#[]⟩, .int .i64 0, .slice none 0 0, .int .i64 0, .int .i64 0, .slice none 0 0] 32))
  have HO : Hid (∀ W eb, w.heap.size ≤ eb → Rg.Bk eb [.int .i64 105, .int .i64 1, .bool ca, .int .i64 0, .int .i64 z, .int .i64 ro, .int .i64 0, .int .i64 0, .int .i64 0, .slice none 0 0, .int .i64 1, .slice none 0 0, .string ⟨#[]⟩, .int .i64 0, .slice none 0 0, .int .i64 0, .int .i64 0, .slice none 0 0, .pointer none, .slice none 0 0, .slice none 0 0] 51 W → Below w.heap.size w W → Calls Try.prog 10 #[.pointer (some ⟨eb, 0, none⟩)] W fun e w' => e = .returned (.tuple #[]) ∧ Hid (∃ p1 q1, IAt (fun b => Kp b ∧ b < w.heap.size) w' eb (Ip.begin_ ca z ro) p1 q1 (Ip.sync (Ip.begin_ ca z ro)) []) ∧ Hid (Below eb W w')) := fun W eb hn k hb => by
    have hE : IAt (fun b => Kp b ∧ b < w.heap.size) W eb (Ip.begin_ ca z ro) (iown Pl.inone) ⟨.pointer none, .slice none 0 0, .slice none 0 0, none⟩ [] [] := (IDR.zero (Kp := fun b => Kp b ∧ b < w.heap.size) w ca z ro).end_ hb k hn
    have hB : Ip.base (Ip.begin_ ca z ro) := ⟨rfl, h1, h2, (show (0 : Int) ≤ 1 ∧ (1 : Int) ≤ 31 by decide), (show (0 : Int) ≤ 0 ∧ (0 : Int) ≤ 1099511627776 by decide), (show (0 : Int) ≤ 0 ∧ (0 : Int) ≤ 3 by decide), (show (0 : Int) ≤ 0 ∧ (0 : Int) ≤ 13 by decide), (fun _ h => by cases h), (fun _ h => by cases h), trivial⟩
    refine (isaySync_any hE hB (by simp)).mono fun e w' hp => ?_
    obtain ⟨hp1, ⟨s1, sb1, hp2⟩, hp3⟩ := hp
    rw [List.nil_append] at hp2
    exact ⟨hp1, ⟨_, _, hp2⟩, hp3.bel⟩
  obtain ⟨d1, hd1⟩ : ∃ d1, d1 = Ip.begin_ ca z ro := ⟨_, rfl⟩
  obtain ⟨so, hso⟩ : ∃ so, so = Ip.sync (Ip.begin_ ca z ro) := ⟨_, rfl⟩
  have hqr : Hid (d1.queue.length ≤ 100000) := by rw [hd1]; exact Nat.zero_le _
  have hwr : Hid (d1.win.l.length ≤ 100000) := by rw [hd1]; exact Nat.zero_le _
  rw [← hso, ← hd1] at HO ⊢
  replace hd1 := Rg.hid hd1
  replace hso := Rg.hid hso
  clear h1 h2
  go_enter Try.func5, Try.ntmps5
  go_upto_region 1 with fail
  generalize World.alloc _ _ = w1 at *
  obtain ⟨R, hR⟩ : ∃ R, R = w.heap.size := ⟨_, rfl⟩
  rw [← hR] at kR0 ⊢
  have hRw : Hid (w.heap.size ≤ R) := by show _ ≤ _; omega
  replace hR := Rg.hid hR
  have kE0 : Hid (Rg.Bk w1.heap.size [.int .i64 105, .int .i64 1, .bool ca, .int .i64 0, .int .i64 z, .int .i64 ro, .int .i64 0, .int .i64 0, .int .i64 0, .slice none 0 0, .int .i64 1, .slice none 0 0, .string ⟨#[]⟩, .int .i64 0, .slice none 0 0, .int .i64 0, .int .i64 0, .slice none 0 0, .pointer none, .slice none 0 0, .slice none 0 0] 51 (w1.alloc (.cells #[.int .i64 105, .int .i64 1, .bool ca, .int .i64 0, .int .i64 z, .int .i64 ro, .int .i64 0, .int .i64 0, .int .i64 0, .slice none 0 0, .int .i64 1, .slice none 0 0, .string ⟨#[]⟩, .int .i64 0, .slice none 0 0, .int .i64 0, .int .i64 0, .slice none 0 0, .pointer none, .slice none 0 0, .slice none 0 0] 51))) := Rg.Bk.new rfl
  have b2 := Rg.hid (Rg.al1 w1 (.cells #[.int .i64 105, .int .i64 1, .bool ca, .int .i64 0, .int .i64 z, .int .i64 ro, .int .i64 0, .int .i64 0, .int .i64 0, .slice none 0 0, .int .i64 1, .slice none 0 0, .string ⟨#[]⟩, .int .i64 0, .slice none 0 0, .int .i64 0, .int .i64 0, .slice none 0 0, .pointer none, .slice none 0 0, .slice none 0 0] 51))
  go_upto_region 4 with (go_at_call 9; refine (HM.out _).mono ?_; rintro e w2 ⟨rfl, hw⟩; obtain rfl := hw.symm)
  generalize World.alloc _ _ = w2 at *
  have hb2 := Rg.hid (Rg.chain hb0.out b2.out)
  have kR2 := Rg.hid (kR0.out.below b2.out kR0.out.lt)
  obtain ⟨eb, heb⟩ : ∃ eb, eb = w1.heap.size := ⟨_, rfl⟩
  rw [← heb] at kE0 ⊢
  have hRe : Hid (R < eb) := by show _ < _; rw [heb]; exact kR0.out.lt
  have hle : w.heap.size ≤ eb := by rw [heb]; exact hb0.out.size
  replace heb := Rg.hid heb
  have hle2 := Rg.hid hle
  have hRe2 : Hid (eb ≠ R) := fun e => by have := hRe.out; omega
  have HO1 := Rg.hid (HO.out w2 eb hle kE0.out hb2.out)
  clear HO kE0 b2 hle HM hb0 kR0
  go_upto_region 5 with (go_at_call 10; refine HO1.out.mono ?_; rintro e w3 ⟨rfl, hq, hf⟩)
  obtain ⟨p1, q1, hE⟩ := hq.out
  replace hE := Rg.hid hE
  have kR3 := Rg.hid (kR2.out.same (hf.out.block R hRe.out))
  have hb4 := Rg.hid (hb2.out.trans (hf.out.mono hle2.out))
  have HStr := Rg.hid (istr_end hE.out kR3.out)
  clear HO1 hq hf hb2 kR2
  refine wp_region_held_drew (S := (fun (w' : World) => Rg.Bk eb (IC d1 p1 q1) 51 w')) (by kernel_rfl) ?_ (fun hH0 => ?_)
  · exact hE.out.bk
  refine wpAnyH_take (i := 0) (oi := { dst := some 23, op := _, type := _, pos := _, after := _, guard := _ }) (v := ?_) rfl (by kernel_rfl) (by kernel_rfl) (by kernel_rfl) (fun _ _ _ h => h) (Or.inl ⟨by rfl, ?_⟩) (by assumption) ?_
  rotate_left
  · (intro w hSw; clear hSw; go_simp); (try with_reducible rfl)
  simp only [Act.put, List.setIfInBounds_toArray, List.set_cons_zero, List.set_cons_succ]
  refine wpAnyH_take (i := 1) (oi := { dst := some 24, op := _, type := _, pos := _, after := _, guard := _ }) (v := ?_) rfl (by kernel_rfl) (by kernel_rfl) (by kernel_rfl) (fun _ _ _ h => h) (Or.inl ⟨by rfl, ?_⟩) (by assumption) ?_
  rotate_left
  · (intro w hSw; clear hSw; go_simp); (try with_reducible rfl)
  simp only [Act.put, List.setIfInBounds_toArray, List.set_cons_zero, List.set_cons_succ]
  refine wpAnyH_take (i := 2) (oi := { dst := some 25, op := _, type := _, pos := _, after := _, guard := _ }) (v := ?_) rfl (by kernel_rfl) (by kernel_rfl) (by kernel_rfl) (fun _ _ _ h => h) (Or.inl ⟨by rfl, ?_⟩) (by assumption) ?_
  rotate_left
  · (intro w hSw; clear hSw; go_simp); (try with_reducible rfl)
  simp only [Act.put, List.setIfInBounds_toArray, List.set_cons_zero, List.set_cons_succ]
  refine wpAnyH_take (i := 3) (oi := { dst := some 26, op := _, type := _, pos := _, after := _, guard := _ }) (v := DV d1 p1) rfl (by kernel_rfl) (by kernel_rfl) (by kernel_rfl) (fun _ _ _ h => h) (Or.inl ⟨by rfl, fun w hSw => iexec_load_row _ _ rfl rfl (iload_end hSw)⟩) (by assumption) ?_
  simp only [Act.put, List.setIfInBounds_toArray, List.set_cons_zero, List.set_cons_succ]
  refine wpAnyH_take (i := 4) (oi := { dst := some 27, op := _, type := _, pos := _, after := _, guard := _ }) (v := ?_) rfl (by kernel_rfl) (by kernel_rfl) (by kernel_rfl) (fun _ _ _ h => h) (Or.inl ⟨by rfl, ?_⟩) (by assumption) ?_
  rotate_left
  · (intro w hSw; clear hSw; go_simp); (try with_reducible rfl)
  simp only [Act.put, List.setIfInBounds_toArray, List.set_cons_zero, List.set_cons_succ]
  refine wpAnyH_take (i := 5) (oi := { dst := some 28, op := _, type := _, pos := _, after := _, guard := _ }) (v := ?_) rfl (by kernel_rfl) (by kernel_rfl) (by kernel_rfl) (fun _ _ _ h => h) (Or.inl ⟨by rfl, ?_⟩) (by assumption) ?_
  rotate_left
  · (intro w hSw; clear hSw; go_simp); (try with_reducible rfl)
  simp only [Act.put, List.setIfInBounds_toArray, List.set_cons_zero, List.set_cons_succ]
  refine wpAnyH_take (i := 6) (oi := { dst := some 29, op := _, type := _, pos := _, after := _, guard := _ }) (v := ?_) rfl (by kernel_rfl) (by kernel_rfl) (by kernel_rfl) (fun _ _ _ h => h) (Or.inl ⟨by rfl, ?_⟩) (by assumption) ?_
  rotate_left
  · (intro w hSw; clear hSw; go_simp); (try with_reducible rfl)
  simp only [Act.put, List.setIfInBounds_toArray, List.set_cons_zero, List.set_cons_succ]
  refine wpAnyH_ready (rs := [7]) (by kernel_rfl) (by simp) ?_
  refine AllReadyH.cons (o := { dst := some 30, op := _, type := _, pos := _, after := _, guard := _ }) rfl (fun K hK => ?_) AllReadyH.nil
  go_simp
  go_at_call 11; refine HStr.out.mono ?_; rintro e w5 ⟨rfl, hb5, kE5, kR5⟩
  refine hK.out _ _ ?_ (fun hH7 => ?_)
  · exact kE5.out
  clear hK K hH0
  try simp only [Act.put, List.setIfInBounds_toArray, List.set_cons_zero, List.set_cons_succ]
  obtain ⟨w6, hst, kR6, oR6⟩ := Rg.row_storeVar (P := Try.prog) (t := 32) (CS := (DC d1 p1).toArray) kR5.out iinfoDr2 rfl (by simp [DC, Value.oneCell'])
  replace hst : Hid ((storeVar 32 ⟨R, 0, none⟩ (DV d1 p1)).run Try.prog w5 = .ok () w6) := hst
  have kE6 : Hid (Rg.Bk eb (IC d1 p1 q1) 51 w6) := kE5.out.same (oR6.block eb hRe2.out)
  refine wpAnyH_ready (rs := [8]) (by kernel_rfl) (by simp) ?_
  refine AllReadyH.cons (o := { dst := none, op := _, type := _, pos := _, after := _, guard := _ }) rfl (fun K hK => ?_) AllReadyH.nil
  refine istep_store_row (by rfl) (.tmp 6) (.tmp 26) 32 (by rfl) (by rfl) (by rfl) hst.out ?_
  refine hK.out _ _ ?_ (fun hH8 => ?_)
  · exact kE6.out
  clear hK K hH7
  simp only [Act.put]
  refine wpAnyH_take (i := 9) (oi := { dst := some 7, op := _, type := _, pos := _, after := _, guard := _ }) (v := ?_) rfl (by kernel_rfl) (by kernel_rfl) (by kernel_rfl) (fun _ _ _ h => h) (Or.inl ⟨by rfl, ?_⟩) (by assumption) ?_
  rotate_left
  · (intro w hSw; clear hSw; go_simp); (try with_reducible rfl)
  simp only [Act.put, List.setIfInBounds_toArray, List.set_cons_zero, List.set_cons_succ]
  refine wpAnyH_take (i := 10) (oi := { dst := some 8, op := _, type := _, pos := _, after := _, guard := _ }) (v := ?_) rfl (by kernel_rfl) (by kernel_rfl) (by kernel_rfl) (fun _ _ _ h => h) (Or.inl ⟨by rfl, ?_⟩) (by assumption) ?_
  rotate_left
  · (intro w hSw; clear hSw; go_simp); (try with_reducible rfl)
  simp only [Act.put, List.setIfInBounds_toArray, List.set_cons_zero, List.set_cons_succ]
  refine wpAnyH_done (by kernel_rfl) ?_ _
  have hfin : IDR Kp w6 d1 p1 := hE.out.rest hqr.out hwr.out hle2.out hK.out kR3.out hRe.out (fun k hk h1 h2 h3 => by rw [oR6.block k h2]; exact hb5.out.2 k hk h3) ((hb5.out.1.mono hle2.out).trans (oR6.bel hRw.out))
  have hbel : Below w.heap.size w w6 := (hb4.out.trans (hb5.out.1.mono hle2.out)).trans (oR6.bel hRw.out)
  have hres : (loadVar 32 ⟨R, 0, none⟩).run Try.prog w6 = .ok (DV d1 p1) w6 := Rg.row_loadVar (P := Try.prog) (t := 32) (CS := (DC d1 p1).toArray) kR6 Try.underlying32 rfl iinfoDr2
  have hfe : IBPost Kp w d1 so (.returned (.tuple #[DV d1 p1, .string ⟨so.toArray⟩, .int .i64 0])) w6 := ⟨p1, rfl, hfin, hbel⟩
  clear hfin hbel hE HStr hb5 kE5 kR5 oR6 kE6 kR6 hst hb4 kR3 hH8
  go_wp2
  exact bodyPost_ret (v := .tuple #[DV d1 p1, .string ⟨so.toArray⟩, .int .i64 0]) (iresults_row3 rfl rfl rfl rfl hres) rfl hfe
end Go.Proofs.Ytlclfkogbfigbaa

namespace Go.Proofs.Ytlclfkogbfigbaa
namespace Ip
open Gp (Dr Pc Fi)
/-- what was gathered goes ahead of the first piece -/
def pre (B : ByteArray) : List Pc → List Pc
  | [] => []
  | q :: t => ⟨q.ch, B ++ q.data⟩ :: t
/-- the joined list, reckoned from the front, behind what was gathered -/
def jo : ByteArray → List Pc → List Pc
  | _, [] => []
  | B, [p] => [⟨p.ch, B ++ p.data⟩]
  | B, p :: q :: r => if q.ch = p.ch then jo (B ++ p.data) (q :: r) else ⟨p.ch, B ++ p.data⟩ :: jo ByteArray.empty (q :: r)
theorem join_cons (p : Pc) (r : List Pc) : ∃ x t, join (p :: r) = x :: t ∧ x.ch = p.ch := by
  unfold join
  split
  · exact ⟨_, _, rfl, rfl⟩
  · rename_i q t _
    split
    · exact ⟨_, _, rfl, rfl⟩
    · exact ⟨_, _, rfl, rfl⟩
theorem jo_pre : ∀ (l : List Pc) (B : ByteArray), jo B l = pre B (join l)
  | [], _ => rfl
  | [p], B => rfl
  | p :: q :: r, B => by
    obtain ⟨x, t, e, hx⟩ := join_cons q r
    have hj : join (p :: q :: r) = if p.ch = x.ch then ⟨p.ch, p.data ++ x.data⟩ :: t else p :: x :: t := by
      conv => lhs; unfold join
      rw [e]
    unfold jo
    rw [hj]
    by_cases h : q.ch = p.ch
    · rw [if_pos h, jo_pre (q :: r), e, if_pos (by rw [hx, h])]
      unfold pre
      dsimp only
      rw [hx, h, ByteArray.append_assoc]
    · rw [if_neg h, jo_pre (q :: r), e, if_neg (fun x2 => h (by rw [← hx, x2]))]
      unfold pre
      dsimp only
      rw [ByteArray.empty_append]
theorem jo_join (l : List Pc) : jo ByteArray.empty l = join l := by
  rw [jo_pre]
  cases join l with
  | nil => rfl
  | cons x t =>
    unfold pre
    dsimp only
    rw [ByteArray.empty_append]
end Ip
end Go.Proofs.Ytlclfkogbfigbaa
