/-
  Layer 16: IprotoBegins.
-/
import Derived.Test.YtlclfkogbfigbaaGreatBsIqN
import Derived.Test.YtlclfkogbfigbaaGreatBsIqM
namespace Go.Proofs.YtlclfkogbfigbaaGreat
open Go.RowKit
theorem ihsame {Kp Kq : Nat → Prop} {w : World} {d : Gp.Dr} {C1 C2 : Array Value} (h1 : IDH Kp w d C1) (h2 : IDH Kq w d C2) (a1 : d.win.l.length ≤ 1000000) (a2 : d.ahead.length ≤ 1000000) (a3 : d.queue.length ≤ 1000000) (a4 : d.took.length ≤ 1000000) : Calls Tryz.prog 9 #[.agg C1, .agg C2] w fun e w' => e = .returned (.bool true) ∧ Below w.heap.size w w' := by
  obtain ⟨p, rfl, h1⟩ := h1
  obtain ⟨q, rfl, h2⟩ := h2
  exact isame_any d p q a1 a2 a3 a4 w h1.at_ h2.at_
/-- what either Begin leaves -/
def IEBPost (w : World) (d : Gp.Dr) (s : ByteArray) (E : Int) (e : Ending) (w' : World) : Prop := ∃ CS, e = .returned (.tuple #[.agg CS, .string s, .int .i64 E]) ∧ Hid (IDH (fun _ => True) w' d CS) ∧ Hid (Below w.heap.size w w')
set_option maxHeartbeats 4000000 in
set_option maxRecDepth 100000 in
theorem ibegins_core (x ro E : Int) (ca : Bool) (d : Gp.Dr) (s : ByteArray) (w : World) (a1 : Hid (d.win.l = [])) (a2 : Hid (d.ahead = [])) (a3 : Hid (d.queue = [])) (a4 : Hid (d.took = []))
    (H1 : Hid (∀ W, Calls Tryz.prog 7 #[.bool ca, .int .i64 x, .int .i64 ro] W fun e w' => IEBPost W d s E e w')) (H2 : Hid (∀ W, Calls Tryz.prog 8 #[.bool ca, .int .i64 x, .int .i64 ro] W fun e w' => IEBPost W d s E e w')) :
    Calls Tryz.prog 3 #[.bool ca, .int .i64 x, .int .i64 ro] w fun e w' => e = .returned (.bool true) ∧ Below w.heap.size w w' := by
  have HA : Hid (∀ W, Calls Tryz.prog 10 #[] W fun e w' => e = .returned (.bool true) ∧ Below W.heap.size W w') := fun W => iawake_any W
  go_enter Tryz.func3, Tryz.ntmps3
  go_upto_region 2 with (first | (go_at_call 7; refine (H1.out _).mono ?_; rintro e w1 ⟨C1, rfl, hA1, b1⟩; obtain ⟨w2, st2, k2, b2, hA2⟩ := hA1.out.box) | (with_reducible refine is_store (.tmp 7) (.tmp 18) 29 ?_; refine list_store (.tmp 7) (.tmp 18) 29 rfl rfl st2.out ?_))
  obtain ⟨B7, hB7⟩ : ∃ B, B = w1.heap.size := ⟨_, rfl⟩
  rw [← hB7] at k2 ⊢
  have b12 := Rg.hid (Rg.chain b1.out b2.out)
  clear hB7 H1 hA1 st2 b1 b2
  go_upto_region 3 with (first | (go_at_call 8; refine (H2.out _).mono ?_; rintro e w3 ⟨C3, rfl, hA3, b3⟩; obtain ⟨w4, st4, k4, b4, hA4⟩ := hA3.out.box) | (with_reducible refine is_store (.tmp 10) (.tmp 26) 29 ?_; refine list_store (.tmp 10) (.tmp 26) 29 rfl rfl st4.out ?_))
  obtain ⟨B10, hB10⟩ : ∃ B, B = w3.heap.size := ⟨_, rfl⟩
  rw [← hB10] at k4 ⊢
  have b34 := Rg.hid (Rg.chain b3.out b4.out)
  have b04 := Rg.hid (Rg.chain b12.out b34.out)
  have kA4 := Rg.hid (k2.out.below b34.out k2.out.lt)
  have hA24 := Rg.hid (hA2.out.below b34.out)
  have hld1 := Rg.hid (hA24.out.load kA4.out)
  have hld2 := Rg.hid (hA4.out.load k4.out)
  have HS := Rg.hid (ihsame hA24.out hA4.out (by rw [a1.out]; exact Nat.zero_le _) (by rw [a2.out]; exact Nat.zero_le _) (by rw [a3.out]; exact Nat.zero_le _) (by rw [a4.out]; exact Nat.zero_le _))
  clear hB10 H2 hA3 st4 b3 b4 b12 b34 k2 k4 kA4 hA2 hA4 hA24 a1 a2 a3 a4
  go_wp2_with (first | (with_reducible refine is_load (.tmp 7) 29 ?_; refine list_load (.tmp 7) 29 rfl hld1.out ?_) | (with_reducible refine is_load (.tmp 10) 29 ?_; refine list_load (.tmp 10) 29 rfl hld2.out ?_) | (go_at_call 9; refine HS.out.mono ?_; rintro e w5 ⟨rfl, b5⟩) | (go_at_call 10; refine (HA.out _).mono ?_; rintro e w6 ⟨rfl, b6⟩))
  go_ret
  exact ⟨rfl, Rg.chain (Rg.chain b04.out b5) b6⟩
theorem ibegins_walk (ca : Bool) (x ro : Int) (w : World) : Calls Tryz.prog 3 #[.bool ca, .int .i64 x, .int .i64 ro] w fun e w' => e = .returned (.bool true) ∧ Below w.heap.size w w' := by
  by_cases h : (1 ≤ x ∧ x ≤ 4095) ∧ 1 ≤ ro ∧ ro ≤ 16
  · obtain ⟨h1, h2⟩ := h
    refine ibegins_core x ro 0 ca (Ip.begin_ ca x ro) ⟨(Ip.sync (Ip.begin_ ca x ro)).toArray⟩ w rfl rfl rfl rfl (fun W => ?_) (fun W => ?_)
    · exact ihbegin (fun _ => True) ca x ro W h1 h2
    · exact (irbegin_yes ca x ro W h1 h2).mono fun e w' ⟨he, hb⟩ => ⟨_, he, ⟨⟨none, 0, none, 0, none, 0, none, 0⟩, rfl, ⟨.inl rfl, .inl rfl, .inl rfl, .inl rfl⟩, Nat.le_refl _, Nat.zero_le _, Nat.zero_le _, Nat.zero_le _, .inl rfl, .inl rfl, .inl rfl, .inl rfl⟩, hb⟩
  · refine ibegins_core x ro 1 ca izD ⟨#[]⟩ w rfl rfl rfl rfl (fun W => ?_) (fun W => ?_)
    · exact (ibegin_no ca x ro W h).mono fun e w' ⟨he, hb⟩ => ⟨_, he, izDH _ _, hb⟩
    · exact (irbegin_no ca x ro W h).mono fun e w' ⟨he, hb⟩ => ⟨_, he, izDH _ _, hb⟩
end Go.Proofs.YtlclfkogbfigbaaGreat
