/-
  Walks of layer 4: isPart, and the document's part.
-/
import Derived.Test.YtgcbaflaidehnaaDoorRet
import Derived.Test.YtgcbaflaidehnaaDoorProg
import Derived.Test.YtgcbaflaidehnaaDoorMathBun
import Derived.WalkKit
import Derived.WalkMore
namespace Go.Proofs.YtgcbaflaidehnaaDoor
open Go.RowKit


namespace Pth
theorem all_take {f : UInt8 → Bool} (s : ByteArray) (k : Nat) (h : k < s.size) (hk : (s.data.toList.take k).all f = true) (hc : f s[k] = true) : (s.data.toList.take (k + 1)).all f = true := by
  rw [Oct.take_snoc s k h, List.all_append, hk]; simp [hc]
theorem all_not {f : UInt8 → Bool} (s : ByteArray) (k : Nat) (h : k < s.size) (hc : f s[k] = false) : s.data.toList.all f = false := by
  rw [List.all_eq_false]
  exact ⟨s[k], Oct.mem_at s k h, by simp [hc]⟩
theorem isPart_no {s : Bs} (h : s.all okb = false) : isPart s = false := by rw [isPart, h]; rfl
theorem isPartR_no {s : Bs} (h : s.all okr = false) : isPartR s = false := by rw [isPartR, h]; rfl
theorem isPart_yes {s : Bs} (h : s.all okb = true) : isPart s = (!(s == []) && !(s == [46]) && !(s == [46, 46])) := by rw [isPart, h]; rfl
theorem isPartR_yes {s : Bs} (h : s.all okr = true) : isPartR s = (!(s == []) && !(s == [46]) && !(s == [46, 46])) := by rw [isPartR, h]; rfl
end Pth

set_option maxHeartbeats 1000000 in
theorem isPart_any (s : ByteArray) (w : World) (hs : s.size ≤ maxLen) :
    Calls Tryd.prog 48 #[.string s] w fun e w' => e = .returned (.bool (Pth.isPart s.data.toList)) ∧ w' = w := by
  unfold maxLen at hs
  go_enter Tryd.func48, Tryd.ntmps48
  go_wp2
  go_loop [6] (fun i => ∃ k : Nat, k ≤ s.size ∧ i = .int .i64 k ∧ Hid ((s.data.toList.take k).all Pth.okb = true)) (fun i => s.size - (intOf i).toNat)
  case atStart => exact ⟨0, Nat.zero_le _, rfl, rfl⟩
  case round =>
    obtain ⟨k, hk, rfl, hall⟩ := hrel
    by_cases hlt : k < s.size
    · by_cases h1 : s[k].toNat < 33
      · have hr : Hid (Pth.isPart s.data.toList = false) := Pth.isPart_no (Pth.all_not s k hlt (by simp [Pth.okb]; omega))
        have hd : decide ((s[k].toNat : Int) < 33) = true := by simp; omega
        clear hall
        go_wp2
        go_ret
        exact ⟨ret_bool hr.out.symm, rfl⟩
      · have hd : decide ((s[k].toNat : Int) < 33) = false := by simp; omega
        by_cases h2 : 126 < s[k].toNat
        · have hr : Hid (Pth.isPart s.data.toList = false) := Pth.isPart_no (Pth.all_not s k hlt (by simp [Pth.okb]; omega))
          have hd2 : decide ((126 : Int) < (s[k].toNat : Int)) = true := by simp; omega
          clear hall
          go_wp2
          go_ret
          exact ⟨ret_bool hr.out.symm, rfl⟩
        · have hn : Hid ((s.data.toList.take (k + 1)).all Pth.okb = true) := Pth.all_take s k hlt hall.out (by simp [Pth.okb]; omega)
          have hd2 : decide ((126 : Int) < (s[k].toNat : Int)) = false := by simp; omega
          clear hall
          go_wp2
          go_round
          case rel => exact ⟨k + 1, by omega, by go_num, hn⟩
          case measure => simp [intOf]; omega
    · obtain rfl : k = s.size := by omega
      have hr : Hid (Pth.isPart s.data.toList = (!(s.toList == []) && !(s.toList == [46]) && !(s.toList == [46, 46]))) := by
        show _ = _
        have := hall.out
        rw [Oct.take_all s s.size (Nat.le_refl _)] at this
        rw [tl_eq, Pth.isPart_yes this]
      clear hall
      cases h0 : (s.toList == [])
      · cases h1 : (s.toList == [46])
        · cases h2 : (s.toList == [46, 46])
          all_goals
            rw [h0, h1, h2] at hr
            go_wp2
            go_ret
            exact ⟨ret_bool hr.out.symm, rfl⟩
        · rw [h0, h1] at hr
          go_wp2
          go_ret
          exact ⟨ret_bool hr.out.symm, rfl⟩
      · rw [h0] at hr
        go_wp2
        go_ret
        exact ⟨ret_bool hr.out.symm, rfl⟩

end Go.Proofs.YtgcbaflaidehnaaDoor
