/-
  Walks of layer 12: what stands behind a head.
-/
import Derived.Test.YtghelhcmecmldaaIfU
import Derived.Test.YtghelhcmecmldaaIf2
import Derived.Test.YtghelhcmecmldaaCrc2
namespace Go.Proofs.Ytghelhcmecmldaa
open Go.RowKit
theorem If.empty_of {d : ByteArray} (h : d.size = 0) : d = ⟨#[]⟩ := by
  apply ByteArray.ext; apply Array.toList_inj.1
  exact List.eq_nil_of_length_eq_zero (by rw [If.len_eq]; exact h)
theorem If.body_some {d : ByteArray} (h : 0 < d.size) : If.body d.data.toList = d.data.toList ++ If.be4 (If.crc d.data.toList) := by
  unfold If.body
  rw [if_neg]
  intro e
  have := If.len_eq d
  rw [e] at this
  simp at this
  omega
set_option maxHeartbeats 1000000 in
theorem body_any (d : ByteArray) (hd : d.size < 4096) (w : World) :
    Calls Try.prog 19 #[.string d] w fun e w' => e = .returned (.string ⟨(If.body d.data.toList).toArray⟩) ∧ Below w.heap.size w w' := by
  by_cases h0 : d.size = 0
  · obtain rfl := If.empty_of h0
    clear h0 hd
    go_enter Try.func19, Try.ntmps19
    go_wp2
    go_ret
    exact ⟨rfl, Below.refl _ _⟩
  · have hn := If.ne_nil (s := d) (by omega)
    have HC : Hid (∀ W, Calls Try.prog 30 #[.string d] W fun e w' => e = .returned (.int .i64 (If.crc d.data.toList : Nat)) ∧ w' = W) := fun W => crc_any d W (by unfold maxLen; omega)
    have hq := If.crc_lt d.data.toList
    have hr : Hid (d ++ (⟨(If.be4 (If.crc d.data.toList)).toArray⟩ : ByteArray) = ⟨(If.body d.data.toList).toArray⟩) := by
      show _ = _
      rw [If.body_some (by omega), ← If.ba_app, If.ba_toList]
    generalize If.crc d.data.toList = q at *
    have HP : Hid (∀ W, Calls Try.prog 29 #[.int .i64 q, .int .i64 4] W fun e w' => e = .returned (.tuple #[.string ⟨(If.be4 q).toArray⟩, .int .i64 0]) ∧ Below W.heap.size W w') := fun W => put4_any q hq W
    have hT : (⟨(If.be4 q).toArray⟩ : ByteArray).size = 4 := rfl
    generalize (⟨(If.be4 q).toArray⟩ : ByteArray) = T at *
    clear h0 hq
    go_enter Try.func19, Try.ntmps19
    go_wp2_with (first
      | (go_at_call 30; refine (HC.out _).mono ?_; rintro e w1 ⟨rfl, rfl⟩)
      | (go_at_call 29; refine (HP.out _).mono ?_; rintro e w2 ⟨rfl, b2⟩))
    go_ret
    exact ⟨ret_s (by rw [hr.out]), b2⟩
end Go.Proofs.Ytghelhcmecmldaa
