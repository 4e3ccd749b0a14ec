/-
  Walks of layer 12: Read, where it refuses at once.
-/
import Derived.Test.YtghelhcmecmldaaIf6
namespace Go.Proofs.Ytghelhcmecmldaa
open Go.RowKit
namespace If
def resV : Res → Value
  | .ok x => .tuple #[.agg #[.int .i64 x.1.kd, .int .i64 x.1.nm, .int .i64 x.1.ak, .int .i64 x.1.ch, .bool x.1.ca, .string ⟨x.1.data.toArray⟩], .int .i64 (x.2 : Nat), .int .i64 0]
  | .error e => .tuple #[.agg #[.int .i64 0, .int .i64 0, .int .i64 0, .int .i64 0, .bool false, .string ⟨#[]⟩], .int .i64 0, .int .i64 (e : Nat)]
end If
theorem Rg.ret6 {b : Nat} {C : List Value} {ty : TypeId} {W : World} (h : Bk b C ty W) (hC : C.length = 6) (v0 v1 v2 v3 v4 v5 : Value) :
    Bk b [v0, v1, v2, v3, v4, v5] ty ((((((W.setCell ⟨b, 0, none⟩ v0).setCell ⟨b, 1, none⟩ v1).setCell ⟨b, 2, none⟩ v2).setCell ⟨b, 3, none⟩ v3).setCell ⟨b, 4, none⟩ v4).setCell ⟨b, 5, none⟩ v5) ∧ Only b W ((((((W.setCell ⟨b, 0, none⟩ v0).setCell ⟨b, 1, none⟩ v1).setCell ⟨b, 2, none⟩ v2).setCell ⟨b, 3, none⟩ v3).setCell ⟨b, 4, none⟩ v4).setCell ⟨b, 5, none⟩ v5) := by
  have k := (((((h.set 0 v0).set 1 v1).set 2 v2).set 3 v3).set 4 v4).set 5 v5
  match C, hC with
  | [_, _, _, _, _, _], _ => exact ⟨k, (((((Only.setCell W b 0 v0).trans (Only.setCell _ b 1 v1)).trans (Only.setCell _ b 2 v2)).trans (Only.setCell _ b 3 v3)).trans (Only.setCell _ b 4 v4)).trans (Only.setCell _ b 5 v5)⟩
set_option maxHeartbeats 1000000 in
theorem iread_empty (w : World) :
    Calls Try.prog 12 #[.string ⟨#[]⟩] w fun e w' => e = .returned (If.resV (.error 2)) ∧ Below w.heap.size w w' := by
  have bw := If.below1 w (.cells #[.int .i64 0, .int .i64 0, .int .i64 0, .int .i64 0, .bool false, .string ⟨#[]⟩] 23)
  go_enter Try.func12, Try.ntmps12
  go_wp2
  exact bodyPost_ret (v := If.resV (.error 2)) (by simp [results, Try.results12, go_sem, If.resV]) rfl ⟨rfl, bw⟩
set_option maxHeartbeats 1000000 in
theorem iread_form (s : ByteArray) (h0 : 0 < s.size) (h : ¬ s[0].toNat = 7) (hs : s.size ≤ maxLen) (w : World) :
    Calls Try.prog 12 #[.string s] w fun e w' => e = .returned (If.resV (.error 3)) ∧ Below w.heap.size w w' := by
  have bw := If.below1 w (.cells #[.int .i64 0, .int .i64 0, .int .i64 0, .int .i64 0, .bool false, .string ⟨#[]⟩] 23)
  have hml : s.size ≤ 9223372036854775807 := hs
  have e0 := If.ne_nil h0
  have d1 : ((s[0].toNat : Int) == 7) = false := beq_eq_false_iff_ne.2 (by omega)
  have hb := UInt8.toNat_lt s[0]
  clear hs
  go_enter Try.func12, Try.ntmps12
  go_wp2
  exact bodyPost_ret (v := If.resV (.error 3)) (by simp [results, Try.results12, go_sem, If.resV]) rfl ⟨rfl, bw⟩
set_option maxHeartbeats 1000000 in
theorem iread_short (s : ByteArray) (h0 : 0 < s.size) (h : s[0].toNat = 7) (h6 : s.size < 6) (w : World) :
    Calls Try.prog 12 #[.string s] w fun e w' => e = .returned (If.resV (.error 2)) ∧ Below w.heap.size w w' := by
  have bw := If.below1 w (.cells #[.int .i64 0, .int .i64 0, .int .i64 0, .int .i64 0, .bool false, .string ⟨#[]⟩] 23)
  have e0 := If.ne_nil h0
  have d1 : ((s[0].toNat : Int) == 7) = true := by rw [h]; rfl
  have d2 : decide ((s.size : Int) < 6) = true := by simp; omega
  go_enter Try.func12, Try.ntmps12
  go_wp2
  exact bodyPost_ret (v := If.resV (.error 2)) (by simp [results, Try.results12, go_sem, If.resV]) rfl ⟨rfl, bw⟩
end Go.Proofs.Ytghelhcmecmldaa
