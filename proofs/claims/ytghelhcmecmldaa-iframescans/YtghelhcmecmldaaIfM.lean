/-
  Walks of layer 12: the document's Get of four bytes.
-/
import Derived.Test.YtghelhcmecmldaaIfU
import Derived.Test.YtghelhcmecmldaaCrc2
namespace Go.Proofs.Ytghelhcmecmldaa
open Go.RowKit
namespace If
/-- The number that bytes say, the highest first. -/
def be (l : List UInt8) : Nat := l.foldl (fun n c => n * 256 + c.toNat) 0
theorem be_snoc (l : List UInt8) (c : UInt8) : be (l ++ [c]) = be l * 256 + c.toNat := by unfold be; rw [List.foldl_append]; rfl
theorem be_step (s : ByteArray) (a k : Nat) (h : a + k < s.size) :
    be ((s.data.toList.drop a).take (k + 1)) = be ((s.data.toList.drop a).take k) * 256 + s[a + k].toNat := by
  have hl : k < (s.data.toList.drop a).length := by rw [List.length_drop, len_eq]; omega
  rw [List.take_succ_eq_append_getElem hl, be_snoc]
  congr 2
  rw [List.getElem_drop]; rfl
theorem be_lt3 : ∀ l : List UInt8, l.length ≤ 3 → be l < 16777216
  | [], _ => by decide
  | [a], _ => by have := a.toNat_lt; simp [be]; omega
  | [a, b], _ => by have := a.toNat_lt; have := b.toNat_lt; simp [be]; omega
  | [a, b, c], _ => by have := a.toNat_lt; have := b.toNat_lt; have := c.toNat_lt; simp [be]; omega
  | _ :: _ :: _ :: _ :: _, h => by simp at h
theorem be_iff {l : List UInt8} (hl : l.length = 4) {n : Nat} (hn : n < 4294967296) : be l = n ↔ be4 n = l := by
  match l, hl with
  | [a, b, c, d], _ =>
    have e : be [a, b, c, d] = un4 a b c d := by simp [be, un4]
    rw [e]
    constructor
    · intro h; rw [← h, be4_un4]
    · intro h
      unfold be4 at h
      simp only [List.cons.injEq, and_true] at h
      rw [← un4_be4 hn, h.1, h.2.1, h.2.2.1, h.2.2.2]
theorem ret_two' {a b c d : Int} (h : a = c) (h' : b = d) : Ending.returned (.tuple #[.int .i64 a, .int .i64 b]) = .returned (.tuple #[.int .i64 c, .int .i64 d]) := by rw [h, h']
end If
set_option maxHeartbeats 1000000 in
theorem rget4_any (s : ByteArray) (p : Nat) (hp : p + 4 ≤ s.size) (hs : s.size ≤ maxLen) (w : World) :
    Calls Try.prog 27 #[.string s, .int .i64 p, .int .i64 4] w fun e w' => e = .returned (.tuple #[.int .i64 (If.be ((s.data.toList.drop p).take 4) : Nat), .int .i64 0]) ∧ w' = w := by
  unfold maxLen at hs
  have hb1 : (p : Int) ≤ (s.size : Int) := by omega
  have hb2 : (4 : Int) ≤ (s.size : Int) - (p : Int) := by omega
  have d3 : decide ((p : Int) < 0) = false := by simp
  have d4 : decide (s.size < p) = false := by simp; omega
  have d5 : decide ((s.size : Int) - (p : Int) < 4) = false := by simp; omega
  go_enter Try.func27, Try.ntmps27
  go_wp2
  go_loop [8, 33] (fun n i => ∃ k : Nat, k ≤ 4 ∧ i = .int .i64 k ∧ n = .int .i64 (If.be ((s.data.toList.drop p).take k) : Nat)) (fun _ i => 4 - (intOf i).toNat)
  case atStart => exact ⟨0, Nat.zero_le _, rfl, rfl⟩
  case round =>
    obtain ⟨k, hk, rfl, rfl⟩ := hrel
    by_cases hlt : k < 4
    · have hbd := If.be_lt3 ((s.data.toList.drop p).take k) (by rw [List.length_take]; omega)
      have hc := UInt8.toNat_lt s[p + k]
      have HS : Hid (If.be ((s.data.toList.drop p).take (k + 1)) = If.be ((s.data.toList.drop p).take k) * 256 + s[p + k].toNat) := If.be_step s p k (by omega)
      go_wp2
      go_round
      case rel => exact ⟨k + 1, by omega, by go_num, by rw [HS.out]; go_num⟩
      case measure => simp [intOf]; omega
    · go_wp2
      go_ret2
      have hkm : k = 4 := by omega
      subst hkm
      exact ⟨rfl, rfl⟩
end Go.Proofs.Ytghelhcmecmldaa
