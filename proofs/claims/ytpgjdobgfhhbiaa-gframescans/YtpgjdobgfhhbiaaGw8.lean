/-
  Walks of layer 11: Read.
-/
import Derived.Test.YtpgjdobgfhhbiaaGw7
namespace Go.Proofs.Ytpgjdobgfhhbiaa
open Go.RowKit
namespace Gf
/-- What readBody answers. -/
def bodyOut (t c k m : Nat) (r : List UInt8) : List UInt8 × Nat :=
  if r.length < size k then ([], 2)
  else if (m : Int) ≠ Chk.packet (r.take (size k)) c then ([], 4)
  else if t = 2 then (r.take (size k), 0)
  else match unfield (r.take (size k)) with
    | none => ([], 3)
    | some d => (d, 0)
theorem readBody_no {t c k m : Nat} {r d : List UInt8} {e : Nat} (ht : t = c / 64) (h : bodyOut t c k m r = (d, e)) (he : ¬ e = 0) : readBody c k m r = .error e := by
  subst ht
  unfold bodyOut at h
  unfold readBody
  split at h
  · rename_i h1; rw [if_pos h1]; cases h; rfl
  rename_i h1
  rw [if_neg h1]
  split at h
  · rename_i h2; rw [if_pos h2]; cases h; rfl
  rename_i h2
  rw [if_neg h2]
  split at h
  · cases h; exact absurd rfl he
  rename_i h3
  rw [if_neg h3]
  split at h
  · rename_i h4; rw [h4]; cases h; rfl
  · cases h; exact absurd rfl he
theorem readBody_yes {t c k m : Nat} {r d : List UInt8} (ht : t = c / 64) (h3 : t = 2 ∨ t = 3) (h : bodyOut t c k m r = (d, 0)) : readBody c k m r = .ok (⟨(t : Nat), (c / 8 % 8 : Nat), (c % 8 : Nat), (size k : Nat), d⟩, (6 + size k)) := by
  subst ht
  unfold bodyOut at h
  unfold readBody
  split at h
  · cases h
  rename_i h1
  rw [if_neg h1]
  split at h
  · cases h
  rename_i h2
  rw [if_neg h2]
  split at h
  · rename_i h4; rw [if_pos h4]; cases h; rw [h4]; rfl
  rename_i h4
  rw [if_neg h4]
  split at h
  · cases h
  · rename_i d' hd; rw [hd]; cases h; rw [show c / 64 = 3 by omega]; rfl
/-- What Read answers, as a value. -/
def resV : Res → Value
  | .ok (f, n) => .tuple #[.agg #[.int .i64 f.ty, .int .i64 f.hi, .int .i64 f.lo, .int .i64 f.sz, .string ⟨f.data.toArray⟩], .int .i64 n, .int .i64 0]
  | .error e => .tuple #[.agg #[.int .i64 0, .int .i64 0, .int .i64 0, .int .i64 0, .string ⟨#[]⟩], .int .i64 0, .int .i64 e]
def zc : List Value := [.int .i64 0, .int .i64 0, .int .i64 0, .int .i64 0, .string ⟨#[]⟩]
theorem read_nil : read [] = .error 2 := rfl
theorem read_16 {a : UInt8} {r : List UInt8} (h : ¬ a = 16) : read (a :: r) = .error 3 := by
  unfold read
  dsimp only
  rw [if_pos h]
theorem read_few {s : List UInt8} (h : s.length < 6) (h0 : 0 < s.length) (h16 : s.getD 0 0 = 16) : read s = .error 2 := by
  match s with
  | [] => cases h0
  | [a] | [a, _] | [a, _, _] | [a, _, _, _] | [a, _, _, _, _] => 
    have e : a = 16 := h16
    subst e
    rfl
  | _ :: _ :: _ :: _ :: _ :: _ :: _ => simp at h; omega
theorem list6 (s : ByteArray) (h : 6 ≤ s.size) : s.data.toList = s[0] :: s[1] :: s[2] :: s[3] :: s[4] :: s[5] :: s.data.toList.drop 6 := by
  rw [Chk.drop_cons s 5 (by omega) |>.symm, Chk.drop_cons s 4 (by omega) |>.symm, Chk.drop_cons s 3 (by omega) |>.symm, Chk.drop_cons s 2 (by omega) |>.symm, Chk.drop_cons s 1 (by omega) |>.symm, Chk.drop_cons s 0 (by omega) |>.symm]
  rfl
theorem read_six (s : ByteArray) (h : 6 ≤ s.size) (h16 : s[0] = 16) : read s.data.toList = readHead s[1].toNat s[2].toNat s[3].toNat s[4].toNat s[5].toNat (s.data.toList.drop 6) := by
  have e : read (s[0] :: s[1] :: s[2] :: s[3] :: s[4] :: s[5] :: s.data.toList.drop 6) = readHead s[1].toNat s[2].toNat s[3].toNat s[4].toNat s[5].toNat (s.data.toList.drop 6) := by
    unfold read
    dsimp only
    rw [if_neg (by rw [h16]; decide)]
  rw [← e, ← list6 s h]
end Gf
set_option maxHeartbeats 1000000 in
theorem rbody_any (s : ByteArray) (t c k m : Nat) (ht : t = 2 ∨ t = 3) (h1 : 1 ≤ k) (h8 : k ≤ 8) (hs : s.size ≤ maxLen) (w : World) :
    Calls Try.prog 31 #[.string s, .agg #[.int .i64 k, .int .i64 m, .int .i64 c], .int .i64 t] w fun e w' => e = .returned (.tuple #[.string ⟨(Gf.bodyOut t c k m s.data.toList).1.toArray⟩, .int .i64 ((Gf.bodyOut t c k m s.data.toList).2 : Nat)]) ∧ Below w.heap.size w w' := by
  unfold Gf.bodyOut
  rw [Gf.len_eq]
  by_cases a : s.size < Gf.size k
  · rw [if_pos a]
    exact readBody_short s k m c t a h1 h8 hs w
  rw [if_neg a]
  by_cases b : (m : Int) ≠ Chk.packet (s.data.toList.take (Gf.size k)) c
  · rw [if_pos b]
    exact readBody_sum s k m c t a b h1 h8 hs w
  rw [if_neg b]
  have b := Decidable.not_not.1 b
  rcases ht with rfl | rfl
  · rw [if_pos rfl]
    exact readBody_long s k m c a b h1 h8 hs w
  · rw [if_neg (by decide)]
    have h := readBody_field s k m c a b h1 h8 hs w
    cases hu : Gf.unfield (s.data.toList.take (Gf.size k)) with
    | none => rw [hu] at h; exact h
    | some d => rw [hu] at h; exact h

set_option maxHeartbeats 1000000 in
theorem read_empty (w : World) :
    Calls Try.prog 14 #[.string ⟨#[]⟩] w fun e w' => e = .returned (Gf.resV (.error 2)) ∧ Below w.heap.size w w' := by
  have bw := Gf.below1 w (.cells #[.int .i64 0, .int .i64 0, .int .i64 0, .int .i64 0, .string ⟨#[]⟩] 23)
  have k0 : Rg.Bk w.heap.size Gf.zc 23 (w.alloc (.cells #[.int .i64 0, .int .i64 0, .int .i64 0, .int .i64 0, .string ⟨#[]⟩] 23)) := Rg.Bk.new rfl
  have cE := k0.cell
  clear cE
  go_enter Try.func14, Try.ntmps14
  go_wp2
  exact bodyPost_ret (v := Gf.resV (.error 2)) (by simp [results, Try.results14, go_sem, Gf.resV]) rfl ⟨rfl, bw⟩
theorem Gf.ne_nil {s : ByteArray} (h : 0 < s.size) : (s.toList == []) = false := by
  rw [tl_eq]; refine beq_eq_false_iff_ne.2 fun e => ?_
  rw [← Gf.len_eq, e] at h
  cases h
set_option maxHeartbeats 1000000 in
theorem read_form (s : ByteArray) (h0 : 0 < s.size) (h : ¬ s[0].toNat = 16) (hs : s.size ≤ maxLen) (w : World) :
    Calls Try.prog 14 #[.string s] w fun e w' => e = .returned (Gf.resV (.error 3)) ∧ Below w.heap.size w w' := by
  have bw := Gf.below1 w (.cells #[.int .i64 0, .int .i64 0, .int .i64 0, .int .i64 0, .string ⟨#[]⟩] 23)
  have k0 : Rg.Bk w.heap.size Gf.zc 23 (w.alloc (.cells #[.int .i64 0, .int .i64 0, .int .i64 0, .int .i64 0, .string ⟨#[]⟩] 23)) := Rg.Bk.new rfl
  have cE := k0.cell
  clear cE
  have hml : s.size ≤ 9223372036854775807 := hs
  have e0 := Gf.ne_nil h0
  have d1 : ((s[0].toNat : Int) == 16) = false := beq_eq_false_iff_ne.2 (by omega)
  have hb := UInt8.toNat_lt s[0]
  clear hs
  go_enter Try.func14, Try.ntmps14
  go_wp2
  exact bodyPost_ret (v := Gf.resV (.error 3)) (by simp [results, Try.results14, go_sem, Gf.resV]) rfl ⟨rfl, bw⟩
set_option maxHeartbeats 1000000 in
theorem read_short (s : ByteArray) (h0 : 0 < s.size) (h : s[0].toNat = 16) (h6 : s.size < 6) (w : World) :
    Calls Try.prog 14 #[.string s] w fun e w' => e = .returned (Gf.resV (.error 2)) ∧ Below w.heap.size w w' := by
  have bw := Gf.below1 w (.cells #[.int .i64 0, .int .i64 0, .int .i64 0, .int .i64 0, .string ⟨#[]⟩] 23)
  have k0 : Rg.Bk w.heap.size Gf.zc 23 (w.alloc (.cells #[.int .i64 0, .int .i64 0, .int .i64 0, .int .i64 0, .string ⟨#[]⟩] 23)) := Rg.Bk.new rfl
  have cE := k0.cell
  clear cE
  have e0 := Gf.ne_nil h0
  have d1 : ((s[0].toNat : Int) == 16) = true := by rw [h]; rfl
  have d2 : decide ((s.size : Int) < 6) = true := by simp; omega
  go_enter Try.func14, Try.ntmps14
  go_wp2
  exact bodyPost_ret (v := Gf.resV (.error 2)) (by simp [results, Try.results14, go_sem, Gf.resV]) rfl ⟨rfl, bw⟩
end Go.Proofs.Ytpgjdobgfhhbiaa
