/-
  Layer 8's statement ChatEnds: the walk.
-/
import Derived.Test.YtpggnhnpphbaeaaDoorCh31
import Derived.Test.YtpggnhnpphbaeaaDoorCh27
import Derived.Test.YtpggnhnpphbaeaaDoorCh15
import Derived.Test.YtpggnhnpphbaeaaDoorMathQ8
namespace Go.Proofs.YtpggnhnpphbaeaaDoor
open Go.RowKit

theorem Ch.pmod (x : Int) : ∃ (F : Nat) (U : Int), IntKind.u64.wrap x = U ∧ U.tmod 20 = (F : Int) ∧ U % 20 = (F : Int) ∧ F ≤ 19 ∧ IntKind.i64.wrap (F : Int) = (F : Int) := by
  have h : 0 ≤ IntKind.u64.wrap x := by rw [IntKind.wrap_u64]; omega
  refine ⟨(IntKind.u64.wrap x % 20).toNat, _, rfl, by rw [Int.tmod_eq_emod_of_nonneg h]; omega, by omega, by omega, ?_⟩
  rw [IntKind.wrap_i64]; omega
theorem Ch.sumW_take (xs : List Ch.St) (j : Nat) (h : j < xs.length) : Ch.sumW (xs.take (j + 1)) = Ch.sumW (xs.take j) + xs[j].wants.length := by
  rw [List.take_succ_eq_append_getElem h]
  generalize xs.take j = L
  induction L with
  | nil => simp [Ch.sumW]
  | cons y L ih => simp only [List.cons_append, Ch.sumW, ih]; omega
theorem Ch.sums (q wn n j : Nat) (hq : q ≤ 19) (hwn : wn ≤ 6000) (hn : n ≤ j * 120000) (hj : j ≤ 60) : ∃ Q1 m n2 : Nat, q + 1 = Q1 ∧ wn * Q1 = m ∧ n + m = n2 ∧ n2 ≤ (j + 1) * 120000 ∧ IntKind.i64.wrap ((q : Int) + 1) = (Q1 : Int) ∧ wrap64 ((q : Int) + 1) = (Q1 : Int) ∧ IntKind.i64.wrap ((wn : Int) * (Q1 : Int)) = (m : Int) ∧ wrap64 ((wn : Int) * (Q1 : Int)) = (m : Int) ∧ IntKind.i64.wrap ((n : Int) + (m : Int)) = (n2 : Int) ∧ wrap64 ((n : Int) + (m : Int)) = (n2 : Int) := by
  have hmb : wn * (q + 1) ≤ 6000 * 20 := Nat.mul_le_mul hwn (by omega)
  have hmi : (wn : Int) * ((q + 1 : Nat) : Int) = ((wn * (q + 1) : Nat) : Int) := by simp
  refine ⟨q + 1, wn * (q + 1), n + wn * (q + 1), rfl, rfl, rfl, by omega, ?_, ?_, ?_, ?_, ?_, ?_⟩
  · rw [IntKind.wrap_i64]; omega
  · unfold wrap64; omega
  · rw [hmi, IntKind.wrap_i64]; omega
  · rw [hmi]; unfold wrap64; omega
  · rw [IntKind.wrap_i64]; omega
  · unfold wrap64; omega
theorem Ch.left (n t : Nat) (h : t < n) : ∃ k, n - t = k + 1 ∧ k = n - (t + 1) := ⟨n - t - 1, by omega, by omega⟩
theorem tok_of {l : List Ch.St} {q : Nat} {c : Ch.Co} (hN : Ch.Near l) (hq : q ≤ 1000) (h : Ch.Jn l q c) : TOk c := by
  have hs := h.steps
  refine ⟨⟨by rw [hs]; have := hN.len; omega, by rw [h.seen]; simp, fun x hx => by rw [hs] at hx; have := hN.send x hx; omega, by have := h.step; omega⟩, ⟨h.wait.1, by have := h.wait.2; omega⟩, ⟨by have := h.want.1; omega, ?_⟩, fun x hx s hs' => by rw [hs] at hx; have := (hN.nudge x hx).2 s hs'; omega⟩
  rcases h.want.2 with e | ⟨x, hx, e⟩
  · omega
  · have := (hN.wants x hx).1; omega

theorem CAt.flags {W : World} {sa : Option Addr} {sn sc : Nat} {cstep cwant : Int} {cseen : ByteArray} {cwait cpat : Int} {cover cfailed : Bool} {ck : Ch.Co} (h : CAt W (.agg #[.slice sa sn sc, .int .i64 cstep, .int .i64 cwant, .string cseen, .int .i64 cwait, .int .i64 cpat, .bool cover, .bool cfailed]) ck) : cover = ck.over ∧ cfailed = ck.failed := by
  obtain ⟨sa2, sc2, vs, h1, _⟩ := h
  simp [CC] at h1
  exact ⟨h1.2.2.2.2.2.2.1, h1.2.2.2.2.2.2.2⟩

end Go.Proofs.YtpggnhnpphbaeaaDoor
