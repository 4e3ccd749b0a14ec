/-
  Layer 9: the document's door: enter, Type.
-/
import Derived.Test.YtpndcbilnbihaaaGs1
namespace Go.Proofs.Ytpndcbilnbihaaa
open Go.RowKit

set_option maxHeartbeats 2000000 in
set_option maxRecDepth 100000 in
theorem enter_any (d : Gr.D) (login pw : ByteArray) (w : World) (hg : Gr.Good d) (hs : d.stage = 0 ∨ d.stage = 1) :
    Calls Try.prog 39 #[dv d, .string login, .string pw] w fun e w' => e = .returned (.tuple #[dv (Gr.line login pw d).1, .string (Gr.line login pw d).2]) ∧ Below w.heap.size w w' := by
  obtain ⟨st, ty, nm, wr⟩ := d
  have hw0 := hg.wrong0
  have hw3 := hg.wrong3
  simp only at hs hw0 hw3
  clear hg
  unfold Gr.line
  simp only
  by_cases h1 : st = 1
  · subst h1
    rw [if_pos rfl]
    clear hs
    have e1 : wrap64 (wr + 1) = wr + 1 := by unfold wrap64; omega
    have e2 : IntKind.i64.wrap (wr + 1) = wr + 1 := by rw [IntKind.wrap_i64]; omega
    by_cases hn : nm = login
    · have c0 := same_true hn
      by_cases hp : ty = pw
      · have c1 := same_true hp
        rw [if_pos ⟨hn, hp⟩]
        unfold dv
        simp only
        clear hn hp
        go_enter Try.func39, Try.ntmps39
        go_wp2
        exact bodyPost_ret (v := .tuple #[.agg #[.int .i64 2, .string ⟨#[]⟩, .string nm, .int .i64 wr], .string ⟨#[]⟩]) (by simp [results, Try.results39, go_sem]) rfl ⟨rfl, Rg.al2 _ _ _⟩
      · have c1 := same_false hp
        rw [if_neg (fun h => hp h.2)]
        clear hn hp
        by_cases h2 : 2 < wr + 1
        · rw [if_pos h2]
          have d0 : decide (2 < wr + 1) = true := by simp only [decide_eq_true_eq]; exact h2
          unfold dv
          simp only
          go_enter Try.func39, Try.ntmps39
          go_wp2
          exact bodyPost_ret (v := .tuple #[.agg #[.int .i64 3, .string ⟨#[]⟩, .string ⟨#[]⟩, .int .i64 (wr + 1)], .string Gr.incorrect]) (by simp [results, Try.results39, go_sem, Gr.incorrect]) rfl ⟨rfl, Rg.al2 _ _ _⟩
        · rw [if_neg h2]
          have d0 : decide (2 < wr + 1) = false := by simp only [decide_eq_false_iff_not]; exact h2
          have hc : (Gr.incorrect ++ Gr.askName) = ⟨#[76, 111, 103, 105, 110, 32, 105, 110, 99, 111, 114, 114, 101, 99, 116, 13, 10, 108, 111, 103, 105, 110, 58, 32]⟩ := by rfl
          rw [hc]
          clear hc
          unfold dv
          simp only
          go_enter Try.func39, Try.ntmps39
          go_wp2
          exact bodyPost_ret (v := .tuple #[.agg #[.int .i64 0, .string ⟨#[]⟩, .string ⟨#[]⟩, .int .i64 (wr + 1)], .string ⟨#[76, 111, 103, 105, 110, 32, 105, 110, 99, 111, 114, 114, 101, 99, 116, 13, 10, 108, 111, 103, 105, 110, 58, 32]⟩]) (by simp [results, Try.results39, go_sem]) rfl ⟨rfl, Rg.al2 _ _ _⟩
    · have c0 := same_false hn
      rw [if_neg (fun h => hn h.1)]
      clear hn
      by_cases h2 : 2 < wr + 1
      · rw [if_pos h2]
        have d0 : decide (2 < wr + 1) = true := by simp only [decide_eq_true_eq]; exact h2
        unfold dv
        simp only
        go_enter Try.func39, Try.ntmps39
        go_wp2
        exact bodyPost_ret (v := .tuple #[.agg #[.int .i64 3, .string ⟨#[]⟩, .string ⟨#[]⟩, .int .i64 (wr + 1)], .string Gr.incorrect]) (by simp [results, Try.results39, go_sem, Gr.incorrect]) rfl ⟨rfl, Rg.al2 _ _ _⟩
      · rw [if_neg h2]
        have d0 : decide (2 < wr + 1) = false := by simp only [decide_eq_false_iff_not]; exact h2
        have hc : (Gr.incorrect ++ Gr.askName) = ⟨#[76, 111, 103, 105, 110, 32, 105, 110, 99, 111, 114, 114, 101, 99, 116, 13, 10, 108, 111, 103, 105, 110, 58, 32]⟩ := by rfl
        rw [hc]
        clear hc
        unfold dv
        simp only
        go_enter Try.func39, Try.ntmps39
        go_wp2
        exact bodyPost_ret (v := .tuple #[.agg #[.int .i64 0, .string ⟨#[]⟩, .string ⟨#[]⟩, .int .i64 (wr + 1)], .string ⟨#[76, 111, 103, 105, 110, 32, 105, 110, 99, 111, 114, 114, 101, 99, 116, 13, 10, 108, 111, 103, 105, 110, 58, 32]⟩]) (by simp [results, Try.results39, go_sem]) rfl ⟨rfl, Rg.al2 _ _ _⟩
  · obtain rfl : st = 0 := by omega
    rw [if_neg h1]
    clear h1 hs
    by_cases ht : ty = ⟨#[]⟩
    · subst ht
      rw [if_pos rfl]
      unfold dv
      simp only
      go_enter Try.func39, Try.ntmps39
      go_wp2
      exact bodyPost_ret (v := .tuple #[.agg #[.int .i64 0, .string ⟨#[]⟩, .string nm, .int .i64 wr], .string Gr.askName]) (by simp [results, Try.results39, go_sem, Gr.askName]) rfl ⟨rfl, Rg.al2 _ _ _⟩
    · have t0 := nil_false ht
      have t1 := empty_false ht
      rw [if_neg ht]
      unfold dv
      simp only
      clear ht
      go_enter Try.func39, Try.ntmps39
      go_wp2
      exact bodyPost_ret (v := .tuple #[.agg #[.int .i64 1, .string ⟨#[]⟩, .string ty, .int .i64 wr], .string Gr.askPw]) (by simp [results, Try.results39, go_sem, Gr.askPw]) rfl ⟨rfl, Rg.al2 _ _ _⟩

/-- what stands while the document goes through bytes -/
structure RIn (w : World) (login pw s : ByteArray) (R : Gr.D × List UInt8 × List UInt8) (k : Nat) (d : Gr.D) (out : List UInt8) (W : World) : Prop where
  bel : Below w.heap.size w W
  door : Rg.Bk w.heap.size [.int .i64 d.stage, .string d.typed, .string d.name, .int .i64 d.wrong] 35 W
  res : Rg.Bk (w.heap.size + 1) [.int .i64 0, .string ⟨#[]⟩, .string ⟨#[]⟩, .int .i64 0] 35 W
  good : Gr.Good d
  run : R = ((Gr.typeL login pw (s.data.toList.drop k) d).1, out ++ (Gr.typeL login pw (s.data.toList.drop k) d).2.1, (Gr.typeL login pw (s.data.toList.drop k) d).2.2)
  small : out.length ≤ 24 * k
theorem RIn.lined {w : World} {login pw s : ByteArray} {R : Gr.D × List UInt8 × List UInt8} {k : Nat} {d : Gr.D} {out : List UInt8} {W W' : World} (h : RIn w login pw s R k d out W) (hk : k < s.size) (hc : s[k] = 13 ∨ s[k] = 10) (hs : d.stage = 0 ∨ d.stage = 1) (hb : Below w.heap.size w W')
    (hd : Rg.Bk w.heap.size [.int .i64 (Gr.line login pw d).1.stage, .string (Gr.line login pw d).1.typed, .string (Gr.line login pw d).1.name, .int .i64 (Gr.line login pw d).1.wrong] 35 W') (hr : Rg.Bk (w.heap.size + 1) [.int .i64 0, .string ⟨#[]⟩, .string ⟨#[]⟩, .int .i64 0] 35 W') :
    RIn w login pw s R (k + 1) (Gr.line login pw d).1 (out ++ (Gr.line login pw d).2.data.toList) W' :=
  ⟨hb, hd, hr, Gr.good_line login pw h.good hs, by
    rw [h.run, Gr.drop_at s k hk, Gr.type_line hs hc]; simp only [List.append_assoc], by
    have h1 := h.small
    have h2 : (Gr.line login pw d).2.data.toList.length ≤ 24 := by rw [Array.length_toList]; exact line_small login pw d
    show (out ++ (Gr.line login pw d).2.data.toList).length ≤ 24 * (k + 1)
    rw [List.length_append]
    omega⟩
theorem RIn.put {w : World} {login pw s : ByteArray} {R : Gr.D × List UInt8 × List UInt8} {k : Nat} {d : Gr.D} {out : List UInt8} {W W' : World} (h : RIn w login pw s R k d out W) (hk : k < s.size) (hc : ¬ (s[k] = 13 ∨ s[k] = 10)) (hs : d.stage = 0 ∨ d.stage = 1) (ho : Rg.Only w.heap.size W W')
    (hd : Rg.Bk w.heap.size [.int .i64 (Gr.put s[k] d).stage, .string (Gr.put s[k] d).typed, .string (Gr.put s[k] d).name, .int .i64 (Gr.put s[k] d).wrong] 35 W') :
    RIn w login pw s R (k + 1) (Gr.put s[k] d) out W' :=
  ⟨h.bel.trans (ho.bel (Nat.le_refl _)), hd, h.res.same (ho.block _ (by omega)), Gr.good_put _ h.good, by
    rw [h.run, Gr.drop_at s k hk, Gr.type_put hs hc], by have := h.small; omega⟩
theorem RIn.drew {w : World} {login pw s : ByteArray} {R : Gr.D × List UInt8 × List UInt8} {k : Nat} {d : Gr.D} {out : List UInt8} {W : World} (h : RIn w login pw s R k d out W) : RIn w login pw s R k d out W.drew := ⟨h.bel.drew, h.door, h.res, h.good, h.run, h.small⟩
end Go.Proofs.Ytpndcbilnbihaaa
