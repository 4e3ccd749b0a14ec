/-
  Layer 8: the document's plain and escape.
-/
import Derived.Test.YtdclnimmfnlnhaaDoorCh2
import Derived.Test.YtdclnimmfnlnhaaDoorMathW
namespace Go.Proofs.YtdclnimmfnlnhaaDoor
open Go.RowKit

set_option maxHeartbeats 1000000 in
set_option maxRecDepth 100000 in
theorem rplain_any (c : UInt8) (w : World) : Calls Tryd.prog 53 #[.int .u8 (c.toNat : Int)] w fun e w' => e = .returned (.bool (Ch.plain c)) ∧ w' = w := by
  by_cases h0 : 33 ≤ c.toNat
  · have d0 : decide ((33 : Int) ≤ (c.toNat : Int)) = true := by simp only [decide_eq_true_eq]; omega
    by_cases h1 : c.toNat ≤ 126
    · have d1 : decide ((c.toNat : Int) ≤ 126) = true := by simp only [decide_eq_true_eq]; omega
      by_cases h2 : c.toNat ≠ 92
      · have d2 : ((c.toNat : Int) != 92) = true := by rw [bne_iff_ne]; omega
        by_cases h3 : c.toNat ≠ 45
        · have d3 : ((c.toNat : Int) != 45) = true := by rw [bne_iff_ne]; omega
          by_cases h4 : c.toNat ≠ 34
          · have d4 : ((c.toNat : Int) != 34) = true := by rw [bne_iff_ne]; omega
            rw [show Ch.plain c = true by simp [Ch.plain, h0, h1, h2, h3, h4]]
            clear h0 h1 h2 h3 h4
            go_enter Tryd.func53, Tryd.ntmps53
            go_wp2
            go_ret
            exact ⟨rfl, rfl⟩
          · have d4 : ((c.toNat : Int) != 34) = false := by rw [bne_eq_false_iff_eq]; omega
            rw [show Ch.plain c = false by simp [Ch.plain, h0, h1, h2, h3, h4]]
            clear h0 h1 h2 h3 h4
            go_enter Tryd.func53, Tryd.ntmps53
            go_wp2
            go_ret
            exact ⟨rfl, rfl⟩
        · have d3 : ((c.toNat : Int) != 45) = false := by rw [bne_eq_false_iff_eq]; omega
          rw [show Ch.plain c = false by simp [Ch.plain, h0, h1, h2, h3]]
          clear h0 h1 h2 h3
          go_enter Tryd.func53, Tryd.ntmps53
          go_wp2
          go_ret
          exact ⟨rfl, rfl⟩
      · have d2 : ((c.toNat : Int) != 92) = false := by rw [bne_eq_false_iff_eq]; omega
        rw [show Ch.plain c = false by simp [Ch.plain, h0, h1, h2]]
        clear h0 h1 h2
        go_enter Tryd.func53, Tryd.ntmps53
        go_wp2
        go_ret
        exact ⟨rfl, rfl⟩
    · have d1 : decide ((c.toNat : Int) ≤ 126) = false := by simp only [decide_eq_false_iff_not]; omega
      rw [show Ch.plain c = false by simp [Ch.plain, h0, h1]]
      clear h0 h1
      go_enter Tryd.func53, Tryd.ntmps53
      go_wp2
      go_ret
      exact ⟨rfl, rfl⟩
  · have d0 : decide ((33 : Int) ≤ (c.toNat : Int)) = false := by simp only [decide_eq_false_iff_not]; omega
    rw [show Ch.plain c = false by simp [Ch.plain, h0]]
    clear h0
    go_enter Tryd.func53, Tryd.ntmps53
    go_wp2
    go_ret
    exact ⟨rfl, rfl⟩

set_option maxHeartbeats 1000000 in
set_option maxRecDepth 100000 in
theorem rescape_any (c : UInt8) (w : World) : Calls Tryd.prog 63 #[.int .u8 (c.toNat : Int)] w fun e w' => (if Lib.indexByte Ch.lets c < 0 then e = .returned (.tuple #[.int .u8 0, .bool false]) else e = .returned (.tuple #[.int .u8 ((Ch.hid.getD (Lib.indexByte Ch.lets c).toNat 0).toNat : Int), .bool true])) ∧ w' = w := by
  by_cases h0 : c.toNat = 114
  · have hc : c = 114 := Ch.u8_eq (by decide) h0
    subst hc
    have key : Calls Tryd.prog 63 #[.int .u8 114] w fun e w' => e = .returned (.tuple #[.int .u8 13, .bool true]) ∧ w' = w := by
      clear h0
      go_enter Tryd.func63, Tryd.ntmps63
      go_wp2
      exact bodyPost_ret (v := .tuple #[.int .u8 13, .bool true]) (by simp [results, Tryd.results63, go_sem]) rfl ⟨rfl, rfl⟩
    refine key.mono ?_
    rintro e w' ⟨e1, e2⟩
    refine ⟨?_, e2⟩
    rw [if_neg (by decide)]
    exact e1
  by_cases h1 : c.toNat = 110
  · have hc : c = 110 := Ch.u8_eq (by decide) h1
    subst hc
    have key : Calls Tryd.prog 63 #[.int .u8 110] w fun e w' => e = .returned (.tuple #[.int .u8 10, .bool true]) ∧ w' = w := by
      clear h0 h1
      go_enter Tryd.func63, Tryd.ntmps63
      go_wp2
      exact bodyPost_ret (v := .tuple #[.int .u8 10, .bool true]) (by simp [results, Tryd.results63, go_sem]) rfl ⟨rfl, rfl⟩
    refine key.mono ?_
    rintro e w' ⟨e1, e2⟩
    refine ⟨?_, e2⟩
    rw [if_neg (by decide)]
    exact e1
  by_cases h2 : c.toNat = 115
  · have hc : c = 115 := Ch.u8_eq (by decide) h2
    subst hc
    have key : Calls Tryd.prog 63 #[.int .u8 115] w fun e w' => e = .returned (.tuple #[.int .u8 32, .bool true]) ∧ w' = w := by
      clear h0 h1 h2
      go_enter Tryd.func63, Tryd.ntmps63
      go_wp2
      exact bodyPost_ret (v := .tuple #[.int .u8 32, .bool true]) (by simp [results, Tryd.results63, go_sem]) rfl ⟨rfl, rfl⟩
    refine key.mono ?_
    rintro e w' ⟨e1, e2⟩
    refine ⟨?_, e2⟩
    rw [if_neg (by decide)]
    exact e1
  by_cases h3 : c.toNat = 109
  · have hc : c = 109 := Ch.u8_eq (by decide) h3
    subst hc
    have key : Calls Tryd.prog 63 #[.int .u8 109] w fun e w' => e = .returned (.tuple #[.int .u8 45, .bool true]) ∧ w' = w := by
      clear h0 h1 h2 h3
      go_enter Tryd.func63, Tryd.ntmps63
      go_wp2
      exact bodyPost_ret (v := .tuple #[.int .u8 45, .bool true]) (by simp [results, Tryd.results63, go_sem]) rfl ⟨rfl, rfl⟩
    refine key.mono ?_
    rintro e w' ⟨e1, e2⟩
    refine ⟨?_, e2⟩
    rw [if_neg (by decide)]
    exact e1
  by_cases h4 : c.toNat = 113
  · have hc : c = 113 := Ch.u8_eq (by decide) h4
    subst hc
    have key : Calls Tryd.prog 63 #[.int .u8 113] w fun e w' => e = .returned (.tuple #[.int .u8 34, .bool true]) ∧ w' = w := by
      clear h0 h1 h2 h3 h4
      go_enter Tryd.func63, Tryd.ntmps63
      go_wp2
      exact bodyPost_ret (v := .tuple #[.int .u8 34, .bool true]) (by simp [results, Tryd.results63, go_sem]) rfl ⟨rfl, rfl⟩
    refine key.mono ?_
    rintro e w' ⟨e1, e2⟩
    refine ⟨?_, e2⟩
    rw [if_neg (by decide)]
    exact e1
  by_cases h5 : c.toNat = 92
  · have hc : c = 92 := Ch.u8_eq (by decide) h5
    subst hc
    have key : Calls Tryd.prog 63 #[.int .u8 92] w fun e w' => e = .returned (.tuple #[.int .u8 92, .bool true]) ∧ w' = w := by
      clear h0 h1 h2 h3 h4 h5
      go_enter Tryd.func63, Tryd.ntmps63
      go_wp2
      exact bodyPost_ret (v := .tuple #[.int .u8 92, .bool true]) (by simp [results, Tryd.results63, go_sem]) rfl ⟨rfl, rfl⟩
    refine key.mono ?_
    rintro e w' ⟨e1, e2⟩
    refine ⟨?_, e2⟩
    rw [if_neg (by decide)]
    exact e1
  have d0 : ((c.toNat : Int) == 114) = false := by rw [beq_eq_false_iff_ne]; omega
  have d1 : ((c.toNat : Int) == 110) = false := by rw [beq_eq_false_iff_ne]; omega
  have d2 : ((c.toNat : Int) == 115) = false := by rw [beq_eq_false_iff_ne]; omega
  have d3 : ((c.toNat : Int) == 109) = false := by rw [beq_eq_false_iff_ne]; omega
  have d4 : ((c.toNat : Int) == 113) = false := by rw [beq_eq_false_iff_ne]; omega
  have d5 : ((c.toNat : Int) == 92) = false := by rw [beq_eq_false_iff_ne]; omega
  have hn : c ∉ Ch.lets := by
    intro hm
    simp only [Ch.lets, List.mem_cons, List.not_mem_nil, or_false] at hm
    rcases hm with e | e | e | e | e | e <;> rw [e] at h0 h1 h2 h3 h4 h5 <;> revert h0 h1 h2 h3 h4 h5 <;> decide
  have key : Calls Tryd.prog 63 #[.int .u8 (c.toNat : Int)] w fun e w' => e = .returned (.tuple #[.int .u8 0, .bool false]) ∧ w' = w := by
    clear hn h0 h1 h2 h3 h4 h5
    go_enter Tryd.func63, Tryd.ntmps63
    go_wp2
    exact bodyPost_ret (v := .tuple #[.int .u8 0, .bool false]) (by simp [results, Tryd.results63, go_sem]) rfl ⟨rfl, rfl⟩
  refine key.mono ?_
  rintro e w' ⟨e1, e2⟩
  refine ⟨?_, e2⟩
  rw [if_pos (Ch.idx_neg_of hn)]
  exact e1
end Go.Proofs.YtdclnimmfnlnhaaDoor
