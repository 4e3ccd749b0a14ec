/-
  Walks of layer 13's statements: ParcelLost.
-/
import Derived.Test.YteiajngfeiemkabDoorPaL
namespace Go.Proofs.YteiajngfeiemkabDoor
open Go.RowKit
namespace Pa
/-- Which piece the statement takes away. -/
theorem pick (q : Int) (n : Nat) (h : 1 ≤ n) (h2 : n ≤ 10000) : ∃ V k k1 : Nat, ((n : Int) == 0) = false ∧ (n == 0) = false ∧ (¬ n = 0) ∧ IntKind.u64.wrap q = (V : Int) ∧ IntKind.u64.wrap (n : Int) = (n : Int) ∧ (V : Int) % (n : Int) = (k : Int) ∧ (V : Int).tmod (n : Int) = (k : Int) ∧ IntKind.i64.wrap (k : Int) = (k : Int) ∧ wrap64 (k : Int) = (k : Int) ∧ IntKind.i64.wrap ((k : Int) + 1) = (k1 : Int) ∧ wrap64 ((k : Int) + 1) = (k1 : Int) ∧ (0 : Int) ≤ (k : Int) ∧ (0 : Int) ≤ (k1 : Int) ∧ (k1 : Int) ≤ (n : Int) ∧ k < k1 ∧ k1 ≤ n ∧ Hid (k1 = k + 1) := by
  obtain ⟨V, hV⟩ : ∃ U : Nat, IntKind.u64.wrap q = (U : Int) := ⟨(IntKind.u64.wrap q).toNat, by rw [IntKind.wrap_u64]; omega⟩
  have hlt := Nat.mod_lt V (show 0 < n by omega)
  refine ⟨V, V % n, V % n + 1, ?_, ?_, by omega, hV, ?_, ?_, ?_, ?_, ?_, ?_, ?_, by omega, by omega, by omega, by omega, by omega, rfl⟩
  · rw [beq_eq_false_iff_ne]; omega
  · rw [beq_eq_false_iff_ne]; omega
  · rw [IntKind.wrap_u64]; omega
  · rw [Int.natCast_emod]
  · rw [Int.tmod_eq_emod_of_nonneg (by omega), Int.natCast_emod]
  all_goals generalize V % n = k at *
  · rw [IntKind.wrap_i64]; omega
  · unfold wrap64; omega
  · rw [IntKind.wrap_i64]; omega
  · unfold wrap64; omega
theorem some_mem {r : List Pc} {k k1 : Nat} (h : ∀ p ∈ r, p.data.length ≤ 9000) : ∀ p ∈ r.take k ++ r.drop k1, p.data.length ≤ 9000 := by
  intro p hp
  rw [List.mem_append] at hp
  exact h p (hp.elim List.mem_of_mem_take List.mem_of_mem_drop)
theorem some_len {r : List Pc} {k k1 : Nat} (h : r.length ≤ 10000) (hk : k ≤ k1) : (r.take k ++ r.drop k1).length ≤ 10000 := by
  rw [List.length_append, List.length_take, List.length_drop]; omega
theorem not_last2 {k n n1 : Nat} (hn : n = n1 + 1) (h : ¬ k + 1 = n) : ((k : Int) == (n1 : Int)) = false ∧ (k == n1) = false := by
  have : ¬ k = n1 := fun e => h (by omega)
  exact ⟨by rw [beq_eq_false_iff_ne]; omega, by rw [beq_eq_false_iff_ne]; exact this⟩
theorem inside {k k1 n : Nat} (e : k1 = k + 1) (h : k1 ≤ n) (h2 : ¬ k + 1 = n) : k + 1 < n := by omega
theorem lim100 {z : Nat} (h : z ≤ 100) : z ≤ 4096 := by omega
theorem lim600 {n : Nat} (h : ¬ 600 < n) : n ≤ 6000 := by omega
end Pa
theorem plost_walk (s : ByteArray) (hs : s.size ≤ maxLen) (z : Int) (_h0 : -9223372036854775808 ≤ z) (_h1 : z ≤ 9223372036854775807) (q : Int) (_h2 : -9223372036854775808 ≤ q) (_h3 : q ≤ 9223372036854775807) (w : World) (htab : Lib.TabIs Tryd.prog w "internal/strconv.uint64pow10" .u64 Lib.pow10Tab) :
    Calls Tryd.prog 3 #[.string s, .int .i64 z, .int .i64 q] w fun e w' => e = .returned (.bool true) ∧ Below w.heap.size w w' := by
  have HA := awakeF' w htab
  by_cases q1 : 600 < s.size
  · exact plost_big s z q w (by simp; omega) HA
  have q1' : decide ((600 : Int) < (s.size : Int)) = false := by simp; omega
  have hl : s.data.toList.length ≤ 6000 := by rw [If.len_eq]; exact Pa.lim600 q1
  obtain ⟨U, m, Z, u1, u2, u3, u4, u5, u6, u7, hZ1, hZ2⟩ := Pa.sized100 z
  have hZ3 := Pa.lim100 hZ2
  have hfew := Pa.file_few (z := Z) hZ1 hl
  have hpos : 1 ≤ (Pa.file Z s.data.toList).length := by rw [Pa.file_len]; exact Nat.succ_le_succ (Nat.zero_le _)
  have hok := Pa.file_ok hZ1 hZ3 (l := s.data.toList)
  have hcr := Pa.cutR_ok hZ1 hZ3 hl
  have hend := fun k => Pa.lost_end hZ1 hl (k := k)
  have hpiece := fun k => Pa.lost_piece hZ1 hl (k := k)
  obtain ⟨n1, hn1, v1, v2⟩ := Pa.pred (Pa.file Z s.data.toList).length hpos hfew
  obtain ⟨V, k, k1, n0, n00, nz, y1, y2, y3, y4, y5, y6, x1, x2, hk0, hk1, hkn, hkk, hk1n, hkk1⟩ := Pa.pick q (Pa.file Z s.data.toList).length hpos hfew
  have HC : Hid (∀ W, Below w.heap.size w W → Calls Tryd.prog 5 #[.string s, .int .i64 (Z : Int)] W fun e w' => ∃ b o cap, e = .returned (.tuple #[.slice (some ⟨b, o, none⟩) (Pa.file Z s.data.toList).length cap, .int .i64 0]) ∧ (Pa.file Z s.data.toList).length ≤ cap ∧ b < w'.heap.size ∧ Hid (Rg.At w' b o (parE.flat (Pa.file Z s.data.toList))) ∧ Below W.heap.size W w') := fun W hW => by
    have h := pcut_any s hs (Z : Int) W (tab_below htab hW)
    rw [hcr] at h
    refine h.mono fun e w' ⟨A, cap, h1, h2, h3, h4⟩ => ?_
    rcases h3.out with ⟨_, h⟩ | ⟨b, o, rfl, hb, hat⟩
    · have h' : Pa.file Z s.data.toList = [] := h
      exact absurd (by rw [h']; rfl : (Pa.file Z s.data.toList).length = 0) nz
    · exact ⟨b, o, cap, h1, h2, hb, hat, h4⟩
  have HJ : ∀ W A cap, Below w.heap.size w W → Hid (PRow W A ((Pa.file Z s.data.toList).take k ++ (Pa.file Z s.data.toList).drop k1)) → Calls Tryd.prog 6 #[.slice A ((Pa.file Z s.data.toList).take k ++ (Pa.file Z s.data.toList).drop k1).length cap] W fun e w' => e = .returned (Pa.joinV (Pa.join [] ((Pa.file Z s.data.toList).take k ++ (Pa.file Z s.data.toList).drop k1))) ∧ Below W.heap.size W w' := fun W A cap hW hr =>
    pjoin_any _ (Pa.some_len hfew (Nat.le_of_lt hkk)) (Pa.some_mem hok) A cap W hr (tab_below htab hW)
  have hk1e := hkk1.out
  subst hk1e
  by_cases hlast : k + 1 = (Pa.file Z s.data.toList).length
  · obtain ⟨l1, l2⟩ := Pa.is_last hn1.out hlast
    have e : Pa.joinV (.error 2) = .tuple #[.string ⟨#[]⟩, .int .i64 2] := rfl
    rw [hend k hlast, e] at HJ
    generalize Pa.file Z s.data.toList = r at *
    exact plost_end s z q w q1' U m Z u1 u2 u3 u4 u5 u6 u7 V r.length n1 k (k + 1) n0 n00 nz y1 y2 y3 y4 y5 y6 x1 x2 v1 v2 hk0 hk1 hkn hkk hk1n hfew r rfl _ rfl l1 l2 HC HJ HA
  · obtain ⟨l1, l2⟩ := Pa.not_last2 hn1.out hlast
    rcases hpiece k (Pa.inside rfl hk1n hlast) with h4 | ⟨t, ht, h0, hc⟩
    · have e : Pa.joinV (.error 4) = .tuple #[.string ⟨#[]⟩, .int .i64 4] := rfl
      rw [h4, e] at HJ
      generalize Pa.file Z s.data.toList = r at *
      exact plost_err s z q w q1' U m Z u1 u2 u3 u4 u5 u6 u7 V r.length n1 k (k + 1) n0 n00 nz y1 y2 y3 y4 y5 y6 x1 x2 v1 v2 hk0 hk1 hkn hkk hk1n hfew r rfl _ _ rfl l1 l2 HC HJ HA
    · have e : Pa.joinV (.ok t) = .tuple #[.string ⟨t.toArray⟩, .int .i64 0] := rfl
      rw [h0, e] at HJ
      have HK1 : Hid (∀ W, Calls Tryd.prog 7 #[.string ⟨t.toArray⟩] W fun e w' => e = .returned (.int .i64 ((Pa.crc s.data.toList : Nat) : Int)) ∧ w' = W) := fun W => by
        have h := crc_any ⟨t.toArray⟩ W (by rw [If.size_of]; unfold maxLen; exact Nat.le_trans ht (by decide))
        rw [← hc]
        exact h
      have HK2 : Hid (∀ W, Calls Tryd.prog 7 #[.string s] W fun e w' => e = .returned (.int .i64 ((Pa.crc s.data.toList : Nat) : Int)) ∧ w' = W) := fun W => crc_any s W hs
      generalize Pa.crc s.data.toList = C at *
      generalize Pa.file Z s.data.toList = r at *
      exact plost_ok s z q w q1' U m Z u1 u2 u3 u4 u5 u6 u7 V r.length n1 k (k + 1) n0 n00 nz y1 y2 y3 y4 y5 y6 x1 x2 v1 v2 hk0 hk1 hkn hkk hk1n hfew r rfl _ _ rfl l1 l2 C HK1 HK2 HC HJ HA
end Go.Proofs.YteiajngfeiemkabDoor
