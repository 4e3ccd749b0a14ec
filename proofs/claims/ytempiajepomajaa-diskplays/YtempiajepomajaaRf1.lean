/-
  Layer 6: the document's disk: New, names, find, bytes.
-/
import Derived.Test.YtempiajepomajaaDk28
namespace Go.Proofs.Ytempiajepomajaa
open Go.RowKit

set_option maxHeartbeats 400000 in
theorem rnew_any (n : Int) (w : World) : Calls Try.prog 7 #[.int .i64 n] w fun e w' => e = .returned (dval none 0 0 none 0 0 (Dsk.room n) (-1) false) ∧ Below w.heap.size w w' := by
  have hr : Hid (Dsk.room n = if n ≤ 0 then 0 else if 60000 ≤ n then 60000 else n) := rfl
  have e : max 0 (min n 60000) = Dsk.room n := by rw [hr.out]; (repeat' split) <;> omega
  clear hr
  replace e := Rg.hid e
  go_enter Try.func7, Try.ntmps7
  go_wp2
  exact bodyPost_ret (v := dval none 0 0 none 0 0 (max 0 (min n 60000)) (-1) false) (by simp [results, Try.results7, go_sem, dval]) rfl ⟨by rw [e.out], Rg.al1 _ _⟩

set_option maxHeartbeats 1000000 in
theorem rname_any (s : ByteArray) (w : World) (hs : s.size ≤ maxLen) :
    Calls Try.prog 53 #[.string s] w fun e w' => e = .returned (.bool (Dsk.isName s)) ∧ w' = w := by
  unfold maxLen at hs
  go_enter Try.func53, Try.ntmps53
  go_wp2
  go_loop [6] (fun i => ∃ k : Nat, k ≤ s.size ∧ i = .int .i64 k ∧ Hid ((s.data.toList.take k).all Dsk.okc = true)) (fun i => s.size - (intOf i).toNat)
  case atStart => exact ⟨0, Nat.zero_le _, rfl, rfl⟩
  case round =>
    obtain ⟨k, hk, rfl, hall⟩ := hrel
    by_cases hlt : k < s.size
    · cases ho : Dsk.okc s[k]
      · have hr : Hid (Dsk.isName s = false) := Dsk.isName_no (Dsk.all_not s k hlt ho)
        unfold Dsk.okc at ho
        rw [decide_eq_false_iff_not] at ho
        clear hall
        by_cases h1 : s[k].toNat < 33
        · have d1 : decide ((s[k].toNat : Int) < 33) = true := by simp; omega
          clear ho
          go_wp2
          go_ret
          exact ⟨ret_bool hr.out.symm, rfl⟩
        · have d1 : decide ((s[k].toNat : Int) < 33) = false := by simp; omega
          by_cases h2 : 126 < s[k].toNat
          · have d2 : decide ((126 : Int) < (s[k].toNat : Int)) = true := by simp; omega
            clear ho
            go_wp2
            go_ret
            exact ⟨ret_bool hr.out.symm, rfl⟩
          · have d2 : decide ((126 : Int) < (s[k].toNat : Int)) = false := by simp; omega
            have d3 : ((s[k].toNat : Int) == 47) = true := by simp; omega
            clear ho
            go_wp2
            go_ret
            exact ⟨ret_bool hr.out.symm, rfl⟩
      · have hn : Hid ((s.data.toList.take (k + 1)).all Dsk.okc = true) := Dsk.all_take s k hlt hall.out ho
        unfold Dsk.okc at ho
        rw [decide_eq_true_iff] at ho
        clear hall
        have d1 : decide ((s[k].toNat : Int) < 33) = false := by simp; omega
        have d2 : decide ((126 : Int) < (s[k].toNat : Int)) = false := by simp; omega
        have d3 : ((s[k].toNat : Int) == 47) = false := by simp; omega
        clear ho
        go_wp2
        go_round
        case rel => exact ⟨k + 1, by omega, by go_num, hn⟩
        case measure => simp [intOf]; omega
    · obtain rfl : k = s.size := by omega
      have hr : Hid (Dsk.isName s = decide (1 ≤ s.size ∧ s.size ≤ 30)) := by
        refine Dsk.isName_yes ?_
        have := hall.out
        rw [List.take_of_length_le (show s.data.toList.length ≤ s.size from Nat.le_refl _)] at this
        exact this
      clear hall
      by_cases h0 : s.size = 0
      · have d0 : decide ((1 : Int) ≤ (s.size : Int)) = false := by rw [decide_eq_false_iff_not]; omega
        have d0' : decide (1 ≤ s.size) = false := by rw [decide_eq_false_iff_not]; omega
        have hr' : Hid (Dsk.isName s = false) := by show _ = _; rw [hr.out]; simp [h0]
        clear hr
        go_wp2
        go_ret
        exact ⟨ret_bool hr'.out.symm, rfl⟩
      · have d0 : decide ((1 : Int) ≤ (s.size : Int)) = true := by simp; omega
        by_cases h1 : s.size ≤ 30
        · have d1 : decide ((s.size : Int) ≤ 30) = true := by simp; omega
          have hr' : Hid (Dsk.isName s = true) := by show _ = _; rw [hr.out]; simp; omega
          clear hr
          go_wp2
          go_ret
          exact ⟨ret_bool hr'.out.symm, rfl⟩
        · have d1 : decide ((s.size : Int) ≤ 30) = false := by simp; omega
          have hr' : Hid (Dsk.isName s = false) := by show _ = _; rw [hr.out]; simp; omega
          clear hr
          go_wp2
          go_ret
          exact ⟨ret_bool hr'.out.symm, rfl⟩

set_option maxHeartbeats 2000000 in
theorem rbytes_any (a : Option Addr) (c : Nat) (l : List Dsk.Fl) (w2 : World) (hul : Dsk.used l ≤ 10000000000) (hrow : fileE.Row w2 a l) :
    Calls Try.prog 44 #[.slice a l.length c] w2 fun e w' => e = .returned (.int .i64 (Dsk.used l)) ∧ Below w2.heap.size w2 w' := by
  have hll := Dsk.len_used l
  replace hrow := Rg.hid hrow
  obtain ⟨N, hN⟩ : ∃ N, N = l.length := ⟨_, rfl⟩
  rw [← hN] at hll ⊢
  replace hN := Rg.hid hN
  go_enter Try.func44, Try.ntmps44
  go_wp2
  go_loopw [3, 8] (fun vu vi wr => ∃ (i u : Nat), i ≤ N ∧ u ≤ 10000000000 ∧ vi = .int .i64 i ∧ vu = .int .i64 u ∧ Hid (u = Dsk.used (l.take i)) ∧ Below w2.heap.size w2 wr) (fun _ vi _ => N - (intOf vi).toNat)
  case atStart => exact ⟨0, 0, Nat.zero_le _, Nat.zero_le _, rfl, rfl, rfl, Below.refl _ _⟩
  case round =>
    obtain ⟨i, u, hin, hub, rfl, rfl, huu, hbw⟩ := hrel
    by_cases hlt : i < N
    · have hil : i < l.length := by rw [← hN.out]; exact hlt
      obtain ⟨b, o, rfl, hb, hat⟩ : ∃ b o, a = some ⟨b, o, none⟩ ∧ b < w2.heap.size ∧ Rg.At w2 b o (fileE.flat l) := by
        rcases hrow.out with ⟨_, h⟩ | h
        · rw [h] at hil; simp at hil
        · exact h
      have hnx := used_take l i hil
      have hle := used_take_le l (i + 1)
      have at1 : Rg.At wr b (o + i * 2) (fileE.enc l[i]) := (hat.elem hil).below hbw hb
      generalize l[i] = x at *
      obtain ⟨xn, xd⟩ := x
      obtain ⟨c0, c1⟩ := file_at at1
      dsimp only at hnx
      have hz0 : (0 : Int) ≤ (i : Int) := by omega
      have hz1 : (i : Int) < (N : Int) := by omega
      have hsum : Hid (u + (16 + xd.size) = Dsk.used (l.take (i + 1))) := by show _ = _; have := huu.out; omega
      have hsum2 : u + (16 + xd.size) ≤ 10000000000 := by have := hsum.out; omega
      clear at1 hat hil hrow hnx hle
      go_wp2
      go_roundw
      case rel => exact ⟨i + 1, u + (16 + xd.size), by omega, by omega, by go_num, by go_num, hsum, hbw.alloc hbw.size _⟩
      case measure => simp [intOf]; omega
    · obtain rfl : i = N := by omega
      have hfin : Hid ((u : Int) = (Dsk.used l : Int)) := by
        show _ = _
        rw [huu.out, List.take_of_length_le (by rw [← hN.out]; exact Nat.le_refl _)]
      go_wp2
      go_ret
      exact ⟨ret_int hfin.out, hbw⟩

set_option maxHeartbeats 2000000 in
theorem rfind_any (a : Option Addr) (c : Nat) (l : List Dsk.Fl) (n : ByteArray) (w : World) (hn : l.length ≤ 1000000000) (hrow : fileE.Row w a l) :
    Calls Try.prog 41 #[.slice a l.length c, .string n] w fun e w' => FindPost l n w e w' := by
  replace hrow := Rg.hid hrow
  obtain ⟨N, hN⟩ : ∃ N, N = l.length := ⟨_, rfl⟩
  rw [← hN]
  replace hN := Rg.hid hN
  have hpl := Dsk.pos_le l n
  obtain ⟨p, hp⟩ : ∃ p, p = Dsk.pos l n := ⟨_, rfl⟩
  rw [← hp, ← hN.out] at hpl
  have hnb : N ≤ 1000000000 := by rw [hN.out]; exact hn
  replace hp := Rg.hid hp
  go_enter Try.func41, Try.ntmps41
  go_wp2
  go_loop [6] (fun vi => ∃ k : Nat, k ≤ p ∧ vi = .int .i64 k) (fun vi => N - (intOf vi).toNat)
  case atStart => exact ⟨0, Nat.zero_le _, rfl⟩
  case round =>
    obtain ⟨k, hk, rfl⟩ := hrel
    by_cases hlt : k < N
    · have hil : k < l.length := by rw [← hN.out]; exact hlt
      obtain ⟨b, o, rfl, hb, hat⟩ : ∃ b o, a = some ⟨b, o, none⟩ ∧ b < w.heap.size ∧ Rg.At w b o (fileE.flat l) := by
        rcases hrow.out with ⟨_, h⟩ | h
        · rw [h] at hil; simp at hil
        · exact h
      have at1 : Rg.At w b (o + k * 2) (fileE.enc l[k]) := hat.elem hil
      have hz0 : (0 : Int) ≤ (k : Int) := by omega
      have hz1 : (k : Int) < (N : Int) := by omega
      by_cases hkp : k = p
      · subst hkp
        have hl : Dsk.lt l[k].n n = false := by
          have e : k = Dsk.pos l n := hp.out
          subst e
          exact Dsk.pos_at l n hil
        have hh : Dsk.has l n = decide (l[k].n = n) := by
          have e : k = Dsk.pos l n := hp.out
          subst e
          exact Dsk.has_pos hil
        generalize l[k] = x at *
        obtain ⟨xn, xd⟩ := x
        obtain ⟨c0, c1⟩ := file_at at1
        dsimp only at hl hh
        have d1 : Op.bytesLess xn.toList n.toList = false := by rw [tl_eq, tl_eq]; exact hl
        have hend : Hid (FindPost l n w (.returned (.tuple #[.int .i64 k, .bool (decide (xn = n))])) w.drew) := ⟨by rw [hh, ← hp.out], (Below.refl _ _).drew⟩
        clear at1 hat hil hrow hl hh
        by_cases e : xn = n
        · have d2 : (xn.toList == n.toList) = true := by simp [e]
          have de : decide (xn = n) = true := by simp [e]
          rw [de] at hend
          clear e de
          go_wp2
          go_big_region
          all_goals
            go_wp2
            go_ret2
            exact hend.out
        · have d2 : (xn.toList == n.toList) = false := by rw [beq_eq_false_iff_ne]; exact fun h => e ((tl_inj _ _).1 h)
          have de : decide (xn = n) = false := by simp [e]
          rw [de] at hend
          clear e de
          go_wp2
          go_big_region
          all_goals
            go_wp2
            go_ret2
            exact hend.out
      · have hl : Dsk.lt l[k].n n = true := Dsk.pos_ahead l n k hil (by rw [← hp.out]; omega)
        generalize l[k] = x at *
        obtain ⟨xn, xd⟩ := x
        obtain ⟨c0, c1⟩ := file_at at1
        dsimp only at hl
        have d1 : Op.bytesLess xn.toList n.toList = true := by rw [tl_eq, tl_eq]; exact hl
        clear at1 hat hil hrow hl
        go_wp2
        go_round
        case rel => exact ⟨k + 1, by omega, by go_num⟩
        case measure => simp [intOf]; omega
    · obtain rfl : k = N := by omega
      have hend : Hid (FindPost l n w (.returned (.tuple #[.int .i64 k, .bool false])) w.drew) := by
        have e : k = p := by omega
        have hh : Dsk.has l n = false := Dsk.has_end (by rw [← hp.out, ← e, ← hN.out]; omega)
        exact ⟨by rw [hh, ← hp.out, e], (Below.refl _ _).drew⟩
      go_wp2
      go_big_region
      all_goals
        go_wp2
        go_ret2
        exact hend.out
end Go.Proofs.Ytempiajepomajaa
