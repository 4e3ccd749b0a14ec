/-
  Layer 7: LineOrder.
-/
import Derived.Test.YtalleocmnnnchaaLn10
namespace Go.Proofs.Ytalleocmnnnchaa
open Go.RowKit

theorem ba_ext {a b : ByteArray} (h : a.data.toList = b.data.toList) : a = b := by
  obtain ⟨a⟩ := a
  obtain ⟨b⟩ := b
  congr 1
  exact Array.ext' h
theorem ba_app (a b : ByteArray) : (a ++ b).data.toList = a.data.toList ++ b.data.toList := by simp
theorem ba_cut (x : ByteArray) (M : Nat) (hM : M ≤ x.size) : x.extract 0 M ++ x.extract M x.size = x := by
  apply ba_ext
  rw [ba_app]
  have h : x.size = x.data.toList.length := rfl
  simp only [ByteArray.data_extract, Array.toList_extract, List.extract_eq_take_drop, List.drop_zero, Nat.sub_zero]
  rw [List.take_of_length_le (l := x.data.toList.drop M) (by rw [List.length_drop]; omega), List.take_append_drop]
theorem ba_all (x : ByteArray) : x.extract 0 x.size = x := by
  apply ba_ext
  have h : x.size = x.data.toList.length := rfl
  simp
theorem ba_assoc (a b c : ByteArray) : (a ++ b) ++ c = a ++ (b ++ c) := by
  apply ba_ext
  rw [ba_app, ba_app, ba_app, ba_app, List.append_assoc]
theorem ba_size (a b : ByteArray) : (a ++ b).size = a.size + b.size := by simp
theorem ba_nil (a : ByteArray) : ⟨#[]⟩ ++ a = a := by
  apply ba_ext
  rw [ba_app]
  rfl
theorem ba_eq {a b : ByteArray} (h : a = b) : (a.toList == b.toList) = true := by rw [h]; simp

/-- what Take hands on -/
def TP (x : ByteArray) (p m : Int) (x' t : ByteArray) (p' : Int) : Prop := t ++ x' = x ∧ 0 ≤ p' ∧ p' ≤ p + x.size ∧ ((x.size : Int) ≤ m → 1 ≤ m → t = x)
theorem take_line (x : ByteArray) (p m : Int) (w : World) (hx : x.size ≤ 1000000) (hp : 0 ≤ p) (hp2 : p ≤ 1000000000) :
    Calls Try.prog 19 #[.agg #[.string x, .int .i64 p, .slice none 0 0, .slice none 0 0, .string ⟨#[]⟩, .int .i64 0, .slice none 0 0, .slice none 0 0, .bool true], .int .i64 0, .int .i64 m] w fun e w' => ∃ x' t p', e = .returned (.tuple #[.agg #[.string x', .int .i64 p', .slice none 0 0, .slice none 0 0, .string ⟨#[]⟩, .int .i64 0, .slice none 0 0, .slice none 0 0, .bool true], .string t]) ∧ Hid (TP x p m x' t p') ∧ Below w.heap.size w w' := by
  by_cases hm : m < 1
  · exact (ltake_none0 x p none 0 0 none 0 0 ⟨#[]⟩ 0 none 0 0 none 0 0 true m w hm).mono fun e w' ⟨h1, h2⟩ => ⟨x, ⟨#[]⟩, p, h1, ⟨ba_nil x, hp, by omega, fun _ h => by omega⟩, h2⟩
  · obtain ⟨M, hM⟩ : ∃ M : Nat, min m (x.size : Int) = (M : Int) := ⟨(min m (x.size : Int)).toNat, by omega⟩
    exact (ltake_some0 x p none 0 0 none 0 0 ⟨#[]⟩ 0 none 0 0 none 0 0 true m M w (by omega) hM (by omega) hp (by omega)).mono fun e w' ⟨h1, h2⟩ => ⟨_, _, _, h1, ⟨ba_cut x M (by omega), by omega, by omega, fun h _ => by
      rw [show M = x.size by omega]; exact ba_all x⟩, h2⟩
theorem send_line (x s : ByteArray) (p : Int) (w : World) (h : x.size + s.size ≤ 40000) :
    Calls Try.prog 18 #[.agg #[.string x, .int .i64 p, .slice none 0 0, .slice none 0 0, .string ⟨#[]⟩, .int .i64 0, .slice none 0 0, .slice none 0 0, .bool true], .int .i64 0, .string s] w fun e w' => e = .returned (.tuple #[.agg #[.string (x ++ s), .int .i64 p, .slice none 0 0, .slice none 0 0, .string ⟨#[]⟩, .int .i64 0, .slice none 0 0, .slice none 0 0, .bool true], .int .i64 0]) ∧ Below w.heap.size w w' :=
  lsend_ok0 x p none 0 0 none 0 0 ⟨#[]⟩ 0 none 0 0 none 0 0 s w h

/-- an argument's row of texts, of numbers -/
def SRow (W : World) (a : Option Addr) (l : List ByteArray) : Prop := l = [] ∨ ∃ b o, a = some ⟨b, o, none⟩ ∧ b < W.heap.size ∧ ∀ i (h : i < l.length), W.cell? ⟨b, o + i, none⟩ = some (.string l[i])
def NRow (W : World) (a : Option Addr) (l : List Int) : Prop := l = [] ∨ ∃ b o, a = some ⟨b, o, none⟩ ∧ b < W.heap.size ∧ ∀ i (h : i < l.length), W.cell? ⟨b, o + i, none⟩ = some (.int .i64 l[i])

set_option maxHeartbeats 4000000 in
set_option maxRecDepth 100000 in
theorem order_walk (a : Option Addr) (ca : Nat) (l : List ByteArray) (b : Option Addr) (cb : Nat) (q : List Int) (hl : l.length ≤ maxLen) (hq : q.length ≤ maxLen) (w : World) (hrl : SRow w a l) (hrq : NRow w b q) :
    Calls Try.prog 5 #[.slice a l.length ca, .slice b q.length cb] w fun e w' => VPost (.bool true) w e w' := by
  have HA : Hid (∀ W, Below w.heap.size w W → Calls Try.prog 10 #[] W fun e w' => VPost (.bool true) w e w') := fun W hW => (awake_any W).mono fun e w' ⟨h1, h2⟩ => ⟨h1, Rg.chain hW h2⟩
  unfold maxLen at hl hq
  obtain ⟨N, hN⟩ : ∃ N, N = l.length := ⟨_, rfl⟩
  obtain ⟨M, hM⟩ : ∃ M, M = q.length := ⟨_, rfl⟩
  rw [← hN] at hl ⊢
  rw [← hM] at hq ⊢
  replace hN := Rg.hid hN
  replace hM := Rg.hid hM
  replace hrl := Rg.hid hrl
  replace hrq := Rg.hid hrq
  by_cases h1 : N ≤ 60
  case neg =>
    have d1 : decide ((60 : Int) < (N : Int)) = true := by simp; omega
    go_enter Try.func5, Try.ntmps5
    go_wp2_with (go_at_call 10; refine (HA.out _ (Below.refl _ _)).mono ?_)
    rintro e w1 ⟨rfl, b1⟩
    go_wp2
    go_ret
    exact ⟨rfl, b1⟩
  case pos =>
  have d1 : decide ((60 : Int) < (N : Int)) = false := by simp; omega
  by_cases h2 : M ≤ 200
  case neg =>
    have d2 : decide ((200 : Int) < (M : Int)) = true := by simp; omega
    go_enter Try.func5, Try.ntmps5
    go_wp2_with (go_at_call 10; refine (HA.out _ (Below.refl _ _)).mono ?_)
    rintro e w1 ⟨rfl, b1⟩
    go_wp2
    go_ret
    exact ⟨rfl, b1⟩
  case pos =>
  have d2 : decide ((200 : Int) < (M : Int)) = false := by simp; omega
  have HN : Hid (∀ W, Calls Try.prog 11 #[] W fun e w' => e = .returned (.agg #[.string ⟨#[]⟩, .int .i64 0, .slice none 0 0, .slice none 0 0, .string ⟨#[]⟩, .int .i64 0, .slice none 0 0, .slice none 0 0, .bool true]) ∧ Below W.heap.size W w') := fun W => lnew_any W
  go_enter Try.func5, Try.ntmps5
  go_upto_region 4 with (go_at_call 11; refine (HN.out _).mono ?_; rintro e w1 ⟨rfl, b1⟩)
  have kV0 := Rg.hid (show Rg.Bk w1.heap.size [.string ⟨#[]⟩, .int .i64 0, .slice none 0 0, .slice none 0 0, .string ⟨#[]⟩, .int .i64 0, .slice none 0 0, .slice none 0 0, .bool true] 30 (w1.alloc (.cells #[.string ⟨#[]⟩, .int .i64 0, .slice none 0 0, .slice none 0 0, .string ⟨#[]⟩, .int .i64 0, .slice none 0 0, .slice none 0 0, .bool true] 30)) from Rg.Bk.new rfl)
  have hb0 := Rg.chain b1 (Rg.al1 w1 (.cells #[.string ⟨#[]⟩, .int .i64 0, .slice none 0 0, .slice none 0 0, .string ⟨#[]⟩, .int .i64 0, .slice none 0 0, .slice none 0 0, .bool true] 30))
  have hVw := b1.size
  clear b1 HN
  generalize World.alloc _ _ = W0 at *
  generalize w1.heap.size = V at *
  go_wp2
  go_loopw [6, 7, 28] (fun v6 v7 vi wr => ∃ (i : Nat) (inn o x : ByteArray) (p : Int), i ≤ N ∧ vi = .int .i64 i ∧ v6 = .string inn ∧ v7 = .string o ∧ Hid (inn = o ++ x) ∧ Hid (o.size + x.size ≤ i * 500) ∧ Hid (0 ≤ p ∧ p ≤ i * 40000) ∧ Hid (Rg.Bk V [.string x, .int .i64 p, .slice none 0 0, .slice none 0 0, .string ⟨#[]⟩, .int .i64 0, .slice none 0 0, .slice none 0 0, .bool true] 30 wr) ∧ Below w.heap.size w wr) (fun _ _ vi _ => N - (intOf vi).toNat)
  case atStart => exact ⟨0, ⟨#[]⟩, ⟨#[]⟩, ⟨#[]⟩, 0, Nat.zero_le _, rfl, rfl, rfl, rfl, Nat.le_refl _, ⟨by omega, by omega⟩, kV0, hb0⟩
  case round =>
    obtain ⟨i, inn, o, x, p, hin, rfl, rfl, rfl, hio, hsz, hp, kV, hbw⟩ := hrel
    clear kV0 hb0
    by_cases hlt : i < N
    · have hil : i < l.length := by rw [← hN.out]; exact hlt
      obtain ⟨bs, os, rfl, hbs, hcs⟩ : ∃ b o, a = some ⟨b, o, none⟩ ∧ b < w.heap.size ∧ ∀ i (h : i < l.length), w.cell? ⟨b, o + i, none⟩ = some (.string l[i]) := by
        rcases hrl.out with h | h
        · rw [h] at hil; simp at hil
        · exact h
      have cs0 : wr.cell? ⟨bs, os + i, none⟩ = some (.string l[i]) := (hbw.cell (p := ⟨bs, os + i, none⟩) hbs).trans (hcs i hil)
      generalize l[i] = s at *
      have hz0 : (0 : Int) ≤ (i : Int) := by omega
      have hz1 : (i : Int) < (N : Int) := by omega
      clear hcs hrl
      by_cases hs : (500 : Int) < (s.size : Int)
      · have ds : decide ((500 : Int) < (s.size : Int)) = true := by simp; omega
        go_wp2_with (go_at_call 10; refine (HA.out _ hbw).mono ?_)
        rintro e w2 ⟨rfl, b2⟩
        go_wp2
        go_ret
        exact ⟨rfl, b2⟩
      · have ds : decide ((500 : Int) < (s.size : Int)) = false := by simp; omega
        have hsz2 := hsz.out
        have HS : Hid (∀ W, Calls Try.prog 18 #[.agg #[.string x, .int .i64 p, .slice none 0 0, .slice none 0 0, .string ⟨#[]⟩, .int .i64 0, .slice none 0 0, .slice none 0 0, .bool true], .int .i64 0, .string s] W fun e w' => e = .returned (.tuple #[.agg #[.string (x ++ s), .int .i64 p, .slice none 0 0, .slice none 0 0, .string ⟨#[]⟩, .int .i64 0, .slice none 0 0, .slice none 0 0, .bool true], .int .i64 0]) ∧ Below W.heap.size W w') := fun W => send_line x s p W (by have := Nat.mul_le_mul_right 500 h1; omega)
        have hmm : ¬ 9223372036854775807 < inn.size + s.size := by
          rw [hio.out, ba_size]
          have := Nat.mul_le_mul_right 500 h1
          omega
        have hinn2 : Hid (inn ++ s = o ++ (x ++ s)) := by show _ = _; rw [hio.out, ba_assoc]
        have hsz3 : Hid (o.size + (x ++ s).size ≤ (i + 1) * 500) := by show _ ≤ _; rw [ba_size]; omega
        have z0 : wr.cell? ⟨V, 0, none⟩ = some (.string x) := kV.out.cell 0
        have z1 : wr.cell? ⟨V, 1, none⟩ = some (.int .i64 p) := kV.out.cell 1
        have z2 : wr.cell? ⟨V, 2, none⟩ = some (.slice none 0 0) := kV.out.cell 2
        have z3 : wr.cell? ⟨V, 3, none⟩ = some (.slice none 0 0) := kV.out.cell 3
        have z4 : wr.cell? ⟨V, 4, none⟩ = some (.string ⟨#[]⟩) := kV.out.cell 4
        have z5 : wr.cell? ⟨V, 5, none⟩ = some (.int .i64 0) := kV.out.cell 5
        have z6 : wr.cell? ⟨V, 6, none⟩ = some (.slice none 0 0) := kV.out.cell 6
        have z7 : wr.cell? ⟨V, 7, none⟩ = some (.slice none 0 0) := kV.out.cell 7
        have z8 : wr.cell? ⟨V, 8, none⟩ = some (.bool true) := kV.out.cell 8
        have hbw' := Rg.hid hbw
        clear hsz2 hbw
        go_upto_region 11 with (go_at_call 18; refine (HS.out _).mono ?_; rintro e w2 ⟨rfl, b2⟩)
        have kV2 := Rg.hid ((kV.out.below b2 kV.out.lt).old (.cells #[.string (x ++ s), .int .i64 p, .slice none 0 0, .slice none 0 0, .string ⟨#[]⟩, .int .i64 0, .slice none 0 0, .slice none 0 0, .bool true] 30))
        have kX2 : Rg.Bk w2.heap.size [.string (x ++ s), .int .i64 p, .slice none 0 0, .slice none 0 0, .string ⟨#[]⟩, .int .i64 0, .slice none 0 0, .slice none 0 0, .bool true] 30 (w2.alloc (.cells #[.string (x ++ s), .int .i64 p, .slice none 0 0, .slice none 0 0, .string ⟨#[]⟩, .int .i64 0, .slice none 0 0, .slice none 0 0, .bool true] 30)) := Rg.Bk.new rfl
        have hb2 := Rg.hid (Rg.chain (Rg.chain hbw'.out b2) (Rg.al1 w2 (.cells #[.string (x ++ s), .int .i64 p, .slice none 0 0, .slice none 0 0, .string ⟨#[]⟩, .int .i64 0, .slice none 0 0, .slice none 0 0, .bool true] 30)))
        have hne : V ≠ w2.heap.size := by have h1 := (kV.out.below b2 kV.out.lt).lt; omega
        clear z0 z1 z2 z3 z4 z5 z6 z7 z8 b2 kV hbw' HS hio hsz cs0
        generalize w2.alloc _ = w3 at *
        generalize w2.heap.size = X at *
        have d0 : w3.cell? ⟨X, 0, none⟩ = some (.string (x ++ s)) := kX2.cell 0
        have d1 : w3.cell? ⟨X, 1, none⟩ = some (.int .i64 p) := kX2.cell 1
        have d2 : w3.cell? ⟨X, 2, none⟩ = some (.slice none 0 0) := kX2.cell 2
        have d3 : w3.cell? ⟨X, 3, none⟩ = some (.slice none 0 0) := kX2.cell 3
        have d4 : w3.cell? ⟨X, 4, none⟩ = some (.string ⟨#[]⟩) := kX2.cell 4
        have d5 : w3.cell? ⟨X, 5, none⟩ = some (.int .i64 0) := kX2.cell 5
        have d6 : w3.cell? ⟨X, 6, none⟩ = some (.slice none 0 0) := kX2.cell 6
        have d7 : w3.cell? ⟨X, 7, none⟩ = some (.slice none 0 0) := kX2.cell 7
        have d8 : w3.cell? ⟨X, 8, none⟩ = some (.bool true) := kX2.cell 8
        have kX2' := Rg.hid kX2
        clear kX2
        go_upto_region 14 with fail
        generalize inn ++ s = inn2 at *
        generalize x ++ s = x2 at *
        obtain ⟨kV4, o4⟩ := ret9 kV2.out rfl (.string x2) (.int .i64 p) (.slice none 0 0) (.slice none 0 0) (.string ⟨#[]⟩) (.int .i64 0) (.slice none 0 0) (.slice none 0 0) (.bool true)
        have hb4 := Rg.hid (hb2.out.trans (o4.bel hVw))
        replace kV4 := Rg.hid kV4
        have r0 : w3.cell? ⟨V, 0, none⟩ = some (.string x) := kV2.out.cell 0
        have r1 : w3.cell? ⟨V, 1, none⟩ = some (.int .i64 p) := kV2.out.cell 1
        have r2 : w3.cell? ⟨V, 2, none⟩ = some (.slice none 0 0) := kV2.out.cell 2
        have r3 : w3.cell? ⟨V, 3, none⟩ = some (.slice none 0 0) := kV2.out.cell 3
        have r4 : w3.cell? ⟨V, 4, none⟩ = some (.string ⟨#[]⟩) := kV2.out.cell 4
        have r5 : w3.cell? ⟨V, 5, none⟩ = some (.int .i64 0) := kV2.out.cell 5
        have r6 : w3.cell? ⟨V, 6, none⟩ = some (.slice none 0 0) := kV2.out.cell 6
        have r7 : w3.cell? ⟨V, 7, none⟩ = some (.slice none 0 0) := kV2.out.cell 7
        have r8 : w3.cell? ⟨V, 8, none⟩ = some (.bool true) := kV2.out.cell 8
        have rf := kV2.out.thaw
        clear o4 kV2 kX2' hb2
        go_upto_region 15 with fail
        generalize World.setCell _ _ _ = w4 at *
        clear d0 d1 d2 d3 d4 d5 d6 d7 d8 r0 r1 r2 r3 r4 r5 r6 r7 r8 rf hne
        obtain ⟨p0, p1⟩ := hp.out
        by_cases hiM : i < M
        · have dM : decide ((i : Int) < (M : Int)) = true := by simp; omega
          have hiq : i < q.length := by rw [← hM.out]; exact hiM
          obtain ⟨bq, oq, hbe, hbq, hcq⟩ : ∃ b' o', b = some ⟨b', o', none⟩ ∧ b' < w.heap.size ∧ ∀ i (h : i < q.length), w.cell? ⟨b', o' + i, none⟩ = some (.int .i64 q[i]) := by
            rcases hrq.out with h | h
            · rw [h] at hiq; simp at hiq
            · exact h
          subst hbe
          have cq0 : w4.cell? ⟨bq, oq + i, none⟩ = some (.int .i64 q[i]) := (hb4.out.cell (p := ⟨bq, oq + i, none⟩) hbq).trans (hcq i hiq)
          have hbq4 : bq < w4.heap.size := Nat.lt_of_lt_of_le hbq hb4.out.size
          generalize q[i] = m at *
          have hy1 : (i : Int) < (M : Int) := by omega
          have hxb : x2.size ≤ 1000000 := by have := hsz3.out; have := Nat.mul_le_mul_right 500 h1; omega
          have hcl : Hid (∀ W, Below w4.heap.size w4 W → W.cell? ⟨V, 0, none⟩ = some (.string x2) ∧ W.cell? ⟨V, 1, none⟩ = some (.int .i64 p) ∧ W.cell? ⟨V, 2, none⟩ = some (.slice none 0 0) ∧ W.cell? ⟨V, 3, none⟩ = some (.slice none 0 0) ∧ W.cell? ⟨V, 4, none⟩ = some (.string ⟨#[]⟩) ∧ W.cell? ⟨V, 5, none⟩ = some (.int .i64 0) ∧ W.cell? ⟨V, 6, none⟩ = some (.slice none 0 0) ∧ W.cell? ⟨V, 7, none⟩ = some (.slice none 0 0) ∧ W.cell? ⟨V, 8, none⟩ = some (.bool true) ∧ W.cell? ⟨bq, oq + i, none⟩ = some (.int .i64 m)) := fun W hW => by
            have k1 := kV4.out.below hW kV4.out.lt
            exact ⟨k1.cell 0, k1.cell 1, k1.cell 2, k1.cell 3, k1.cell 4, k1.cell 5, k1.cell 6, k1.cell 7, k1.cell 8, (hW.cell (p := ⟨bq, oq + i, none⟩) hbq4).trans cq0⟩
          have HT : Hid (∀ W, Below w4.heap.size w4 W → Calls Try.prog 19 #[.agg #[.string x2, .int .i64 p, .slice none 0 0, .slice none 0 0, .string ⟨#[]⟩, .int .i64 0, .slice none 0 0, .slice none 0 0, .bool true], .int .i64 0, .int .i64 m] W fun e w' => ∃ x' t p', e = .returned (.tuple #[.agg #[.string x', .int .i64 p', .slice none 0 0, .slice none 0 0, .string ⟨#[]⟩, .int .i64 0, .slice none 0 0, .slice none 0 0, .bool true], .string t]) ∧ Hid (TP x2 p m x' t p') ∧ Below w4.heap.size w4 w' ∧ Below W.heap.size W w' ∧ w'.cell? ⟨V, 0, none⟩ = some (.string x2) ∧ w'.cell? ⟨V, 1, none⟩ = some (.int .i64 p) ∧ w'.cell? ⟨V, 2, none⟩ = some (.slice none 0 0) ∧ w'.cell? ⟨V, 3, none⟩ = some (.slice none 0 0) ∧ w'.cell? ⟨V, 4, none⟩ = some (.string ⟨#[]⟩) ∧ w'.cell? ⟨V, 5, none⟩ = some (.int .i64 0) ∧ w'.cell? ⟨V, 6, none⟩ = some (.slice none 0 0) ∧ w'.cell? ⟨V, 7, none⟩ = some (.slice none 0 0) ∧ w'.cell? ⟨V, 8, none⟩ = some (.bool true) ∧ w'.cell? ⟨bq, oq + i, none⟩ = some (.int .i64 m)) := fun W hW => (take_line x2 p m W hxb p0 (by omega)).mono fun e w' ⟨x', t, p', q1, q2, q3⟩ => ⟨x', t, p', q1, q2, Rg.chain hW q3, q3, hcl.out _ (Rg.chain hW q3)⟩
          go_upto_region 16 with fail
          go_cut [12, 13] (fun s12 s13 wx => ∃ X x' t p', s12 = .pointer (some ⟨X, 0, none⟩) ∧ s13 = .string t ∧ Hid (TP x2 p m x' t p') ∧ X ≠ V ∧ Hid (Rg.Bk X [.string x', .int .i64 p', .slice none 0 0, .slice none 0 0, .string ⟨#[]⟩, .int .i64 0, .slice none 0 0, .slice none 0 0, .bool true] 30 wx) ∧ Hid (Rg.Bk V [.string x2, .int .i64 p, .slice none 0 0, .slice none 0 0, .string ⟨#[]⟩, .int .i64 0, .slice none 0 0, .slice none 0 0, .bool true] 30 wx) ∧ Below w4.heap.size w4 wx)
          case first =>
            obtain ⟨z0, z1, z2, z3, z4, z5, z6, z7, z8, z9⟩ := hcl.out w4 (Below.refl _ _)
            have hVl := kV4.out.lt
            have hVn : w4.heap.size ≠ V := by omega
            have hbn : w4.heap.size ≠ bq := by omega
            clear hcl hrq hcq cq0
            go_region_held3 (fun w' => w'.cell? ⟨V, 0, none⟩ = some (.string x2) ∧ w'.cell? ⟨V, 1, none⟩ = some (.int .i64 p) ∧ w'.cell? ⟨V, 2, none⟩ = some (.slice none 0 0) ∧ w'.cell? ⟨V, 3, none⟩ = some (.slice none 0 0) ∧ w'.cell? ⟨V, 4, none⟩ = some (.string ⟨#[]⟩) ∧ w'.cell? ⟨V, 5, none⟩ = some (.int .i64 0) ∧ w'.cell? ⟨V, 6, none⟩ = some (.slice none 0 0) ∧ w'.cell? ⟨V, 7, none⟩ = some (.slice none 0 0) ∧ w'.cell? ⟨V, 8, none⟩ = some (.bool true) ∧ w'.cell? ⟨bq, oq + i, none⟩ = some (.int .i64 m)) (go_keep) (first
              | (go_at_call 19; refine (HT.out _ ?_).mono ?_; (first | exact (Rg.al1 _ _).drew | exact Rg.al1 _ _); rintro e wT ⟨x', t, p', rfl, hTP, bT, bT', y0, y1, y2, y3, y4, y5, y6, y7, y8, y9⟩; have kX : Rg.Bk w4.heap.size [.string ⟨#[]⟩, .int .i64 0, .slice none 0 0, .slice none 0 0, .string ⟨#[]⟩, .int .i64 0, .slice none 0 0, .slice none 0 0, .bool false] 30 wT := (by first | exact Rg.Bk.below ((Rg.Bk.new rfl).drew) bT' (by simp) | exact Rg.Bk.below (Rg.Bk.new rfl) bT' (by simp)); have f0 := kX.cell 0; have f1 := kX.cell 1; have f2 := kX.cell 2; have f3 := kX.cell 3; have f4 := kX.cell 4; have f5 := kX.cell 5; have f6 := kX.cell 6; have f7 := kX.cell 7; have f8 := kX.cell 8; have ff := kX.thaw; simp only [List.getElem?_cons_zero, List.getElem?_cons_succ] at f0 f1 f2 f3 f4 f5 f6 f7 f8)
              | (go_at_call 19; refine (HT.out _ ?_).mono ?_; (first | exact Below.refl _ _ | exact (Below.refl _ _).drew); rintro e wT ⟨x', t, p', rfl, hTP, bT, bT', y0, y1, y2, y3, y4, y5, y6, y7, y8, y9⟩; have hTV : wT.heap.size ≠ V := (by have := bT.size; omega); have hTb : wT.heap.size ≠ bq := (by have := bT.size; omega)))
            all_goals go_wp2_with fail
            all_goals go_meet
            all_goals first
              | exact ⟨wT.heap.size, x', t, p', rfl, rfl, hTP, hTV, Rg.Bk.new rfl, (kV4.out.below bT kV4.out.lt).old _, Rg.chain bT (Rg.al1 _ _)⟩
              | (obtain ⟨kE, oE⟩ := ret9 kX rfl (.string x') (.int .i64 p') (.slice none 0 0) (.slice none 0 0) (.string ⟨#[]⟩) (.int .i64 0) (.slice none 0 0) (.slice none 0 0) (.bool true); exact ⟨w4.heap.size, x', t, p', rfl, rfl, hTP, hVn, kE, (kV4.out.below bT kV4.out.lt).same (oE.block V (Ne.symm hVn)), bT.trans (oE.bel (Nat.le_refl _))⟩)
          case rest =>
            obtain ⟨X, x', t, p', rfl, rfl, hTP, hXV, kX, kV5, b5⟩ := hcut
            obtain ⟨t1, t2, t3, _⟩ := hTP.out
            have hbw5 := Rg.chain hb4.out b5
            obtain ⟨w5, hw5⟩ : ∃ w5, w5 = wc := ⟨_, rfl⟩
            subst hw5
            obtain ⟨kV6, o6⟩ := ret9 kV5.out rfl (.string x') (.int .i64 p') (.slice none 0 0) (.slice none 0 0) (.string ⟨#[]⟩) (.int .i64 0) (.slice none 0 0) (.slice none 0 0) (.bool true)
            have hb6 := Rg.hid (hbw5.trans (o6.bel hVw))
            replace kV6 := Rg.hid kV6
            have r0 : w5.cell? ⟨V, 0, none⟩ = some (.string x2) := kV5.out.cell 0
            have r1 : w5.cell? ⟨V, 1, none⟩ = some (.int .i64 p) := kV5.out.cell 1
            have r2 : w5.cell? ⟨V, 2, none⟩ = some (.slice none 0 0) := kV5.out.cell 2
            have r3 : w5.cell? ⟨V, 3, none⟩ = some (.slice none 0 0) := kV5.out.cell 3
            have r4 : w5.cell? ⟨V, 4, none⟩ = some (.string ⟨#[]⟩) := kV5.out.cell 4
            have r5 : w5.cell? ⟨V, 5, none⟩ = some (.int .i64 0) := kV5.out.cell 5
            have r6 : w5.cell? ⟨V, 6, none⟩ = some (.slice none 0 0) := kV5.out.cell 6
            have r7 : w5.cell? ⟨V, 7, none⟩ = some (.slice none 0 0) := kV5.out.cell 7
            have r8 : w5.cell? ⟨V, 8, none⟩ = some (.bool true) := kV5.out.cell 8
            have rf := kV5.out.thaw
            have d0 : w5.cell? ⟨X, 0, none⟩ = some (.string x') := kX.out.cell 0
            have d1 : w5.cell? ⟨X, 1, none⟩ = some (.int .i64 p') := kX.out.cell 1
            have d2 : w5.cell? ⟨X, 2, none⟩ = some (.slice none 0 0) := kX.out.cell 2
            have d3 : w5.cell? ⟨X, 3, none⟩ = some (.slice none 0 0) := kX.out.cell 3
            have d4 : w5.cell? ⟨X, 4, none⟩ = some (.string ⟨#[]⟩) := kX.out.cell 4
            have d5 : w5.cell? ⟨X, 5, none⟩ = some (.int .i64 0) := kX.out.cell 5
            have d6 : w5.cell? ⟨X, 6, none⟩ = some (.slice none 0 0) := kX.out.cell 6
            have d7 : w5.cell? ⟨X, 7, none⟩ = some (.slice none 0 0) := kX.out.cell 7
            have d8 : w5.cell? ⟨X, 8, none⟩ = some (.bool true) := kX.out.cell 8
            have hts : t.size + x'.size = x2.size := by rw [← t1, ba_size]
            have hsz4 := hsz3.out
            have hmm2 : ¬ 9223372036854775807 < o.size + t.size := by have := Nat.mul_le_mul_right 500 h1; omega
            have hin3 : Hid (inn2 = (o ++ t) ++ x') := by show _ = _; rw [hinn2.out, ba_assoc, t1]
            have hsz5 : Hid ((o ++ t).size + x'.size ≤ (i + 1) * 500) := by show _ ≤ _; rw [ba_size]; omega
            have hp5 : Hid (0 ≤ p' ∧ p' ≤ ((i + 1 : Nat) : Int) * 40000) := ⟨t2, by have := Nat.mul_le_mul_right 500 h1; omega⟩
            clear o6 kV5 kX b5 hcl HT hrq hcq cq0 hTP t1 t2 t3 hts hsz4 hbw5 hinn2 hsz3 kV4 hb4
            go_upto_region 18 with fail
            generalize World.setCell _ _ _ = w6 at *
            clear d0 d1 d2 d3 d4 d5 d6 d7 d8 r0 r1 r2 r3 r4 r5 r6 r7 r8 rf
            have hb7 := hb6.out
            go_wp2
            go_roundw
            case rel => exact ⟨i + 1, inn2, o ++ t, x', p', by omega, by go_num, rfl, rfl, hin3, hsz5, hp5, kV6, hb7⟩
            case measure => simp [intOf]; omega
        · have dM : decide ((i : Int) < (M : Int)) = false := by simp; omega
          have dM' : decide (i < M) = false := by simp; omega
          have hp2 : Hid (0 ≤ p ∧ p ≤ ((i + 1 : Nat) : Int) * 40000) := ⟨p0, by omega⟩
          have hb5 := hb4.out
          go_wp2
          go_roundw
          case rel => exact ⟨i + 1, inn2, o, x2, p, by omega, by go_num, rfl, rfl, hinn2, hsz3, hp2, kV4, hb5⟩
          case measure => simp [intOf]; omega
    · obtain rfl : i = N := by omega
      obtain ⟨p0, p1⟩ := hp.out
      have hsz2 := hsz.out
      have HT : Hid (∀ W, Calls Try.prog 19 #[.agg #[.string x, .int .i64 p, .slice none 0 0, .slice none 0 0, .string ⟨#[]⟩, .int .i64 0, .slice none 0 0, .slice none 0 0, .bool true], .int .i64 0, .int .i64 1073741824] W fun e w' => ∃ x' t p', e = .returned (.tuple #[.agg #[.string x', .int .i64 p', .slice none 0 0, .slice none 0 0, .string ⟨#[]⟩, .int .i64 0, .slice none 0 0, .slice none 0 0, .bool true], .string t]) ∧ Hid (t = x) ∧ Below W.heap.size W w') := fun W => (take_line x p 1073741824 W (by have := Nat.mul_le_mul_right 500 h1; omega) p0 (by omega)).mono fun e w' ⟨x', t, p', q1, q2, q3⟩ => ⟨x', t, p', q1, q2.out.2.2.2 (by have := Nat.mul_le_mul_right 500 h1; omega) (by omega), q3⟩
      have z0 : wr.cell? ⟨V, 0, none⟩ = some (.string x) := kV.out.cell 0
      have z1 : wr.cell? ⟨V, 1, none⟩ = some (.int .i64 p) := kV.out.cell 1
      have z2 : wr.cell? ⟨V, 2, none⟩ = some (.slice none 0 0) := kV.out.cell 2
      have z3 : wr.cell? ⟨V, 3, none⟩ = some (.slice none 0 0) := kV.out.cell 3
      have z4 : wr.cell? ⟨V, 4, none⟩ = some (.string ⟨#[]⟩) := kV.out.cell 4
      have z5 : wr.cell? ⟨V, 5, none⟩ = some (.int .i64 0) := kV.out.cell 5
      have z6 : wr.cell? ⟨V, 6, none⟩ = some (.slice none 0 0) := kV.out.cell 6
      have z7 : wr.cell? ⟨V, 7, none⟩ = some (.slice none 0 0) := kV.out.cell 7
      have z8 : wr.cell? ⟨V, 8, none⟩ = some (.bool true) := kV.out.cell 8
      have hmm : ¬ 9223372036854775807 < o.size + x.size := by have := Nat.mul_le_mul_right 500 h1; omega
      have hbw' := Rg.hid hbw
      clear hsz2 hbw hrl hrq
      go_upto_region 21 with (go_at_call 19; refine (HT.out _).mono ?_; rintro e w2 ⟨x', t, p', rfl, ht, b2⟩)
      have hb2 := Rg.chain (Rg.chain hbw'.out b2) (Rg.al1 w2 (.cells #[.string x', .int .i64 p', .slice none 0 0, .slice none 0 0, .string ⟨#[]⟩, .int .i64 0, .slice none 0 0, .slice none 0 0, .bool true] 30))
      clear z0 z1 z2 z3 z4 z5 z6 z7 z8 b2 hbw' HT kV
      generalize World.alloc _ _ = w3 at *
      obtain rfl := ht.out
      have de : ((o ++ t).toList == inn.toList) = true := ba_eq hio.out.symm
      go_wp2_with (go_at_call 10; refine (HA.out _ hb2).mono ?_)
      rintro e w4 ⟨rfl, b4⟩
      go_wp2
      go_ret
      exact ⟨rfl, b4⟩
end Go.Proofs.Ytalleocmnnnchaa
