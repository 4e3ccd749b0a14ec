/-
  Walks of layer 15: a text of the window as a packet.
-/
import Derived.Test.YtfiffbohhhehkaaGreatBuEndA
import Derived.Test.YtfiffbohhhehkaaGreatBuMath
namespace Go.Proofs.YtfiffbohhhehkaaGreat
open Go.RowKit
namespace Gp
theorem hv_stop {k z n : Nat} (h : ¬ (32 < z ∧ n < z / 2)) : hv k z n = z := by
  cases k with
  | zero => rfl
  | succ k => unfold hv; rw [if_neg h]
theorem hv_go {k z n : Nat} (h : 32 < z ∧ n < z / 2) : hv (k + 1) z n = hv k (z / 2) n := by
  conv => lhs; unfold hv
  rw [if_pos h]
theorem half {z k : Nat} (h : z ≤ 32 * 2 ^ k) (h2 : 32 < z) : ∃ j, k = j + 1 ∧ z / 2 ≤ 32 * 2 ^ j := by
  cases k with
  | zero => simp at h; omega
  | succ j => exact ⟨j, rfl, by rw [Nat.pow_succ] at h; omega⟩
theorem quo2 (z : Nat) (h : z ≤ 1000000) : ((z : Int).tdiv 2) = ((z / 2 : Nat) : Int) := by rw [Int.tdiv_eq_ediv_of_nonneg (by omega)]; omega
end Gp
set_option maxHeartbeats 1000000 in
set_option maxRecDepth 100000 in
theorem shortSize_g (eb : Nat) (lt z n : Int) (w : World) (c0 : w.cell? ⟨eb, 0, none⟩ = some (.int .i64 lt)) (c4 : w.cell? ⟨eb, 4, none⟩ = some (.int .i64 z)) (h : (lt != 71) = true) :
    Calls Tryz.prog 113 #[.pointer (some ⟨eb, 0, none⟩), .int .i64 n] w fun e w' => e = .returned (.int .i64 z) ∧ w' = w := by
  go_enter Tryz.func113, Tryz.ntmps113
  go_wp2
  go_ret
  exact ⟨rfl, rfl⟩
set_option maxHeartbeats 1000000 in
set_option maxRecDepth 100000 in
theorem shortSize_G (eb z n : Nat) (w : World) (c0 : w.cell? ⟨eb, 0, none⟩ = some (.int .i64 71)) (c4 : w.cell? ⟨eb, 4, none⟩ = some (.int .i64 (z : Int))) (hz : z ≤ 4096) :
    Calls Tryz.prog 113 #[.pointer (some ⟨eb, 0, none⟩), .int .i64 (n : Int)] w fun e w' => e = .returned (.int .i64 (Gp.hv 7 z n : Nat)) ∧ w' = w := by
  have hk0 : z ≤ 32 * 2 ^ 7 := hz
  obtain ⟨R, hR⟩ : ∃ R, Gp.hv 7 z n = R := ⟨_, rfl⟩
  rw [hR]
  replace hR := Rg.hid hR
  go_enter Tryz.func113, Tryz.ntmps113
  go_wp2
  go_loopw [5] (fun v wr => ∃ k y : Nat, v = .int .i64 (y : Int) ∧ Hid (y ≤ 32 * 2 ^ k) ∧ y ≤ 4096 ∧ Hid (Gp.hv k y n = R) ∧ wr = w) (fun v _ => (intOf v).toNat)
  case atStart => exact ⟨7, z, rfl, hk0, hz, hR, rfl⟩
  case round =>
    obtain ⟨k, y, rfl, hy, hy2, hv, rfl⟩ := hrel
    have hq := Gp.quo2 y (by omega)
    by_cases h1 : 32 < y
    · have d1 : decide ((32 : Int) < (y : Int)) = true := by simp; omega
      obtain ⟨y2, hy3⟩ : ∃ y2, y2 = y / 2 := ⟨_, rfl⟩
      rw [← hy3] at hq
      have hle : y2 ≤ 4096 ∧ y2 < y := by omega
      by_cases h2 : n < y2
      · have d2 : decide ((n : Int) < (y2 : Int)) = true := by simp; omega
        obtain ⟨j, rfl, hj⟩ := Gp.half hy.out h1
        have hv2 : Hid (Gp.hv j y2 n = R) := by
          show _ = _
          rw [hy3, ← Gp.hv_go ⟨h1, by omega⟩]; exact hv.out
        have hj2 : Hid (y2 ≤ 32 * 2 ^ j) := by show _ ≤ _; rw [hy3]; exact hj
        clear hv hy hj
        go_wp2
        go_roundw
        case rel => exact ⟨j, y2, by go_num, hj2, hle.1, hv2, trivial⟩
        case measure => simp [intOf]; omega
      · have d2 : decide ((n : Int) < (y2 : Int)) = false := by simp; omega
        have hR2 : y = R := by rw [← hv.out, Gp.hv_stop (by omega)]
        subst hR2
        clear hv hR hy
        go_wp2
        go_ret
        exact ⟨rfl, rfl⟩
    · have d1 : decide ((32 : Int) < (y : Int)) = false := by simp; omega
      have hR2 : y = R := by rw [← hv.out, Gp.hv_stop (by omega)]
      subst hR2
      clear hv hR hy
      go_wp2
      go_ret
      exact ⟨rfl, rfl⟩
set_option maxHeartbeats 2000000 in
set_option maxRecDepth 100000 in
theorem sayText_long (eb : Nat) (n l z : Int) (D : ByteArray) (w : World) (Post : Ending → World → Prop) (hlt : eb < w.heap.size) (c4 : w.cell? ⟨eb, 4, none⟩ = some (.int .i64 z)) (hd : decide ((D.size : Int) < z) = false)
    (HL : Hid (∀ W, Below w.heap.size w W → Calls Tryz.prog 112 #[.pointer (some ⟨eb, 0, none⟩)] W fun e w' => e = .returned (.int .i64 l) ∧ w' = W))
    (HS : Hid (∀ W, Below w.heap.size w W → Calls Tryz.prog 76 #[.pointer (some ⟨eb, 0, none⟩), .agg #[.int .i64 2, .int .i64 n, .int .i64 l, .int .i64 z, .string D]] W fun e w' => e = .returned (.tuple #[]) ∧ Post (.returned (.tuple #[])) w')) :
    Calls Tryz.prog 83 #[.pointer (some ⟨eb, 0, none⟩), .int .i64 n, .string D] w Post := by
  have hb1 := Rg.hid (Below.drew (Below.refl w.heap.size w))
  have hb2 := Rg.hid ((Rg.al1 w (.cells #[.int .i64 0, .int .i64 0, .int .i64 0, .int .i64 0, .string ⟨#[]⟩] 80)).drew)
  have hb3 := Rg.hid ((Rg.al1 w (.cells #[.int .i64 2, .int .i64 n, .int .i64 l, .int .i64 z, .string D] 80)).drew)
  go_enter Tryz.func83, Tryz.ntmps83
  go_wp2
  go_region_with (go_at_call 112; (first | refine (HL.out _ hb1.out).mono ?_ | refine (HL.out _ hb2.out).mono ?_); rintro e w2 ⟨rfl, hw⟩; obtain rfl := hw.symm)
  all_goals (go_wp2_with (go_at_call 76; refine (HS.out _ hb3.out).mono ?_; rintro e w2 ⟨rfl, hp⟩); go_end0; exact hp)
set_option maxHeartbeats 2000000 in
set_option maxRecDepth 100000 in
theorem sayText_short (eb : Nat) (n l z zz : Int) (D : ByteArray) (w : World) (Post : Ending → World → Prop) (hlt : eb < w.heap.size) (c4 : w.cell? ⟨eb, 4, none⟩ = some (.int .i64 z)) (hd : decide ((D.size : Int) < z) = true)
    (HL : Hid (∀ W, Below w.heap.size w W → Calls Tryz.prog 112 #[.pointer (some ⟨eb, 0, none⟩)] W fun e w' => e = .returned (.int .i64 l) ∧ w' = W))
    (HZ : Hid (∀ W, Below w.heap.size w W → Calls Tryz.prog 113 #[.pointer (some ⟨eb, 0, none⟩), .int .i64 D.size] W fun e w' => e = .returned (.int .i64 zz) ∧ w' = W))
    (HS : Hid (∀ W, Below w.heap.size w W → Calls Tryz.prog 76 #[.pointer (some ⟨eb, 0, none⟩), .agg #[.int .i64 3, .int .i64 n, .int .i64 l, .int .i64 zz, .string D]] W fun e w' => e = .returned (.tuple #[]) ∧ Post (.returned (.tuple #[])) w')) :
    Calls Tryz.prog 83 #[.pointer (some ⟨eb, 0, none⟩), .int .i64 n, .string D] w Post := by
  have hb1 := Rg.hid (Below.drew (Below.refl w.heap.size w))
  have hb2 := Rg.hid ((Rg.al1 w (.cells #[.int .i64 0, .int .i64 0, .int .i64 0, .int .i64 0, .string ⟨#[]⟩] 80)).drew)
  have hb3 := Rg.hid ((Rg.al1 w (.cells #[.int .i64 2, .int .i64 n, .int .i64 l, .int .i64 z, .string D] 80)).drew)
  have hb4 := Rg.hid ((Rg.al1 w (.cells #[.int .i64 3, .int .i64 n, .int .i64 l, .int .i64 zz, .string D] 80)).drew)
  go_enter Tryz.func83, Tryz.ntmps83
  go_wp2
  go_region_with (go_at_call 112; (first | refine (HL.out _ hb1.out).mono ?_ | refine (HL.out _ hb2.out).mono ?_); rintro e w2 ⟨rfl, hw⟩; obtain rfl := hw.symm)
  all_goals (go_wp2_with (first | (go_at_call 113; refine (HZ.out _ hb3.out).mono ?_; rintro e w2 ⟨rfl, hw⟩; obtain rfl := hw.symm) | (go_at_call 76; refine (HS.out _ hb4.out).mono ?_; rintro e w2 ⟨rfl, hp⟩)); go_end0; exact hp)
theorem packet_short {d : Gp.Dr} {n : Int} {s : ByteArray} (h : (s.size : Int) < d.size) : Gp.packet d n s = Gf.text ⟨3, n, Gp.last d, if d.letter = 71 then (Gp.hv 7 d.size.toNat s.size : Nat) else d.size, s.data.toList⟩ := if_pos h
theorem packet_long {d : Gp.Dr} {n : Int} {s : ByteArray} (h : ¬ (s.size : Int) < d.size) : Gp.packet d n s = Gf.text ⟨2, n, Gp.last d, d.size, s.data.toList⟩ := if_neg h
theorem shortSize_any {Kp : Nat → Prop} {base eb : Nat} {W : World} {d : Gp.Dr} {p : Pl} {q : Bu} {S C : List UInt8} (h : EAt Kp base W eb d p q S C) (n : Nat) (hz : Gf.code d.size ≠ 0) :
    Calls Tryz.prog 113 #[.pointer (some ⟨eb, 0, none⟩), .int .i64 (n : Int)] W fun e w' => e = .returned (.int .i64 (if d.letter = 71 then ((Gp.hv 7 d.size.toNat n : Nat) : Int) else d.size)) ∧ w' = W := by
  have hr := Gp.size_pos hz
  by_cases hl : d.letter = 71
  · rw [if_pos hl]
    have c0 := h.bk.cell 0
    have c4 := h.bk.cell 4
    obtain ⟨z, hz2⟩ : ∃ z : Nat, d.size = (z : Int) := ⟨d.size.toNat, by omega⟩
    have c0' : W.cell? ⟨eb, 0, none⟩ = some (.int .i64 71) := by rw [c0]; show some (Value.int .i64 d.letter) = _; rw [hl]
    have c4' : W.cell? ⟨eb, 4, none⟩ = some (.int .i64 (z : Int)) := by rw [c4]; show some (Value.int .i64 d.size) = _; rw [hz2]
    have e : d.size.toNat = z := by omega
    rw [e]
    exact shortSize_G eb z n W c0' c4' (by omega)
  · rw [if_neg hl]
    exact shortSize_g eb d.letter d.size n W (h.bk.cell 0) (h.bk.cell 4) (by simp [hl])
theorem sayText_anyP {Kp : Nat → Prop} {base eb : Nat} {W : World} {d : Gp.Dr} {p : Pl} {q : Bu} {S C : List UInt8} (h : EAt Kp base W eb d p q S C) (n : Int) (s : ByteArray) (n0 : 0 ≤ n) (n7 : n ≤ 7) (hz : Gf.code d.size ≠ 0) (h0 : 0 ≤ d.wants) (h7 : d.wants ≤ 7) (hs : (s.size : Int) ≤ d.size) (hlen : S.length + 4200 ≤ 140737488355328) :
    Calls Tryz.prog 83 #[.pointer (some ⟨eb, 0, none⟩), .int .i64 n, .string s] W fun e w' => EPostP Kp base eb W d p (S ++ Gp.packet d n s) C e w' := by
  have hr := Gp.size_pos hz
  have hok := Gp.pf_ok (letter := d.letter) hz (last_rng (d := d)) ⟨n0, n7⟩ hs
  have htx := Gp.packet_text d n s
  have hpl := Gp.pf_len (letter := d.letter) hz (last_rng (d := d)) ⟨n0, n7⟩ hs
  have HL : Hid (∀ W1, Below W.heap.size W W1 → Calls Tryz.prog 112 #[.pointer (some ⟨eb, 0, none⟩)] W1 fun e w' => e = .returned (.int .i64 (Gp.last d)) ∧ w' = W1) := fun W1 b => last_any (h.below b) h0 h7
  by_cases hd : (s.size : Int) < d.size
  · have e3 : Gp.pf d.letter d.size (Gp.last d) n s = ⟨3, n, Gp.last d, if d.letter = 71 then (Gp.hv 7 d.size.toNat s.size : Nat) else d.size, s.data.toList⟩ := by unfold Gp.pf; rw [if_pos hd]
    rw [htx]
    rw [e3] at hok hpl ⊢
    refine sayText_short eb n (Gp.last d) d.size _ s W _ h.bk.lt (h.bk.cell 4) (by simpa using hd) HL (fun W1 b => shortSize_any (h.below b) s.size hz) fun W1 b => ?_
    exact (say_anyP (h.below b) 3 n (Gp.last d) _ s hok (by omega)).mono fun e w' hp => ⟨hp.1, rfl, hp.2.1, Fr.step b h.lt hp.2.2⟩
  · have e3 : Gp.pf d.letter d.size (Gp.last d) n s = ⟨2, n, Gp.last d, d.size, s.data.toList⟩ := by unfold Gp.pf; rw [if_neg hd]
    rw [htx]
    rw [e3] at hok hpl ⊢
    refine sayText_long eb n (Gp.last d) d.size s W _ h.bk.lt (h.bk.cell 4) (by simpa using hd) HL fun W1 b => ?_
    exact (say_anyP (h.below b) 2 n (Gp.last d) _ s hok (by omega)).mono fun e w' hp => ⟨hp.1, rfl, hp.2.1, Fr.step b h.lt hp.2.2⟩
theorem sayText_any {Kp : Nat → Prop} {base eb : Nat} {W : World} {d : Gp.Dr} {p : Pl} {q : Bu} {S C : List UInt8} (h : EAt Kp base W eb d p q S C) (n : Int) (s : ByteArray) (n0 : 0 ≤ n) (n7 : n ≤ 7) (hz : Gf.code d.size ≠ 0) (h0 : 0 ≤ d.wants) (h7 : d.wants ≤ 7) (hs : (s.size : Int) ≤ d.size) (hlen : S.length + 4200 ≤ 140737488355328) :
    Calls Tryz.prog 83 #[.pointer (some ⟨eb, 0, none⟩), .int .i64 n, .string s] W fun e w' => EPost Kp base eb W d (S ++ Gp.packet d n s) C e w' := (sayText_anyP h n s n0 n7 hz h0 h7 hs hlen).mono fun _ _ hp => hp.es
end Go.Proofs.YtfiffbohhhehkaaGreat
