/-
  Walks of layer 16: agree, takeSync, takeNak. Walks of layers 15 and 16: append of places, and of pieces, to a row of one's own.
-/
import Derived.Test.YtlclfkogbfigbaaCuAU
import Derived.Test.YtlclfkogbfigbaaCuAS
namespace Go.Proofs.Ytlclfkogbfigbaa
open Go.RowKit
theorem Ip.or_get (a c : Nat) (ha : a < 65536) (hc : c < 256) : bits .or .i64 (wrap64 ((a : Int) * 256)) (c : Int) = ((a * 256 + c : Nat) : Int) := by
  have e : wrap64 ((a : Int) * 256) = (a : Int) * 256 := by unfold wrap64; omega
  have h := Oct.or_byte a c (by omega) hc
  rw [Oct.wrap64_nat c (by omega)] at h
  rw [e, h]
/-- the number in two bytes, as far as it is read -/
def Ip.acc2 (x y : UInt8) : Nat → Nat
  | 0 => 0
  | 1 => x.toNat
  | _ => x.toNat * 256 + y.toNat
set_option maxHeartbeats 1000000 in
set_option maxRecDepth 100000 in
theorem iget2_any (s : ByteArray) (hs : s.size = 3) (x y : UInt8) (hx : s[0]'(by omega) = x) (hy : s[1]'(by omega) = y) (W : World) :
    Calls Try.prog 59 #[.string s, .int .i64 0, .int .i64 2] W fun e w' => e = .returned (.tuple #[.int .i64 ((x.toNat * 256 + y.toNat : Nat) : Int), .int .i64 0]) ∧ w' = W := by
  have HA : Hid (∀ W, Calls Try.prog 34 #[.int .i64 2] W fun e w' => e = .returned (.bool true) ∧ w' = W) := fun W => isSize2 W
  have hsz : (s.size : Int) = 3 := by omega
  have lx := x.toNat_lt
  go_enter Try.func59, Try.ntmps59
  go_wp2_with (go_at_call 34; refine (HA.out _).mono ?_; rintro e w' ⟨rfl, hw⟩; obtain rfl := hw.symm)
  go_loop [8, 24] (fun n i => ∃ k : Nat, k ≤ 2 ∧ i = .int .i64 k ∧ n = .int .i64 ((Ip.acc2 x y k : Nat) : Int)) (fun _ i => 2 - (intOf i).toNat)
  case atStart => exact ⟨0, by omega, rfl, rfl⟩
  case round =>
    obtain ⟨k, hk, rfl, rfl⟩ := hrel
    have hcase : k = 0 ∨ k = 1 ∨ k = 2 := by omega
    rcases hcase with rfl | rfl | rfl
    · have i1 : (0 : Int) < (s.size : Int) := by omega
      go_wp2
      refine ⟨⟨1, by omega, rfl, ?_⟩, by simp [intOf]⟩
      rw [Ip.or_get _ _ (by show 0 < 65536; omega) lx]
      show Value.int .i64 ((0 * 256 + x.toNat : Nat) : Int) = .int .i64 ((x.toNat : Nat) : Int)
      rw [Nat.zero_mul, Nat.zero_add]
    · have i1 : (1 : Int) < (s.size : Int) := by omega
      go_wp2
      refine ⟨⟨2, by omega, rfl, ?_⟩, by simp [intOf]⟩
      rw [Oct.wrap64_nat y.toNat (by have := y.toNat_lt; omega), Ip.or_get _ _ (by show x.toNat < 65536; omega) y.toNat_lt]
      rfl
    · go_wp2
      go_ret2
      exact ⟨rfl, rfl⟩
set_option maxHeartbeats 1000000 in
set_option maxRecDepth 100000 in
theorem iget1_any (s : ByteArray) (hs : s.size = 3) (x : UInt8) (hx : s[2]'(by omega) = x) (W : World) :
    Calls Try.prog 59 #[.string s, .int .i64 2, .int .i64 1] W fun e w' => e = .returned (.tuple #[.int .i64 ((x.toNat : Nat) : Int), .int .i64 0]) ∧ w' = W := by
  have HA : Hid (∀ W, Calls Try.prog 34 #[.int .i64 1] W fun e w' => e = .returned (.bool true) ∧ w' = W) := fun W => isSize1 W
  have hsz : (s.size : Int) = 3 := by omega
  have lx := x.toNat_lt
  go_enter Try.func59, Try.ntmps59
  go_wp2_with (go_at_call 34; refine (HA.out _).mono ?_; rintro e w' ⟨rfl, hw⟩; obtain rfl := hw.symm)
  go_loop [8, 24] (fun n i => ∃ k : Nat, k ≤ 1 ∧ i = .int .i64 k ∧ n = .int .i64 ((Ip.acc2 x x k : Nat) : Int)) (fun _ i => 1 - (intOf i).toNat)
  case atStart => exact ⟨0, by omega, rfl, rfl⟩
  case round =>
    obtain ⟨k, hk, rfl, rfl⟩ := hrel
    have hcase : k = 0 ∨ k = 1 := by omega
    rcases hcase with rfl | rfl
    · have i1 : (2 : Int) < (s.size : Int) := by omega
      go_wp2
      refine ⟨⟨1, by omega, rfl, ?_⟩, by simp [intOf]⟩
      rw [Ip.or_get _ _ (by show 0 < 65536; omega) lx]
      show Value.int .i64 ((0 * 256 + x.toNat : Nat) : Int) = .int .i64 ((x.toNat : Nat) : Int)
      rw [Nat.zero_mul, Nat.zero_add]
    · go_wp2
      go_ret2
      exact ⟨rfl, rfl⟩
set_option maxHeartbeats 1000000 in
set_option maxRecDepth 100000 in
theorem iagree_no (eb : Nat) (z r : Int) (b1 b2 : Bool) (W : World) (h1 : (z == 0) = b1) (h2 : (r == 0) = b2) (h : b1 = true ∨ b2 = true) :
    Calls Try.prog 60 #[.pointer (some ⟨eb, 0, none⟩), .int .i64 z, .int .i64 r] W fun e w' => e = .returned (.tuple #[]) ∧ w' = W := by
  cases b1 with
  | true =>
    clear h
    go_enter Try.func60, Try.ntmps60
    go_wp2
    exact bodyPost_ret (v := .tuple #[]) (by simp [results, Try.results60, go_sem]) rfl ⟨rfl, rfl⟩
  | false =>
    obtain rfl : b2 = true := by rcases h with h | h; cases h; exact h
    clear h
    go_enter Try.func60, Try.ntmps60
    go_wp2
    exact bodyPost_ret (v := .tuple #[]) (by simp [results, Try.results60, go_sem]) rfl ⟨rfl, rfl⟩
set_option maxHeartbeats 2000000 in
set_option maxRecDepth 100000 in
theorem iagree_go {Kp : Nat → Prop} {W : World} {eb : Nat} {d : Gp.Dr} {p : Pl} {q : Qv} {S : List UInt8} {C : List Gp.Pc} (h : IAt Kp W eb d p q S C) (z r Z R : Int) (d1 : (z == 0) = false) (d2 : (r == 0) = false) (m1 : min d.size z = Z) (m2 : min d.room r = R) (hR : 1 ≤ R ∧ R ≤ 16) :
    Calls Try.prog 60 #[.pointer (some ⟨eb, 0, none⟩), .int .i64 z, .int .i64 r] W fun e w' => IPost Kp eb W { d with size := Z, room := R, phase := 2, step := -1, tries := 0, win := ⟨32, R, 1, []⟩ } S C e w' := by
  have c4 : W.cell? ⟨eb, 4, none⟩ = some (.int .i64 d.size) := h.bk.cell 4
  have c5 : W.cell? ⟨eb, 5, none⟩ = some (.int .i64 d.room) := h.bk.cell 5
  have fz := h.bk.thaw
  have eB : Wn.begin_ 32 R 1 = (⟨32, R, 1, []⟩, 0) := if_pos (by omega)
  have h5 := Rg.hid ((h.upd 4 (.int .i64 Z) { d with size := Z } rfl rfl rfl rfl rfl).upd 5 (.int .i64 R) { d with size := Z, room := R } rfl rfl rfl rfl rfl).drew
  have f5 : Hid (Below eb W ((W.setCell ⟨eb, 4, none⟩ (.int .i64 Z)).setCell ⟨eb, 5, none⟩ (.int .i64 R)).drew) := ((below_set eb _ _).trans (below_set eb _ _)).drew
  have HB : Hid (∀ W1, IAt Kp W1 eb { d with size := Z, room := R, phase := 2, step := -1, tries := 0 } p q S C → Calls Try.prog 75 #[.int .i64 32, .int .i64 R, .int .i64 1] W1 fun e w' => e = .returned (.tuple #[.agg #[.int .i64 32, .int .i64 R, .int .i64 1, .slice none 0 0], .int .i64 0]) ∧ Hid (IAt Kp w' eb { d with size := Z, room := R, phase := 2, step := -1, tries := 0 } p q S C) ∧ Hid (Below eb W1 w')) := fun W1 hh => by
    have := begin_any 32 R 1 W1
    unfold BPost at this
    rw [eB] at this
    exact this.mono fun e w' ⟨x1, x2⟩ => ⟨x1, hh.below x2, x2.mono (Nat.le_of_lt hh.bk.lt)⟩
  clear h eB hR
  generalize d.size = ds at *
  generalize d.room = dr at *
  go_enter Try.func60, Try.ntmps60
  go_upto_region 1 with fail
  go_region
  generalize World.drew _ = w1 at *
  clear c4 c5 fz m1 m2
  have c1 : w1.cell? ⟨eb, 1, none⟩ = some (.int .i64 d.phase) := h5.out.bk.cell 1
  have c3 : w1.cell? ⟨eb, 3, none⟩ = some (.int .i64 d.step) := h5.out.bk.cell 3
  have c16 : w1.cell? ⟨eb, 16, none⟩ = some (.int .i64 d.tries) := h5.out.bk.cell 16
  have fz := h5.out.bk.thaw
  have h8 := Rg.hid (((h5.out.upd 1 (.int .i64 2) { d with size := Z, room := R, phase := 2 } rfl rfl rfl rfl rfl).upd 3 (.int .i64 (-1)) { d with size := Z, room := R, phase := 2, step := -1 } rfl rfl rfl rfl rfl).upd 16 (.int .i64 0) { d with size := Z, room := R, phase := 2, step := -1, tries := 0 } rfl rfl rfl rfl rfl)
  have f8 := Rg.hid (((f5.out.trans (below_set eb 1 (.int .i64 2))).trans (below_set eb 3 (.int .i64 (-1)))).trans (below_set eb 16 (.int .i64 0)))
  clear h5 f5
  go_upto_region 3 with fail
  generalize World.setCell _ _ _ = w2 at *
  clear c1 c3 c16 fz
  have c5 : w2.cell? ⟨eb, 5, none⟩ = some (.int .i64 R) := h8.out.bk.cell 5
  go_wp2_with (go_at_call 75; refine (HB.out _ h8.out).mono ?_; rintro e w3 ⟨rfl, h2, f2⟩; have e6 : w3.cell? ⟨eb, 6, none⟩ = some (.int .i64 d.win.md) := h2.out.bk.cell 6; have e7 : w3.cell? ⟨eb, 7, none⟩ = some (.int .i64 d.win.sz) := h2.out.bk.cell 7; have e8 : w3.cell? ⟨eb, 8, none⟩ = some (.int .i64 d.win.bs) := h2.out.bk.cell 8; have e9 : w3.cell? ⟨eb, 9, none⟩ = some (.slice p.w d.win.l.length p.wc) := h2.out.bk.cell 9; have fz := h2.out.bk.thaw)
  go_end0
  have hw := h2.out.setW ⟨32, R, 1, []⟩ none 0 TRow.nil (Nat.le_refl _)
  exact ⟨rfl, ⟨_, _, hw.1⟩, (f8.out.trans f2.out).trans hw.2⟩
set_option maxHeartbeats 1000000 in
set_option maxRecDepth 100000 in
theorem itakeSync_len (eb : Nat) (s : ByteArray) (W : World) (h : ((s.size : Int) != 3) = true) :
    Calls Try.prog 41 #[.pointer (some ⟨eb, 0, none⟩), .string s] W fun e w' => e = .returned (.tuple #[]) ∧ w' = W := by
  go_enter Try.func41, Try.ntmps41
  go_wp2
  exact bodyPost_ret (v := .tuple #[]) (by simp [results, Try.results41, go_sem]) rfl ⟨rfl, rfl⟩
set_option maxHeartbeats 1000000 in
set_option maxRecDepth 100000 in
theorem itakeSync_other (eb : Nat) (s : ByteArray) (ph : Int) (W : World) (h : ((s.size : Int) != 3) = false) (c1 : W.cell? ⟨eb, 1, none⟩ = some (.int .i64 ph)) (p1 : (ph == 1) = false) (p2 : (ph == 2) = false) :
    Calls Try.prog 41 #[.pointer (some ⟨eb, 0, none⟩), .string s] W fun e w' => e = .returned (.tuple #[]) ∧ w' = W := by
  go_enter Try.func41, Try.ntmps41
  go_wp2
  go_end0
  exact ⟨rfl, rfl⟩
set_option maxHeartbeats 1000000 in
set_option maxRecDepth 100000 in
theorem itakeSync_opening (eb : Nat) (s : ByteArray) (z r : Int) (W : World) (Post : Ending → World → Prop) (h : ((s.size : Int) != 3) = false) (c1 : W.cell? ⟨eb, 1, none⟩ = some (.int .i64 1))
    (H2 : Hid (∀ W, Calls Try.prog 59 #[.string s, .int .i64 0, .int .i64 2] W fun e w' => e = .returned (.tuple #[.int .i64 z, .int .i64 0]) ∧ w' = W))
    (H1 : Hid (∀ W, Calls Try.prog 59 #[.string s, .int .i64 2, .int .i64 1] W fun e w' => e = .returned (.tuple #[.int .i64 r, .int .i64 0]) ∧ w' = W))
    (HA : Hid (Calls Try.prog 60 #[.pointer (some ⟨eb, 0, none⟩), .int .i64 z, .int .i64 r] W fun e w' => e = .returned (.tuple #[]) ∧ Post (.returned (.tuple #[])) w')) :
    Calls Try.prog 41 #[.pointer (some ⟨eb, 0, none⟩), .string s] W Post := by
  go_enter Try.func41, Try.ntmps41
  go_wp2_with (first | (go_at_call 59; (first | with_reducible refine (H2.out _).mono ?_ | with_reducible refine (H1.out _).mono ?_); rintro e w1 ⟨rfl, hw⟩; obtain rfl := hw.symm) | (go_at_call 60; refine HA.out.mono ?_; rintro e w2 ⟨rfl, hp⟩))
  go_end0
  exact hp
set_option maxHeartbeats 1000000 in
set_option maxRecDepth 100000 in
theorem itakeSync_quiet (eb : Nat) (s : ByteArray) (W : World) (h : ((s.size : Int) != 3) = false) (c1 : W.cell? ⟨eb, 1, none⟩ = some (.int .i64 2))
    (HR : Hid (Calls Try.prog 61 #[.pointer (some ⟨eb, 0, none⟩)] W fun e w' => e = .returned (.bool false) ∧ w' = W)) :
    Calls Try.prog 41 #[.pointer (some ⟨eb, 0, none⟩), .string s] W fun e w' => e = .returned (.tuple #[]) ∧ w' = W := by
  go_enter Try.func41, Try.ntmps41
  go_wp2_with (go_at_call 61; refine HR.out.mono ?_; rintro e w1 ⟨rfl, hw⟩; obtain rfl := hw.symm)
  go_end0
  exact ⟨rfl, rfl⟩
set_option maxHeartbeats 1000000 in
set_option maxRecDepth 100000 in
theorem itakeSync_again (eb : Nat) (s : ByteArray) (W : World) (Q : World → Prop) (Post : Ending → World → Prop) (h : ((s.size : Int) != 3) = false) (c1 : W.cell? ⟨eb, 1, none⟩ = some (.int .i64 2))
    (HR : Hid (Calls Try.prog 61 #[.pointer (some ⟨eb, 0, none⟩)] W fun e w' => e = .returned (.bool true) ∧ Hid (Q w')))
    (HS : Hid (∀ W1, Q W1 → Calls Try.prog 10 #[.pointer (some ⟨eb, 0, none⟩)] W1 fun e w' => e = .returned (.tuple #[]) ∧ Post (.returned (.tuple #[])) w')) :
    Calls Try.prog 41 #[.pointer (some ⟨eb, 0, none⟩), .string s] W Post := by
  go_enter Try.func41, Try.ntmps41
  go_wp2_with (first | (go_at_call 61; refine HR.out.mono ?_; rintro e w1 ⟨rfl, hq⟩) | (go_at_call 10; refine (HS.out _ hq.out).mono ?_; rintro e w2 ⟨rfl, hp⟩))
  go_end0
  exact hp
theorem itakeSync_any {Kp : Nat → Prop} {W : World} {eb : Nat} {d : Gp.Dr} {p : Pl} {q : Qv} {S : List UInt8} {C : List Gp.Pc} (h : IAt Kp W eb d p q S C) (hr : Ip.right d) (data : List UInt8) (hlen : S.length + 13 ≤ 140737488355328) :
    Calls Try.prog 41 #[.pointer (some ⟨eb, 0, none⟩), .string ⟨data.toArray⟩] W fun e w' => IPost Kp eb W (Ip.opens d data).1 (S ++ (Ip.opens d data).2) C e w' := by
  by_cases hl : data.length = 3
  · match data, hl with
    | [a, b, c], _ =>
      have hsz : (⟨[a, b, c].toArray⟩ : ByteArray).size = 3 := rfl
      have h3 : (((⟨[a, b, c].toArray⟩ : ByteArray).size : Int) != 3) = false := by rw [hsz]; rfl
      unfold Ip.opens
      dsimp only
      by_cases p1 : d.phase = 1
      · rw [if_pos p1]
        have c1 : W.cell? ⟨eb, 1, none⟩ = some (.int .i64 1) := by rw [← p1]; exact h.bk.cell 1
        have H2 := fun W => iget2_any ⟨[a, b, c].toArray⟩ hsz a b rfl rfl W
        have H1 := fun W => iget1_any ⟨[a, b, c].toArray⟩ hsz c rfl W
        refine itakeSync_opening eb _ _ _ W _ h3 c1 H2 H1 ?_
        by_cases hz : a.toNat * 256 + b.toNat = 0 ∨ c.toNat = 0
        · rw [if_pos hz, List.append_nil]
          refine (iagree_no eb _ _ _ _ W rfl rfl ?_).mono fun e w' ⟨h1, h2⟩ => ⟨h1, rfl, ⟨p, q, by rw [h2]; exact h⟩, by rw [h2]; exact Below.refl _ _⟩
          rcases hz with hz | hz
          · left; rw [hz]; rfl
          · right; rw [hz]; rfl
        · rw [if_neg hz, List.append_nil]
          have hrm := Ip.min_rng (b := (c.toNat : Int)) hr.1.rm (by omega)
          have eB : (Wn.begin_ 32 (min d.room (c.toNat : Int)) 1).1 = ⟨32, min d.room (c.toNat : Int), 1, []⟩ := by
            rw [show Wn.begin_ 32 (min d.room (c.toNat : Int)) 1 = (⟨32, min d.room (c.toNat : Int), 1, []⟩, 0) from if_pos (by omega)]
          rw [eB]
          refine (iagree_go h _ _ _ _ ?_ ?_ rfl rfl hrm).mono fun e w' hp => ⟨hp.1, rfl, hp.2⟩
          · rw [beq_eq_false_iff_ne]; omega
          · rw [beq_eq_false_iff_ne]; omega
      · rw [if_neg p1]
        by_cases p2 : d.phase = 2
        · rw [if_pos p2]
          have c1 : W.cell? ⟨eb, 1, none⟩ = some (.int .i64 2) := by rw [← p2]; exact h.bk.cell 1
          by_cases hw : d.wait % 2 = 1
          · rw [if_pos hw]
            exact IPost.id h (itakeSync_quiet eb _ W h3 c1 (imayRepeat_n h hr.1.wt hw))
          · rw [if_neg hw]
            refine itakeSync_again eb _ W (fun w' => IAt Kp w' eb { d with wait := Gp.or1 d.wait } p q S C ∧ Below eb W w') _ h3 c1 ((imayRepeat_y h hr.1.wt hw).mono fun e w' ⟨h1, h2, h3⟩ => ⟨h1, h2, h3⟩) fun W1 ⟨h1, f1⟩ => ?_
            exact IPost.go f1 (isaySync_any h1 (Ip.base_wait hr.1 (Gp.wait1 hr.1.wt.1 hr.1.wt.2)) hlen)
        · rw [if_neg p2]
          exact IPost.id h (itakeSync_other eb _ d.phase W h3 (h.bk.cell 1) (by simpa using p1) (by simpa using p2))
  · have e : Ip.opens d data = (d, []) := by
      unfold Ip.opens
      split
      · rename_i a b c
        exact absurd rfl hl
      · rfl
    rw [e]
    refine IPost.id h (itakeSync_len eb _ W ?_)
    have : (⟨data.toArray⟩ : ByteArray).size = data.length := Ip.size_bytes data
    rw [this, bne_iff_ne]
    omega
set_option maxHeartbeats 1000000 in
set_option maxRecDepth 100000 in
theorem itakeNak_none (eb : Nat) (n m s b : Int) (a : Option Addr) (l c : Nat) (W : World) (Q : World → Prop) (c6 : W.cell? ⟨eb, 6, none⟩ = some (.int .i64 m)) (c7 : W.cell? ⟨eb, 7, none⟩ = some (.int .i64 s)) (c8 : W.cell? ⟨eb, 8, none⟩ = some (.int .i64 b)) (c9 : W.cell? ⟨eb, 9, none⟩ = some (.slice a l c))
    (HF : Hid (Calls Try.prog 77 #[.agg #[.int .i64 m, .int .i64 s, .int .i64 b, .slice a l c], .int .i64 n] W fun e w' => e = .returned (.tuple #[.string ⟨#[]⟩, .bool false]) ∧ Hid (Q w'))) :
    Calls Try.prog 64 #[.pointer (some ⟨eb, 0, none⟩), .int .i64 n] W fun e w' => e = .returned (.tuple #[]) ∧ Q w' := by
  go_enter Try.func64, Try.ntmps64
  go_wp2_with (go_at_call 77; refine HF.out.mono ?_; rintro e w1 ⟨rfl, hq⟩)
  go_end0
  exact ⟨rfl, hq.out⟩
set_option maxHeartbeats 1000000 in
set_option maxRecDepth 100000 in
theorem itakeNak_some (eb : Nat) (n m s b : Int) (a : Option Addr) (l c : Nat) (T : ByteArray) (W : World) (Q : World → Prop) (Post : Ending → World → Prop) (c6 : W.cell? ⟨eb, 6, none⟩ = some (.int .i64 m)) (c7 : W.cell? ⟨eb, 7, none⟩ = some (.int .i64 s)) (c8 : W.cell? ⟨eb, 8, none⟩ = some (.int .i64 b)) (c9 : W.cell? ⟨eb, 9, none⟩ = some (.slice a l c))
    (HF : Hid (Calls Try.prog 77 #[.agg #[.int .i64 m, .int .i64 s, .int .i64 b, .slice a l c], .int .i64 n] W fun e w' => e = .returned (.tuple #[.string T, .bool true]) ∧ Hid (Q w')))
    (HS : Hid (∀ W1, Q W1 → Calls Try.prog 45 #[.pointer (some ⟨eb, 0, none⟩), .int .i64 n, .string T] W1 fun e w' => e = .returned (.tuple #[]) ∧ Post (.returned (.tuple #[])) w')) :
    Calls Try.prog 64 #[.pointer (some ⟨eb, 0, none⟩), .int .i64 n] W Post := by
  go_enter Try.func64, Try.ntmps64
  go_wp2_with (first | (go_at_call 77; refine HF.out.mono ?_; rintro e w1 ⟨rfl, hq⟩) | (go_at_call 45; refine (HS.out _ hq.out).mono ?_; rintro e w2 ⟨rfl, hp⟩))
  go_end0
  exact hp
/-- what a nak comes to -/
def Ip.naked (d : Gp.Dr) (n : Int) : List UInt8 := match Wn.find d.win n with
  | some s => Ip.packet d n s
  | none => []
theorem Wn.find_mem {X : Wn.W} {n : Int} {s : ByteArray} (h : Wn.find X n = some s) : s ∈ X.l := by
  unfold Wn.find at h
  obtain ⟨k, _, hk⟩ := Option.bind_eq_some_iff.1 h
  exact List.mem_of_getElem? hk
theorem itakeNak_any {Kp : Nat → Prop} {W : World} {eb : Nat} {d : Gp.Dr} {p : Pl} {q : Qv} {S : List UInt8} {C : List Gp.Pc} (h : IAt Kp W eb d p q S C) (hb : Ip.base d) (n : Int) (hn : 0 ≤ n ∧ n ≤ 31) (hlen : S.length + 4200 ≤ 140737488355328) :
    Calls Try.prog 64 #[.pointer (some ⟨eb, 0, none⟩), .int .i64 n] W fun e w' => IPost Kp eb W d (S ++ Ip.naked d n) C e w' := by
  have HF := find_any d.win p.w p.wc n W ⟨h.win.e, h.wcap⟩
  unfold Wn.findV at HF
  unfold Ip.naked
  cases hf : Wn.find d.win n with
  | none =>
    rw [hf] at HF
    dsimp only at HF ⊢
    rw [List.append_nil]
    exact (itakeNak_none eb n _ _ _ _ _ _ W (fun w' => IAt Kp w' eb d p q S C ∧ Below eb W w') (h.bk.cell 6) (h.bk.cell 7) (h.bk.cell 8) (h.bk.cell 9) (HF.mono fun e w' ⟨h1, h2⟩ => ⟨h1, h.below h2, h2.mono (Nat.le_of_lt h.bk.lt)⟩)).mono fun e w' ⟨h1, h2, h3⟩ => ⟨h1, ⟨p, q, h2⟩, h3⟩
  | some s =>
    rw [hf] at HF
    dsimp only at HF ⊢
    have hs := hb.wi s (Wn.find_mem hf)
    exact itakeNak_some eb n _ _ _ _ _ _ s W (fun w' => IAt Kp w' eb d p q S C ∧ Below eb W w') _ (h.bk.cell 6) (h.bk.cell 7) (h.bk.cell 8) (h.bk.cell 9) (HF.mono fun e w' ⟨h1, h2⟩ => ⟨h1, h.below h2, h2.mono (Nat.le_of_lt h.bk.lt)⟩) fun W1 ⟨h1, f1⟩ => IPost.go f1 (isayText_any h1 hb n hn s hs hlen)
end Go.Proofs.Ytlclfkogbfigbaa

namespace Go.Proofs.Ytlclfkogbfigbaa
open Go.RowKit
theorem infoSp : (Try.prog.info? 68).map (fun i => (i.zero, i.size, i.bytes)) = some (some (.agg #[.int .i64 0, .int .i64 0]), 2, 16) := by kernel_rfl
theorem infoSp' : ∃ i0, Try.prog.info? 68 = some i0 ∧ i0.zero = some (.agg #[.int .i64 0, .int .i64 0]) ∧ i0.size = 2 ∧ i0.bytes = 16 := by
  have := infoSp
  cases h : Try.prog.info? 68 with
  | none => rw [h] at this; cases this
  | some i => rw [h] at this; simp only [Option.map_some, Option.some.injEq, Prod.mk.injEq] at this; exact ⟨i, rfl, this.1, this.2.1, this.2.2⟩
/-- append of places to a row of one's own -/
theorem span_append {base tc : Nat} {t : Option Addr} {l : List (Int × Int)} {W : World} (h : W.ownsRow base 68 2 (.slice t l.length tc) l.length (spE.flat l)) (x : Int × Int) (ad : Addr) (c : Nat) (hnews : ∀ j u, (spE.enc x)[j]? = some u → W.cell? (ad.add j) = some u) (hB : base ≤ W.heap.size) (hn : l.length ≤ 1000000) :
    ∃ g' cap' W', (Builtin.append_ #[30, 30] 30 #[.slice t l.length tc, .slice (some ad) 1 c]).run Try.prog W = .ok (.slice (some ⟨g', 0, none⟩) (l.length + 1) cap') W' ∧ W'.ownsRow base 68 2 (.slice (some ⟨g', 0, none⟩) (l.length + 1) cap') (l.length + 1) (spE.flat (l ++ [x])) ∧ W.grownBy W' (Value.slice t l.length tc).ownBlock ∧ ((Value.slice t l.length tc).ownBlock = some g' ∨ W.heap.size ≤ g') := by
  obtain ⟨i0, hi, hz0, hz1, hz2⟩ := infoSp'
  obtain ⟨v', W', r1, r2, r3, r4⟩ := run_append_own (P := Try.prog) W base 30 30 68 i0 _ 2 16 Try.underlying30 hi hz0 hz1 hz2 rfl (by decide) _ l.length (spE.flat l) h ad 1 c (spE.enc x) rfl hnews (spE.one x) (by unfold maxLen; omega) (by omega) hB
  have e2 : spE.flat l ++ spE.enc x = spE.flat (l ++ [x]) := by rw [spE.flat_append, spE.flat_one]
  rw [e2] at r2
  by_cases hv : Value.slice t l.length tc = .slice none 0 0
  · have hl : l = [] := by
      have : l.length = 0 := by injection hv
      exact List.eq_nil_of_length_eq_zero this
    subst hl
    injection hv with hv1 _ hv3
    subst hv1 hv3
    obtain ⟨g', cap', rest', W2, k1, k2, k3, k4⟩ := spE.append0 (P := Try.prog) W base x 30 30 i0 _ 16 Try.underlying30 hi hz0 hz1 hz2 rfl ad c hnews hB (by omega)
    have k1' : (Builtin.append_ #[30, 30] 30 #[.slice none ([] : List (Int × Int)).length 0, .slice (some ad) 1 c]).run Try.prog W = .ok (.slice (some ⟨g', 0, none⟩) 1 cap') W2 := k1
    rw [r1] at k1'
    cases k1'
    exact ⟨g', cap', _, r1, r2, r3, .inr k4⟩
  · obtain ⟨g, cap, rest, e, ho⟩ := Rg.El.Own.of (E := spE) h hv rfl
    injection e with e1 _ e3
    subst e1 e3
    obtain ⟨g', cap', rest', W2, k1, k2, k3, k4, k5, k6⟩ := ho.append (P := Try.prog) x 30 30 i0 _ 16 Try.underlying30 hi hz0 hz1 hz2 rfl ad c hnews hB (by omega) (by unfold maxLen; omega)
    rw [r1] at k1
    cases k1
    refine ⟨g', cap', _, r1, r2, r3, ?_⟩
    rcases k6 with rfl | k6
    · exact .inl rfl
    · exact .inr k6
/-- append of pieces to a row of one's own -/
theorem piece_append {base tc : Nat} {t : Option Addr} {l : List Gp.Pc} {W : World} (h : W.ownsRow base 42 2 (.slice t l.length tc) l.length (pcE.flat l)) (x : Gp.Pc) (ad : Addr) (c : Nat) (hnews : ∀ j u, (pcE.enc x)[j]? = some u → W.cell? (ad.add j) = some u) (hB : base ≤ W.heap.size) (hn : l.length ≤ 1000000) :
    ∃ g' cap' W', (Builtin.append_ #[29, 29] 29 #[.slice t l.length tc, .slice (some ad) 1 c]).run Try.prog W = .ok (.slice (some ⟨g', 0, none⟩) (l.length + 1) cap') W' ∧ W'.ownsRow base 42 2 (.slice (some ⟨g', 0, none⟩) (l.length + 1) cap') (l.length + 1) (pcE.flat (l ++ [x])) ∧ W.grownBy W' (Value.slice t l.length tc).ownBlock ∧ ((Value.slice t l.length tc).ownBlock = some g' ∨ W.heap.size ≤ g') := by
  obtain ⟨i0, hi, hz0, hz1, hz2⟩ := infoPc'
  obtain ⟨v', W', r1, r2, r3, r4⟩ := run_append_own (P := Try.prog) W base 29 29 42 i0 _ 2 24 Try.underlying29 hi hz0 hz1 hz2 rfl (by decide) _ l.length (pcE.flat l) h ad 1 c (pcE.enc x) rfl hnews (pcE.one x) (by unfold maxLen; omega) (by omega) hB
  have e2 : pcE.flat l ++ pcE.enc x = pcE.flat (l ++ [x]) := by rw [pcE.flat_append, pcE.flat_one]
  rw [e2] at r2
  by_cases hv : Value.slice t l.length tc = .slice none 0 0
  · have hl : l = [] := by
      have : l.length = 0 := by injection hv
      exact List.eq_nil_of_length_eq_zero this
    subst hl
    injection hv with hv1 _ hv3
    subst hv1 hv3
    obtain ⟨g', cap', rest', W2, k1, k2, k3, k4⟩ := pcE.append0 (P := Try.prog) W base x 29 29 i0 _ 24 Try.underlying29 hi hz0 hz1 hz2 rfl ad c hnews hB (by omega)
    have k1' : (Builtin.append_ #[29, 29] 29 #[.slice none ([] : List Gp.Pc).length 0, .slice (some ad) 1 c]).run Try.prog W = .ok (.slice (some ⟨g', 0, none⟩) 1 cap') W2 := k1
    rw [r1] at k1'
    cases k1'
    exact ⟨g', cap', _, r1, r2, r3, .inr k4⟩
  · obtain ⟨g, cap, rest, e, ho⟩ := Rg.El.Own.of (E := pcE) h hv rfl
    injection e with e1 _ e3
    subst e1 e3
    obtain ⟨g', cap', rest', W2, k1, k2, k3, k4, k5, k6⟩ := ho.append (P := Try.prog) x 29 29 i0 _ 24 Try.underlying29 hi hz0 hz1 hz2 rfl ad c hnews hB (by omega) (by unfold maxLen; omega)
    rw [r1] at k1
    cases k1
    refine ⟨g', cap', _, r1, r2, r3, ?_⟩
    rcases k6 with rfl | k6
    · exact .inl rfl
    · exact .inr k6
end Go.Proofs.Ytlclfkogbfigbaa
