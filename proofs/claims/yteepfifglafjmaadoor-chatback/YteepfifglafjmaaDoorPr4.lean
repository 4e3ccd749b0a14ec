/-
  Layer 8: strings.IndexRune of the bytes that stand by a sign, at any rune.
-/
import Derived.Test.YteepfifglafjmaaDoorPr3
import Derived.Test.YteepfifglafjmaaDoorCh8
import Derived.Lib.OthersKept
import Derived.Shelf.Strings.FuncGrows
namespace Go.Proofs.YteepfifglafjmaaDoor
open Go.RowKit

theorem bel_dn4 {B : Nat} {w w' : World} (h : Below B w w') (q : Nat) : Below B w (w'.drewN q) := ⟨h.1, h.2, h.3, h.4, h.5⟩

namespace GrC
theorem enc_high {g : Nat} (h0 : 128 ≤ g) : ∃ (n : Nat) (b : UInt8), 1 ≤ n ∧ n ≤ 3 ∧ 128 ≤ b.toNat ∧ (Utf8.encode (g : Int)).size = n + 1 ∧ (Utf8.encode (g : Int)).data.toList[n]? = some b := by
  have hb : ∀ c : Nat, 128 ≤ (UInt8.ofNat (128 + c % 64)).toNat := fun c => by rw [UInt8.toNat_ofNat']; omega
  have hc : 128 ≤ (if Utf8.valid (g : Int) then (g : Int).toNat else Utf8.runeError) := by
    split
    · omega
    · decide
  unfold Utf8.encode
  simp only
  generalize (if Utf8.valid (g : Int) then (g : Int).toNat else Utf8.runeError) = c at hc ⊢
  rw [if_neg (by omega)]
  split
  · exact ⟨1, _, by omega, by omega, hb c, rfl, rfl⟩
  · split
    · exact ⟨2, _, by omega, by omega, hb c, rfl, rfl⟩
    · exact ⟨3, _, by omega, by omega, hb c, rfl, rfl⟩
theorem idx_high : ∀ (l : List UInt8) (b : UInt8), (∀ c ∈ l, c.toNat < 128) → 128 ≤ b.toNat → Lib.indexByte l b = -1
  | [], _, _, _ => rfl
  | c :: r, b, h, hb => by
    have hc := h c (by simp)
    unfold Lib.indexByte
    rw [if_neg (by simp; rintro rfl; omega), idx_high r b (fun x hx => h x (by simp [hx])) hb]
    rfl
end GrC

theorem valid_runeC (R : Nat) (w : World) (h1 : R ≤ 1114111) (hv : ¬ (55296 ≤ R ∧ R ≤ 57343)) :
    Calls Tryd.prog 67 #[.int .i32 R] w fun e w' => e = .returned (.bool true) ∧ w' = w := by
  have d0 : decide ((0 : Int) ≤ (R : Int)) = true := by simp
  by_cases h : R < 55296
  · have d1 : decide ((R : Int) < 55296) = true := by simp; omega
    go_enter Tryd.func67, Tryd.ntmps67
    go_wp2
    go_ret
    exact ⟨rfl, rfl⟩
  · have d1 : decide ((R : Int) < 55296) = false := by simp; omega
    have d2 : decide ((57343 : Int) < (R : Int)) = true := by simp; omega
    have d3 : decide ((R : Int) ≤ 1114111) = true := by simp; omega
    clear hv
    go_enter Tryd.func67, Tryd.ntmps67
    go_wp2
    go_ret
    exact ⟨rfl, rfl⟩

set_option maxHeartbeats 2000000 in
set_option maxRecDepth 1000000 in
theorem idxC_wide (R : Nat) (w : World) (h0 : 128 ≤ R) (h1 : R ≤ 1114111) (hne : ¬ R = 65533) (hv : ¬ (55296 ≤ R ∧ R ≤ 57343)) :
    Calls Tryd.prog 60 #[.string ⟨#[13, 10, 32, 45, 34, 92]⟩, .int .i32 R] w fun e w' => e = .returned (.int .i64 (-1)) ∧ Below w.heap.size w w' := by
  have HV : Hid (∀ W, Calls Tryd.prog 67 #[.int .i32 R] W fun e w' => e = .returned (.bool true) ∧ W = w') := fun W => (valid_runeC R W h1 hv).mono fun e w' h => ⟨h.1, h.2.symm⟩
  obtain ⟨n, b, hn1, hn3, hb, hsz, hlast⟩ := GrC.enc_high h0
  have d0 : ((R : Int) == 65533) = false := by rw [beq_eq_false_iff_ne]; omega
  have d2 : decide ((R : Int) < 128) = false := by simp; omega
  obtain ⟨rs, hrs⟩ : ∃ rs, Utf8.encode (R : Int) = rs := ⟨_, rfl⟩
  rw [hrs] at hsz hlast
  have hlt : n < rs.size := by omega
  have hbe : rs[n] = b := by
    have : rs.data.toList[n]? = some rs[n] := by rw [List.getElem?_eq_getElem (by simpa using hlt)]; rfl
    rw [this] at hlast; exact Option.some.inj hlast
  have hx : Hid (∀ W, Calls Tryd.prog 62 #[.string ((⟨#[13, 10, 32, 45, 34, 92]⟩ : ByteArray).extract (n + 1) 6), .int .u8 (b.toNat : Int)] W fun e w' => e = .returned (.int .i64 (-1)) ∧ W = w') := fun W => by
    have := Tryd.strings_IndexByte ((⟨#[13, 10, 32, 45, 34, 92]⟩ : ByteArray).extract (n + 1) 6) (b.toNat : Int) W
    rw [show (b.toNat : Int).toNat.toUInt8 = b by simp, GrC.idx_high _ b ?_ hb] at this
    · exact this.mono fun e w' h => ⟨h.1, h.2.symm⟩
    · intro c hc
      obtain rfl | rfl | rfl : n = 1 ∨ n = 2 ∨ n = 3 := by omega
      · have hc : c ∈ [(32 : UInt8), 45, 34, 92] := hc
        simp at hc; rcases hc with rfl | rfl | rfl | rfl <;> decide
      · have hc : c ∈ [(45 : UInt8), 34, 92] := hc
        simp at hc; rcases hc with rfl | rfl | rfl <;> decide
      · have hc : c ∈ [(34 : UInt8), 92] := hc
        simp at hc; rcases hc with rfl | rfl <;> decide
  obtain ⟨L, hL⟩ : ∃ L : ByteArray, L = ⟨#[13, 10, 32, 45, 34, 92]⟩ := ⟨_, rfl⟩
  have hLs : (L.size : Int) = 6 := by rw [hL]; rfl
  have hnL : n < L.size := by omega
  have ht : ((L[n].toNat : Int) != (b.toNat : Int)) = true := by
    rw [bne_iff_ne]
    have : L[n].toNat < 128 := by
      subst hL
      obtain rfl | rfl | rfl : n = 1 ∨ n = 2 ∨ n = 3 := by omega
      · show (10 : UInt8).toNat < 128; decide
      · show (32 : UInt8).toNat < 128; decide
      · show (45 : UInt8).toNat < 128; decide
    omega
  rw [← hL] at hx ⊢
  have hs0 : (rs.size : Int) = (n : Int) + 1 := by omega
  have e1 : (n : Int) + 1 - 1 = n := by omega
  have q0 : (0 : Int) ≤ (n : Int) + 1 := by omega
  have q1 : (n : Int) + 1 ≤ (L.size : Int) := by omega
  have q2 : ((n : Int) + 1).toNat = n + 1 := by omega
  have q3 : (n : Int) < (L.size : Int) := by omega
  have q4 : IntKind.i64.wrap ((n : Int) + 1) = (n : Int) + 1 := by rw [IntKind.wrap_i64]; omega
  have hx2 : Hid (∀ W, Calls Tryd.prog 62 #[.string (L.extract (n + 1) L.size), .int .u8 (b.toNat : Int)] W fun e w' => e = .returned (.int .i64 (-1)) ∧ W = w') := fun W => by have := hx.out W; rw [show L.size = 6 by omega]; exact this
  have hn5 : (n : Int) < 6 := by omega
  clear hlast hv hne hb h1 hsz hL hx hLs hn5
  go_enter Tryd.func60, Tryd.ntmps60
  go_wp2_with (go_at_call 67; refine (HV.out _).mono ?_; rintro e w' ⟨rfl, rfl⟩)
  go_step3
  go_wp2
  go_loop [9, 10] (fun i f => i = .int .i64 n ∧ f = .int .i64 0) (fun _ _ => 0)
  case atStart => exact ⟨by first | rfl | simp, rfl⟩
  case round =>
    obtain ⟨rfl, rfl⟩ := hrel
    go_wp2
    go_step3
    go_wp2
    go_quiet (skip)
    go_wp2
    have hb2 : Below w.heap.size w (w.drewN nq) := bel_dn4 (Below.refl _ _) _
    generalize w.drewN nq = wx at *
    go_region_with (go_at_call 62; refine (hx2.out _).mono ?_; rintro e w' ⟨rfl, rfl⟩)
    all_goals
      go_wp2
      rw [Exit.noGoto_ret]
      go_wp2
      rw [Exit.noGoto_ret]
      go_ret
      exact ⟨rfl, hb2.drew⟩

set_option maxHeartbeats 2000000 in
set_option maxRecDepth 1000000 in
theorem idxC_error (w : World) :
    Calls Tryd.prog 60 #[.string ⟨#[13, 10, 32, 45, 34, 92]⟩, .int .i32 65533] w fun e w' => e = .returned (.int .i64 (-1)) ∧ Below w.heap.size w w' := by
  obtain ⟨L, hL⟩ : ∃ L : ByteArray, L = ⟨#[13, 10, 32, 45, 34, 92]⟩ := ⟨_, rfl⟩
  have hall : Hid (∀ (i : Nat) (h : i < L.size), L[i].toNat < 128 ∧ L[i].toNat ≠ 65533) := fun i h => by
    subst hL
    have h6 : i < 6 := h
    obtain rfl | rfl | rfl | rfl | rfl | rfl : i = 0 ∨ i = 1 ∨ i = 2 ∨ i = 3 ∨ i = 4 ∨ i = 5 := by omega
    · show (13 : UInt8).toNat < 128 ∧ (13 : UInt8).toNat ≠ 65533; decide
    · show (10 : UInt8).toNat < 128 ∧ (10 : UInt8).toNat ≠ 65533; decide
    · show (32 : UInt8).toNat < 128 ∧ (32 : UInt8).toNat ≠ 65533; decide
    · show (45 : UInt8).toNat < 128 ∧ (45 : UInt8).toNat ≠ 65533; decide
    · show (34 : UInt8).toNat < 128 ∧ (34 : UInt8).toNat ≠ 65533; decide
    · show (92 : UInt8).toNat < 128 ∧ (92 : UInt8).toNat ≠ 65533; decide
  rw [← hL]
  clear hL
  go_enter Tryd.func60, Tryd.ntmps60
  go_wp2
  go_loopg [] L.size (fun gf wx => ∃ pos : Nat, wx.heap[w.heap.size]? = some (.stringIter L pos) ∧ Below w.heap.size w wx ∧ L.size ≤ pos + gf)
  case atStart => exact ⟨0, World.iter_heap w L 0, (Below.refl _ w).alloc (Nat.le_refl _) _, by omega⟩
  case round =>
    obtain ⟨pos, hit, hbw, hfu⟩ := hrel
    by_cases hps : pos < L.size
    · obtain ⟨g', rfl⟩ : ∃ g', gk = g' + 1 := ⟨gk - 1, by omega⟩
      have ha := hall.out pos hps
      have hnx : ∀ ty, (Instr.next (.pointer (some ⟨w.heap.size, 0, none⟩)) true ty).run Tryd.prog wr = _ := fun ty => Lib.run_next_ascii_at wr w.heap.size L pos ty hit hps ha.1
      have hit2 := Lib.iterAt_heap wr w.heap.size L pos (pos + 1) hit
      have hbw2 := Lib.below_iterAt hbw (k := w.heap.size) (Nat.le_refl _) L (pos + 1)
      have hd : ((L[pos].toNat : Int) == 65533) = false := by rw [beq_eq_false_iff_ne]; have := ha.2; omega
      go_wp2
      go_roundg g'
      case measure => omega
      case rel => exact ⟨pos + 1, hit2, hbw2, by omega⟩
    · have hnx : ∀ ty, (Instr.next (.pointer (some ⟨w.heap.size, 0, none⟩)) true ty).run Tryd.prog wr = _ := fun ty => Lib.run_next_end_at wr w.heap.size L pos ty hit hps
      go_wp2
      go_ret
      exact ⟨rfl, hbw⟩

set_option maxHeartbeats 400000 in
theorem invalid_runeC (R : Nat) (w : World) (hv : 55296 ≤ R ∧ R ≤ 57343) :
    Calls Tryd.prog 67 #[.int .i32 R] w fun e w' => e = .returned (.bool false) ∧ w' = w := by
  have d0 : decide ((0 : Int) ≤ (R : Int)) = true := by simp
  have d1 : decide ((R : Int) < 55296) = false := by simp; omega
  have d2 : decide ((57343 : Int) < (R : Int)) = false := by simp; omega
  clear hv
  go_enter Tryd.func67, Tryd.ntmps67
  go_wp2
  go_ret
  exact ⟨rfl, rfl⟩

set_option maxHeartbeats 2000000 in
set_option maxRecDepth 1000000 in
theorem idxC_bad (R : Nat) (w : World) (hv : 55296 ≤ R ∧ R ≤ 57343) :
    Calls Tryd.prog 60 #[.string ⟨#[13, 10, 32, 45, 34, 92]⟩, .int .i32 R] w fun e w' => e = .returned (.int .i64 (-1)) ∧ Below w.heap.size w w' := by
  have HV : Hid (∀ W, Calls Tryd.prog 67 #[.int .i32 R] W fun e w' => e = .returned (.bool false) ∧ W = w') := fun W => (invalid_runeC R W hv).mono fun e w' h => ⟨h.1, h.2.symm⟩
  have d0 : ((R : Int) == 65533) = false := by rw [beq_eq_false_iff_ne]; omega
  have d2 : decide ((R : Int) < 128) = false := by simp; omega
  have d3 : decide ((0 : Int) ≤ (R : Int)) = true := by simp
  clear hv
  go_enter Tryd.func60, Tryd.ntmps60
  go_wp2_with (go_at_call 67; refine (HV.out _).mono ?_; rintro e w' ⟨rfl, rfl⟩)
  go_ret
  exact ⟨rfl, Below.refl _ _⟩

set_option maxHeartbeats 2000000 in
set_option maxRecDepth 1000000 in
theorem idxC_low (R : Nat) (w : World) (h : R < 128) :
    Calls Tryd.prog 60 #[.string ⟨#[13, 10, 32, 45, 34, 92]⟩, .int .i32 R] w fun e w' => e = .returned (.int .i64 (Lib.indexByte Ch.hid (UInt8.ofNat R))) ∧ Below w.heap.size w w' := by
  have HI : Hid (∀ W, Calls Tryd.prog 62 #[.string ⟨#[13, 10, 32, 45, 34, 92]⟩, .int .u8 (R : Int)] W fun e w' => e = .returned (.int .i64 (Lib.indexByte Ch.hid (UInt8.ofNat R))) ∧ W = w') := fun W => by
    have := Tryd.strings_IndexByte ⟨#[13, 10, 32, 45, 34, 92]⟩ (R : Int) W
    rw [show (R : Int).toNat.toUInt8 = UInt8.ofNat R by simp] at this
    exact this.mono fun e w' h => ⟨h.1, h.2.symm⟩
  have d2 : decide ((R : Int) < 128) = true := by simp; omega
  have d3 : decide ((0 : Int) ≤ (R : Int)) = true := by simp
  have hcv : IntKind.u8.wrap (R : Int) = (R : Int) := by rw [IntKind.wrap_u8]; omega
  generalize Lib.indexByte Ch.hid (UInt8.ofNat R) = I at *
  clear h
  go_enter Tryd.func60, Tryd.ntmps60
  go_wp2_with (go_at_call 62; refine (HI.out _).mono ?_; rintro e w' ⟨rfl, rfl⟩)
  go_ret
  exact ⟨rfl, Below.refl _ _⟩
end Go.Proofs.YteepfifglafjmaaDoor
