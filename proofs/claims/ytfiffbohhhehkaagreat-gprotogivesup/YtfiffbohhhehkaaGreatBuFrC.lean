/-
  Walks of layer 11: Read of whatever bytes. Walks of the laws of layer 11: awake. Walks of the laws of layer 11: GframeBack. Walks of the laws of layer 11: GframeBack, whole. Walks of layer 11: Scan. Walks of layer 11: Scan of whatever bytes; a packet is found behind bytes that are not 16.
-/
import Derived.Test.YtfiffbohhhehkaaGreatBsGw9
import Derived.Test.YtfiffbohhhehkaaGreatBsGwA
import Derived.Test.YtfiffbohhhehkaaGreatBsGwB
import Derived.Test.YtfiffbohhhehkaaGreatBsGwC
import Derived.Test.YtfiffbohhhehkaaGreatBsGwD
import Derived.Test.YtfiffbohhhehkaaGreatBsGwE
import Derived.Test.YtfiffbohhhehkaaGreatBsGw5
namespace Go.Proofs.YtfiffbohhhehkaaGreat
open Go.RowKit
namespace Gf
theorem okCode_body {t k : Nat} (h : okCode t k = true) (h0 : ¬ t = 0) : (t = 2 ∨ t = 3) ∧ 1 ≤ k ∧ k ≤ 8 := by
  unfold okCode at h
  rw [if_neg h0] at h
  split at h
  · rename_i ht
    exact ⟨ht, by simpa using h⟩
  · cases h
theorem head_bad {k l h c x : Nat} {r : List UInt8} (hx : ¬ (k ^^^ l ^^^ h ^^^ c) = x) : readHead k l h c x r = .error 3 := by
  unfold readHead; rw [if_pos (Or.inl hx)]
theorem head_code {k l h c x : Nat} {r : List UInt8} (hc : okCode (c / 64) k = false) : readHead k l h c x r = .error 3 := by
  unfold readHead; rw [if_pos (Or.inr hc)]
theorem head_ok {k l h c x : Nat} {r : List UInt8} (hx : (k ^^^ l ^^^ h ^^^ c) = x) (hc : okCode (c / 64) k = true) : readHead k l h c x r = if c / 64 = 0 then (if ((l + 256 * h : Nat) : Int) ≠ Chk.control c then .error 4 else .ok (⟨0, (c / 8 % 8 : Nat), (c % 8 : Nat), 0, []⟩, 6)) else readBody c k (l + 256 * h) r := by
  unfold readHead; rw [if_neg (by rw [hc]; simp [hx])]
theorem drop_extract (s : ByteArray) (h6 : 6 ≤ s.size) : (s.extract 6 s.size).data.toList = s.data.toList.drop 6 := by
  rw [extract_eq s 6 s.size h6 (Nat.le_refl _), List.take_of_length_le]
  rw [List.length_drop, len_eq]; exact Nat.le_refl _
end Gf
theorem hold_of (w : World) (k m c T HI LO : Nat) :
    ∀ W', Below ((((w.alloc (.cells #[.int .i64 0, .int .i64 0, .int .i64 0, .int .i64 0, .string ⟨#[]⟩] 80)).alloc (.cells #[.int .i64 k, .int .i64 m, .int .i64 c] 133)).drew).alloc (.cells #[.int .i64 T, .int .i64 HI, .int .i64 LO, .int .i64 0, .string ⟨#[]⟩] 80)).drew.heap.size ((((w.alloc (.cells #[.int .i64 0, .int .i64 0, .int .i64 0, .int .i64 0, .string ⟨#[]⟩] 80)).alloc (.cells #[.int .i64 k, .int .i64 m, .int .i64 c] 133)).drew).alloc (.cells #[.int .i64 T, .int .i64 HI, .int .i64 LO, .int .i64 0, .string ⟨#[]⟩] 80)).drew W' →
      (W'.cell? ⟨w.heap.size + 1, 0, none⟩ = some (.int .i64 k) ∧ W'.cell? ⟨w.heap.size + 1, 1, none⟩ = some (.int .i64 m) ∧ W'.cell? ⟨w.heap.size + 1, 2, none⟩ = some (.int .i64 c) ∧ W'.cell? ⟨w.heap.size + 1 + 1, 0, none⟩ = some (.int .i64 T)) ∧ Rg.Bk w.heap.size [.int .i64 0, .int .i64 0, .int .i64 0, .int .i64 0, .string ⟨#[]⟩] 80 W' ∧ Rg.Bk (w.heap.size + 1) [.int .i64 k, .int .i64 m, .int .i64 c] 133 W' ∧ Rg.Bk (w.heap.size + 1 + 1) [.int .i64 T, .int .i64 HI, .int .i64 LO, .int .i64 0, .string ⟨#[]⟩] 80 W' ∧ Below w.heap.size w W' := by
  intro W' hW
  have k0 : Rg.Bk w.heap.size [.int .i64 0, .int .i64 0, .int .i64 0, .int .i64 0, .string ⟨#[]⟩] 80 (w.alloc (.cells #[.int .i64 0, .int .i64 0, .int .i64 0, .int .i64 0, .string ⟨#[]⟩] 80)) := Rg.Bk.new rfl
  have k1 : Rg.Bk (w.heap.size + 1) [.int .i64 k, .int .i64 m, .int .i64 c] 133 ((w.alloc (.cells #[.int .i64 0, .int .i64 0, .int .i64 0, .int .i64 0, .string ⟨#[]⟩] 80)).alloc (.cells #[.int .i64 k, .int .i64 m, .int .i64 c] 133)).drew := (Rg.Bk.new (by simp)).drew
  have k2 : Rg.Bk (w.heap.size + 1 + 1) [.int .i64 T, .int .i64 HI, .int .i64 LO, .int .i64 0, .string ⟨#[]⟩] 80 (((w.alloc (.cells #[.int .i64 0, .int .i64 0, .int .i64 0, .int .i64 0, .string ⟨#[]⟩] 80)).alloc (.cells #[.int .i64 k, .int .i64 m, .int .i64 c] 133)).drew.alloc (.cells #[.int .i64 T, .int .i64 HI, .int .i64 LO, .int .i64 0, .string ⟨#[]⟩] 80)).drew := (Rg.Bk.new (by simp)).drew
  have r0 := ((k0.old (.cells #[.int .i64 k, .int .i64 m, .int .i64 c] 133)).drew.old (.cells #[.int .i64 T, .int .i64 HI, .int .i64 LO, .int .i64 0, .string ⟨#[]⟩] 80)).drew
  have r1 := (k1.old (.cells #[.int .i64 T, .int .i64 HI, .int .i64 LO, .int .i64 0, .string ⟨#[]⟩] 80)).drew
  have q0 := r0.below hW r0.lt
  have q1 := r1.below hW r1.lt
  have q2 := k2.below hW k2.lt
  have b0 := Gf.below1 w (.cells #[.int .i64 0, .int .i64 0, .int .i64 0, .int .i64 0, .string ⟨#[]⟩] 80)
  have b1 := (b0.alloc b0.size (.cells #[.int .i64 k, .int .i64 m, .int .i64 c] 133)).drew
  have b2 := (b1.alloc b1.size (.cells #[.int .i64 T, .int .i64 HI, .int .i64 LO, .int .i64 0, .string ⟨#[]⟩] 80)).drew
  exact ⟨⟨q1.cell 0, q1.cell 1, q1.cell 2, q2.cell 0⟩, q0, q1, q2, b2.trans (hW.mono b2.size)⟩

set_option maxRecDepth 100000 in
theorem gread_any (s : ByteArray) (hs : s.size ≤ maxLen) (w : World) :
    Calls Tryz.prog 77 #[.string s] w fun e w' => e = .returned (Gf.resV (Gf.read s.data.toList)) ∧ Below w.heap.size w w' := by
  by_cases h0 : s.size = 0
  · obtain rfl : s = ⟨#[]⟩ := by
      apply ByteArray.ext; apply Array.toList_inj.1
      have : s.data.toList.length = 0 := by rw [Gf.len_eq]; exact h0
      exact List.eq_nil_of_length_eq_zero this
    exact read_empty w
  have h0 : 0 < s.size := by omega
  by_cases h16 : s[0].toNat = 16
  · have e16 : s[0] = 16 := UInt8.toNat_inj.1 h16
    by_cases h6 : s.size < 6
    · rw [Gf.read_few (by rw [Gf.len_eq]; exact h6) (by rw [Gf.len_eq]; exact h0) (by rw [Gf.getD_at s 0 h0]; exact e16)]
      exact read_short s h0 h16 h6 w
    have h6 : 6 ≤ s.size := by omega
    rw [Gf.read_six s h6 e16]
    by_cases hx : (s[1].toNat ^^^ s[2].toNat ^^^ s[3].toNat ^^^ s[4].toNat) = s[5].toNat
    · cases hc : Gf.okCode (s[4].toNat / 64) s[1].toNat with
      | false =>
        rw [Gf.head_code hc]
        exact read_code s h6 h16 hs hx hc w
      | true =>
        rw [Gf.head_ok hx hc]
        by_cases hT : s[4].toNat / 64 = 0
        · rw [if_pos hT]
          by_cases hp : ((s[2].toNat + 256 * s[3].toNat : Nat) : Int) = Chk.control s[4].toNat
          · rw [if_neg (by simpa using hp)]
            exact read_ctl s h6 h16 hs hx hc hT _ hp rfl w
          · rw [if_pos hp]
            exact read_csum s h6 h16 hs hx hc hT _ hp rfl w
        · rw [if_neg hT]
          obtain ⟨ht, hk1, hk8⟩ := Gf.okCode_body hc hT
          have b1 := UInt8.toNat_lt s[1]
          have b2 := UInt8.toNat_lt s[2]
          have b3 := UInt8.toNat_lt s[3]
          have b4 := UInt8.toNat_lt s[4]
          have hsl : s[2].toNat + 256 * s[3].toNat < 65536 := by omega
          have dT := Gf.head_dec s h6 h16
          rw [decide_eq_true hx] at dT
          have hz := Gf.size_range hk1 hk8
          have hb := hold_of w s[1].toNat (s[2].toNat + 256 * s[3].toNat) s[4].toNat (s[4].toNat / 64) (s[4].toNat / 8 % 8) (s[4].toNat % 8)
          obtain ⟨⟨i0, i1, i2, n0⟩, _⟩ := hb _ (Below.refl _ _)
          have HT : Hid (∀ W, Calls Tryz.prog 98 #[.agg #[.int .i64 s[1].toNat, .int .i64 ((s[2].toNat + 256 * s[3].toNat : Nat) : Int), .int .i64 s[4].toNat]] W fun e w' => e = .returned (.string ⟨(Gf.head s[1].toNat (s[2].toNat + 256 * s[3].toNat) s[4].toNat).toArray⟩) ∧ Below W.heap.size W w') := fun W => gtext_any _ _ _ b1 hsl b4 W
          have HC : Hid (∀ W, Calls Tryz.prog 99 #[.int .i64 ((s[4].toNat / 64 : Nat) : Int), .int .i64 s[1].toNat] W fun e w' => e = .returned (.bool true) ∧ w' = W) := fun W => by have := isCodeOf_any (s[4].toNat / 64) s[1].toNat W; rwa [hc] at this
          have HS : Hid (∀ W, Calls Tryz.prog 101 #[.int .i64 s[1].toNat] W fun e w' => e = .returned (.int .i64 (Gf.size s[1].toNat : Nat)) ∧ w' = W) := fun W => sizeOf_any _ hk1 hk8 W
          have hes : (s.extract 6 s.size).size ≤ maxLen := by
            rw [← Gf.len_eq, Gf.drop_extract s h6, List.length_drop, Gf.len_eq]
            exact Nat.le_trans (Nat.sub_le _ _) hs
          have HB := fun W => rbody_any (s.extract 6 s.size) (s[4].toNat / 64) s[4].toNat s[1].toNat (s[2].toNat + 256 * s[3].toNat) ht hk1 hk8 hes W
          rw [Gf.drop_extract s h6] at HB
          obtain ⟨d, e, hbo⟩ : ∃ d e, Gf.bodyOut (s[4].toNat / 64) s[4].toNat s[1].toNat (s[2].toNat + 256 * s[3].toNat) (s.data.toList.drop 6) = (d, e) := ⟨_, _, rfl⟩
          rw [hbo] at HB
          have f3 : (s[4].toNat : Int) / 64 = ((s[4].toNat / 64 : Nat) : Int) := by omega
          by_cases he : e = 0
          · subst he
            rw [Gf.readBody_yes rfl ht hbo]
            exact rcore_ok s _ _ _ _ _ w h6 hs (Gf.ne_nil h0) (by rw [h16]; rfl) (by simp; omega) b1 b2 b3 b4 (Gf.sum_or b2 b3) (by omega) (by omega) (by omega) (by omega) (by omega) (Gf.hi_and _) (Gf.lo_and _) f3 dT HT HC hb i0 i1 i2 n0 _ ⟨d.toArray⟩ 0 _ (by omega) hz.2 (beq_eq_false_iff_ne.2 (by omega)) HS HB rfl
          · rw [Gf.readBody_no rfl hbo he]
            exact rcore_no s _ _ _ _ _ w h6 hs (Gf.ne_nil h0) (by rw [h16]; rfl) (by simp; omega) b1 b2 b3 b4 (Gf.sum_or b2 b3) (by omega) (by omega) (by omega) (by omega) (by omega) (Gf.hi_and _) (Gf.lo_and _) f3 dT HT HC hb i0 i1 i2 n0 _ ⟨d.toArray⟩ e (beq_eq_false_iff_ne.2 (by omega)) HS HB (beq_eq_false_iff_ne.2 (by omega))
    · rw [Gf.head_bad hx]
      exact read_bad s h6 h16 hs hx w
  · have e : s.data.toList = s[0] :: s.data.toList.drop 1 := Chk.drop_cons s 0 h0
    rw [e, Gf.read_16 (fun h => h16 (by rw [h]; rfl))]
    exact read_form s h0 h16 hs w
end Go.Proofs.YtfiffbohhhehkaaGreat

namespace Go.Proofs.YtfiffbohhhehkaaGreat
open Go.RowKit
namespace Gf
def ex : Fr := ⟨3, 1, 2, 32, [97, 98, 99]⟩
theorem ex_ok : ok ex := ⟨⟨by decide, by decide, by decide, by decide⟩, Or.inr (Or.inr ⟨rfl, by decide, by decide⟩)⟩
theorem ex_len : (text ex).length = 38 := by rw [text_len]; rfl
theorem ex_six : (text ex).getD 6 0 = 29 := by
  unfold text
  have : body ex = field [97, 98, 99] 32 := rfl
  rw [this]
  rfl
theorem size_of (l : List UInt8) : (⟨l.toArray⟩ : ByteArray).size = l.length := by
  show l.toArray.size = _; simp
end Gf
end Go.Proofs.YtfiffbohhhehkaaGreat

namespace Go.Proofs.YtfiffbohhhehkaaGreat
open Go.RowKit
theorem Gf.more {w W : World} (h : Below w.heap.size w W) (o : Obj) : Below w.heap.size w (W.alloc o) := h.alloc h.size o
end Go.Proofs.YtfiffbohhhehkaaGreat

namespace Go.Proofs.YtfiffbohhhehkaaGreat
open Go.RowKit
theorem keepF {f : FuncId} {args : Array Value} {r : Value} {C : List Value} {ty : TypeId} (w : World) (H : ∀ W, Calls Tryz.prog f args W fun e w' => e = .returned r ∧ Below W.heap.size W w') :
    Hid (∀ W, Below w.heap.size w W → Rg.Bk w.heap.size C ty W → Calls Tryz.prog f args W fun e w' => e = .returned r ∧ Below w.heap.size w w' ∧ Rg.Bk w.heap.size C ty w') :=
  fun W hW hk => (H W).mono fun _ _ ⟨a, b⟩ => ⟨a, hW.trans (b.mono hW.size), hk.below b hk.lt⟩
namespace Gf
theorem app_toList (x : List UInt8) (s : ByteArray) : ((⟨x.toArray⟩ : ByteArray) ++ s).data.toList = x ++ s.data.toList := by
  have := ba_app x s.data.toList
  rw [show s = ⟨s.data.toList.toArray⟩ from rfl, this]
theorem text_size {f : Fr} (h : ok f) : (⟨(text f).toArray⟩ : ByteArray).size ≤ 4102 ∧ 6 ≤ (⟨(text f).toArray⟩ : ByteArray).size := by
  rw [size_of, text_len]
  by_cases ht : f.ty = 0
  · rcases h.2 with h' | h' | h'
    · have : body f = [] := by unfold body; rw [if_neg (by rw [ht]; decide)]; exact h'.2.2
      rw [this]; decide
    · rw [ht] at h'; exact absurd h'.1 (by decide)
    · rw [ht] at h'; exact absurd h'.1 (by decide)
  · rw [body_len h ht]
    have hk := kd_range h
    unfold kd at hk
    rw [if_neg ht] at hk
    have := size_range hk.1 (code_le _)
    omega
theorem read_err0 (s : List UInt8) : ¬ read s = .error 0 := by
  intro h
  match s with
  | [] => cases h
  | [a] | [a, _] | [a, _, _] | [a, _, _, _] | [a, _, _, _, _] => unfold read at h; dsimp only at h; split at h <;> cases h
  | a :: k :: l :: hh :: c :: x :: r =>
    unfold read at h
    dsimp only at h
    split at h
    · cases h
    unfold readHead at h
    split at h
    · cases h
    split at h
    · split at h <;> cases h
    · unfold readBody at h
      split at h
      · cases h
      split at h
      · cases h
      split at h
      · cases h
      split at h <;> cases h
/-- A packet's text is read, whatever stands behind it. -/
theorem reads_text {t h l z : Int} {d s : ByteArray} (hk : ok ⟨t, h, l, z, d.data.toList⟩) (hs : s.size ≤ 9000) (W : World) :
    Calls Tryz.prog 77 #[.string ((⟨(text ⟨t, h, l, z, d.data.toList⟩).toArray⟩ : ByteArray) ++ s)] W fun e w' => e = .returned (.tuple #[.agg #[.int .i64 t, .int .i64 h, .int .i64 l, .int .i64 z, .string d], .int .i64 (⟨(text ⟨t, h, l, z, d.data.toList⟩).toArray⟩ : ByteArray).size, .int .i64 0]) ∧ Below W.heap.size W w' := by
  have hsz := text_size hk
  have h := gread_any ((⟨(text ⟨t, h, l, z, d.data.toList⟩).toArray⟩ : ByteArray) ++ s) (by rw [app_size]; unfold maxLen; omega) W
  rw [app_toList, read_text hk] at h
  rw [size_of]
  exact h
end Gf
end Go.Proofs.YtfiffbohhhehkaaGreat

namespace Go.Proofs.YtfiffbohhhehkaaGreat
open Go.RowKit
def scanV (c : Gf.Sc) : Value := .tuple #[.agg #[.int .i64 c.f.ty, .int .i64 c.f.hi, .int .i64 c.f.lo, .int .i64 c.f.sz, .string ⟨c.f.data.toArray⟩], .agg #[.int .i64 c.a, .int .i64 c.b], .bool c.ok]
/-- A packet and a span, handed back. -/
theorem ret52 {w W : World} {R P B : Nat} {p0 p1 p2 p3 p4 u u1 : Value} {ty ty2 : TypeId} (k : Rg.Bk R [p0, p1, p2, p3, p4] ty W) (q : Rg.Bk P [u, u1] ty2 W) (hne : ¬ R = P) (hb : Below B w W) (hR : B ≤ R) (hP : B ≤ P) (v0 v1 v2 v3 v4 a b : Value) :
    Rg.Bk R [v0, v1, v2, v3, v4] ty (((((((W.setCell ⟨R, 0, none⟩ v0).setCell ⟨R, 1, none⟩ v1).setCell ⟨R, 2, none⟩ v2).setCell ⟨R, 3, none⟩ v3).setCell ⟨R, 4, none⟩ v4).setCell ⟨P, 0, none⟩ a).setCell ⟨P, 1, none⟩ b) ∧
    Rg.Bk P [a, b] ty2 (((((((W.setCell ⟨R, 0, none⟩ v0).setCell ⟨R, 1, none⟩ v1).setCell ⟨R, 2, none⟩ v2).setCell ⟨R, 3, none⟩ v3).setCell ⟨R, 4, none⟩ v4).setCell ⟨P, 0, none⟩ a).setCell ⟨P, 1, none⟩ b) ∧
    Below B w (((((((W.setCell ⟨R, 0, none⟩ v0).setCell ⟨R, 1, none⟩ v1).setCell ⟨R, 2, none⟩ v2).setCell ⟨R, 3, none⟩ v3).setCell ⟨R, 4, none⟩ v4).setCell ⟨P, 0, none⟩ a).setCell ⟨P, 1, none⟩ b) := by
  obtain ⟨k5, o5⟩ := Rg.ret5 k rfl v0 v1 v2 v3 v4
  have q5 := q.same (o5.block P (fun e => hne e.symm))
  have q7 := (q5.set 0 a).set 1 b
  have k7 := (k5.other (c := P) (i := 0) hne a).other (c := P) (i := 1) hne b
  exact ⟨k7, q7, ((hb.trans (o5.bel hR)).setCell (p := ⟨P, 0, none⟩) hP a).setCell (p := ⟨P, 1, none⟩) hP b⟩
set_option maxHeartbeats 4000000 in
set_option maxRecDepth 100000 in
theorem gscan_core (s : ByteArray) (w : World) (hml : s.size ≤ 40000) (hne : ¬ w.heap.size = w.heap.size + 1)
    (HR : Hid (∀ k W, Calls Tryz.prog 77 #[.string (s.extract k s.size)] W fun e w' => e = .returned (Gf.resV (Gf.read (s.data.toList.drop k))) ∧ Below W.heap.size W w'))
    (hbig : Hid (∀ k f n, Gf.read (s.data.toList.drop k) = .ok (f, n) → n ≤ 40000))
    (k0 : Rg.Bk w.heap.size [.int .i64 0, .int .i64 0, .int .i64 0, .int .i64 0, .string ⟨#[]⟩] 80 ((w.alloc (.cells #[.int .i64 0, .int .i64 0, .int .i64 0, .int .i64 0, .string ⟨#[]⟩] 80)).alloc (.cells #[.int .i64 0, .int .i64 0] 74))) (k1 : Rg.Bk (w.heap.size + 1) [.int .i64 0, .int .i64 0] 74 ((w.alloc (.cells #[.int .i64 0, .int .i64 0, .int .i64 0, .int .i64 0, .string ⟨#[]⟩] 80)).alloc (.cells #[.int .i64 0, .int .i64 0] 74))) (bw : Below w.heap.size w ((w.alloc (.cells #[.int .i64 0, .int .i64 0, .int .i64 0, .int .i64 0, .string ⟨#[]⟩] 80)).alloc (.cells #[.int .i64 0, .int .i64 0] 74))) :
    Calls Tryz.prog 56 #[.string s] w fun e w' => e = .returned (scanV (Gf.scan 0 s.data.toList)) ∧ Below w.heap.size w w' := by
  go_enter Tryz.func56, Tryz.ntmps56
  go_wp2
  go_loopw [11] (fun i wr => ∃ k : Nat, k ≤ s.size ∧ i = .int .i64 k ∧ Hid (Gf.scan 0 s.data.toList = Gf.scan k (s.data.toList.drop k)) ∧ Hid (Rg.Bk w.heap.size [.int .i64 0, .int .i64 0, .int .i64 0, .int .i64 0, .string ⟨#[]⟩] 80 wr) ∧ Hid (Rg.Bk (w.heap.size + 1) [.int .i64 0, .int .i64 0] 74 wr) ∧ Hid (Below w.heap.size w wr)) (fun i _ => s.size - (intOf i).toNat)
  case atStart => exact ⟨0, Nat.zero_le _, rfl, rfl, k0, k1, bw⟩
  case round =>
    obtain ⟨k, hk, rfl, hsc, kR0, kP0, b0⟩ := hrel
    replace kR0 := kR0.out
    replace kP0 := kP0.out
    replace b0 := b0.out
    clear k0 k1 bw
    by_cases hlt : k < s.size
    · have hcons : s.data.toList.drop k = s[k] :: s.data.toList.drop (k + 1) := Chk.drop_cons s k hlt
      have hki : (k : Int) ≤ (s.size : Int) := by omega
      have hki2 : decide ((k : Int) < (s.size : Int)) = true := by simp; omega
      have H := HR.out k
      cases hrd : Gf.read (s.data.toList.drop k) with
      | ok fn =>
        obtain ⟨f, n⟩ := fn
        have hn := hbig.out k f n hrd
        rw [hrd] at H
        have hfin : Hid (Gf.scan 0 s.data.toList = ⟨f, k, k + n, true⟩) := by
          show _ = _
          rw [hsc.out, hcons, Gf.scan, ← hcons, hrd]
        obtain ⟨t2, h2, l2, z2, d2⟩ := f
        have H : Hid (∀ W, Calls Tryz.prog 77 #[.string (s.extract k s.size)] W fun e w' => e = .returned (.tuple #[.agg #[.int .i64 t2, .int .i64 h2, .int .i64 l2, .int .i64 z2, .string ⟨d2.toArray⟩], .int .i64 n, .int .i64 0]) ∧ Below W.heap.size W w') := H
        clear hrd hcons HR hbig hsc
        have hN : (k : Int) + (n : Int) = ((k + n : Nat) : Int) := by omega
        generalize hKN : k + n = KN at *
        replace hKN := Rg.hid hKN
        have hres : Hid (scanV (Gf.scan 0 s.data.toList) = .tuple #[.agg #[.int .i64 t2, .int .i64 h2, .int .i64 l2, .int .i64 z2, .string ⟨d2.toArray⟩], .agg #[.int .i64 k, .int .i64 KN], .bool true]) := by show _ = _; rw [hfin.out]; rfl
        clear hfin
        generalize (⟨d2.toArray⟩ : ByteArray) = D at *
        go_upto_region 5 with (go_at_call 77; refine (H.out _).mono ?_; rintro e w2 ⟨rfl, b2⟩)
        have kR := (kR0.below b2 kR0.lt).old (.cells #[.int .i64 t2, .int .i64 h2, .int .i64 l2, .int .i64 z2, .string D] 80)
        have kP := (kP0.below b2 kP0.lt).old (.cells #[.int .i64 t2, .int .i64 h2, .int .i64 l2, .int .i64 z2, .string D] 80)
        have kF : Rg.Bk w2.heap.size [.int .i64 t2, .int .i64 h2, .int .i64 l2, .int .i64 z2, .string D] 80 (w2.alloc (.cells #[.int .i64 t2, .int .i64 h2, .int .i64 l2, .int .i64 z2, .string D] 80)) := Rg.Bk.new rfl
        have bR := (b0.trans (b2.mono b0.size)).alloc (b0.trans (b2.mono b0.size)).size (.cells #[.int .i64 t2, .int .i64 h2, .int .i64 l2, .int .i64 z2, .string D] 80)
        clear H kR0 kP0 b0 b2
        generalize w2.alloc (.cells #[.int .i64 t2, .int .i64 h2, .int .i64 l2, .int .i64 z2, .string D] 80) = W3 at *
        generalize w2.heap.size = F at *
        have cR := kR.cell; have fR := kR.thaw; have zR := kR.lt; have cP := kP.cell; have fP := kP.thaw; have zP := kP.lt; have cF := kF.cell; have zF := kF.lt
        go_wp2
        have hk := ret52 kR kP hne bR (Nat.le_refl _) (Nat.le_succ _) (.int .i64 t2) (.int .i64 h2) (.int .i64 l2) (.int .i64 z2) (.string D) (.int .i64 k) (.int .i64 KN)
        clear cR fR cP fP zR zP cF zF
        generalize World.setCell _ _ _ = WE at *
        obtain ⟨kE, kG, bE⟩ := hk
        have cE := kE.cell
        have cG := kG.cell
        exact bodyPost_ret (v := .tuple #[.agg #[.int .i64 t2, .int .i64 h2, .int .i64 l2, .int .i64 z2, .string D], .agg #[.int .i64 k, .int .i64 KN], .bool true]) (by simp [results, Tryz.results56, go_sem, cE, cG]) rfl ⟨by rw [hres.out], bE⟩
      | error e =>
        rw [hrd] at H
        have H : Hid (∀ W, Calls Tryz.prog 77 #[.string (s.extract k s.size)] W fun e' w' => e' = .returned (.tuple #[.agg #[.int .i64 0, .int .i64 0, .int .i64 0, .int .i64 0, .string ⟨#[]⟩], .int .i64 0, .int .i64 e]) ∧ Below W.heap.size W w') := H
        by_cases he : e = 2
        · subst he
          have hres : Hid (scanV (Gf.scan 0 s.data.toList) = .tuple #[.agg #[.int .i64 0, .int .i64 0, .int .i64 0, .int .i64 0, .string ⟨#[]⟩], .agg #[.int .i64 k, .int .i64 k], .bool false]) := by
            show _ = _
            rw [hsc.out, hcons, Gf.scan, ← hcons, hrd]
            rfl
          clear hrd hcons HR hbig hsc
          go_upto_region 5 with (go_at_call 77; refine (H.out _).mono ?_; rintro e w2 ⟨rfl, b2⟩)
          have kR := (kR0.below b2 kR0.lt).old (.cells #[.int .i64 0, .int .i64 0, .int .i64 0, .int .i64 0, .string ⟨#[]⟩] 80)
          have kP := (kP0.below b2 kP0.lt).old (.cells #[.int .i64 0, .int .i64 0, .int .i64 0, .int .i64 0, .string ⟨#[]⟩] 80)
          have kF : Rg.Bk w2.heap.size [.int .i64 0, .int .i64 0, .int .i64 0, .int .i64 0, .string ⟨#[]⟩] 80 (w2.alloc (.cells #[.int .i64 0, .int .i64 0, .int .i64 0, .int .i64 0, .string ⟨#[]⟩] 80)) := Rg.Bk.new rfl
          have bR := (b0.trans (b2.mono b0.size)).alloc (b0.trans (b2.mono b0.size)).size (.cells #[.int .i64 0, .int .i64 0, .int .i64 0, .int .i64 0, .string ⟨#[]⟩] 80)
          clear H kR0 kP0 b0 b2
          generalize w2.alloc (.cells #[.int .i64 0, .int .i64 0, .int .i64 0, .int .i64 0, .string ⟨#[]⟩] 80) = W3 at *
          generalize w2.heap.size = F at *
          have cR := kR.cell; have fR := kR.thaw; have zR := kR.lt; have cP := kP.cell; have fP := kP.thaw; have zP := kP.lt; have cF := kF.cell; have zF := kF.lt
          go_wp2
          have hk := ret52 kR kP hne bR (Nat.le_refl _) (Nat.le_succ _) (.int .i64 0) (.int .i64 0) (.int .i64 0) (.int .i64 0) (.string ⟨#[]⟩) (.int .i64 k) (.int .i64 k)
          clear cR fR cP fP zR zP cF zF
          generalize World.setCell _ _ _ = WE at *
          obtain ⟨kE, kG, bE⟩ := hk
          have cE := kE.cell
          have cG := kG.cell
          exact bodyPost_ret (v := .tuple #[.agg #[.int .i64 0, .int .i64 0, .int .i64 0, .int .i64 0, .string ⟨#[]⟩], .agg #[.int .i64 k, .int .i64 k], .bool false]) (by simp [results, Tryz.results56, go_sem, cE, cG]) rfl ⟨by rw [hres.out], bE⟩
        · have he0 : ¬ e = 0 := fun h => Gf.read_err0 _ (by rw [← h]; exact hrd)
          have hnext : Hid (Gf.scan 0 s.data.toList = Gf.scan (k + 1) (s.data.toList.drop (k + 1))) := by
            show _ = _
            rw [hsc.out, hcons, Gf.scan, ← hcons, hrd]
            exact if_neg he
          have d1 : ((e : Int) == 0) = false := beq_eq_false_iff_ne.2 (by omega)
          have d2 : ((e : Int) == 2) = false := beq_eq_false_iff_ne.2 (by omega)
          clear hrd hcons HR hbig hsc he he0
          go_wp2_with (go_at_call 77; refine (H.out _).mono ?_; rintro e w2 ⟨rfl, b2⟩; have kR := Rg.hid ((kR0.below b2 kR0.lt).old (.cells #[.int .i64 0, .int .i64 0, .int .i64 0, .int .i64 0, .string ⟨#[]⟩] 80)); have kP := Rg.hid ((kP0.below b2 kP0.lt).old (.cells #[.int .i64 0, .int .i64 0, .int .i64 0, .int .i64 0, .string ⟨#[]⟩] 80)); have bR := Rg.hid ((b0.trans (b2.mono b0.size)).alloc (b0.trans (b2.mono b0.size)).size (.cells #[.int .i64 0, .int .i64 0, .int .i64 0, .int .i64 0, .string ⟨#[]⟩] 80)))
          go_roundw
          case rel => exact ⟨k + 1, by omega, by go_num, hnext, kR, kP, bR⟩
          case measure => simp [intOf]; omega
    · have hks : k = s.size := by omega
      have hres : Hid (scanV (Gf.scan 0 s.data.toList) = .tuple #[.agg #[.int .i64 0, .int .i64 0, .int .i64 0, .int .i64 0, .string ⟨#[]⟩], .agg #[.int .i64 s.size, .int .i64 s.size], .bool false]) := by
        show _ = _
        rw [hsc.out, List.drop_eq_nil_of_le (by rw [Gf.len_eq]; omega), Gf.scan, hks]
        rfl
      have hki2 : decide ((k : Int) < (s.size : Int)) = false := by simp; omega
      replace hks := Rg.hid hks
      clear HR hbig hsc
      have kR := kR0; have kP := kP0; have bR := b0
      have cR := kR.cell; have fR := kR.thaw; have zR := kR.lt; have cP := kP.cell; have fP := kP.thaw; have zP := kP.lt
      clear kR0 kP0 b0
      go_wp2
      have hk := ret52 kR kP hne bR (Nat.le_refl _) (Nat.le_succ _) (.int .i64 0) (.int .i64 0) (.int .i64 0) (.int .i64 0) (.string ⟨#[]⟩) (.int .i64 s.size) (.int .i64 s.size)
      clear cR fR cP fP zR zP
      generalize World.setCell _ _ _ = WE at *
      obtain ⟨kE, kG, bE⟩ := hk
      have cE := kE.cell
      have cG := kG.cell
      exact bodyPost_ret (v := .tuple #[.agg #[.int .i64 0, .int .i64 0, .int .i64 0, .int .i64 0, .string ⟨#[]⟩], .agg #[.int .i64 s.size, .int .i64 s.size], .bool false]) (by simp [results, Tryz.results56, go_sem, cE, cG]) rfl ⟨by rw [hres.out], bE⟩
end Go.Proofs.YtfiffbohhhehkaaGreat

namespace Go.Proofs.YtfiffbohhhehkaaGreat
open Go.RowKit
theorem ext_drop (s : ByteArray) (k : Nat) : (s.extract k s.size).data.toList = s.data.toList.drop k := by
  by_cases hk : k ≤ s.size
  · rw [Gf.extract_eq s k s.size hk (Nat.le_refl _), List.take_of_length_le]
    rw [List.length_drop, Gf.len_eq]; exact Nat.le_refl _
  · rw [List.drop_eq_nil_of_le (by rw [Gf.len_eq]; omega), ByteArray.data_extract]
    apply List.eq_nil_of_length_eq_zero
    rw [Array.length_toList, Array.size_extract]
    have : s.data.size = s.size := rfl
    omega
theorem gscan_any (s : ByteArray) (hs : s.size ≤ 40000) (w : World) :
    Calls Tryz.prog 56 #[.string s] w fun e w' => e = .returned (scanV (Gf.scan 0 s.data.toList)) ∧ Below w.heap.size w w' := by
  have b0 := Gf.below1 w (.cells #[.int .i64 0, .int .i64 0, .int .i64 0, .int .i64 0, .string ⟨#[]⟩] 80)
  refine gscan_core s w hs (by omega) (fun k W => ?_) (fun k f n h => ?_) ((Rg.Bk.new rfl).old _) (Rg.Bk.new (by simp)) (b0.alloc b0.size _)
  · have h := gread_any (s.extract k s.size) (by rw [← Gf.len_eq, ext_drop, List.length_drop, Gf.len_eq]; unfold maxLen; omega) W
    rw [ext_drop] at h
    exact h
  · have := (Gf.text_read h).2.2.2
    rw [List.length_drop, Gf.len_eq] at this
    omega
namespace Gf
theorem scan_found {f : Fr} (h : ok f) : ∀ (l : List UInt8) (p : Nat) (s : List UInt8), (∀ c ∈ l, ¬ c = 16) → scan p (l ++ (text f ++ s)) = ⟨f, p + l.length, p + l.length + (text f).length, true⟩
  | [], p, s, _ => by
    have ht : ∃ a r, text f ++ s = a :: r := ⟨16, _, rfl⟩
    obtain ⟨a, r, hr⟩ := ht
    have hrd := read_text h s
    rw [List.nil_append, hr, scan, ← hr, hrd]
    rfl
  | c :: l, p, s, hl => by
    rw [List.cons_append, scan, read_16 (hl c (List.mem_cons_self ..))]
    have e := scan_found h l (p + 1) s (fun x hx => hl x (List.mem_cons_of_mem _ hx))
    show (if 3 = 2 then _ else scan (p + 1) (l ++ (text f ++ s))) = _
    rw [if_neg (by decide), e, List.length_cons]
    congr 1 <;> omega
end Gf
end Go.Proofs.YtfiffbohhhehkaaGreat
