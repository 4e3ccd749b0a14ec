/-
  Layer 8: which bytes no sign says: isUnsaid, checkStep.
-/
import Derived.Test.YteepfifglafjmaaDoorPr4
namespace Go.Proofs.YteepfifglafjmaaDoor
open Go.RowKit

namespace Ch
/-- does a rune stand by a sign? -/
def cr (x : Nat) : Bool := decide (x < 128) && decide (0 ≤ Lib.indexByte hid (UInt8.ofNat x))
def unsaidR (x : Nat) : Bool := odd x && !cr x
theorem uns_high {x : Nat} (h : 128 ≤ x) : unsaidR x = true := by
  unfold unsaidR cr odd
  rw [decide_eq_true (show 126 < x by omega), decide_eq_false (show ¬ x < 128 by omega), Bool.or_true]; rfl
theorem said_nat : ∀ n, n < 256 → said (UInt8.ofNat n) = !unsaidR n := by decide +kernel
theorem said_eq (b : UInt8) : said b = !unsaidR b.toNat := by
  have h := said_nat b.toNat (UInt8.toNat_lt b)
  rw [UInt8.ofNat_toNat] at h
  exact h
theorem uns_from (s : ByteArray) : ∀ (f pos : Nat), s.size ≤ pos + f → decide (0 ≤ Lib.idxFuncFrom unsaidR true s f pos) = (s.data.toList.drop pos).any (fun b => unsaidR b.toNat)
  | 0, pos, h => by
    rw [List.drop_eq_nil_of_le (by show s.size ≤ pos; omega)]
    rfl
  | f + 1, pos, h => by
    unfold Lib.idxFuncFrom
    by_cases hp : pos < s.size
    · rw [if_pos hp]
      have hl : pos < s.data.toList.length := hp
      have hb : s.data.toList[pos] = s[pos] := rfl
      rw [List.drop_eq_getElem_cons hl, List.any_cons, hb]
      by_cases ha : s[pos].toNat < 128
      · rw [decode_ascii s pos hp ha]
        dsimp only
        by_cases ho : unsaidR s[pos].toNat = true
        · rw [if_pos ho, ho, Bool.true_or]
          simp
        · rw [if_neg ho]
          have := uns_from s f (pos + 1) (by omega)
          rw [this]
          simp at ho
          rw [ho, Bool.false_or]
      · have hd := decode_high s pos hp (by omega)
        have h1 : unsaidR (Utf8.decode s pos).1 = true := uns_high (by omega)
        have h2 : unsaidR s[pos].toNat = true := uns_high (by omega)
        rw [if_pos h1, h2, Bool.true_or]
        simp
    · rw [if_neg hp, List.drop_eq_nil_of_le (by show s.size ≤ pos; omega)]
      rfl
theorem uns_idx (s : ByteArray) : decide (0 ≤ Lib.idxFunc unsaidR true s) = s.data.toList.any (fun b => unsaidR b.toNat) := by
  have := uns_from s s.size 0 (by omega)
  rw [List.drop_zero] at this
  exact this
theorem uns_all (s : ByteArray) : s.data.toList.any (fun b => unsaidR b.toNat) = !saidT s := by
  unfold saidT
  rw [List.not_all_eq_any_not]
  congr 1
  funext b
  rw [said_eq, Bool.not_not]
end Ch

theorem crune_any (R : Nat) (w : World) (h : R ≤ 1114111) : Calls Tryd.prog 52 #[.string ⟨#[13, 10, 32, 45, 34, 92]⟩, .int .i32 R] w fun e w' => e = .returned (.bool (Ch.cr R)) ∧ Below w.heap.size w w' := by
  obtain ⟨r, hr, HI⟩ : ∃ r : Int, decide (0 ≤ r) = Ch.cr R ∧ Calls Tryd.prog 60 #[.string ⟨#[13, 10, 32, 45, 34, 92]⟩, .int .i32 R] w fun e w' => e = .returned (.int .i64 r) ∧ Below w.heap.size w w' := by
    by_cases h1 : R < 128
    · exact ⟨_, by unfold Ch.cr; rw [decide_eq_true h1, Bool.true_and], idxC_low R w h1⟩
    · have hc : Ch.cr R = false := by unfold Ch.cr; rw [decide_eq_false h1]; rfl
      by_cases h2 : 55296 ≤ R ∧ R ≤ 57343
      · exact ⟨-1, by rw [hc]; rfl, idxC_bad R w h2⟩
      · by_cases h3 : R = 65533
        · subst h3; exact ⟨-1, by rw [hc]; rfl, idxC_error w⟩
        · exact ⟨-1, by rw [hc]; rfl, idxC_wide R w (by omega) h h3 h2⟩
  replace HI := Rg.hid HI
  rw [← hr]
  clear hr
  go_enter Tryd.func52, Tryd.ntmps52
  go_wp2_with (go_at_call 60; refine HI.out.mono ?_; rintro e w' ⟨rfl, b'⟩)
  go_ret
  exact ⟨rfl, b'⟩
theorem unsC_any (R : Nat) (w : World) (h : R ≤ 1114111) : Calls Tryd.prog 51 #[.int .i32 R] w fun e w' => e = .returned (.bool (Ch.unsaidR R)) ∧ Below w.heap.size w w' := by
  have HS : Hid (∀ W, Calls Tryd.prog 30 #[.int .i32 R] W fun e w' => e = .returned (.bool (Ch.odd R)) ∧ W = w') := fun W => (strange_any R h W).mono fun e w' h => ⟨h.1, h.2.symm⟩
  have HC : Hid (Calls Tryd.prog 52 #[.string ⟨#[13, 10, 32, 45, 34, 92]⟩, .int .i32 R] w fun e w' => e = .returned (.bool (Ch.cr R)) ∧ Below w.heap.size w w') := crune_any R w h
  unfold Ch.unsaidR
  cases hO : Ch.odd R
  · rw [hO] at HS
    clear hO h HC
    go_enter Tryd.func51, Tryd.ntmps51
    go_wp2_with (go_at_call 30; refine (HS.out _).mono ?_; rintro e w' ⟨rfl, rfl⟩)
    go_ret
    exact ⟨rfl, Below.refl _ _⟩
  · rw [hO] at HS
    generalize Ch.cr R = cc at *
    clear hO h
    go_enter Tryd.func51, Tryd.ntmps51
    go_wp2_with (first
      | (go_at_call 30; refine (HS.out _).mono ?_; rintro e w' ⟨rfl, rfl⟩)
      | (go_at_call 52; refine HC.out.mono ?_; rintro e w' ⟨rfl, b'⟩))
    go_ret
    exact ⟨by simp, b'⟩
theorem egU : ∀ args w, (callFunc 51 args).run Tryd.prog w = .ok (.enter 51 args) w := enters_of Tryd.func51 (by kernel_rfl) rfl
theorem unsaid_any (s : ByteArray) (w : World) : Calls Tryd.prog 36 #[.string s] w fun e w' => e = .returned (.bool (!Ch.saidT s)) ∧ Below w.heap.size w w' := by
  have HC0 := Any.strings_ContainsFunc_grows Tryd.laysGw17 51 #[] egU Ch.unsaidR s w (fun W x hx _ => unsC_any x W hx)
  rw [Ch.uns_idx, Ch.uns_all] at HC0
  have HC : Hid (Calls Tryd.prog 29 #[.string s, .func (.func 51) #[] #[]] w fun e w' => e = .returned (.bool (!Ch.saidT s)) ∧ Below w.heap.size w w') := HC0
  clear HC0
  generalize (!Ch.saidT s) = b at *
  go_enter Tryd.func36, Tryd.ntmps36
  go_wp2_with (go_at_call 29; refine HC.out.mono ?_; rintro e w' ⟨rfl, b'⟩)
  go_ret
  exact ⟨rfl, b'⟩
end Go.Proofs.YteepfifglafjmaaDoor
