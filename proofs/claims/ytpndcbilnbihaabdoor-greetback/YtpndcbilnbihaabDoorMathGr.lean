/-
  Plain mathematics of layer 9 (greet): wrapped texts, letters, the door. No program in it.
-/
import Derived.Test.YtpndcbilnbihaabDoorMathA
import Derived.Laws.RangeAny
import Derived.Lib.DecodeN
namespace Go.Proofs.YtpndcbilnbihaabDoor
namespace Gr

theorem at_getD (s : ByteArray) (i : Nat) (h : i < s.size) : s.data.toList.getD i 0 = s[i] := by
  rw [List.getD_eq_getElem?_getD, List.getElem?_eq_getElem (by simpa using h)]; rfl
theorem drop_at (s : ByteArray) (i : Nat) (h : i < s.size) : s.data.toList.drop i = s[i] :: s.data.toList.drop (i + 1) := by
  rw [List.drop_eq_getElem_cons (by simpa using h)]; rfl
theorem drop_end (s : ByteArray) (i : Nat) (h : ¬ i < s.size) : s.data.toList.drop i = [] := by
  rw [List.drop_eq_nil_iff]; simpa using h
theorem u8_eq {a : UInt8} {n : Nat} (hn : n < 256) (h : (a.toNat : Int) = (n : Int)) : a = UInt8.ofNat n := by
  apply UInt8.toNat_inj.1; rw [UInt8.toNat_ofNat']; omega
theorem u8_ne {a : UInt8} {n : Nat} (hn : n < 256) (h : ¬ (a.toNat : Int) = (n : Int)) : a ≠ UInt8.ofNat n := by
  intro e; rw [e, UInt8.toNat_ofNat'] at h; omega

/-! Wrap -/
def bad (c : UInt8) : Bool := c == 0 || c == 16
/-- P9.1 -/
def wrapOf (s : ByteArray) : ByteArray × Int :=
  if 300 < s.size then (⟨#[]⟩, 5) else if s.data.toList.any bad then (⟨#[]⟩, 3) else (⟨#[16]⟩ ++ s ++ ⟨#[0]⟩, 0)
theorem wrap_long {s : ByteArray} (h : 300 < s.size) : wrapOf s = (⟨#[]⟩, 5) := by unfold wrapOf; rw [if_pos h]
theorem wrap_form {s : ByteArray} (h : ¬ 300 < s.size) (hb : s.data.toList.any bad = true) : wrapOf s = (⟨#[]⟩, 3) := by
  unfold wrapOf; rw [if_neg h, if_pos hb]
theorem wrap_ok {s : ByteArray} (h : ¬ 300 < s.size) (hb : s.data.toList.any bad = false) : wrapOf s = (⟨#[16]⟩ ++ s ++ ⟨#[0]⟩, 0) := by
  unfold wrapOf; rw [if_neg h, if_neg (by simp [hb])]

/-! Scan -/
/-- P9.2, from place i on, k bytes being left; f: behind the last byte 16, or -1 -/
def scanR (s : ByteArray) : Nat → Nat → Int → ByteArray × ByteArray × Bool
  | 0, i, f => if 0 ≤ f ∧ (i : Int) - f ≤ 300 then (⟨#[]⟩, s.extract (f - 1).toNat s.size, false) else (⟨#[]⟩, ⟨#[]⟩, false)
  | k + 1, i, f =>
    if s.data.toList.getD i 0 = 16 then scanR s k (i + 1) (i + 1)
    else if s.data.toList.getD i 0 = 0 ∧ 0 ≤ f ∧ (i : Int) - f ≤ 300 then (s.extract f.toNat i, s.extract (i + 1) s.size, true)
    else scanR s k (i + 1) f
def scan (s : ByteArray) : ByteArray × ByteArray × Bool := scanR s s.size 0 (-1)
theorem scan_end {s : ByteArray} {i : Nat} {f : Int} (h : ¬ i < s.size) : scanR s (s.size - i) i f = if 0 ≤ f ∧ (i : Int) - f ≤ 300 then (⟨#[]⟩, s.extract (f - 1).toNat s.size, false) else (⟨#[]⟩, ⟨#[]⟩, false) := by
  rw [show s.size - i = 0 by omega]; rfl
theorem scan_step {s : ByteArray} {i : Nat} {f : Int} (h : i < s.size) : scanR s (s.size - i) i f =
    if s[i] = 16 then scanR s (s.size - (i + 1)) (i + 1) (i + 1)
    else if s[i] = 0 ∧ 0 ≤ f ∧ (i : Int) - f ≤ 300 then (s.extract f.toNat i, s.extract (i + 1) s.size, true)
    else scanR s (s.size - (i + 1)) (i + 1) f := by
  rw [show s.size - i = (s.size - (i + 1)) + 1 by omega, ← at_getD s i h]; rfl
/-- a beginning that is too far ahead is as none -/
theorem scan_far (s : ByteArray) : ∀ (k i : Nat) (f : Int), 0 ≤ f → 300 < (i : Int) - f → scanR s k i f = scanR s k i (-1)
  | 0, i, f, h0, h => by
    show (if _ then _ else _) = (if _ then _ else _)
    rw [if_neg (by omega), if_neg (by omega)]
  | k + 1, i, f, h0, h => by
    show (if _ then _ else if _ then _ else _) = (if _ then _ else if _ then _ else _)
    by_cases h16 : s.data.toList.getD i 0 = 16
    · rw [if_pos h16, if_pos h16]
    · rw [if_neg h16, if_neg h16, if_neg (by omega), if_neg (by omega)]
      exact scan_far s k (i + 1) f h0 (by push_cast; omega)

/-! letters -/
def known (c : UInt8) : Bool := c == 103 || c == 71 || c == 105 || c == 101
def gGie : List UInt8 := [103, 71, 105, 101]
/-- some protocols, each once -/
def distinct : List UInt8 → Bool
  | [] => true
  | c :: r => !r.contains c && distinct r
def letters (l : List UInt8) : Bool := l.all known && distinct l && !l.isEmpty
def choose (offer hav : List UInt8) : Int :=
  match hav.find? (fun c => known c && offer.contains c) with
  | some c => (c.toNat : Int)
  | none => 0
/-! bytes above 127 are no letters, and a rune that is no ASCII has no others -/
theorem known_high {c : UInt8} (h : 128 ≤ c.toNat) : known c = false := by
  cases e : known c with
  | false => rfl
  | true => simp [known] at e; rcases e with ((rfl | rfl) | rfl) | rfl <;> simp at h

/-! the door -/
structure D where
  stage : Int
  typed : ByteArray
  name : ByteArray
  wrong : Int
def askName : ByteArray := ⟨#[108, 111, 103, 105, 110, 58, 32]⟩
def askPw : ByteArray := ⟨#[80, 97, 115, 115, 119, 111, 114, 100, 58, 32]⟩
def incorrect : ByteArray := ⟨#[76, 111, 103, 105, 110, 32, 105, 110, 99, 111, 114, 114, 101, 99, 116, 13, 10]⟩
def line (login pw : ByteArray) (d : D) : D × ByteArray :=
  if d.stage = 1 then
    if d.name = login ∧ d.typed = pw then (⟨2, ⟨#[]⟩, d.name, d.wrong⟩, ⟨#[]⟩)
    else if 2 < d.wrong + 1 then (⟨3, ⟨#[]⟩, ⟨#[]⟩, d.wrong + 1⟩, incorrect)
    else (⟨0, ⟨#[]⟩, ⟨#[]⟩, d.wrong + 1⟩, incorrect ++ askName)
  else if d.typed = ⟨#[]⟩ then (⟨d.stage, ⟨#[]⟩, d.name, d.wrong⟩, askName)
  else (⟨1, ⟨#[]⟩, d.typed, d.wrong⟩, askPw)
def put (c : UInt8) (d : D) : D := if d.typed.size < 60 then { d with typed := d.typed ++ ⟨#[c]⟩ } else d
def typeL (login pw : ByteArray) : List UInt8 → D → D × List UInt8 × List UInt8
  | [], d => (d, [], [])
  | c :: r, d =>
    if d.stage = 2 then (d, [], c :: r)
    else if ¬ (d.stage = 0 ∨ d.stage = 1) then (d, [], [])
    else if c = 13 ∨ c = 10 then
      ((typeL login pw r (line login pw d).1).1, (line login pw d).2.data.toList ++ (typeL login pw r (line login pw d).1).2.1, (typeL login pw r (line login pw d).1).2.2)
    else typeL login pw r (put c d)
/-- a door as it comes of a knock -/
structure Good (d : D) : Prop where
  wrong0 : 0 ≤ d.wrong
  wrong3 : d.wrong ≤ 3
  open_ : d.stage = 0 ∨ d.stage = 1 → d.wrong ≤ 2
  typed : d.typed.size ≤ 60
  name : d.name.size ≤ 60
theorem good_zero : Good ⟨0, ⟨#[]⟩, ⟨#[]⟩, 0⟩ := ⟨by decide, by decide, fun _ => by decide, by decide, by decide⟩
theorem good_put {d : D} (c : UInt8) (h : Good d) : Good (put c d) := by
  unfold put; split
  · refine ⟨h.wrong0, h.wrong3, h.open_, ?_, h.name⟩
    show (d.typed ++ ⟨#[c]⟩).size ≤ 60
    rw [ByteArray.size_append]
    have : (⟨#[c]⟩ : ByteArray).size = 1 := rfl
    omega
  · exact h
theorem good_line {d : D} (login pw : ByteArray) (h : Good d) (hs : d.stage = 0 ∨ d.stage = 1) : Good (line login pw d).1 := by
  have e0 : (⟨#[]⟩ : ByteArray).size ≤ 60 := by decide
  have h0 := h.wrong0; have h2 := h.open_ hs; have hn := h.name; have ht := h.typed
  unfold line
  split
  · split
    · exact ⟨h0, h.wrong3, fun e => by rcases e with e | e <;> simp at e, e0, hn⟩
    · split
      · exact ⟨by show 0 ≤ d.wrong + 1; omega, by show d.wrong + 1 ≤ 3; omega, fun e => by rcases e with e | e <;> simp at e, e0, e0⟩
      · exact ⟨by show 0 ≤ d.wrong + 1; omega, by show d.wrong + 1 ≤ 3; omega, fun e => by show d.wrong + 1 ≤ 2; omega, e0, e0⟩
  · split
    · exact ⟨h0, h.wrong3, fun e => h2, e0, hn⟩
    · exact ⟨h0, h.wrong3, fun e => h2, e0, ht⟩
theorem good_type (login pw : ByteArray) : ∀ (l : List UInt8) (d : D), Good d → Good (typeL login pw l d).1
  | [], d, h => h
  | c :: r, d, h => by
    unfold typeL
    split
    · exact h
    · split
      · exact h
      · rename_i hs
        split
        · exact good_type login pw r _ (good_line login pw h (Classical.not_not.1 hs))
        · exact good_type login pw r _ (good_put c h)
theorem type_nil (login pw : ByteArray) (d : D) : typeL login pw [] d = (d, [], []) := rfl
theorem type_in {login pw : ByteArray} {c : UInt8} {r : List UInt8} {d : D} (h : d.stage = 2) : typeL login pw (c :: r) d = (d, [], c :: r) := by
  rw [typeL, if_pos h]
theorem type_shut {login pw : ByteArray} {c : UInt8} {r : List UInt8} {d : D} (h : d.stage ≠ 2) (hs : ¬ (d.stage = 0 ∨ d.stage = 1)) : typeL login pw (c :: r) d = (d, [], []) := by
  rw [typeL, if_neg h, if_pos hs]
theorem type_line {login pw : ByteArray} {c : UInt8} {r : List UInt8} {d : D} (hs : d.stage = 0 ∨ d.stage = 1) (hc : c = 13 ∨ c = 10) : typeL login pw (c :: r) d =
    ((typeL login pw r (line login pw d).1).1, (line login pw d).2.data.toList ++ (typeL login pw r (line login pw d).1).2.1, (typeL login pw r (line login pw d).1).2.2) := by
  rw [typeL, if_neg (by omega), if_neg (by simp only [Classical.not_not]; exact hs), if_pos hc]
theorem type_put {login pw : ByteArray} {c : UInt8} {r : List UInt8} {d : D} (hs : d.stage = 0 ∨ d.stage = 1) (hc : ¬ (c = 13 ∨ c = 10)) : typeL login pw (c :: r) d = typeL login pw r (put c d) := by
  rw [typeL, if_neg (by omega), if_neg (by simp only [Classical.not_not]; exact hs), if_neg hc]
/-- P9.11: in whatever pieces -/
theorem type_app (login pw : ByteArray) : ∀ (l m : List UInt8) (d : D), typeL login pw (l ++ m) d =
    ((typeL login pw m (typeL login pw l d).1).1, (typeL login pw l d).2.1 ++ (typeL login pw m (typeL login pw l d).1).2.1, (typeL login pw l d).2.2 ++ (typeL login pw m (typeL login pw l d).1).2.2)
  | [], m, d => by simp [type_nil]
  | c :: r, m, d => by
    rw [List.cons_append]
    by_cases h2 : d.stage = 2
    · rw [type_in h2, type_in h2]
      cases m with
      | nil => simp [type_nil]
      | cons x y => rw [type_in h2]; simp
    · by_cases hs : d.stage = 0 ∨ d.stage = 1
      · by_cases hc : c = 13 ∨ c = 10
        · rw [type_line hs hc, type_line hs hc, type_app login pw r m (line login pw d).1]
          simp only [List.append_assoc]
        · rw [type_put hs hc, type_put hs hc, type_app login pw r m (put c d)]
      · rw [type_shut h2 hs, type_shut h2 hs]
        cases m with
        | nil => simp [type_nil]
        | cons x y => rw [type_shut h2 hs]; simp
end Gr
end Go.Proofs.YtpndcbilnbihaabDoor
