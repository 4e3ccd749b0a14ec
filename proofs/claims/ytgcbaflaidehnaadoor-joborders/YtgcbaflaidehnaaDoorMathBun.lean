/-
  Plain mathematics of layer 1 (octet), first part: what Number and Get answer, as functions on lists of bytes. No program in it. Mathematics of layer 1: digits, written and read. Mathematics of layer 3: names of systems, grades, ids, names of files. Paths (layer 4) in plain mathematics, over lists of bytes: parts, a path, the path that a text means, under. Mathematics of layer 5: which jobs may be, their texts, and the job that a text says.
-/
import Derived.Lib.ItoaNum
import Derived.Lib.ItoaMem
import Derived.Lib.Split
import Derived.Lib.SplitLaws
import Derived.Lib.Join
namespace Go.Proofs.YtgcbaflaidehnaaDoor
namespace Oct

def isDig (c : UInt8) : Bool := decide (48 ≤ c.toNat ∧ c.toNat ≤ 57)
theorem isDig_true {c : UInt8} (h0 : 48 ≤ (c.toNat : Int)) (h1 : (c.toNat : Int) ≤ 57) : isDig c = true := by
  unfold isDig; exact decide_eq_true ⟨by omega, by omega⟩
theorem isDig_low {c : UInt8} (h : (c.toNat : Int) < 48) : isDig c = false := by
  unfold isDig; exact decide_eq_false (by omega)
theorem isDig_high {c : UInt8} (h : 57 < (c.toNat : Int)) : isDig c = false := by
  unfold isDig; exact decide_eq_false (by omega)
theorem isDig_le {c : UInt8} (h : isDig c = true) : 48 ≤ c.toNat ∧ c.toNat ≤ 57 := of_decide_eq_true h

def areDig (l : List UInt8) : Bool := l.all isDig && !l.isEmpty
def numTo (l : List UInt8) : Nat := l.foldl (fun n c => n * 10 + (c.toNat - 48)) 0
theorem numTo_snoc (l : List UInt8) (c : UInt8) : numTo (l ++ [c]) = numTo l * 10 + (c.toNat - 48) := by
  unfold numTo; rw [List.foldl_append]; rfl
theorem numTo_nil : numTo [] = 0 := rfl

theorem take_snoc (s : ByteArray) (k : Nat) (h : k < s.size) : s.data.toList.take (k + 1) = s.data.toList.take k ++ [s[k]] := by
  rw [List.take_succ_eq_append_getElem (by simpa using h)]; rfl
theorem take_all (s : ByteArray) (k : Nat) (h : s.size ≤ k) : s.data.toList.take k = s.data.toList := by
  rw [List.take_of_length_le (by simpa using h)]
theorem all_snoc (s : ByteArray) (k : Nat) (h : k < s.size) (h1 : (s.data.toList.take k).all isDig = true) (h2 : isDig s[k] = true) :
    (s.data.toList.take (k + 1)).all isDig = true := by
  rw [take_snoc s k h, List.all_append, h1]; simp [h2]
theorem mem_at (s : ByteArray) (k : Nat) (h : k < s.size) : s[k] ∈ s.data.toList := by
  have e : s[k] = s.data.toList[k]'(by simpa using h) := rfl
  rw [e]; exact List.getElem_mem _
theorem all_not (s : ByteArray) (k : Nat) (h : k < s.size) (h2 : isDig s[k] = false) : s.data.toList.all isDig = false := by
  rw [List.all_eq_false]; exact ⟨s[k], mem_at s k h, by simp [h2]⟩
theorem areDig_not (s : ByteArray) (k : Nat) (h : k < s.size) (h2 : isDig s[k] = false) : areDig s.data.toList = false := by
  unfold areDig; rw [all_not s k h h2]; rfl
theorem foldNum_lt : ∀ (l : List UInt8) (a : Nat), l.all isDig = true → l.foldl (fun n c => n * 10 + (c.toNat - 48)) a < (a + 1) * 10 ^ l.length
  | [], a, _ => by simp
  | c :: l, a, h => by
    rw [List.all_cons, Bool.and_eq_true] at h
    have h2 := isDig_le h.1
    have h1 := foldNum_lt l (a * 10 + (c.toNat - 48)) h.2
    rw [List.foldl_cons, List.length_cons, Nat.pow_succ]
    refine Nat.lt_of_lt_of_le h1 ?_
    rw [Nat.mul_comm (10 ^ l.length) 10, ← Nat.mul_assoc]
    exact Nat.mul_le_mul_right _ (by omega)
theorem numTo_lt (l : List UInt8) (h : l.all isDig = true) : numTo l < 10 ^ l.length := by
  have := foldNum_lt l 0 h
  unfold numTo; simpa using this
/-- P1.2: the number that a text says, and the error's number. -/
def number (l : List UInt8) : Nat × Nat :=
  if areDig l = false ∨ (1 < l.length ∧ l.headD 0 = 48) then (0, 3)
  else if 13 < l.length then (0, 5) else if 1099511627776 < numTo l then (0, 5) else (numTo l, 0)
theorem number_form {l : List UInt8} (h : areDig l = false) : number l = (0, 3) := by unfold number; rw [if_pos (Or.inl h)]
theorem number_zero {l : List UInt8} (h : 1 < l.length) (h0 : l.headD 0 = 48) : number l = (0, 3) := by unfold number; rw [if_pos (Or.inr ⟨h, h0⟩)]
theorem number_else {l : List UInt8} (h : areDig l = true) (h0 : ¬ (1 < l.length ∧ l.headD 0 = 48)) :
    number l = if 13 < l.length then (0, 5) else if 1099511627776 < numTo l then (0, 5) else (numTo l, 0) := by
  unfold number; rw [if_neg (by simp only [h, Bool.true_eq_false, false_or]; exact h0)]
theorem headD_getElem : ∀ (l : List UInt8) (h : 0 < l.length), l.headD 0 = l[0]
  | [], h => by simp at h
  | a :: r, _ => rfl
theorem headD_at (s : ByteArray) (h : 0 < s.size) : s.data.toList.headD 0 = s[0] :=
  headD_getElem s.data.toList (by simpa using h)
theorem len_eq (s : ByteArray) : s.data.toList.length = s.size := Array.length_toList
theorem areDig_pos {l : List UInt8} (h : areDig l = true) : 0 < l.length := by
  unfold areDig at h; cases l with
  | nil => simp at h
  | cons a r => simp
theorem areDig_all {l : List UInt8} (h : areDig l = true) : l.all isDig = true := by
  unfold areDig at h; rw [Bool.and_eq_true] at h; exact h.1
theorem areDig_mk {l : List UInt8} (h : l.all isDig = true) (h0 : 0 < l.length) : areDig l = true := by
  unfold areDig; rw [h]; cases l with
  | nil => simp at h0
  | cons a r => rfl
theorem take_dig (s : ByteArray) (k : Nat) (h : k < s.size) (ha : s.data.toList.all isDig = true) : isDig s[k] = true :=
  List.all_eq_true.1 ha _ (mem_at s k h)
theorem numTo_take (s : ByteArray) (k : Nat) (h : k < s.size) (ha : s.data.toList.all isDig = true) :
    (numTo (s.data.toList.take (k + 1)) : Int) = (numTo (s.data.toList.take k) : Int) * 10 + ((s[k].toNat : Int) - 48) := by
  have h1 := isDig_le (take_dig s k h ha)
  rw [take_snoc s k h, numTo_snoc]; omega
theorem numTo_take_lt (s : ByteArray) (k : Nat) (hk : k ≤ 13) (ha : s.data.toList.all isDig = true) : numTo (s.data.toList.take k) < 10000000000000 := by
  have h1 : (s.data.toList.take k).all isDig = true := by
    rw [List.all_eq_true] at ha ⊢; intro x hx; exact ha x (List.mem_of_mem_take hx)
  have h2 := numTo_lt _ h1
  have h3 : (s.data.toList.take k).length ≤ 13 := by simp; omega
  have h4 : (10 : Nat) ^ (s.data.toList.take k).length ≤ 10 ^ 13 := Nat.pow_le_pow_right (by omega) h3
  have h5 : (10 : Nat) ^ 13 = 10000000000000 := by decide
  omega
end Oct
end Go.Proofs.YtgcbaflaidehnaaDoor

namespace Go.Proofs.YtgcbaflaidehnaaDoor
namespace Oct
theorem all_of_fin {p : UInt8 → Prop} (h : ∀ n : Fin 256, p (UInt8.ofNat n.val)) (c : UInt8) : p c := by
  have := h ⟨c.toNat, c.toNat_lt⟩
  rwa [show UInt8.ofNat c.toNat = c from UInt8.ofNat_toNat] at this

/-! ### Digits -/
theorem pow_le_of_digits (n : Nat) : ∀ width, width < Lib.nDigits n → 1 ≤ width → 10 ^ width ≤ n := by
  induction n using Nat.strongRecOn with
  | ind n ih =>
    intro width h h1
    by_cases h10 : n < 10
    · rw [Lib.nDigits_small h10] at h; omega
    · rw [Lib.nDigits_big h10] at h
      by_cases hw : width = 1
      · subst hw; omega
      · have := ih (n / 10) (by omega) (width - 1) (by omega) (by omega)
        have e : (10 : Nat) ^ width = 10 ^ (width - 1) * 10 := by rw [← Nat.pow_succ]; congr 1; omega
        rw [e]; omega

theorem dec_big {n : Nat} (h : ¬ n < 10) : Lib.decDigits n = Lib.decDigits (n / 10) ++ [UInt8.ofNat (48 + n % 10)] := by
  rw [Lib.decDigits, dif_neg h]
theorem dec_small {n : Nat} (h : n < 10) : Lib.decDigits n = [UInt8.ofNat (48 + n)] := by rw [Lib.decDigits, dif_pos h]
theorem dig_toNat (d : Nat) (h : d < 10) : (UInt8.ofNat (48 + d)).toNat = 48 + d := by rw [UInt8.toNat_ofNat']; omega
theorem dec_facts (n : Nat) : numTo (Lib.decDigits n) = n ∧ (Lib.decDigits n).all isDig = true ∧ Lib.decDigits n ≠ [] ∧ (1 ≤ n → (Lib.decDigits n).headD 0 ≠ 48) := by
  induction n using Nat.strongRecOn with
  | ind n ih =>
    by_cases h : n < 10
    · rw [dec_small h]
      have e := dig_toNat n h
      refine ⟨?_, ?_, by simp, ?_⟩
      · simp [numTo]; omega
      · simp only [List.all_cons, List.all_nil, Bool.and_true]; exact isDig_true (by rw [e]; omega) (by rw [e]; omega)
      · intro h1 h2
        have : (UInt8.ofNat (48 + n)).toNat = 48 := by simp at h2; rw [show UInt8.ofNat (48 + n) = 48 by simpa using h2]; rfl
        omega
    · obtain ⟨i1, i2, i3, i4⟩ := ih (n / 10) (by omega)
      rw [dec_big h]
      have e := dig_toNat (n % 10) (by omega)
      refine ⟨?_, ?_, by simp, ?_⟩
      · rw [numTo_snoc, i1, e]; omega
      · rw [List.all_append, i2]; simp only [List.all_cons, List.all_nil, Bool.and_true, Bool.true_and]; exact isDig_true (by rw [e]; omega) (by rw [e]; omega)
      · intro _
        have h1 := i4 (by omega)
        cases hd : Lib.decDigits (n / 10) with
        | nil => exact absurd hd i3
        | cons a r => rw [hd] at h1; simpa using h1
theorem number_itoa {n : Nat} (h : n ≤ 1099511627776) : number (Lib.itoa (n : Int)) = (n, 0) := by
  rw [Lib.itoa_nonneg]
  obtain ⟨h1, h2, h3, h4⟩ := dec_facts n
  have hl : (Lib.decDigits n).length ≤ 13 := by
    rw [Lib.decDigits_length]
    rcases Nat.lt_or_ge 13 (Lib.nDigits n) with hx | hx
    · have := pow_le_of_digits n 13 hx (by omega)
      have e : (10 : Nat) ^ 13 = 10000000000000 := by decide
      omega
    · exact hx
  have hz : ¬ (1 < (Lib.decDigits n).length ∧ (Lib.decDigits n).headD 0 = 48) := by
    rintro ⟨hx, hy⟩
    by_cases hn : 1 ≤ n
    · exact h4 hn hy
    · have : n = 0 := by omega
      subst this
      rw [dec_small (by decide)] at hx
      simp at hx
  rw [number_else (areDig_mk h2 (List.length_pos_iff.2 h3)) hz, if_neg (by omega), h1, if_neg (by omega)]
theorem number_neg {n : Int} (h : n < 0) : number (Lib.itoa n) = (0, 3) := by
  apply number_form
  unfold Lib.itoa areDig
  rw [if_pos h]
  rw [List.all_cons]
  have : isDig 45 = false := by decide
  rw [this]; rfl
theorem numTo_ge {a : UInt8} {r : List UInt8} (hd : (a :: r).all isDig = true) (h : a ≠ 48) : 1 ≤ numTo (a :: r) := by
  have h1 : isDig a = true := by rw [List.all_cons, Bool.and_eq_true] at hd; exact hd.1
  have h2 := isDig_le h1
  have h3 : a.toNat ≠ 48 := fun e => h (UInt8.toNat_inj.1 (by show a.toNat = 48; exact e))
  have key : ∀ (l : List UInt8) (x : Nat), 1 ≤ x → 1 ≤ l.foldl (fun n c => n * 10 + (c.toNat - 48)) x := by
    intro l
    induction l with
    | nil => intro x hx; exact hx
    | cons c t ih => intro x hx; rw [List.foldl_cons]; exact ih _ (by omega)
  unfold numTo
  rw [List.foldl_cons]
  exact key r _ (by omega)
theorem dec_back : ∀ (r : List UInt8), r ≠ [] → r.reverse.all isDig = true → (1 < r.length → r.reverse.headD 0 ≠ 48) → Lib.decDigits (numTo r.reverse) = r.reverse := by
  intro r
  induction r with
  | nil => intro h; exact absurd rfl h
  | cons c t ih =>
    intro _ hall hz
    rw [List.reverse_cons] at hall hz ⊢
    rw [List.all_append, Bool.and_eq_true] at hall
    have hc := isDig_le (c := c) (by simpa using hall.2)
    have ec : UInt8.ofNat (48 + (c.toNat - 48)) = c := by
      rw [show 48 + (c.toNat - 48) = c.toNat by omega]; exact UInt8.ofNat_toNat
    rw [numTo_snoc]
    by_cases ht : t = []
    · subst ht
      simp only [List.reverse_nil, numTo_nil, List.nil_append, Nat.zero_mul, Nat.zero_add]
      rw [dec_small (by omega), ec]
    · have hz' : t.reverse.headD 0 ≠ 48 := by
        have := hz (by rw [List.length_cons]; have := List.length_pos_iff.2 ht; omega)
        cases hr : t.reverse with
        | nil => exact absurd (List.reverse_eq_nil_iff.1 hr) ht
        | cons a u => rw [hr] at this; simpa using this
      have h1 : 1 ≤ numTo t.reverse := by
        cases hr : t.reverse with
        | nil => exact absurd (List.reverse_eq_nil_iff.1 hr) ht
        | cons a u => rw [hr] at hz' hall; exact numTo_ge hall.1 (by simpa using hz')
      rw [dec_big (by omega)]
      have e1 : (numTo t.reverse * 10 + (c.toNat - 48)) / 10 = numTo t.reverse := by omega
      have e2 : (numTo t.reverse * 10 + (c.toNat - 48)) % 10 = c.toNat - 48 := by omega
      rw [e1, e2, ih ht hall.1 (fun _ => hz'), ec]
theorem number_back {l : List UInt8} (h : (number l).2 = 0) : Lib.itoa ((number l).1 : Int) = l ∧ (number l).1 ≤ 1099511627776 := by
  by_cases hf : areDig l = false ∨ (1 < l.length ∧ l.headD 0 = 48)
  · unfold number at h; rw [if_pos hf] at h; simp at h
  · have hd : areDig l = true := by
      cases hx : areDig l with
      | true => rfl
      | false => exact absurd (Or.inl hx) hf
    have hz : ¬ (1 < l.length ∧ l.headD 0 = 48) := fun x => hf (Or.inr x)
    have e := number_else hd hz
    rw [e] at h ⊢
    split at h
    · simp at h
    · split at h
      · simp at h
      · rename_i h13 hbig
        rw [if_neg h13, if_neg hbig]
        refine ⟨?_, by show numTo l ≤ _; omega⟩
        rw [Lib.itoa_nonneg]
        have := dec_back l.reverse (by intro e0; have := areDig_pos hd; rw [List.reverse_eq_nil_iff.1 e0] at this; simp at this) (by rw [List.reverse_reverse]; exact areDig_all hd)
          (by intro hl; rw [List.reverse_reverse]; intro hy; exact hz ⟨by simpa using hl, hy⟩)
        rw [List.reverse_reverse] at this
        exact this

end Oct
end Go.Proofs.YtgcbaflaidehnaaDoor

namespace Go.Proofs.YtgcbaflaidehnaaDoor
namespace Nam

def dg (c : Int) : Bool := decide (48 ≤ c) && decide (c ≤ 57)
def gt (c : Int) : Bool := decide (65 ≤ c) && decide (c ≤ 90)
def sm (c : Int) : Bool := decide (97 ≤ c) && decide (c ≤ 122)
/-- P3.2: a grade. -/
def grade (c : Int) : Bool := dg c || gt c || sm c
def okc (c : UInt8) : Bool := dg (c.toNat : Int) || sm (c.toNat : Int)
/-- P3.1: a system's name. -/
def system (l : List UInt8) : Bool := decide (1 ≤ l.length) && decide (l.length ≤ 7) && !dg ((l.headD 0).toNat : Int) && l.all okc
/-- P3.2: an id that may be. -/
def may (g n : Int) : Bool := grade g && decide (1 ≤ n) && decide (n ≤ 99999)
def byteOf (x : Int) : UInt8 := UInt8.ofNat x.toNat
def idT (g n : Int) : List UInt8 := byteOf g :: Lib.itoa n
/-- P3.2: Id. -/
def id (g n : Int) : List UInt8 × Int := if may g n then (idT g n, 0) else ([], 1)
/-- P3.2: ParseId: grade, number, error. -/
def pid : List UInt8 → Int × Int × Int
  | [] => (0, 0, 3)
  | c :: r => if (Oct.number r).2 = 0 ∧ may (c.toNat : Int) ((Oct.number r).1 : Int) = true then ((c.toNat : Int), ((Oct.number r).1 : Int), 0) else (0, 0, 3)
def fk (k : Int) : Bool := k == 67 || k == 68 || k == 69 || k == 70 || k == 79 || k == 84 || k == 85 || k == 88
def nk (k : Int) : Bool := k == 81 || k == 83
def sysT (k : Int) (s : List UInt8) : List UInt8 := byteOf k :: 46 :: s
def fileT (k : Int) (s : List UInt8) (g n : Int) : List UInt8 := sysT k s ++ 46 :: idT g n
/-- P3.4: File. -/
def file (k : Int) (s : List UInt8) (g n : Int) : List UInt8 × Int :=
  if fk k = false then ([], 1) else if system s = false then ([], 11) else if may g n = false then ([], 1) else (fileT k s g n, 0)
/-- P3.5: Note. -/
def note (k : Int) (s : List UInt8) : List UInt8 × Int :=
  if nk k = false then ([], 1) else if system s = false then ([], 11) else (sysT k s, 0)
def np (c : UInt8) : Bool := c != 46
def pre (l : List UInt8) : List UInt8 := l.takeWhile np
def post (l : List UInt8) : List UInt8 := (l.dropWhile np).drop 1
/-- P3.4: ParseFile: kind, system, grade, number, error. -/
def pfile (l : List UInt8) : Int × List UInt8 × Int × Int × Int :=
  if (pre l).length = 1 ∧ fk (((pre l).headD 0).toNat : Int) = true ∧ system (pre (post l)) = true ∧ (pid (post (post l))).2.2 = 0 then
    ((((pre l).headD 0).toNat : Int), pre (post l), (pid (post (post l))).1, (pid (post (post l))).2.1, 0)
  else (0, [], 0, 0, 3)

theorem may_iff {g n : Int} : may g n = true ↔ grade g = true ∧ 1 ≤ n ∧ n ≤ 99999 := by
  simp [may, Bool.and_eq_true, and_assoc]
theorem grade_bd {g : Int} (h : grade g = true) : 48 ≤ g ∧ g ≤ 122 := by
  simp [grade, dg, gt, sm] at h; omega
theorem byteOf_toNat {g : Int} (h0 : 0 ≤ g) (h1 : g < 256) : ((byteOf g).toNat : Int) = g := by
  unfold byteOf; rw [UInt8.toNat_ofNat']; omega
theorem byteOf_back (c : UInt8) : byteOf (c.toNat : Int) = c := by
  unfold byteOf; rw [Int.toNat_natCast]; exact UInt8.ofNat_toNat
theorem fk_bd {k : Int} (h : fk k = true) : 67 ≤ k ∧ k ≤ 88 := by
  simp [fk] at h; omega
theorem nk_bd {k : Int} (h : nk k = true) : 81 ≤ k ∧ k ≤ 83 := by
  simp [nk] at h; omega

/-! ### Ids -/
theorem pid_fail (l : List UInt8) : (pid l).2.2 = 0 ∨ pid l = (0, 0, 3) := by
  cases l with
  | nil => right; rfl
  | cons c r => by_cases h : (Oct.number r).2 = 0 ∧ may (c.toNat : Int) ((Oct.number r).1 : Int) = true
                · left; rw [pid, if_pos h]
                · right; rw [pid, if_neg h]
theorem pid_id {g n : Int} (h : may g n = true) : pid (idT g n) = (g, n, 0) := by
  obtain ⟨hg, h1, h2⟩ := may_iff.1 h
  obtain ⟨b0, b1⟩ := grade_bd hg
  have hb : ((byteOf g).toNat : Int) = g := byteOf_toNat (by omega) (by omega)
  obtain ⟨q, rfl⟩ := Int.eq_ofNat_of_zero_le (show 0 ≤ n by omega)
  have hq := Oct.number_itoa (n := q) (by omega)
  rw [idT, pid, hq, hb, if_pos ⟨rfl, h⟩]
theorem id_pid {l : List UInt8} (h : (pid l).2.2 = 0) : may (pid l).1 (pid l).2.1 = true ∧ idT (pid l).1 (pid l).2.1 = l := by
  cases l with
  | nil => exact absurd h (by decide)
  | cons c r =>
    by_cases hc : (Oct.number r).2 = 0 ∧ may (c.toNat : Int) ((Oct.number r).1 : Int) = true
    · have e : pid (c :: r) = ((c.toNat : Int), ((Oct.number r).1 : Int), 0) := by rw [pid, if_pos hc]
      rw [e]
      refine ⟨hc.2, ?_⟩
      show byteOf (c.toNat : Int) :: Lib.itoa ((Oct.number r).1 : Int) = c :: r
      rw [(Oct.number_back hc.1).1, byteOf_back]
    · have e : pid (c :: r) = (0, 0, 3) := by rw [pid, if_neg hc]
      rw [e] at h
      exact absurd h (by decide : ¬ ((3 : Int) = 0))

/-! ### Points -/
theorem takeWhile_app {p : UInt8 → Bool} {a : List UInt8} {c : UInt8} {r : List UInt8} (ha : a.all p = true) (hc : p c = false) : (a ++ c :: r).takeWhile p = a := by
  induction a with
  | nil => simp [hc]
  | cons x t ih => simp only [List.all_cons, Bool.and_eq_true] at ha; rw [List.cons_append, List.takeWhile_cons, if_pos ha.1, ih ha.2]
theorem dropWhile_app {p : UInt8 → Bool} {a : List UInt8} {c : UInt8} {r : List UInt8} (ha : a.all p = true) (hc : p c = false) : (a ++ c :: r).dropWhile p = c :: r := by
  induction a with
  | nil => simp [hc]
  | cons x t ih => simp only [List.all_cons, Bool.and_eq_true] at ha; rw [List.cons_append, List.dropWhile_cons, if_pos ha.1, ih ha.2]
theorem np46 : np 46 = false := by decide
theorem pre_app {a r : List UInt8} (ha : a.all np = true) : pre (a ++ 46 :: r) = a := takeWhile_app ha np46
theorem post_app {a r : List UInt8} (ha : a.all np = true) : post (a ++ 46 :: r) = r := by unfold post; rw [dropWhile_app ha np46]; rfl
theorem pre_all {a : List UInt8} (ha : a.all np = true) : pre a = a := by
  induction a with
  | nil => rfl
  | cons x t ih => simp only [List.all_cons, Bool.and_eq_true] at ha; unfold pre at *; rw [List.takeWhile_cons, if_pos ha.1, ih ha.2]
theorem post_all {a : List UInt8} (ha : a.all np = true) : post a = [] := by
  induction a with
  | nil => rfl
  | cons x t ih => simp only [List.all_cons, Bool.and_eq_true] at ha; unfold post at *; rw [List.dropWhile_cons, if_pos ha.1, ih ha.2]
/-- A text is what stands ahead of its first point, and, if there is one, the point and what stands behind. -/
theorem pre_np (l : List UInt8) : (pre l).all np = true := by
  induction l with
  | nil => rfl
  | cons x t ih =>
    unfold pre at *
    rw [List.takeWhile_cons]
    by_cases h : np x = true
    · rw [if_pos h, List.all_cons, h, ih]; rfl
    · rw [if_neg h]; rfl
theorem cut_cases (l : List UInt8) : (l.all np = true ∧ pre l = l ∧ post l = []) ∨ l = pre l ++ 46 :: post l := by
  induction l with
  | nil => left; exact ⟨rfl, rfl, rfl⟩
  | cons x t ih =>
    by_cases h : np x = true
    · have e1 : pre (x :: t) = x :: pre t := by unfold pre; rw [List.takeWhile_cons, if_pos h]
      have e2 : post (x :: t) = post t := by unfold post; rw [List.dropWhile_cons, if_pos h]
      rcases ih with ⟨a, b, c⟩ | ih
      · left; exact ⟨by rw [List.all_cons, h, a]; rfl, by rw [e1, b], by rw [e2, c]⟩
      · right; rw [e1, e2, List.cons_append, ← ih]
    · have hx : x = 46 := by simpa [np] using h
      right
      have e1 : pre (x :: t) = [] := by unfold pre; rw [List.takeWhile_cons, if_neg h]
      have e2 : post (x :: t) = t := by unfold post; rw [List.dropWhile_cons, if_neg h]; rfl
      rw [e1, e2, hx]; rfl
theorem okc_np {c : UInt8} (h : okc c = true) : np c = true := by
  cases e : np c with
  | true => rfl
  | false =>
    have hx : c = 46 := by simpa [np] using e
    subst hx
    exact absurd h (by decide)
theorem system_np {l : List UInt8} (h : system l = true) : l.all np = true := by
  have h2 : l.all okc = true := by unfold system at h; simp only [Bool.and_eq_true] at h; exact h.2
  rw [List.all_eq_true] at h2 ⊢
  exact fun x hx => okc_np (h2 x hx)
theorem system_len {l : List UInt8} (h : system l = true) : 1 ≤ l.length ∧ l.length ≤ 7 := by
  unfold system at h; simp only [Bool.and_eq_true, decide_eq_true_eq] at h; exact ⟨h.1.1.1, h.1.1.2⟩
theorem fk_np {k : Int} (h : fk k = true) : np (byteOf k) = true := by
  obtain ⟨h0, h1⟩ := fk_bd h
  cases e : np (byteOf k) with
  | true => rfl
  | false =>
    have hx : byteOf k = 46 := by simpa [np] using e
    have := byteOf_toNat (g := k) (by omega) (by omega)
    rw [hx] at this
    have h46 : ((46 : UInt8).toNat : Int) = 46 := rfl
    omega

/-! ### Files -/
theorem pfile_file {k : Int} {s : List UInt8} {g n : Int} (hk : fk k = true) (hs : system s = true) (hm : may g n = true) : pfile (fileT k s g n) = (k, s, g, n, 0) := by
  have e : fileT k s g n = [byteOf k] ++ 46 :: (s ++ 46 :: idT g n) := by unfold fileT sysT; simp
  have p1 : pre (fileT k s g n) = [byteOf k] := by rw [e]; exact pre_app (by simp [fk_np hk])
  have p2 : post (fileT k s g n) = s ++ 46 :: idT g n := by rw [e]; exact post_app (by simp [fk_np hk])
  have p3 : pre (s ++ 46 :: idT g n) = s := pre_app (system_np hs)
  have p4 : post (s ++ 46 :: idT g n) = idT g n := post_app (system_np hs)
  obtain ⟨h0, h1⟩ := fk_bd hk
  have hb : ((byteOf k).toNat : Int) = k := byteOf_toNat (by omega) (by omega)
  unfold pfile
  rw [p1, p2, p3, p4, pid_id hm]
  show (if [byteOf k].length = 1 ∧ fk ((byteOf k).toNat : Int) = true ∧ system s = true ∧ (0 : Int) = 0 then (((byteOf k).toNat : Int), s, g, n, (0 : Int)) else (0, [], 0, 0, 3)) = _
  rw [hb, if_pos ⟨rfl, hk, hs, rfl⟩]
theorem pfile_fail (l : List UInt8) : (pfile l).2.2.2.2 = 0 ∨ pfile l = (0, [], 0, 0, 3) := by
  unfold pfile
  split
  · left; rfl
  · right; rfl
theorem file_pfile {l : List UInt8} (h : (pfile l).2.2.2.2 = 0) :
    fk (pfile l).1 = true ∧ system (pfile l).2.1 = true ∧ may (pfile l).2.2.1 (pfile l).2.2.2.1 = true ∧ fileT (pfile l).1 (pfile l).2.1 (pfile l).2.2.1 (pfile l).2.2.2.1 = l := by
  by_cases hc : (pre l).length = 1 ∧ fk (((pre l).headD 0).toNat : Int) = true ∧ system (pre (post l)) = true ∧ (pid (post (post l))).2.2 = 0
  · have e : pfile l = ((((pre l).headD 0).toNat : Int), pre (post l), (pid (post (post l))).1, (pid (post (post l))).2.1, 0) := by unfold pfile; rw [if_pos hc]
    obtain ⟨c1, c2, c3, c4⟩ := hc
    obtain ⟨m1, m2⟩ := id_pid c4
    rw [e]
    refine ⟨c2, c3, m1, ?_⟩
    show fileT _ (pre (post l)) (pid (post (post l))).1 (pid (post (post l))).2.1 = l
    unfold fileT
    rw [m2]
    have hs := system_len c3
    have q1 : l = pre l ++ 46 :: post l := by
      rcases cut_cases l with ⟨_, _, x⟩ | x
      · rw [x] at hs; exact absurd hs.1 (by decide)
      · exact x
    have q2 : post l = pre (post l) ++ 46 :: post (post l) := by
      rcases cut_cases (post l) with ⟨_, _, x⟩ | x
      · rw [x] at c4; exact absurd c4 (by decide)
      · exact x
    obtain ⟨c, hc⟩ := List.length_eq_one_iff.1 c1
    conv => rhs; rw [q1]
    conv => rhs; rw [q2]
    rw [hc]
    unfold sysT
    rw [show (([c] : List UInt8).headD 0) = c from rfl, byteOf_back]
    simp
  · have e : pfile l = (0, [], 0, 0, 3) := by unfold pfile; rw [if_neg hc]
    rw [e] at h
    exact absurd h (by decide : ¬ ((3 : Int) = 0))
theorem nDigits_le : ∀ (k u : Nat), u < 10 ^ (k + 1) → Lib.nDigits u ≤ k + 1
  | 0, u, h => by rw [Lib.nDigits_small (by simpa using h)]; omega
  | k + 1, u, h => by
    by_cases h1 : u < 10
    · rw [Lib.nDigits_small h1]; omega
    · have := nDigits_le k (u / 10) (by rw [Nat.pow_succ] at h; omega)
      rw [Lib.nDigits_big h1]; omega
theorem itoa_len {n : Int} (h0 : 1 ≤ n) (h1 : n ≤ 99999) : (Lib.itoa n).length ≤ 5 := by
  obtain ⟨q, rfl⟩ := Int.eq_ofNat_of_zero_le (show 0 ≤ n by omega)
  have e : Lib.itoa (q : Int) = Lib.decDigits q := by unfold Lib.itoa; rw [if_neg (by omega)]; simp
  rw [e, Lib.decDigits_length]
  exact nDigits_le 4 q (by omega)
theorem fileT_len {k : Int} {s : List UInt8} {g n : Int} (hs : system s = true) (hm : may g n = true) : (fileT k s g n).length ≤ 16 := by
  obtain ⟨_, h1, h2⟩ := may_iff.1 hm
  have := itoa_len h1 h2
  have := (system_len hs).2
  unfold fileT sysT idT
  simp only [List.length_append, List.length_cons]
  omega
end Nam
end Go.Proofs.YtgcbaflaidehnaaDoor

namespace Go.Proofs.YtgcbaflaidehnaaDoor
open Go.Lib
namespace Pth
abbrev Bs := List UInt8

/-- the texts between the strokes -/
def spl : Bs → List Bs
  | [] => [[]]
  | b :: l => if b = 47 then [] :: spl l else match spl l with
    | [] => [[b]]
    | h :: t => (b :: h) :: t

theorem spl_ne : ∀ l, spl l ≠ []
  | [] => by simp [spl]
  | b :: l => by
    unfold spl
    split
    · simp
    · split <;> simp

theorem spl_stroke (l : Bs) : spl (47 :: l) = [] :: spl l := by simp [spl]
theorem spl_other {b : UInt8} (h : b ≠ 47) (l : Bs) : ∃ x t, spl l = x :: t ∧ spl (b :: l) = (b :: x) :: t := by
  obtain ⟨x, t, e⟩ := List.exists_cons_of_ne_nil (spl_ne l)
  exact ⟨x, t, e, by rw [spl, if_neg h, e]⟩

theorem spl_no : ∀ (l : Bs) (x : Bs), x ∈ spl l → (47 : UInt8) ∉ x
  | [], x, h => by simp [spl] at h; subst h; simp
  | b :: l, x, h => by
    by_cases hb : b = 47
    · subst hb
      rw [spl_stroke] at h
      rcases List.mem_cons.1 h with rfl | h
      · simp
      · exact spl_no l x h
    · obtain ⟨y, t, e, e2⟩ := spl_other hb l
      rw [e2] at h
      rcases List.mem_cons.1 h with rfl | h
      · have := spl_no l y (by rw [e]; simp)
        simp only [List.mem_cons, not_or]
        exact ⟨fun c => hb c.symm, this⟩
      · exact spl_no l x (by rw [e]; simp [h])

theorem spl_append : ∀ (a b : Bs), spl (a ++ 47 :: b) = spl a ++ spl b
  | [], b => by rw [List.nil_append, spl_stroke]; simp [spl]
  | c :: a, b => by
    rw [List.cons_append]
    by_cases hc : c = 47
    · subst hc; rw [spl_stroke, spl_stroke, spl_append a b]; rfl
    · obtain ⟨x, t, e, e2⟩ := spl_other hc a
      obtain ⟨x', t', e', e2'⟩ := spl_other hc (a ++ 47 :: b)
      rw [spl_append a b, e, List.cons_append] at e'
      injection e' with h1 h2
      rw [e2', e2, ← h1, ← h2]; rfl

theorem spl_one : ∀ (a : Bs), (47 : UInt8) ∉ a → spl a = [a]
  | [], _ => rfl
  | c :: a, h => by
    have hc : c ≠ 47 := fun e => h (by simp [e])
    have ha : (47 : UInt8) ∉ a := fun e => h (by simp [e])
    obtain ⟨x, t, e, e2⟩ := spl_other hc a
    rw [spl_one a ha] at e
    injection e with h1 h2
    rw [e2, ← h1, ← h2]

/-- joined again -/
def jn : List Bs → Bs
  | [] => []
  | [x] => x
  | x :: y :: r => x ++ 47 :: jn (y :: r)

theorem jn_cons (x : Bs) (l : List Bs) (h : l ≠ []) : jn (x :: l) = x ++ 47 :: jn l := by
  cases l with
  | nil => exact absurd rfl h
  | cons y r => rfl

theorem join_jn : ∀ l : List Bs, Lib.join l [47] = jn l
  | [] => rfl
  | [x] => by simp [Lib.join, jn, List.intercalate, List.intersperse]
  | x :: y :: r => by
    have ih := join_jn (y :: r)
    unfold Lib.join at ih ⊢
    rw [jn, ← ih]
    simp [List.intercalate, List.intersperse]

theorem jn_spl : ∀ l, jn (spl l) = l
  | [] => rfl
  | b :: l => by
    by_cases hb : b = 47
    · subst hb; rw [spl_stroke, jn_cons _ _ (spl_ne l), jn_spl l]; rfl
    · obtain ⟨x, t, e, e2⟩ := spl_other hb l
      have ih := jn_spl l
      rw [e] at ih
      rw [e2, ← ih]
      cases t with
      | nil => rfl
      | cons y r => rfl

theorem spl_jn : ∀ (l : List Bs), l ≠ [] → (∀ x ∈ l, (47 : UInt8) ∉ x) → spl (jn l) = l
  | [], h, _ => absurd rfl h
  | [x], _, h => spl_one x (h x (by simp))
  | x :: y :: r, _, h => by
    rw [jn, spl_append, spl_one x (h x (by simp)), spl_jn (y :: r) (by simp) (fun z hz => h z (by simp at hz ⊢; exact .inr hz))]; rfl

theorem spl_length : ∀ l : Bs, (spl l).length ≤ l.length + 1
  | [] => by simp [spl]
  | b :: l => by
    have ih := spl_length l
    by_cases hb : b = 47
    · subst hb; rw [spl_stroke]; simp; omega
    · obtain ⟨x, t, e, e2⟩ := spl_other hb l
      rw [e] at ih; rw [e2]; simp at ih ⊢; omega

theorem spl_size : ∀ (l : Bs) (x : Bs), x ∈ spl l → x.length ≤ l.length
  | [], x, h => by simp [spl] at h; subst h; simp
  | b :: l, x, h => by
    by_cases hb : b = 47
    · subst hb
      rw [spl_stroke] at h
      rcases List.mem_cons.1 h with rfl | h
      · simp
      · have := spl_size l x h; simp; omega
    · obtain ⟨y, t, e, e2⟩ := spl_other hb l
      rw [e2] at h
      rcases List.mem_cons.1 h with rfl | h
      · have := spl_size l y (by rw [e]; simp)
        simp; omega
      · have := spl_size l x (by rw [e]; simp [h]); simp; omega

/-- a part, where no stroke is -/
def okb (b : UInt8) : Bool := decide (33 ≤ b.toNat ∧ b.toNat ≤ 126)
def isPart (s : Bs) : Bool := s.all okb && !(s == []) && !(s == [46]) && !(s == [46, 46])
def okr (b : UInt8) : Bool := decide (33 ≤ b.toNat ∧ b.toNat ≤ 126 ∧ b ≠ 47)
def isPartR (s : Bs) : Bool := s.all okr && !(s == []) && !(s == [46]) && !(s == [46, 46])
theorem isPartR_eq (s : Bs) (h : (47 : UInt8) ∉ s) : isPartR s = isPart s := by
  have : s.all okr = s.all okb := by
    rw [Bool.eq_iff_iff, List.all_eq_true, List.all_eq_true]
    constructor
    · intro hh x hx
      have := hh x hx
      simp only [okr, okb, decide_eq_true_eq] at this ⊢
      exact ⟨this.1, this.2.1⟩
    · intro hh x hx
      have := hh x hx
      simp only [okr, okb, decide_eq_true_eq] at this ⊢
      exact ⟨this.1, this.2, fun c => h (c ▸ hx)⟩
  rw [isPartR, isPart, this]
theorem part_ne {s : Bs} (h : isPart s = true) : s ≠ [] ∧ s ≠ [46] ∧ s ≠ [46, 46] := by
  simp only [isPart, Bool.and_eq_true, Bool.not_eq_true', beq_eq_false_iff_ne] at h
  exact ⟨h.1.1.2, h.1.2, h.2⟩

def isPath (p : Bs) : Bool := p == [47] || (p.head? == some 47 && (spl p.tail).all isPart)
def chk (p : Bs) : Nat := if p.length > 40 then 5 else if isPath p then 0 else 3

def step (k : List Bs) (s : Bs) : Option (List Bs) :=
  if s = [] ∨ s = [46] then some k else if s = [46, 46] then some k.dropLast else if isPart s then some (k ++ [s]) else none
def run : List Bs → List Bs → Option (List Bs)
  | k, [] => some k
  | k, s :: l => match step k s with
    | none => none
    | some k' => run k' l
def out (k : List Bs) : Bs := 47 :: jn k
/-- the path that a text means, and the error -/
def clean (p : Bs) : Bs × Nat :=
  if p.length > 300 then ([], 5) else if p.head? = some 47 then
    match run [] (spl p.tail) with
    | none => ([], 3)
    | some k => if (out k).length > 40 then ([], 5) else (out k, 0)
  else ([], 3)
def under (r p : Bs) : Bool := decide (chk r = 0) && decide (chk p = 0) && (p == r || r == [47] || (r ++ [47]).isPrefixOf p)
def permit (l : List Bs) (p : Bs) : Bool := l.any (under · p)

theorem chk_ok {p : Bs} : chk p = 0 ↔ p.length ≤ 40 ∧ isPath p = true := by
  unfold chk
  split
  · constructor
    · intro h; omega
    · intro h; omega
  · split
    · rename_i h1 h2; exact ⟨fun _ => ⟨by omega, h2⟩, fun _ => rfl⟩
    · rename_i h1 h2; constructor
      · intro h; omega
      · intro h; exact absurd h.2 h2

theorem run_append : ∀ (a b : List Bs) (k : List Bs), run k (a ++ b) = (run k a).bind (run · b)
  | [], b, k => rfl
  | s :: a, b, k => by
    rw [List.cons_append, run, run]
    cases step k s with
    | none => rfl
    | some k' => exact run_append a b k'

theorem step_part {s : Bs} (h : isPart s = true) (k : List Bs) : step k s = some (k ++ [s]) := by
  obtain ⟨h1, h2, h3⟩ := part_ne h
  unfold step
  rw [if_neg (by simp [h1, h2]), if_neg h3, if_pos h]

theorem run_parts : ∀ (a k : List Bs), a.all isPart = true → run k a = some (k ++ a)
  | [], k, _ => by rw [run, List.append_nil]
  | s :: a, k, h => by
    rw [List.all_cons, Bool.and_eq_true] at h
    rw [run, step_part h.1]
    show run (k ++ [s]) a = _
    rw [run_parts a _ h.2, List.append_assoc]; rfl

theorem step_all {k k' : List Bs} {s : Bs} (hk : k.all isPart = true) (h : step k s = some k') : k'.all isPart = true := by
  unfold step at h
  split at h
  · injection h with h; exact h ▸ hk
  · split at h
    · injection h with h; subst h
      rw [List.all_eq_true] at hk ⊢
      exact fun x hx => hk x ((List.dropLast_sublist k).subset hx)
    · split at h
      · rename_i hp; injection h with h; subst h
        rw [List.all_append, hk]; simp [hp]
      · cases h

theorem run_all : ∀ (l k k' : List Bs), k.all isPart = true → run k l = some k' → k'.all isPart = true
  | [], k, k', hk, h => by rw [run] at h; injection h with h; exact h ▸ hk
  | s :: l, k, k', hk, h => by
    rw [run] at h
    cases hs : step k s with
    | none => rw [hs] at h; cases h
    | some k2 => rw [hs] at h; exact run_all l k2 k' (step_all hk hs) h

/-- what is kept has no stroke, where what is gone through has none -/
theorem step_no {k k' : List Bs} {s : Bs} (hk : ∀ x ∈ k, (47 : UInt8) ∉ x) (hs : (47 : UInt8) ∉ s) (h : step k s = some k') : ∀ x ∈ k', (47 : UInt8) ∉ x := by
  unfold step at h
  split at h
  · injection h with h; exact h ▸ hk
  · split at h
    · injection h with h; subst h
      exact fun x hx => hk x ((List.dropLast_sublist k).subset hx)
    · split at h
      · injection h with h; subst h
        intro x hx
        rcases List.mem_append.1 hx with hx | hx
        · exact hk x hx
        · simp at hx; exact hx ▸ hs
      · cases h

theorem run_no : ∀ (l k k' : List Bs), (∀ x ∈ k, (47 : UInt8) ∉ x) → (∀ x ∈ l, (47 : UInt8) ∉ x) → run k l = some k' → ∀ x ∈ k', (47 : UInt8) ∉ x
  | [], k, k', hk, _, h => by rw [run] at h; injection h with h; exact h ▸ hk
  | s :: l, k, k', hk, hl, h => by
    rw [run] at h
    cases hs : step k s with
    | none => rw [hs] at h; cases h
    | some k2 => rw [hs] at h; exact run_no l k2 k' (step_no hk (hl s (by simp)) hs) (fun x hx => hl x (by simp [hx])) h

theorem path_out {k : List Bs} (hp : k.all isPart = true) (hn : ∀ x ∈ k, (47 : UInt8) ∉ x) : isPath (out k) = true := by
  unfold isPath out
  by_cases h : k = []
  · subst h; rfl
  · simp only [List.head?_cons, List.tail_cons]
    rw [spl_jn k h hn, hp]; simp

theorem out_path {p : Bs} (h : isPath p = true) : run [] (spl p.tail) = some (if p = [47] then [] else spl p.tail) ∧ out (if p = [47] then [] else spl p.tail) = p ∧ p.head? = some 47 := by
  unfold isPath at h
  by_cases hp : p = [47]
  · subst hp; exact ⟨rfl, rfl, rfl⟩
  · rw [if_neg hp]
    simp only [Bool.or_eq_true, Bool.and_eq_true, beq_iff_eq] at h
    rcases h with h | ⟨h1, h2⟩
    · exact absurd h hp
    · refine ⟨by rw [run_parts _ _ h2]; rfl, ?_, h1⟩
      unfold out
      rw [jn_spl]
      cases p with
      | nil => cases h1
      | cons c t => simp at h1; rw [h1]; rfl

/-- P4.5: a path is its own -/
theorem clean_path {p : Bs} (h : chk p = 0) : clean p = (p, 0) := by
  obtain ⟨hl, hp⟩ := chk_ok.1 h
  obtain ⟨h1, h2, h3⟩ := out_path hp
  unfold clean
  rw [if_neg (by omega), if_pos h3, h1]
  simp only
  rw [h2, if_neg (by omega)]

theorem clean_ok {p q : Bs} (h : clean p = (q, 0)) : p.head? = some 47 ∧ ∃ k, run [] (spl p.tail) = some k ∧ q = out k ∧ q.length ≤ 40 ∧ p.length ≤ 300 := by
  unfold clean at h
  split at h
  · injection h with h1 h2; cases h2
  · rename_i hl
    split at h
    · rename_i h3
      refine ⟨h3, ?_⟩
      split at h
      · injection h with h1 h2; cases h2
      · rename_i k hk
        split at h
        · injection h with h1 h2; cases h2
        · injection h with h1 h2
          exact ⟨k, hk, h1.symm, by rw [← h1]; omega, by omega⟩
    · injection h with h1 h2; cases h2

/-- P4.5: what is answered is a path that may be -/
theorem clean_chk {p q : Bs} (h : clean p = (q, 0)) : chk q = 0 := by
  obtain ⟨_, k, hk, rfl, hl, _⟩ := clean_ok h
  exact chk_ok.2 ⟨hl, path_out (run_all _ _ _ rfl hk) (run_no _ _ _ (by simp) (fun x hx => spl_no _ x hx) hk)⟩

theorem clean_bad {p q : Bs} {e : Nat} (h : clean p = (q, e)) (he : e ≠ 0) : q = [] := by
  unfold clean at h
  split at h
  · injection h with h1 h2; exact h1.symm
  · split at h
    · split at h
      · injection h with h1 h2; exact h1.symm
      · split at h
        · injection h with h1 h2; exact h1.symm
        · injection h with h1 h2; exact absurd h2.symm he
    · injection h with h1 h2; exact h1.symm

/-- two points one behind the other -/
def two : Bs → Bool
  | 46 :: 46 :: _ => true
  | _ :: l => two l
  | [] => false

theorem jn_append : ∀ (a b : List Bs), a ≠ [] → b ≠ [] → jn (a ++ b) = jn a ++ 47 :: jn b
  | [], _, h, _ => absurd rfl h
  | [x], b, _, hb => by rw [List.singleton_append, jn_cons _ _ hb]; rfl
  | x :: y :: r, b, _, hb => by
    have := jn_append (y :: r) b (by simp) hb
    rw [List.cons_append, jn_cons _ _ (by simp), this, jn, List.append_assoc]; rfl

theorem step_grow {k k' : List Bs} {s : Bs} (hs : s ≠ [46, 46]) (h : step k s = some k') : ∃ m, k' = k ++ m := by
  unfold step at h
  rw [if_neg hs] at h
  split at h
  · injection h with h; exact ⟨[], by rw [← h]; simp⟩
  · split at h
    · injection h with h; exact ⟨[s], h.symm⟩
    · cases h

theorem run_grow : ∀ (l k k' : List Bs), (∀ x ∈ l, x ≠ [46, 46]) → run k l = some k' → ∃ m, k' = k ++ m
  | [], k, k', _, h => by rw [run] at h; injection h with h; exact ⟨[], by rw [← h]; simp⟩
  | s :: l, k, k', hl, h => by
    rw [run] at h
    cases hs : step k s with
    | none => rw [hs] at h; cases h
    | some k2 =>
      rw [hs] at h
      obtain ⟨m, rfl⟩ := step_grow (hl s (by simp)) hs
      obtain ⟨m2, rfl⟩ := run_grow l _ k' (fun x hx => hl x (by simp [hx])) h
      exact ⟨m ++ m2, by simp⟩

theorem path_ne {p : Bs} (h : chk p = 0) : p ≠ [] := by
  intro e; subst e
  have := (chk_ok.1 h).2
  simp [isPath] at this

theorem path_long {p : Bs} (h : chk p = 0) (h2 : p ≠ [47]) : 1 < p.length := by
  have h1 := (chk_ok.1 h).2
  match p with
  | [] => exact absurd rfl (path_ne h)
  | [c] =>
    simp only [isPath, Bool.or_eq_true, Bool.and_eq_true, beq_iff_eq] at h1
    rcases h1 with h1 | h1
    · exact absurd h1 h2
    · have := h1.1; simp at this; subst this; exact absurd rfl h2
  | c :: d :: l => simp

/-- P4.6 -/
theorem below {root rest p : Bs} (hr : chk root = 0) (ht : ∀ x ∈ spl rest, x ≠ [46, 46]) (h : clean (root ++ 47 :: rest) = (p, 0)) : under root p = true := by
  have hp := clean_chk h
  obtain ⟨_, k, hk, rfl, _, _⟩ := clean_ok h
  obtain ⟨h1, h2, h3⟩ := out_path (chk_ok.1 hr).2
  have et : (root ++ 47 :: rest).tail = root.tail ++ 47 :: rest := by
    cases root with
    | nil => cases h3
    | cons c t => rfl
  rw [et, spl_append, run_append, h1] at hk
  obtain ⟨m, rfl⟩ := run_grow _ _ _ ht hk
  unfold under
  rw [hr, hp]
  by_cases e : root = [47]
  · subst e; simp
  · rw [if_neg e] at h2 ⊢
    by_cases hm : m = []
    · subst hm; rw [List.append_nil, h2]; simp
    · have e3 : out (spl root.tail ++ m) = (root ++ [47]) ++ jn m := by
        have e4 : root = 47 :: jn (spl root.tail) := h2.symm
        unfold out
        rw [jn_append _ _ (spl_ne _) hm]
        conv => rhs; rw [e4]
        simp
      rw [e3]
      simp

/-- P4.7 -/
theorem under_trans {a b c : Bs} (h1 : under a b = true) (h2 : under b c = true) : under a c = true := by
  simp only [under, Bool.and_eq_true, Bool.or_eq_true, decide_eq_true_eq, beq_iff_eq, List.isPrefixOf_iff_prefix] at h1 h2 ⊢
  obtain ⟨⟨ha, hb⟩, h1⟩ := h1
  obtain ⟨⟨_, hc⟩, h2⟩ := h2
  refine ⟨⟨ha, hc⟩, ?_⟩
  rcases h2 with (rfl | rfl) | h2
  · exact h1
  · rcases h1 with (h1 | h1) | h1
    · exact .inl (.inr h1.symm)
    · exact .inl (.inr h1)
    · have := h1.length_le
      have h5 := List.length_pos_iff.2 (path_ne ha)
      rw [List.length_append, List.length_singleton] at this; omega
  · rcases h1 with (rfl | h1) | h1
    · exact .inr h2
    · exact .inl (.inr h1)
    · exact .inr (h1.trans ((List.prefix_append b [47]).trans h2))

/-- what 'under' says, byte by byte -/
theorem under_says {r q : Bs} (h : under r q = true) : r = [47] ∨ q = r ∨ (r.length < q.length ∧ 1 < r.length ∧ q.take r.length = r ∧ q[r.length]? = some 47) := by
  simp only [under, Bool.and_eq_true, Bool.or_eq_true, decide_eq_true_eq, beq_iff_eq, List.isPrefixOf_iff_prefix] at h
  obtain ⟨⟨ha, hb⟩, (h | h) | h⟩ := h
  · exact .inr (.inl h)
  · exact .inl h
  · by_cases e : r = [47]
    · exact .inl e
    · obtain ⟨t, rfl⟩ := h
      refine .inr (.inr ⟨by simp, path_long ha e, by simp, by simp⟩)

theorem permit_says {l : List Bs} {q : Bs} (h : permit l q = true) : ∃ r ∈ l, r = [47] ∨ q = r ∨ (r.length < q.length ∧ 1 < r.length ∧ q.take r.length = r ∧ q[r.length]? = some 47) := by
  obtain ⟨r, hr, h⟩ := List.any_eq_true.1 h
  exact ⟨r, hr, under_says h⟩

/-- no two points: no part is '..' -/
theorem two_cons {b : UInt8} {l : Bs} (h : two (b :: l) = false) : two l = false := by
  cases hl : two l with
  | false => rfl
  | true =>
    unfold two at h
    split at h
    · cases h
    · rename_i h2; injection h2 with h2 h3; subst h3; rw [hl] at h; exact h.symm ▸ rfl
    · rename_i h2; cases h2

theorem no_two : ∀ (l : Bs), two l = false → ∀ x ∈ spl l, ∀ a t, x ≠ a ++ 46 :: 46 :: t
  | [], _, x, h, a, t => by simp [spl] at h; subst h; simp
  | b :: l, h2, x, h, a, t => by
    have ih := no_two l (two_cons h2)
    by_cases hb : b = 47
    · subst hb
      rw [spl_stroke] at h
      rcases List.mem_cons.1 h with rfl | h
      · simp
      · exact ih x h a t
    · obtain ⟨y, r, e, e2⟩ := spl_other hb l
      rw [e2] at h
      rcases List.mem_cons.1 h with rfl | h
      · intro c
        cases a with
        | nil =>
          injection c with c1 c2
          subst c1
          have hl : ∃ l', l = 46 :: l' := by
            have h4 := jn_spl l
            rw [e, c2] at h4
            cases r with
            | nil => exact ⟨t, h4.symm⟩
            | cons z r => exact ⟨_, h4.symm⟩
          obtain ⟨l', rfl⟩ := hl
          simp [two] at h2
        | cons a0 a =>
          injection c with c1 c2
          exact ih y (by rw [e]; simp) a t c2
      · exact ih x (by rw [e]; simp [h]) a t

theorem no_up {l : Bs} (h : two l = false) : ∀ x ∈ spl l, x ≠ [46, 46] := fun x hx => no_two l h x hx [] []

theorem two_of : ∀ (l : Bs), two l = true ↔ ∃ i : Nat, l[i]? = some 46 ∧ l[i + 1]? = some 46
  | [] => by simp [two]
  | b :: l => by
    have ih := two_of l
    constructor
    · intro h
      unfold two at h
      split at h
      · rename_i h2; injection h2 with h2 h3; subst h2; subst h3; exact ⟨0, rfl, rfl⟩
      · rename_i h2; injection h2 with h2 h3; subst h3
        obtain ⟨i, h4, h5⟩ := ih.1 h
        exact ⟨i + 1, h4, h5⟩
      · cases h
    · rintro ⟨i, h1, h2⟩
      cases i with
      | zero =>
        cases l with
        | nil => simp at h2
        | cons c l => simp at h1 h2; subst h1; subst h2; rfl
      | succ i =>
        have : two l = true := ih.2 ⟨i, by simpa using h1, by simpa using h2⟩
        cases hb : two (b :: l) with
        | true => rfl
        | false => rw [two_cons hb] at this; cases this

/-- what strings.Split answers at a stroke -/
theorem splitK_spl : ∀ (l : Bs) (k : Nat), l.count 47 ≤ k → Lib.splitK [47] 0 k l = spl l
  | [], 0, _ => rfl
  | [], k + 1, _ => by unfold Lib.splitK; rw [if_pos (by decide)]; rfl
  | b :: l, k, h => by
    by_cases hb : b = 47
    · subst hb
      rw [List.count_cons_self] at h
      obtain ⟨k, rfl⟩ : ∃ j, k = j + 1 := ⟨k - 1, by omega⟩
      have e : Lib.index (47 :: l) [47] = 0 := by simp [Lib.index]
      unfold Lib.splitK
      rw [if_neg (by rw [e]; decide), e, spl_stroke]
      simp only [Int.toNat_zero, Nat.zero_add, List.length_singleton, List.take_zero, List.drop_succ_cons, List.drop_zero]
      rw [splitK_spl l k (by omega)]
    · rw [List.count_cons_of_ne hb] at h
      have ih := splitK_spl l k h
      obtain ⟨x, t, e, e2⟩ := spl_other hb l
      rw [e2]
      rw [e] at ih
      have hi : Lib.index (b :: l) [47] = if Lib.index l [47] == -1 then -1 else Lib.index l [47] + 1 := by
        conv => lhs; unfold Lib.index
        rw [if_neg (by simp; exact fun c => hb c.symm)]
      have hge := Lib.index_ge l [47]
      cases k with
      | zero =>
        unfold Lib.splitK at ih ⊢
        injection ih with h1 h2
        rw [← h1, ← h2]
      | succ k =>
        unfold Lib.splitK at ih ⊢
        rw [hi]
        by_cases hm : Lib.index l [47] = -1
        · rw [if_pos (by rw [hm]; rfl)] at ih
          rw [if_pos (by rw [hm]; rfl)]
          injection ih with h1 h2
          rw [← h1, ← h2]
        · rw [if_neg (by simpa using hm)] at ih
          have hm2 : ¬ (Lib.index l [47] == -1) = true := by simpa using hm
          rw [if_neg hm2, if_neg (by simp; omega)]
          injection ih with h1 h2
          have e5 : (Lib.index l [47] + 1).toNat = (Lib.index l [47]).toNat + 1 := by omega
          rw [e5, ← h1, ← h2]
          simp

theorem split_spl (s : ByteArray) : (Lib.splitB ⟨#[47]⟩ 0 (Lib.countB s ⟨#[47]⟩) s).map (·.data.toList) = spl s.data.toList := by
  rw [Lib.splitB_data]
  exact splitK_spl _ _ (by show _ ≤ Lib.count s.data.toList [47]; rw [Lib.count_one]; exact Nat.le_refl _)
end Pth
end Go.Proofs.YtgcbaflaidehnaaDoor

namespace Go.Proofs.YtgcbaflaidehnaaDoor
namespace Job
abbrev Bs := List UInt8

/-- a job -/
structure Jb where
  g : Int
  n : Int
  k : Int
  u : ByteArray
  f : ByteArray
  t : ByteArray
  c : ByteArray
  z : Int
  deriving DecidableEq, Inhabited

def zero : Jb := ⟨0, 0, 0, ⟨#[]⟩, ⟨#[]⟩, ⟨#[]⟩, ⟨#[]⟩, 0⟩

/-- joined with blanks -/
def jn : List Bs → Bs
  | [] => []
  | [x] => x
  | x :: y :: r => x ++ 32 :: jn (y :: r)

theorem jn_cons (x : Bs) (l : List Bs) (h : l ≠ []) : jn (x :: l) = x ++ 32 :: jn l := by
  cases l with
  | nil => exact absurd rfl h
  | cons y r => rfl
theorem jn_append : ∀ (a b : List Bs), a ≠ [] → b ≠ [] → jn (a ++ b) = jn a ++ 32 :: jn b
  | [], _, h, _ => absurd rfl h
  | [x], b, _, hb => by rw [List.singleton_append, jn_cons _ _ hb]; rfl
  | x :: y :: r, b, _, hb => by
    have := jn_append (y :: r) b (by simp) hb
    rw [List.cons_append, jn_cons _ _ (by simp), this, jn, List.append_assoc]; rfl
theorem jn_snoc (a : List Bs) (x : Bs) (h : a ≠ []) : jn (a ++ [x]) = jn a ++ 32 :: x := jn_append a [x] h (by simp)
theorem jn_take (l : List Bs) (k : Nat) (h : k + 1 < l.length) : jn (l.take (k + 2)) = jn (l.take (k + 1)) ++ 32 :: l[k + 1] := by
  rw [List.take_succ_eq_append_getElem h]
  exact jn_snoc _ _ (by intro e; have := congrArg List.length e; rw [List.length_take, List.length_nil] at this; omega)
theorem jn_len : ∀ (l : List Bs), l ≠ [] → (jn l).length + 1 = Lib.lens l + l.length
  | [], h => absurd rfl h
  | [x], _ => by simp [jn, Lib.lens]
  | x :: y :: r, _ => by
    have ih := jn_len (y :: r) (by simp)
    rw [jn, List.length_append, List.length_cons]
    simp only [Lib.lens, List.map_cons, List.sum_cons, List.length_cons] at ih ⊢
    omega
theorem jn_take_le (l : List Bs) (k : Nat) : (jn (l.take k)).length ≤ Lib.lens l + l.length := by
  by_cases h : l.take k = []
  · rw [h]; simp [jn]
  · have h1 := jn_len _ h
    have h2 : Lib.lens (l.take k) ≤ Lib.lens l := Lib.lens_take_le _ _
    have h3 : (l.take k).length ≤ l.length := by simp; omega
    omega

def usr (l : Bs) : Bool := l.all Nam.okc && decide (1 ≤ l.length) && decide (l.length ≤ 8)
def okw (c : UInt8) : Bool := decide (32 ≤ c.toNat ∧ c.toNat ≤ 126)
def wrd (l : Bs) : Bool := l.all okw && !(l.head? == some 32) && !(l.getLast? == some 32) && decide (1 ≤ l.length) && decide (l.length ≤ 60)
def knd (k : Int) : Bool := k == 1 || k == 2 || k == 3
def cmd (k : Int) (l : Bs) : Bool := if k = 2 then wrd l else l == []
/-- P5.1 -/
def chk (j : Jb) : Nat :=
  if (Nam.may j.g j.n && knd j.k) = false then 1
  else if usr j.u.data.toList = false then 11
  else if Pth.chk j.f.data.toList ≠ 0 ∨ Pth.chk j.t.data.toList ≠ 0 then 3
  else if cmd j.k j.c.data.toList = false then 3
  else if j.z < 0 ∨ 6000 < j.z then 5 else 0
def ltr (k : Int) : Bs := if k = 1 then [83] else if k = 2 then [69] else if k = 3 then [82] else []
def ws (j : Jb) : List Bs := [ltr j.k, Nam.idT j.g j.n, j.u.data.toList, j.f.data.toList, j.t.data.toList, Lib.itoa j.z] ++ (if j.k = 2 then [j.c.data.toList] else [])
def txt (j : Jb) : Bs := jn (ws j)
/-- P5.2 -/
def text (j : Jb) : Bs × Nat := if chk j = 0 then (txt j, 0) else ([], chk j)
def says (s : Bs) (j : Jb) : Prop := chk j = 0 ∧ txt j = s

theorem chk_ok {j : Jb} : chk j = 0 ↔ Nam.may j.g j.n = true ∧ knd j.k = true ∧ usr j.u.data.toList = true ∧ Pth.chk j.f.data.toList = 0 ∧ Pth.chk j.t.data.toList = 0 ∧ cmd j.k j.c.data.toList = true ∧ 0 ≤ j.z ∧ j.z ≤ 6000 := by
  unfold chk
  constructor
  · intro h
    split at h
    · cases h
    · split at h
      · cases h
      · split at h
        · cases h
        · split at h
          · cases h
          · split at h
            · cases h
            · rename_i h1 h2 h3 h4 h5
              simp only [Bool.not_eq_false, Bool.and_eq_true] at h1 h2 h4
              refine ⟨h1.1, h1.2, h2, ?_, ?_, h4, by omega, by omega⟩
              · exact Classical.byContradiction fun c => h3 (.inl c)
              · exact Classical.byContradiction fun c => h3 (.inr c)
  · rintro ⟨h1, h2, h3, h4, h5, h6, h7, h8⟩
    rw [if_neg (by simp [h1, h2]), if_neg (by simp [h3]), if_neg (by simp [h4, h5]), if_neg (by simp [h6]), if_neg (by omega)]

theorem nb_of {l : Bs} {p : UInt8 → Bool} (h : l.all p = true) (h2 : p 32 = false) : (32 : UInt8) ∉ l := fun c => by
  have := List.all_eq_true.1 h _ c
  rw [h2] at this; cases this
theorem nb_itoa {z : Int} (h : 0 ≤ z) : (32 : UInt8) ∉ Lib.itoa z := by
  obtain ⟨n, rfl⟩ := Int.eq_ofNat_of_zero_le h
  have e : Lib.itoa (n : Int) = Lib.decDigits n := by unfold Lib.itoa; simp
  rw [e]
  exact nb_of (Oct.dec_facts n).2.1 (by decide)
theorem nb_id {g n : Int} (h : Nam.may g n = true) : (32 : UInt8) ∉ Nam.idT g n := by
  obtain ⟨h1, h2, h3⟩ := Nam.may_iff.1 h
  have hb := Nam.grade_bd h1
  unfold Nam.idT
  rw [List.mem_cons]
  rintro (c | c)
  · have e := Nam.byteOf_toNat (g := g) (by omega) (by omega)
    rw [← c] at e
    have : ((32 : UInt8).toNat : Int) = 32 := rfl
    omega
  · exact nb_itoa (by omega) c
theorem nb_ltr (k : Int) : (32 : UInt8) ∉ ltr k := by
  unfold ltr
  split
  · decide
  · split
    · decide
    · split <;> decide
theorem mem_pjn : ∀ (l : List Bs) (b : UInt8), b ∈ Pth.jn l → b = 47 ∨ ∃ x ∈ l, b ∈ x
  | [], b, h => by cases h
  | [x], b, h => .inr ⟨x, by simp, h⟩
  | x :: y :: r, b, h => by
    rw [Pth.jn, List.mem_append, List.mem_cons] at h
    rcases h with h | h | h
    · exact .inr ⟨x, by simp, h⟩
    · exact .inl h
    · rcases mem_pjn (y :: r) b h with h | ⟨z, hz, hb⟩
      · exact .inl h
      · exact .inr ⟨z, List.mem_cons_of_mem _ hz, hb⟩
theorem nb_path {p : Bs} (h : Pth.chk p = 0) : (32 : UInt8) ∉ p := by
  have hp := (Pth.chk_ok.1 h).2
  unfold Pth.isPath at hp
  rw [Bool.or_eq_true, Bool.and_eq_true] at hp
  rcases hp with hp | ⟨h1, h2⟩
  · rw [eq_of_beq hp]; decide
  · intro c
    cases p with
    | nil => cases c
    | cons a r =>
      rw [List.mem_cons] at c
      rcases c with c | c
      · rw [← c] at h1; simp at h1
      · have e := Pth.jn_spl r
        rw [← e] at c
        rcases mem_pjn _ _ c with c | ⟨x, hx, hb⟩
        · revert c; decide
        · have h3 := List.all_eq_true.1 h2 x hx
          unfold Pth.isPart at h3
          simp only [Bool.and_eq_true] at h3
          exact nb_of h3.1.1.1 (by decide) hb
theorem nb_usr {l : Bs} (h : usr l = true) : (32 : UInt8) ∉ l := by
  unfold usr at h
  simp only [Bool.and_eq_true] at h
  exact nb_of h.1.1 (by decide)

theorem index_nb : ∀ (l : Bs), (32 : UInt8) ∉ l → Lib.index l [32] = -1
  | [], _ => by simp [Lib.index]
  | b :: l, h => by
    rw [List.mem_cons, not_or] at h
    have ih := index_nb l h.2
    unfold Lib.index
    rw [if_neg (by simp; exact h.1), ih]; rfl
theorem index_at : ∀ (a r : Bs), (32 : UInt8) ∉ a → Lib.index (a ++ 32 :: r) [32] = (a.length : Int)
  | [], r, _ => by simp [Lib.index]
  | b :: a, r, h => by
    rw [List.mem_cons, not_or] at h
    have ih := index_at a r h.2
    rw [List.cons_append]
    unfold Lib.index
    rw [if_neg (by simp; exact h.1), ih, if_neg (by simp), List.length_cons]
    omega
theorem splitK_one (k : Nat) (a : Bs) (h : (32 : UInt8) ∉ a) : Lib.splitK [32] 0 k a = [a] := by
  cases k with
  | zero => rfl
  | succ k => unfold Lib.splitK; rw [index_nb a h]; rfl
theorem splitK_cons (k : Nat) (a r : Bs) (h : (32 : UInt8) ∉ a) : Lib.splitK [32] 0 (k + 1) (a ++ 32 :: r) = a :: Lib.splitK [32] 0 k r := by
  conv => lhs; unfold Lib.splitK
  rw [index_at a r h, if_neg (by simp)]
  simp
theorem splitK_len : ∀ (k : Nat) (l : Bs), (Lib.splitK [32] 0 k l).length ≤ k + 1
  | 0, l => by simp [Lib.splitK]
  | k + 1, l => by
    unfold Lib.splitK
    split
    · simp
    · rw [List.length_cons]; have := splitK_len k (l.drop ((Lib.index l [32]).toNat + [32].length)); omega

/-- the words of a text -/
theorem words {j : Jb} (h : chk j = 0) : Lib.splitK [32] 0 6 (txt j) = ws j := by
  obtain ⟨h1, h2, h3, h4, h5, h6, h7, h8⟩ := chk_ok.1 h
  have b0 := nb_ltr j.k
  have b1 := nb_id h1
  have b2 := nb_usr h3
  have b3 := nb_path h4
  have b4 := nb_path h5
  have b5 := nb_itoa h7
  unfold txt ws
  by_cases hk : j.k = 2
  · rw [if_pos hk]
    simp only [List.cons_append, List.nil_append, jn]
    rw [splitK_cons _ _ _ b0, splitK_cons _ _ _ b1, splitK_cons _ _ _ b2, splitK_cons _ _ _ b3, splitK_cons _ _ _ b4, splitK_cons _ _ _ b5]
    rfl
  · rw [if_neg hk]
    simp only [List.append_nil, jn]
    rw [splitK_cons _ _ _ b0, splitK_cons _ _ _ b1, splitK_cons _ _ _ b2, splitK_cons _ _ _ b3, splitK_cons _ _ _ b4, splitK_one _ _ b5]

def kof (l : Bs) : Int := if l = [83] then 1 else if l = [69] then 2 else if l = [82] then 3 else 0
def kofR (l : Bs) : Int := if l = [69] then 2 else if l = [82] then 3 else 1
theorem kof_ltr {k : Int} (h : knd k = true) : kof (ltr k) = k := by
  simp only [knd, Bool.or_eq_true, beq_iff_eq] at h
  rcases h with (h | h) | h <;> subst h <;> decide
theorem kofR_ltr {k : Int} (h : knd k = true) : kofR (ltr k) = k := by
  simp only [knd, Bool.or_eq_true, beq_iff_eq] at h
  rcases h with (h | h) | h <;> subst h <;> decide

theorem ba_of {a b : ByteArray} (h : a.data.toList = b.data.toList) : a = b := by
  cases a; cases b; simp only at h; congr 1; exact Array.toList_inj.1 h
theorem cmd_empty {k : Int} {c : ByteArray} (h : cmd k c.data.toList = true) (hk : k ≠ 2) : c = ⟨#[]⟩ := by
  unfold cmd at h
  rw [if_neg hk] at h
  exact ba_of (eq_of_beq h)

def at' (l : List ByteArray) (i : Nat) : ByteArray := (l[i]?).getD ⟨#[]⟩
/-- the job of six words, and a seventh -/
def cand (l : List ByteArray) : Jb :=
  ⟨(Nam.pid (at' l 1).data.toList).1, (Nam.pid (at' l 1).data.toList).2.1, kof (at' l 0).data.toList, at' l 2, at' l 3, at' l 4, at' l 6, ((Oct.number (at' l 5).data.toList).1 : Int)⟩

theorem at_map {l : List ByteArray} {L : List Bs} (h : l.map (·.data.toList) = L) (i : Nat) : (at' l i).data.toList = (L[i]?).getD [] := by
  subst h
  unfold at'
  rw [List.getElem?_map]
  cases l[i]? <;> rfl

theorem cand_ws {j : Jb} (h : chk j = 0) {l : List ByteArray} (hl : l.map (·.data.toList) = ws j) : cand l = j := by
  obtain ⟨h1, h2, h3, h4, h5, h6, h7, h8⟩ := chk_ok.1 h
  have e := at_map hl
  have e0 := e 0; have e1 := e 1; have e2 := e 2; have e3 := e 3; have e4 := e 4; have e5 := e 5; have e6 := e 6
  clear e hl
  unfold cand
  have hn : Oct.number (Lib.itoa j.z) = (j.z.toNat, 0) := by
    obtain ⟨n, hz⟩ := Int.eq_ofNat_of_zero_le h7
    rw [hz]
    exact Oct.number_itoa (by omega)
  have f0 : (ws j)[0]? = some (ltr j.k) := rfl
  have f1 : (ws j)[1]? = some (Nam.idT j.g j.n) := rfl
  have f2 : (ws j)[2]? = some j.u.data.toList := rfl
  have f3 : (ws j)[3]? = some j.f.data.toList := rfl
  have f4 : (ws j)[4]? = some j.t.data.toList := rfl
  have f5 : (ws j)[5]? = some (Lib.itoa j.z) := rfl
  rw [f0] at e0; rw [f1] at e1; rw [f2] at e2; rw [f3] at e3; rw [f4] at e4; rw [f5] at e5
  simp only [Option.getD_some] at e0 e1 e2 e3 e4 e5
  rw [e0, e1, e5, Nam.pid_id h1, kof_ltr h2, hn, ba_of e2, ba_of e3, ba_of e4]
  have e7 : at' l 6 = j.c := by
    apply ba_of
    rw [e6]
    by_cases hk : j.k = 2
    · unfold ws; rw [if_pos hk]; rfl
    · unfold ws; rw [if_neg hk, cmd_empty h6 hk]; rfl
  rw [e7]
  have e8 : ((j.z.toNat : Nat) : Int) = j.z := by omega
  cases j
  simp only at e8 ⊢
  rw [e8]

/-- a text says one job -/
theorem txt_inj {j k : Jb} (hj : chk j = 0) (hk : chk k = 0) (h : txt j = txt k) : j = k := by
  have e := words hj
  rw [h, words hk] at e
  have q : ((ws j).map fun x => (⟨x.toArray⟩ : ByteArray)).map (fun b : ByteArray => b.data.toList) = ws j := by
    rw [List.map_map]; exact List.map_id' _
  rw [← cand_ws hj q, ← cand_ws hk (by rw [q, e])]

/-- the job that a text can say alone -/
def cd (s : Bs) : Jb := cand ((Lib.splitK [32] 0 6 s).map fun x => (⟨x.toArray⟩ : ByteArray))
theorem cd_says {s : Bs} {j : Jb} (h : says s j) : cd s = j := by
  unfold cd
  apply cand_ws h.1
  rw [List.map_map, ← h.2, words h.1]
  exact List.map_id' _
/-- P5.2: the job that a text says -/
def parse (s : Bs) : Jb × Int := if chk (cd s) = 0 ∧ txt (cd s) = s then (cd s, 0) else (zero, 3)
theorem parse_yes {s : Bs} {j : Jb} (h : says s j) : parse s = (j, 0) := by
  unfold parse
  rw [cd_says h, if_pos (show chk j = 0 ∧ txt j = s from h)]
theorem parse_no {s : Bs} (h : ¬ ∃ j, says s j) : parse s = (zero, 3) := by unfold parse; rw [if_neg (show ¬ (chk (cd s) = 0 ∧ txt (cd s) = s) from fun q => h ⟨cd s, q⟩)]
theorem parse_not {s : Bs} {C : Jb} (hC : ∀ j, says s j → C = j) (h : ¬ says s C) : parse s = (zero, 3) := by
  refine parse_no ?_
  rintro ⟨j, hj⟩
  rw [← hC j hj] at hj
  exact h hj
theorem parse_cases (s : Bs) : (∃ j, says s j ∧ parse s = (j, 0)) ∨ ((¬ ∃ j, says s j) ∧ parse s = (zero, 3)) := by
  by_cases h : ∃ j, says s j
  · obtain ⟨j, hj⟩ := h
    exact .inl ⟨j, hj, parse_yes hj⟩
  · exact .inr ⟨h, parse_no h⟩
theorem zero_bad : chk zero = 1 := by decide

/-- the words that the program cuts a text into -/
theorem cand_split {s : ByteArray} {j : Jb} (h : says s.data.toList j) {l : List ByteArray} (hl : l.map (·.data.toList) = Lib.splitK [32] 0 6 s.data.toList) : cand l = j ∧ 6 ≤ l.length := by
  rw [← h.2, words h.1] at hl
  refine ⟨cand_ws h.1 hl, ?_⟩
  have := congrArg List.length hl
  rw [List.length_map] at this
  rw [this]
  unfold ws
  simp

theorem ws_len (j : Jb) : 6 ≤ (ws j).length ∧ (ws j).length ≤ 7 := by
  unfold ws
  rw [List.length_append]
  split <;> simp
theorem ltr_len (k : Int) : (ltr k).length ≤ 1 := by
  unfold ltr
  split
  · decide
  · split
    · decide
    · split <;> decide
theorem nDig {z : Int} (h0 : 0 ≤ z) (h1 : z ≤ 6000) : (Lib.itoa z).length ≤ 4 := by
  obtain ⟨n, rfl⟩ := Int.eq_ofNat_of_zero_le h0
  have e : Lib.itoa (n : Int) = Lib.decDigits n := by unfold Lib.itoa; simp
  rw [e, Lib.decDigits_length]
  exact Nam.nDigits_le 3 n (by omega)
theorem idLen {g n : Int} (hm : Nam.may g n = true) : (Nam.idT g n).length ≤ 6 := by
  obtain ⟨h1, h2, h3⟩ := Nam.may_iff.1 hm
  have := Nam.itoa_len h2 h3
  unfold Nam.idT
  rw [List.length_cons]; omega
theorem wrd_len {l : Bs} (h : wrd l = true) : l.length ≤ 60 := by
  simp only [wrd, Bool.and_eq_true, decide_eq_true_eq] at h; omega
theorem usr_len {l : Bs} (h : usr l = true) : l.length ≤ 8 := by
  simp only [usr, Bool.and_eq_true, decide_eq_true_eq] at h; omega
theorem cmd_len {k : Int} {l : Bs} (h : cmd k l = true) : l.length ≤ 60 := by
  unfold cmd at h
  split at h
  · exact wrd_len h
  · rw [eq_of_beq h]; simp
theorem ws_lens {j : Jb} (h : chk j = 0) : Lib.lens (ws j) ≤ 159 := by
  obtain ⟨h1, h2, h3, h4, h5, h6, h7, h8⟩ := chk_ok.1 h
  have l0 := ltr_len j.k
  have l1 := idLen h1
  have l2 := usr_len h3
  have l3 := (Pth.chk_ok.1 h4).1
  have l4 := (Pth.chk_ok.1 h5).1
  have l5 := nDig h7 h8
  have l6 := cmd_len h6
  unfold ws
  by_cases hk : j.k = 2
  · rw [if_pos hk]; simp only [Lib.lens, List.map_append, List.map_cons, List.map_nil, List.sum_append, List.sum_cons, List.sum_nil]; omega
  · rw [if_neg hk]; simp only [Lib.lens, List.append_nil, List.map_cons, List.map_nil, List.sum_cons, List.sum_nil]; omega
theorem txt_len {j : Jb} (h : chk j = 0) : (txt j).length ≤ 165 := by
  have h1 := jn_len (ws j) (by intro e; have := (ws_len j).1; rw [e] at this; simp at this)
  have h2 := ws_lens h
  have h3 := (ws_len j).2
  unfold txt
  omega
end Job
end Go.Proofs.YtgcbaflaidehnaaDoor
