/-
  Mathematics of layer 1: digits, written and read. Mathematics of layer 3: names of systems, grades, ids, names of files.
-/
import Derived.Test.YtmilfamjkiemaaaGreatDoorSzAA
import Derived.Lib.ItoaMem
namespace Go.Proofs.YtmilfamjkiemaaaGreatDoor
namespace Oct
theorem all_of_fin {p : UInt8 → Prop} (h : ∀ n : Fin 256, p (UInt8.ofNat n.val)) (c : UInt8) : p c := by
  have := h ⟨c.toNat, c.toNat_lt⟩
  rwa [show UInt8.ofNat c.toNat = c from UInt8.ofNat_toNat] at this

/-! ### Digits -/
theorem pow_le_of_digits (n : Nat) : ∀ width, width < Lib.nDigits n → 1 ≤ width → 10 ^ width ≤ n := by
  induction n using Nat.strongRecOn with
  | ind n ih =>
    intro width h h1
    by_cases h10 : n < 10
    · rw [Lib.nDigits_small h10] at h; omega
    · rw [Lib.nDigits_big h10] at h
      by_cases hw : width = 1
      · subst hw; omega
      · have := ih (n / 10) (by omega) (width - 1) (by omega) (by omega)
        have e : (10 : Nat) ^ width = 10 ^ (width - 1) * 10 := by rw [← Nat.pow_succ]; congr 1; omega
        rw [e]; omega

theorem dec_big {n : Nat} (h : ¬ n < 10) : Lib.decDigits n = Lib.decDigits (n / 10) ++ [UInt8.ofNat (48 + n % 10)] := by
  rw [Lib.decDigits, dif_neg h]
theorem dec_small {n : Nat} (h : n < 10) : Lib.decDigits n = [UInt8.ofNat (48 + n)] := by rw [Lib.decDigits, dif_pos h]
theorem dig_toNat (d : Nat) (h : d < 10) : (UInt8.ofNat (48 + d)).toNat = 48 + d := by rw [UInt8.toNat_ofNat']; omega
theorem dec_facts (n : Nat) : numTo (Lib.decDigits n) = n ∧ (Lib.decDigits n).all isDig = true ∧ Lib.decDigits n ≠ [] ∧ (1 ≤ n → (Lib.decDigits n).headD 0 ≠ 48) := by
  induction n using Nat.strongRecOn with
  | ind n ih =>
    by_cases h : n < 10
    · rw [dec_small h]
      have e := dig_toNat n h
      refine ⟨?_, ?_, by simp, ?_⟩
      · simp [numTo]; omega
      · simp only [List.all_cons, List.all_nil, Bool.and_true]; exact isDig_true (by rw [e]; omega) (by rw [e]; omega)
      · intro h1 h2
        have : (UInt8.ofNat (48 + n)).toNat = 48 := by simp at h2; rw [show UInt8.ofNat (48 + n) = 48 by simpa using h2]; rfl
        omega
    · obtain ⟨i1, i2, i3, i4⟩ := ih (n / 10) (by omega)
      rw [dec_big h]
      have e := dig_toNat (n % 10) (by omega)
      refine ⟨?_, ?_, by simp, ?_⟩
      · rw [numTo_snoc, i1, e]; omega
      · rw [List.all_append, i2]; simp only [List.all_cons, List.all_nil, Bool.and_true, Bool.true_and]; exact isDig_true (by rw [e]; omega) (by rw [e]; omega)
      · intro _
        have h1 := i4 (by omega)
        cases hd : Lib.decDigits (n / 10) with
        | nil => exact absurd hd i3
        | cons a r => rw [hd] at h1; simpa using h1
theorem number_itoa {n : Nat} (h : n ≤ 1099511627776) : number (Lib.itoa (n : Int)) = (n, 0) := by
  rw [Lib.itoa_nonneg]
  obtain ⟨h1, h2, h3, h4⟩ := dec_facts n
  have hl : (Lib.decDigits n).length ≤ 13 := by
    rw [Lib.decDigits_length]
    rcases Nat.lt_or_ge 13 (Lib.nDigits n) with hx | hx
    · have := pow_le_of_digits n 13 hx (by omega)
      have e : (10 : Nat) ^ 13 = 10000000000000 := by decide
      omega
    · exact hx
  have hz : ¬ (1 < (Lib.decDigits n).length ∧ (Lib.decDigits n).headD 0 = 48) := by
    rintro ⟨hx, hy⟩
    by_cases hn : 1 ≤ n
    · exact h4 hn hy
    · have : n = 0 := by omega
      subst this
      rw [dec_small (by decide)] at hx
      simp at hx
  rw [number_else (areDig_mk h2 (List.length_pos_iff.2 h3)) hz, if_neg (by omega), h1, if_neg (by omega)]
theorem numTo_ge {a : UInt8} {r : List UInt8} (hd : (a :: r).all isDig = true) (h : a ≠ 48) : 1 ≤ numTo (a :: r) := by
  have h1 : isDig a = true := by rw [List.all_cons, Bool.and_eq_true] at hd; exact hd.1
  have h2 := isDig_le h1
  have h3 : a.toNat ≠ 48 := fun e => h (UInt8.toNat_inj.1 (by show a.toNat = 48; exact e))
  have key : ∀ (l : List UInt8) (x : Nat), 1 ≤ x → 1 ≤ l.foldl (fun n c => n * 10 + (c.toNat - 48)) x := by
    intro l
    induction l with
    | nil => intro x hx; exact hx
    | cons c t ih => intro x hx; rw [List.foldl_cons]; exact ih _ (by omega)
  unfold numTo
  rw [List.foldl_cons]
  exact key r _ (by omega)
theorem dec_back : ∀ (r : List UInt8), r ≠ [] → r.reverse.all isDig = true → (1 < r.length → r.reverse.headD 0 ≠ 48) → Lib.decDigits (numTo r.reverse) = r.reverse := by
  intro r
  induction r with
  | nil => intro h; exact absurd rfl h
  | cons c t ih =>
    intro _ hall hz
    rw [List.reverse_cons] at hall hz ⊢
    rw [List.all_append, Bool.and_eq_true] at hall
    have hc := isDig_le (c := c) (by simpa using hall.2)
    have ec : UInt8.ofNat (48 + (c.toNat - 48)) = c := by
      rw [show 48 + (c.toNat - 48) = c.toNat by omega]; exact UInt8.ofNat_toNat
    rw [numTo_snoc]
    by_cases ht : t = []
    · subst ht
      simp only [List.reverse_nil, numTo_nil, List.nil_append, Nat.zero_mul, Nat.zero_add]
      rw [dec_small (by omega), ec]
    · have hz' : t.reverse.headD 0 ≠ 48 := by
        have := hz (by rw [List.length_cons]; have := List.length_pos_iff.2 ht; omega)
        cases hr : t.reverse with
        | nil => exact absurd (List.reverse_eq_nil_iff.1 hr) ht
        | cons a u => rw [hr] at this; simpa using this
      have h1 : 1 ≤ numTo t.reverse := by
        cases hr : t.reverse with
        | nil => exact absurd (List.reverse_eq_nil_iff.1 hr) ht
        | cons a u => rw [hr] at hz' hall; exact numTo_ge hall.1 (by simpa using hz')
      rw [dec_big (by omega)]
      have e1 : (numTo t.reverse * 10 + (c.toNat - 48)) / 10 = numTo t.reverse := by omega
      have e2 : (numTo t.reverse * 10 + (c.toNat - 48)) % 10 = c.toNat - 48 := by omega
      rw [e1, e2, ih ht hall.1 (fun _ => hz'), ec]
theorem number_back {l : List UInt8} (h : (number l).2 = 0) : Lib.itoa ((number l).1 : Int) = l ∧ (number l).1 ≤ 1099511627776 := by
  by_cases hf : areDig l = false ∨ (1 < l.length ∧ l.headD 0 = 48)
  · unfold number at h; rw [if_pos hf] at h; simp at h
  · have hd : areDig l = true := by
      cases hx : areDig l with
      | true => rfl
      | false => exact absurd (Or.inl hx) hf
    have hz : ¬ (1 < l.length ∧ l.headD 0 = 48) := fun x => hf (Or.inr x)
    have e := number_else hd hz
    rw [e] at h ⊢
    split at h
    · simp at h
    · split at h
      · simp at h
      · rename_i h13 hbig
        rw [if_neg h13, if_neg hbig]
        refine ⟨?_, by show numTo l ≤ _; omega⟩
        rw [Lib.itoa_nonneg]
        have := dec_back l.reverse (by intro e0; have := areDig_pos hd; rw [List.reverse_eq_nil_iff.1 e0] at this; simp at this) (by rw [List.reverse_reverse]; exact areDig_all hd)
          (by intro hl; rw [List.reverse_reverse]; intro hy; exact hz ⟨by simpa using hl, hy⟩)
        rw [List.reverse_reverse] at this
        exact this

end Oct
end Go.Proofs.YtmilfamjkiemaaaGreatDoor

namespace Go.Proofs.YtmilfamjkiemaaaGreatDoor
namespace Nam

def dg (c : Int) : Bool := decide (48 ≤ c) && decide (c ≤ 57)
def gt (c : Int) : Bool := decide (65 ≤ c) && decide (c ≤ 90)
def sm (c : Int) : Bool := decide (97 ≤ c) && decide (c ≤ 122)
/-- P3.2: a grade. -/
def grade (c : Int) : Bool := dg c || gt c || sm c
def okc (c : UInt8) : Bool := dg (c.toNat : Int) || sm (c.toNat : Int)
/-- P3.1: a system's name. -/
def system (l : List UInt8) : Bool := decide (1 ≤ l.length) && decide (l.length ≤ 7) && !dg ((l.headD 0).toNat : Int) && l.all okc
/-- P3.2: an id that may be. -/
def may (g n : Int) : Bool := grade g && decide (1 ≤ n) && decide (n ≤ 99999)
def byteOf (x : Int) : UInt8 := UInt8.ofNat x.toNat
def idT (g n : Int) : List UInt8 := byteOf g :: Lib.itoa n
/-- P3.2: Id. -/
def id (g n : Int) : List UInt8 × Int := if may g n then (idT g n, 0) else ([], 1)
/-- P3.2: ParseId: grade, number, error. -/
def pid : List UInt8 → Int × Int × Int
  | [] => (0, 0, 3)
  | c :: r => if (Oct.number r).2 = 0 ∧ may (c.toNat : Int) ((Oct.number r).1 : Int) = true then ((c.toNat : Int), ((Oct.number r).1 : Int), 0) else (0, 0, 3)
def fk (k : Int) : Bool := k == 67 || k == 68 || k == 69 || k == 70 || k == 79 || k == 84 || k == 85 || k == 88
def nk (k : Int) : Bool := k == 81 || k == 83
def sysT (k : Int) (s : List UInt8) : List UInt8 := byteOf k :: 46 :: s
def fileT (k : Int) (s : List UInt8) (g n : Int) : List UInt8 := sysT k s ++ 46 :: idT g n
/-- P3.4: File. -/
def file (k : Int) (s : List UInt8) (g n : Int) : List UInt8 × Int :=
  if fk k = false then ([], 1) else if system s = false then ([], 11) else if may g n = false then ([], 1) else (fileT k s g n, 0)
/-- P3.5: Note. -/
def note (k : Int) (s : List UInt8) : List UInt8 × Int :=
  if nk k = false then ([], 1) else if system s = false then ([], 11) else (sysT k s, 0)
def np (c : UInt8) : Bool := c != 46
def pre (l : List UInt8) : List UInt8 := l.takeWhile np
def post (l : List UInt8) : List UInt8 := (l.dropWhile np).drop 1
/-- P3.4: ParseFile: kind, system, grade, number, error. -/
def pfile (l : List UInt8) : Int × List UInt8 × Int × Int × Int :=
  if (pre l).length = 1 ∧ fk (((pre l).headD 0).toNat : Int) = true ∧ system (pre (post l)) = true ∧ (pid (post (post l))).2.2 = 0 then
    ((((pre l).headD 0).toNat : Int), pre (post l), (pid (post (post l))).1, (pid (post (post l))).2.1, 0)
  else (0, [], 0, 0, 3)

theorem may_iff {g n : Int} : may g n = true ↔ grade g = true ∧ 1 ≤ n ∧ n ≤ 99999 := by
  simp [may, Bool.and_eq_true, and_assoc]
theorem grade_bd {g : Int} (h : grade g = true) : 48 ≤ g ∧ g ≤ 122 := by
  simp [grade, dg, gt, sm] at h; omega
theorem byteOf_toNat {g : Int} (h0 : 0 ≤ g) (h1 : g < 256) : ((byteOf g).toNat : Int) = g := by
  unfold byteOf; rw [UInt8.toNat_ofNat']; omega
theorem byteOf_back (c : UInt8) : byteOf (c.toNat : Int) = c := by
  unfold byteOf; rw [Int.toNat_natCast]; exact UInt8.ofNat_toNat
theorem fk_bd {k : Int} (h : fk k = true) : 67 ≤ k ∧ k ≤ 88 := by
  simp [fk] at h; omega
/-! ### Ids -/
theorem pid_fail (l : List UInt8) : (pid l).2.2 = 0 ∨ pid l = (0, 0, 3) := by
  cases l with
  | nil => right; rfl
  | cons c r => by_cases h : (Oct.number r).2 = 0 ∧ may (c.toNat : Int) ((Oct.number r).1 : Int) = true
                · left; rw [pid, if_pos h]
                · right; rw [pid, if_neg h]
theorem pid_id {g n : Int} (h : may g n = true) : pid (idT g n) = (g, n, 0) := by
  obtain ⟨hg, h1, h2⟩ := may_iff.1 h
  obtain ⟨b0, b1⟩ := grade_bd hg
  have hb : ((byteOf g).toNat : Int) = g := byteOf_toNat (by omega) (by omega)
  obtain ⟨q, rfl⟩ := Int.eq_ofNat_of_zero_le (show 0 ≤ n by omega)
  have hq := Oct.number_itoa (n := q) (by omega)
  rw [idT, pid, hq, hb, if_pos ⟨rfl, h⟩]
theorem id_pid {l : List UInt8} (h : (pid l).2.2 = 0) : may (pid l).1 (pid l).2.1 = true ∧ idT (pid l).1 (pid l).2.1 = l := by
  cases l with
  | nil => exact absurd h (by decide)
  | cons c r =>
    by_cases hc : (Oct.number r).2 = 0 ∧ may (c.toNat : Int) ((Oct.number r).1 : Int) = true
    · have e : pid (c :: r) = ((c.toNat : Int), ((Oct.number r).1 : Int), 0) := by rw [pid, if_pos hc]
      rw [e]
      refine ⟨hc.2, ?_⟩
      show byteOf (c.toNat : Int) :: Lib.itoa ((Oct.number r).1 : Int) = c :: r
      rw [(Oct.number_back hc.1).1, byteOf_back]
    · have e : pid (c :: r) = (0, 0, 3) := by rw [pid, if_neg hc]
      rw [e] at h
      exact absurd h (by decide : ¬ ((3 : Int) = 0))

/-! ### Points -/
theorem takeWhile_app {p : UInt8 → Bool} {a : List UInt8} {c : UInt8} {r : List UInt8} (ha : a.all p = true) (hc : p c = false) : (a ++ c :: r).takeWhile p = a := by
  induction a with
  | nil => simp [hc]
  | cons x t ih => simp only [List.all_cons, Bool.and_eq_true] at ha; rw [List.cons_append, List.takeWhile_cons, if_pos ha.1, ih ha.2]
theorem dropWhile_app {p : UInt8 → Bool} {a : List UInt8} {c : UInt8} {r : List UInt8} (ha : a.all p = true) (hc : p c = false) : (a ++ c :: r).dropWhile p = c :: r := by
  induction a with
  | nil => simp [hc]
  | cons x t ih => simp only [List.all_cons, Bool.and_eq_true] at ha; rw [List.cons_append, List.dropWhile_cons, if_pos ha.1, ih ha.2]
theorem np46 : np 46 = false := by decide
theorem pre_app {a r : List UInt8} (ha : a.all np = true) : pre (a ++ 46 :: r) = a := takeWhile_app ha np46
theorem post_app {a r : List UInt8} (ha : a.all np = true) : post (a ++ 46 :: r) = r := by unfold post; rw [dropWhile_app ha np46]; rfl
theorem pre_all {a : List UInt8} (ha : a.all np = true) : pre a = a := by
  induction a with
  | nil => rfl
  | cons x t ih => simp only [List.all_cons, Bool.and_eq_true] at ha; unfold pre at *; rw [List.takeWhile_cons, if_pos ha.1, ih ha.2]
theorem post_all {a : List UInt8} (ha : a.all np = true) : post a = [] := by
  induction a with
  | nil => rfl
  | cons x t ih => simp only [List.all_cons, Bool.and_eq_true] at ha; unfold post at *; rw [List.dropWhile_cons, if_pos ha.1, ih ha.2]
theorem cut_cases (l : List UInt8) : (l.all np = true ∧ pre l = l ∧ post l = []) ∨ l = pre l ++ 46 :: post l := by
  induction l with
  | nil => left; exact ⟨rfl, rfl, rfl⟩
  | cons x t ih =>
    by_cases h : np x = true
    · have e1 : pre (x :: t) = x :: pre t := by unfold pre; rw [List.takeWhile_cons, if_pos h]
      have e2 : post (x :: t) = post t := by unfold post; rw [List.dropWhile_cons, if_pos h]
      rcases ih with ⟨a, b, c⟩ | ih
      · left; exact ⟨by rw [List.all_cons, h, a]; rfl, by rw [e1, b], by rw [e2, c]⟩
      · right; rw [e1, e2, List.cons_append, ← ih]
    · have hx : x = 46 := by simpa [np] using h
      right
      have e1 : pre (x :: t) = [] := by unfold pre; rw [List.takeWhile_cons, if_neg h]
      have e2 : post (x :: t) = t := by unfold post; rw [List.dropWhile_cons, if_neg h]; rfl
      rw [e1, e2, hx]; rfl
theorem okc_np {c : UInt8} (h : okc c = true) : np c = true := by
  cases e : np c with
  | true => rfl
  | false =>
    have hx : c = 46 := by simpa [np] using e
    subst hx
    exact absurd h (by decide)
theorem system_np {l : List UInt8} (h : system l = true) : l.all np = true := by
  have h2 : l.all okc = true := by unfold system at h; simp only [Bool.and_eq_true] at h; exact h.2
  rw [List.all_eq_true] at h2 ⊢
  exact fun x hx => okc_np (h2 x hx)
theorem system_len {l : List UInt8} (h : system l = true) : 1 ≤ l.length ∧ l.length ≤ 7 := by
  unfold system at h; simp only [Bool.and_eq_true, decide_eq_true_eq] at h; exact ⟨h.1.1.1, h.1.1.2⟩
theorem fk_np {k : Int} (h : fk k = true) : np (byteOf k) = true := by
  obtain ⟨h0, h1⟩ := fk_bd h
  cases e : np (byteOf k) with
  | true => rfl
  | false =>
    have hx : byteOf k = 46 := by simpa [np] using e
    have := byteOf_toNat (g := k) (by omega) (by omega)
    rw [hx] at this
    have h46 : ((46 : UInt8).toNat : Int) = 46 := rfl
    omega

/-! ### Files -/
theorem pfile_file {k : Int} {s : List UInt8} {g n : Int} (hk : fk k = true) (hs : system s = true) (hm : may g n = true) : pfile (fileT k s g n) = (k, s, g, n, 0) := by
  have e : fileT k s g n = [byteOf k] ++ 46 :: (s ++ 46 :: idT g n) := by unfold fileT sysT; simp
  have p1 : pre (fileT k s g n) = [byteOf k] := by rw [e]; exact pre_app (by simp [fk_np hk])
  have p2 : post (fileT k s g n) = s ++ 46 :: idT g n := by rw [e]; exact post_app (by simp [fk_np hk])
  have p3 : pre (s ++ 46 :: idT g n) = s := pre_app (system_np hs)
  have p4 : post (s ++ 46 :: idT g n) = idT g n := post_app (system_np hs)
  obtain ⟨h0, h1⟩ := fk_bd hk
  have hb : ((byteOf k).toNat : Int) = k := byteOf_toNat (by omega) (by omega)
  unfold pfile
  rw [p1, p2, p3, p4, pid_id hm]
  show (if [byteOf k].length = 1 ∧ fk ((byteOf k).toNat : Int) = true ∧ system s = true ∧ (0 : Int) = 0 then (((byteOf k).toNat : Int), s, g, n, (0 : Int)) else (0, [], 0, 0, 3)) = _
  rw [hb, if_pos ⟨rfl, hk, hs, rfl⟩]
theorem file_pfile {l : List UInt8} (h : (pfile l).2.2.2.2 = 0) :
    fk (pfile l).1 = true ∧ system (pfile l).2.1 = true ∧ may (pfile l).2.2.1 (pfile l).2.2.2.1 = true ∧ fileT (pfile l).1 (pfile l).2.1 (pfile l).2.2.1 (pfile l).2.2.2.1 = l := by
  by_cases hc : (pre l).length = 1 ∧ fk (((pre l).headD 0).toNat : Int) = true ∧ system (pre (post l)) = true ∧ (pid (post (post l))).2.2 = 0
  · have e : pfile l = ((((pre l).headD 0).toNat : Int), pre (post l), (pid (post (post l))).1, (pid (post (post l))).2.1, 0) := by unfold pfile; rw [if_pos hc]
    obtain ⟨c1, c2, c3, c4⟩ := hc
    obtain ⟨m1, m2⟩ := id_pid c4
    rw [e]
    refine ⟨c2, c3, m1, ?_⟩
    show fileT _ (pre (post l)) (pid (post (post l))).1 (pid (post (post l))).2.1 = l
    unfold fileT
    rw [m2]
    have hs := system_len c3
    have q1 : l = pre l ++ 46 :: post l := by
      rcases cut_cases l with ⟨_, _, x⟩ | x
      · rw [x] at hs; exact absurd hs.1 (by decide)
      · exact x
    have q2 : post l = pre (post l) ++ 46 :: post (post l) := by
      rcases cut_cases (post l) with ⟨_, _, x⟩ | x
      · rw [x] at c4; exact absurd c4 (by decide)
      · exact x
    obtain ⟨c, hc⟩ := List.length_eq_one_iff.1 c1
    conv => rhs; rw [q1]
    conv => rhs; rw [q2]
    rw [hc]
    unfold sysT
    rw [show (([c] : List UInt8).headD 0) = c from rfl, byteOf_back]
    simp
  · have e : pfile l = (0, [], 0, 0, 3) := by unfold pfile; rw [if_neg hc]
    rw [e] at h
    exact absurd h (by decide : ¬ ((3 : Int) = 0))
theorem nDigits_le : ∀ (k u : Nat), u < 10 ^ (k + 1) → Lib.nDigits u ≤ k + 1
  | 0, u, h => by rw [Lib.nDigits_small (by simpa using h)]; omega
  | k + 1, u, h => by
    by_cases h1 : u < 10
    · rw [Lib.nDigits_small h1]; omega
    · have := nDigits_le k (u / 10) (by rw [Nat.pow_succ] at h; omega)
      rw [Lib.nDigits_big h1]; omega
theorem itoa_len {n : Int} (h0 : 1 ≤ n) (h1 : n ≤ 99999) : (Lib.itoa n).length ≤ 5 := by
  obtain ⟨q, rfl⟩ := Int.eq_ofNat_of_zero_le (show 0 ≤ n by omega)
  have e : Lib.itoa (q : Int) = Lib.decDigits q := by unfold Lib.itoa; rw [if_neg (by omega)]; simp
  rw [e, Lib.decDigits_length]
  exact nDigits_le 4 q (by omega)
theorem fileT_len {k : Int} {s : List UInt8} {g n : Int} (hs : system s = true) (hm : may g n = true) : (fileT k s g n).length ≤ 16 := by
  obtain ⟨_, h1, h2⟩ := may_iff.1 hm
  have := itoa_len h1 h2
  have := (system_len hs).2
  unfold fileT sysT idT
  simp only [List.length_append, List.length_cons]
  omega
end Nam
end Go.Proofs.YtmilfamjkiemaaaGreatDoor
