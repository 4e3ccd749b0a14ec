/-
  Mathematics of layer 3: names of systems, grades, ids, names of files.
-/
import Derived.Test.YthjlhbbhdliffaaDoorMathD
namespace Go.Proofs.YthjlhbbhdliffaaDoor
namespace Nam

def dg (c : Int) : Bool := decide (48 ≤ c) && decide (c ≤ 57)
def gt (c : Int) : Bool := decide (65 ≤ c) && decide (c ≤ 90)
def sm (c : Int) : Bool := decide (97 ≤ c) && decide (c ≤ 122)
/-- P3.2: a grade. -/
def grade (c : Int) : Bool := dg c || gt c || sm c
def okc (c : UInt8) : Bool := dg (c.toNat : Int) || sm (c.toNat : Int)
/-- P3.1: a system's name. -/
def system (l : List UInt8) : Bool := decide (1 ≤ l.length) && decide (l.length ≤ 7) && !dg ((l.headD 0).toNat : Int) && l.all okc
/-- P3.2: an id that may be. -/
def may (g n : Int) : Bool := grade g && decide (1 ≤ n) && decide (n ≤ 99999)
def byteOf (x : Int) : UInt8 := UInt8.ofNat x.toNat
def idT (g n : Int) : List UInt8 := byteOf g :: Lib.itoa n
/-- P3.2: Id. -/
def id (g n : Int) : List UInt8 × Int := if may g n then (idT g n, 0) else ([], 1)
/-- P3.2: ParseId: grade, number, error. -/
def pid : List UInt8 → Int × Int × Int
  | [] => (0, 0, 3)
  | c :: r => if (Oct.number r).2 = 0 ∧ may (c.toNat : Int) ((Oct.number r).1 : Int) = true then ((c.toNat : Int), ((Oct.number r).1 : Int), 0) else (0, 0, 3)
def fk (k : Int) : Bool := k == 67 || k == 68 || k == 69 || k == 70 || k == 79 || k == 84 || k == 85 || k == 88
def nk (k : Int) : Bool := k == 81 || k == 83
def sysT (k : Int) (s : List UInt8) : List UInt8 := byteOf k :: 46 :: s
def fileT (k : Int) (s : List UInt8) (g n : Int) : List UInt8 := sysT k s ++ 46 :: idT g n
/-- P3.4: File. -/
def file (k : Int) (s : List UInt8) (g n : Int) : List UInt8 × Int :=
  if fk k = false then ([], 1) else if system s = false then ([], 11) else if may g n = false then ([], 1) else (fileT k s g n, 0)
/-- P3.5: Note. -/
def note (k : Int) (s : List UInt8) : List UInt8 × Int :=
  if nk k = false then ([], 1) else if system s = false then ([], 11) else (sysT k s, 0)
def np (c : UInt8) : Bool := c != 46
def pre (l : List UInt8) : List UInt8 := l.takeWhile np
def post (l : List UInt8) : List UInt8 := (l.dropWhile np).drop 1
/-- P3.4: ParseFile: kind, system, grade, number, error. -/
def pfile (l : List UInt8) : Int × List UInt8 × Int × Int × Int :=
  if (pre l).length = 1 ∧ fk (((pre l).headD 0).toNat : Int) = true ∧ system (pre (post l)) = true ∧ (pid (post (post l))).2.2 = 0 then
    ((((pre l).headD 0).toNat : Int), pre (post l), (pid (post (post l))).1, (pid (post (post l))).2.1, 0)
  else (0, [], 0, 0, 3)

theorem may_iff {g n : Int} : may g n = true ↔ grade g = true ∧ 1 ≤ n ∧ n ≤ 99999 := by
  simp [may, Bool.and_eq_true, and_assoc]
theorem grade_bd {g : Int} (h : grade g = true) : 48 ≤ g ∧ g ≤ 122 := by
  simp [grade, dg, gt, sm] at h; omega
theorem byteOf_toNat {g : Int} (h0 : 0 ≤ g) (h1 : g < 256) : ((byteOf g).toNat : Int) = g := by
  unfold byteOf; rw [UInt8.toNat_ofNat']; omega
theorem byteOf_back (c : UInt8) : byteOf (c.toNat : Int) = c := by
  unfold byteOf; rw [Int.toNat_natCast]; exact UInt8.ofNat_toNat
theorem fk_bd {k : Int} (h : fk k = true) : 67 ≤ k ∧ k ≤ 88 := by
  simp [fk] at h; omega
theorem nk_bd {k : Int} (h : nk k = true) : 81 ≤ k ∧ k ≤ 83 := by
  simp [nk] at h; omega

/-! ### Ids -/
theorem pid_fail (l : List UInt8) : (pid l).2.2 = 0 ∨ pid l = (0, 0, 3) := by
  cases l with
  | nil => right; rfl
  | cons c r => by_cases h : (Oct.number r).2 = 0 ∧ may (c.toNat : Int) ((Oct.number r).1 : Int) = true
                · left; rw [pid, if_pos h]
                · right; rw [pid, if_neg h]
theorem pid_id {g n : Int} (h : may g n = true) : pid (idT g n) = (g, n, 0) := by
  obtain ⟨hg, h1, h2⟩ := may_iff.1 h
  obtain ⟨b0, b1⟩ := grade_bd hg
  have hb : ((byteOf g).toNat : Int) = g := byteOf_toNat (by omega) (by omega)
  obtain ⟨q, rfl⟩ := Int.eq_ofNat_of_zero_le (show 0 ≤ n by omega)
  have hq := Oct.number_itoa (n := q) (by omega)
  rw [idT, pid, hq, hb, if_pos ⟨rfl, h⟩]
theorem id_pid {l : List UInt8} (h : (pid l).2.2 = 0) : may (pid l).1 (pid l).2.1 = true ∧ idT (pid l).1 (pid l).2.1 = l := by
  cases l with
  | nil => exact absurd h (by decide)
  | cons c r =>
    by_cases hc : (Oct.number r).2 = 0 ∧ may (c.toNat : Int) ((Oct.number r).1 : Int) = true
    · have e : pid (c :: r) = ((c.toNat : Int), ((Oct.number r).1 : Int), 0) := by rw [pid, if_pos hc]
      rw [e]
      refine ⟨hc.2, ?_⟩
      show byteOf (c.toNat : Int) :: Lib.itoa ((Oct.number r).1 : Int) = c :: r
      rw [(Oct.number_back hc.1).1, byteOf_back]
    · have e : pid (c :: r) = (0, 0, 3) := by rw [pid, if_neg hc]
      rw [e] at h
      exact absurd h (by decide : ¬ ((3 : Int) = 0))

/-! ### Points -/
theorem takeWhile_app {p : UInt8 → Bool} {a : List UInt8} {c : UInt8} {r : List UInt8} (ha : a.all p = true) (hc : p c = false) : (a ++ c :: r).takeWhile p = a := by
  induction a with
  | nil => simp [hc]
  | cons x t ih => simp only [List.all_cons, Bool.and_eq_true] at ha; rw [List.cons_append, List.takeWhile_cons, if_pos ha.1, ih ha.2]
theorem dropWhile_app {p : UInt8 → Bool} {a : List UInt8} {c : UInt8} {r : List UInt8} (ha : a.all p = true) (hc : p c = false) : (a ++ c :: r).dropWhile p = c :: r := by
  induction a with
  | nil => simp [hc]
  | cons x t ih => simp only [List.all_cons, Bool.and_eq_true] at ha; rw [List.cons_append, List.dropWhile_cons, if_pos ha.1, ih ha.2]
theorem np46 : np 46 = false := by decide
theorem pre_app {a r : List UInt8} (ha : a.all np = true) : pre (a ++ 46 :: r) = a := takeWhile_app ha np46
theorem post_app {a r : List UInt8} (ha : a.all np = true) : post (a ++ 46 :: r) = r := by unfold post; rw [dropWhile_app ha np46]; rfl
theorem pre_all {a : List UInt8} (ha : a.all np = true) : pre a = a := by
  induction a with
  | nil => rfl
  | cons x t ih => simp only [List.all_cons, Bool.and_eq_true] at ha; unfold pre at *; rw [List.takeWhile_cons, if_pos ha.1, ih ha.2]
theorem post_all {a : List UInt8} (ha : a.all np = true) : post a = [] := by
  induction a with
  | nil => rfl
  | cons x t ih => simp only [List.all_cons, Bool.and_eq_true] at ha; unfold post at *; rw [List.dropWhile_cons, if_pos ha.1, ih ha.2]
/-- A text is what stands ahead of its first point, and, if there is one, the point and what stands behind. -/
theorem pre_np (l : List UInt8) : (pre l).all np = true := by
  induction l with
  | nil => rfl
  | cons x t ih =>
    unfold pre at *
    rw [List.takeWhile_cons]
    by_cases h : np x = true
    · rw [if_pos h, List.all_cons, h, ih]; rfl
    · rw [if_neg h]; rfl
theorem cut_cases (l : List UInt8) : (l.all np = true ∧ pre l = l ∧ post l = []) ∨ l = pre l ++ 46 :: post l := by
  induction l with
  | nil => left; exact ⟨rfl, rfl, rfl⟩
  | cons x t ih =>
    by_cases h : np x = true
    · have e1 : pre (x :: t) = x :: pre t := by unfold pre; rw [List.takeWhile_cons, if_pos h]
      have e2 : post (x :: t) = post t := by unfold post; rw [List.dropWhile_cons, if_pos h]
      rcases ih with ⟨a, b, c⟩ | ih
      · left; exact ⟨by rw [List.all_cons, h, a]; rfl, by rw [e1, b], by rw [e2, c]⟩
      · right; rw [e1, e2, List.cons_append, ← ih]
    · have hx : x = 46 := by simpa [np] using h
      right
      have e1 : pre (x :: t) = [] := by unfold pre; rw [List.takeWhile_cons, if_neg h]
      have e2 : post (x :: t) = t := by unfold post; rw [List.dropWhile_cons, if_neg h]; rfl
      rw [e1, e2, hx]; rfl
theorem okc_np {c : UInt8} (h : okc c = true) : np c = true := by
  cases e : np c with
  | true => rfl
  | false =>
    have hx : c = 46 := by simpa [np] using e
    subst hx
    exact absurd h (by decide)
theorem system_np {l : List UInt8} (h : system l = true) : l.all np = true := by
  have h2 : l.all okc = true := by unfold system at h; simp only [Bool.and_eq_true] at h; exact h.2
  rw [List.all_eq_true] at h2 ⊢
  exact fun x hx => okc_np (h2 x hx)
theorem system_len {l : List UInt8} (h : system l = true) : 1 ≤ l.length ∧ l.length ≤ 7 := by
  unfold system at h; simp only [Bool.and_eq_true, decide_eq_true_eq] at h; exact ⟨h.1.1.1, h.1.1.2⟩
theorem fk_np {k : Int} (h : fk k = true) : np (byteOf k) = true := by
  obtain ⟨h0, h1⟩ := fk_bd h
  cases e : np (byteOf k) with
  | true => rfl
  | false =>
    have hx : byteOf k = 46 := by simpa [np] using e
    have := byteOf_toNat (g := k) (by omega) (by omega)
    rw [hx] at this
    have h46 : ((46 : UInt8).toNat : Int) = 46 := rfl
    omega

/-! ### Files -/
theorem pfile_file {k : Int} {s : List UInt8} {g n : Int} (hk : fk k = true) (hs : system s = true) (hm : may g n = true) : pfile (fileT k s g n) = (k, s, g, n, 0) := by
  have e : fileT k s g n = [byteOf k] ++ 46 :: (s ++ 46 :: idT g n) := by unfold fileT sysT; simp
  have p1 : pre (fileT k s g n) = [byteOf k] := by rw [e]; exact pre_app (by simp [fk_np hk])
  have p2 : post (fileT k s g n) = s ++ 46 :: idT g n := by rw [e]; exact post_app (by simp [fk_np hk])
  have p3 : pre (s ++ 46 :: idT g n) = s := pre_app (system_np hs)
  have p4 : post (s ++ 46 :: idT g n) = idT g n := post_app (system_np hs)
  obtain ⟨h0, h1⟩ := fk_bd hk
  have hb : ((byteOf k).toNat : Int) = k := byteOf_toNat (by omega) (by omega)
  unfold pfile
  rw [p1, p2, p3, p4, pid_id hm]
  show (if [byteOf k].length = 1 ∧ fk ((byteOf k).toNat : Int) = true ∧ system s = true ∧ (0 : Int) = 0 then (((byteOf k).toNat : Int), s, g, n, (0 : Int)) else (0, [], 0, 0, 3)) = _
  rw [hb, if_pos ⟨rfl, hk, hs, rfl⟩]
theorem pfile_fail (l : List UInt8) : (pfile l).2.2.2.2 = 0 ∨ pfile l = (0, [], 0, 0, 3) := by
  unfold pfile
  split
  · left; rfl
  · right; rfl
theorem file_pfile {l : List UInt8} (h : (pfile l).2.2.2.2 = 0) :
    fk (pfile l).1 = true ∧ system (pfile l).2.1 = true ∧ may (pfile l).2.2.1 (pfile l).2.2.2.1 = true ∧ fileT (pfile l).1 (pfile l).2.1 (pfile l).2.2.1 (pfile l).2.2.2.1 = l := by
  by_cases hc : (pre l).length = 1 ∧ fk (((pre l).headD 0).toNat : Int) = true ∧ system (pre (post l)) = true ∧ (pid (post (post l))).2.2 = 0
  · have e : pfile l = ((((pre l).headD 0).toNat : Int), pre (post l), (pid (post (post l))).1, (pid (post (post l))).2.1, 0) := by unfold pfile; rw [if_pos hc]
    obtain ⟨c1, c2, c3, c4⟩ := hc
    obtain ⟨m1, m2⟩ := id_pid c4
    rw [e]
    refine ⟨c2, c3, m1, ?_⟩
    show fileT _ (pre (post l)) (pid (post (post l))).1 (pid (post (post l))).2.1 = l
    unfold fileT
    rw [m2]
    have hs := system_len c3
    have q1 : l = pre l ++ 46 :: post l := by
      rcases cut_cases l with ⟨_, _, x⟩ | x
      · rw [x] at hs; exact absurd hs.1 (by decide)
      · exact x
    have q2 : post l = pre (post l) ++ 46 :: post (post l) := by
      rcases cut_cases (post l) with ⟨_, _, x⟩ | x
      · rw [x] at c4; exact absurd c4 (by decide)
      · exact x
    obtain ⟨c, hc⟩ := List.length_eq_one_iff.1 c1
    conv => rhs; rw [q1]
    conv => rhs; rw [q2]
    rw [hc]
    unfold sysT
    rw [show (([c] : List UInt8).headD 0) = c from rfl, byteOf_back]
    simp
  · have e : pfile l = (0, [], 0, 0, 3) := by unfold pfile; rw [if_neg hc]
    rw [e] at h
    exact absurd h (by decide : ¬ ((3 : Int) = 0))
theorem nDigits_le : ∀ (k u : Nat), u < 10 ^ (k + 1) → Lib.nDigits u ≤ k + 1
  | 0, u, h => by rw [Lib.nDigits_small (by simpa using h)]; omega
  | k + 1, u, h => by
    by_cases h1 : u < 10
    · rw [Lib.nDigits_small h1]; omega
    · have := nDigits_le k (u / 10) (by rw [Nat.pow_succ] at h; omega)
      rw [Lib.nDigits_big h1]; omega
theorem itoa_len {n : Int} (h0 : 1 ≤ n) (h1 : n ≤ 99999) : (Lib.itoa n).length ≤ 5 := by
  obtain ⟨q, rfl⟩ := Int.eq_ofNat_of_zero_le (show 0 ≤ n by omega)
  have e : Lib.itoa (q : Int) = Lib.decDigits q := by unfold Lib.itoa; rw [if_neg (by omega)]; simp
  rw [e, Lib.decDigits_length]
  exact nDigits_le 4 q (by omega)
theorem fileT_len {k : Int} {s : List UInt8} {g n : Int} (hs : system s = true) (hm : may g n = true) : (fileT k s g n).length ≤ 16 := by
  obtain ⟨_, h1, h2⟩ := may_iff.1 hm
  have := itoa_len h1 h2
  have := (system_len hs).2
  unfold fileT sysT idT
  simp only [List.length_append, List.length_cons]
  omega
end Nam
end Go.Proofs.YthjlhbbhdliffaaDoor
