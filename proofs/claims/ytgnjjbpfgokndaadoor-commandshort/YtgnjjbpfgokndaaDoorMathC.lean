/-
  Mathematics of layer 10: words, their texts, and the word that a text says.
-/
import Derived.Test.YtgnjjbpfgokndaaDoorJb11
namespace Go.Proofs.YtgnjjbpfgokndaaDoor
namespace Cmd
abbrev Bs := List UInt8

/-- a word -/
structure Cw where
  v : Int
  j : Job.Jb
  a : Int
  deriving DecidableEq

def zero : Cw := ⟨0, Job.zero, 0⟩
def jobOf (v : Int) (j : Job.Jb) : Bool := if v = 1 then (j.k == 1 || j.k == 2) else if v = 2 then j.k == 3 else decide (j = Job.zero)
def most (v : Int) : Int := if v = 4 then 6000 else if v = 5 ∨ v = 7 then 9 else 0
def atOf (v a : Int) : Bool := decide (0 ≤ a) && decide (a ≤ most v)
/-- P10.1 -/
def text (c : Cw) : Bs × Nat :=
  if (jobOf c.v c.j && atOf c.v c.a) = false then ([], 1)
  else if c.v = 1 ∨ c.v = 2 then Job.text c.j
  else if c.v = 3 then ([72], 0)
  else if c.v = 4 then (89 :: 32 :: Lib.itoa c.a, 0)
  else if c.v = 5 then (78 :: 32 :: Lib.itoa c.a, 0)
  else if c.v = 6 then ([67], 0)
  else if c.v = 7 then (70 :: 32 :: Lib.itoa c.a, 0)
  else ([], 1)
def says (s : Bs) (c : Cw) : Prop := text c = (s, 0)

/-- what a word that has a text is -/
def Is (c : Cw) (s : Bs) : Prop :=
  (∃ j : Job.Jb, Job.chk j = 0 ∧ (j.k = 1 ∨ j.k = 2) ∧ c = ⟨1, j, 0⟩ ∧ s = Job.txt j) ∨ (∃ j : Job.Jb, Job.chk j = 0 ∧ j.k = 3 ∧ c = ⟨2, j, 0⟩ ∧ s = Job.txt j) ∨
  (c = ⟨3, Job.zero, 0⟩ ∧ s = [72]) ∨ (c = ⟨6, Job.zero, 0⟩ ∧ s = [67]) ∨ (∃ a : Nat, a ≤ 6000 ∧ c = ⟨4, Job.zero, a⟩ ∧ s = 89 :: 32 :: Lib.itoa a) ∨
  (∃ a : Nat, a ≤ 9 ∧ c = ⟨5, Job.zero, a⟩ ∧ s = 78 :: 32 :: Lib.itoa a) ∨ (∃ a : Nat, a ≤ 9 ∧ c = ⟨7, Job.zero, a⟩ ∧ s = 70 :: 32 :: Lib.itoa a)
theorem Is.send (j : Job.Jb) (h : Job.chk j = 0) (hk : j.k = 1 ∨ j.k = 2) : Is ⟨1, j, 0⟩ (Job.txt j) := .inl ⟨j, h, hk, rfl, rfl⟩
theorem Is.fetch (j : Job.Jb) (h : Job.chk j = 0) (hk : j.k = 3) : Is ⟨2, j, 0⟩ (Job.txt j) := .inr (.inl ⟨j, h, hk, rfl, rfl⟩)
theorem Is.hang : Is ⟨3, Job.zero, 0⟩ [72] := .inr (.inr (.inl ⟨rfl, rfl⟩))
theorem Is.done : Is ⟨6, Job.zero, 0⟩ [67] := .inr (.inr (.inr (.inl ⟨rfl, rfl⟩)))
theorem Is.yes (a : Nat) (h : a ≤ 6000) : Is ⟨4, Job.zero, a⟩ (89 :: 32 :: Lib.itoa a) := .inr (.inr (.inr (.inr (.inl ⟨a, h, rfl, rfl⟩))))
theorem Is.no (a : Nat) (h : a ≤ 9) : Is ⟨5, Job.zero, a⟩ (78 :: 32 :: Lib.itoa a) := .inr (.inr (.inr (.inr (.inr (.inl ⟨a, h, rfl, rfl⟩)))))
theorem Is.fail (a : Nat) (h : a ≤ 9) : Is ⟨7, Job.zero, a⟩ (70 :: 32 :: Lib.itoa a) := .inr (.inr (.inr (.inr (.inr (.inr ⟨a, h, rfl, rfl⟩)))))

theorem text_ok {j : Job.Jb} {s : Bs} (h : Job.text j = (s, 0)) : Job.chk j = 0 ∧ Job.txt j = s := by
  unfold Job.text at h
  split at h
  · rename_i hc
    exact ⟨hc, (Prod.mk.inj h).1⟩
  · rename_i hc
    exact absurd (Prod.mk.inj h).2 hc

theorem is_of {c : Cw} {s : Bs} (h : says s c) : Is c s := by
  obtain ⟨v, j, a⟩ := c
  unfold says text at h
  dsimp only at h
  by_cases hm : (jobOf v j && atOf v a) = false
  · rw [if_pos hm] at h; cases (Prod.mk.inj h).2
  rw [if_neg hm] at h
  simp only [Bool.not_eq_false, Bool.and_eq_true] at hm
  obtain ⟨hj, ha⟩ := hm
  unfold atOf at ha
  simp only [Bool.and_eq_true, decide_eq_true_eq] at ha
  obtain ⟨a0, a1⟩ := ha
  by_cases h1 : v = 1
  · subst h1
    have am : most 1 = 0 := by decide
    rw [am] at a1
    obtain rfl : a = 0 := by omega
    rw [if_pos (.inl rfl)] at h
    obtain ⟨hc, rfl⟩ := text_ok h
    unfold jobOf at hj
    rw [if_pos rfl, Bool.or_eq_true, beq_iff_eq, beq_iff_eq] at hj
    exact .send j hc hj
  by_cases h2 : v = 2
  · subst h2
    have am : most 2 = 0 := by decide
    rw [am] at a1
    obtain rfl : a = 0 := by omega
    rw [if_pos (.inr rfl)] at h
    obtain ⟨hc, rfl⟩ := text_ok h
    unfold jobOf at hj
    rw [if_neg (by decide), if_pos rfl, beq_iff_eq] at hj
    exact .fetch j hc hj
  rw [if_neg (by rintro (c | c); exact h1 c; exact h2 c)] at h
  unfold jobOf at hj
  rw [if_neg h1, if_neg h2, decide_eq_true_eq] at hj
  subst hj
  by_cases h3 : v = 3
  · subst h3
    have am : most 3 = 0 := by decide
    rw [am] at a1
    obtain rfl : a = 0 := by omega
    rw [if_pos rfl] at h
    rw [← (Prod.mk.inj h).1]
    exact .hang
  rw [if_neg h3] at h
  by_cases h4 : v = 4
  · subst h4
    have am : most 4 = 6000 := by decide
    rw [am] at a1
    obtain ⟨n, rfl⟩ := Int.eq_ofNat_of_zero_le a0
    rw [if_pos rfl] at h
    rw [← (Prod.mk.inj h).1]
    exact .yes n (by omega)
  rw [if_neg h4] at h
  by_cases h5 : v = 5
  · subst h5
    have am : most 5 = 9 := by decide
    rw [am] at a1
    obtain ⟨n, rfl⟩ := Int.eq_ofNat_of_zero_le a0
    rw [if_pos rfl] at h
    rw [← (Prod.mk.inj h).1]
    exact .no n (by omega)
  rw [if_neg h5] at h
  by_cases h6 : v = 6
  · subst h6
    have am : most 6 = 0 := by decide
    rw [am] at a1
    obtain rfl : a = 0 := by omega
    rw [if_pos rfl] at h
    rw [← (Prod.mk.inj h).1]
    exact .done
  rw [if_neg h6] at h
  by_cases h7 : v = 7
  · subst h7
    have am : most 7 = 9 := by decide
    rw [am] at a1
    obtain ⟨n, rfl⟩ := Int.eq_ofNat_of_zero_le a0
    rw [if_pos rfl] at h
    rw [← (Prod.mk.inj h).1]
    exact .fail n (by omega)
  rw [if_neg h7] at h
  cases (Prod.mk.inj h).2

theorem text_yes {j : Job.Jb} (h : Job.chk j = 0) : Job.text j = (Job.txt j, 0) := by unfold Job.text; rw [if_pos h]
theorem says_is {c : Cw} {s : Bs} (h : Is c s) : says s c := by
  unfold says text
  rcases h with ⟨j, hc, hk, rfl, rfl⟩ | ⟨j, hc, hk, rfl, rfl⟩ | ⟨rfl, rfl⟩ | ⟨rfl, rfl⟩ | ⟨a, ha, rfl, rfl⟩ | ⟨a, ha, rfl, rfl⟩ | ⟨a, ha, rfl, rfl⟩
  · dsimp only
    have : (jobOf 1 j && atOf 1 0) = true := by unfold jobOf; rw [if_pos rfl, Bool.and_eq_true, Bool.or_eq_true, beq_iff_eq, beq_iff_eq]; exact ⟨hk, by decide⟩
    rw [if_neg (by rw [this]; decide), if_pos (.inl rfl), text_yes hc]
  · dsimp only
    have : (jobOf 2 j && atOf 2 0) = true := by unfold jobOf; rw [if_neg (by decide), if_pos rfl, Bool.and_eq_true, beq_iff_eq]; exact ⟨hk, by decide⟩
    rw [if_neg (by rw [this]; decide), if_pos (.inr rfl), text_yes hc]
  · decide
  · decide
  · dsimp only
    have : (jobOf 4 Job.zero && atOf 4 a) = true := by
      have h1 : jobOf 4 Job.zero = true := by decide
      have h2 : most 4 = 6000 := by decide
      unfold atOf; rw [h1, h2]; simp; omega
    rw [if_neg (by rw [this]; decide), if_neg (by decide), if_neg (by decide), if_pos rfl]
  · dsimp only
    have : (jobOf 5 Job.zero && atOf 5 a) = true := by
      have h1 : jobOf 5 Job.zero = true := by decide
      have h2 : most 5 = 9 := by decide
      unfold atOf; rw [h1, h2]; simp; omega
    rw [if_neg (by rw [this]; decide), if_neg (by decide), if_neg (by decide), if_neg (by decide), if_pos rfl]
  · dsimp only
    have : (jobOf 7 Job.zero && atOf 7 a) = true := by
      have h1 : jobOf 7 Job.zero = true := by decide
      have h2 : most 7 = 9 := by decide
      unfold atOf; rw [h1, h2]; simp; omega
    rw [if_neg (by rw [this]; decide), if_neg (by decide), if_neg (by decide), if_neg (by decide), if_neg (by decide), if_neg (by decide), if_pos rfl]
theorem says_iff {c : Cw} {s : Bs} : says s c ↔ Is c s := ⟨is_of, says_is⟩

/-- how a job's text begins -/
theorem txt_head {j : Job.Jb} (h : Job.chk j = 0) : ∃ r, Job.txt j = Job.ltr j.k ++ 32 :: r ∧ 4 ≤ r.length := by
  have hl := Job.txt_long h
  have h1 := Job.ltr_len j.k
  have e : ∃ r, Job.txt j = Job.ltr j.k ++ 32 :: r := by
    unfold Job.txt Job.ws
    exact ⟨_, rfl⟩
  obtain ⟨r, hr⟩ := e
  refine ⟨r, hr, ?_⟩
  rw [hr] at hl
  simp only [List.length_append, List.length_cons] at hl
  omega
theorem txt_send {j : Job.Jb} (h : Job.chk j = 0) (hk : j.k = 1 ∨ j.k = 2) : ∃ b r, Job.txt j = b :: 32 :: r ∧ 4 ≤ r.length ∧ (b = 83 ∨ b = 69) := by
  obtain ⟨r, hr, hl⟩ := txt_head h
  rcases hk with hk | hk <;> rw [hk] at hr
  · exact ⟨83, r, hr, hl, .inl rfl⟩
  · exact ⟨69, r, hr, hl, .inr rfl⟩
theorem txt_fetch {j : Job.Jb} (h : Job.chk j = 0) (hk : j.k = 3) : ∃ r, Job.txt j = 82 :: 32 :: r ∧ 4 ≤ r.length := by
  obtain ⟨r, hr, hl⟩ := txt_head h
  rw [hk] at hr
  exact ⟨r, hr, hl⟩
theorem knd_cases {j : Job.Jb} (h : Job.chk j = 0) : (j.k = 1 ∨ j.k = 2) ∨ j.k = 3 := by
  have := (Job.chk_ok.1 h).2.1
  simp only [Job.knd, Bool.or_eq_true, beq_iff_eq] at this
  exact this
/-- no job's text begins otherwise -/
theorem no_job {b : UInt8} {r : Bs} (h1 : b ≠ 83) (h2 : b ≠ 69) (h3 : b ≠ 82) : ¬ ∃ j, Job.says (b :: r) j := by
  rintro ⟨j, hc, ht⟩
  rcases knd_cases hc with hk | hk
  · obtain ⟨b', r', e, _, hb⟩ := txt_send hc hk
    rw [ht] at e
    have := (List.cons.inj e).1
    rcases hb with hb | hb
    · exact h1 (this.trans hb)
    · exact h2 (this.trans hb)
  · obtain ⟨r', e, _⟩ := txt_fetch hc hk
    rw [ht] at e
    exact h3 (List.cons.inj e).1

/-- by which verb a job is said -/
def vok (k : Int) : Int := if k = 3 then 2 else 1
/-- the verb of a letter -/
def vol (l : Bs) : Int := if l = [72] then 3 else if l = [89] then 4 else if l = [78] then 5 else if l = [67] then 6 else if l = [70] then 7 else 0
/-- what the program reads -/
def cand (s : Bs) : Cw :=
  if (Job.parse s).2 = 0 then ⟨vok (Job.parse s).1.k, (Job.parse s).1, 0⟩ else ⟨vol (Job.pre s), Job.zero, ((Oct.number (Job.post s)).1 : Nat)⟩
theorem parse_err {s : Bs} (h : ¬ ∃ j, Job.says s j) : ¬ (Job.parse s).2 = 0 := by rw [Job.parse_no h]; decide
theorem nb2 (b : UInt8) (h : b ≠ 32) : [b].all Job.np = true := by simp [Job.np, h]
theorem cand_one {b : UInt8} (h1 : b ≠ 83) (h2 : b ≠ 69) (h3 : b ≠ 82) (h4 : b ≠ 32) : cand [b] = ⟨vol [b], Job.zero, 0⟩ := by
  unfold cand
  rw [if_neg (parse_err (no_job h1 h2 h3)), Job.pre_all (nb2 b h4), Job.post_all (nb2 b h4)]
  rfl
theorem cand_num {b : UInt8} (a : Nat) (ha : a ≤ 6000) (h1 : b ≠ 83) (h2 : b ≠ 69) (h3 : b ≠ 82) (h4 : b ≠ 32) : cand (b :: 32 :: Lib.itoa a) = ⟨vol [b], Job.zero, a⟩ := by
  unfold cand
  have e1 : Job.pre (b :: 32 :: Lib.itoa a) = [b] := Job.pre_app (nb2 b h4)
  have e2 : Job.post (b :: 32 :: Lib.itoa a) = Lib.itoa a := Job.post_app (nb2 b h4)
  rw [if_neg (parse_err (no_job h1 h2 h3)), e1, e2, Oct.number_itoa (by omega)]
theorem cand_says {s : Bs} {c : Cw} (h : says s c) : cand s = c := by
  rcases is_of h with ⟨j, hc, hk, rfl, rfl⟩ | ⟨j, hc, hk, rfl, rfl⟩ | ⟨rfl, rfl⟩ | ⟨rfl, rfl⟩ | ⟨a, ha, rfl, rfl⟩ | ⟨a, ha, rfl, rfl⟩ | ⟨a, ha, rfl, rfl⟩
  · unfold cand
    rw [Job.parse_yes ⟨hc, rfl⟩, if_pos rfl]
    have : vok j.k = 1 := by unfold vok; rw [if_neg (by omega)]
    rw [this]
  · unfold cand
    rw [Job.parse_yes ⟨hc, rfl⟩, if_pos rfl]
    have : vok j.k = 2 := by unfold vok; rw [if_pos hk]
    rw [this]
  · exact cand_one (by decide) (by decide) (by decide) (by decide)
  · exact cand_one (by decide) (by decide) (by decide) (by decide)
  · exact cand_num a ha (by decide) (by decide) (by decide) (by decide)
  · exact cand_num a (by omega) (by decide) (by decide) (by decide) (by decide)
  · exact cand_num a (by omega) (by decide) (by decide) (by decide) (by decide)
theorem text_inj {c d : Cw} {s : Bs} (h : says s c) (h' : says s d) : c = d := (cand_says h).symm.trans (cand_says h')

/-- P10.2 -/
def parse (s : Bs) : Cw × Int := if text (cand s) = (s, 0) then (cand s, 0) else (zero, 3)
theorem parse_yes {s : Bs} {c : Cw} (h : says s c) : parse s = (c, 0) := by
  unfold parse
  rw [cand_says h, if_pos (show text c = (s, 0) from h)]
theorem parse_bad {s : Bs} (h : ¬ says s (cand s)) : parse s = (zero, 3) := by unfold parse; rw [if_neg (show ¬ text (cand s) = (s, 0) from h)]
theorem parse_no {s : Bs} (h : ∀ c, ¬ Is c s) : parse s = (zero, 3) := parse_bad fun x => h _ (is_of x)
theorem parse_cases (s : Bs) : (∃ c, says s c ∧ parse s = (c, 0)) ∨ ((∀ c, ¬ says s c) ∧ parse s = (zero, 3)) := by
  by_cases h : says s (cand s)
  · exact .inl ⟨_, h, parse_yes h⟩
  · exact .inr ⟨fun c hc => h ((cand_says hc).symm ▸ hc), parse_bad h⟩

/-- P10.4 -/
def plain (b : UInt8) : Bool := decide (32 ≤ b.toNat ∧ b.toNat ≤ 126)
theorem plain_mono {p : UInt8 → Bool} (hp : ∀ b, p b = true → plain b = true) {l : Bs} (h : l.all p = true) : l.all plain = true := by
  rw [List.all_eq_true] at h ⊢; exact fun x hx => hp x (h x hx)
theorem plain_itoa {z : Int} (h : 0 ≤ z) : (Lib.itoa z).all plain = true := by
  obtain ⟨n, rfl⟩ := Int.eq_ofNat_of_zero_le h
  have e : Lib.itoa (n : Int) = Lib.decDigits n := by unfold Lib.itoa; simp
  rw [e]
  refine plain_mono (fun b hb => ?_) (Oct.dec_facts n).2.1
  have := Oct.isDig_le hb
  unfold plain; exact decide_eq_true (by omega)
theorem plain_id {g n : Int} (h : Nam.may g n = true) : (Nam.idT g n).all plain = true := by
  obtain ⟨h1, h2, h3⟩ := Nam.may_iff.1 h
  have hb := Nam.grade_bd h1
  have e := Nam.byteOf_toNat (g := g) (by omega) (by omega)
  unfold Nam.idT
  rw [List.all_cons, Bool.and_eq_true]
  exact ⟨by unfold plain; exact decide_eq_true (by omega), plain_itoa (by omega)⟩
theorem plain_ltr (k : Int) : (Job.ltr k).all plain = true := by
  unfold Job.ltr
  split
  · decide
  · split
    · decide
    · split <;> decide
theorem plain_path {p : Bs} (h : Pth.chk p = 0) : p.all plain = true := by
  have hp := (Pth.chk_ok.1 h).2
  unfold Pth.isPath at hp
  rw [Bool.or_eq_true, Bool.and_eq_true] at hp
  rcases hp with hp | ⟨h1, h2⟩
  · rw [eq_of_beq hp]; decide
  · rw [List.all_eq_true]
    intro b hb
    cases p with
    | nil => cases hb
    | cons a r =>
      rw [List.mem_cons] at hb
      rcases hb with rfl | hb
      · have : b = 47 := by simpa using h1
        rw [this]; decide
      · have e := Pth.jn_spl r
        rw [← e] at hb
        rcases Job.mem_pjn _ _ hb with rfl | ⟨x, hx, hb⟩
        · decide
        · have h3 := List.all_eq_true.1 h2 x hx
          unfold Pth.isPart at h3
          simp only [Bool.and_eq_true] at h3
          have h4 := List.all_eq_true.1 h3.1.1.1 b hb
          unfold Pth.okb at h4
          have h5 := of_decide_eq_true h4
          unfold plain; exact decide_eq_true (by omega)
theorem plain_usr {l : Bs} (h : Job.usr l = true) : l.all plain = true := by
  unfold Job.usr at h
  simp only [Bool.and_eq_true] at h
  refine plain_mono (fun b hb => ?_) h.1.1
  simp [Nam.okc, Nam.dg, Nam.sm] at hb
  unfold plain; exact decide_eq_true (by omega)
theorem plain_cmd {k : Int} {l : Bs} (h : Job.cmd k l = true) : l.all plain = true := by
  unfold Job.cmd at h
  split at h
  · unfold Job.wrd at h
    simp only [Bool.and_eq_true] at h
    exact h.1.1.1.1
  · rw [eq_of_beq h]; rfl
theorem plain_txt {j : Job.Jb} (h : Job.chk j = 0) : (Job.txt j).all plain = true := by
  obtain ⟨h1, h2, h3, h4, h5, h6, h7, h8⟩ := Job.chk_ok.1 h
  have b0 := plain_ltr j.k
  have b1 := plain_id h1
  have b2 := plain_usr h3
  have b3 := plain_path h4
  have b4 := plain_path h5
  have b5 := plain_itoa h7
  have b6 := plain_cmd h6
  have bb : plain 32 = true := by decide
  unfold Job.txt Job.ws
  by_cases hk : j.k = 2
  · rw [if_pos hk]
    simp only [List.cons_append, List.nil_append, Job.jn, List.all_append, List.all_cons, b0, b1, b2, b3, b4, b5, b6, bb, Bool.and_self]
  · rw [if_neg hk]
    simp only [List.append_nil, Job.jn, List.all_append, List.all_cons, b0, b1, b2, b3, b4, b5, bb, Bool.and_self]
theorem num_len {a : Nat} (h : a ≤ 6000) : (Lib.itoa (a : Int)).length ≤ 4 := Job.nDig (by omega) (by omega)
/-- P10.4 -/
theorem short {c : Cw} {s : Bs} (h : says s c) : 1 ≤ s.length ∧ s.length ≤ 165 ∧ s.all plain = true := by
  have two (b : UInt8) (a : Nat) (ha : a ≤ 6000) (hb : plain b = true) : 1 ≤ (b :: 32 :: Lib.itoa (a : Int)).length ∧ (b :: 32 :: Lib.itoa (a : Int)).length ≤ 165 ∧ (b :: 32 :: Lib.itoa (a : Int)).all plain = true := by
    have h1 := num_len ha
    have h2 : (Lib.itoa (a : Int)).all plain = true := plain_itoa (by omega)
    have h3 : plain 32 = true := by decide
    simp only [List.length_cons, List.all_cons, hb, h2, h3, Bool.and_self, and_true]
    omega
  rcases is_of h with ⟨j, hc, hk, rfl, rfl⟩ | ⟨j, hc, hk, rfl, rfl⟩ | ⟨rfl, rfl⟩ | ⟨rfl, rfl⟩ | ⟨a, ha, rfl, rfl⟩ | ⟨a, ha, rfl, rfl⟩ | ⟨a, ha, rfl, rfl⟩
  · exact ⟨by have := Job.txt_long hc; omega, Job.txt_len hc, plain_txt hc⟩
  · exact ⟨by have := Job.txt_long hc; omega, Job.txt_len hc, plain_txt hc⟩
  · decide
  · decide
  · exact two 89 a ha (by decide)
  · exact two 78 a (by omega) (by decide)
  · exact two 70 a (by omega) (by decide)
theorem text_two (c : Cw) : (∃ s, says s c) ∨ ∃ q : Nat, q ≠ 0 ∧ text c = ([], q) := by
  by_cases h : (text c).2 = 0
  · exact .inl ⟨(text c).1, by unfold says; rw [← h]⟩
  · refine .inr ⟨(text c).2, h, ?_⟩
    have : (text c).1 = [] := by
      revert h
      unfold text
      split
      · intro; rfl
      · split
        · unfold Job.text; split
          · intro h; exact absurd rfl h
          · intro; rfl
        · split
          · intro h; exact absurd rfl h
          · split
            · intro h; exact absurd rfl h
            · split
              · intro h; exact absurd rfl h
              · split
                · intro h; exact absurd rfl h
                · split
                  · intro h; exact absurd rfl h
                  · intro; rfl
    rw [← this]
end Cmd
end Go.Proofs.YtgnjjbpfgokndaaDoor
