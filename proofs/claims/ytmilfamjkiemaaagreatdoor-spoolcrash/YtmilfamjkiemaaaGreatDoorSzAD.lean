/-
  Mathematics of layer 5: which jobs may be, their texts, and the job that a text says. Jobs with their bytes, and their order (layers 18, 19). No program in it. Small facts on what a call hands back, shared by the layers. Walks of layer 1: octet.areDigits, octet.Number, the document's Number.
-/
import Derived.Test.YtmilfamjkiemaaaGreatDoorSzAB
import Derived.Test.YtmilfamjkiemaaaGreatDoorSzAC
import Derived.Test.YtmilfamjkiemaaaGreatDoorSzAA
import Derived.Sort.Statements
import Derived.Test.YtmilfamjkiemaaaGreatDoorProg
import Derived.WalkKit
namespace Go.Proofs.YtmilfamjkiemaaaGreatDoor
namespace Job
abbrev Bs := List UInt8

/-- a job -/
structure Jb where
  g : Int
  n : Int
  k : Int
  u : ByteArray
  f : ByteArray
  t : ByteArray
  c : ByteArray
  z : Int
  deriving DecidableEq, Inhabited

def zero : Jb := ⟨0, 0, 0, ⟨#[]⟩, ⟨#[]⟩, ⟨#[]⟩, ⟨#[]⟩, 0⟩

/-- joined with blanks -/
def jn : List Bs → Bs
  | [] => []
  | [x] => x
  | x :: y :: r => x ++ 32 :: jn (y :: r)

theorem jn_cons (x : Bs) (l : List Bs) (h : l ≠ []) : jn (x :: l) = x ++ 32 :: jn l := by
  cases l with
  | nil => exact absurd rfl h
  | cons y r => rfl
theorem jn_append : ∀ (a b : List Bs), a ≠ [] → b ≠ [] → jn (a ++ b) = jn a ++ 32 :: jn b
  | [], _, h, _ => absurd rfl h
  | [x], b, _, hb => by rw [List.singleton_append, jn_cons _ _ hb]; rfl
  | x :: y :: r, b, _, hb => by
    have := jn_append (y :: r) b (by simp) hb
    rw [List.cons_append, jn_cons _ _ (by simp), this, jn, List.append_assoc]; rfl
theorem jn_snoc (a : List Bs) (x : Bs) (h : a ≠ []) : jn (a ++ [x]) = jn a ++ 32 :: x := jn_append a [x] h (by simp)
theorem jn_take (l : List Bs) (k : Nat) (h : k + 1 < l.length) : jn (l.take (k + 2)) = jn (l.take (k + 1)) ++ 32 :: l[k + 1] := by
  rw [List.take_succ_eq_append_getElem h]
  exact jn_snoc _ _ (by intro e; have := congrArg List.length e; rw [List.length_take, List.length_nil] at this; omega)
theorem jn_len : ∀ (l : List Bs), l ≠ [] → (jn l).length + 1 = Lib.lens l + l.length
  | [], h => absurd rfl h
  | [x], _ => by simp [jn, Lib.lens]
  | x :: y :: r, _ => by
    have ih := jn_len (y :: r) (by simp)
    rw [jn, List.length_append, List.length_cons]
    simp only [Lib.lens, List.map_cons, List.sum_cons, List.length_cons] at ih ⊢
    omega
theorem jn_take_le (l : List Bs) (k : Nat) : (jn (l.take k)).length ≤ Lib.lens l + l.length := by
  by_cases h : l.take k = []
  · rw [h]; simp [jn]
  · have h1 := jn_len _ h
    have h2 : Lib.lens (l.take k) ≤ Lib.lens l := Lib.lens_take_le _ _
    have h3 : (l.take k).length ≤ l.length := by simp; omega
    omega

def usr (l : Bs) : Bool := l.all Nam.okc && decide (1 ≤ l.length) && decide (l.length ≤ 8)
def okw (c : UInt8) : Bool := decide (32 ≤ c.toNat ∧ c.toNat ≤ 126)
def wrd (l : Bs) : Bool := l.all okw && !(l.head? == some 32) && !(l.getLast? == some 32) && decide (1 ≤ l.length) && decide (l.length ≤ 60)
def knd (k : Int) : Bool := k == 1 || k == 2 || k == 3
def cmd (k : Int) (l : Bs) : Bool := if k = 2 then wrd l else l == []
/-- P5.1 -/
def chk (j : Jb) : Nat :=
  if (Nam.may j.g j.n && knd j.k) = false then 1
  else if usr j.u.data.toList = false then 11
  else if Pth.chk j.f.data.toList ≠ 0 ∨ Pth.chk j.t.data.toList ≠ 0 then 3
  else if cmd j.k j.c.data.toList = false then 3
  else if j.z < 0 ∨ 6000 < j.z then 5 else 0
def ltr (k : Int) : Bs := if k = 1 then [83] else if k = 2 then [69] else if k = 3 then [82] else []
def ws (j : Jb) : List Bs := [ltr j.k, Nam.idT j.g j.n, j.u.data.toList, j.f.data.toList, j.t.data.toList, Lib.itoa j.z] ++ (if j.k = 2 then [j.c.data.toList] else [])
def txt (j : Jb) : Bs := jn (ws j)
/-- P5.2 -/
def text (j : Jb) : Bs × Nat := if chk j = 0 then (txt j, 0) else ([], chk j)
def says (s : Bs) (j : Jb) : Prop := chk j = 0 ∧ txt j = s

theorem chk_ok {j : Jb} : chk j = 0 ↔ Nam.may j.g j.n = true ∧ knd j.k = true ∧ usr j.u.data.toList = true ∧ Pth.chk j.f.data.toList = 0 ∧ Pth.chk j.t.data.toList = 0 ∧ cmd j.k j.c.data.toList = true ∧ 0 ≤ j.z ∧ j.z ≤ 6000 := by
  unfold chk
  constructor
  · intro h
    split at h
    · cases h
    · split at h
      · cases h
      · split at h
        · cases h
        · split at h
          · cases h
          · split at h
            · cases h
            · rename_i h1 h2 h3 h4 h5
              simp only [Bool.not_eq_false, Bool.and_eq_true] at h1 h2 h4
              refine ⟨h1.1, h1.2, h2, ?_, ?_, h4, by omega, by omega⟩
              · exact Classical.byContradiction fun c => h3 (.inl c)
              · exact Classical.byContradiction fun c => h3 (.inr c)
  · rintro ⟨h1, h2, h3, h4, h5, h6, h7, h8⟩
    rw [if_neg (by simp [h1, h2]), if_neg (by simp [h3]), if_neg (by simp [h4, h5]), if_neg (by simp [h6]), if_neg (by omega)]

theorem nb_of {l : Bs} {p : UInt8 → Bool} (h : l.all p = true) (h2 : p 32 = false) : (32 : UInt8) ∉ l := fun c => by
  have := List.all_eq_true.1 h _ c
  rw [h2] at this; cases this
theorem nb_itoa {z : Int} (h : 0 ≤ z) : (32 : UInt8) ∉ Lib.itoa z := by
  obtain ⟨n, rfl⟩ := Int.eq_ofNat_of_zero_le h
  have e : Lib.itoa (n : Int) = Lib.decDigits n := by unfold Lib.itoa; simp
  rw [e]
  exact nb_of (Oct.dec_facts n).2.1 (by decide)
theorem nb_id {g n : Int} (h : Nam.may g n = true) : (32 : UInt8) ∉ Nam.idT g n := by
  obtain ⟨h1, h2, h3⟩ := Nam.may_iff.1 h
  have hb := Nam.grade_bd h1
  unfold Nam.idT
  rw [List.mem_cons]
  rintro (c | c)
  · have e := Nam.byteOf_toNat (g := g) (by omega) (by omega)
    rw [← c] at e
    have : ((32 : UInt8).toNat : Int) = 32 := rfl
    omega
  · exact nb_itoa (by omega) c
theorem nb_ltr (k : Int) : (32 : UInt8) ∉ ltr k := by
  unfold ltr
  split
  · decide
  · split
    · decide
    · split <;> decide
theorem mem_pjn : ∀ (l : List Bs) (b : UInt8), b ∈ Pth.jn l → b = 47 ∨ ∃ x ∈ l, b ∈ x
  | [], b, h => by cases h
  | [x], b, h => .inr ⟨x, by simp, h⟩
  | x :: y :: r, b, h => by
    rw [Pth.jn, List.mem_append, List.mem_cons] at h
    rcases h with h | h | h
    · exact .inr ⟨x, by simp, h⟩
    · exact .inl h
    · rcases mem_pjn (y :: r) b h with h | ⟨z, hz, hb⟩
      · exact .inl h
      · exact .inr ⟨z, List.mem_cons_of_mem _ hz, hb⟩
theorem nb_path {p : Bs} (h : Pth.chk p = 0) : (32 : UInt8) ∉ p := by
  have hp := (Pth.chk_ok.1 h).2
  unfold Pth.isPath at hp
  rw [Bool.or_eq_true, Bool.and_eq_true] at hp
  rcases hp with hp | ⟨h1, h2⟩
  · rw [eq_of_beq hp]; decide
  · intro c
    cases p with
    | nil => cases c
    | cons a r =>
      rw [List.mem_cons] at c
      rcases c with c | c
      · rw [← c] at h1; simp at h1
      · have e := Pth.jn_spl r
        rw [← e] at c
        rcases mem_pjn _ _ c with c | ⟨x, hx, hb⟩
        · revert c; decide
        · have h3 := List.all_eq_true.1 h2 x hx
          unfold Pth.isPart at h3
          simp only [Bool.and_eq_true] at h3
          exact nb_of h3.1.1.1 (by decide) hb
theorem nb_usr {l : Bs} (h : usr l = true) : (32 : UInt8) ∉ l := by
  unfold usr at h
  simp only [Bool.and_eq_true] at h
  exact nb_of h.1.1 (by decide)

theorem index_nb : ∀ (l : Bs), (32 : UInt8) ∉ l → Lib.index l [32] = -1
  | [], _ => by simp [Lib.index]
  | b :: l, h => by
    rw [List.mem_cons, not_or] at h
    have ih := index_nb l h.2
    unfold Lib.index
    rw [if_neg (by simp; exact h.1), ih]; rfl
theorem index_at : ∀ (a r : Bs), (32 : UInt8) ∉ a → Lib.index (a ++ 32 :: r) [32] = (a.length : Int)
  | [], r, _ => by simp [Lib.index]
  | b :: a, r, h => by
    rw [List.mem_cons, not_or] at h
    have ih := index_at a r h.2
    rw [List.cons_append]
    unfold Lib.index
    rw [if_neg (by simp; exact h.1), ih, if_neg (by simp), List.length_cons]
    omega
theorem splitK_one (k : Nat) (a : Bs) (h : (32 : UInt8) ∉ a) : Lib.splitK [32] 0 k a = [a] := by
  cases k with
  | zero => rfl
  | succ k => unfold Lib.splitK; rw [index_nb a h]; rfl
theorem splitK_cons (k : Nat) (a r : Bs) (h : (32 : UInt8) ∉ a) : Lib.splitK [32] 0 (k + 1) (a ++ 32 :: r) = a :: Lib.splitK [32] 0 k r := by
  conv => lhs; unfold Lib.splitK
  rw [index_at a r h, if_neg (by simp)]
  simp
theorem splitK_len : ∀ (k : Nat) (l : Bs), (Lib.splitK [32] 0 k l).length ≤ k + 1
  | 0, l => by simp [Lib.splitK]
  | k + 1, l => by
    unfold Lib.splitK
    split
    · simp
    · rw [List.length_cons]; have := splitK_len k (l.drop ((Lib.index l [32]).toNat + [32].length)); omega

/-- the words of a text -/
theorem words {j : Jb} (h : chk j = 0) : Lib.splitK [32] 0 6 (txt j) = ws j := by
  obtain ⟨h1, h2, h3, h4, h5, h6, h7, h8⟩ := chk_ok.1 h
  have b0 := nb_ltr j.k
  have b1 := nb_id h1
  have b2 := nb_usr h3
  have b3 := nb_path h4
  have b4 := nb_path h5
  have b5 := nb_itoa h7
  unfold txt ws
  by_cases hk : j.k = 2
  · rw [if_pos hk]
    simp only [List.cons_append, List.nil_append, jn]
    rw [splitK_cons _ _ _ b0, splitK_cons _ _ _ b1, splitK_cons _ _ _ b2, splitK_cons _ _ _ b3, splitK_cons _ _ _ b4, splitK_cons _ _ _ b5]
    rfl
  · rw [if_neg hk]
    simp only [List.append_nil, jn]
    rw [splitK_cons _ _ _ b0, splitK_cons _ _ _ b1, splitK_cons _ _ _ b2, splitK_cons _ _ _ b3, splitK_cons _ _ _ b4, splitK_one _ _ b5]

def kof (l : Bs) : Int := if l = [83] then 1 else if l = [69] then 2 else if l = [82] then 3 else 0
theorem kof_ltr {k : Int} (h : knd k = true) : kof (ltr k) = k := by
  simp only [knd, Bool.or_eq_true, beq_iff_eq] at h
  rcases h with (h | h) | h <;> subst h <;> decide
theorem ba_of {a b : ByteArray} (h : a.data.toList = b.data.toList) : a = b := by
  cases a; cases b; simp only at h; congr 1; exact Array.toList_inj.1 h
theorem cmd_empty {k : Int} {c : ByteArray} (h : cmd k c.data.toList = true) (hk : k ≠ 2) : c = ⟨#[]⟩ := by
  unfold cmd at h
  rw [if_neg hk] at h
  exact ba_of (eq_of_beq h)

def at' (l : List ByteArray) (i : Nat) : ByteArray := (l[i]?).getD ⟨#[]⟩
/-- the job of six words, and a seventh -/
def cand (l : List ByteArray) : Jb :=
  ⟨(Nam.pid (at' l 1).data.toList).1, (Nam.pid (at' l 1).data.toList).2.1, kof (at' l 0).data.toList, at' l 2, at' l 3, at' l 4, at' l 6, ((Oct.number (at' l 5).data.toList).1 : Int)⟩

theorem at_map {l : List ByteArray} {L : List Bs} (h : l.map (·.data.toList) = L) (i : Nat) : (at' l i).data.toList = (L[i]?).getD [] := by
  subst h
  unfold at'
  rw [List.getElem?_map]
  cases l[i]? <;> rfl

theorem cand_ws {j : Jb} (h : chk j = 0) {l : List ByteArray} (hl : l.map (·.data.toList) = ws j) : cand l = j := by
  obtain ⟨h1, h2, h3, h4, h5, h6, h7, h8⟩ := chk_ok.1 h
  have e := at_map hl
  have e0 := e 0; have e1 := e 1; have e2 := e 2; have e3 := e 3; have e4 := e 4; have e5 := e 5; have e6 := e 6
  clear e hl
  unfold cand
  have hn : Oct.number (Lib.itoa j.z) = (j.z.toNat, 0) := by
    obtain ⟨n, hz⟩ := Int.eq_ofNat_of_zero_le h7
    rw [hz]
    exact Oct.number_itoa (by omega)
  have f0 : (ws j)[0]? = some (ltr j.k) := rfl
  have f1 : (ws j)[1]? = some (Nam.idT j.g j.n) := rfl
  have f2 : (ws j)[2]? = some j.u.data.toList := rfl
  have f3 : (ws j)[3]? = some j.f.data.toList := rfl
  have f4 : (ws j)[4]? = some j.t.data.toList := rfl
  have f5 : (ws j)[5]? = some (Lib.itoa j.z) := rfl
  rw [f0] at e0; rw [f1] at e1; rw [f2] at e2; rw [f3] at e3; rw [f4] at e4; rw [f5] at e5
  simp only [Option.getD_some] at e0 e1 e2 e3 e4 e5
  rw [e0, e1, e5, Nam.pid_id h1, kof_ltr h2, hn, ba_of e2, ba_of e3, ba_of e4]
  have e7 : at' l 6 = j.c := by
    apply ba_of
    rw [e6]
    by_cases hk : j.k = 2
    · unfold ws; rw [if_pos hk]; rfl
    · unfold ws; rw [if_neg hk, cmd_empty h6 hk]; rfl
  rw [e7]
  have e8 : ((j.z.toNat : Nat) : Int) = j.z := by omega
  cases j
  simp only at e8 ⊢
  rw [e8]

/-- the job that a text can say alone -/
def cd (s : Bs) : Jb := cand ((Lib.splitK [32] 0 6 s).map fun x => (⟨x.toArray⟩ : ByteArray))
theorem cd_says {s : Bs} {j : Jb} (h : says s j) : cd s = j := by
  unfold cd
  apply cand_ws h.1
  rw [List.map_map, ← h.2, words h.1]
  exact List.map_id' _
/-- P5.2: the job that a text says -/
def parse (s : Bs) : Jb × Int := if chk (cd s) = 0 ∧ txt (cd s) = s then (cd s, 0) else (zero, 3)
theorem parse_yes {s : Bs} {j : Jb} (h : says s j) : parse s = (j, 0) := by
  unfold parse
  rw [cd_says h, if_pos (show chk j = 0 ∧ txt j = s from h)]
theorem parse_no {s : Bs} (h : ¬ ∃ j, says s j) : parse s = (zero, 3) := by unfold parse; rw [if_neg (show ¬ (chk (cd s) = 0 ∧ txt (cd s) = s) from fun q => h ⟨cd s, q⟩)]
theorem parse_not {s : Bs} {C : Jb} (hC : ∀ j, says s j → C = j) (h : ¬ says s C) : parse s = (zero, 3) := by
  refine parse_no ?_
  rintro ⟨j, hj⟩
  rw [← hC j hj] at hj
  exact h hj
theorem parse_cases (s : Bs) : (∃ j, says s j ∧ parse s = (j, 0)) ∨ ((¬ ∃ j, says s j) ∧ parse s = (zero, 3)) := by
  by_cases h : ∃ j, says s j
  · obtain ⟨j, hj⟩ := h
    exact .inl ⟨j, hj, parse_yes hj⟩
  · exact .inr ⟨h, parse_no h⟩
/-- the words that the program cuts a text into -/
theorem cand_split {s : ByteArray} {j : Jb} (h : says s.data.toList j) {l : List ByteArray} (hl : l.map (·.data.toList) = Lib.splitK [32] 0 6 s.data.toList) : cand l = j ∧ 6 ≤ l.length := by
  rw [← h.2, words h.1] at hl
  refine ⟨cand_ws h.1 hl, ?_⟩
  have := congrArg List.length hl
  rw [List.length_map] at this
  rw [this]
  unfold ws
  simp

theorem ws_len (j : Jb) : 6 ≤ (ws j).length ∧ (ws j).length ≤ 7 := by
  unfold ws
  rw [List.length_append]
  split <;> simp
theorem ltr_len (k : Int) : (ltr k).length ≤ 1 := by
  unfold ltr
  split
  · decide
  · split
    · decide
    · split <;> decide
theorem nDig {z : Int} (h0 : 0 ≤ z) (h1 : z ≤ 6000) : (Lib.itoa z).length ≤ 4 := by
  obtain ⟨n, rfl⟩ := Int.eq_ofNat_of_zero_le h0
  have e : Lib.itoa (n : Int) = Lib.decDigits n := by unfold Lib.itoa; simp
  rw [e, Lib.decDigits_length]
  exact Nam.nDigits_le 3 n (by omega)
theorem idLen {g n : Int} (hm : Nam.may g n = true) : (Nam.idT g n).length ≤ 6 := by
  obtain ⟨h1, h2, h3⟩ := Nam.may_iff.1 hm
  have := Nam.itoa_len h2 h3
  unfold Nam.idT
  rw [List.length_cons]; omega
theorem wrd_len {l : Bs} (h : wrd l = true) : l.length ≤ 60 := by
  simp only [wrd, Bool.and_eq_true, decide_eq_true_eq] at h; omega
theorem usr_len {l : Bs} (h : usr l = true) : l.length ≤ 8 := by
  simp only [usr, Bool.and_eq_true, decide_eq_true_eq] at h; omega
theorem cmd_len {k : Int} {l : Bs} (h : cmd k l = true) : l.length ≤ 60 := by
  unfold cmd at h
  split at h
  · exact wrd_len h
  · rw [eq_of_beq h]; simp
theorem ws_lens {j : Jb} (h : chk j = 0) : Lib.lens (ws j) ≤ 159 := by
  obtain ⟨h1, h2, h3, h4, h5, h6, h7, h8⟩ := chk_ok.1 h
  have l0 := ltr_len j.k
  have l1 := idLen h1
  have l2 := usr_len h3
  have l3 := (Pth.chk_ok.1 h4).1
  have l4 := (Pth.chk_ok.1 h5).1
  have l5 := nDig h7 h8
  have l6 := cmd_len h6
  unfold ws
  by_cases hk : j.k = 2
  · rw [if_pos hk]; simp only [Lib.lens, List.map_append, List.map_cons, List.map_nil, List.sum_append, List.sum_cons, List.sum_nil]; omega
  · rw [if_neg hk]; simp only [Lib.lens, List.append_nil, List.map_cons, List.map_nil, List.sum_cons, List.sum_nil]; omega
theorem txt_len {j : Jb} (h : chk j = 0) : (txt j).length ≤ 165 := by
  have h1 := jn_len (ws j) (by intro e; have := (ws_len j).1; rw [e] at this; simp at this)
  have h2 := ws_lens h
  have h3 := (ws_len j).2
  unfold txt
  omega
end Job
end Go.Proofs.YtmilfamjkiemaaaGreatDoor

namespace Go.Proofs.YtmilfamjkiemaaaGreatDoor
namespace Spl
open Dsk

/-- a job of a system, with its bytes -/
structure Hd where
  s : ByteArray
  j : Job.Jb
  x : ByteArray
  deriving DecidableEq, Inhabited
def Hd.zero : Hd := ⟨⟨#[]⟩, Job.zero, ⟨#[]⟩⟩
def ba (l : List UInt8) : ByteArray := ⟨l.toArray⟩
theorem ba_back (s : ByteArray) : ba s.data.toList = s := rfl
theorem ba_list (l : List UInt8) : (ba l).data.toList = l := by simp [ba]
/-- the order of ids -/
def les (g n g' n' : Int) : Bool := if g = g' then decide (n < n') else decide (g < g')
def cmpS (a b : ByteArray) : Int := if lt a b = true then -1 else if lt b a = true then 1 else 0
/-- the order of ids, of one id that of systems -/
def cf (a b : Hd) : Int := if les a.j.g a.j.n b.j.g b.j.n = true then -1 else if les b.j.g b.j.n a.j.g a.j.n = true then 1 else cmpS a.s b.s
def ltb (a b : Hd) : Bool := decide (cf a b < 0)
theorem les_iff (g n g' n' : Int) : les g n g' n' = true ↔ g < g' ∨ (g = g' ∧ n < n') := by
  unfold les; split <;> simp <;> omega
theorem cmpS_neg (a b : ByteArray) : cmpS a b < 0 ↔ lt a b = true := by
  unfold cmpS; split
  · next h => simp [h]
  · next h => split <;> simp [h]
theorem ltb_iff (a b : Hd) : ltb a b = true ↔ a.j.g < b.j.g ∨ (a.j.g = b.j.g ∧ (a.j.n < b.j.n ∨ (a.j.n = b.j.n ∧ lt a.s b.s = true))) := by
  unfold ltb cf
  rw [decide_eq_true_eq]
  by_cases h1 : les a.j.g a.j.n b.j.g b.j.n = true
  · rw [if_pos h1]; rw [les_iff] at h1
    constructor
    · intro _; rcases h1 with h | ⟨h, h'⟩; (· exact .inl h); exact .inr ⟨h, .inl h'⟩
    · intro _; omega
  · rw [if_neg h1]; rw [les_iff] at h1
    by_cases h2 : les b.j.g b.j.n a.j.g a.j.n = true
    · rw [if_pos h2]; rw [les_iff] at h2
      constructor
      · intro h; omega
      · rintro (h | ⟨h, h' | ⟨h', _⟩⟩) <;> omega
    · rw [if_neg h2, cmpS_neg]; rw [les_iff] at h2
      constructor
      · intro h; exact .inr ⟨by omega, .inr ⟨by omega, h⟩⟩
      · rintro (h | ⟨h, h' | ⟨_, h'⟩⟩)
        · omega
        · omega
        · exact h'
theorem ltb_irrefl (a : Hd) : ltb a a = false := by
  cases h : ltb a a
  · rfl
  · rw [ltb_iff] at h
    rcases h with h | ⟨_, h | ⟨_, h⟩⟩
    · omega
    · omega
    · rw [lt_irrefl] at h; cases h
theorem ltb_trans {a b c : Hd} (h : ltb a b = true) (h' : ltb b c = true) : ltb a c = true := by
  rw [ltb_iff] at *
  rcases h with h | ⟨h, h1 | ⟨h1, h2⟩⟩ <;> rcases h' with h' | ⟨h', h3 | ⟨h3, h4⟩⟩
  · exact .inl (by omega)
  · exact .inl (by omega)
  · exact .inl (by omega)
  · exact .inl (by omega)
  · exact .inr ⟨by omega, .inl (by omega)⟩
  · exact .inr ⟨by omega, .inl (by omega)⟩
  · exact .inl (by omega)
  · exact .inr ⟨by omega, .inl (by omega)⟩
  · exact .inr ⟨by omega, .inr ⟨by omega, lt_trans h2 h4⟩⟩
/-- what names a job: its grade, its number, its system -/
def key (a : Hd) : Int × Int × ByteArray := (a.j.g, a.j.n, a.s)
theorem ltb_total {a b : Hd} (h : ltb a b = false) (h' : key a ≠ key b) : ltb b a = true := by
  have h1 : ¬ ltb a b = true := by rw [h]; simp
  rw [ltb_iff] at *
  rcases Int.lt_trichotomy a.j.g b.j.g with c | c | c
  · exact absurd (.inl c) h1
  · rcases Int.lt_trichotomy a.j.n b.j.n with d | d | d
    · exact absurd (.inr ⟨c, .inl d⟩) h1
    · by_cases e : a.s = b.s
      · exact absurd (by unfold key; rw [c, d, e]) h'
      · cases f : lt a.s b.s
        · exact .inr ⟨c.symm, .inr ⟨d.symm, lt_total f e⟩⟩
        · exact absurd (.inr ⟨c, .inr ⟨d, f⟩⟩) h1
    · exact .inr ⟨c.symm, .inl d⟩
  · exact .inl c
theorem ltb_key {a b c : Hd} (h : key a = key b) : ltb a c = ltb b c := by
  unfold key at h
  injection h with h1 h2
  injection h2 with h2 h3
  unfold ltb cf; rw [h1, h2, h3]
theorem ltb_swo : Sort.SWO ltb where
  irrefl := ltb_irrefl
  trans _ _ _ := ltb_trans
  ntrans a b c h1 h2 := by
    cases h : ltb a c
    · rfl
    · by_cases e : key a = key b
      · rw [ltb_key e, h2] at h; cases h
      · have := ltb_trans (ltb_total h1 e) h
        rw [h2] at this; cases this

/-- a list's jobs, in their order -/
structure Row (M L : List Hd) : Prop where
  perm : L.Perm M
  up : L.Pairwise fun a b => ltb a b = true
theorem Row.one {M L L' : List Hd} (h : Row M L) (h' : Row M L') : L = L' :=
  List.Perm.eq_of_pairwise (le := fun a b => ltb a b = true) (fun a b _ _ h1 h2 => by have := ltb_trans h1 h2; rw [ltb_irrefl] at this; cases this) h.up h'.up (h.perm.trans h'.perm.symm)
theorem Row.of {M L : List Hd} (hp : L.Perm M) (hk : M.Pairwise fun a b => key a ≠ key b) (hs : L.Pairwise fun a b => ltb b a = false) : Row M L := by
  refine ⟨hp, ?_⟩
  have hk' : L.Pairwise fun a b => key a ≠ key b := (hp.pairwise_iff (fun h => Ne.symm h)).2 hk
  exact (hs.and hk').imp fun ⟨h1, h2⟩ => ltb_total h1 (Ne.symm h2)
theorem Row.len {M L : List Hd} (h : Row M L) : L.length = M.length := h.perm.length_eq
end Spl
end Go.Proofs.YtmilfamjkiemaaaGreatDoor

namespace Go.Proofs.YtmilfamjkiemaaaGreatDoor
theorem ret_bool {a b : Bool} (h : a = b) : Ending.returned (.bool a) = .returned (.bool b) := by rw [h]
theorem ret_s {a b : ByteArray} (h : a = b) : Ending.returned (.string a) = .returned (.string b) := by rw [h]
theorem ret_int {a b : Int} (h : a = b) : Ending.returned (.int .i64 a) = .returned (.int .i64 b) := by rw [h]
theorem tl_eq (s : ByteArray) : s.toList = s.data.toList := ByteArray.toList_eq s
end Go.Proofs.YtmilfamjkiemaaaGreatDoor

namespace Go.Proofs.YtmilfamjkiemaaaGreatDoor
open Go.RowKit


set_option maxHeartbeats 400000 in
theorem areDigits_any (s : ByteArray) (w : World) (hs : s.size ≤ maxLen) :
    Calls Tryz.prog 122 #[.string s] w fun e w' => e = .returned (.bool (Oct.areDig s.data.toList)) ∧ w' = w := by
  unfold maxLen at hs
  go_enter Tryz.func122, Tryz.ntmps122
  go_wp2
  go_loop [6] (fun i => ∃ k : Nat, k ≤ s.size ∧ i = .int .i64 k ∧ Hid ((s.data.toList.take k).all Oct.isDig = true)) (fun i => s.size - (intOf i).toNat)
  case atStart => exact ⟨0, Nat.zero_le _, rfl, rfl⟩
  case round =>
    obtain ⟨k, hk, rfl, hall⟩ := hrel
    by_cases hlt : k < s.size
    · by_cases h0 : 48 ≤ (s[k].toNat : Int)
      · by_cases h1 : (s[k].toNat : Int) ≤ 57
        · have hn : Hid ((s.data.toList.take (k + 1)).all Oct.isDig = true) := Oct.all_snoc s k hlt hall.out (Oct.isDig_true h0 h1)
          go_wp2
          go_round
          case rel => exact ⟨k + 1, by omega, by go_num, hn⟩
          case measure => simp [intOf]; omega
        · have hn : Hid (Oct.areDig s.data.toList = false) := Oct.areDig_not s k hlt (Oct.isDig_high (by omega))
          go_wp2
          go_ret
          exact ⟨ret_bool hn.out.symm, rfl⟩
      · have hn : Hid (Oct.areDig s.data.toList = false) := Oct.areDig_not s k hlt (Oct.isDig_low (by omega))
        go_wp2
        go_ret
        exact ⟨ret_bool hn.out.symm, rfl⟩
    · have hn : Hid (s.data.toList.all Oct.isDig = true) := by have := hall.out; rwa [Oct.take_all s k (by omega)] at this
      go_wp2
      go_ret
      exact ⟨ret_bool (by unfold Oct.areDig; rw [hn.out, ByteArray.toList_eq]; rfl), rfl⟩
theorem areDigits_yes (s : ByteArray) (w : World) (hs : s.size ≤ maxLen) (h : Oct.areDig s.data.toList = true) :
    Calls Tryz.prog 122 #[.string s] w fun e w' => e = .returned (.bool true) ∧ w' = w := by
  have := areDigits_any s w hs; rwa [h] at this
theorem areDigits_no (s : ByteArray) (w : World) (hs : s.size ≤ maxLen) (h : Oct.areDig s.data.toList = false) :
    Calls Tryz.prog 122 #[.string s] w fun e w' => e = .returned (.bool false) ∧ w' = w := by
  have := areDigits_any s w hs; rwa [h] at this

theorem ret_two {a b c d : Int} (h : a = c) (h' : b = d) : Ending.returned (.tuple #[.int .i64 a, .int .i64 b]) = .returned (.tuple #[.int .i64 c, .int .i64 d]) := by rw [h, h']

set_option maxHeartbeats 400000 in
theorem number_any (s : ByteArray) (w : World) (hs : s.size ≤ maxLen) :
    Calls Tryz.prog 86 #[.string s] w fun e w' => e = .returned (.tuple #[.int .i64 (Oct.number s.data.toList).1, .int .i64 (Oct.number s.data.toList).2]) ∧ w' = w := by
  have hs' := hs
  unfold maxLen at hs
  have hlen := Oct.len_eq s
  cases ha : Oct.areDig s.data.toList with
  | false =>
    have hr : Hid (Oct.number s.data.toList = (0, 3)) := Oct.number_form ha
    have HA := areDigits_no s w hs' ha
    clear ha hlen
    go_enter Tryz.func86, Tryz.ntmps86
    go_wp2_with (go_at_call 122; refine HA.mono ?_; rintro e w' ⟨rfl, rfl⟩)
    go_ret2
    exact ⟨ret_two (by rw [hr.out]; rfl) (by rw [hr.out]; rfl), rfl⟩
  | true =>
    have HA := areDigits_yes s w hs' ha
    have hall := Oct.areDig_all ha
    have hpos : 0 < s.size := by have := Oct.areDig_pos ha; omega
    by_cases hz : 1 < s.size ∧ (s[0].toNat : Int) = 48
    · have hr : Hid (Oct.number s.data.toList = (0, 3)) := Oct.number_zero (by omega) (by rw [Oct.headD_at s hpos]; exact UInt8.toNat_inj.1 (by have := hz.2; show s[0].toNat = 48; omega))
      have hb : ((s[0].toNat : Int) == 48) = true := by rw [beq_iff_eq]; exact hz.2
      have h1 : 1 < s.size := hz.1
      clear ha hlen hall hz
      go_enter Tryz.func86, Tryz.ntmps86
      go_wp2_with (go_at_call 122; refine HA.mono ?_; rintro e w' ⟨rfl, rfl⟩)
      go_ret2
      exact ⟨ret_two (by rw [hr.out]; rfl) (by rw [hr.out]; rfl), rfl⟩
    · have hre : Hid (Oct.number s.data.toList = if 13 < s.data.toList.length then (0, 5) else if 1099511627776 < Oct.numTo s.data.toList then (0, 5) else (Oct.numTo s.data.toList, 0)) :=
        Oct.number_else ha (by rw [Oct.headD_at s hpos, hlen]; intro h; exact hz ⟨h.1, by rw [h.2]; rfl⟩)
      have hH : Hid (s.data.toList.all Oct.isDig = true) := hall
      have hL : Hid (s.data.toList.length = s.size) := hlen
      have hcase : s.size ≤ 1 ∨ (1 < s.size ∧ ((s[0].toNat : Int) == 48) = false) := by
        by_cases h1 : 1 < s.size
        · right; refine ⟨h1, ?_⟩; rw [beq_eq_false_iff_ne]; exact fun h => hz ⟨h1, h⟩
        · left; omega
      clear ha hlen hall hz
      by_cases h13 : 13 < s.size
      · have hr : Hid (Oct.number s.data.toList = (0, 5)) := by have := hre.out; rw [hL.out, if_pos h13] at this; exact this
        have h1 : 1 < s.size := by omega
        have hb : ((s[0].toNat : Int) == 48) = false := by rcases hcase with h | h; omega; exact h.2
        clear hcase
        go_enter Tryz.func86, Tryz.ntmps86
        go_wp2_with (go_at_call 122; refine HA.mono ?_; rintro e w' ⟨rfl, rfl⟩)
        go_ret2
        exact ⟨ret_two (by rw [hr.out]; rfl) (by rw [hr.out]; rfl), rfl⟩
      · have hr : Hid (Oct.number s.data.toList = if 1099511627776 < Oct.numTo s.data.toList then (0, 5) else (Oct.numTo s.data.toList, 0)) := by have := hre.out; rw [hL.out, if_neg h13] at this; exact this
        have h13' : s.size ≤ 13 := by omega
        clear hre h13
        rcases hcase with h1 | ⟨h1, hb⟩
        all_goals
          go_enter Tryz.func86, Tryz.ntmps86
          go_wp2_with (go_at_call 122; refine HA.mono ?_; rintro e w' ⟨rfl, rfl⟩)
          go_loop [4, 24] (fun n i => ∃ k : Nat, k ≤ s.size ∧ i = .int .i64 k ∧ n = .int .i64 (Oct.numTo (s.data.toList.take k))) (fun _ i => s.size - (intOf i).toNat)
          case atStart => exact ⟨0, Nat.zero_le _, rfl, rfl⟩
          case round =>
            obtain ⟨k, hk, rfl, rfl⟩ := hrel
            have hbd := Oct.numTo_take_lt s k (by omega) hH.out
            by_cases hlt : k < s.size
            · have hd := Oct.isDig_le (Oct.take_dig s k hlt hH.out)
              have hd0 : 48 ≤ (s[k].toNat : Int) := by omega
              have hd1 : (s[k].toNat : Int) ≤ 57 := by omega
              have HS : Hid ((Oct.numTo (s.data.toList.take (k + 1)) : Int) = (Oct.numTo (s.data.toList.take k) : Int) * 10 + ((s[k].toNat : Int) - 48)) := Oct.numTo_take s k hlt hH.out
              clear hd
              go_wp2
              go_round
              case rel => exact ⟨k + 1, by omega, by go_num, by rw [HS.out]⟩
              case measure => simp [intOf]; omega
            · have HS : Hid (s.data.toList.take k = s.data.toList) := Oct.take_all s k (by omega)
              by_cases hbig : 1099511627776 < (Oct.numTo (s.data.toList.take k) : Int)
              · have hr2 : Hid (Oct.number s.data.toList = (0, 5)) := by
                  have h1 := hbig; rw [HS.out] at h1
                  have h2 := hr.out; rw [if_pos (by omega)] at h2; exact h2
                go_wp2
                go_ret2
                exact ⟨ret_two (by rw [hr2.out]; rfl) (by rw [hr2.out]; rfl), rfl⟩
              · have hr2 : Hid (Oct.number s.data.toList = (Oct.numTo (s.data.toList.take k), 0)) := by
                  have h1 := hbig; rw [HS.out] at h1
                  have h2 := hr.out; rw [if_neg (by omega)] at h2; rw [HS.out]; exact h2
                go_wp2
                go_ret2
                exact ⟨ret_two (by rw [hr2.out]) (by rw [hr2.out]; rfl), rfl⟩

end Go.Proofs.YtmilfamjkiemaaaGreatDoor
