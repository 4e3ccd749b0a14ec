/-
  Mathematics of layer 13: parcels as lists of bytes; what is written is read, what is cut is joined.
-/
import Derived.Test.YteiajngfeiemkabDoorMathK
import Derived.Test.YteiajngfeiemkabDoorMathD
import Derived.Lib.ItoaLen
namespace Go.Proofs.YteiajngfeiemkabDoor
namespace Pa
/-- A parcel. -/
structure Pc where
  tg : Int
  data : List UInt8
def zero : Pc := ⟨0, []⟩
/-- What Read answers: a parcel and how many bytes it takes, or an error. -/
abbrev Res := Except Nat (Pc × Nat)
def tag (t : Int) : Bool := t == 99 || t == 100 || t == 122
theorem tag_cases {t : Int} (h : tag t = true) : t = 99 ∨ t = 100 ∨ t = 122 := by
  simp [tag] at h; omega
theorem tag_no {t : Int} (h : tag t = false) : ¬ t = 99 ∧ ¬ t = 100 ∧ ¬ t = 122 := by
  simp [tag] at h; omega
def d4 (n : Nat) : List UInt8 := [UInt8.ofNat (48 + n / 1000 % 10), UInt8.ofNat (48 + n / 100 % 10), UInt8.ofNat (48 + n / 10 % 10), UInt8.ofNat (48 + n % 10)]
def ok (p : Pc) : Prop := tag p.tg = true ∧ p.data.length ≤ 4096
def head (t n : Nat) : List UInt8 := UInt8.ofNat t :: d4 n
def text (p : Pc) : List UInt8 := head p.tg.toNat p.data.length ++ p.data
theorem head_len (t n : Nat) : (head t n).length = 5 := rfl
theorem text_len (p : Pc) : (text p).length = 5 + p.data.length := by
  unfold text; rw [List.length_append, head_len]
/-- What Write answers. -/
def wr (p : Pc) : List UInt8 × Nat := if tag p.tg = true then (if 4096 < p.data.length then ([], 5) else (text p, 0)) else ([], 1)
theorem wr_ok {p : Pc} (h : ok p) : wr p = (text p, 0) := by
  have h2 := h.2
  unfold wr; rw [if_pos h.1, if_neg (by omega)]
theorem wr_no {p : Pc} (h : ¬ ok p) : (wr p).1 = [] ∧ ((wr p).2 = 1 ∨ (wr p).2 = 5) := by
  unfold wr
  split
  · rename_i hq
    split
    · exact ⟨rfl, Or.inr rfl⟩
    · exact absurd ⟨hq, by omega⟩ h
  · exact ⟨rfl, Or.inl rfl⟩

def dig (c : UInt8) : Bool := decide (48 ≤ c.toNat) && decide (c.toNat ≤ 57)
/-- The digits, k of them to come, n said so far. -/
def sz : Nat → Nat → List UInt8 → Except Nat (Nat × List UInt8)
  | 0, n, r => if 4096 < n then .error 3 else .ok (n, r)
  | _ + 1, _, [] => .error 2
  | k + 1, n, c :: r => if dig c = true then sz k (n * 10 + (c.toNat - 48)) r else .error 3
def readBody (t : Nat) : Except Nat (Nat × List UInt8) → Res
  | .error e => .error e
  | .ok x => if x.2.length < x.1 then .error 2 else .ok (⟨(t : Int), x.2.take x.1⟩, 5 + x.1)
def read : List UInt8 → Res
  | [] => .error 2
  | c :: r => if tag c.toNat = true then readBody c.toNat (sz 4 0 r) else .error 3
theorem read_cons (c : UInt8) (r : List UInt8) : read (c :: r) = if tag c.toNat = true then readBody c.toNat (sz 4 0 r) else .error 3 := rfl
theorem dig_of {d : Nat} (h : d < 10) : dig (UInt8.ofNat (48 + d)) = true ∧ (UInt8.ofNat (48 + d)).toNat - 48 = d := by
  have e : (UInt8.ofNat (48 + d)).toNat = 48 + d := by rw [UInt8.toNat_ofNat']; omega
  unfold dig
  rw [e]
  exact ⟨by simp; omega, by omega⟩
theorem sz_d4 {n : Nat} (h : n ≤ 4096) (r : List UInt8) : sz 4 0 (d4 n ++ r) = .ok (n, r) := by
  obtain ⟨a1, a2⟩ := dig_of (d := n / 1000 % 10) (by omega)
  obtain ⟨b1, b2⟩ := dig_of (d := n / 100 % 10) (by omega)
  obtain ⟨c1, c2⟩ := dig_of (d := n / 10 % 10) (by omega)
  obtain ⟨e1, e2⟩ := dig_of (d := n % 10) (by omega)
  unfold d4
  simp only [List.cons_append, List.nil_append, sz, a1, a2, b1, b2, c1, c2, e1, e2, if_true]
  have : ((((0 * 10 + n / 1000 % 10) * 10 + n / 100 % 10) * 10 + n / 10 % 10) * 10 + n % 10) = n := by omega
  rw [this, if_neg (by omega)]
theorem sz_cut {n k : Nat} (hk : k < 4) : sz 4 0 ((d4 n).take k) = .error 2 := by
  obtain ⟨a1, a2⟩ := dig_of (d := n / 1000 % 10) (by omega)
  obtain ⟨b1, b2⟩ := dig_of (d := n / 100 % 10) (by omega)
  obtain ⟨c1, c2⟩ := dig_of (d := n / 10 % 10) (by omega)
  unfold d4
  match k, hk with
  | 0, _ => rfl
  | 1, _ => simp only [List.take_succ_cons, List.take_zero, sz, a1, if_true]
  | 2, _ => simp only [List.take_succ_cons, List.take_zero, sz, a1, b1, if_true]
  | 3, _ => simp only [List.take_succ_cons, List.take_zero, sz, a1, b1, c1, if_true]
theorem tag_nat {t : Int} (h : tag t = true) : ((UInt8.ofNat t.toNat).toNat : Int) = t := by
  rcases tag_cases h with rfl | rfl | rfl <;> rfl
/-- Read behind a head. -/
theorem read_head {p : Pc} (h : ok p) (r : List UInt8) :
    read (head p.tg.toNat p.data.length ++ r) = if r.length < p.data.length then .error 2 else .ok (⟨p.tg, r.take p.data.length⟩, 5 + p.data.length) := by
  show read (UInt8.ofNat p.tg.toNat :: (d4 p.data.length ++ r)) = _
  rw [read_cons, tag_nat h.1, if_pos h.1, sz_d4 h.2]
  unfold readBody
  dsimp only
  rw [tag_nat h.1]
/-- What is written is read as it was. -/
theorem read_text {p : Pc} (h : ok p) (r : List UInt8) : read (text p ++ r) = .ok (p, (text p).length) := by
  unfold text
  rw [List.append_assoc, read_head h, if_neg (by simp), List.take_left, List.length_append, head_len]
/-- What is cut off is too short. -/
theorem read_cut {p : Pc} (h : ok p) {k : Nat} (hk : k < (text p).length) : read ((text p).take k) = .error 2 := by
  rw [text_len] at hk
  by_cases h5 : 5 ≤ k
  · unfold text
    rw [List.take_append, head_len, List.take_of_length_le (by rw [head_len]; exact h5), read_head h, if_pos (by rw [List.length_take]; omega)]
  · match k, h5 with
    | 0, _ => rfl
    | k + 1, h5 =>
      have e : (text p).take (k + 1) = UInt8.ofNat p.tg.toNat :: (d4 p.data.length).take k := by
        show UInt8.ofNat p.tg.toNat :: (d4 p.data.length ++ p.data).take k = _
        rw [List.take_append_of_le_length (by show k ≤ 4; omega)]
      rw [e, read_cons, tag_nat h.1, if_pos h.1, sz_cut (by omega)]
      rfl
theorem dig_cases {c : UInt8} (h : dig c = true) : 48 ≤ c.toNat ∧ c.toNat ≤ 57 := by
  unfold dig at h; simpa using h
theorem byte_dig {c : UInt8} {d : Nat} (h : dig c = true) (hd : d % 10 = c.toNat - 48) : UInt8.ofNat (48 + d % 10) = c := by
  obtain ⟨h1, h2⟩ := dig_cases h
  apply UInt8.toNat_inj.1
  rw [UInt8.toNat_ofNat']; omega
theorem sz_ok {r t : List UInt8} {n : Nat} (h : sz 4 0 r = .ok (n, t)) : n ≤ 4096 ∧ r = d4 n ++ t := by
  match r, h with
  | [], h => cases h
  | [a], h => simp only [sz] at h; split at h <;> cases h
  | [a, b], h =>
    simp only [sz] at h
    split at h
    · split at h <;> cases h
    · cases h
  | [a, b, c], h =>
    simp only [sz] at h
    split at h
    · split at h
      · split at h <;> cases h
      · cases h
    · cases h
  | a :: b :: c :: d :: r, h =>
    simp only [sz] at h
    by_cases ha : dig a = true
    · by_cases hb : dig b = true
      · by_cases hc : dig c = true
        · by_cases hd : dig d = true
          · rw [if_pos ha, if_pos hb, if_pos hc, if_pos hd] at h
            have a' := dig_cases ha
            have b' := dig_cases hb
            have c' := dig_cases hc
            have d' := dig_cases hd
            split at h
            · cases h
            · simp only [Except.ok.injEq, Prod.mk.injEq] at h
              obtain ⟨h1, rfl⟩ := h
              refine ⟨by omega, ?_⟩
              unfold d4
              rw [byte_dig (c := a) ha (by omega), byte_dig (c := b) hb (by omega), byte_dig (c := c) hc (by omega), byte_dig (c := d) hd (by omega)]
              rfl
          · rw [if_pos ha, if_pos hb, if_pos hc, if_neg hd] at h; cases h
        · rw [if_pos ha, if_pos hb, if_neg hc] at h; cases h
      · rw [if_pos ha, if_neg hb] at h; cases h
    · rw [if_neg ha] at h; cases h
/-- What is read is written so. -/
theorem text_read {s : List UInt8} {p : Pc} {n : Nat} (h : read s = .ok (p, n)) : ok p ∧ 5 ≤ n ∧ n ≤ s.length ∧ text p = s.take n := by
  match s, h with
  | [], h => cases h
  | c :: r, h =>
    rw [read_cons] at h
    split at h
    · rename_i ht
      cases hz : sz 4 0 r with
      | error e => rw [hz] at h; cases h
      | ok x =>
        obtain ⟨m, t⟩ := x
        obtain ⟨h1, h2⟩ := sz_ok hz
        rw [hz] at h
        unfold readBody at h
        dsimp only at h
        split at h
        · cases h
        · rename_i hl
          simp only [Except.ok.injEq, Prod.mk.injEq] at h
          obtain ⟨rfl, rfl⟩ := h
          have hm : (t.take m).length = m := by rw [List.length_take]; omega
          refine ⟨⟨ht, by dsimp only; omega⟩, by omega, ?_, ?_⟩
          · rw [h2, List.length_cons, List.length_append]; show 5 + m ≤ 4 + t.length + 1; omega
          · unfold text
            dsimp only
            rw [hm, Int.toNat_natCast, h2]
            show UInt8.ofNat c.toNat :: (d4 m ++ t.take m) = (c :: (d4 m ++ t)).take (5 + m)
            rw [UInt8.ofNat_toNat, show 5 + m = (4 + m) + 1 by omega, List.take_succ_cons, List.take_append, show (d4 m).length = 4 from rfl, List.take_of_length_le (l := d4 m) (by show 4 ≤ 4 + m; omega), show 4 + m - 4 = m by omega]
    · cases h

def crc (l : List UInt8) : Nat := Chk.more 0 l
theorem crc_lt (l : List UInt8) : crc l < 4294967296 := Chk.more_lt 0 l
/-- What an end says of a file. -/
def sum (l : List UInt8) : List UInt8 := Lib.itoa (crc l : Nat)
theorem sum_inj {a b : List UInt8} (h : sum a = sum b) : crc a = crc b := by
  have ha := crc_lt a
  have hb := crc_lt b
  have h1 := Oct.number_itoa (n := crc a) (by omega)
  have h2 := Oct.number_itoa (n := crc b) (by omega)
  unfold sum at h
  rw [h, h2] at h1
  have := congrArg Prod.fst h1
  exact (by exact_mod_cast this.symm)
theorem sum_len (l : List UInt8) : (sum l).length ≤ 20 := by
  unfold sum
  rw [Lib.itoa_nonneg, Lib.decDigits_length]
  exact Lib.nDigits_le20 _ (by have := crc_lt l; omega)

/-- The first k pieces of z bytes. -/
def pcs (z : Nat) (l : List UInt8) (k : Nat) : List (List UInt8) := (List.range k).map fun i => (l.drop (i * z)).take z
theorem pcs_succ (z : Nat) (l : List UInt8) (k : Nat) : pcs z l (k + 1) = pcs z l k ++ [(l.drop (k * z)).take z] := by
  unfold pcs; rw [List.range_succ, List.map_append]; rfl
theorem pcs_len (z : Nat) (l : List UInt8) (k : Nat) : (pcs z l k).length = k := by simp [pcs]
/-- How many pieces there are. -/
def cnt (z n : Nat) : Nat := (n + z - 1) / z
theorem cnt_eq {z n k : Nat} (h1 : n ≤ k * z) (h2 : k * z < n + z) : k = cnt z n := by
  have hz : 0 < z := by omega
  unfold cnt
  symm
  rw [Nat.div_eq_iff hz]
  omega
theorem cnt_le {z n : Nat} (hz : 0 < z) : n ≤ cnt z n * z ∧ cnt z n * z < n + z := by
  unfold cnt
  have h1 := Nat.div_add_mod (n + z - 1) z
  have h2 := Nat.mod_lt (n + z - 1) hz
  rw [Nat.mul_comm] at h1
  omega
theorem flat_pcs (z : Nat) (l : List UInt8) : ∀ k, (pcs z l k).flatten = l.take (k * z)
  | 0 => by simp [pcs]
  | k + 1 => by
    rw [pcs_succ, List.flatten_append, flat_pcs z l k, List.flatten_singleton, Nat.add_mul, Nat.one_mul]
    exact List.take_add.symm
/-- The pieces of a file. -/
def cut (z : Nat) (l : List UInt8) : List (List UInt8) := pcs z l (cnt z l.length)
theorem flat_cut {z : Nat} (hz : 0 < z) (l : List UInt8) : (cut z l).flatten = l := by
  unfold cut
  rw [flat_pcs, List.take_of_length_le (cnt_le hz).1]
theorem cut_mem {z : Nat} (hz : 0 < z) {l x : List UInt8} (h : x ∈ cut z l) : x.length ≤ z ∧ x ≠ [] := by
  unfold cut pcs at h
  rw [List.mem_map] at h
  obtain ⟨i, hi, rfl⟩ := h
  rw [List.mem_range] at hi
  have h2 := (cnt_le (n := l.length) hz).2
  have h3 : (i + 1) * z ≤ cnt z l.length * z := Nat.mul_le_mul_right _ hi
  rw [Nat.add_mul, Nat.one_mul] at h3
  refine ⟨by rw [List.length_take]; omega, fun e => ?_⟩
  have := congrArg List.length e
  rw [List.length_take, List.length_drop, List.length_nil] at this
  omega
def D (x : List UInt8) : Pc := ⟨100, x⟩
def En (l : List UInt8) : Pc := ⟨122, sum l⟩
/-- A file in parcels. -/
def file (z : Nat) (l : List UInt8) : List Pc := (cut z l).map D ++ [En l]
/-- Join, s has come. -/
def join : List UInt8 → List Pc → Except Nat (List UInt8)
  | _, [] => .error 2
  | s, p :: r =>
    if p.tg = 122 ∧ r = [] then (if p.data = sum s then .ok s else .error 4)
    else if p.tg ≠ 100 then .error 3
    else if 6000 < s.length + p.data.length then .error 5
    else join (s ++ p.data) r
theorem join_data : ∀ (cs : List (List UInt8)) (s : List UInt8) (e : Pc), e.tg = 122 → s.length + cs.flatten.length ≤ 6000 → join s (cs.map D ++ [e]) = if e.data = sum (s ++ cs.flatten) then .ok (s ++ cs.flatten) else .error 4
  | [], s, e, he, _ => by
    show join s [e] = _
    unfold join
    rw [if_pos ⟨he, rfl⟩]
    simp
  | c :: cs, s, e, he, hl => by
    have hl' : s.length + (c.length + cs.flatten.length) ≤ 6000 := by simpa using hl
    show join s (D c :: (cs.map D ++ [e])) = _
    unfold join
    rw [if_neg (by rintro ⟨h, _⟩; exact absurd h (by show ¬ (100 : Int) = 122; decide)), if_neg (by show ¬ (100 : Int) ≠ 100; decide), if_neg (by show ¬ 6000 < s.length + c.length; omega)]
    show join (s ++ c) (cs.map D ++ [e]) = _
    rw [join_data cs (s ++ c) e he (by rw [List.length_append]; omega), List.flatten_cons, List.append_assoc]
theorem join_none : ∀ (cs : List (List UInt8)) (s : List UInt8), s.length + cs.flatten.length ≤ 6000 → join s (cs.map D) = .error 2
  | [], s, _ => rfl
  | c :: cs, s, hl => by
    have hl' : s.length + (c.length + cs.flatten.length) ≤ 6000 := by simpa using hl
    show join s (D c :: cs.map D) = _
    unfold join
    rw [if_neg (by rintro ⟨h, _⟩; exact absurd h (by show ¬ (100 : Int) = 122; decide)), if_neg (by show ¬ (100 : Int) ≠ 100; decide), if_neg (by show ¬ 6000 < s.length + c.length; omega)]
    exact join_none cs (s ++ c) (by rw [List.length_append]; omega)
/-- What is cut is joined. -/
theorem join_file {z : Nat} (hz : 0 < z) {l : List UInt8} (hl : l.length ≤ 6000) : join [] (file z l) = .ok l := by
  unfold file
  rw [join_data _ _ _ rfl (by rw [flat_cut hz]; simpa using hl), List.nil_append, flat_cut hz]
  exact if_pos rfl
theorem flatten_erase_le (cs : List (List UInt8)) (k : Nat) : (cs.take k ++ cs.drop (k + 1)).flatten.length ≤ cs.flatten.length := by
  rw [List.flatten_append, List.length_append]
  conv => rhs; rw [← List.take_append_drop k cs, List.flatten_append, List.length_append]
  have : (cs.drop (k + 1)).flatten.length ≤ (cs.drop k).flatten.length := by
    cases h : cs.drop k with
    | nil =>
      rw [List.drop_eq_nil_iff] at h
      rw [List.drop_eq_nil_of_le (by omega)]
      exact Nat.le_refl _
    | cons a r =>
      have : cs.drop (k + 1) = r := by rw [← List.drop_drop, h]; rfl
      rw [this]; simp
  omega
theorem file_len (z : Nat) (l : List UInt8) : (file z l).length = cnt z l.length + 1 := by
  unfold file cut; simp [pcs_len]
/-- Without its end a file is too short. -/
theorem lost_end {z : Nat} (hz : 0 < z) {l : List UInt8} (hl : l.length ≤ 6000) {k : Nat} (hk : k + 1 = (file z l).length) : join [] ((file z l).take k ++ (file z l).drop (k + 1)) = .error 2 := by
  rw [List.drop_of_length_le (by omega), List.append_nil]
  have : (file z l).take k = (cut z l).map D := by
    rw [file_len] at hk
    unfold file
    rw [List.take_append_of_le_length (by unfold cut; simp [pcs_len]; omega), List.take_of_length_le (by unfold cut; simp [pcs_len]; omega)]
  rw [this]
  exact join_none _ _ (by rw [flat_cut hz]; simpa using hl)
/-- Without a piece it is refused, or the sums are one. -/
theorem lost_piece {z : Nat} (hz : 0 < z) {l : List UInt8} (hl : l.length ≤ 6000) {k : Nat} (hk : k + 1 < (file z l).length) : join [] ((file z l).take k ++ (file z l).drop (k + 1)) = .error 4 ∨ ∃ t, t.length ≤ 6000 ∧ join [] ((file z l).take k ++ (file z l).drop (k + 1)) = .ok t ∧ crc t = crc l := by
  rw [file_len] at hk
  have e : (file z l).take k ++ (file z l).drop (k + 1) = ((cut z l).take k ++ (cut z l).drop (k + 1)).map D ++ [En l] := by
    unfold file
    rw [List.take_append_of_le_length (by unfold cut; simp [pcs_len]; omega), List.drop_append_of_le_length (by unfold cut; simp [pcs_len]; omega), List.map_append, List.map_take, List.map_drop, List.append_assoc]
  have hle := flatten_erase_le (cut z l) k
  rw [flat_cut hz] at hle
  rw [e, join_data _ _ _ rfl (by simp only [List.length_nil]; omega), List.nil_append]
  split
  · rename_i h
    exact .inr ⟨_, by omega, rfl, sum_inj h.symm⟩
  · exact .inl rfl
theorem join_len : ∀ (l : List Pc) (s t : List UInt8), s.length ≤ 6000 → join s l = .ok t → t.length ≤ 6000
  | [], _, _, _, h => by cases h
  | p :: r, s, t, hs, h => by
    unfold join at h
    split at h
    · split at h
      · cases h; exact hs
      · cases h
    · split at h
      · cases h
      · split at h
        · cases h
        · exact join_len r (s ++ p.data) t (by rw [List.length_append]; omega) h
end Pa
end Go.Proofs.YteiajngfeiemkabDoor
