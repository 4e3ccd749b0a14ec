/-
  Chats (layer 8) in plain mathematics: parting at strokes and at blanks, byte by byte.
-/
import Derived.Test.YteepfifglafjmaaDoorMathW
import Derived.Lib.SplitLaws
import Derived.Lib.CountLaws
import Derived.Lib.IndexMore
namespace Go.Proofs.YteepfifglafjmaaDoor
namespace Ch
def spl : List UInt8 → List (List UInt8)
  | [] => [[]]
  | b :: l => if b = 45 then [] :: spl l else match spl l with
    | [] => [[b]]
    | h :: t => (b :: h) :: t

theorem spl_ne : ∀ l, spl l ≠ []
  | [] => by simp [spl]
  | b :: l => by
    unfold spl
    split
    · simp
    · split <;> simp

theorem spl_stroke (l : List UInt8) : spl (45 :: l) = [] :: spl l := by simp [spl]
theorem spl_other {b : UInt8} (h : b ≠ 45) (l : List UInt8) : ∃ x t, spl l = x :: t ∧ spl (b :: l) = (b :: x) :: t := by
  obtain ⟨x, t, e⟩ := List.exists_cons_of_ne_nil (spl_ne l)
  exact ⟨x, t, e, by rw [spl, if_neg h, e]⟩
/-- what strings.Split answers at a stroke -/
theorem splitK_spl : ∀ (l : List UInt8) (k : Nat), l.count 45 ≤ k → Lib.splitK [45] 0 k l = spl l
  | [], 0, _ => rfl
  | [], k + 1, _ => by unfold Lib.splitK; rw [if_pos (by decide)]; rfl
  | b :: l, k, h => by
    by_cases hb : b = 45
    · subst hb
      rw [List.count_cons_self] at h
      obtain ⟨k, rfl⟩ : ∃ j, k = j + 1 := ⟨k - 1, by omega⟩
      have e : Lib.index (45 :: l) [45] = 0 := by simp [Lib.index]
      unfold Lib.splitK
      rw [if_neg (by rw [e]; decide), e, spl_stroke]
      simp only [Int.toNat_zero, Nat.zero_add, List.length_singleton, List.take_zero, List.drop_succ_cons, List.drop_zero]
      rw [splitK_spl l k (by omega)]
    · rw [List.count_cons_of_ne hb] at h
      have ih := splitK_spl l k h
      obtain ⟨x, t, e, e2⟩ := spl_other hb l
      rw [e2]
      rw [e] at ih
      have hi : Lib.index (b :: l) [45] = if Lib.index l [45] == -1 then -1 else Lib.index l [45] + 1 := by
        conv => lhs; unfold Lib.index
        rw [if_neg (by simp; exact fun c => hb c.symm)]
      have hge := Lib.index_ge l [45]
      cases k with
      | zero =>
        unfold Lib.splitK at ih ⊢
        injection ih with h1 h2
        rw [← h1, ← h2]
      | succ k =>
        unfold Lib.splitK at ih ⊢
        rw [hi]
        by_cases hm : Lib.index l [45] = -1
        · rw [if_pos (by rw [hm]; rfl)] at ih
          rw [if_pos (by rw [hm]; rfl)]
          injection ih with h1 h2
          rw [← h1, ← h2]
        · rw [if_neg (by simpa using hm)] at ih
          have hm2 : ¬ (Lib.index l [45] == -1) = true := by simpa using hm
          rw [if_neg hm2, if_neg (by simp; omega)]
          injection ih with h1 h2
          have e5 : (Lib.index l [45] + 1).toNat = (Lib.index l [45]).toNat + 1 := by omega
          rw [e5, ← h1, ← h2]
          simp

theorem dash_spl0 (s : ByteArray) : (Lib.splitB ⟨#[45]⟩ 0 (Lib.countB s ⟨#[45]⟩) s).map (·.data.toList) = spl s.data.toList := by
  rw [Lib.splitB_data]
  exact splitK_spl _ _ (by show _ ≤ Lib.count s.data.toList [45]; rw [Lib.count_one]; exact Nat.le_refl _)

def ba (l : List UInt8) : ByteArray := ⟨l.toArray⟩
theorem ba_list (s : ByteArray) : ba s.data.toList = s := by cases s; rfl
/-- byte by byte: the parts -/
def pt : List UInt8 → List UInt8 → List (List UInt8)
  | cur, [] => [cur]
  | cur, b :: l => if b = 45 then cur :: pt [] l else pt (cur ++ [b]) l
theorem pt_spl : ∀ (l cur : List UInt8), ∃ x t, spl l = x :: t ∧ pt cur l = (cur ++ x) :: t
  | [], cur => ⟨[], [], rfl, by simp [pt]⟩
  | b :: l, cur => by
    by_cases hb : b = 45
    · subst hb
      obtain ⟨x, t, h1, h2⟩ := pt_spl l []
      exact ⟨[], spl l, spl_stroke l, by rw [pt, if_pos rfl, h2, h1]; simp⟩
    · obtain ⟨x, t, h1, h2⟩ := spl_other hb l
      obtain ⟨x', t', h3, h4⟩ := pt_spl l (cur ++ [b])
      rw [h1] at h3
      cases h3
      exact ⟨b :: x, t, h2, by rw [pt, if_neg hb, h4]; simp⟩
theorem dash_pt (s : ByteArray) : dash s = (pt [] s.data.toList).map ba := by
  have h := dash_spl0 s
  obtain ⟨x, t, h1, h2⟩ := pt_spl s.data.toList []
  rw [h2, List.nil_append, ← h1, ← h, List.map_map]
  have : (ba ∘ fun (x : ByteArray) => x.data.toList) = id := by funext x; exact ba_list x
  show Lib.splitB _ _ _ _ = _
  rw [this, List.map_id]
/-- what is left to be parted, at a place, from another -/
def pleft (s : ByteArray) (f i : Nat) : List ByteArray := if i ≤ s.size then (pt ((s.data.toList.drop f).take (i - f)) (s.data.toList.drop i)).map ba else []
theorem ba_seg (s : ByteArray) (f i : Nat) (_ : i ≤ s.size) (_ : f ≤ i) : ba ((s.data.toList.drop f).take (i - f)) = s.extract f i := by
  have : (s.extract f i).data.toList = (s.data.toList.drop f).take (i - f) := by
    simp [List.extract_eq_take_drop]
  rw [← this, ba_list]
theorem seg_more (s : ByteArray) (f i : Nat) (h : i < s.size) (hf : f ≤ i) : (s.data.toList.drop f).take (i - f) ++ [s[i]] = (s.data.toList.drop f).take (i + 1 - f) := by
  have hl : i - f < (s.data.toList.drop f).length := by rw [List.length_drop]; show i - f < s.size - f; omega
  rw [show i + 1 - f = (i - f) + 1 by omega, List.take_succ_eq_append_getElem hl]
  congr 2
  have : f + (i - f) = i := by omega
  simp only [List.getElem_drop, this]
  rfl
theorem at_drop {s : ByteArray} {i : Nat} (h : i < s.size) : s.data.toList.drop i = s[i] :: s.data.toList.drop (i + 1) := by
  have hl : i < s.data.toList.length := h
  rw [List.drop_eq_getElem_cons hl]
  rfl
theorem drop_end (s : ByteArray) : s.data.toList.drop s.size = [] := List.drop_eq_nil_of_le (Nat.le_refl _)
theorem pleft_stroke (s : ByteArray) (f i : Nat) (h : i < s.size) (hf : f ≤ i) (h45 : s[i] = 45) : pleft s f i = s.extract f i :: pleft s (i + 1) (i + 1) := by
  unfold pleft
  rw [if_pos (by omega), if_pos (by omega), at_drop h, h45, pt, if_pos rfl, List.map_cons, ba_seg _ _ _ (by omega) hf]
  simp
theorem pleft_end (s : ByteArray) (f : Nat) (hf : f ≤ s.size) : pleft s f s.size = s.extract f s.size :: pleft s (s.size + 1) (s.size + 1) := by
  unfold pleft
  rw [if_pos (by omega), if_neg (by omega), drop_end, pt, List.map_cons, ba_seg _ _ _ (by omega) hf]
  rfl
theorem pleft_more (s : ByteArray) (f i : Nat) (h : i < s.size) (hf : f ≤ i) (h45 : s[i] ≠ 45) : pleft s f i = pleft s f (i + 1) := by
  unfold pleft
  rw [if_pos (by omega), if_pos (by omega), at_drop h, pt, if_neg h45, seg_more _ _ _ h hf]
theorem pleft_begin (s : ByteArray) : pleft s 0 0 = dash s := by
  unfold pleft
  rw [if_pos (by omega), dash_pt]
  simp
theorem pleft_over (s : ByteArray) (f i : Nat) (h : s.size < i) : pleft s f i = [] := by
  unfold pleft
  rw [if_neg (by omega)]
/-- the word under way -/
def cw (s : ByteArray) (F : Int) (i : Nat) : List UInt8 := if F < 0 then [] else (s.data.toList.drop F.toNat).take (i - F.toNat)
def wleft (s : ByteArray) (F : Int) (i : Nat) : List ByteArray := if i ≤ s.size then (Lib.fieldsGo (cw s F i) (s.data.toList.drop i)).map ba else []
theorem wleft_begin (s : ByteArray) : wleft s (-1) 0 = words s := by
  unfold wleft
  rw [if_pos (by omega)]
  rfl
theorem wleft_over (s : ByteArray) (F : Int) (i : Nat) (h : s.size < i) : wleft s F i = [] := by
  unfold wleft
  rw [if_neg (by omega)]
theorem cw_none (s : ByteArray) (i : Nat) : cw s (-1) i = [] := rfl
theorem cw_some (s : ByteArray) (f i : Nat) : cw s (f : Int) i = (s.data.toList.drop f).take (i - f) := by
  unfold cw
  rw [if_neg (by omega)]
  rfl
theorem cw_ne (s : ByteArray) (f i : Nat) (h : i ≤ s.size) (hf : f < i) : cw s (f : Int) i ≠ [] := by
  rw [cw_some]
  intro e
  have := congrArg List.length e
  rw [List.length_take, List.length_drop, List.length_nil] at this
  have hl : s.data.toList.length = s.size := rfl
  omega
theorem wleft_sp_none (s : ByteArray) (i : Nat) (h : i < s.size) (h32 : s[i] = 32) : wleft s (-1) i = wleft s (-1) (i + 1) := by
  unfold wleft
  rw [if_pos (by omega), if_pos (by omega), at_drop h, h32, cw_none, cw_none, Lib.fieldsGo_sp _ _ (by decide)]
theorem wleft_sp_some (s : ByteArray) (f i : Nat) (h : i < s.size) (hf : f < i) (h32 : s[i] = 32) : wleft s (f : Int) i = s.extract f i :: wleft s (-1) (i + 1) := by
  unfold wleft
  rw [if_pos (by omega), if_pos (by omega), at_drop h, h32, cw_none, Lib.fieldsGo_end _ _ _ (by decide) (cw_ne s f i (by omega) hf), List.map_cons, cw_some, ba_seg _ _ _ (by omega) (by omega)]
theorem wleft_end_none (s : ByteArray) : wleft s (-1) s.size = wleft s (-1) (s.size + 1) := by
  unfold wleft
  rw [if_pos (by omega), if_neg (by omega), drop_end, cw_none]
  rfl
theorem wleft_end_some (s : ByteArray) (f : Nat) (hf : f < s.size) : wleft s (f : Int) s.size = s.extract f s.size :: wleft s (-1) (s.size + 1) := by
  have h := cw_ne s f s.size (by omega) hf
  unfold wleft
  rw [if_pos (by omega), if_neg (by omega), drop_end]
  unfold Lib.fieldsGo
  rw [if_neg (by rw [List.isEmpty_iff]; exact h), cw_some, List.map_cons, ba_seg _ _ _ (by omega) (by omega)]
  rfl
theorem sp_no {c : UInt8} (h : 32 ≤ c.toNat) (h2 : c ≠ 32) : Lib.isSp c = false := by
  have : ∀ n : Nat, n < 32 → n < 256 → ¬ c = UInt8.ofNat n := fun n h1 h3 e => by rw [e] at h; simp at h; omega
  simp only [Lib.isSp, Bool.or_eq_false_iff, beq_eq_false_iff_ne]
  exact ⟨⟨⟨⟨⟨this 9 (by omega) (by omega), this 10 (by omega) (by omega)⟩, this 11 (by omega) (by omega)⟩, this 12 (by omega) (by omega)⟩, this 13 (by omega) (by omega)⟩, h2⟩
theorem wleft_in_none (s : ByteArray) (i : Nat) (h : i < s.size) (h1 : 32 ≤ s[i].toNat) (h32 : s[i] ≠ 32) : wleft s (-1) i = wleft s (i : Int) (i + 1) := by
  unfold wleft
  rw [if_pos (by omega), if_pos (by omega), at_drop h, cw_none, Lib.fieldsGo_more _ _ _ (sp_no h1 h32), cw_some, ← seg_more _ _ _ h (Nat.le_refl _), Nat.sub_self]
  rfl
theorem wleft_in_some (s : ByteArray) (f i : Nat) (h : i < s.size) (hf : f < i) (h1 : 32 ≤ s[i].toNat) (h32 : s[i] ≠ 32) : wleft s (f : Int) i = wleft s (f : Int) (i + 1) := by
  unfold wleft
  rw [if_pos (by omega), if_pos (by omega), at_drop h, Lib.fieldsGo_more _ _ _ (sp_no h1 h32), cw_some, cw_some, seg_more _ _ _ h (by omega)]
/-- what stands in words and parts -/
theorem fieldsGo_in (P : UInt8 → Prop) : ∀ (l cur x : List UInt8), (∀ b ∈ cur, P b) → (∀ b ∈ l, Lib.isSp b = false → P b) → x ∈ Lib.fieldsGo cur l → ∀ b ∈ x, P b
  | [], cur, x, hc, _, h => by
    unfold Lib.fieldsGo at h
    split at h
    · cases h
    · rw [List.mem_singleton.1 h]; exact hc
  | b :: l, cur, x, hc, hl, h => by
    have hl' : ∀ b ∈ l, Lib.isSp b = false → P b := fun y hy => hl y (List.mem_cons_of_mem _ hy)
    unfold Lib.fieldsGo at h
    split at h
    · split at h
      · exact fieldsGo_in P l [] x (fun _ e => by cases e) hl' h
      · rcases List.mem_cons.1 h with e | e
        · rw [e]; exact hc
        · exact fieldsGo_in P l [] x (fun _ e => by cases e) hl' e
    · rename_i hs
      refine fieldsGo_in P l _ x (fun y hy => ?_) hl' h
      rcases List.mem_append.1 hy with e | e
      · exact hc y e
      · rw [List.mem_singleton.1 e]; exact hl b (by simp) (by simpa using hs)
theorem words_in {s p : ByteArray} (hs : ∀ b ∈ s.data.toList, 32 ≤ b.toNat ∧ b.toNat ≤ 126) (h : p ∈ words s) : inWord p.data.toList := by
  unfold words at h
  obtain ⟨l, hl, rfl⟩ := List.mem_map.1 h
  refine fieldsGo_in (fun b => 33 ≤ b.toNat ∧ b.toNat ≤ 126) _ _ l (fun _ e => by cases e) (fun b hb hsp => ?_) hl
  have := hs b hb
  refine ⟨?_, this.2⟩
  by_cases h32 : b.toNat = 32
  · rw [u8_eq (by decide) h32, show Lib.isSp (UInt8.ofNat 32) = true by decide] at hsp; cases hsp
  · omega
theorem pt_in (P : UInt8 → Prop) : ∀ (l cur x : List UInt8), (∀ b ∈ cur, P b) → (∀ b ∈ l, P b) → x ∈ pt cur l → ∀ b ∈ x, P b
  | [], cur, x, hc, _, h => by rw [pt, List.mem_singleton] at h; rw [h]; exact hc
  | b :: l, cur, x, hc, hl, h => by
    have hl' : ∀ b ∈ l, P b := fun y hy => hl y (List.mem_cons_of_mem _ hy)
    rw [pt] at h
    split at h
    · rcases List.mem_cons.1 h with e | e
      · rw [e]; exact hc
      · exact pt_in P l [] x (fun _ e => by cases e) hl' e
    · refine pt_in P l _ x (fun y hy => ?_) hl' h
      rcases List.mem_append.1 hy with e | e
      · exact hc y e
      · rw [List.mem_singleton.1 e]; exact hl b (by simp)
theorem dash_in {s p : ByteArray} (hs : inWord s.data.toList) (h : p ∈ dash s) : inWord p.data.toList := by
  rw [dash_pt] at h
  obtain ⟨l, hl, rfl⟩ := List.mem_map.1 h
  exact pt_in _ _ _ l (fun _ e => by cases e) hs hl
end Ch
end Go.Proofs.YteepfifglafjmaaDoor
