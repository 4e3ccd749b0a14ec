/-
  Layer 5, Order: mathematics: jobs in the order of their ids, those of one id as they stood.
-/
import Derived.Test.YthjlhbbhdliffaaDoorSrt2
namespace Go.Proofs.YthjlhbbhdliffaaDoor
namespace Job

theorem lt_iff (x y : Jb) : lt x y = true ↔ x.g < y.g ∨ (x.g = y.g ∧ x.n < y.n) := by
  unfold lt Nam.less
  by_cases h : x.g = y.g
  · rw [if_pos h]; simp [h]
  · rw [if_neg h]; simp [h]
/-- x may stand ahead of y -/
def Le (x y : Jb) : Prop := x.g < y.g ∨ (x.g = y.g ∧ x.n ≤ y.n)
theorem le_iff (x y : Jb) : lt y x = false ↔ Le x y := by
  have h := lt_iff y x
  unfold Le
  constructor
  · intro e
    have : ¬ (y.g < x.g ∨ (y.g = x.g ∧ y.n < x.n)) := fun c => by rw [h.2 c] at e; cases e
    omega
  · intro c
    cases e : lt y x
    · rfl
    · have := h.1 e; omega
theorem Le.trans {x y z : Jb} (h : Le x y) (h' : Le y z) : Le x z := by unfold Le at *; omega
theorem lt_le {x y : Jb} (h : lt x y = true) : Le x y := by have := (lt_iff x y).1 h; unfold Le; omega
theorem lt_le_lt {x y z : Jb} (h : lt x y = true) (h' : Le y z) : lt x z = true := by
  have := (lt_iff x y).1 h; unfold Le at h'; rw [lt_iff]; omega
theorem le_lt_lt {x y z : Jb} (h : Le x y) (h' : lt y z = true) : lt x z = true := by
  have := (lt_iff y z).1 h'; unfold Le at h; rw [lt_iff]; omega
/-- those of one id -/
def fk (a b : Int) (l : List Jb) : List Jb := l.filter fun x => decide (x.g = a) && decide (x.n = b)
theorem fk_append (a b : Int) (l m : List Jb) : fk a b (l ++ m) = fk a b l ++ fk a b m := by simp [fk]
theorem fk_cons (a b : Int) (x : Jb) (l : List Jb) : fk a b (x :: l) = fk a b [x] ++ fk a b l := by rw [← fk_append]; rfl
theorem fk_mem {a b : Int} {l : List Jb} {x : Jb} (h : x ∈ fk a b l) : x ∈ l ∧ x.g = a ∧ x.n = b := by
  unfold fk at h; rw [List.mem_filter] at h; simpa using h
theorem fk_of {a b : Int} {l : List Jb} {x : Jb} (h : x ∈ l) (hg : x.g = a) (hn : x.n = b) : x ∈ fk a b l := by
  unfold fk; rw [List.mem_filter]; exact ⟨h, by simp [hg, hn]⟩
/-- two rows of which all of the one stand truly ahead of all of the other change places -/
theorem fk_swap {A B : List Jb} (h : ∀ x ∈ A, ∀ y ∈ B, lt x y = true) (a b : Int) : fk a b (A ++ B) = fk a b (B ++ A) := by
  rw [fk_append, fk_append]
  rcases hA : fk a b A with _ | ⟨x, r⟩
  · simp
  · rcases hB : fk a b B with _ | ⟨y, r'⟩
    · simp
    · exfalso
      have mx := fk_mem (a := a) (b := b) (l := A) (x := x) (by rw [hA]; simp)
      have my := fk_mem (a := a) (b := b) (l := B) (x := y) (by rw [hB]; simp)
      have := (lt_iff x y).1 (h x mx.1 y my.1)
      omega
def Srt (l : List Jb) : Prop := l.Pairwise Le
/-- s is l in its order, those of one id as they stood -/
structure St (l s : List Jb) : Prop where
  srt : Srt s
  same : ∀ a b, fk a b s = fk a b l
theorem srt_uniq : ∀ (s s' : List Jb), Srt s → Srt s' → (∀ a b, fk a b s = fk a b s') → s = s'
  | [], [], _, _, _ => rfl
  | [], y :: r, _, _, h => by
    have := h y.g y.n
    have m := fk_of (a := y.g) (b := y.n) (l := y :: r) (x := y) (by simp) rfl rfl
    rw [← this] at m; cases m
  | x :: r, [], _, _, h => by
    have := h x.g x.n
    have m := fk_of (a := x.g) (b := x.n) (l := x :: r) (x := x) (by simp) rfl rfl
    rw [this] at m; cases m
  | x :: r, y :: r', hs, hs', h => by
    have hx := List.pairwise_cons.1 hs
    have hy := List.pairwise_cons.1 hs'
    have mx : x ∈ y :: r' := (fk_mem (a := x.g) (b := x.n) (by rw [← h]; exact fk_of (by simp) rfl rfl)).1
    have my : y ∈ x :: r := (fk_mem (a := y.g) (b := y.n) (by rw [h]; exact fk_of (by simp) rfl rfl)).1
    have hxy : Le x y := by
      rcases List.mem_cons.1 my with e | m
      · rw [e]; unfold Le; omega
      · exact hx.1 y m
    have hyx : Le y x := by
      rcases List.mem_cons.1 mx with e | m
      · rw [e]; unfold Le; omega
      · exact hy.1 x m
    have hk : x.g = y.g ∧ x.n = y.n := by unfold Le at hxy hyx; omega
    have e := h x.g x.n
    have fx : fk x.g x.n (x :: r) = x :: fk x.g x.n r := by simp [fk]
    have fy : fk x.g x.n (y :: r') = y :: fk x.g x.n r' := by simp [fk, hk.1, hk.2]
    rw [fx, fy] at e
    obtain ⟨rfl, e2⟩ := List.cons.inj e
    refine congrArg (x :: ·) (srt_uniq r r' hx.2 hy.2 fun a b => ?_)
    have e3 := h a b
    rw [fk_cons, fk_cons a b x r'] at e3
    exact List.append_cancel_left e3
theorem St.uniq {l s s' : List Jb} (h : St l s) (h' : St l s') : s = s' := srt_uniq s s' h.srt h'.srt fun a b => by rw [h.same, h'.same]
theorem St.refl {l : List Jb} (h : Srt l) : St l l := ⟨h, fun _ _ => rfl⟩
theorem count_fk (l : List Jb) (x : Jb) : (fk x.g x.n l).count x = l.count x := by
  unfold fk; rw [List.count_filter]; simp
theorem St.count {l s : List Jb} (h : St l s) (x : Jb) : s.count x = l.count x := by rw [← count_fk s x, h.same, count_fk]
theorem St.perm {l s : List Jb} (h : St l s) : s.Perm l := List.perm_iff_count.2 h.count
theorem St.len {l s : List Jb} (h : St l s) : s.length = l.length := h.perm.length_eq
theorem St.mem {l s : List Jb} (h : St l s) {x : Jb} : x ∈ s ↔ x ∈ l := h.perm.mem_iff
/-- the two halves of a merge -/
theorem St.join {A1 A2 B1 B2 S1 S2 : List Jb} (hA : Srt (A1 ++ A2)) (hB : Srt (B1 ++ B2)) (h1 : St (A1 ++ B1) S1) (h2 : St (A2 ++ B2) S2)
    (c1 : ∀ x ∈ A1, ∀ y ∈ B2, Le x y) (c2 : ∀ x ∈ B1, ∀ y ∈ A2, lt x y = true) : St (A1 ++ A2 ++ (B1 ++ B2)) (S1 ++ S2) := by
  have hA' := List.pairwise_append.1 hA
  have hB' := List.pairwise_append.1 hB
  refine ⟨List.pairwise_append.2 ⟨h1.srt, h2.srt, fun x hx y hy => ?_⟩, fun a b => ?_⟩
  · rcases List.mem_append.1 (h1.mem.1 hx) with hx | hx
    · rcases List.mem_append.1 (h2.mem.1 hy) with hy | hy
      · exact hA'.2.2 x hx y hy
      · exact c1 x hx y hy
    · rcases List.mem_append.1 (h2.mem.1 hy) with hy | hy
      · exact lt_le (c2 x hx y hy)
      · exact hB'.2.2 x hx y hy
  · rw [fk_append, h1.same, h2.same]
    have := fk_swap c2 a b
    simp only [fk_append] at this ⊢
    rw [List.append_assoc, ← List.append_assoc (fk a b B1), this]
    simp [List.append_assoc]
/-- one more job behind a row in its order -/
theorem St.ins {X U1 U2 : List Jb} {x : Jb} (h : St X (U1 ++ U2)) (c1 : ∀ u ∈ U1, Le u x) (c2 : ∀ u ∈ U2, lt x u = true) : St (X ++ [x]) (U1 ++ [x] ++ U2) := by
  have hU := List.pairwise_append.1 h.srt
  refine ⟨?_, fun a b => ?_⟩
  · rw [Srt, List.append_assoc, List.pairwise_append]
    refine ⟨hU.1, ?_, fun u hu v hv => ?_⟩
    · rw [List.singleton_append, List.pairwise_cons]
      exact ⟨fun v hv => lt_le (c2 v hv), hU.2.1⟩
    · rcases List.mem_append.1 hv with hv | hv
      · rw [List.mem_singleton.1 hv]; exact c1 u hu
      · exact hU.2.2 u hu v hv
  · have := fk_swap (A := [x]) (B := U2) (fun y hy u hu => by rw [List.mem_singleton.1 hy]; exact c2 u hu) a b
    have e := h.same a b
    simp only [fk_append] at this e ⊢
    rw [List.append_assoc, this, ← List.append_assoc, e]
end Job
end Go.Proofs.YthjlhbbhdliffaaDoor
