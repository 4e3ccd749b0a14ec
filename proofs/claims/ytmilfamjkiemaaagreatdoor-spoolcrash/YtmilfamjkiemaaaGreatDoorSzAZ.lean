/-
  Layer 18: mathematics: what waits behind Queue, Done, Fail. No walk in it. Layer 18: mathematics: what waits, and what has failed, behind Done and Fail. No walk in it. Layer 18: mathematics: a calm disk, its jobs in order; those of one system. No walk in it.
-/
import Derived.Test.YtmilfamjkiemaaaGreatDoorSzAY
namespace Go.Proofs.YtmilfamjkiemaaaGreatDoor
namespace Spl
open Dsk

/-- a job's files and name -/
def fk (k : Int) (h : Hd) : ByteArray := fn k h.s h.j.g h.j.n
theorem held_congr {l l' : List Fl} {k : Int} {s : ByteArray} {g n : Int} (h1 : get l' (fn k s g n) = get l (fn k s g n)) (h2 : get l' (fn 68 s g n) = get l (fn 68 s g n)) : held l' k s g n = held l k s g n := by
  have e : said l' (fn k s g n) = said l (fn k s g n) := by unfold said rd; rw [h1]
  unfold held; rw [e, h2]
theorem said_txt {l : List Fl} {n : ByteArray} {j : Job.Jb} (hj : Job.chk j = 0) (h : get l n = some (ba (Job.txt j))) : said l n = (j, 0) := by
  unfold said rd
  rw [h]
  show Job.parse (ba (Job.txt j)).data.toList = _
  rw [ba_list]
  exact Job.parse_yes ⟨hj, rfl⟩
/-- the files of kind 67 that say jobs -/
theorem mem_jobs {l : List Fl} (hne : ∀ x ∈ l, x.n ≠ ⟨#[]⟩) {k : Int} {sys : ByteArray} {h : Hd} : h ∈ l.filterMap (pick l k sys) ↔ held l k h.s h.j.g h.j.n = some h ∧ (sys = ⟨#[]⟩ ∨ h.s = sys) := by
  rw [List.mem_filterMap]
  constructor
  · rintro ⟨f, _, hp⟩
    obtain ⟨_, h2, h3⟩ := pick_name hp
    exact ⟨h3, h2⟩
  · rintro ⟨h1, h2⟩
    obtain ⟨x, hx⟩ := held_get h1
    obtain ⟨v1, v2, v3⟩ := fn_there hne hx
    obtain ⟨hp, hn, _⟩ := get_some_iff.1 hx
    refine ⟨_, List.getElem_mem hp, ?_⟩
    unfold pick
    rw [hn, fn_pfile v1 v2 v3]
    dsimp only
    rw [ba_back, if_pos ⟨rfl, rfl, h2⟩]
    exact h1
theorem jobs_nodup {l : List Fl} (hs : Srt l) (k : Int) (sys : ByteArray) : (l.filterMap (pick l k sys)).Nodup := by
  rw [List.nodup_iff_pairwise_ne]
  exact (jobs_apart l k sys hs).imp fun h c => h (by rw [c])

/-- jobs that wait, in the order in which they were queued; nothing of the failed ones -/
structure Que (F : List Fl) (ws : List Hd) : Prop where
  srt : Srt F
  ne : ∀ f ∈ F, f.n ≠ ⟨#[]⟩
  wait : ∀ h, h ∈ ws ↔ held F 67 h.s h.j.g h.j.n = some h
  num : ∀ h ∈ ws, h.j.n < next F
  up : ws.Pairwise fun a b => a.j.n < b.j.n
theorem Que.nodup {F : List Fl} {ws : List Hd} (h : Que F ws) : ws.Nodup := by
  rw [List.nodup_iff_pairwise_ne]
  exact h.up.imp fun q c => by subst c; exact Int.lt_irrefl _ q
theorem Que.jobs {F : List Fl} {ws : List Hd} (h : Que F ws) : (F.filterMap (pick F 67 ⟨#[]⟩)).Perm ws :=
  (List.perm_ext_iff_of_nodup (jobs_nodup h.srt _ _) h.nodup).2 fun a => by
    rw [mem_jobs h.ne, h.wait]
    exact ⟨fun q => q.1, fun q => ⟨q, .inl rfl⟩⟩
theorem Que.key {F : List Fl} {ws : List Hd} (h : Que F ws) {a b : Hd} (ha : a ∈ ws) (hb : b ∈ ws) (e : a.j.n = b.j.n) : a = b := by
  obtain ⟨i, hi, rfl⟩ := List.mem_iff_getElem.1 ha
  obtain ⟨j, hj, rfl⟩ := List.mem_iff_getElem.1 hb
  rcases Nat.lt_trichotomy i j with c | c | c
  · have := List.pairwise_iff_getElem.1 h.up i j hi hj c; omega
  · subst c; rfl
  · have := List.pairwise_iff_getElem.1 h.up j i hj hi c; omega
theorem Que.valid {F : List Fl} {ws : List Hd} (h : Que F ws) {a : Hd} (ha : a ∈ ws) : Nam.system a.s.data.toList = true ∧ Nam.may a.j.g a.j.n = true ∧ ∃ x, get F (fk 67 a) = some x := by
  obtain ⟨x, hx⟩ := held_get ((h.wait a).1 ha)
  have := fn_there h.ne hx
  exact ⟨this.2.1, this.2.2, x, hx⟩
theorem Que.nil : Que [] [] := by
  refine ⟨List.Pairwise.nil, (fun f hf => by cases hf), fun h => ⟨(fun c => by cases c), fun c => ?_⟩, (fun h hh => by cases hh), List.Pairwise.nil⟩
  obtain ⟨x, hx⟩ := held_get c
  cases hx

/-- a job's two files and those of another kind or job -/
theorem fk_ne {k k' : Int} {a : Hd} {s : ByteArray} {g n : Int} (hk : Nam.fk k = true) (hs : Nam.system a.s.data.toList = true) (hm : Nam.may a.j.g a.j.n = true) (h : k ≠ k' ∨ a.s ≠ s ∨ a.j.g ≠ g ∨ a.j.n ≠ n) : fk k a ≠ fn k' s g n := fun c => by
  rcases fn_one c with q | q
  · rcases h with h | h | h | h
    · exact h q.1
    · exact h q.2.1
    · exact h q.2.2.1
    · exact h q.2.2.2
  · have := name_ne (fn_isName hk hs hm)
    exact this q
/-- what the files are behind Queue -/
theorem get_opsQ {F : List Fl} (hs : Srt F) (s : ByteArray) (j : Job.Jb) (t x m : ByteArray) :
    get (behind F (opsQ s j t x)) m = if fn 67 s j.g j.n = m then some t else if j.k ≠ 3 ∧ fn 68 s j.g j.n = m then some x else if numF = m then some (ba (Lib.itoa (j.n + 1))) else get F m := by
  unfold opsQ
  by_cases hk : j.k = 3
  · rw [if_pos hk, List.nil_append]
    show get (put (put F ⟨numF, ba (Lib.itoa (j.n + 1))⟩) ⟨fn 67 s j.g j.n, t⟩) m = _
    rw [get_put _ _ (put_srt _ hs), get_put _ _ hs]
    dsimp only
    rw [if_neg (show ¬ (j.k ≠ 3 ∧ fn 68 s j.g j.n = m) from fun c => c.1 hk)]
  · rw [if_neg hk]
    show get (put (put (put F ⟨numF, ba (Lib.itoa (j.n + 1))⟩) ⟨fn 68 s j.g j.n, x⟩) ⟨fn 67 s j.g j.n, t⟩) m = _
    rw [get_put _ _ (put_srt _ (put_srt _ hs)), get_put _ _ (put_srt _ hs), get_put _ _ hs]
    dsimp only
    simp only [ne_eq, hk, not_false_eq_true, true_and]
/-- another job's files are as they were -/
theorem other_opsQ {F : List Fl} (hs : Srt F) {s : ByteArray} {j : Job.Jb} (t x : ByteArray) (hsys : Nam.system s.data.toList = true) (hm : Nam.may j.g j.n = true) {k : Int} {s' : ByteArray} {g n : Int} (h : ¬ (s = s' ∧ j.g = g ∧ j.n = n) ∨ (k ≠ 67 ∧ k ≠ 68)) :
    get (behind F (opsQ s j t x)) (fn k s' g n) = get F (fn k s' g n) := by
  have hc : ∀ k0 : Int, Nam.fk k0 = true → (k0 = 67 ∨ k0 = 68) → fn k0 s j.g j.n ≠ fn k s' g n := fun k0 hk0 hk1 => by
    refine fk_ne (a := ⟨s, j, x⟩) hk0 hsys hm ?_
    rcases h with h | h
    · by_cases e1 : s = s'
      · by_cases e2 : j.g = g
        · exact .inr (.inr (.inr fun e3 => h ⟨e1, e2, e3⟩))
        · exact .inr (.inr (.inl e2))
      · exact .inr (.inl e1)
    · exact .inl (by omega)
  rw [get_opsQ hs, if_neg (hc 67 (by decide) (.inl rfl)), if_neg (fun c => hc 68 (by decide) (.inr rfl) c.2), if_neg (Ne.symm (fn_num _ _ _ _))]
theorem held_new {F : List Fl} (hs : Srt F) {s : ByteArray} {j : Job.Jb} {x : ByteArray} (hsys : Nam.system s.data.toList = true) (hj : Job.chk j = 0) (hx : (x.size : Int) = j.z) (h3 : j.k = 3 → x = ⟨#[]⟩) :
    held (behind F (opsQ s j (ba (Job.txt j)) x)) 67 s j.g j.n = some ⟨s, j, x⟩ := by
  have hm := (Job.chk_ok.1 hj).1
  have e67 : get (behind F (opsQ s j (ba (Job.txt j)) x)) (fn 67 s j.g j.n) = some (ba (Job.txt j)) := by rw [get_opsQ hs, if_pos rfl]
  have e := said_txt hj e67
  unfold held
  rw [e]
  rw [if_pos ⟨rfl, rfl, rfl⟩]
  by_cases hk : j.k = 3
  · rw [if_pos (.inr hk), h3 hk]
  · rw [if_neg (by intro c; rcases c with c | c; (· exact absurd c (by decide)); exact hk c)]
    have e68 : get (behind F (opsQ s j (ba (Job.txt j)) x)) (fn 68 s j.g j.n) = some x := by
      rw [get_opsQ hs, if_neg (show fn 67 s j.g j.n ≠ fn 68 s j.g j.n from fk_ne (k := 67) (k' := 68) (a := ⟨s, j, x⟩) (by decide) hsys hm (.inl (by decide))), if_pos ⟨hk, rfl⟩]
    rw [e68]
    dsimp only
    rw [if_pos hx]
theorem Que.queue {F : List Fl} {ws : List Hd} (h : Que F ws) {s : ByteArray} {j : Job.Jb} {x : ByteArray} (hsys : Nam.system s.data.toList = true) (hj : Job.chk j = 0) (hx : (x.size : Int) = j.z) (h3 : j.k = 3 → x = ⟨#[]⟩) (hn : j.n = next F) :
    Que (behind F (opsQ s j (ba (Job.txt j)) x)) (ws ++ [⟨s, j, x⟩]) := by
  have hm := (Job.chk_ok.1 hj).1
  obtain ⟨_, hm1, hm2⟩ := Nam.may_iff.1 hm
  have hnew := held_new h.srt hsys hj hx h3
  have hw := wrote (l := F) (m := j.n) h.srt hm1 hm2 (rest := (if j.k = 3 then [] else [⟨1, fn 68 s j.g j.n, ⟨#[]⟩, x⟩]) ++ [⟨1, fn 67 s j.g j.n, ⟨#[]⟩, ba (Job.txt j)⟩]) (fun o ho => good_opsQ (B := j.n) (s := s) (ba (Job.txt j)) x (by omega) hm o (List.mem_cons_of_mem _ ho))
  have hw' : j.n < next (behind F (opsQ s j (ba (Job.txt j)) x)) := hw
  refine ⟨behind_srt _ h.srt, behind_ne _ h.ne (names_opsQ _ _ hsys hm), fun a => ?_, fun a ha => ?_, ?_⟩
  · by_cases c : s = a.s ∧ j.g = a.j.g ∧ j.n = a.j.n
    · obtain ⟨c1, c2, c3⟩ := c
      rw [← c1, ← c2, ← c3, hnew, List.mem_append, List.mem_singleton]
      constructor
      · rintro (q | q)
        · have := h.num a q; omega
        · rw [q]
      · intro q; exact .inr (Option.some.inj q).symm
    · rw [held_congr (other_opsQ h.srt _ _ hsys hm (.inl c)) (other_opsQ h.srt _ _ hsys hm (.inl c)), ← h.wait, List.mem_append, List.mem_singleton]
      constructor
      · rintro (q | q)
        · exact q
        · exact absurd (by rw [q]; exact ⟨rfl, rfl, rfl⟩) c
      · exact .inl
  · rcases List.mem_append.1 ha with q | q
    · have := h.num a q; omega
    · rw [List.mem_singleton] at q; subst q; exact hw'
  · rw [List.pairwise_append]
    refine ⟨h.up, List.pairwise_singleton _ _, fun a ha b hb => ?_⟩
    rw [List.mem_singleton] at hb; subst hb
    have := h.num a ha
    show a.j.n < j.n; omega
end Spl
end Go.Proofs.YtmilfamjkiemaaaGreatDoor

namespace Go.Proofs.YtmilfamjkiemaaaGreatDoor
namespace Spl
open Dsk

/-- nothing has failed -/
def NoE (F : List Fl) : Prop := ∀ s g n, get F (fn 69 s g n) = none
theorem NoE.held {F : List Fl} (h : NoE F) (s : ByteArray) (g n : Int) : held F 69 s g n = none := by
  cases e : Spl.held F 69 s g n with
  | none => rfl
  | some y => obtain ⟨x, hx⟩ := held_get e; rw [h] at hx; cases hx
theorem NoE.jobs {F : List Fl} (h : NoE F) (hne : ∀ x ∈ F, x.n ≠ ⟨#[]⟩) (sys : ByteArray) : F.filterMap (pick F 69 sys) = [] := by
  rw [List.eq_nil_iff_forall_not_mem]
  intro a ha
  have := ((mem_jobs hne).1 ha).1
  rw [h.held] at this; cases this
theorem NoE.nil : NoE [] := fun _ _ _ => rfl
theorem NoE.queue {F : List Fl} (h : NoE F) (hs : Srt F) {s : ByteArray} {j : Job.Jb} (t x : ByteArray) (hsys : Nam.system s.data.toList = true) (hm : Nam.may j.g j.n = true) : NoE (behind F (opsQ s j t x)) := fun s' g n => by
  rw [other_opsQ hs t x hsys hm (.inr ⟨by decide, by decide⟩)]; exact h s' g n
/-- the files behind Done -/
theorem get_opsD {F : List Fl} {d : Dk} (hF : files d = F) (hs : Srt F) (s : ByteArray) (g n : Int) (m : ByteArray) :
    get (behind F (opsL d s g n (rm (fn 67 s g n)))) m = if fn 67 s g n = m ∨ fn 68 s g n = m then none else get F m := by
  unfold opsL
  have h1 : after F (rm (fn 67 s g n)) = cut F (fn 67 s g n) := rfl
  cases c : has (files d) (fn 68 s g n)
  · rw [if_neg (by simp)]
    show get (after F (rm (fn 67 s g n))) m = _
    rw [h1, get_cut _ _ hs]
    by_cases e1 : fn 67 s g n = m
    · rw [if_pos e1, if_pos (.inl e1)]
    · rw [if_neg e1]
      by_cases e2 : fn 68 s g n = m
      · rw [if_pos (.inr e2), ← e2]
        rw [hF] at c
        unfold has at c
        cases e : get F (fn 68 s g n) with
        | none => rfl
        | some x => rw [e] at c; cases c
      · rw [if_neg (by rintro (q | q); (· exact e1 q); exact e2 q)]
  · rw [if_pos rfl]
    show get (after (after F (rm (fn 67 s g n))) (rm (fn 68 s g n))) m = _
    rw [h1]
    show get (cut (cut F (fn 67 s g n)) (fn 68 s g n)) m = _
    rw [get_cut _ _ (cut_srt _ hs), get_cut _ _ hs]
    by_cases e1 : fn 67 s g n = m
    · rw [if_pos e1, if_pos (Or.inl e1)]; split <;> rfl
    · by_cases e2 : fn 68 s g n = m
      · rw [if_pos e2, if_pos (Or.inr e2)]
      · rw [if_neg e2, if_neg e1, if_neg (by rintro (q | q); (· exact e1 q); exact e2 q)]
/-- the files behind Fail -/
theorem get_opsF {F : List Fl} {d : Dk} (hF : files d = F) (hs : Srt F) {s : ByteArray} {g n : Int} {x : ByteArray} (hx : get F (fn 67 s g n) = some x) (h79 : fn 67 s g n ≠ fn 69 s g n) (h89 : fn 68 s g n ≠ fn 69 s g n) (m : ByteArray) :
    get (behind F (opsL d s g n (mv (fn 67 s g n) (fn 69 s g n)))) m = if fn 69 s g n = m then some x else if fn 67 s g n = m ∨ fn 68 s g n = m then none else get F m := by
  unfold opsL
  have h1 : after F (mv (fn 67 s g n) (fn 69 s g n)) = put (cut F (fn 67 s g n)) ⟨fn 69 s g n, x⟩ := by
    unfold after mv
    rw [if_neg (show ¬ (3 : Int) = 1 by decide), if_neg (show ¬ (3 : Int) = 2 by decide), if_pos rfl, hx]
    dsimp only
    rw [if_neg h79]
  have hs' := cut_srt (fn 67 s g n) hs
  cases c : has (files d) (fn 68 s g n)
  · rw [if_neg (by simp)]
    show get (after F (mv (fn 67 s g n) (fn 69 s g n))) m = _
    rw [h1, get_put _ _ hs', get_cut _ _ hs]
    dsimp only
    by_cases e0 : fn 69 s g n = m
    · rw [if_pos e0, if_pos e0]
    rw [if_neg e0, if_neg e0]
    by_cases e1 : fn 67 s g n = m
    · rw [if_pos e1, if_pos (.inl e1)]
    · rw [if_neg e1]
      by_cases e2 : fn 68 s g n = m
      · rw [if_pos (.inr e2), ← e2]
        rw [hF] at c
        unfold has at c
        cases e : get F (fn 68 s g n) with
        | none => rfl
        | some x => rw [e] at c; cases c
      · rw [if_neg (by rintro (q | q); (· exact e1 q); exact e2 q)]
  · rw [if_pos rfl]
    show get (after (after F (mv (fn 67 s g n) (fn 69 s g n))) (rm (fn 68 s g n))) m = _
    rw [h1]
    show get (cut (put (cut F (fn 67 s g n)) ⟨fn 69 s g n, x⟩) (fn 68 s g n)) m = _
    rw [get_cut _ _ (put_srt _ hs'), get_put _ _ hs', get_cut _ _ hs]
    dsimp only
    by_cases e0 : fn 69 s g n = m
    · rw [if_pos e0, if_neg (fun q => h89 (by rw [q, e0])), if_pos e0]
    · rw [if_neg e0, if_neg e0]
      by_cases e1 : fn 67 s g n = m
      · rw [if_pos e1, if_pos (Or.inl e1)]; split <;> rfl
      · by_cases e2 : fn 68 s g n = m
        · rw [if_pos e2, if_pos (.inr e2)]
        · rw [if_neg e2, if_neg e1, if_neg (by rintro (q | q); (· exact e1 q); exact e2 q)]
theorem key_iff {a b : Hd} : key a = key b ↔ a.j.g = b.j.g ∧ a.j.n = b.j.n ∧ a.s = b.s := by
  unfold key
  constructor
  · intro h
    injection h with h1 h2
    injection h2 with h2 h3
    exact ⟨h1, h2, h3⟩
  · rintro ⟨h1, h2, h3⟩; rw [h1, h2, h3]
/-- another job's file is not of those names -/
theorem fk_apart {k k' : Int} {a h : Hd} (hk : Nam.fk k = true) (hs : Nam.system a.s.data.toList = true) (hm : Nam.may a.j.g a.j.n = true) (e : k ≠ k' ∨ key a ≠ key h) : fn k a.s a.j.g a.j.n ≠ fn k' h.s h.j.g h.j.n := by
  refine fk_ne hk hs hm ?_
  rcases e with e | e
  · exact .inl e
  · by_cases e1 : a.s = h.s
    · by_cases e2 : a.j.g = h.j.g
      · exact .inr (.inr (.inr fun e3 => e (key_iff.2 ⟨e2, e3, e1⟩)))
      · exact .inr (.inr (.inl e2))
    · exact .inr (.inl e1)
/-- without a job: what waits is the others -/
theorem Que.less {F F' : List Fl} {ws : List Hd} (h : Que F ws) {a : Hd} (ha : a ∈ ws) (hs : Srt F') (hne : ∀ f ∈ F', f.n ≠ ⟨#[]⟩) (h67 : get F' (fk 67 a) = none)
    (ho : ∀ b : Hd, Spl.key a ≠ Spl.key b → get F' (fk 67 b) = get F (fk 67 b) ∧ get F' (fk 68 b) = get F (fk 68 b)) (hn : get F' numF = get F numF) : Que F' (ws.erase a) := by
  refine ⟨hs, hne, fun b => ?_, fun b hb => ?_, h.up.sublist (List.erase_sublist ..)⟩
  · rw [h.nodup.mem_erase_iff]
    by_cases c : Spl.key a = Spl.key b
    · have c' := key_iff.1 c
      constructor
      · rintro ⟨q1, q2⟩
        exact absurd (h.key q2 ha c'.2.1.symm) q1
      · intro q
        obtain ⟨x, hx⟩ := held_get q
        unfold fk at h67
        rw [c'.1, c'.2.1, c'.2.2] at h67
        rw [h67] at hx; cases hx
    · obtain ⟨q1, q2⟩ := ho b c
      rw [held_congr (k := 67) (s := b.s) (g := b.j.g) (n := b.j.n) q1 q2, ← h.wait]
      constructor
      · exact fun q => q.2
      · exact fun q => ⟨fun e => c (by rw [e]), q⟩
  · rw [next_get hn]
    exact h.num b (List.mem_of_mem_erase hb)
theorem Que.done {F : List Fl} {ws : List Hd} {d : Dk} (h : Que F ws) {a : Hd} (ha : a ∈ ws) (hF : files d = F) : Que (behind F (opsL d a.s a.j.g a.j.n (rm (fk 67 a)))) (ws.erase a) := by
  obtain ⟨v1, v2, x, hx⟩ := h.valid ha
  have hg := get_opsD hF h.srt a.s a.j.g a.j.n
  have hnm : Names (opsL d a.s a.j.g a.j.n (rm (fk 67 a))) := by
    intro u hu
    unfold opsL at hu
    rcases List.mem_cons.1 hu with rfl | hu
    · exact ⟨name_ne (fn_isName (k := 67) (by decide) v1 v2), by simp [rm]⟩
    · split at hu
      · rw [List.mem_singleton] at hu; subst hu; exact ⟨name_ne (fn_isName (k := 68) (by decide) v1 v2), by simp [rm]⟩
      · cases hu
  refine h.less ha (behind_srt _ h.srt) (behind_ne _ h.ne hnm) ?_ (fun b hb => ⟨?_, ?_⟩) ?_
  · unfold fk at *; rw [hg, if_pos (.inl rfl)]
  · unfold fk at *; rw [hg, if_neg (by rintro (q | q); (· exact fk_apart (by decide) v1 v2 (.inr hb) q); exact fk_apart (by decide) v1 v2 (.inl (by decide)) q)]
  · unfold fk at *; rw [hg, if_neg (by rintro (q | q); (· exact fk_apart (by decide) v1 v2 (.inl (by decide)) q); exact fk_apart (by decide) v1 v2 (.inr hb) q)]
  · unfold fk at *; rw [hg, if_neg (by rintro (q | q) <;> exact fn_num _ _ _ _ q)]
theorem NoE.done {F : List Fl} {ws : List Hd} {d : Dk} (hE : NoE F) (h : Que F ws) {a : Hd} (hF : files d = F) : NoE (behind F (opsL d a.s a.j.g a.j.n (rm (fk 67 a)))) := fun s g n => by
  have hg := get_opsD hF h.srt a.s a.j.g a.j.n
  unfold fk; rw [hg]
  split
  · rfl
  · exact hE s g n
theorem Que.failing {F : List Fl} {ws : List Hd} {d : Dk} (h : Que F ws) {a : Hd} (ha : a ∈ ws) (hF : files d = F) : Que (behind F (opsL d a.s a.j.g a.j.n (mv (fk 67 a) (fk 69 a)))) (ws.erase a) := by
  obtain ⟨v1, v2, x, hx⟩ := h.valid ha
  have h79 : fn 67 a.s a.j.g a.j.n ≠ fn 69 a.s a.j.g a.j.n := fk_apart (a := a) (by decide) v1 v2 (.inl (by decide))
  have h89 : fn 68 a.s a.j.g a.j.n ≠ fn 69 a.s a.j.g a.j.n := fk_apart (a := a) (by decide) v1 v2 (.inl (by decide))
  have hg := get_opsF hF h.srt hx h79 h89
  have hnm : Names (opsL d a.s a.j.g a.j.n (mv (fk 67 a) (fk 69 a))) := by
    intro u hu
    unfold opsL at hu
    rcases List.mem_cons.1 hu with rfl | hu
    · exact ⟨name_ne (fn_isName (k := 67) (by decide) v1 v2), fun _ => name_ne (fn_isName (k := 69) (by decide) v1 v2)⟩
    · split at hu
      · rw [List.mem_singleton] at hu; subst hu; exact ⟨name_ne (fn_isName (k := 68) (by decide) v1 v2), by simp [rm]⟩
      · cases hu
  refine h.less ha (behind_srt _ h.srt) (behind_ne _ h.ne hnm) ?_ (fun b hb => ⟨?_, ?_⟩) ?_
  · unfold fk at *; rw [hg, if_neg h79.symm, if_pos (.inl rfl)]
  · unfold fk at *; rw [hg, if_neg (fk_apart (k := 69) (by decide) v1 v2 (.inl (by decide))), if_neg (by rintro (q | q); (· exact fk_apart (by decide) v1 v2 (.inr hb) q); exact fk_apart (by decide) v1 v2 (.inl (by decide)) q)]
  · unfold fk at *; rw [hg, if_neg (fk_apart (k := 69) (by decide) v1 v2 (.inl (by decide))), if_neg (by rintro (q | q); (· exact fk_apart (by decide) v1 v2 (.inl (by decide)) q); exact fk_apart (by decide) v1 v2 (.inr hb) q)]
  · unfold fk at *; rw [hg, if_neg (fn_num _ _ _ _), if_neg (by rintro (q | q) <;> exact fn_num _ _ _ _ q)]
/-- one has failed -/
theorem one_failed {F : List Fl} {ws : List Hd} {d : Dk} (hE : NoE F) (h : Que F ws) {a : Hd} (ha : a ∈ ws) (hF : files d = F) :
    ((behind F (opsL d a.s a.j.g a.j.n (mv (fk 67 a) (fk 69 a)))).filterMap (pick (behind F (opsL d a.s a.j.g a.j.n (mv (fk 67 a) (fk 69 a)))) 69 ⟨#[]⟩)).length = 1 := by
  have hq := h.failing ha hF
  obtain ⟨v1, v2, x, hx⟩ := h.valid ha
  have h79 : fn 67 a.s a.j.g a.j.n ≠ fn 69 a.s a.j.g a.j.n := fk_apart (a := a) (by decide) v1 v2 (.inl (by decide))
  have h89 : fn 68 a.s a.j.g a.j.n ≠ fn 69 a.s a.j.g a.j.n := fk_apart (a := a) (by decide) v1 v2 (.inl (by decide))
  have hg := get_opsF hF h.srt hx h79 h89
  generalize hF' : behind F (opsL d a.s a.j.g a.j.n (mv (fk 67 a) (fk 69 a))) = F' at *
  unfold fk at hF'
  rw [hF'] at hg
  have hw := (h.wait a).1 ha
  have e69 : get F' (fn 69 a.s a.j.g a.j.n) = some x := by rw [hg, if_pos rfl]
  have hsd : said F' (fn 69 a.s a.j.g a.j.n) = said F (fn 67 a.s a.j.g a.j.n) := by
    have hx' : get F (fn 67 a.s a.j.g a.j.n) = some x := hx
    unfold said rd; rw [e69, hx']
  have hh : held F' 69 a.s a.j.g a.j.n = some ⟨a.s, a.j, ⟨#[]⟩⟩ := by
    unfold held at hw ⊢
    rw [hsd]
    split at hw
    · next q =>
      rw [if_pos q, if_pos (.inl rfl)]
      split at hw
      · injection hw with hw; rw [show (said F (fn 67 a.s a.j.g a.j.n)).1 = a.j from congrArg Hd.j hw]
      · split at hw
        · cases hw
        · split at hw
          · injection hw with hw; rw [show (said F (fn 67 a.s a.j.g a.j.n)).1 = a.j from congrArg Hd.j hw]
          · cases hw
    · cases hw
  have hp : (F'.filterMap (pick F' 69 ⟨#[]⟩)).Perm [⟨a.s, a.j, ⟨#[]⟩⟩] := by
    refine (List.perm_ext_iff_of_nodup (jobs_nodup hq.srt _ _) (by simp)).2 fun b => ?_
    rw [mem_jobs hq.ne, List.mem_singleton]
    constructor
    · rintro ⟨q, _⟩
      obtain ⟨y, hy⟩ := held_get q
      by_cases c : key a = key b
      · have c' := key_iff.1 c
        rw [← c'.1, ← c'.2.1, ← c'.2.2, hh] at q
        exact (Option.some.inj q).symm
      · rw [hg, if_neg (fk_apart (k := 69) (by decide) v1 v2 (.inr c))] at hy
        split at hy
        · cases hy
        · rw [hE] at hy; cases hy
    · intro q; subst q; exact ⟨hh, .inl rfl⟩
  rw [hp.length_eq]; rfl
end Spl
end Go.Proofs.YtmilfamjkiemaaaGreatDoor

namespace Go.Proofs.YtmilfamjkiemaaaGreatDoor
namespace Spl
open Dsk

/-- a disk on which nothing is under way, its jobs as they were queued, none of them failed -/
structure Calm (d : Dk) (ws : List Hd) : Prop where
  up : d.down = false
  ops : d.ops = []
  fuse : d.fuse = -1
  que : Que d.safe ws
  noe : NoE d.safe
theorem Calm.files {d : Dk} {ws : List Hd} (h : Calm d ws) : files d = d.safe := by
  unfold Dsk.files; rw [if_neg (by rw [h.up]; simp), h.ops]; rfl
theorem Calm.new (n : Int) : Calm (Dsk.new n) [] := ⟨rfl, rfl, rfl, Que.nil, NoE.nil⟩
theorem Calm.queue {d : Dk} {ws : List Hd} (h : Calm d ws) (s : ByteArray) (j : Job.Jb) (x : ByteArray) :
    ((queue d s j x).2.2 ≠ 0 ∧ queue d s j x = (d, (0, 0), (queue d s j x).2.2)) ∨
    (∃ d', queue d s j x = (d', ((numbered d j x).g, (numbered d j x).n), 0) ∧ Calm d' (ws ++ [⟨s, numbered d j x, x⟩]) ∧ May d s (numbered d j x) x ∧ d'.cap = d.cap) := by
  rcases queue_cases d s j x (by rw [h.fuse]; omega) (by rw [h.fuse]; omega) with ⟨e, he, q⟩ | ⟨hM, r, hr, q⟩ | ⟨hM, r, hr, q⟩
  · rw [q]; exact .inl ⟨he, rfl⟩
  · have := hr.fuse; rw [h.fuse] at this; omega
  · obtain ⟨f, _, _, hf, rfl⟩ := hr
    refine .inr ⟨_, q, ?_, hM, rfl⟩
    have hmay := (Job.chk_ok.1 hM.chk).1
    rw [h.ops, List.nil_append]
    refine ⟨rfl, rfl, hf h.fuse, ?_, ?_⟩
    · exact h.que.queue hM.sys hM.chk rfl hM.fet (by show next (Dsk.files d) = _; rw [h.files])
    · exact h.noe.queue h.que.srt _ _ hM.sys hmay
theorem Calm.jobs {d : Dk} {ws : List Hd} (h : Calm d ws) {L : List Hd} (hr : Row (jobs d 67 ⟨#[]⟩) L) : L.Perm ws := by
  refine hr.perm.trans ?_
  unfold Spl.jobs; rw [h.files]; exact h.que.jobs
theorem Calm.load {d : Dk} {ws : List Hd} (h : Calm d ws) {a : Hd} (ha : a ∈ ws) : Spl.load d a.s a.j.g a.j.n = (a, 0) := by
  unfold Spl.load
  rw [if_neg (by rw [h.up]; simp), h.files, (h.que.wait a).1 ha]
theorem Calm.noload {d : Dk} {ws : List Hd} (h : Calm d ws) {s : ByteArray} {g n : Int} (hn : ∀ a ∈ ws, a.j.n ≠ n) : Spl.load d s g n = (Hd.zero, 6) := by
  unfold Spl.load
  rw [if_neg (by rw [h.up]; simp), h.files]
  cases e : held d.safe 67 s g n with
  | none => rfl
  | some y =>
    obtain ⟨h1, h2, h3⟩ := held_eq e
    have : y ∈ ws := (h.que.wait y).2 (by rw [h1, h2, h3]; exact e)
    exact absurd h3 (hn y this)
theorem Calm.failed {d : Dk} {ws : List Hd} (h : Calm d ws) : Spl.jobs d 69 ⟨#[]⟩ = [] := by
  unfold Spl.jobs; rw [h.files]; exact h.noe.jobs h.que.ne _
theorem Calm.cl {d : Dk} {ws : List Hd} (h : Calm d ws) : Cl d := ⟨h.que.srt, h.que.ne, fun o ho => by rw [h.ops] at ho; cases ho⟩
/-- Done and Fail of a job that waits -/
theorem Calm.left {d : Dk} {ws : List Hd} (h : Calm d ws) {a : Hd} (ha : a ∈ ws) {o : Dop} {r : Dk × Int} (hr : Left d a.s a.j.g a.j.n o r) : r = (⟨behind d.safe (opsL d a.s a.j.g a.j.n o), [], d.cap, -1, false⟩, 0) := by
  rcases hr with ⟨e, he, h1, q⟩ | ⟨_, q | q⟩
  · rw [h.load ha] at h1; exact absurd h1.symm he
  · have := q.fuse; rw [h.fuse] at this; omega
  · obtain ⟨f, _, _, hf, rfl⟩ := q
    rw [h.ops, List.nil_append, hf h.fuse]
theorem Calm.done {d : Dk} {ws : List Hd} (h : Calm d ws) {a : Hd} (ha : a ∈ ws) : (Spl.done d a.s a.j.g a.j.n).2 = 0 ∧ Calm (Spl.done d a.s a.j.g a.j.n).1 (ws.erase a) := by
  have := h.left ha (done_cases d a.s a.j.g a.j.n h.cl (by rw [h.fuse]; omega) (by rw [h.fuse]; omega))
  rw [this]
  exact ⟨rfl, rfl, rfl, rfl, h.que.done ha h.files, h.noe.done h.que h.files⟩
/-- behind Fail -/
structure CalmF (d : Dk) (ws : List Hd) : Prop where
  up : d.down = false
  ops : d.ops = []
  que : Que d.safe ws
  one : (Spl.jobs d 69 ⟨#[]⟩).length = 1
theorem Calm.fail {d : Dk} {ws : List Hd} (h : Calm d ws) {a : Hd} (ha : a ∈ ws) : (Spl.fail d a.s a.j.g a.j.n).2 = 0 ∧ CalmF (Spl.fail d a.s a.j.g a.j.n).1 (ws.erase a) := by
  have := h.left ha (fail_cases d a.s a.j.g a.j.n h.cl (by rw [h.fuse]; omega) (by rw [h.fuse]; omega))
  rw [this]
  refine ⟨rfl, rfl, rfl, h.que.failing ha h.files, ?_⟩
  exact one_failed h.noe h.que ha h.files
/-- a disk that is up and has nothing under way: what its calls say of what waits -/
structure Still (d : Dk) (ws : List Hd) : Prop where
  up : d.down = false
  ops : d.ops = []
  que : Que d.safe ws
theorem Calm.still {d : Dk} {ws : List Hd} (h : Calm d ws) : Still d ws := ⟨h.up, h.ops, h.que⟩
theorem CalmF.still {d : Dk} {ws : List Hd} (h : CalmF d ws) : Still d ws := ⟨h.up, h.ops, h.que⟩
theorem Still.files {d : Dk} {ws : List Hd} (h : Still d ws) : Dsk.files d = d.safe := by
  unfold Dsk.files; rw [if_neg (by rw [h.up]; simp), h.ops]; rfl
theorem Still.jobs {d : Dk} {ws : List Hd} (h : Still d ws) {L : List Hd} (hr : Row (jobs d 67 ⟨#[]⟩) L) : L.Perm ws := by
  refine hr.perm.trans ?_
  unfold Spl.jobs; rw [h.files]; exact h.que.jobs
theorem Still.load {d : Dk} {ws : List Hd} (h : Still d ws) {a : Hd} (ha : a ∈ ws) : Spl.load d a.s a.j.g a.j.n = (a, 0) := by
  unfold Spl.load
  rw [if_neg (by rw [h.up]; simp), h.files, (h.que.wait a).1 ha]
theorem Still.noload {d : Dk} {ws : List Hd} (h : Still d ws) {s : ByteArray} {g n : Int} (hn : ∀ a ∈ ws, a.j.n ≠ n) : Spl.load d s g n = (Hd.zero, 6) := by
  unfold Spl.load
  rw [if_neg (by rw [h.up]; simp), h.files]
  cases e : held d.safe 67 s g n with
  | none => rfl
  | some y =>
    obtain ⟨h1, h2, h3⟩ := held_eq e
    have : y ∈ ws := (h.que.wait y).2 (by rw [h1, h2, h3]; exact e)
    exact absurd h3 (hn y this)
/-- the k-th is let go -/
theorem erase_at : ∀ {ws : List Hd} (_ : ws.Nodup) {k : Nat} (hk : k < ws.length), ws.erase ws[k] = ws.eraseIdx k
  | [], _, k, hk => by simp at hk
  | a :: l, _, 0, _ => by simp
  | a :: l, hn, k + 1, hk => by
    rw [List.nodup_cons] at hn
    have hk' : k < l.length := by simpa using hk
    have hne : ¬ (a == l[k]) = true := by
      rw [beq_iff_eq]
      intro c
      exact hn.1 (by rw [c]; exact List.getElem_mem hk')
    show (a :: l).erase l[k] = a :: l.eraseIdx k
    rw [List.erase_cons_tail hne, erase_at hn.2 hk']
theorem Que.erase {F : List Fl} {ws : List Hd} (h : Que F ws) {k : Nat} (hk : k < ws.length) : ws.erase ws[k] = ws.eraseIdx k := erase_at h.nodup hk
end Spl
end Go.Proofs.YtmilfamjkiemaaaGreatDoor
