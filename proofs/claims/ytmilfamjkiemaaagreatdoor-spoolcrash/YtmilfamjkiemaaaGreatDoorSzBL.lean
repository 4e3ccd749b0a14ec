/-
  Layer 18: mathematics: a call that the power cuts off: what waits is as it was, or as behind the whole call. No walk in it. Layer 18: mathematics: what waits behind a call in which the power went. No walk in it. Layer 18: mathematics: what Jobs and Load say behind the crash; one of them done or failed ahead of it. No walk in it.
-/
import Derived.Test.YtmilfamjkiemaaaGreatDoorSzBK
namespace Go.Proofs.YtmilfamjkiemaaaGreatDoor
namespace Spl
open Dsk

theorem get_part {F : List Fl} {s : ByteArray} {g n : Int} {m : ByteArray} (h1 : numF ≠ m) (h2 : fn 68 s g n ≠ m) : ∀ {l : List Fl} (ops : List Dop), Srt l → (∀ o ∈ ops, o.k = 1 ∧ (o.n = numF ∨ o.n = fn 68 s g n)) → get l m = get F m → get (behind l ops) m = get F m
  | _, [], _, _, e => e
  | l, o :: ops, hs, ho, e => by
    obtain ⟨q1, q2⟩ := ho o (List.mem_cons_self ..)
    have ha : after l o = put l ⟨o.n, o.d⟩ := by unfold after; rw [if_pos q1]
    show get (behind (after l o) ops) m = _
    refine get_part h1 h2 ops (after_srt _ hs) (fun u hu => ho u (List.mem_cons_of_mem _ hu)) ?_
    rw [ha, get_put _ _ hs]
    dsimp only
    rw [if_neg (by rcases q2 with q | q <;> rw [q]; (· exact h1); exact h2)]
    exact e
theorem opsQ_len (s : ByteArray) (j : Job.Jb) (t x : ByteArray) : (opsQ s j t x).take ((opsQ s j t x).length - 1) = ⟨1, numF, ⟨#[]⟩, ba (Lib.itoa (j.n + 1))⟩ :: (if j.k = 3 then [] else [⟨1, fn 68 s j.g j.n, ⟨#[]⟩, x⟩]) := by
  unfold opsQ
  split <;> rfl
theorem opsQ_mem {s : ByteArray} {j : Job.Jb} {t x : ByteArray} {i : Nat} (hi : i < (opsQ s j t x).length) : ∀ o ∈ (opsQ s j t x).take i, o.k = 1 ∧ (o.n = numF ∨ o.n = fn 68 s j.g j.n) := by
  intro o ho
  have h1 : o ∈ (opsQ s j t x).take ((opsQ s j t x).length - 1) := (List.take_subset_take_left _ (by omega)) ho
  rw [opsQ_len] at h1
  rcases List.mem_cons.1 h1 with rfl | h1
  · exact ⟨rfl, .inl rfl⟩
  · split at h1
    · cases h1
    · rw [List.mem_singleton] at h1; subst h1; exact ⟨rfl, .inr rfl⟩
/-- Queue, cut off ahead of its last file -/
theorem Que.part {F : List Fl} {ws : List Hd} (h : Que F ws) {s : ByteArray} {j : Job.Jb} {t x : ByteArray} (hsys : Nam.system s.data.toList = true) (hm : Nam.may j.g j.n = true) (hn : j.n = next F) (hC : get F (fn 67 s j.g j.n) = none) {i : Nat} (hi : i < (opsQ s j t x).length) :
    Que (behind F ((opsQ s j t x).take i)) ws := by
  have hmem := opsQ_mem hi
  have hnm : Names ((opsQ s j t x).take i) := fun o ho => names_opsQ t x hsys hm o (List.mem_of_mem_take ho)
  have hg : ∀ m, numF ≠ m → fn 68 s j.g j.n ≠ m → get (behind F ((opsQ s j t x).take i)) m = get F m := fun m h1 h2 => get_part h1 h2 _ h.srt hmem rfl
  have h86 : fn 68 s j.g j.n ≠ fn 67 s j.g j.n := fk_ne (k := 68) (k' := 67) (a := ⟨s, j, x⟩) (by decide) hsys hm (.inl (by decide))
  refine ⟨behind_srt _ h.srt, behind_ne _ h.ne hnm, fun a => ?_, fun a ha => ?_, h.up⟩
  · by_cases c : s = a.s ∧ j.g = a.j.g ∧ j.n = a.j.n
    · obtain ⟨c1, c2, c3⟩ := c
      constructor
      · intro q
        have := h.num a q
        omega
      · intro q
        obtain ⟨y, hy⟩ := held_get q
        rw [← c1, ← c2, ← c3, hg _ (Ne.symm (fn_num _ _ _ _)) h86, hC] at hy
        cases hy
    · have c' : (68 : Int) ≠ 68 ∨ s ≠ a.s ∨ j.g ≠ a.j.g ∨ j.n ≠ a.j.n := by
        by_cases e1 : s = a.s
        · by_cases e2 : j.g = a.j.g
          · exact .inr (.inr (.inr fun e3 => c ⟨e1, e2, e3⟩))
          · exact .inr (.inr (.inl e2))
        · exact .inr (.inl e1)
      have g1 : fn 68 s j.g j.n ≠ fn 67 a.s a.j.g a.j.n := fk_ne (k := 68) (k' := 67) (a := ⟨s, j, x⟩) (by decide) hsys hm (.inl (by decide))
      have g2 : fn 68 s j.g j.n ≠ fn 68 a.s a.j.g a.j.n := fk_ne (k := 68) (k' := 68) (a := ⟨s, j, x⟩) (by decide) hsys hm c'
      rw [held_congr (hg _ (Ne.symm (fn_num _ _ _ _)) g1) (hg _ (Ne.symm (fn_num _ _ _ _)) g2)]
      exact h.wait a
  · have hb := h.num a ha
    have h0 : NumL a.j.n F [] := fun k hk => by
      have : k = 0 := by simpa using hk
      subst this
      exact hb
    have h1 := NumL.many h.srt (opsQ s j t x) h0 (good_opsQ (B := a.j.n) t x (by omega) hm)
    rw [List.nil_append] at h1
    exact h1 i (Nat.le_of_lt hi)
/-- Done and Fail, cut off -/
theorem Que.part1 {F : List Fl} {ws : List Hd} (h : Que F ws) {a : Hd} (ha : a ∈ ws) {o : Dop} (ho : o = rm (fk 67 a) ∨ o = mv (fk 67 a) (fk 69 a)) : Que (after F o) (ws.erase a) := by
  obtain ⟨v1, v2, x, hx⟩ := h.valid ha
  have h79 : fk 67 a ≠ fk 69 a := fk_apart (a := a) (by decide) v1 v2 (.inl (by decide))
  have hne : ∀ f ∈ after F o, f.n ≠ ⟨#[]⟩ := by
    refine after_ne h.ne ?_
    rcases ho with rfl | rfl
    · exact ⟨name_ne (fn_isName (k := 67) (by decide) v1 v2), by simp [rm]⟩
    · exact ⟨name_ne (fn_isName (k := 67) (by decide) v1 v2), fun _ => name_ne (fn_isName (k := 69) (by decide) v1 v2)⟩
  have hg : ∀ m, fk 69 a ≠ m → get (after F o) m = if fk 67 a = m then none else get F m := by
    intro m hm
    rcases ho with rfl | rfl
    · show get (cut F (fk 67 a)) m = _
      rw [get_cut _ _ h.srt]
    · have h1 : after F (mv (fk 67 a) (fk 69 a)) = put (cut F (fk 67 a)) ⟨fk 69 a, x⟩ := by
        unfold after mv
        rw [if_neg (show ¬ (3 : Int) = 1 by decide), if_neg (show ¬ (3 : Int) = 2 by decide), if_pos rfl, hx]
        dsimp only
        rw [if_neg h79]
      rw [h1, get_put _ _ (cut_srt _ h.srt), get_cut _ _ h.srt]
      dsimp only
      rw [if_neg hm]
  have g67 : ∀ b : Hd, fk 69 a ≠ fk 67 b := fun b => fk_apart (k := 69) (k' := 67) (a := a) (h := b) (by decide) v1 v2 (.inl (by decide))
  have g68 : ∀ b : Hd, fk 69 a ≠ fk 68 b := fun b => fk_apart (k := 69) (k' := 68) (a := a) (h := b) (by decide) v1 v2 (.inl (by decide))
  have gn : ∀ k, fk k a ≠ numF := fun k => fn_num _ _ _ _
  refine h.less ha (after_srt _ h.srt) hne ?_ (fun b hb => ⟨?_, ?_⟩) ?_
  · rw [hg _ h79.symm, if_pos rfl]
  · have c1 : fk 67 a ≠ fk 67 b := fk_apart (k := 67) (k' := 67) (a := a) (h := b) (by decide) v1 v2 (.inr hb)
    rw [hg _ (g67 b), if_neg c1]
  · have c1 : fk 67 a ≠ fk 68 b := fk_apart (k := 67) (k' := 68) (a := a) (h := b) (by decide) v1 v2 (.inl (by decide))
    rw [hg _ (g68 b), if_neg c1]
  · rw [hg _ (gn 69), if_neg (gn 67)]
theorem Que.cutoff {F : List Fl} {ws : List Hd} {d : Dk} (h : Que F ws) {a : Hd} (ha : a ∈ ws) (hF : files d = F) {o : Dop} (ho : o = rm (fk 67 a) ∨ o = mv (fk 67 a) (fk 69 a)) (i : Nat) :
    Que (behind F ((opsL d a.s a.j.g a.j.n o).take i)) ws ∨ Que (behind F ((opsL d a.s a.j.g a.j.n o).take i)) (ws.erase a) := by
  rcases Nat.lt_or_ge i 2 with hi | hi
  · match i, hi with
    | 0, _ => exact .inl h
    | 1, _ => exact .inr (h.part1 ha ho)
  · rw [List.take_of_length_le (Nat.le_trans (by unfold opsL; split <;> simp) hi)]
    rcases ho with rfl | rfl
    · exact .inr (h.done ha hF)
    · exact .inr (h.failing ha hF)
end Spl
end Go.Proofs.YtmilfamjkiemaaaGreatDoor

namespace Go.Proofs.YtmilfamjkiemaaaGreatDoor
namespace Spl
open Dsk

/-- but for its id, the job is that one -/
def Like (y o : Hd) : Prop := y = ⟨o.s, ⟨y.j.g, y.j.n, o.j.k, o.j.u, o.j.f, o.j.t, o.j.c, o.j.z⟩, o.x⟩
theorem Like.self (y : Hd) : Like y y := rfl
/-- behind the crash: those that wait are ws0, and one more if it is like own -/
structure Fin (m : Nat) (F : Dk) (ws0 : List Hd) (own : Hd) (mine : Bool) : Prop where
  fit : Fit m F
  st : (mine = false ∧ Still F ws0) ∨ ∃ L y, Still F L ∧ L.Perm (ws0 ++ [y]) ∧ Like y own
theorem crash_down {safe : List Fl} {l : List Dop} {i : Nat} {cap f : Int} (keep : Int) : ∃ k, Dsk.start (Dsk.crash ⟨safe, [] ++ l.take i, cap, f, true⟩ keep) = ⟨behind safe (l.take k), [], cap, -1, false⟩ := by
  refine ⟨min (Dsk.keep keep ([] ++ l.take i).length) i, ?_⟩
  show (⟨behind safe (([] ++ l.take i).take _), [], cap, -1, false⟩ : Dk) = _
  rw [List.nil_append, List.take_take]
theorem crash_safe {safe : List Fl} {cap f : Int} (b : Bool) (keep : Int) : Dsk.start (Dsk.crash ⟨safe, [], cap, f, b⟩ keep) = ⟨safe, [], cap, -1, false⟩ := by
  show (⟨behind safe ([].take _), [], cap, -1, false⟩ : Dk) = _
  rw [List.take_nil]
  rfl
theorem FullI.crashQ {m : Nat} {d : Dk} {ws : List Hd} (h : FullI m d ws) (hm : m ≤ 1000000) {f : Int} (f0 : 0 ≤ f) (f1 : f ≤ 7) (s : ByteArray) (j : Job.Jb) (x : ByteArray) (keep : Int) :
    ((Spl.queue (Dsk.arm d f) s j x).2.2 ≠ 0 ∧ (Spl.queue (Dsk.arm d f) s j x).1.down = false) ∨
    (((Spl.queue (Dsk.arm d f) s j x).2.2 = 0 ∨ (Spl.queue (Dsk.arm d f) s j x).1.down = true) ∧
      Fin (m + 6300) (Dsk.start (Dsk.crash (Spl.queue (Dsk.arm d f) s j x).1 keep)) ws ⟨s, ⟨(Spl.queue (Dsk.arm d f) s j x).2.1.1, (Spl.queue (Dsk.arm d f) s j x).2.1.2, j.k, j.u, j.f, j.t, j.c, (x.size : Int)⟩, x⟩ (decide ((Spl.queue (Dsk.arm d f) s j x).2.2 = 0))) := by
  have hfu : (Dsk.arm d f).fuse = f := by show max f (-1) = f; omega
  have hfit := ((h.fit.arm f (by omega)).queue hm (s := s) (j := j) (x := x)).crash keep
  have hup : (Dsk.arm d f).down = false := h.calm.up
  have hops : (Dsk.arm d f).ops = [] := h.calm.ops
  have hsafe : (Dsk.arm d f).safe = d.safe := rfl
  have hnx : (numbered (Dsk.arm d f) j x).n = next d.safe := by
    show next (Dsk.files (Dsk.arm d f)) = _
    have : Dsk.files (Dsk.arm d f) = Dsk.files d := rfl
    rw [this, h.calm.files]
  have hJ : ∀ g n : Int, Like ⟨s, numbered (Dsk.arm d f) j x, x⟩ ⟨s, ⟨g, n, j.k, j.u, j.f, j.t, j.c, (x.size : Int)⟩, x⟩ := fun g n => rfl
  rcases queue_cases (Dsk.arm d f) s j x (by rw [hfu]; omega) (by rw [hfu]; omega) with ⟨e, he, q⟩ | ⟨hM, r, hr, q⟩ | ⟨hM, r, hr, q⟩
  · rw [q]; exact .inl ⟨he, hup⟩
  · refine .inr ?_
    rw [q] at hfit ⊢
    obtain ⟨_, i, hi, rfl⟩ := hr
    refine ⟨.inr rfl, hfit, ?_⟩
    rw [hops, hsafe]
    obtain ⟨k, hk⟩ := crash_down (safe := d.safe) (l := opsQ s (numbered (Dsk.arm d f) j x) (ba (Job.txt (numbered (Dsk.arm d f) j x))) x) (i := i) (cap := (Dsk.arm d f).cap) (f := 0) keep
    have hmay := (Job.chk_ok.1 hM.chk).1
    dsimp only
    rw [hk]
    rcases Nat.lt_or_ge k (opsQ s (numbered (Dsk.arm d f) j x) (ba (Job.txt (numbered (Dsk.arm d f) j x))) x).length with c | c
    · exact .inl ⟨by simp, rfl, rfl, h.calm.que.part hM.sys hmay hnx (h.nc _ _ _ (Int.le_of_eq hnx.symm)) c⟩
    · rw [List.take_of_length_le c]
      exact .inr ⟨_, _, ⟨rfl, rfl, h.calm.que.queue hM.sys hM.chk rfl hM.fet hnx⟩, List.Perm.refl _, hJ _ _⟩
  · refine .inr ?_
    rw [q] at hfit ⊢
    obtain ⟨f2, _, _, _, rfl⟩ := hr
    refine ⟨.inl rfl, hfit, ?_⟩
    rw [hops, hsafe]
    dsimp only
    rw [crash_safe, List.nil_append]
    exact .inr ⟨_, _, ⟨rfl, rfl, h.calm.que.queue hM.sys hM.chk rfl hM.fet hnx⟩, List.Perm.refl _, hJ _ _⟩
theorem erase_perm {ws : List Hd} {k : Nat} (hk : k < ws.length) (he : ws.erase ws[k] = ws.eraseIdx k) : ws.Perm (ws.eraseIdx k ++ [ws[k]]) := by
  have h1 := List.perm_cons_erase (List.getElem_mem hk)
  rw [he] at h1
  exact h1.trans (List.perm_append_comm (l₁ := [ws[k]]) (l₂ := ws.eraseIdx k))
theorem FullI.crashL {m : Nat} {d : Dk} {ws : List Hd} (h : FullI m d ws) {f : Int} {k : Nat} (hk : k < ws.length) {o : Dop} {r : Dk × Int} (ho : o = rm (fk 67 ws[k]) ∨ o = mv (fk 67 ws[k]) (fk 69 ws[k]))
    (hr : Left (Dsk.arm d f) ws[k].s ws[k].j.g ws[k].j.n o r) (hfr : Fit (m + 6300) r.1) (keep : Int) : Fin (m + 6300) (Dsk.start (Dsk.crash r.1 keep)) (ws.eraseIdx k) ws[k] false := by
  refine ⟨hfr.crash keep, ?_⟩
  have hops : (Dsk.arm d f).ops = [] := h.calm.ops
  have hsafe : (Dsk.arm d f).safe = d.safe := rfl
  have hF : Dsk.files (Dsk.arm d f) = d.safe := by
    have : Dsk.files (Dsk.arm d f) = Dsk.files d := rfl
    rw [this, h.calm.files]
  have hall : ∀ {F : Dk}, Still F ws → ∃ L y, Still F L ∧ L.Perm (ws.eraseIdx k ++ [y]) ∧ Like y ws[k] := fun q => ⟨ws, ws[k], q, erase_perm hk (h.calm.que.erase hk), Like.self _⟩
  have hcut := fun i => h.calm.que.cutoff (List.getElem_mem hk) hF ho i
  rw [h.calm.que.erase hk] at hcut
  rcases hr with ⟨e, _, _, q⟩ | ⟨_, q | q⟩
  · rw [q]
    refine .inr (hall ⟨rfl, rfl, ?_⟩)
    show Que (behind d.safe ((Dsk.arm d f).ops.take _)) ws
    rw [hops, List.take_nil]
    exact h.calm.que
  · obtain ⟨_, i, _, rfl⟩ := q
    rw [hops, hsafe]
    obtain ⟨n, hn⟩ := crash_down (safe := d.safe) (l := opsL (Dsk.arm d f) ws[k].s ws[k].j.g ws[k].j.n o) (i := i) (cap := (Dsk.arm d f).cap) (f := 0) keep
    dsimp only
    rw [hn]
    rcases hcut n with c | c
    · exact .inr (hall ⟨rfl, rfl, c⟩)
    · exact .inl ⟨rfl, rfl, rfl, c⟩
  · obtain ⟨f2, _, _, _, rfl⟩ := q
    rw [hops, hsafe]
    dsimp only
    rw [crash_safe, List.nil_append]
    have := hcut (opsL (Dsk.arm d f) ws[k].s ws[k].j.g ws[k].j.n o).length
    rw [List.take_length] at this
    rcases this with c | c
    · exact .inr (hall ⟨rfl, rfl, c⟩)
    · exact .inl ⟨rfl, rfl, rfl, c⟩
end Spl
end Go.Proofs.YtmilfamjkiemaaaGreatDoor

namespace Go.Proofs.YtmilfamjkiemaaaGreatDoor
namespace Spl
open Dsk
theorem Fin.load {m : Nat} {F : Dk} {ws0 : List Hd} {own : Hd} {mine : Bool} (h : Fin m F ws0 own mine) {a : Hd} (ha : a ∈ ws0) : Spl.load F a.s a.j.g a.j.n = (a, 0) := by
  rcases h.st with ⟨_, q⟩ | ⟨L, y, q, hp, _⟩
  · exact q.load ha
  · exact q.load (hp.mem_iff.2 (List.mem_append_left _ ha))
theorem Fin.now {m : Nat} {F : Dk} {ws0 : List Hd} {own : Hd} {mine : Bool} (h : Fin m F ws0 own mine) {L : List Hd} (hr : Row ((files F).filterMap (pick (files F) 67 ⟨#[]⟩)) L) :
    (mine = false ∧ L.length = ws0.length) ∨ (L.length = ws0.length + 1 ∧ ∃ q, q < L.length ∧ ∃ y, L[q]? = some y ∧ Like y own) := by
  rcases h.st with ⟨hm, q⟩ | ⟨L', y, q, hp, hy⟩
  · exact .inl ⟨hm, (q.jobs hr).length_eq⟩
  · have h1 := (q.jobs hr).trans hp
    refine .inr ⟨by rw [h1.length_eq]; simp, ?_⟩
    have : y ∈ L := h1.mem_iff.2 (by simp)
    obtain ⟨i, hi, e⟩ := List.mem_iff_getElem.1 this
    exact ⟨i, hi, y, by rw [List.getElem?_eq_getElem hi, e], hy⟩
theorem FullI.crashDone {m : Nat} {d : Dk} {ws : List Hd} (h : FullI m d ws) (hm : m ≤ 1000000) {f : Int} (f0 : 0 ≤ f) (f1 : f ≤ 7) {k : Nat} (hk : k < ws.length) (keep : Int) :
    Fin (m + 6300) (Dsk.start (Dsk.crash (Spl.done (Dsk.arm d f) ws[k].s ws[k].j.g ws[k].j.n).1 keep)) (ws.take k ++ ws.drop (k + 1)) ws[k] false ∧ Dsk.Ok (Spl.done (Dsk.arm d f) ws[k].s ws[k].j.g ws[k].j.n).1 := by
  have hf := h.fit.arm f (by omega)
  rw [← List.eraseIdx_eq_take_drop_succ]
  exact ⟨h.crashL hk (.inl rfl) (done_cases _ _ _ _ hf.sm.cl hf.sm.ok.fuse hf.sm.ok.fuse') (hf.done hm _ _ _) keep, (hf.done hm _ _ _).sm.ok⟩
theorem FullI.crashFail {m : Nat} {d : Dk} {ws : List Hd} (h : FullI m d ws) (hm : m ≤ 1000000) {f : Int} (f0 : 0 ≤ f) (f1 : f ≤ 7) {k : Nat} (hk : k < ws.length) (keep : Int) :
    Fin (m + 6300) (Dsk.start (Dsk.crash (Spl.fail (Dsk.arm d f) ws[k].s ws[k].j.g ws[k].j.n).1 keep)) (ws.take k ++ ws.drop (k + 1)) ws[k] false ∧ Dsk.Ok (Spl.fail (Dsk.arm d f) ws[k].s ws[k].j.g ws[k].j.n).1 := by
  have hf := h.fit.arm f (by omega)
  rw [← List.eraseIdx_eq_take_drop_succ]
  exact ⟨h.crashL hk (.inr rfl) (fail_cases _ _ _ _ hf.sm.cl hf.sm.ok.fuse hf.sm.ok.fuse') (hf.fail hm _ _ _) keep, (hf.fail hm _ _ _).sm.ok⟩
theorem FullI.szs {m : Nat} {d : Dk} {ws : List Hd} (h : FullI m d ws) (k : Nat) : ∀ a ∈ ws.take k ++ ws.drop (k + 1), a.s.size ≤ maxLen := fun a ha => by
  rcases List.mem_append.1 ha with q | q
  · exact h.sz a (List.mem_of_mem_take q)
  · exact h.sz a (List.mem_of_mem_drop q)
end Spl
end Go.Proofs.YtmilfamjkiemaaaGreatDoor
