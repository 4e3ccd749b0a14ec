/-
  Layer 18: mathematics: Done, Fail; what stays in bounds; numbers. No walk in it. Layer 18: mathematics: no number is given twice. No walk in it.
-/
import Derived.Test.YtmilfamjkiemaaaGreatDoorSzAX
namespace Go.Proofs.YtmilfamjkiemaaaGreatDoor
namespace Spl
open Dsk

theorem parse_nil : (Job.parse []).2 = 3 := by
  rcases Job.parse_cases [] with ⟨j, ⟨_, h⟩, _⟩ | ⟨_, h⟩
  · have := congrArg List.length h
    rw [show Job.txt j = Job.jn (Job.ws j) from rfl] at this
    have h2 := Job.jn_len (Job.ws j) (by intro c; have := (Job.ws_len j).1; rw [c] at this; simp at this)
    have h3 := (Job.ws_len j).1
    simp at this
    rw [this] at h2
    simp at h2; omega
  · rw [h]
theorem held_get {l : List Fl} {k : Int} {s : ByteArray} {g n : Int} {h : Hd} (e : held l k s g n = some h) : ∃ x, get l (fn k s g n) = some x := by
  unfold held at e
  split at e
  · next q =>
    cases c : get l (fn k s g n) with
    | some x => exact ⟨x, rfl⟩
    | none =>
      have := q.1
      unfold said rd at this
      rw [c] at this
      exact absurd this (by rw [show (none.getD ⟨#[]⟩ : ByteArray).data.toList = [] from rfl, parse_nil]; omega)
  · cases e
theorem load_ok {d : Dk} {s : ByteArray} {g n : Int} (h : (load d s g n).2 = 0) : d.down = false ∧ ∃ y, held (files d) 67 s g n = some y ∧ load d s g n = (y, 0) := by
  unfold load at *
  split at h
  · simp at h
  · next hd =>
    rw [if_neg hd]
    cases e : held (files d) 67 s g n with
    | none => rw [e] at h; simp at h
    | some y => exact ⟨by simpa using hd, y, rfl, rfl⟩
/-- a name of a file that is there may be -/
theorem fn_there {l : List Fl} {k : Int} {s : ByteArray} {g n : Int} {x : ByteArray} (hne : ∀ x ∈ l, x.n ≠ ⟨#[]⟩) (h : get l (fn k s g n) = some x) : Nam.fk k = true ∧ Nam.system s.data.toList = true ∧ Nam.may g n = true := by
  refine Classical.byContradiction fun c => ?_
  rw [fn_bad c, get_ne hne] at h
  cases h

def rm (n : ByteArray) : Dop := ⟨4, n, ByteArray.empty, ByteArray.empty⟩
/-- what Done and Fail do -/
def opsL (d : Dk) (s : ByteArray) (g n : Int) (o : Dop) : List Dop := o :: if has (files d) (fn 68 s g n) = true then [rm (fn 68 s g n)] else []
theorem change_op {d : Dk} {o : Dop} (hd : d.down = false) (h : has (files d) o.n = true) : change d o = operate d o := by
  unfold change
  rw [if_pos ((read_err d o.n).2 ⟨hd, h⟩)]
theorem change_no {d : Dk} {o : Dop} (hd : d.down = false) (h : has (files d) o.n = false) : change d o = (d, 6) := by
  have e : Dsk.read d o.n = (ByteArray.empty, 6) := by
    unfold Dsk.read
    rw [if_neg (by rw [hd]; simp)]
    unfold has at h
    cases c : get (files d) o.n with
    | none => rfl
    | some x => rw [c] at h; cases h
  unfold change
  rw [e, if_neg (by simp)]
theorem leave_run {d d1 : Dk} {s : ByteArray} {g n : Int} (hd : d1.down = false) (h : has (files d1) (fn 68 s g n) = has (files d) (fn 68 s g n)) :
    leave d1 s g n = run d1 (if has (files d) (fn 68 s g n) = true then [rm (fn 68 s g n)] else []) := by
  unfold leave remove
  dsimp only
  cases c : has (files d) (fn 68 s g n)
  · rw [c] at h
    rw [change_no hd h]
    simp [run]
  · rw [c] at h
    rw [change_op hd h]
    rw [if_pos rfl, run]
    rcases operate_cases d1 (rm (fn 68 s g n)) with ⟨_, q⟩ | ⟨_, q⟩
    · unfold rm at *; rw [q]; simp
    · unfold rm at *; rw [q]; simp [run]
theorem first_run {d : Dk} {s : ByteArray} {g n : Int} {o : Dop} (hd : d.down = false) (h : has (files d) o.n = true) (hh : has (after (files d) o) (fn 68 s g n) = has (files d) (fn 68 s g n)) :
    (let r := change d o; if r.2 ≠ 0 then r else leave r.1 s g n) = run d (opsL d s g n o) := by
  dsimp only
  rw [change_op hd h]
  unfold opsL
  rw [run]
  rcases operate_cases d o with ⟨_, q⟩ | ⟨_, q⟩
  · rw [q]; simp
  · rw [q, if_neg (by simp), if_pos rfl]
    exact leave_run (by show (burn d).down = false; rw [burn_down]; exact hd) (by rw [files_note hd]; exact hh)
theorem has_cut {l : List Fl} (hs : Srt l) {m n : ByteArray} (h : m ≠ n) : has (cut l m) n = has l n := by
  unfold has; rw [get_cut _ _ hs, if_neg h]
theorem fn_apart {l : List Fl} {k k' : Int} {s : ByteArray} {g n : Int} {x : ByteArray} (hne : ∀ x ∈ l, x.n ≠ ⟨#[]⟩) (h : get l (fn k s g n) = some x) (hk : k ≠ k') : fn k s g n ≠ fn k' s g n := fun c => by
  rcases fn_one c with q | q
  · exact hk q.1
  · rw [q, get_ne hne] at h; cases h
def mv (n t : ByteArray) : Dop := ⟨3, n, t, ByteArray.empty⟩
theorem done_run {d : Dk} {s : ByteArray} {g n : Int} (hc : Cl d) (h : (load d s g n).2 = 0) : done d s g n = run d (opsL d s g n (rm (fn 67 s g n))) := by
  obtain ⟨hd, y, hy, _⟩ := load_ok h
  obtain ⟨hs, hne⟩ := hc.files
  obtain ⟨x, hx⟩ := held_get hy
  unfold done
  rw [if_neg (by rw [h]; simp)]
  refine first_run hd (by unfold has; show (Dsk.get _ (fn 67 s g n)).isSome = true; rw [hx]; rfl) ?_
  show has (cut (files d) (fn 67 s g n)) _ = _
  exact has_cut hs (fn_apart hne hx (by decide))
theorem fail_run {d : Dk} {s : ByteArray} {g n : Int} (hc : Cl d) (h : (load d s g n).2 = 0) : fail d s g n = run d (opsL d s g n (mv (fn 67 s g n) (fn 69 s g n))) := by
  obtain ⟨hd, y, hy, _⟩ := load_ok h
  obtain ⟨hs, hne⟩ := hc.files
  obtain ⟨x, hx⟩ := held_get hy
  obtain ⟨_, hsys, hmay⟩ := fn_there hne hx
  unfold fail
  rw [if_neg (by rw [h]; simp)]
  have e : rename d (fn 67 s g n) (fn 69 s g n) = change d (mv (fn 67 s g n) (fn 69 s g n)) := by
    unfold rename
    rw [if_neg (by rw [hd]; simp), if_pos (fn_isName (by decide) hsys hmay)]
    rfl
  rw [e]
  refine first_run hd (by unfold has; show (Dsk.get _ (fn 67 s g n)).isSome = true; rw [hx]; rfl) ?_
  have ea : after (files d) (mv (fn 67 s g n) (fn 69 s g n)) = put (cut (files d) (fn 67 s g n)) ⟨fn 69 s g n, x⟩ := by
    unfold after mv
    rw [if_neg (show ¬ (3 : Int) = 1 by decide), if_neg (show ¬ (3 : Int) = 2 by decide), if_pos rfl, hx]
    dsimp only
    rw [if_neg (fn_apart hne hx (by decide))]
  rw [ea]
  unfold has
  rw [get_put _ _ (cut_srt _ hs)]
  have h69 : fn 69 s g n ≠ fn 68 s g n := fun c => by
    rcases fn_one c with q | q
    · exact absurd q.1 (by decide)
    · have := fn_val (k := 69) (by decide) hsys hmay
      rw [q] at this
      simp [Nam.fileT, Nam.sysT] at this
  rw [if_neg h69, get_cut _ _ hs, if_neg (fn_apart hne hx (by decide))]
/-- what Done and Fail leave -/
def Left (d : Dk) (s : ByteArray) (g n : Int) (o : Dop) (r : Dk × Int) : Prop :=
  (∃ e, e ≠ 0 ∧ (load d s g n).2 = e ∧ r = (d, e)) ∨ ((load d s g n).2 = 0 ∧ (Down d (opsL d s g n o) r ∨ Safe d (opsL d s g n o) r))
theorem done_cases (d : Dk) (s : ByteArray) (g n : Int) (hc : Cl d) (hf : -1 ≤ d.fuse) (hf' : d.fuse ≤ 9223372036854775807) : Left d s g n (rm (fn 67 s g n)) (done d s g n) := by
  by_cases h : (load d s g n).2 = 0
  · rw [done_run hc h]
    exact .inr ⟨h, run_cases _ d (load_ok h).1 hf hf'⟩
  · exact .inl ⟨_, h, rfl, by unfold done; rw [if_pos h]⟩
theorem fail_cases (d : Dk) (s : ByteArray) (g n : Int) (hc : Cl d) (hf : -1 ≤ d.fuse) (hf' : d.fuse ≤ 9223372036854775807) : Left d s g n (mv (fn 67 s g n) (fn 69 s g n)) (fail d s g n) := by
  by_cases h : (load d s g n).2 = 0
  · rw [fail_run hc h]
    exact .inr ⟨h, run_cases _ d (load_ok h).1 hf hf'⟩
  · exact .inl ⟨_, h, rfl, by unfold fail; rw [if_pos h]⟩

/-- a disk that stays in bounds -/
structure Small (m : Nat) (d : Dk) : Prop where
  cl : Cl d
  ok : Dsk.Ok d
  wt : Wt d ≤ m
theorem Small.mono {m m' : Nat} {d : Dk} (h : Small m d) (hm : m ≤ m') : Small m' d := ⟨h.cl, h.ok, Nat.le_trans h.wt hm⟩
/-- names of operations that may be -/
def Names (l : List Dop) : Prop := ∀ o ∈ l, o.n ≠ ⟨#[]⟩ ∧ (o.k = 3 → o.t ≠ ⟨#[]⟩)
theorem Small.down {m e : Nat} {d : Dk} {l : List Dop} {q : Dk × Int} (h : Small m d) (hl : Names l) (hw : Dsk.wt l ≤ e) (hm : m + e ≤ 10000000000) (hq : Down d l q) : Small (m + e) q.1 := by
  obtain ⟨_, i, hi, rfl⟩ := hq
  have h1 := Dsk.wt_append d.ops (l.take i)
  have h2 := wt_take_le l i
  have h3 := h.wt
  unfold Dsk.Wt at h3
  refine ⟨⟨h.cl.srt, h.cl.ne, fun o ho => ?_⟩, ⟨h.ok.srt, ?_, (show (-1 : Int) ≤ 0 by decide), (show (0 : Int) ≤ 9223372036854775807 by decide)⟩, ?_⟩
  · rcases List.mem_append.1 ho with c | c
    · exact h.cl.op o c
    · exact hl o (List.mem_of_mem_take c)
  · show used d.safe + Dsk.wt (d.ops ++ l.take i) ≤ _; omega
  · show used d.safe + Dsk.wt (d.ops ++ l.take i) ≤ _; omega
theorem Small.safe {m e : Nat} {d : Dk} {l : List Dop} {q : Dk × Int} (h : Small m d) (hl : Names l) (hw : Dsk.wt l ≤ e) (hm : m + e ≤ 10000000000) (hq : Safe d l q) : Small (m + e) q.1 := by
  obtain ⟨f, hf, hf', _, rfl⟩ := hq
  have h1 := Dsk.wt_append d.ops l
  have h2 := used_behind d.safe (d.ops ++ l)
  have h3 := h.wt
  unfold Dsk.Wt at h3
  have hn : ∀ o ∈ d.ops ++ l, o.n ≠ ⟨#[]⟩ ∧ (o.k = 3 → o.t ≠ ⟨#[]⟩) := fun o ho => by
    rcases List.mem_append.1 ho with c | c
    · exact h.cl.op o c
    · exact hl o c
  refine ⟨⟨behind_srt _ h.cl.srt, behind_ne _ h.cl.ne hn, fun o ho => by cases ho⟩, ⟨behind_srt _ h.ok.srt, ?_, hf, hf'⟩, ?_⟩
  · show used (behind d.safe (d.ops ++ l)) + 0 ≤ _; omega
  · show used (behind d.safe (d.ops ++ l)) + 0 ≤ _; omega
theorem size0 {s : ByteArray} (h : s = ⟨#[]⟩) : s.size = 0 := by subst h; rfl
theorem name_ne {s : ByteArray} (h : isName s = true) : s ≠ ⟨#[]⟩ := fun c => by
  unfold isName at h
  simp only [Bool.and_eq_true, decide_eq_true_eq] at h
  have := size0 c; omega
theorem names_opsQ {s : ByteArray} {j : Job.Jb} (t x : ByteArray) (hs : Nam.system s.data.toList = true) (hm : Nam.may j.g j.n = true) : Names (opsQ s j t x) := by
  have h7 := name_ne (fn_isName (k := 67) (by decide) hs hm)
  have h8 := name_ne (fn_isName (k := 68) (by decide) hs hm)
  intro o ho
  unfold opsQ at ho
  simp only [List.mem_cons, List.mem_append] at ho
  rcases ho with rfl | ho | rfl | ho
  · exact ⟨show numF ≠ ⟨#[]⟩ by decide, by simp⟩
  · split at ho
    · cases ho
    · rw [List.mem_singleton] at ho; subst ho; exact ⟨h8, by simp⟩
  · exact ⟨h7, by simp⟩
  · cases ho
theorem wt_opsQ {s : ByteArray} {j : Job.Jb} {t x : ByteArray} (hm : Nam.may j.g j.n = true) (ht : t.size ≤ 165) (hx : x.size ≤ 6000) : Dsk.wt (opsQ s j t x) ≤ 6300 := by
  obtain ⟨_, hm1, hm2⟩ := Nam.may_iff.1 hm
  have h6 := itoa6 hm1 hm2
  have hb := ba_size (Lib.itoa (j.n + 1))
  unfold opsQ
  by_cases hk : j.k = 3
  · rw [if_pos hk]
    simp only [List.nil_append, Dsk.wt]; omega
  · rw [if_neg hk]
    simp only [List.cons_append, List.nil_append, Dsk.wt]; omega
theorem names_opsL {d : Dk} {s : ByteArray} {g n : Int} {o : Dop} (hc : Cl d) (h : (load d s g n).2 = 0) (ho : o = rm (fn 67 s g n) ∨ o = mv (fn 67 s g n) (fn 69 s g n)) : Names (opsL d s g n o) := by
  obtain ⟨hd, y, hy, _⟩ := load_ok h
  obtain ⟨hs, hne⟩ := hc.files
  obtain ⟨x, hx⟩ := held_get hy
  obtain ⟨_, hsys, hmay⟩ := fn_there hne hx
  have h7 := name_ne (fn_isName (k := 67) (by decide) hsys hmay)
  have h8 := name_ne (fn_isName (k := 68) (by decide) hsys hmay)
  have h9 := name_ne (fn_isName (k := 69) (by decide) hsys hmay)
  intro u hu
  unfold opsL at hu
  rcases List.mem_cons.1 hu with rfl | hu
  · rcases ho with rfl | rfl
    · exact ⟨h7, by simp [rm]⟩
    · exact ⟨h7, fun _ => h9⟩
  · split at hu
    · rw [List.mem_singleton] at hu; subst hu; exact ⟨h8, by simp [rm]⟩
    · cases hu
theorem wt_opsL {d : Dk} {s : ByteArray} {g n : Int} {o : Dop} (ho : o = rm (fn 67 s g n) ∨ o = mv (fn 67 s g n) (fn 69 s g n)) : Dsk.wt (opsL d s g n o) ≤ 40 := by
  have h0 : o.d.size = 0 := by rcases ho with rfl | rfl <;> rfl
  unfold opsL
  split
  · simp only [Dsk.wt]
    have : (rm (fn 68 s g n)).d.size = 0 := rfl
    omega
  · simp only [Dsk.wt]; omega
theorem Small.queue {m : Nat} {d : Dk} {s : ByteArray} {j : Job.Jb} {x : ByteArray} (h : Small m d) (hm : m ≤ 1000000) : Small (m + 6300) (queue d s j x).1 := by
  rcases queue_cases d s j x h.ok.fuse h.ok.fuse' with ⟨e, _, q⟩ | ⟨hM, r, hr, q⟩ | ⟨hM, r, hr, q⟩
  · rw [q]; exact h.mono (by omega)
  · rw [q]
    have hmay := (Job.chk_ok.1 hM.chk).1
    have ht : (ba (Job.txt (numbered d j x))).size ≤ 165 := by rw [ba_size]; exact Job.txt_len hM.chk
    exact h.down (names_opsQ _ _ hM.sys hmay) (wt_opsQ hmay ht hM.len) (by omega) hr
  · rw [q]
    have hmay := (Job.chk_ok.1 hM.chk).1
    have ht : (ba (Job.txt (numbered d j x))).size ≤ 165 := by rw [ba_size]; exact Job.txt_len hM.chk
    exact h.safe (names_opsQ _ _ hM.sys hmay) (wt_opsQ hmay ht hM.len) (by omega) hr
theorem Small.left {m : Nat} {d : Dk} {s : ByteArray} {g n : Int} {o : Dop} {r : Dk × Int} (h : Small m d) (hm : m ≤ 1000000) (ho : o = rm (fn 67 s g n) ∨ o = mv (fn 67 s g n) (fn 69 s g n)) (hr : Left d s g n o r) : Small (m + 6300) r.1 := by
  rcases hr with ⟨e, _, _, q⟩ | ⟨hl, q | q⟩
  · rw [q]; exact h.mono (by omega)
  · exact (h.down (names_opsL h.cl hl ho) (wt_opsL ho) (by omega) q).mono (by omega)
  · exact (h.safe (names_opsL h.cl hl ho) (wt_opsL ho) (by omega) q).mono (by omega)
theorem Small.crash {m : Nat} {d : Dk} (h : Small m d) (n : Int) : Small m (Dsk.start (Dsk.crash d n)) := by
  have h1 := settle_wt d (keep n d.ops.length)
  have h2 := settle_ok h.ok (keep n d.ops.length)
  have h3 := h.wt
  refine ⟨⟨h2.srt, behind_ne _ h.cl.ne (fun o ho => h.cl.op o (List.mem_of_mem_take ho)), fun o ho => by cases ho⟩, ⟨h2.srt, h2.wt, (show (-1 : Int) ≤ -1 by decide), (show (-1 : Int) ≤ 9223372036854775807 by decide)⟩, ?_⟩
  exact Nat.le_trans h1 h3
theorem Small.arm {m : Nat} {d : Dk} (h : Small m d) (n : Int) (hn : n ≤ 9223372036854775807) : Small m (Dsk.arm d n) :=
  ⟨⟨h.cl.srt, h.cl.ne, h.cl.op⟩, ⟨h.ok.srt, h.ok.wt, by show -1 ≤ max n (-1); omega, by show max n (-1) ≤ _; omega⟩, h.wt⟩
theorem Small.new (n : Int) : Small 0 (Dsk.new n) := ⟨⟨List.Pairwise.nil, (fun x hx => by cases hx), (fun x hx => by cases hx)⟩, new_ok n, Nat.le_refl _⟩
end Spl
end Go.Proofs.YtmilfamjkiemaaaGreatDoor

namespace Go.Proofs.YtmilfamjkiemaaaGreatDoor
namespace Spl
open Dsk

/-- whatever of the operations is kept, the next number is above B -/
def NumL (B : Int) (safe : List Fl) (ops : List Dop) : Prop := ∀ k, k ≤ ops.length → B < next (behind safe (ops.take k))
def Num (B : Int) (d : Dk) : Prop := NumL B d.safe d.ops
/-- an operation that lets the number alone, or writes a greater one -/
def GoodOp (B : Int) (o : Dop) : Prop := (o.n ≠ numF ∧ o.t ≠ numF) ∨ ∃ m, B < m ∧ 1 ≤ m ∧ m ≤ 100000 ∧ o.k = 1 ∧ o.n = numF ∧ o.d = ba (Lib.itoa m)
theorem next_get {l l' : List Fl} (h : get l numF = get l' numF) : next l = next l' := by unfold next rd; rw [h]
theorem next_ge (l : List Fl) : 1 ≤ next l := by
  unfold next
  split
  · next h => have := h.2; omega
  · omega
theorem next_write {l : List Fl} (hs : Srt l) {m : Int} (h0 : 1 ≤ m) (h1 : m ≤ 100000) (t : ByteArray) : next (after l ⟨1, numF, t, ba (Lib.itoa m)⟩) = m := by
  have e : after l ⟨1, numF, t, ba (Lib.itoa m)⟩ = put l ⟨numF, ba (Lib.itoa m)⟩ := by unfold after; rw [if_pos rfl]
  obtain ⟨q, rfl⟩ := Int.eq_ofNat_of_zero_le (show 0 ≤ m by omega)
  have hn := Oct.number_itoa (n := q) (by omega)
  unfold next rd
  rw [e, get_put _ _ hs, if_pos rfl]
  show (if (Oct.number (ba (Lib.itoa (q : Int))).data.toList).2 = 0 ∧ 1 ≤ (Oct.number (ba (Lib.itoa (q : Int))).data.toList).1 then ((Oct.number (ba (Lib.itoa (q : Int))).data.toList).1 : Int) else 1) = _
  rw [ba_list, hn, if_pos ⟨rfl, by show 1 ≤ q; omega⟩]
theorem next_good {B : Int} {l : List Fl} (hs : Srt l) {o : Dop} (ho : GoodOp B o) (h : B < next l) : B < next (after l o) := by
  rcases ho with ⟨h1, h2⟩ | ⟨m, h1, h2, h3, h4, h5, h6⟩
  · rw [next_get (after_other o numF hs h1 h2)]; exact h
  · obtain ⟨k, n, t, x⟩ := o
    dsimp only at h4 h5 h6
    subst h4 h5 h6
    rw [next_write hs h2 h3]; exact h1
theorem NumL.snoc {B : Int} {safe : List Fl} {ops : List Dop} (hs : Srt safe) (h : NumL B safe ops) {o : Dop} (ho : GoodOp B o) : NumL B safe (ops ++ [o]) := by
  intro k hk
  rw [List.length_append, List.length_singleton] at hk
  by_cases c : k ≤ ops.length
  · rw [List.take_append_of_le_length c]; exact h k c
  · have e : k = ops.length + 1 := by omega
    rw [e, List.take_of_length_le (by simp), behind_snoc]
    refine next_good (behind_srt _ hs) ho ?_
    have := h ops.length (Nat.le_refl _)
    rwa [List.take_length] at this
theorem NumL.many {B : Int} {safe : List Fl} (hs : Srt safe) : ∀ (l : List Dop) {ops : List Dop}, NumL B safe ops → (∀ o ∈ l, GoodOp B o) → NumL B safe (ops ++ l)
  | [], _, h, _ => by rw [List.append_nil]; exact h
  | o :: l, ops, h, hl => by
    have := NumL.many hs l (h.snoc hs (hl o (List.mem_cons_self ..))) (fun x hx => hl x (List.mem_cons_of_mem _ hx))
    rwa [List.append_assoc] at this
theorem NumL.all {B : Int} {safe : List Fl} {ops : List Dop} (h : NumL B safe ops) : B < next (behind safe ops) := by
  have := h ops.length (Nat.le_refl _)
  rwa [List.take_length] at this
theorem Num.down {B : Int} {d : Dk} {l : List Dop} {q : Dk × Int} (hs : Srt d.safe) (h : Num B d) (hl : ∀ o ∈ l, GoodOp B o) (hq : Down d l q) : Num B q.1 := by
  obtain ⟨_, i, _, rfl⟩ := hq
  exact NumL.many hs (l.take i) h (fun o ho => hl o (List.mem_of_mem_take ho))
theorem Num.safe {B : Int} {d : Dk} {l : List Dop} {q : Dk × Int} (hs : Srt d.safe) (h : Num B d) (hl : ∀ o ∈ l, GoodOp B o) (hq : Safe d l q) : Num B q.1 := by
  obtain ⟨f, _, _, _, rfl⟩ := hq
  intro k hk
  obtain rfl : k = 0 := by simpa using hk
  exact (NumL.many hs l h hl).all
theorem Num.crash {B : Int} {d : Dk} (h : Num B d) (n : Int) : Num B (Dsk.start (Dsk.crash d n)) := by
  intro k hk
  obtain rfl : k = 0 := by simpa [Dsk.start, Dsk.crash, Dsk.settle] using hk
  exact h (keep n d.ops.length) (keep_le _ _)
theorem good_fn (B : Int) (k k' : Int) (s : ByteArray) (g n : Int) (t x : ByteArray) (ht : t = ⟨#[]⟩ ∨ ∃ k2, t = fn k2 s g n) : GoodOp B ⟨k, fn k' s g n, t, x⟩ := by
  refine .inl ⟨fn_num _ _ _ _, ?_⟩
  rcases ht with rfl | ⟨k2, rfl⟩
  · show (⟨#[]⟩ : ByteArray) ≠ numF; decide
  · exact fn_num _ _ _ _
theorem good_opsQ {B : Int} {s : ByteArray} {j : Job.Jb} (t x : ByteArray) (h : B < j.n + 1) (hm : Nam.may j.g j.n = true) : ∀ o ∈ opsQ s j t x, GoodOp B o := by
  obtain ⟨_, hm1, hm2⟩ := Nam.may_iff.1 hm
  intro o ho
  unfold opsQ at ho
  simp only [List.mem_cons, List.mem_append] at ho
  rcases ho with rfl | ho | rfl | ho
  · exact .inr ⟨j.n + 1, h, by omega, by omega, rfl, rfl, rfl⟩
  · split at ho
    · cases ho
    · rw [List.mem_singleton] at ho; subst ho; exact good_fn _ _ _ _ _ _ _ _ (.inl rfl)
  · exact good_fn _ _ _ _ _ _ _ _ (.inl rfl)
  · cases ho
theorem good_opsL {B : Int} {d : Dk} {s : ByteArray} {g n : Int} {o : Dop} (ho : o = rm (fn 67 s g n) ∨ o = mv (fn 67 s g n) (fn 69 s g n)) : ∀ u ∈ opsL d s g n o, GoodOp B u := by
  intro u hu
  unfold opsL at hu
  rcases List.mem_cons.1 hu with rfl | hu
  · rcases ho with rfl | rfl
    · exact good_fn _ _ _ _ _ _ _ _ (.inl rfl)
    · exact good_fn _ _ _ _ _ _ _ _ (.inr ⟨_, rfl⟩)
  · split at hu
    · rw [List.mem_singleton] at hu; subst hu; exact good_fn _ _ _ _ _ _ _ _ (.inl rfl)
    · cases hu
theorem wrote {l : List Fl} {rest : List Dop} {m : Int} (hs : Srt l) (h0 : 1 ≤ m) (h1 : m ≤ 99999) (hr : ∀ o ∈ rest, GoodOp m o) : m < next (behind l (⟨1, numF, ⟨#[]⟩, ba (Lib.itoa (m + 1))⟩ :: rest)) := by
  have hw := next_write hs (m := m + 1) (by omega) (by omega) ⟨#[]⟩
  have hs' := after_srt (l := l) ⟨1, numF, ⟨#[]⟩, ba (Lib.itoa (m + 1))⟩ hs
  show m < next (behind (after l ⟨1, numF, ⟨#[]⟩, ba (Lib.itoa (m + 1))⟩) rest)
  generalize after l ⟨1, numF, ⟨#[]⟩, ba (Lib.itoa (m + 1))⟩ = l' at *
  have h2 : NumL m l' [] := fun k _ => by rw [List.take_nil]; show m < next l'; omega
  have := NumL.many hs' rest h2 hr
  rw [List.nil_append] at this
  exact this.all
/-- what Queue leaves behind of the numbers: no id, or one above all that were -/
theorem Num.queue {m : Nat} {B : Int} {d : Dk} {s : ByteArray} {j : Job.Jb} {x : ByteArray} (h : Small m d) (hB : Num B d) :
    ((queue d s j x).2.2 ≠ 0 ∧ Num B (queue d s j x).1) ∨ ((queue d s j x).2.2 = 0 ∧ B < (queue d s j x).2.1.2 ∧ Num (queue d s j x).2.1.2 (queue d s j x).1) := by
  rcases queue_cases d s j x h.ok.fuse h.ok.fuse' with ⟨e, he, q⟩ | ⟨hM, r, hr, q⟩ | ⟨hM, r, hr, q⟩
  · rw [q]; exact .inl ⟨he, hB⟩
  · have hmay := (Job.chk_ok.1 hM.chk).1
    rw [q]
    refine .inl ⟨(show (9 : Int) ≠ 0 by decide), hB.down h.cl.srt (good_opsQ _ _ ?_ hmay) hr⟩
    have hup := hM.up
    have : (numbered d j x).n = next (files d) := rfl
    have h2 : B < next (files d) := by unfold Dsk.files; rw [if_neg (by rw [hup]; simp)]; exact NumL.all hB
    omega
  · have hmay := (Job.chk_ok.1 hM.chk).1
    have hup := hM.up
    have hn : (numbered d j x).n = next (files d) := rfl
    have hfl : files d = behind d.safe d.ops := by unfold Dsk.files; rw [if_neg (by rw [hup]; simp)]
    have h2 : B < next (files d) := by rw [hfl]; exact NumL.all hB
    rw [q]
    refine .inr ⟨rfl, by show B < (numbered d j x).n; omega, ?_⟩
    obtain ⟨f, _, _, _, rfl⟩ := hr
    obtain ⟨_, hm1, hm2⟩ := Nam.may_iff.1 hmay
    intro k hk
    obtain rfl : k = 0 := by simpa using hk
    have hg := good_opsQ (B := (numbered d j x).n) (s := s) (j := numbered d j x) (ba (Job.txt (numbered d j x))) x (by omega) hmay
    generalize numbered d j x = J at *
    show J.n < next (behind d.safe (d.ops ++ opsQ s J (ba (Job.txt J)) x))
    rw [show behind d.safe (d.ops ++ opsQ s J (ba (Job.txt J)) x) = behind (behind d.safe d.ops) (opsQ s J (ba (Job.txt J)) x) by unfold behind; rw [List.foldl_append]]
    exact wrote (behind_srt _ h.cl.srt) (by omega) (by omega) (fun o ho => hg o (List.mem_cons_of_mem _ ho))
theorem Num.left {B : Int} {d : Dk} {s : ByteArray} {g n : Int} {o : Dop} {r : Dk × Int} (hs : Srt d.safe) (h : Num B d) (ho : o = rm (fn 67 s g n) ∨ o = mv (fn 67 s g n) (fn 69 s g n)) (hr : Left d s g n o r) : Num B r.1 := by
  rcases hr with ⟨e, _, _, q⟩ | ⟨_, q | q⟩
  · rw [q]; exact h
  · exact h.down hs (good_opsL ho) q
  · exact h.safe hs (good_opsL ho) q
theorem Num.new (n : Int) : Num 0 (Dsk.new n) := fun k _ => by
  have := next_ge (behind (Dsk.new n).safe ((Dsk.new n).ops.take k)); omega
end Spl
end Go.Proofs.YtmilfamjkiemaaaGreatDoor
