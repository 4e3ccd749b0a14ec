/-
  Layer 18: mathematics: the jobs that wait on a disk. No walk in it. Layer 18: the search among files; the bytes of a file. Walks of layer 3: ParseFile.
-/
import Derived.Test.YtgboghbicbnhiaaGreatDoorSoAD
import Derived.Test.YtgboghbicbnhiaaGreatDoorSoAR
import Derived.Test.YtgboghbicbnhiaaGreatDoorSoAK
import Derived.Test.YtgboghbicbnhiaaGreatDoorSoAH
namespace Go.Proofs.YtgboghbicbnhiaaGreatDoor
namespace Spl
open Dsk

/-- the name of a file of a job -/
def fn (k : Int) (s : ByteArray) (g n : Int) : ByteArray := ba (Nam.file k s.data.toList g n).1
/-- the bytes of a file; none where it is not there -/
def rd (l : List Fl) (n : ByteArray) : ByteArray := (get l n).getD ⟨#[]⟩
/-- the job that a file's text says -/
def said (l : List Fl) (n : ByteArray) : Job.Jb × Int := Job.parse (rd l n).data.toList
/-- a job that files say: its text in a file of that kind, its bytes in the one of D -/
def held (l : List Fl) (k : Int) (s : ByteArray) (g n : Int) : Option Hd :=
  if (said l (fn k s g n)).2 = 0 ∧ (said l (fn k s g n)).1.g = g ∧ (said l (fn k s g n)).1.n = n then
    if k = 69 ∨ (said l (fn k s g n)).1.k = 3 then some ⟨s, (said l (fn k s g n)).1, ⟨#[]⟩⟩
    else match get l (fn 68 s g n) with
      | none => none
      | some x => if (x.size : Int) = (said l (fn k s g n)).1.z then some ⟨s, (said l (fn k s g n)).1, x⟩ else none
  else none
/-- a file's job, of that kind, of that system or of all -/
def pick (l : List Fl) (k : Int) (sys : ByteArray) (f : Fl) : Option Hd :=
  if (Nam.pfile f.n.data.toList).2.2.2.2 = 0 ∧ (Nam.pfile f.n.data.toList).1 = k ∧ (sys = ⟨#[]⟩ ∨ ba (Nam.pfile f.n.data.toList).2.1 = sys) then
    held l k (ba (Nam.pfile f.n.data.toList).2.1) (Nam.pfile f.n.data.toList).2.2.1 (Nam.pfile f.n.data.toList).2.2.2.1
  else none
def jobs (d : Dk) (k : Int) (sys : ByteArray) : List Hd := (files d).filterMap (pick (files d) k sys)

theorem held_eq {l : List Fl} {k : Int} {s : ByteArray} {g n : Int} {h : Hd} (e : held l k s g n = some h) : h.s = s ∧ h.j.g = g ∧ h.j.n = n := by
  unfold held at e
  split at e
  · next q =>
    split at e
    · injection e with e; subst e; exact ⟨rfl, q.2.1, q.2.2⟩
    · split at e
      · cases e
      · split at e
        · injection e with e; subst e; exact ⟨rfl, q.2.1, q.2.2⟩
        · cases e
  · cases e
/-- a file's job bears the file's name -/
theorem pick_name {l : List Fl} {k : Int} {sys : ByteArray} {f : Fl} {h : Hd} (e : pick l k sys f = some h) : f.n = fn k h.s h.j.g h.j.n ∧ (sys = ⟨#[]⟩ ∨ h.s = sys) ∧ held l k h.s h.j.g h.j.n = some h := by
  unfold pick at e
  split at e
  · next q =>
    obtain ⟨h1, h2, h3⟩ := held_eq e
    obtain ⟨q1, q2, q3, q4⟩ := Nam.file_pfile q.1
    refine ⟨?_, ?_, by rw [h1, h2, h3]; exact e⟩
    · unfold fn
      rw [h1, h2, h3, ba_list, ← q.2.1]
      unfold Nam.file
      rw [if_neg (by simp [q1]), if_neg (by simp [q2]), if_neg (by simp [q3])]
      rw [q4]
      rfl
    · rw [h1]; exact q.2.2
  · cases e
theorem fn_inj {k : Int} {a b : Hd} (h : key a = key b) : fn k a.s a.j.g a.j.n = fn k b.s b.j.g b.j.n := by
  unfold key at h
  injection h with h1 h2
  injection h2 with h2 h3
  rw [h1, h2, h3]
theorem jobs_apart {l : List Fl} (m : List Fl) (k : Int) (sys : ByteArray) (hm : Srt m) : (m.filterMap (pick l k sys)).Pairwise fun a b => key a ≠ key b := by
  refine List.Pairwise.filterMap (S := fun a b => key a ≠ key b) _ (fun f f' hlt h hh h' hh' => ?_) hm
  intro c
  have e1 := (pick_name hh).1
  have e2 := (pick_name hh').1
  rw [fn_inj c] at e1
  rw [e1, ← e2] at hlt
  exact absurd hlt (by rw [lt_irrefl]; simp)

/-- the number that the next job gets -/
def numF : ByteArray := ⟨#[78]⟩
def next (l : List Fl) : Int := if (Oct.number (rd l numF).data.toList).2 = 0 ∧ 1 ≤ (Oct.number (rd l numF).data.toList).1 then ((Oct.number (rd l numF).data.toList).1 : Int) else 1
/-- the text of a job that may be queued; else why not -/
def may (d : Dk) (s : ByteArray) (j : Job.Jb) (x : ByteArray) : ByteArray × Int :=
  if d.down = true then (⟨#[]⟩, 9) else if Nam.system s.data.toList = false then (⟨#[]⟩, 11) else if 6000 < x.size then (⟨#[]⟩, 5)
  else if j.k = 3 ∧ x ≠ ⟨#[]⟩ then (⟨#[]⟩, 1) else if 99999 < j.n then (⟨#[]⟩, 8) else if 40 ≤ (jobs d 67 ⟨#[]⟩).length then (⟨#[]⟩, 8)
  else if Job.chk j ≠ 0 then (⟨#[]⟩, (Job.chk j : Int))
  else if ((used (files d) + x.size + (Job.txt j).length + 60 : Nat) : Int) > d.cap then (⟨#[]⟩, 8) else (ba (Job.txt j), 0)
/-- the files of a job, all synced -/
def lay (d : Dk) (s : ByteArray) (j : Job.Jb) (t x : ByteArray) : Dk × Int :=
  let r1 := write d numF (ba (Lib.itoa (j.n + 1)))
  let r2 := if r1.2 = 0 ∧ j.k ≠ 3 then write r1.1 (fn 68 s j.g j.n) x else r1
  let r3 := if r2.2 = 0 then write r2.1 (fn 67 s j.g j.n) t else r2
  if r3.2 = 0 then sync r3.1 else r3
def numbered (d : Dk) (j : Job.Jb) (x : ByteArray) : Job.Jb := { j with n := next (files d), z := x.size }
/-- P18.2: Queue: the disk, the id, the error -/
def queue (d : Dk) (s : ByteArray) (j : Job.Jb) (x : ByteArray) : Dk × (Int × Int) × Int :=
  let J := numbered d j x
  let m := may d s J x
  if m.2 = 0 then
    let r := lay d s J m.1 x
    if r.2 = 0 then (r.1, (J.g, J.n), 0) else (r.1, (0, 0), r.2)
  else (d, (0, 0), m.2)
/-- P18.4 -/
def load (d : Dk) (s : ByteArray) (g n : Int) : Hd × Int :=
  if d.down = true then (Hd.zero, 9) else match held (files d) 67 s g n with | none => (Hd.zero, 6) | some h => (h, 0)
def leave (d : Dk) (s : ByteArray) (g n : Int) : Dk × Int :=
  let r := remove d (fn 68 s g n)
  if r.2 ≠ 0 ∧ r.2 ≠ 6 then r else sync r.1
/-- P18.5 -/
def done (d : Dk) (s : ByteArray) (g n : Int) : Dk × Int :=
  if (load d s g n).2 ≠ 0 then (d, (load d s g n).2) else
    let r := remove d (fn 67 s g n)
    if r.2 ≠ 0 then r else leave r.1 s g n
def fail (d : Dk) (s : ByteArray) (g n : Int) : Dk × Int :=
  if (load d s g n).2 ≠ 0 then (d, (load d s g n).2) else
    let r := rename d (fn 67 s g n) (fn 69 s g n)
    if r.2 ≠ 0 then r else leave r.1 s g n
end Spl
end Go.Proofs.YtgboghbicbnhiaaGreatDoor

namespace Go.Proofs.YtgboghbicbnhiaaGreatDoor
open Go.RowKit

set_option maxHeartbeats 1000000 in
theorem sbyName_any (f d n : ByteArray) (w : World) :
    Calls Tryz.prog 115 #[.agg #[.string f, .string d], .string n] w fun e w' => e = .returned (.int .i64 (Dsk.cmp f n)) ∧ Below w.heap.size w w' := by
  have H : Hid (∀ w, Calls Tryz.prog 140 #[.string f, .string n] w fun e w' => e = .returned (.int .i64 (Dsk.cmp f n)) ∧ w' = w) := compare_any f n
  go_enter Tryz.func115, Tryz.ntmps115
  go_wp2_with (go_at_call 140; refine (H.out _).mono ?_; rintro e w' ⟨rfl, rfl⟩)
  go_ret
  exact ⟨rfl, Rg.al1 _ _⟩

set_option maxHeartbeats 4000000 in
set_option maxRecDepth 100000 in
theorem ssearch_row (b o c : Nat) (l : List Dsk.Fl) (n : ByteArray) (w : World) (hs : Dsk.Srt l) (hn : l.length ≤ 1000000000) (hb : b < w.heap.size) (hrow : Rg.At w b o (fileE.flat l)) :
    Calls Tryz.prog 114 #[.slice (some ⟨b, o, none⟩) l.length c, .string n, .func (.func 115) #[] #[]] w fun e w' => FindPost l n w e w' := by
  have hs' := Rg.hid hs
  have hrow' := Rg.hid hrow
  obtain ⟨N, hN⟩ : ∃ N, N = l.length := ⟨_, rfl⟩
  have hN1 : N ≤ 1000000000 := by omega
  have hst : Hid (Dsk.Sea l n 0 N) := by rw [hN]; exact Dsk.Sea.start l n
  rw [← hN]
  replace hN := Rg.hid hN
  clear hs hn hrow
  go_enter Tryz.func114, Tryz.ntmps114
  go_wp2
  go_loopw [9, 10] (fun vi vj wr => ∃ (i j : Nat), i ≤ j ∧ j ≤ N ∧ Hid (Dsk.Sea l n i j) ∧ vi = .int .i64 i ∧ vj = .int .i64 j ∧ Below w.heap.size w wr) (fun vi vj _ => (intOf vj).toNat - (intOf vi).toNat)
  case atStart => exact ⟨0, N, Nat.zero_le _, Nat.le_refl _, hst, rfl, rfl, Below.refl _ _⟩
  case round =>
    obtain ⟨i, j, hij, hjb, hsea, rfl, rfl, hbw⟩ := hrel
    by_cases hlt : i < j
    · obtain ⟨h, hh⟩ : ∃ h : Nat, h = (i + j) / 2 := ⟨_, rfl⟩
      have e1 : ((i : Int) + (j : Int)) / 2 = (h : Int) := by omega
      have hm1 : i ≤ h := by omega
      have hm2 : h < j := by omega
      have hl : h < l.length := by rw [← hN.out]; omega
      have hup : Hid (Dsk.lt l[h].n n = true → Dsk.Sea l n (h + 1) j) := fun hx => hsea.out.up hs'.out hm2 hl hx
      have hdn : Hid (Dsk.lt l[h].n n = false → Dsk.Sea l n i h) := fun hx => hsea.out.down hs'.out hm1 hl hx
      have at1 : Rg.At wr b (o + h * 2) (fileE.enc l[h]) := (hrow'.out.elem hl).below hbw hb
      have hcn := Dsk.cmp_neg l[h].n n
      generalize Dsk.lt l[h].n n = lv at *
      generalize l[h] = x at *
      obtain ⟨xn, xd⟩ := x
      obtain ⟨c0, c1⟩ := file_at at1
      have HC : Hid (∀ W, Below w.heap.size w W → Calls Tryz.prog 115 #[.agg #[.string xn, .string xd], .string n] W fun e w' => e = .returned (.int .i64 (Dsk.cmp xn n)) ∧ Below w.heap.size w w') := fun W hW => (sbyName_any xn xd n W).mono fun e w' ⟨h1, h2⟩ => ⟨h1, Rg.chain hW h2⟩
      dsimp only at hcn
      generalize Dsk.cmp xn n = cv at *
      have hz0 : (0 : Int) ≤ (h : Int) := by omega
      have hz1 : (h : Int) < (N : Int) := by omega
      clear hh hl at1
      cases lv
      · go_wp2_with (go_at_call 115; refine (HC.out _ hbw).mono ?_; rintro e w' ⟨rfl, hb'⟩)
        go_roundw
        case rel => exact ⟨i, h, hm1, by omega, hdn.out (by first | rfl | trivial), rfl, rfl, hb'⟩
        case measure => simp [intOf]; omega
      · go_wp2_with (go_at_call 115; refine (HC.out _ hbw).mono ?_; rintro e w' ⟨rfl, hb'⟩)
        go_roundw
        case rel => exact ⟨h + 1, j, hm2, hjb, hup.out (by first | rfl | trivial), by go_num, rfl, hb'⟩
        case measure => simp [intOf]; omega
    · obtain rfl : i = j := by omega
      have hp := Rg.hid hsea.out.done
      by_cases hi : i < N
      · have hl : i < l.length := by rw [← hN.out]; exact hi
        have at1 : Rg.At wr b (o + i * 2) (fileE.enc l[i]) := (hrow'.out.elem hl).below hbw hb
        have hh : Hid (Dsk.has l n = (Dsk.cmp l[i].n n == 0)) := by
          show _ = _
          have hp' := hp.out
          subst hp'
          rw [Dsk.cmp_zero, Dsk.has_pos hl]
        generalize l[i] = x at *
        obtain ⟨xn, xd⟩ := x
        obtain ⟨c0, c1⟩ := file_at at1
        have HC : Hid (∀ W, Below w.heap.size w W → Calls Tryz.prog 115 #[.agg #[.string xn, .string xd], .string n] W fun e w' => e = .returned (.int .i64 (Dsk.cmp xn n)) ∧ Below w.heap.size w w') := fun W hW => (sbyName_any xn xd n W).mono fun e w' ⟨h1, h2⟩ => ⟨h1, Rg.chain hW h2⟩
        dsimp only at hh
        have hz0 : (0 : Int) ≤ (i : Int) := by omega
        have hz1 : (i : Int) < (N : Int) := by omega
        have dlt : decide ((i : Int) < (N : Int)) = true := by simp; omega
        have dlt' : decide (i < N) = true := by simp; omega
        clear at1 hl
        go_wp2_with (go_at_call 115; refine (HC.out _ hbw).mono ?_; rintro e w' ⟨rfl, hb'⟩)
        go_ret2
        exact ⟨ret_ib (by rw [← hp.out]) hh.out.symm, hb'⟩
      · have hh : Hid (Dsk.has l n = false) := by
          show _ = _
          exact Dsk.has_end (by rw [← hp.out, ← hN.out]; exact hi)
        have dlt : decide ((i : Int) < (N : Int)) = false := by simp; omega
        have dlt' : decide (i < N) = false := by simp; omega
        go_wp2
        go_ret2
        exact ⟨ret_ib (by rw [← hp.out]) hh.out.symm, hbw⟩

set_option maxHeartbeats 1000000 in
theorem ssearch_none (c : Nat) (n : ByteArray) (w : World) :
    Calls Tryz.prog 114 #[.slice none 0 c, .string n, .func (.func 115) #[] #[]] w fun e w' => FindPost [] n w e w' := by
  go_enter Tryz.func114, Tryz.ntmps114
  go_wp2
  go_loopw [9, 10] (fun vi vj wr => vi = .int .i64 0 ∧ vj = .int .i64 0 ∧ wr = w) (fun _ _ _ => 0)
  case atStart => exact ⟨rfl, rfl, rfl⟩
  case round =>
    obtain ⟨rfl, rfl, rfl⟩ := hrel
    go_wp2
    go_ret2
    exact ⟨rfl, Below.refl _ _⟩


set_option maxHeartbeats 1000000 in
set_option maxRecDepth 100000 in
theorem sread_any (a : Option Addr) (c : Nat) (l : List Dsk.Fl) (n : ByteArray) (w : World) (hs : Dsk.Srt l) (hn : l.length ≤ 1000000000) (hrow : fileE.Row w a l) :
    Calls Tryz.prog 79 #[.slice a l.length c, .string n] w fun e w' => e = .returned (.tuple #[.string (Spl.rd l n), .bool (Dsk.has l n)]) ∧ Below w.heap.size w w' := by
  have H : Hid (Calls Tryz.prog 114 #[.slice a l.length c, .string n, .func (.func 115) #[] #[]] w fun e w' => e = .returned (.tuple #[.int .i64 (Dsk.pos l n), .bool (Dsk.has l n)]) ∧ Below w.heap.size w w') := by
    rcases hrow with ⟨rfl, rfl⟩ | ⟨b, o, rfl, hb, hr⟩
    · exact ssearch_none c n w
    · exact ssearch_row b o c l n w hs hn hb hr
  cases hh : Dsk.has l n
  · have hr : Spl.rd l n = ⟨#[]⟩ := by
      unfold Spl.rd
      unfold Dsk.has at hh
      cases e : Dsk.get l n with
      | none => rfl
      | some x => rw [e] at hh; cases hh
    rw [hr]
    rw [hh] at H
    generalize l.length = N at *
    generalize Dsk.pos l n = p at *
    clear hs hrow hh hr
    go_enter Tryz.func79, Tryz.ntmps79
    go_wp2_with (go_at_call 114; refine H.out.mono ?_; rintro e w' ⟨rfl, hb⟩)
    go_ret2
    exact ⟨rfl, hb⟩
  · obtain ⟨x, hg⟩ : ∃ x, Dsk.get l n = some x := Option.isSome_iff_exists.1 hh
    have hr : Spl.rd l n = x := by unfold Spl.rd; rw [hg]; rfl
    obtain ⟨hp, hpn, hpd⟩ := Dsk.get_some_iff.1 hg
    rw [hr]
    rw [hh] at H
    obtain ⟨b, o, rfl, hb, hat⟩ : ∃ b o, a = some ⟨b, o, none⟩ ∧ b < w.heap.size ∧ Rg.At w b o (fileE.flat l) := by
      rcases hrow with ⟨_, e⟩ | h
      · subst e; simp at hp
      · exact h
    have hcell : Hid (∀ W', Below w.heap.size w W' → W'.cell? ⟨b, o + Dsk.pos l n * 2 + 1, none⟩ = some (.string x)) := fun W' hW => by
      obtain ⟨_, q1⟩ := file_at (show Rg.At W' b (o + Dsk.pos l n * 2) (fileE.enc ⟨l[Dsk.pos l n].n, l[Dsk.pos l n].d⟩) from (hat.elem hp).below hW hb)
      rw [hpd] at q1
      exact q1
    have e0 : (0 : Int) ≤ (Dsk.pos l n : Int) := by omega
    have e1 : (Dsk.pos l n : Int) < (l.length : Int) := by omega
    clear hs hrow hh hr hg hpn hpd hat hp
    generalize Dsk.pos l n = p at *
    generalize l.length = N at *
    go_enter Tryz.func79, Tryz.ntmps79
    go_wp2_with (go_at_call 114; refine H.out.mono ?_; rintro e w' ⟨rfl, hb⟩; have q := hcell.out _ hb)
    go_ret2
    exact ⟨rfl, hb⟩
end Go.Proofs.YtgboghbicbnhiaaGreatDoor

namespace Go.Proofs.YtgboghbicbnhiaaGreatDoor
open Go.RowKit

theorem cells_z {w W : World} (B : Below (w.alloc (.cells #[.int .i64 0, .int .i64 0] 31)).heap.size (w.alloc (.cells #[.int .i64 0, .int .i64 0] 31)) W) :
    W.cell? ⟨w.heap.size, 0, none⟩ = some (.int .i64 0) ∧ W.cell? ⟨w.heap.size, 1, none⟩ = some (.int .i64 0) := by
  have h : W.heap[w.heap.size]? = some (.cells #[.int .i64 0, .int .i64 0] 31) := by
    rw [B.block w.heap.size (by simp)]; exact (MapKept.heap_alloc w _).1
  exact ⟨by rw [Lib.cell_of_heap h 0]; rfl, by rw [Lib.cell_of_heap h 1]; rfl⟩
theorem cut_list (l : List UInt8) (w : World) (hl : l.length ≤ maxLen) :
    Calls Tryz.prog 126 #[.string ⟨l.toArray⟩] w fun e w' => e = .returned (.tuple #[.string ⟨(Nam.pre l).toArray⟩, .string ⟨(Nam.post l).toArray⟩]) ∧ Below w.heap.size w w' :=
  cut_any ⟨l.toArray⟩ w hl
theorem system_list (l : List UInt8) (w : World) (hl : l.length ≤ maxLen) :
    Calls Tryz.prog 67 #[.string ⟨l.toArray⟩] w fun e w' => e = .returned (.bool (Nam.system l)) ∧ w' = w :=
  system_any ⟨l.toArray⟩ w hl
theorem parseId_list (l : List UInt8) (w : World) (hl : l.length ≤ maxLen) :
    Calls Tryz.prog 127 #[.string ⟨l.toArray⟩] w fun e w' => e = .returned (.tuple #[.agg #[.int .i64 (Nam.pid l).1, .int .i64 (Nam.pid l).2.1], .int .i64 (Nam.pid l).2.2]) ∧ Below w.heap.size w w' :=
  parseId_any ⟨l.toArray⟩ w hl
theorem isFileKind_byte (c : UInt8) (w : World) : Calls Tryz.prog 66 #[.int .i64 (wrap64 (c.toNat : Int))] w fun e w' => e = .returned (.bool (Nam.fk (c.toNat : Int))) ∧ w' = w := by
  rw [wrap_byte]; exact isFileKind_any _ w
theorem ret_file {a a' g g' n n' e e' : Int} {s s' : ByteArray} (h1 : a = a') (h2 : s = s') (h3 : g = g') (h4 : n = n') (h5 : e = e') :
    Ending.returned (.tuple #[.int .i64 a, .string s, .agg #[.int .i64 g, .int .i64 n], .int .i64 e]) = .returned (.tuple #[.int .i64 a', .string s', .agg #[.int .i64 g', .int .i64 n'], .int .i64 e']) := by rw [h1, h2, h3, h4, h5]
namespace Nam
theorem pre_len (l : List UInt8) : (pre l).length ≤ l.length := (List.takeWhile_sublist np).length_le
theorem post_len (l : List UInt8) : (post l).length ≤ l.length := by
  unfold post
  rw [List.length_drop]
  have := (List.dropWhile_sublist np : (l.dropWhile np).Sublist l).length_le
  omega
theorem pfile_no {l : List UInt8} (h : ¬ ((pre l).length = 1 ∧ fk (((pre l).headD 0).toNat : Int) = true ∧ system (pre (post l)) = true ∧ (pid (post (post l))).2.2 = 0)) : pfile l = (0, [], 0, 0, 3) := by
  unfold pfile; rw [if_neg h]
theorem pfile_yes {l : List UInt8} (h : (pre l).length = 1 ∧ fk (((pre l).headD 0).toNat : Int) = true ∧ system (pre (post l)) = true ∧ (pid (post (post l))).2.2 = 0) : pfile l = ((((pre l).headD 0).toNat : Int), pre (post l), (pid (post (post l))).1, (pid (post (post l))).2.1, 0) := by
  unfold pfile; rw [if_pos h]
end Nam

set_option maxHeartbeats 1000000 in
theorem parseFile_any (s : ByteArray) (w : World) (hs : s.size ≤ maxLen) :
    Calls Tryz.prog 95 #[.string s] w fun e w' => e = .returned (.tuple #[.int .i64 (Nam.pfile s.data.toList).1, .string ⟨(Nam.pfile s.data.toList).2.1.toArray⟩, .agg #[.int .i64 (Nam.pfile s.data.toList).2.2.1, .int .i64 (Nam.pfile s.data.toList).2.2.2.1], .int .i64 (Nam.pfile s.data.toList).2.2.2.2]) ∧ Below w.heap.size w w' := by
  have hl : s.data.toList.length ≤ maxLen := by rw [Oct.len_eq]; exact hs
  have l1 := Nam.pre_len s.data.toList
  have l2 := Nam.post_len s.data.toList
  have l3 := Nam.pre_len (Nam.post s.data.toList)
  have l4 := Nam.post_len (Nam.post s.data.toList)
  have HC1 : Hid (∀ w : World, Calls Tryz.prog 126 #[.string s] w fun e w' => e = .returned (.tuple #[.string ⟨(Nam.pre s.data.toList).toArray⟩, .string ⟨(Nam.post s.data.toList).toArray⟩]) ∧ Below w.heap.size w w') := fun w => cut_any s w hs
  have HC2 : Hid (∀ w : World, Calls Tryz.prog 126 #[.string ⟨(Nam.post s.data.toList).toArray⟩] w fun e w' => e = .returned (.tuple #[.string ⟨(Nam.pre (Nam.post s.data.toList)).toArray⟩, .string ⟨(Nam.post (Nam.post s.data.toList)).toArray⟩]) ∧ Below w.heap.size w w') := fun w => cut_list _ w (by omega)
  have HS : Hid (∀ w : World, Calls Tryz.prog 67 #[.string ⟨(Nam.pre (Nam.post s.data.toList)).toArray⟩] w fun e w' => e = .returned (.bool (Nam.system (Nam.pre (Nam.post s.data.toList)))) ∧ w' = w) := fun w => system_list _ w (by omega)
  have HP : Hid (∀ w : World, Calls Tryz.prog 127 #[.string ⟨(Nam.post (Nam.post s.data.toList)).toArray⟩] w fun e w' => e = .returned (.tuple #[.agg #[.int .i64 (Nam.pid (Nam.post (Nam.post s.data.toList))).1, .int .i64 (Nam.pid (Nam.post (Nam.post s.data.toList))).2.1], .int .i64 (Nam.pid (Nam.post (Nam.post s.data.toList))).2.2]) ∧ Below w.heap.size w w') := fun w => parseId_list _ w (by omega)
  have hno := Nam.pfile_no (l := s.data.toList)
  have hyes := Nam.pfile_yes (l := s.data.toList)
  have hpf := Nam.pid_fail (Nam.post (Nam.post s.data.toList))
  have b0 := below_alloc1 w (.cells #[.int .i64 0, .int .i64 0] 31)
  generalize Nam.pfile s.data.toList = F at *
  generalize Nam.pid (Nam.post (Nam.post s.data.toList)) = X at *
  generalize Nam.post (Nam.post s.data.toList) = I at *
  generalize Nam.pre (Nam.post s.data.toList) = Y at *
  generalize Nam.post s.data.toList = R at *
  generalize Nam.pre s.data.toList = K at *
  have hmx : s.data.toList.length ≤ 9223372036854775807 := hl
  by_cases hK : K.length = 1
  · obtain ⟨c, rfl⟩ := List.length_eq_one_iff.1 hK
    have HK : Hid (∀ w : World, Calls Tryz.prog 66 #[.int .i64 (wrap64 (c.toNat : Int))] w fun e w' => e = .returned (.bool (Nam.fk (c.toNat : Int))) ∧ w' = w) := fun w => isFileKind_byte c w
    have hw : Hid (wrap64 (c.toNat : Int) = (c.toNat : Int)) := wrap_byte c
    cases hk : Nam.fk (c.toNat : Int) with
    | false =>
      have hF : F = (0, [], 0, 0, 3) := hno (fun h => by have := h.2.1; rw [show (([c] : List UInt8).headD 0) = c from rfl, hk] at this; cases this)
      subst hF
      rw [hk] at HK
      clear hno hyes hpf hK hs hl HS HP l1 l2 l3 l4 hmx hk
      go_enter Tryz.func95, Tryz.ntmps95
      go_wp2_with (go_at_call 126; refine (HC1.out _).mono ?_)
      rintro e w1 ⟨rfl, b1⟩
      obtain ⟨hc1, hf1⟩ := bcell b1
      have hz1 : w.heap.size < w1.heap.size := by have := b1.size; simp at this; omega
      go_wp2_with (go_at_call 126; refine (HC2.out _).mono ?_)
      rintro e w2 ⟨rfl, b2⟩
      have B2 := b1.trans (b2.mono b1.size)
      clear b2 hc1 hf1 hz1
      obtain ⟨hc2, hf2⟩ := bcell B2
      have hz2 : w.heap.size < w2.heap.size := by have := B2.size; simp at this; omega
      go_wp2_with (go_at_call 66; refine (HK.out _).mono ?_; rintro e w3 ⟨rfl, rfl⟩)
      obtain ⟨f0, f1, f2⟩ := two_cells (cells_z B2).1 (cells_z B2).2 (.int .i64 0) (.int .i64 0)
      exact bodyPost_ret (v := .tuple #[.int .i64 0, .string ⟨#[]⟩, .agg #[.int .i64 0, .int .i64 0], .int .i64 3]) (by simp [results, Tryz.results95, go_sem, f0, f1]) rfl ⟨rfl, ((b0.trans (B2.mono b0.size)).setCell (by simp) _).setCell (by simp) _⟩
    | true =>
      rw [hk] at HK
      cases hy : Nam.system Y with
      | false =>
        have hF : F = (0, [], 0, 0, 3) := hno (fun h => by have := h.2.2.1; rw [hy] at this; cases this)
        subst hF
        rw [hy] at HS
        clear hno hyes hpf hK hs hl HP l1 l2 l3 l4 hmx hk hy
        go_enter Tryz.func95, Tryz.ntmps95
        go_wp2_with (go_at_call 126; refine (HC1.out _).mono ?_)
        rintro e w1 ⟨rfl, b1⟩
        obtain ⟨hc1, hf1⟩ := bcell b1
        have hz1 : w.heap.size < w1.heap.size := by have := b1.size; simp at this; omega
        go_wp2_with (go_at_call 126; refine (HC2.out _).mono ?_)
        rintro e w2 ⟨rfl, b2⟩
        have B2 := b1.trans (b2.mono b1.size)
        clear b2 hc1 hf1 hz1
        obtain ⟨hc2, hf2⟩ := bcell B2
        have hz2 : w.heap.size < w2.heap.size := by have := B2.size; simp at this; omega
        go_wp2_with (go_at_call 66; refine (HK.out _).mono ?_; rintro e w3 ⟨rfl, rfl⟩)
        go_wp2_with (go_at_call 67; refine (HS.out _).mono ?_; rintro e w3 ⟨rfl, rfl⟩)
        obtain ⟨f0, f1, f2⟩ := two_cells (cells_z B2).1 (cells_z B2).2 (.int .i64 0) (.int .i64 0)
        exact bodyPost_ret (v := .tuple #[.int .i64 0, .string ⟨#[]⟩, .agg #[.int .i64 0, .int .i64 0], .int .i64 3]) (by simp [results, Tryz.results95, go_sem, f0, f1]) rfl ⟨rfl, ((b0.trans (B2.mono b0.size)).setCell (by simp) _).setCell (by simp) _⟩
      | true =>
        rw [hy] at HS
        obtain ⟨g, n, e⟩ := X
        dsimp only at HP hno hyes hpf
        by_cases he : e = 0
        · subst he
          have hF := hyes ⟨rfl, hk, hy, rfl⟩
          rw [show (([c] : List UInt8).headD 0) = c from rfl] at hF
          subst hF
          clear hno hyes hpf hK hs hl l1 l2 l3 l4 hmx hk hy
          go_enter Tryz.func95, Tryz.ntmps95
          go_wp2_with (go_at_call 126; refine (HC1.out _).mono ?_)
          rintro e w1 ⟨rfl, b1⟩
          obtain ⟨hc1, hf1⟩ := bcell b1
          have hz1 : w.heap.size < w1.heap.size := by have := b1.size; simp at this; omega
          go_wp2_with (go_at_call 126; refine (HC2.out _).mono ?_)
          rintro e w2 ⟨rfl, b2⟩
          have B2 := b1.trans (b2.mono b1.size)
          clear b2 hc1 hf1 hz1
          obtain ⟨hc2, hf2⟩ := bcell B2
          have hz2 : w.heap.size < w2.heap.size := by have := B2.size; simp at this; omega
          go_wp2_with (go_at_call 66; refine (HK.out _).mono ?_; rintro e w3 ⟨rfl, rfl⟩)
          go_wp2_with (go_at_call 67; refine (HS.out _).mono ?_; rintro e w3 ⟨rfl, rfl⟩)
          go_wp2_with (go_at_call 127; refine (HP.out _).mono ?_)
          rintro e w3 ⟨rfl, b3⟩
          have B3 := B2.trans (b3.mono B2.size)
          clear b3 hc2 hf2 hz2
          obtain ⟨hc3, hf3⟩ := bcell B3
          have hz3 : w.heap.size < w3.heap.size := by have := B3.size; simp at this; omega
          go_wp2
          go_region
          go_wp2
          obtain ⟨f0, f1, f2⟩ := two_cells (cells_z B3).1 (cells_z B3).2 (.int .i64 g) (.int .i64 n)
          have bb := ((b0.trans (B3.mono b0.size)).setCell (p := ⟨w.heap.size, 0, none⟩) (by simp) (.int .i64 g)).setCell (p := ⟨w.heap.size, 1, none⟩) (by simp) (.int .i64 n)
          have hw' : Hid (wrap64 (((⟨#[c]⟩ : ByteArray)[0]'(Nat.zero_lt_one)).toNat : Int) = (c.toNat : Int)) := hw.out
          exact bodyPost_ret (v := .tuple #[.int .i64 (wrap64 (((⟨#[c]⟩ : ByteArray)[0]'(Nat.zero_lt_one)).toNat : Int)), .string ⟨Y.toArray⟩, .agg #[.int .i64 g, .int .i64 n], .int .i64 0]) (by simp [results, Tryz.results95, go_sem, f0, f1, hz3]) rfl ⟨ret_file hw'.out rfl rfl rfl rfl, (bb.alloc bb.size _).drew⟩
        · have hX : (g, n, e) = (0, 0, 3) := by rcases hpf with h | h; exact absurd h he; exact h
          obtain ⟨rfl, rfl, rfl⟩ : g = 0 ∧ n = 0 ∧ e = 3 := by simpa using hX
          have hF : F = (0, [], 0, 0, 3) := hno (fun h => absurd h.2.2.2 (by decide))
          subst hF
          clear hno hyes hpf hK hs hl l1 l2 l3 l4 hmx hk hy he hX
          go_enter Tryz.func95, Tryz.ntmps95
          go_wp2_with (go_at_call 126; refine (HC1.out _).mono ?_)
          rintro e w1 ⟨rfl, b1⟩
          obtain ⟨hc1, hf1⟩ := bcell b1
          have hz1 : w.heap.size < w1.heap.size := by have := b1.size; simp at this; omega
          go_wp2_with (go_at_call 126; refine (HC2.out _).mono ?_)
          rintro e w2 ⟨rfl, b2⟩
          have B2 := b1.trans (b2.mono b1.size)
          clear b2 hc1 hf1 hz1
          obtain ⟨hc2, hf2⟩ := bcell B2
          have hz2 : w.heap.size < w2.heap.size := by have := B2.size; simp at this; omega
          go_wp2_with (go_at_call 66; refine (HK.out _).mono ?_; rintro e w3 ⟨rfl, rfl⟩)
          go_wp2_with (go_at_call 67; refine (HS.out _).mono ?_; rintro e w3 ⟨rfl, rfl⟩)
          go_wp2_with (go_at_call 127; refine (HP.out _).mono ?_)
          rintro e w3 ⟨rfl, b3⟩
          have B3 := B2.trans (b3.mono B2.size)
          clear b3 hc2 hf2 hz2
          obtain ⟨hc3, hf3⟩ := bcell B3
          have hz3 : w.heap.size < w3.heap.size := by have := B3.size; simp at this; omega
          go_wp2
          obtain ⟨f0, f1, f2⟩ := two_cells (cells_z B3).1 (cells_z B3).2 (.int .i64 0) (.int .i64 0)
          have bb := ((b0.trans (B3.mono b0.size)).setCell (p := ⟨w.heap.size, 0, none⟩) (by simp) (.int .i64 0)).setCell (p := ⟨w.heap.size, 1, none⟩) (by simp) (.int .i64 0)
          exact bodyPost_ret (v := .tuple #[.int .i64 0, .string ⟨#[]⟩, .agg #[.int .i64 0, .int .i64 0], .int .i64 3]) (by simp [results, Tryz.results95, go_sem, f0, f1, hz3]) rfl ⟨rfl, bb.alloc bb.size _⟩
  · have hF : F = (0, [], 0, 0, 3) := hno (fun h => hK h.1)
    have d1 : ((K.length : Int) != 1) = true := by rw [bne_iff_ne]; omega
    have d2 : (K.length != 1) = true := by rw [bne_iff_ne]; exact hK
    subst hF
    have hKl : K.length ≤ 9223372036854775807 := by omega
    clear hno hyes hpf hK hs hl HS HP l1 l2 l3 l4 hmx
    go_enter Tryz.func95, Tryz.ntmps95
    go_wp2_with (go_at_call 126; refine (HC1.out _).mono ?_)
    rintro e w1 ⟨rfl, b1⟩
    obtain ⟨hc1, hf1⟩ := bcell b1
    have hz1 : w.heap.size < w1.heap.size := by have := b1.size; simp at this; omega
    go_wp2_with (go_at_call 126; refine (HC2.out _).mono ?_)
    rintro e w2 ⟨rfl, b2⟩
    have B2 := b1.trans (b2.mono b1.size)
    clear b2 hc1 hf1 hz1
    obtain ⟨hc2, hf2⟩ := bcell B2
    have hz2 : w.heap.size < w2.heap.size := by have := B2.size; simp at this; omega
    go_wp2
    obtain ⟨f0, f1, f2⟩ := two_cells (cells_z B2).1 (cells_z B2).2 (.int .i64 0) (.int .i64 0)
    exact bodyPost_ret (v := .tuple #[.int .i64 0, .string ⟨#[]⟩, .agg #[.int .i64 0, .int .i64 0], .int .i64 3]) (by simp [results, Tryz.results95, go_sem, f0, f1]) rfl ⟨rfl, ((b0.trans (B2.mono b0.size)).setCell (by simp) _).setCell (by simp) _⟩
end Go.Proofs.YtgboghbicbnhiaaGreatDoor
