/-
  A whole struct loaded, stored, handed back; an operation of a drawn region taken, its side conditions as default arguments. No program in it. Layers 18 to 20: a disk, an id, a job, a job with its bytes in a block of their own, loaded and stored as one step. Layer 18: mathematics: the jobs that wait on a disk. No walk in it. Layer 18: the search among files; the bytes of a file.
-/
import Derived.Test.YtmilfamjkiemaaaGreatDoorSzAG
import Derived.Deep.RegionHeld3
import Derived.Test.YtmilfamjkiemaaaGreatDoorSzAR
import Derived.Deep.MidRow
import Derived.Test.YtmilfamjkiemaaaGreatDoorSzAD
import Derived.Test.YtmilfamjkiemaaaGreatDoorSzAK
namespace Go.Proofs.YtmilfamjkiemaaaGreatDoor
namespace Rg
open Go.RowKit
section
variable {P : Program} {ops : Array Oper} {Q : Exit → Act → World → Prop} {md : Region.Mode} {S : World → Prop}
theorem tk (i : Nat) (d : Option Tmp) {oi : Oper} {v : Value} {fuel : Nat} {listed : Array Bool} {a : Act} {w : World} (hy : ∀ w, S w → (execOp a.eval oi).run P w = .ok (.value v) w)
    (h : wpAnyH P md ops Q S fuel (listed.setIfInBounds i true) (a.put d v) w)
    (hi : ops[i]? = some oi := by rfl) (hd : oi.dst = d := by rfl) (hs : Region.noSelect ops = true := by kernel_rfl) (hf : Region.free md ops listed i = true := by kernel_rfl) (hr : (Region.ready md ops listed).contains i = true := by kernel_rfl)
    (hQ : ∀ c a w, Q (.panic c) (a.put d v) w → Q (.panic c) a w := by exact fun _ _ _ h => h) (hw : Region.wanted oi (yielded ops a.tmps) = true := by rfl) (hS : S w := by assumption) : wpAnyH P md ops Q S (fuel + 1) listed a w := by
  subst hd
  exact wpAnyH_take hi hs hf hr hQ (Or.inl ⟨hw, hy⟩) hS h
end
theorem xload {P : Program} {ρ : Operand → Value} {o : Oper} {w : World} (t : TypeId) (x : Operand) (ho : o.op = .load t x) {B : Nat} (hx : ρ x = .pointer (some ⟨B, 0, none⟩)) {v : Value} (hrun : (loadVar t ⟨B, 0, none⟩).run P w = .ok v w) : (execOp ρ o).run P w = .ok (.value v) w := by
  simp [execOp, ho, hx, Instr.loadAt, Instr.sureAddr, hrun, Result.andThen]
theorem xstore {P : Program} {ops : Array Oper} {o : Oper} {a : Act} {w w' : World} {K : Act → World → Prop} {Q : Exit → Act → World → Prop} {E : Prop} (hg : o.guard = none) (x y : Operand) (t : TypeId)
    (ho : o.op = .store t x y) {R : Nat} (hx : a.eval x = .pointer (some ⟨R, 0, none⟩)) {v : Value} (hy : a.eval y = v) (hrun : (storeVar t ⟨R, 0, none⟩ v).run P w = .ok () w') (h : K (a.put o.dst undef) w') : if Region.wanted o (yielded ops a.tmps) = true then Oper.wp P o a w K Q else E := by
  have hw : Region.wanted o (yielded ops a.tmps) = true := by simp [Region.wanted, hg]
  rw [if_pos hw]
  unfold Oper.wp
  simp [execOp, ho, hx, hy, Instr.storeAt, Instr.sureAddr, hrun, Result.andThen, Oper.upon]
  exact h
theorem res2 {P : Program} {fn : Func} {tm tn : Tmp} {t : TypeId} (hf : fn.results = #[.cell tm t, .tmp tn]) {tmps : Array Value} {R : Nat} (hp : tmps.getD tm undef = .pointer (some ⟨R, 0, none⟩)) {v u : Value} {W : World} (hu : tmps.getD tn undef = u) (hrun : (loadVar t ⟨R, 0, none⟩).run P W = .ok v W) : (results fn tmps).run P W = .ok (.tuple #[v, u]) W := by
  simp only [Array.getD_eq_getD_getElem?] at hp hu
  simp [results, hf, hp, hu, asAddr, hrun]
theorem lst {P : Program} {w w' : World} {ops : Array Oper} {rest : List Oper} {a : Act} {Q : Exit → Act → World → Prop} {dst : Option Tmp} {ty : TypeId} {ps : String} {af} (x y : Operand) (t : TypeId) {R : Nat} (hx : a.eval x = .pointer (some ⟨R, 0, none⟩)) {v : Value} (hy : a.eval y = v) (hrun : (storeVar t ⟨R, 0, none⟩ v).run P w = .ok () w') (h : wpList P ops Q rest (a.put dst undef) w') :
    wpList P ops Q ({ dst := dst, op := .store t x y, type := ty, pos := ps, after := af, guard := none } :: rest) a w := wpList_store_row (by simp [Region.wanted]) x y t rfl hx hy hrun h
theorem lld {P : Program} {w : World} {ops : Array Oper} {rest : List Oper} {a : Act} {Q : Exit → Act → World → Prop} {dst : Option Tmp} {ty : TypeId} {ps : String} {af} (x : Operand) (t : TypeId) {B : Nat} (hx : a.eval x = .pointer (some ⟨B, 0, none⟩)) {CS : Array Value} (hrun : (loadVar t ⟨B, 0, none⟩).run P w = .ok (.agg CS) w) (h : wpList P ops Q rest (a.put dst (.agg CS)) w) :
    wpList P ops Q ({ dst := dst, op := .load t x, type := ty, pos := ps, after := af, guard := none } :: rest) a w := wpList_load_row (by simp [Region.wanted]) x t rfl hx hrun h
theorem isst {P : Program} {w : World} {ops : Array Oper} {rest : List Oper} {a : Act} {Q : Exit → Act → World → Prop} {dst : Option Tmp} {ty : TypeId} {ps : String} {af} {gd} (x y : Operand) (t : TypeId) (h : wpList P ops Q ({ dst := dst, op := .store t x y, type := ty, pos := ps, after := af, guard := gd } :: rest) a w) : wpList P ops Q ({ dst := dst, op := .store t x y, type := ty, pos := ps, after := af, guard := gd } :: rest) a w := h
theorem isld {P : Program} {w : World} {ops : Array Oper} {rest : List Oper} {a : Act} {Q : Exit → Act → World → Prop} {dst : Option Tmp} {ty : TypeId} {ps : String} {af} {gd} (x : Operand) (t : TypeId) (h : wpList P ops Q ({ dst := dst, op := .load t x, type := ty, pos := ps, after := af, guard := gd } :: rest) a w) : wpList P ops Q ({ dst := dst, op := .load t x, type := ty, pos := ps, after := af, guard := gd } :: rest) a w := h
theorem rescc {P : Program} {fn : Func} {tm tn tk : Tmp} {t t2 : TypeId} (hf : fn.results = #[.cell tm t, .cell tn t2, .tmp tk]) {tmps : Array Value} {R R2 : Nat} (hp : tmps.getD tm undef = .pointer (some ⟨R, 0, none⟩)) (hp2 : tmps.getD tn undef = .pointer (some ⟨R2, 0, none⟩)) {v u y : Value} {W : World} (hy : tmps.getD tk undef = y) (hrun : (loadVar t ⟨R, 0, none⟩).run P W = .ok v W) (hrun2 : (loadVar t2 ⟨R2, 0, none⟩).run P W = .ok u W) : (results fn tmps).run P W = .ok (.tuple #[v, u, y]) W := by
  simp only [Array.getD_eq_getD_getElem?] at hp hp2 hy
  simp [results, hf, hp, hp2, hy, asAddr, hrun, hrun2]
end Rg
end Go.Proofs.YtmilfamjkiemaaaGreatDoor

namespace Go.Proofs.YtmilfamjkiemaaaGreatDoor
open Go.RowKit

theorem heldU : (Tryz.prog.info? 42).map (·.size) = some 10 := by kernel_rfl
theorem diskU : (Tryz.prog.info? 28).map (·.size) = some 5 := by kernel_rfl
theorem jobU : (Tryz.prog.info? 33).map (·.size) = some 8 := by kernel_rfl
theorem idU : (Tryz.prog.info? 31).map (·.size) = some 2 := by kernel_rfl
theorem hld {B : Nat} {h : Spl.Hd} {ty : TypeId} {W : World} (k : Rg.Bk B (hc h) ty W) : (loadVar 42 ⟨B, 0, none⟩).run Tryz.prog W = .ok (.agg (hc h).toArray) W :=
  Rg.row_loadVar (CS := (hc h).toArray) k Tryz.underlying42 rfl heldU
theorem hst {R : Nat} {C : List Value} {ty : TypeId} {W : World} (k : Rg.Bk R C ty W) (hl : C.length = 10) (h : Spl.Hd) :
    ∃ W', (storeVar 42 ⟨R, 0, none⟩ (.agg (hc h).toArray)).run Tryz.prog W = .ok () W' ∧ Rg.Bk R (hc h) ty W' ∧ Rg.Only R W W' :=
  Rg.row_storeVar (CS := (hc h).toArray) k heldU (by rw [hl]; rfl) (by simp [hc, Value.oneCell'])
theorem idld {I : Nat} {g n : Int} {ty : TypeId} {W : World} (k : Rg.Bk I [.int .i64 g, .int .i64 n] ty W) : (loadVar 31 ⟨I, 0, none⟩).run Tryz.prog W = .ok (.agg #[.int .i64 g, .int .i64 n]) W :=
  Rg.row_loadVar (CS := #[.int .i64 g, .int .i64 n]) k Tryz.underlying31 rfl idU
/-- a job's cells -/
def jc (j : Job.Jb) : List Value := [.int .i64 j.g, .int .i64 j.n, .int .i64 j.k, .string j.u, .string j.f, .string j.t, .string j.c, .int .i64 j.z]
theorem jld {J : Nat} {j : Job.Jb} {ty : TypeId} {W : World} (k : Rg.Bk J (jc j) ty W) : (loadVar 33 ⟨J, 0, none⟩).run Tryz.prog W = .ok (.agg (jc j).toArray) W :=
  Rg.row_loadVar (CS := (jc j).toArray) k Tryz.underlying33 rfl jobU
/-- a job's id -/
theorem jidld {J : Nat} {j : Job.Jb} {ty : TypeId} {W : World} (k : Rg.Bk J (jc j) ty W) : (loadVar 31 ⟨J, 0, none⟩).run Tryz.prog W = .ok (.agg #[.int .i64 j.g, .int .i64 j.n]) W := by
  have hr : W.rangeAt J 0 [.int .i64 j.g, .int .i64 j.n] := fun i v hv => by
    have hi : i < 2 := (List.getElem?_eq_some_iff.1 hv).1
    rw [Nat.zero_add, k.cell, ← hv]
    match i, hi with
    | 0, _ => rfl
    | 1, _ => rfl
  exact run_loadVar_mid (P := Tryz.prog) W J 0 31 [.int .i64 j.g, .int .i64 j.n] _ hr Tryz.underlying31 rfl idU

/-- a disk in a block of its own -/
structure DB (B : Nat) (CS : Array Value) (d : Dsk.Dk) (W : World) : Prop where
  bk : Rg.Bk B CS.toList 28 W
  dt : DAt W (.agg CS) d
theorem DAt.cells {W : World} {CS : Array Value} {d : Dsk.Dk} (h : DAt W (.agg CS) d) : ∃ sa sc oa oc, CS = #[.slice sa d.safe.length sc, .slice oa d.ops.length oc, .int .i64 d.cap, .int .i64 d.fuse, .bool d.down] := by
  obtain ⟨sa, sc, oa, oc, e, _⟩ := h
  exact ⟨sa, sc, oa, oc, by injection e⟩
theorem DAt.agg {W : World} {v : Value} {d : Dsk.Dk} (h : DAt W v d) : ∃ CS : Array Value, v = .agg CS := by
  obtain ⟨sa', sc', oa', oc', rfl, h2⟩ := id h
  exact ⟨_, rfl⟩
theorem DB.new {W : World} {CS : Array Value} {d : Dsk.Dk} (h : DAt W (.agg CS) d) : DB W.heap.size CS d (W.alloc (.cells CS 28)) := ⟨Rg.Bk.new rfl, h.below (Rg.al1 _ _)⟩
theorem DB.lt {B : Nat} {CS : Array Value} {d : Dsk.Dk} {W : World} (h : DB B CS d W) : B < W.heap.size := h.bk.lt
theorem DB.below {B : Nat} {CS : Array Value} {d : Dsk.Dk} {W W' : World} (h : DB B CS d W) (hb : Below W.heap.size W W') : DB B CS d W' := ⟨h.bk.below hb h.bk.lt, h.dt.below hb⟩
theorem DB.drew {B : Nat} {CS : Array Value} {d : Dsk.Dk} {W : World} (h : DB B CS d W) : DB B CS d W.drew := ⟨h.bk.drew, h.dt⟩
theorem DB.old {B : Nat} {CS : Array Value} {d : Dsk.Dk} {W : World} (h : DB B CS d W) (o : Obj) : DB B CS d (W.alloc o) := h.below (Rg.al1 _ _)
theorem DB.ld {B : Nat} {CS : Array Value} {d : Dsk.Dk} {W : World} (h : DB B CS d W) : (loadVar 28 ⟨B, 0, none⟩).run Tryz.prog W = .ok (.agg CS) W := by
  obtain ⟨sa, sc, oa, oc, e⟩ := h.dt.cells
  subst e
  exact Rg.row_loadVar h.bk Tryz.underlying28 rfl diskU
theorem DAt.onlyB {B : Nat} {CS : Array Value} {d0 d : Dsk.Dk} {v : Value} {W W' : World} (h : DAt W v d) (h0 : DB B CS d0 W) (ho : Rg.Only B W W') : DAt W' v d := by
  obtain ⟨sa, sc, oa, oc, e⟩ := h0.dt.cells
  have k := h0.bk
  subst e
  exact h.only k plainD ho
theorem DB.st {B : Nat} {CS CS' : Array Value} {d d' : Dsk.Dk} {W : World} (h : DB B CS d W) (h' : DAt W (.agg CS') d') : ∃ W', (storeVar 28 ⟨B, 0, none⟩ (.agg CS')).run Tryz.prog W = .ok () W' ∧ DB B CS' d' W' ∧ Rg.Only B W W' := by
  obtain ⟨sa, sc, oa, oc, e⟩ := h.dt.cells
  obtain ⟨sa', sc', oa', oc', e'⟩ := h'.cells
  have k := h.bk
  subst e
  obtain ⟨W', h3, h4, h5⟩ := Rg.row_storeVar (P := Tryz.prog) (t := 28) (CS := CS') k (by rw [e']; exact diskU) (by rw [e']; rfl) (by rw [e']; simp [Value.oneCell'])
  exact ⟨W', h3, ⟨h4, h'.only k plainD h5⟩, h5⟩
/-- another block is stored into -/
theorem DB.only {B R : Nat} {CS CR : Array Value} {d dr : Dsk.Dk} {W W' : World} (h : DB B CS d W) (hr : DB R CR dr W) (hne : B ≠ R) (ho : Rg.Only R W W') : DB B CS d W' := ⟨h.bk.same (ho.block B hne), h.dt.onlyB hr ho⟩
theorem DB.down {B : Nat} {CS : Array Value} {d : Dsk.Dk} {W : World} (h : DB B CS d W) : W.cell? ⟨B, 4, none⟩ = some (.bool d.down) := by
  obtain ⟨sa, sc, oa, oc, e⟩ := h.dt.cells
  have k := h.bk
  subst e
  exact k.cell 4
theorem DB.cap {B : Nat} {CS : Array Value} {d : Dsk.Dk} {W : World} (h : DB B CS d W) : W.cell? ⟨B, 2, none⟩ = some (.int .i64 d.cap) := by
  obtain ⟨sa, sc, oa, oc, e⟩ := h.dt.cells
  have k := h.bk
  subst e
  exact k.cell 2
/-- the zero value -/
def zdk : Dsk.Dk := ⟨[], [], 0, 0, false⟩
theorem zdk_at (W : World) : DAt W (.agg #[.slice none 0 0, .slice none 0 0, .int .i64 0, .int .i64 0, .bool false]) zdk := ⟨none, 0, none, 0, rfl, .inl ⟨rfl, rfl⟩, .inl ⟨rfl, rfl⟩, Nat.le_refl _, Nat.le_refl _⟩
/-- what a call that answers a disk and an error leaves -/
def V2Post (w : World) (r : Dsk.Dk × Int) (e : Ending) (w' : World) : Prop := ∃ CS, e = .returned (.tuple #[.agg CS, .int .i64 r.2]) ∧ Hid (DAt w' (.agg CS) r.1) ∧ Hid (Below w.heap.size w w')
theorem DPost.v2 {w : World} {r : Dsk.Dk × Int} {e : Ending} {w' : World} (h : DPost w r e w') : V2Post w r e w' := by
  obtain ⟨v, h1, h2, h3⟩ := h
  obtain ⟨CS, rfl⟩ := h2.agg
  exact ⟨CS, h1, h2, h3⟩
/-- the zero disk's cells -/
def zcD : Array Value := #[.slice none 0 0, .slice none 0 0, .int .i64 0, .int .i64 0, .bool false]
/-- a disk, an id, a result -/
theorem boxD3 (w : World) (CS : Array Value) (d : Dsk.Dk) (hd : DAt w (.agg CS) d) (L1 : List Value) (t1 : TypeId) :
    Hid (DB w.heap.size CS d (((w.alloc (.cells CS 28)).alloc (.cells L1.toArray t1)).alloc (.cells #[.slice none 0 0, .slice none 0 0, .int .i64 0, .int .i64 0, .bool false] 28))) ∧
    Hid (Rg.Bk (w.heap.size + 1) L1 t1 (((w.alloc (.cells CS 28)).alloc (.cells L1.toArray t1)).alloc (.cells #[.slice none 0 0, .slice none 0 0, .int .i64 0, .int .i64 0, .bool false] 28))) ∧
    Hid (DB (w.heap.size + 2) zcD zdk (((w.alloc (.cells CS 28)).alloc (.cells L1.toArray t1)).alloc (.cells #[.slice none 0 0, .slice none 0 0, .int .i64 0, .int .i64 0, .bool false] 28))) ∧
    Hid (Below w.heap.size w (((w.alloc (.cells CS 28)).alloc (.cells L1.toArray t1)).alloc (.cells #[.slice none 0 0, .slice none 0 0, .int .i64 0, .int .i64 0, .bool false] 28))) :=
  ⟨((DB.new hd).old _).old _, (Rg.Bk.new (by simp)).old _, ⟨Rg.Bk.new (by simp), zdk_at _⟩, Rg.al3 w _ _ _⟩
end Go.Proofs.YtmilfamjkiemaaaGreatDoor

namespace Go.Proofs.YtmilfamjkiemaaaGreatDoor
namespace Spl
open Dsk

/-- the name of a file of a job -/
def fn (k : Int) (s : ByteArray) (g n : Int) : ByteArray := ba (Nam.file k s.data.toList g n).1
/-- the bytes of a file; none where it is not there -/
def rd (l : List Fl) (n : ByteArray) : ByteArray := (get l n).getD ⟨#[]⟩
/-- the job that a file's text says -/
def said (l : List Fl) (n : ByteArray) : Job.Jb × Int := Job.parse (rd l n).data.toList
/-- a job that files say: its text in a file of that kind, its bytes in the one of D -/
def held (l : List Fl) (k : Int) (s : ByteArray) (g n : Int) : Option Hd :=
  if (said l (fn k s g n)).2 = 0 ∧ (said l (fn k s g n)).1.g = g ∧ (said l (fn k s g n)).1.n = n then
    if k = 69 ∨ (said l (fn k s g n)).1.k = 3 then some ⟨s, (said l (fn k s g n)).1, ⟨#[]⟩⟩
    else match get l (fn 68 s g n) with
      | none => none
      | some x => if (x.size : Int) = (said l (fn k s g n)).1.z then some ⟨s, (said l (fn k s g n)).1, x⟩ else none
  else none
/-- a file's job, of that kind, of that system or of all -/
def pick (l : List Fl) (k : Int) (sys : ByteArray) (f : Fl) : Option Hd :=
  if (Nam.pfile f.n.data.toList).2.2.2.2 = 0 ∧ (Nam.pfile f.n.data.toList).1 = k ∧ (sys = ⟨#[]⟩ ∨ ba (Nam.pfile f.n.data.toList).2.1 = sys) then
    held l k (ba (Nam.pfile f.n.data.toList).2.1) (Nam.pfile f.n.data.toList).2.2.1 (Nam.pfile f.n.data.toList).2.2.2.1
  else none
def jobs (d : Dk) (k : Int) (sys : ByteArray) : List Hd := (files d).filterMap (pick (files d) k sys)

theorem held_eq {l : List Fl} {k : Int} {s : ByteArray} {g n : Int} {h : Hd} (e : held l k s g n = some h) : h.s = s ∧ h.j.g = g ∧ h.j.n = n := by
  unfold held at e
  split at e
  · next q =>
    split at e
    · injection e with e; subst e; exact ⟨rfl, q.2.1, q.2.2⟩
    · split at e
      · cases e
      · split at e
        · injection e with e; subst e; exact ⟨rfl, q.2.1, q.2.2⟩
        · cases e
  · cases e
/-- a file's job bears the file's name -/
theorem pick_name {l : List Fl} {k : Int} {sys : ByteArray} {f : Fl} {h : Hd} (e : pick l k sys f = some h) : f.n = fn k h.s h.j.g h.j.n ∧ (sys = ⟨#[]⟩ ∨ h.s = sys) ∧ held l k h.s h.j.g h.j.n = some h := by
  unfold pick at e
  split at e
  · next q =>
    obtain ⟨h1, h2, h3⟩ := held_eq e
    obtain ⟨q1, q2, q3, q4⟩ := Nam.file_pfile q.1
    refine ⟨?_, ?_, by rw [h1, h2, h3]; exact e⟩
    · unfold fn
      rw [h1, h2, h3, ba_list, ← q.2.1]
      unfold Nam.file
      rw [if_neg (by simp [q1]), if_neg (by simp [q2]), if_neg (by simp [q3])]
      rw [q4]
      rfl
    · rw [h1]; exact q.2.2
  · cases e
theorem fn_inj {k : Int} {a b : Hd} (h : key a = key b) : fn k a.s a.j.g a.j.n = fn k b.s b.j.g b.j.n := by
  unfold key at h
  injection h with h1 h2
  injection h2 with h2 h3
  rw [h1, h2, h3]
theorem jobs_apart {l : List Fl} (m : List Fl) (k : Int) (sys : ByteArray) (hm : Srt m) : (m.filterMap (pick l k sys)).Pairwise fun a b => key a ≠ key b := by
  refine List.Pairwise.filterMap (S := fun a b => key a ≠ key b) _ (fun f f' hlt h hh h' hh' => ?_) hm
  intro c
  have e1 := (pick_name hh).1
  have e2 := (pick_name hh').1
  rw [fn_inj c] at e1
  rw [e1, ← e2] at hlt
  exact absurd hlt (by rw [lt_irrefl]; simp)

/-- the number that the next job gets -/
def numF : ByteArray := ⟨#[78]⟩
def next (l : List Fl) : Int := if (Oct.number (rd l numF).data.toList).2 = 0 ∧ 1 ≤ (Oct.number (rd l numF).data.toList).1 then ((Oct.number (rd l numF).data.toList).1 : Int) else 1
/-- the text of a job that may be queued; else why not -/
def may (d : Dk) (s : ByteArray) (j : Job.Jb) (x : ByteArray) : ByteArray × Int :=
  if d.down = true then (⟨#[]⟩, 9) else if Nam.system s.data.toList = false then (⟨#[]⟩, 11) else if 6000 < x.size then (⟨#[]⟩, 5)
  else if j.k = 3 ∧ x ≠ ⟨#[]⟩ then (⟨#[]⟩, 1) else if 99999 < j.n then (⟨#[]⟩, 8) else if 40 ≤ (jobs d 67 ⟨#[]⟩).length then (⟨#[]⟩, 8)
  else if Job.chk j ≠ 0 then (⟨#[]⟩, (Job.chk j : Int))
  else if ((used (files d) + x.size + (Job.txt j).length + 60 : Nat) : Int) > d.cap then (⟨#[]⟩, 8) else (ba (Job.txt j), 0)
/-- the files of a job, all synced -/
def lay (d : Dk) (s : ByteArray) (j : Job.Jb) (t x : ByteArray) : Dk × Int :=
  let r1 := write d numF (ba (Lib.itoa (j.n + 1)))
  let r2 := if r1.2 = 0 ∧ j.k ≠ 3 then write r1.1 (fn 68 s j.g j.n) x else r1
  let r3 := if r2.2 = 0 then write r2.1 (fn 67 s j.g j.n) t else r2
  if r3.2 = 0 then sync r3.1 else r3
def numbered (d : Dk) (j : Job.Jb) (x : ByteArray) : Job.Jb := { j with n := next (files d), z := x.size }
/-- P18.2: Queue: the disk, the id, the error -/
def queue (d : Dk) (s : ByteArray) (j : Job.Jb) (x : ByteArray) : Dk × (Int × Int) × Int :=
  let J := numbered d j x
  let m := may d s J x
  if m.2 = 0 then
    let r := lay d s J m.1 x
    if r.2 = 0 then (r.1, (J.g, J.n), 0) else (r.1, (0, 0), r.2)
  else (d, (0, 0), m.2)
/-- P18.4 -/
def load (d : Dk) (s : ByteArray) (g n : Int) : Hd × Int :=
  if d.down = true then (Hd.zero, 9) else match held (files d) 67 s g n with | none => (Hd.zero, 6) | some h => (h, 0)
def leave (d : Dk) (s : ByteArray) (g n : Int) : Dk × Int :=
  let r := remove d (fn 68 s g n)
  if r.2 ≠ 0 ∧ r.2 ≠ 6 then r else sync r.1
/-- P18.5 -/
def done (d : Dk) (s : ByteArray) (g n : Int) : Dk × Int :=
  if (load d s g n).2 ≠ 0 then (d, (load d s g n).2) else
    let r := remove d (fn 67 s g n)
    if r.2 ≠ 0 then r else leave r.1 s g n
def fail (d : Dk) (s : ByteArray) (g n : Int) : Dk × Int :=
  if (load d s g n).2 ≠ 0 then (d, (load d s g n).2) else
    let r := rename d (fn 67 s g n) (fn 69 s g n)
    if r.2 ≠ 0 then r else leave r.1 s g n
end Spl
end Go.Proofs.YtmilfamjkiemaaaGreatDoor

namespace Go.Proofs.YtmilfamjkiemaaaGreatDoor
open Go.RowKit

set_option maxHeartbeats 1000000 in
theorem sbyName_any (f d n : ByteArray) (w : World) :
    Calls Tryz.prog 115 #[.agg #[.string f, .string d], .string n] w fun e w' => e = .returned (.int .i64 (Dsk.cmp f n)) ∧ Below w.heap.size w w' := by
  have H : Hid (∀ w, Calls Tryz.prog 140 #[.string f, .string n] w fun e w' => e = .returned (.int .i64 (Dsk.cmp f n)) ∧ w' = w) := compare_any f n
  go_enter Tryz.func115, Tryz.ntmps115
  go_wp2_with (go_at_call 140; refine (H.out _).mono ?_; rintro e w' ⟨rfl, rfl⟩)
  go_ret
  exact ⟨rfl, Rg.al1 _ _⟩

set_option maxHeartbeats 4000000 in
set_option maxRecDepth 100000 in
theorem ssearch_row (b o c : Nat) (l : List Dsk.Fl) (n : ByteArray) (w : World) (hs : Dsk.Srt l) (hn : l.length ≤ 1000000000) (hb : b < w.heap.size) (hrow : Rg.At w b o (fileE.flat l)) :
    Calls Tryz.prog 114 #[.slice (some ⟨b, o, none⟩) l.length c, .string n, .func (.func 115) #[] #[]] w fun e w' => FindPost l n w e w' := by
  have hs' := Rg.hid hs
  have hrow' := Rg.hid hrow
  obtain ⟨N, hN⟩ : ∃ N, N = l.length := ⟨_, rfl⟩
  have hN1 : N ≤ 1000000000 := by omega
  have hst : Hid (Dsk.Sea l n 0 N) := by rw [hN]; exact Dsk.Sea.start l n
  rw [← hN]
  replace hN := Rg.hid hN
  clear hs hn hrow
  go_enter Tryz.func114, Tryz.ntmps114
  go_wp2
  go_loopw [9, 10] (fun vi vj wr => ∃ (i j : Nat), i ≤ j ∧ j ≤ N ∧ Hid (Dsk.Sea l n i j) ∧ vi = .int .i64 i ∧ vj = .int .i64 j ∧ Below w.heap.size w wr) (fun vi vj _ => (intOf vj).toNat - (intOf vi).toNat)
  case atStart => exact ⟨0, N, Nat.zero_le _, Nat.le_refl _, hst, rfl, rfl, Below.refl _ _⟩
  case round =>
    obtain ⟨i, j, hij, hjb, hsea, rfl, rfl, hbw⟩ := hrel
    by_cases hlt : i < j
    · obtain ⟨h, hh⟩ : ∃ h : Nat, h = (i + j) / 2 := ⟨_, rfl⟩
      have e1 : ((i : Int) + (j : Int)) / 2 = (h : Int) := by omega
      have hm1 : i ≤ h := by omega
      have hm2 : h < j := by omega
      have hl : h < l.length := by rw [← hN.out]; omega
      have hup : Hid (Dsk.lt l[h].n n = true → Dsk.Sea l n (h + 1) j) := fun hx => hsea.out.up hs'.out hm2 hl hx
      have hdn : Hid (Dsk.lt l[h].n n = false → Dsk.Sea l n i h) := fun hx => hsea.out.down hs'.out hm1 hl hx
      have at1 : Rg.At wr b (o + h * 2) (fileE.enc l[h]) := (hrow'.out.elem hl).below hbw hb
      have hcn := Dsk.cmp_neg l[h].n n
      generalize Dsk.lt l[h].n n = lv at *
      generalize l[h] = x at *
      obtain ⟨xn, xd⟩ := x
      obtain ⟨c0, c1⟩ := file_at at1
      have HC : Hid (∀ W, Below w.heap.size w W → Calls Tryz.prog 115 #[.agg #[.string xn, .string xd], .string n] W fun e w' => e = .returned (.int .i64 (Dsk.cmp xn n)) ∧ Below w.heap.size w w') := fun W hW => (sbyName_any xn xd n W).mono fun e w' ⟨h1, h2⟩ => ⟨h1, Rg.chain hW h2⟩
      dsimp only at hcn
      generalize Dsk.cmp xn n = cv at *
      have hz0 : (0 : Int) ≤ (h : Int) := by omega
      have hz1 : (h : Int) < (N : Int) := by omega
      clear hh hl at1
      cases lv
      · go_wp2_with (go_at_call 115; refine (HC.out _ hbw).mono ?_; rintro e w' ⟨rfl, hb'⟩)
        go_roundw
        case rel => exact ⟨i, h, hm1, by omega, hdn.out (by first | rfl | trivial), rfl, rfl, hb'⟩
        case measure => simp [intOf]; omega
      · go_wp2_with (go_at_call 115; refine (HC.out _ hbw).mono ?_; rintro e w' ⟨rfl, hb'⟩)
        go_roundw
        case rel => exact ⟨h + 1, j, hm2, hjb, hup.out (by first | rfl | trivial), by go_num, rfl, hb'⟩
        case measure => simp [intOf]; omega
    · obtain rfl : i = j := by omega
      have hp := Rg.hid hsea.out.done
      by_cases hi : i < N
      · have hl : i < l.length := by rw [← hN.out]; exact hi
        have at1 : Rg.At wr b (o + i * 2) (fileE.enc l[i]) := (hrow'.out.elem hl).below hbw hb
        have hh : Hid (Dsk.has l n = (Dsk.cmp l[i].n n == 0)) := by
          show _ = _
          have hp' := hp.out
          subst hp'
          rw [Dsk.cmp_zero, Dsk.has_pos hl]
        generalize l[i] = x at *
        obtain ⟨xn, xd⟩ := x
        obtain ⟨c0, c1⟩ := file_at at1
        have HC : Hid (∀ W, Below w.heap.size w W → Calls Tryz.prog 115 #[.agg #[.string xn, .string xd], .string n] W fun e w' => e = .returned (.int .i64 (Dsk.cmp xn n)) ∧ Below w.heap.size w w') := fun W hW => (sbyName_any xn xd n W).mono fun e w' ⟨h1, h2⟩ => ⟨h1, Rg.chain hW h2⟩
        dsimp only at hh
        have hz0 : (0 : Int) ≤ (i : Int) := by omega
        have hz1 : (i : Int) < (N : Int) := by omega
        have dlt : decide ((i : Int) < (N : Int)) = true := by simp; omega
        have dlt' : decide (i < N) = true := by simp; omega
        clear at1 hl
        go_wp2_with (go_at_call 115; refine (HC.out _ hbw).mono ?_; rintro e w' ⟨rfl, hb'⟩)
        go_ret2
        exact ⟨ret_ib (by rw [← hp.out]) hh.out.symm, hb'⟩
      · have hh : Hid (Dsk.has l n = false) := by
          show _ = _
          exact Dsk.has_end (by rw [← hp.out, ← hN.out]; exact hi)
        have dlt : decide ((i : Int) < (N : Int)) = false := by simp; omega
        have dlt' : decide (i < N) = false := by simp; omega
        go_wp2
        go_ret2
        exact ⟨ret_ib (by rw [← hp.out]) hh.out.symm, hbw⟩

set_option maxHeartbeats 1000000 in
theorem ssearch_none (c : Nat) (n : ByteArray) (w : World) :
    Calls Tryz.prog 114 #[.slice none 0 c, .string n, .func (.func 115) #[] #[]] w fun e w' => FindPost [] n w e w' := by
  go_enter Tryz.func114, Tryz.ntmps114
  go_wp2
  go_loopw [9, 10] (fun vi vj wr => vi = .int .i64 0 ∧ vj = .int .i64 0 ∧ wr = w) (fun _ _ _ => 0)
  case atStart => exact ⟨rfl, rfl, rfl⟩
  case round =>
    obtain ⟨rfl, rfl, rfl⟩ := hrel
    go_wp2
    go_ret2
    exact ⟨rfl, Below.refl _ _⟩


set_option maxHeartbeats 1000000 in
set_option maxRecDepth 100000 in
theorem sread_any (a : Option Addr) (c : Nat) (l : List Dsk.Fl) (n : ByteArray) (w : World) (hs : Dsk.Srt l) (hn : l.length ≤ 1000000000) (hrow : fileE.Row w a l) :
    Calls Tryz.prog 79 #[.slice a l.length c, .string n] w fun e w' => e = .returned (.tuple #[.string (Spl.rd l n), .bool (Dsk.has l n)]) ∧ Below w.heap.size w w' := by
  have H : Hid (Calls Tryz.prog 114 #[.slice a l.length c, .string n, .func (.func 115) #[] #[]] w fun e w' => e = .returned (.tuple #[.int .i64 (Dsk.pos l n), .bool (Dsk.has l n)]) ∧ Below w.heap.size w w') := by
    rcases hrow with ⟨rfl, rfl⟩ | ⟨b, o, rfl, hb, hr⟩
    · exact ssearch_none c n w
    · exact ssearch_row b o c l n w hs hn hb hr
  cases hh : Dsk.has l n
  · have hr : Spl.rd l n = ⟨#[]⟩ := by
      unfold Spl.rd
      unfold Dsk.has at hh
      cases e : Dsk.get l n with
      | none => rfl
      | some x => rw [e] at hh; cases hh
    rw [hr]
    rw [hh] at H
    generalize l.length = N at *
    generalize Dsk.pos l n = p at *
    clear hs hrow hh hr
    go_enter Tryz.func79, Tryz.ntmps79
    go_wp2_with (go_at_call 114; refine H.out.mono ?_; rintro e w' ⟨rfl, hb⟩)
    go_ret2
    exact ⟨rfl, hb⟩
  · obtain ⟨x, hg⟩ : ∃ x, Dsk.get l n = some x := Option.isSome_iff_exists.1 hh
    have hr : Spl.rd l n = x := by unfold Spl.rd; rw [hg]; rfl
    obtain ⟨hp, hpn, hpd⟩ := Dsk.get_some_iff.1 hg
    rw [hr]
    rw [hh] at H
    obtain ⟨b, o, rfl, hb, hat⟩ : ∃ b o, a = some ⟨b, o, none⟩ ∧ b < w.heap.size ∧ Rg.At w b o (fileE.flat l) := by
      rcases hrow with ⟨_, e⟩ | h
      · subst e; simp at hp
      · exact h
    have hcell : Hid (∀ W', Below w.heap.size w W' → W'.cell? ⟨b, o + Dsk.pos l n * 2 + 1, none⟩ = some (.string x)) := fun W' hW => by
      obtain ⟨_, q1⟩ := file_at (show Rg.At W' b (o + Dsk.pos l n * 2) (fileE.enc ⟨l[Dsk.pos l n].n, l[Dsk.pos l n].d⟩) from (hat.elem hp).below hW hb)
      rw [hpd] at q1
      exact q1
    have e0 : (0 : Int) ≤ (Dsk.pos l n : Int) := by omega
    have e1 : (Dsk.pos l n : Int) < (l.length : Int) := by omega
    clear hs hrow hh hr hg hpn hpd hat hp
    generalize Dsk.pos l n = p at *
    generalize l.length = N at *
    go_enter Tryz.func79, Tryz.ntmps79
    go_wp2_with (go_at_call 114; refine H.out.mono ?_; rintro e w' ⟨rfl, hb⟩; have q := hcell.out _ hb)
    go_ret2
    exact ⟨rfl, hb⟩
end Go.Proofs.YtmilfamjkiemaaaGreatDoor
