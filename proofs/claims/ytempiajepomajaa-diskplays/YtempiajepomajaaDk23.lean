/-
  Layer 6: rows of rows of files (the states of DiskBegins); mathematics of DiskBegins.
-/
import Derived.Test.YtempiajepomajaaDk22
import Derived.Test.YtempiajepomajaaRowI
namespace Go.Proofs.Ytempiajepomajaa
open Go.RowKit

/-- a slice of files as a value -/
structure Hd where
  a : Option Addr
  n : Nat
  c : Nat
def hdE : Rg.El Hd := { enc := fun h => [.slice h.a h.n h.c], m := 1, hm := fun _ => rfl, pos := by decide, one := fun x u hu => by simp at hu; subst hu; rfl, ty := 25 }
theorem hd_at {W : World} {b o : Nat} {h : Hd} (hh : Rg.At W b o (hdE.enc h)) : W.cell? ⟨b, o, none⟩ = some (.slice h.a h.n h.c) := hh 0 _ rfl
theorem infoHd : (Try.prog.info? 25).map (fun i => (i.zero, i.size, i.bytes)) = some (some (.slice none 0 0), 1, 24) := by kernel_rfl
theorem infoHd' : ∃ i0, Try.prog.info? 25 = some i0 ∧ i0.zero = some (.slice none 0 0) ∧ i0.size = 1 ∧ i0.bytes = 24 := by
  have := infoHd
  cases h : Try.prog.info? 25 with
  | none => rw [h] at this; cases this
  | some i => rw [h] at this; simp only [Option.map_some, Option.some.injEq, Prod.mk.injEq] at this; exact ⟨i, rfl, this.1, this.2.1, this.2.2⟩
/-- no text -/
def NoStr (u : Value) : Prop := ∀ s, u ≠ .string s
theorem hd_plain (hs : List Hd) : ∀ u ∈ hdE.flat hs, NoStr u := by
  intro u hu
  unfold Rg.El.flat at hu
  rw [List.mem_flatMap] at hu
  obtain ⟨h, _, hu⟩ := hu
  simp [hdE] at hu
  subst hu
  intro s e; cases e
/-- the states: rows of files, one behind the other -/
structure Sts (base : Nat) (W : World) (g cap : Nat) (hs : List Hd) (rest : List Value) (ls : List (List Dsk.Fl)) : Prop where
  own : hdE.Own base W g cap hs rest
  plain : ∀ u ∈ rest, NoStr u
  len : hs.length = ls.length
  row : ∀ (j : Nat) (h : j < hs.length) (h' : j < ls.length), hs[j].n = ls[j].length ∧ fileE.Row W hs[j].a ls[j]
theorem Sts.bk {base g cap : Nat} {W : World} {hs : List Hd} {rest : List Value} {ls : List (List Dsk.Fl)} (h : Sts base W g cap hs rest ls) : Rg.Bk g (hdE.flat hs ++ rest) 25 W := h.own.blk
theorem Sts.noStr {base g cap : Nat} {W : World} {hs : List Hd} {rest : List Value} {ls : List (List Dsk.Fl)} (h : Sts base W g cap hs rest ls) : ∀ u ∈ hdE.flat hs ++ rest, ∀ s, u ≠ .string s := fun u hu => by
  rcases List.mem_append.1 hu with q | q
  · exact hd_plain hs u q
  · exact h.plain u q
theorem Sts.below {base g cap : Nat} {W W' : World} {hs : List Hd} {rest : List Value} {ls : List (List Dsk.Fl)} (h : Sts base W g cap hs rest ls) (hb : Below W.heap.size W W') : Sts base W' g cap hs rest ls :=
  ⟨h.own.below hb, h.plain, h.len, fun j h1 h2 => ⟨(h.row j h1 h2).1, (h.row j h1 h2).2.below hb⟩⟩
theorem Sts.only {base g cap V : Nat} {W W' : World} {hs : List Hd} {rest : List Value} {ls : List (List Dsk.Fl)} {C : List Value} {ty : TypeId} (h : Sts base W g cap hs rest ls) (k : Rg.Bk V C ty W) (hC : ∀ u ∈ C, ∀ s, u ≠ .string s) (hne : g ≠ V) (ho : Rg.Only V W W') : Sts base W' g cap hs rest ls :=
  ⟨h.own.same (ho.block g hne), h.plain, h.len, fun j h1 h2 => ⟨(h.row j h1 h2).1, (h.row j h1 h2).2.only k 0 (by decide) (fun x u hu e => hC u hu x.n (by simpa [fileE] using e.symm)) ho⟩⟩
theorem DAt.turned {W W' : World} {v : Value} {d : Dsk.Dk} {R : Nat} {C : List Value} {ty : TypeId} (h : DAt W v d) (k : Rg.Bk R C ty W) (hC : ∀ u ∈ C, ∀ s, u ≠ .string s) (hs : W.heap.size ≤ W'.heap.size) (ho : ∀ j, j < W.heap.size → j ≠ R → W'.heap[j]? = W.heap[j]?) : DAt W' v d := by
  obtain ⟨sa, sc, oa, oc, h1, h2, h3, h4, h5⟩ := h
  refine ⟨sa, sc, oa, oc, h1, h2.turned k 0 (by decide) (fun x u hu e => ?_) hs ho, h3.turned k 1 (by decide) (fun x u hu e => ?_) hs ho, h4, h5⟩
  · exact hC u hu x.n (by simpa [fileE] using e.symm)
  · exact hC u hu x.n (by simpa [opE] using e.symm)
theorem DVar.turned {V : Nat} {W W' : World} {d : Dsk.Dk} {R : Nat} {C : List Value} {ty : TypeId} (h : DVar V W d) (k : Rg.Bk R C ty W) (hC : ∀ u ∈ C, ∀ s, u ≠ .string s) (hne : V ≠ R) (hs : W.heap.size ≤ W'.heap.size) (ho : ∀ j, j < W.heap.size → j ≠ R → W'.heap[j]? = W.heap[j]?) : DVar V W' d := by
  obtain ⟨sa', sn', sc', oa', on', oc', cp', fs', dn', kV, hD⟩ := h
  exact ⟨sa', sn', sc', oa', on', oc', cp', fs', dn', kV.same (ho V kV.lt hne), hD.turned k hC hs ho⟩
namespace Dsk
/-- a disk that lasts, of which nothing went down -/
structure Ever (d : Dk) : Prop where
  ok : Ok d
  fuse : d.fuse = -1
  down : d.down = false
theorem Ever.new (n : Int) : Ever (new n) := ⟨new_ok n, rfl, rfl⟩
theorem Ever.play {d : Dk} (h : Ever d) (c : Cl) (hw : Wt d + c.x.size + 16 ≤ 10000000000) (hm : c.m ≤ 9223372036854775807) (hk : c.k ≤ 5) : Ever (Dsk.play d c).1 := by
  have hok := (play_ok h.ok c hw hm).1
  by_cases hk4 : 1 ≤ c.k ∧ c.k ≤ 4
  · obtain ⟨o, _, _, _, _, q | ⟨_, _, q⟩⟩ := do_cases d c hk4.1 hk4.2
    · obtain ⟨e, _, q⟩ := q
      rw [q]; exact h
    · rw [q, operate_ever h.fuse] at hok ⊢
      exact ⟨hok, h.fuse, h.down⟩
  · rcases play_other d c hk4 with ⟨_, e⟩ | ⟨e, _⟩ | ⟨e, _⟩ | ⟨e, _⟩ | ⟨_, e⟩
    · rw [e, sync_ever h.fuse h.down] at hok ⊢
      exact ⟨hok, h.fuse, h.down⟩
    · omega
    · omega
    · omega
    · rw [e] at hok ⊢; exact ⟨hok, h.fuse, rfl⟩
theorem Ever.sync {d : Dk} (h : Ever d) : Ever (settle d d.ops.length) := ⟨settle_ok h.ok _, h.fuse, h.down⟩
/-- the four that do something: nothing, or one operation more -/
theorem Ever.one {d : Dk} (h : Ever d) (c : Cl) (hk : 1 ≤ c.k) (hk' : c.k ≤ 4) : ((Dsk.play d c).2 ≠ 0 ∧ (Dsk.play d c).1 = d) ∨ ((Dsk.play d c).2 = 0 ∧ ∃ o, (Dsk.play d c).1 = note d o) := by
  obtain ⟨o, _, _, _, _, q | ⟨_, _, q⟩⟩ := do_cases d c hk hk'
  · obtain ⟨e, he, q⟩ := q
    rw [q]; exact .inl ⟨he, rfl⟩
  · rw [q, operate_ever h.fuse]; exact .inr ⟨rfl, o, rfl⟩
/-- the states of a disk since it was synced -/
def states (d : Dk) : List (List Fl) := (List.range (d.ops.length + 1)).map fun j => behind d.safe (d.ops.take j)
theorem states_len (d : Dk) : (states d).length = d.ops.length + 1 := by simp [states]
theorem states_at (d : Dk) (j : Nat) (h : j < (states d).length) : (states d)[j] = behind d.safe (d.ops.take j) := by simp [states]
theorem states_note (d : Dk) (o : Dop) (hd : d.down = false) : states (note d o) = states d ++ [files (note d o)] := by
  unfold states
  have e : (note d o).ops.length + 1 = (d.ops.length + 1) + 1 := by simp [note]
  rw [e, List.range_succ (n := d.ops.length + 1), List.map_append]
  congr 1
  · apply List.map_congr_left
    intro j hj
    have : j ≤ d.ops.length := by have := List.mem_range.1 hj; omega
    show behind d.safe ((d.ops ++ [o]).take j) = _
    rw [List.take_append_of_le_length this]
  · show [behind d.safe ((d.ops ++ [o]).take (d.ops.length + 1))] = _
    rw [List.take_of_length_le (by simp)]
    unfold files
    rw [if_neg (by show ¬ d.down = true; rw [hd]; simp)]
    rfl
theorem states_settled (d : Dk) (hd : d.down = false) : states (settle d d.ops.length) = [files (settle d d.ops.length)] := by
  unfold files
  rw [if_neg (by show ¬ d.down = true; rw [hd]; simp)]
  rfl
theorem crash_files (d : Dk) (n : Int) : files (start (crash d n)) = behind d.safe (d.ops.take (keep n d.ops.length)) := rfl
theorem keep_max (n : Int) (m : Nat) : max 0 (min n (m : Int)) = (keep n m : Int) := by unfold keep; omega
end Dsk
end Go.Proofs.Ytempiajepomajaa
