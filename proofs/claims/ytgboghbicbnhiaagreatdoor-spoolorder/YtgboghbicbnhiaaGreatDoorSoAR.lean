/-
  Layer 6: mathematics of a disk that knows no law of layer 6; a variable that holds a disk (out of Dk17 to Dk21). A whole struct loaded, stored, handed back; an operation of a drawn region taken, its side conditions as default arguments. No program in it. Layers 18 to 20: a disk, an id, a job, a job with its bytes in a block of their own, loaded and stored as one step.
-/
import Derived.Test.YtgboghbicbnhiaaGreatDoorSoAQ
import Derived.OwnWalk
import Derived.Test.YtgboghbicbnhiaaGreatDoorSoAG
import Derived.Deep.RegionHeld3
import Derived.Deep.MidRow
namespace Go.Proofs.YtgboghbicbnhiaaGreatDoor
open Go.RowKit
namespace Dsk
/-- a call -/
structure Cl where
  k : Int
  n : ByteArray
  t : ByteArray
  x : ByteArray
  m : Int
def play (d : Dk) (c : Cl) : Dk × Int :=
  if c.k = 1 then write d c.n c.x else if c.k = 2 then append d c.n c.x else if c.k = 3 then rename d c.n c.t else if c.k = 4 then remove d c.n
  else if c.k = 5 then sync d else if c.k = 6 then (arm d c.m, 0) else if c.k = 7 then (setRoom d c.m, 0) else if c.k = 8 then (crash d c.m, 0) else (start d, 0)
end Dsk
namespace Dsk
theorem new_ok (n : Int) : Ok (new n) := ⟨List.Pairwise.nil, by show 0 + 0 ≤ 10000000000; omega, by show (-1 : Int) ≤ -1; omega, by show (-1 : Int) ≤ _; omega⟩
end Dsk
namespace Dsk

/-- the weight of a disk -/
def Wt (d : Dk) : Nat := used d.safe + wt d.ops
theorem burn_ok {d : Dk} (h : Ok d) : Ok (burn d) := by
  rw [burn_eq]
  have h1 := h.fuse
  have h2 := h.fuse'
  refine ⟨h.srt, h.wt, ?_, ?_⟩
  · show -1 ≤ if d.fuse > 0 then d.fuse - 1 else d.fuse
    split <;> omega
  · show (if d.fuse > 0 then d.fuse - 1 else d.fuse) ≤ _
    split <;> omega
theorem burn_safe (d : Dk) : (burn d).safe = d.safe := by rw [burn_eq]
theorem burn_ops (d : Dk) : (burn d).ops = d.ops := by rw [burn_eq]
theorem burn_cap (d : Dk) : (burn d).cap = d.cap := by rw [burn_eq]
theorem burn_down (d : Dk) : (burn d).down = d.down := by rw [burn_eq]
theorem note_wt (d : Dk) (o : Dop) : Wt (note d o) = Wt d + o.d.size + 16 := by
  show used d.safe + wt (d.ops ++ [o]) = _
  rw [wt_append, wt, wt]; unfold Wt; omega
theorem burn_wt (d : Dk) : Wt (burn d) = Wt d := by unfold Wt; rw [burn_safe, burn_ops]
/-- what an operation leaves -/
theorem operate_cases (d : Dk) (o : Dop) : (d.fuse = 0 ∧ operate d o = ({ d with down := true }, 9)) ∨ (d.fuse ≠ 0 ∧ operate d o = (note (burn d) o, 0)) := by
  by_cases h : d.fuse = 0
  · exact .inl ⟨h, if_pos h⟩
  · exact .inr ⟨h, if_neg h⟩
theorem fill_cases (d : Dk) (o : Dop) : (∃ e, e ≠ 0 ∧ fill d o = (d, e)) ∨ (d.down = false ∧ isName o.n = true ∧ (used (files (note d o)) : Int) ≤ d.cap ∧ fill d o = operate d o) := by
  unfold fill
  by_cases h1 : d.down = true
  · exact .inl ⟨9, by omega, if_pos h1⟩
  · by_cases h2 : isName o.n = true
    · by_cases h3 : (used (files (note d o)) : Int) > d.cap
      · exact .inl ⟨8, by omega, by rw [if_neg h1, if_pos h2, if_pos h3]⟩
      · exact .inr ⟨by simpa using h1, h2, by omega, by rw [if_neg h1, if_pos h2, if_neg h3]⟩
    · exact .inl ⟨11, by omega, by rw [if_neg h1, if_neg h2]⟩
theorem read_err (d : Dk) (n : ByteArray) : (read d n).2 = 0 ↔ d.down = false ∧ has (files d) n = true := by
  unfold read has
  cases h : d.down
  · simp only [Bool.false_eq_true, if_false, true_and]
    cases get (files d) n <;> simp
  · simp
theorem change_cases (d : Dk) (o : Dop) : (∃ e, e ≠ 0 ∧ change d o = (d, e)) ∨ (d.down = false ∧ has (files d) o.n = true ∧ change d o = operate d o) := by
  unfold change
  by_cases h : (read d o.n).2 = 0
  · have := (read_err d o.n).1 h
    exact .inr ⟨this.1, this.2, if_pos h⟩
  · exact .inl ⟨_, h, if_neg h⟩
/-- an operation or none: what the four calls that do something leave -/
theorem do_cases (d : Dk) (c : Cl) (hk : 1 ≤ c.k) (hk' : c.k ≤ 4) : ∃ o : Dop, o.k = c.k ∧ o.n = c.n ∧ (o.t = c.t ∨ o.t = ByteArray.empty) ∧ o.d.size ≤ c.x.size ∧
    ((∃ e, e ≠ 0 ∧ play d c = (d, e)) ∨ (d.down = false ∧ (c.k ≤ 2 → (used (files (note d o)) : Int) ≤ d.cap) ∧ play d c = operate d o)) := by
  unfold play
  by_cases h1 : c.k = 1
  · rw [if_pos h1]
    refine ⟨⟨1, c.n, ByteArray.empty, c.x⟩, h1.symm, rfl, .inr rfl, Nat.le_refl _, ?_⟩
    rcases fill_cases d ⟨1, c.n, ByteArray.empty, c.x⟩ with h | ⟨h2, _, h3, h4⟩
    · exact .inl h
    · exact .inr ⟨h2, fun _ => h3, h4⟩
  rw [if_neg h1]
  by_cases h2 : c.k = 2
  · rw [if_pos h2]
    refine ⟨⟨2, c.n, ByteArray.empty, c.x⟩, h2.symm, rfl, .inr rfl, Nat.le_refl _, ?_⟩
    rcases fill_cases d ⟨2, c.n, ByteArray.empty, c.x⟩ with h | ⟨h2, _, h3, h4⟩
    · exact .inl h
    · exact .inr ⟨h2, fun _ => h3, h4⟩
  rw [if_neg h2]
  by_cases h3 : c.k = 3
  · rw [if_pos h3]
    refine ⟨⟨3, c.n, c.t, ByteArray.empty⟩, h3.symm, rfl, .inl rfl, Nat.zero_le _, ?_⟩
    unfold rename
    by_cases h4 : d.down = true
    · rw [if_pos h4]; exact .inl ⟨9, by omega, rfl⟩
    · rw [if_neg h4]
      by_cases h5 : isName c.t = true
      · rw [if_pos h5]
        rcases change_cases d ⟨3, c.n, c.t, ByteArray.empty⟩ with h | ⟨h6, _, h7⟩
        · exact .inl h
        · exact .inr ⟨h6, fun h => by omega, h7⟩
      · rw [if_neg h5]; exact .inl ⟨11, by omega, rfl⟩
  rw [if_neg h3]
  have h4 : c.k = 4 := by omega
  rw [if_pos h4]
  refine ⟨⟨4, c.n, ByteArray.empty, ByteArray.empty⟩, h4.symm, rfl, .inr rfl, Nat.zero_le _, ?_⟩
  rcases change_cases d ⟨4, c.n, ByteArray.empty, ByteArray.empty⟩ with h | ⟨h6, _, h7⟩
  · exact .inl h
  · exact .inr ⟨h6, fun h => by omega, h7⟩
/-- the kinds of a call -/
theorem play_other (d : Dk) (c : Cl) (h : ¬ (1 ≤ c.k ∧ c.k ≤ 4)) : (c.k = 5 ∧ play d c = sync d) ∨ (c.k = 6 ∧ play d c = (arm d c.m, 0)) ∨ (c.k = 7 ∧ play d c = (setRoom d c.m, 0)) ∨ (c.k = 8 ∧ play d c = (crash d c.m, 0)) ∨ ((c.k < 1 ∨ 8 < c.k) ∧ play d c = (start d, 0)) := by
  unfold play
  rw [if_neg (by omega), if_neg (by omega), if_neg (by omega), if_neg (by omega)]
  by_cases h5 : c.k = 5
  · exact .inl ⟨h5, if_pos h5⟩
  rw [if_neg h5]
  by_cases h6 : c.k = 6
  · exact .inr (.inl ⟨h6, if_pos h6⟩)
  rw [if_neg h6]
  by_cases h7 : c.k = 7
  · exact .inr (.inr (.inl ⟨h7, if_pos h7⟩))
  rw [if_neg h7]
  by_cases h8 : c.k = 8
  · exact .inr (.inr (.inr (.inl ⟨h8, if_pos h8⟩)))
  rw [if_neg h8]
  exact .inr (.inr (.inr (.inr ⟨by omega, rfl⟩)))
theorem sync_cases (d : Dk) : (d.down = true ∧ sync d = (d, 9)) ∨ (d.down = false ∧ d.fuse = 0 ∧ sync d = ({ d with down := true }, 9)) ∨ (d.down = false ∧ d.fuse ≠ 0 ∧ sync d = (settle (burn d) d.ops.length, 0)) := by
  unfold sync
  by_cases h1 : d.down = true
  · exact .inl ⟨h1, if_pos h1⟩
  rw [if_neg h1]
  by_cases h2 : d.fuse = 0
  · exact .inr (.inl ⟨by simpa using h1, h2, if_pos h2⟩)
  · exact .inr (.inr ⟨by simpa using h1, h2, if_neg h2⟩)
theorem wt_take_le (ops : List Dop) (n : Nat) : wt (ops.take n) ≤ wt ops := by
  have := wt_append (ops.take n) (ops.drop n)
  rw [List.take_append_drop] at this; omega
theorem settle_wt (d : Dk) (n : Nat) : Wt (settle d n) ≤ Wt d := by
  show used (behind d.safe (d.ops.take n)) + wt [] ≤ _
  have h1 := used_behind d.safe (d.ops.take n)
  have h2 := wt_take_le d.ops n
  unfold Wt; rw [wt]; omega
theorem settle_ok {d : Dk} (h : Ok d) (n : Nat) : Ok (settle d n) :=
  ⟨behind_srt _ h.srt, by have h1 := settle_wt d n; have h2 := h.wt; unfold Wt at h1; omega, h.fuse, h.fuse'⟩
theorem operate_ok {d : Dk} (h : Ok d) (o : Dop) (hw : Wt d + o.d.size + 16 ≤ 10000000000) : Ok (operate d o).1 ∧ Wt (operate d o).1 ≤ Wt d + o.d.size + 16 := by
  rcases operate_cases d o with ⟨_, e⟩ | ⟨_, e⟩
  · rw [e]
    exact ⟨⟨h.srt, h.wt, h.fuse, h.fuse'⟩, by show Wt d ≤ _; omega⟩
  · rw [e]
    refine ⟨(burn_ok h).note o ?_, ?_⟩
    · rw [burn_safe, burn_ops]; unfold Wt at hw; exact hw
    · show Wt (note (burn d) o) ≤ _
      rw [note_wt, burn_wt]; exact Nat.le_refl _
theorem play_ok {d : Dk} (h : Ok d) (c : Cl) (hw : Wt d + c.x.size + 16 ≤ 10000000000) (hm : c.m ≤ 9223372036854775807) : Ok (play d c).1 ∧ Wt (play d c).1 ≤ Wt d + c.x.size + 16 := by
  by_cases hk : 1 ≤ c.k ∧ c.k ≤ 4
  · obtain ⟨o, _, _, _, ho, h1 | ⟨_, _, h1⟩⟩ := do_cases d c hk.1 hk.2
    · obtain ⟨e, _, h1⟩ := h1
      rw [h1]; exact ⟨h, by show Wt d ≤ _; omega⟩
    · rw [h1]
      have := operate_ok h o (by omega)
      exact ⟨this.1, by omega⟩
  · rcases play_other d c hk with ⟨_, e⟩ | ⟨_, e⟩ | ⟨_, e⟩ | ⟨_, e⟩ | ⟨_, e⟩
    · rw [e]
      rcases sync_cases d with ⟨_, e⟩ | ⟨_, _, e⟩ | ⟨_, _, e⟩
      · rw [e]; exact ⟨h, by show Wt d ≤ _; omega⟩
      · rw [e]; exact ⟨⟨h.srt, h.wt, h.fuse, h.fuse'⟩, by show Wt d ≤ _; omega⟩
      · rw [e]
        have := settle_wt (burn d) d.ops.length
        rw [burn_wt] at this
        exact ⟨settle_ok (burn_ok h) _, by show Wt (settle (burn d) d.ops.length) ≤ _; omega⟩
    · rw [e]; exact ⟨⟨h.srt, h.wt, by show -1 ≤ max c.m (-1); omega, by show max c.m (-1) ≤ _; omega⟩, by show Wt d ≤ _; omega⟩
    · rw [e]; exact ⟨⟨h.srt, h.wt, h.fuse, h.fuse'⟩, by show Wt d ≤ _; omega⟩
    · rw [e]
      have h1 := settle_ok h (keep c.m d.ops.length)
      have h2 := settle_wt d (keep c.m d.ops.length)
      exact ⟨⟨h1.srt, h1.wt, by show (-1 : Int) ≤ -1; omega, by show (-1 : Int) ≤ _; omega⟩, by show Wt (settle d _) ≤ _; omega⟩
    · rw [e]; exact ⟨⟨h.srt, h.wt, h.fuse, h.fuse'⟩, by show Wt d ≤ _; omega⟩

/-- DiskSafe: the file is safe, and nothing is done to it -/
structure Kept (K data : ByteArray) (d : Dk) : Prop where
  ok : Ok d
  safe : get d.safe K = some data
  ops : ∀ o ∈ d.ops, o.n ≠ K ∧ o.t ≠ K
theorem Kept.settle {K data : ByteArray} {d : Dk} (h : Kept K data d) (n : Nat) : Kept K data (Dsk.settle d n) :=
  ⟨settle_ok h.ok n, by
    show get (behind d.safe (d.ops.take n)) K = _
    rw [behind_other _ _ h.ok.srt (fun o ho => h.ops o (List.mem_of_mem_take ho))]; exact h.safe, fun o ho => by cases ho⟩
theorem Kept.play {K data : ByteArray} {d : Dk} (h : Kept K data d) (c : Cl) (hw : Wt d + c.x.size + 16 ≤ 10000000000) (hm : c.m ≤ 9223372036854775807) (h1 : c.n ≠ K) (h2 : c.t ≠ K) (h3 : ByteArray.empty ≠ K) : Kept K data (Dsk.play d c).1 := by
  have hok := (play_ok h.ok c hw hm).1
  by_cases hk : 1 ≤ c.k ∧ c.k ≤ 4
  · obtain ⟨o, _, hon, hot, ho, q | ⟨_, _, q⟩⟩ := do_cases d c hk.1 hk.2
    · obtain ⟨e, _, q⟩ := q
      rw [q]; exact h
    · rw [q] at hok ⊢
      rcases operate_cases d o with ⟨_, e⟩ | ⟨_, e⟩
      · rw [e] at hok ⊢; exact ⟨hok, h.safe, h.ops⟩
      · rw [e] at hok ⊢
        refine ⟨hok, ?_, ?_⟩
        · show get (burn d).safe K = _
          rw [burn_safe]; exact h.safe
        · intro p hp
          have hp' : p ∈ d.ops ++ [o] := by
            have : p ∈ (burn d).ops ++ [o] := hp
            rw [burn_ops] at this; exact this
          rcases List.mem_append.1 hp' with q' | q'
          · exact h.ops p q'
          · rw [List.mem_singleton.1 q', hon]
            refine ⟨h1, ?_⟩
            rcases hot with e | e
            · rw [e]; exact h2
            · rw [e]; exact h3
  · rcases play_other d c hk with ⟨_, e⟩ | ⟨_, e⟩ | ⟨_, e⟩ | ⟨_, e⟩ | ⟨_, e⟩
    · rw [e] at hok ⊢
      rcases sync_cases d with ⟨_, e⟩ | ⟨_, _, e⟩ | ⟨_, _, e⟩
      · rw [e]; exact h
      · rw [e] at hok ⊢; exact ⟨hok, h.safe, h.ops⟩
      · rw [e] at hok ⊢
        have hb : Kept K data (burn d) := ⟨burn_ok h.ok, by rw [burn_safe]; exact h.safe, by rw [burn_ops]; exact h.ops⟩
        exact hb.settle _
    · rw [e] at hok ⊢; exact ⟨hok, h.safe, h.ops⟩
    · rw [e] at hok ⊢; exact ⟨hok, h.safe, h.ops⟩
    · rw [e] at hok ⊢
      have := h.settle (keep c.m d.ops.length)
      exact ⟨hok, this.safe, this.ops⟩
    · rw [e] at hok ⊢; exact ⟨hok, h.safe, h.ops⟩
theorem Kept.reads {K data : ByteArray} {d : Dk} (h : Kept K data d) (n : Int) : read (start (crash d n)) K = (data, 0) := by
  have h1 := (h.settle (keep n d.ops.length)).safe
  unfold read
  have e : files (start (crash d n)) = (Dsk.settle d (keep n d.ops.length)).safe := rfl
  rw [if_neg (by show ¬ (false = true); simp), e, h1]
end Dsk
/-- a variable, block V, that holds a disk -/
def DVar (V : Nat) (W : World) (d : Dsk.Dk) : Prop := ∃ sa' sn' sc' oa' on' oc' cp' fs' dn', Rg.Bk V [.slice sa' sn' sc', .slice oa' on' oc', .int .i64 cp', .int .i64 fs', .bool dn'] 28 W ∧ DAt W (.agg #[.slice sa' sn' sc', .slice oa' on' oc', .int .i64 cp', .int .i64 fs', .bool dn']) d
theorem plainD {sa oa : Option Addr} {sn sc on oc : Nat} {cp fs : Int} {dn : Bool} : ∀ u ∈ ([.slice sa sn sc, .slice oa on oc, .int .i64 cp, .int .i64 fs, .bool dn] : List Value), ∀ s, u ≠ .string s := plain5 (fun _ h => by cases h) (fun _ h => by cases h) (fun _ h => by cases h) (fun _ h => by cases h) (fun _ h => by cases h)
theorem DVar.below {V : Nat} {W W' : World} {d : Dsk.Dk} (h : DVar V W d) (hb : Below W.heap.size W W') : DVar V W' d := by
  obtain ⟨sa', sn', sc', oa', on', oc', cp', fs', dn', k, hD⟩ := h
  exact ⟨sa', sn', sc', oa', on', oc', cp', fs', dn', k.below hb k.lt, hD.below hb⟩
theorem DVar.lt {V : Nat} {W : World} {d : Dsk.Dk} (h : DVar V W d) : V < W.heap.size := by
  obtain ⟨sa', sn', sc', oa', on', oc', cp', fs', dn', k, hD⟩ := h
  exact k.lt
theorem DVar.new {W : World} {sa oa : Option Addr} {sn sc on oc : Nat} {cp fs : Int} {dn : Bool} {d : Dsk.Dk} (h : DAt W (.agg #[.slice sa sn sc, .slice oa on oc, .int .i64 cp, .int .i64 fs, .bool dn]) d) : DVar W.heap.size (W.alloc (.cells #[.slice sa sn sc, .slice oa on oc, .int .i64 cp, .int .i64 fs, .bool dn] 28)) d :=
  ⟨sa, sn, sc, oa, on, oc, cp, fs, dn, Rg.Bk.new rfl, h.below (Rg.al1 _ _)⟩
/-- a store into the variable -/
theorem DVar.store {V : Nat} {W : World} {d d' : Dsk.Dk} {sa oa : Option Addr} {sn sc on oc : Nat} {cp fs : Int} {dn : Bool} (h : DVar V W d) (hD : DAt W (.agg #[.slice sa sn sc, .slice oa on oc, .int .i64 cp, .int .i64 fs, .bool dn]) d') :
    DVar V (((((W.setCell ⟨V, 0, none⟩ (.slice sa sn sc)).setCell ⟨V, 1, none⟩ (.slice oa on oc)).setCell ⟨V, 2, none⟩ (.int .i64 cp)).setCell ⟨V, 3, none⟩ (.int .i64 fs)).setCell ⟨V, 4, none⟩ (.bool dn)) d' ∧
    Rg.Only V W (((((W.setCell ⟨V, 0, none⟩ (.slice sa sn sc)).setCell ⟨V, 1, none⟩ (.slice oa on oc)).setCell ⟨V, 2, none⟩ (.int .i64 cp)).setCell ⟨V, 3, none⟩ (.int .i64 fs)).setCell ⟨V, 4, none⟩ (.bool dn)) := by
  obtain ⟨sa', sn', sc', oa', on', oc', cp', fs', dn', k, hD0⟩ := h
  obtain ⟨kE, oE⟩ := Rg.ret5 k rfl (.slice sa sn sc) (.slice oa on oc) (.int .i64 cp) (.int .i64 fs) (.bool dn)
  exact ⟨⟨sa, sn, sc, oa, on, oc, cp, fs, dn, kE, hD.only k plainD oE⟩, oE⟩
/-- a store into another one -/
theorem DVar.other {V V' : Nat} {W W' : World} {d d' : Dsk.Dk} (h : DVar V W d) (h' : DVar V' W d') (hne : V ≠ V') (ho : Rg.Only V' W W') : DVar V W' d := by
  obtain ⟨sa', sn', sc', oa', on', oc', cp', fs', dn', k, hD0⟩ := h
  obtain ⟨sa2, sn2, sc2, oa2, on2, oc2, cp2, fs2, dn2, k2, hD2⟩ := h'
  exact ⟨sa', sn', sc', oa', on', oc', cp', fs', dn', k.same (ho.block V hne), hD0.only k2 plainD ho⟩
end Go.Proofs.YtgboghbicbnhiaaGreatDoor

namespace Go.Proofs.YtgboghbicbnhiaaGreatDoor
namespace Rg
open Go.RowKit
section
variable {P : Program} {ops : Array Oper} {Q : Exit → Act → World → Prop} {md : Region.Mode} {S : World → Prop}
theorem tk (i : Nat) (d : Option Tmp) {oi : Oper} {v : Value} {fuel : Nat} {listed : Array Bool} {a : Act} {w : World} (hy : ∀ w, S w → (execOp a.eval oi).run P w = .ok (.value v) w)
    (h : wpAnyH P md ops Q S fuel (listed.setIfInBounds i true) (a.put d v) w)
    (hi : ops[i]? = some oi := by rfl) (hd : oi.dst = d := by rfl) (hs : Region.noSelect ops = true := by kernel_rfl) (hf : Region.free md ops listed i = true := by kernel_rfl) (hr : (Region.ready md ops listed).contains i = true := by kernel_rfl)
    (hQ : ∀ c a w, Q (.panic c) (a.put d v) w → Q (.panic c) a w := by exact fun _ _ _ h => h) (hw : Region.wanted oi (yielded ops a.tmps) = true := by rfl) (hS : S w := by assumption) : wpAnyH P md ops Q S (fuel + 1) listed a w := by
  subst hd
  exact wpAnyH_take hi hs hf hr hQ (Or.inl ⟨hw, hy⟩) hS h
end
theorem xload {P : Program} {ρ : Operand → Value} {o : Oper} {w : World} (t : TypeId) (x : Operand) (ho : o.op = .load t x) {B : Nat} (hx : ρ x = .pointer (some ⟨B, 0, none⟩)) {v : Value} (hrun : (loadVar t ⟨B, 0, none⟩).run P w = .ok v w) : (execOp ρ o).run P w = .ok (.value v) w := by
  simp [execOp, ho, hx, Instr.loadAt, Instr.sureAddr, hrun, Result.andThen]
theorem xstore {P : Program} {ops : Array Oper} {o : Oper} {a : Act} {w w' : World} {K : Act → World → Prop} {Q : Exit → Act → World → Prop} {E : Prop} (hg : o.guard = none) (x y : Operand) (t : TypeId)
    (ho : o.op = .store t x y) {R : Nat} (hx : a.eval x = .pointer (some ⟨R, 0, none⟩)) {v : Value} (hy : a.eval y = v) (hrun : (storeVar t ⟨R, 0, none⟩ v).run P w = .ok () w') (h : K (a.put o.dst undef) w') : if Region.wanted o (yielded ops a.tmps) = true then Oper.wp P o a w K Q else E := by
  have hw : Region.wanted o (yielded ops a.tmps) = true := by simp [Region.wanted, hg]
  rw [if_pos hw]
  unfold Oper.wp
  simp [execOp, ho, hx, hy, Instr.storeAt, Instr.sureAddr, hrun, Result.andThen, Oper.upon]
  exact h
theorem res2 {P : Program} {fn : Func} {tm tn : Tmp} {t : TypeId} (hf : fn.results = #[.cell tm t, .tmp tn]) {tmps : Array Value} {R : Nat} (hp : tmps.getD tm undef = .pointer (some ⟨R, 0, none⟩)) {v u : Value} {W : World} (hu : tmps.getD tn undef = u) (hrun : (loadVar t ⟨R, 0, none⟩).run P W = .ok v W) : (results fn tmps).run P W = .ok (.tuple #[v, u]) W := by
  simp only [Array.getD_eq_getD_getElem?] at hp hu
  simp [results, hf, hp, hu, asAddr, hrun]
theorem lst {P : Program} {w w' : World} {ops : Array Oper} {rest : List Oper} {a : Act} {Q : Exit → Act → World → Prop} {dst : Option Tmp} {ty : TypeId} {ps : String} {af} (x y : Operand) (t : TypeId) {R : Nat} (hx : a.eval x = .pointer (some ⟨R, 0, none⟩)) {v : Value} (hy : a.eval y = v) (hrun : (storeVar t ⟨R, 0, none⟩ v).run P w = .ok () w') (h : wpList P ops Q rest (a.put dst undef) w') :
    wpList P ops Q ({ dst := dst, op := .store t x y, type := ty, pos := ps, after := af, guard := none } :: rest) a w := wpList_store_row (by simp [Region.wanted]) x y t rfl hx hy hrun h
theorem lld {P : Program} {w : World} {ops : Array Oper} {rest : List Oper} {a : Act} {Q : Exit → Act → World → Prop} {dst : Option Tmp} {ty : TypeId} {ps : String} {af} (x : Operand) (t : TypeId) {B : Nat} (hx : a.eval x = .pointer (some ⟨B, 0, none⟩)) {CS : Array Value} (hrun : (loadVar t ⟨B, 0, none⟩).run P w = .ok (.agg CS) w) (h : wpList P ops Q rest (a.put dst (.agg CS)) w) :
    wpList P ops Q ({ dst := dst, op := .load t x, type := ty, pos := ps, after := af, guard := none } :: rest) a w := wpList_load_row (by simp [Region.wanted]) x t rfl hx hrun h
theorem isst {P : Program} {w : World} {ops : Array Oper} {rest : List Oper} {a : Act} {Q : Exit → Act → World → Prop} {dst : Option Tmp} {ty : TypeId} {ps : String} {af} {gd} (x y : Operand) (t : TypeId) (h : wpList P ops Q ({ dst := dst, op := .store t x y, type := ty, pos := ps, after := af, guard := gd } :: rest) a w) : wpList P ops Q ({ dst := dst, op := .store t x y, type := ty, pos := ps, after := af, guard := gd } :: rest) a w := h
theorem isld {P : Program} {w : World} {ops : Array Oper} {rest : List Oper} {a : Act} {Q : Exit → Act → World → Prop} {dst : Option Tmp} {ty : TypeId} {ps : String} {af} {gd} (x : Operand) (t : TypeId) (h : wpList P ops Q ({ dst := dst, op := .load t x, type := ty, pos := ps, after := af, guard := gd } :: rest) a w) : wpList P ops Q ({ dst := dst, op := .load t x, type := ty, pos := ps, after := af, guard := gd } :: rest) a w := h
theorem rescc {P : Program} {fn : Func} {tm tn tk : Tmp} {t t2 : TypeId} (hf : fn.results = #[.cell tm t, .cell tn t2, .tmp tk]) {tmps : Array Value} {R R2 : Nat} (hp : tmps.getD tm undef = .pointer (some ⟨R, 0, none⟩)) (hp2 : tmps.getD tn undef = .pointer (some ⟨R2, 0, none⟩)) {v u y : Value} {W : World} (hy : tmps.getD tk undef = y) (hrun : (loadVar t ⟨R, 0, none⟩).run P W = .ok v W) (hrun2 : (loadVar t2 ⟨R2, 0, none⟩).run P W = .ok u W) : (results fn tmps).run P W = .ok (.tuple #[v, u, y]) W := by
  simp only [Array.getD_eq_getD_getElem?] at hp hp2 hy
  simp [results, hf, hp, hp2, hy, asAddr, hrun, hrun2]
end Rg
end Go.Proofs.YtgboghbicbnhiaaGreatDoor

namespace Go.Proofs.YtgboghbicbnhiaaGreatDoor
open Go.RowKit

theorem heldU : (Tryz.prog.info? 42).map (·.size) = some 10 := by kernel_rfl
theorem diskU : (Tryz.prog.info? 28).map (·.size) = some 5 := by kernel_rfl
theorem jobU : (Tryz.prog.info? 33).map (·.size) = some 8 := by kernel_rfl
theorem idU : (Tryz.prog.info? 31).map (·.size) = some 2 := by kernel_rfl
theorem hld {B : Nat} {h : Spl.Hd} {ty : TypeId} {W : World} (k : Rg.Bk B (hc h) ty W) : (loadVar 42 ⟨B, 0, none⟩).run Tryz.prog W = .ok (.agg (hc h).toArray) W :=
  Rg.row_loadVar (CS := (hc h).toArray) k Tryz.underlying42 rfl heldU
theorem hst {R : Nat} {C : List Value} {ty : TypeId} {W : World} (k : Rg.Bk R C ty W) (hl : C.length = 10) (h : Spl.Hd) :
    ∃ W', (storeVar 42 ⟨R, 0, none⟩ (.agg (hc h).toArray)).run Tryz.prog W = .ok () W' ∧ Rg.Bk R (hc h) ty W' ∧ Rg.Only R W W' :=
  Rg.row_storeVar (CS := (hc h).toArray) k heldU (by rw [hl]; rfl) (by simp [hc, Value.oneCell'])
theorem idld {I : Nat} {g n : Int} {ty : TypeId} {W : World} (k : Rg.Bk I [.int .i64 g, .int .i64 n] ty W) : (loadVar 31 ⟨I, 0, none⟩).run Tryz.prog W = .ok (.agg #[.int .i64 g, .int .i64 n]) W :=
  Rg.row_loadVar (CS := #[.int .i64 g, .int .i64 n]) k Tryz.underlying31 rfl idU
/-- a job's cells -/
def jc (j : Job.Jb) : List Value := [.int .i64 j.g, .int .i64 j.n, .int .i64 j.k, .string j.u, .string j.f, .string j.t, .string j.c, .int .i64 j.z]
theorem jld {J : Nat} {j : Job.Jb} {ty : TypeId} {W : World} (k : Rg.Bk J (jc j) ty W) : (loadVar 33 ⟨J, 0, none⟩).run Tryz.prog W = .ok (.agg (jc j).toArray) W :=
  Rg.row_loadVar (CS := (jc j).toArray) k Tryz.underlying33 rfl jobU
/-- a job's id -/
theorem jidld {J : Nat} {j : Job.Jb} {ty : TypeId} {W : World} (k : Rg.Bk J (jc j) ty W) : (loadVar 31 ⟨J, 0, none⟩).run Tryz.prog W = .ok (.agg #[.int .i64 j.g, .int .i64 j.n]) W := by
  have hr : W.rangeAt J 0 [.int .i64 j.g, .int .i64 j.n] := fun i v hv => by
    have hi : i < 2 := (List.getElem?_eq_some_iff.1 hv).1
    rw [Nat.zero_add, k.cell, ← hv]
    match i, hi with
    | 0, _ => rfl
    | 1, _ => rfl
  exact run_loadVar_mid (P := Tryz.prog) W J 0 31 [.int .i64 j.g, .int .i64 j.n] _ hr Tryz.underlying31 rfl idU

/-- a disk in a block of its own -/
structure DB (B : Nat) (CS : Array Value) (d : Dsk.Dk) (W : World) : Prop where
  bk : Rg.Bk B CS.toList 28 W
  dt : DAt W (.agg CS) d
theorem DAt.cells {W : World} {CS : Array Value} {d : Dsk.Dk} (h : DAt W (.agg CS) d) : ∃ sa sc oa oc, CS = #[.slice sa d.safe.length sc, .slice oa d.ops.length oc, .int .i64 d.cap, .int .i64 d.fuse, .bool d.down] := by
  obtain ⟨sa, sc, oa, oc, e, _⟩ := h
  exact ⟨sa, sc, oa, oc, by injection e⟩
theorem DAt.agg {W : World} {v : Value} {d : Dsk.Dk} (h : DAt W v d) : ∃ CS : Array Value, v = .agg CS := by
  obtain ⟨sa', sc', oa', oc', rfl, h2⟩ := id h
  exact ⟨_, rfl⟩
theorem DB.new {W : World} {CS : Array Value} {d : Dsk.Dk} (h : DAt W (.agg CS) d) : DB W.heap.size CS d (W.alloc (.cells CS 28)) := ⟨Rg.Bk.new rfl, h.below (Rg.al1 _ _)⟩
theorem DB.lt {B : Nat} {CS : Array Value} {d : Dsk.Dk} {W : World} (h : DB B CS d W) : B < W.heap.size := h.bk.lt
theorem DB.below {B : Nat} {CS : Array Value} {d : Dsk.Dk} {W W' : World} (h : DB B CS d W) (hb : Below W.heap.size W W') : DB B CS d W' := ⟨h.bk.below hb h.bk.lt, h.dt.below hb⟩
theorem DB.drew {B : Nat} {CS : Array Value} {d : Dsk.Dk} {W : World} (h : DB B CS d W) : DB B CS d W.drew := ⟨h.bk.drew, h.dt⟩
theorem DB.old {B : Nat} {CS : Array Value} {d : Dsk.Dk} {W : World} (h : DB B CS d W) (o : Obj) : DB B CS d (W.alloc o) := h.below (Rg.al1 _ _)
theorem DB.ld {B : Nat} {CS : Array Value} {d : Dsk.Dk} {W : World} (h : DB B CS d W) : (loadVar 28 ⟨B, 0, none⟩).run Tryz.prog W = .ok (.agg CS) W := by
  obtain ⟨sa, sc, oa, oc, e⟩ := h.dt.cells
  subst e
  exact Rg.row_loadVar h.bk Tryz.underlying28 rfl diskU
theorem DAt.onlyB {B : Nat} {CS : Array Value} {d0 d : Dsk.Dk} {v : Value} {W W' : World} (h : DAt W v d) (h0 : DB B CS d0 W) (ho : Rg.Only B W W') : DAt W' v d := by
  obtain ⟨sa, sc, oa, oc, e⟩ := h0.dt.cells
  have k := h0.bk
  subst e
  exact h.only k plainD ho
theorem DB.st {B : Nat} {CS CS' : Array Value} {d d' : Dsk.Dk} {W : World} (h : DB B CS d W) (h' : DAt W (.agg CS') d') : ∃ W', (storeVar 28 ⟨B, 0, none⟩ (.agg CS')).run Tryz.prog W = .ok () W' ∧ DB B CS' d' W' ∧ Rg.Only B W W' := by
  obtain ⟨sa, sc, oa, oc, e⟩ := h.dt.cells
  obtain ⟨sa', sc', oa', oc', e'⟩ := h'.cells
  have k := h.bk
  subst e
  obtain ⟨W', h3, h4, h5⟩ := Rg.row_storeVar (P := Tryz.prog) (t := 28) (CS := CS') k (by rw [e']; exact diskU) (by rw [e']; rfl) (by rw [e']; simp [Value.oneCell'])
  exact ⟨W', h3, ⟨h4, h'.only k plainD h5⟩, h5⟩
/-- another block is stored into -/
theorem DB.only {B R : Nat} {CS CR : Array Value} {d dr : Dsk.Dk} {W W' : World} (h : DB B CS d W) (hr : DB R CR dr W) (hne : B ≠ R) (ho : Rg.Only R W W') : DB B CS d W' := ⟨h.bk.same (ho.block B hne), h.dt.onlyB hr ho⟩
theorem DB.down {B : Nat} {CS : Array Value} {d : Dsk.Dk} {W : World} (h : DB B CS d W) : W.cell? ⟨B, 4, none⟩ = some (.bool d.down) := by
  obtain ⟨sa, sc, oa, oc, e⟩ := h.dt.cells
  have k := h.bk
  subst e
  exact k.cell 4
theorem DB.cap {B : Nat} {CS : Array Value} {d : Dsk.Dk} {W : World} (h : DB B CS d W) : W.cell? ⟨B, 2, none⟩ = some (.int .i64 d.cap) := by
  obtain ⟨sa, sc, oa, oc, e⟩ := h.dt.cells
  have k := h.bk
  subst e
  exact k.cell 2
/-- the zero value -/
def zdk : Dsk.Dk := ⟨[], [], 0, 0, false⟩
theorem zdk_at (W : World) : DAt W (.agg #[.slice none 0 0, .slice none 0 0, .int .i64 0, .int .i64 0, .bool false]) zdk := ⟨none, 0, none, 0, rfl, .inl ⟨rfl, rfl⟩, .inl ⟨rfl, rfl⟩, Nat.le_refl _, Nat.le_refl _⟩
/-- what a call that answers a disk and an error leaves -/
def V2Post (w : World) (r : Dsk.Dk × Int) (e : Ending) (w' : World) : Prop := ∃ CS, e = .returned (.tuple #[.agg CS, .int .i64 r.2]) ∧ Hid (DAt w' (.agg CS) r.1) ∧ Hid (Below w.heap.size w w')
theorem DPost.v2 {w : World} {r : Dsk.Dk × Int} {e : Ending} {w' : World} (h : DPost w r e w') : V2Post w r e w' := by
  obtain ⟨v, h1, h2, h3⟩ := h
  obtain ⟨CS, rfl⟩ := h2.agg
  exact ⟨CS, h1, h2, h3⟩
/-- the zero disk's cells -/
def zcD : Array Value := #[.slice none 0 0, .slice none 0 0, .int .i64 0, .int .i64 0, .bool false]
/-- a disk, an id, a result -/
theorem boxD3 (w : World) (CS : Array Value) (d : Dsk.Dk) (hd : DAt w (.agg CS) d) (L1 : List Value) (t1 : TypeId) :
    Hid (DB w.heap.size CS d (((w.alloc (.cells CS 28)).alloc (.cells L1.toArray t1)).alloc (.cells #[.slice none 0 0, .slice none 0 0, .int .i64 0, .int .i64 0, .bool false] 28))) ∧
    Hid (Rg.Bk (w.heap.size + 1) L1 t1 (((w.alloc (.cells CS 28)).alloc (.cells L1.toArray t1)).alloc (.cells #[.slice none 0 0, .slice none 0 0, .int .i64 0, .int .i64 0, .bool false] 28))) ∧
    Hid (DB (w.heap.size + 2) zcD zdk (((w.alloc (.cells CS 28)).alloc (.cells L1.toArray t1)).alloc (.cells #[.slice none 0 0, .slice none 0 0, .int .i64 0, .int .i64 0, .bool false] 28))) ∧
    Hid (Below w.heap.size w (((w.alloc (.cells CS 28)).alloc (.cells L1.toArray t1)).alloc (.cells #[.slice none 0 0, .slice none 0 0, .int .i64 0, .int .i64 0, .bool false] 28))) :=
  ⟨((DB.new hd).old _).old _, (Rg.Bk.new (by simp)).old _, ⟨Rg.Bk.new (by simp), zdk_at _⟩, Rg.al3 w _ _ _⟩
end Go.Proofs.YtgboghbicbnhiaaGreatDoor
