/-
  Layer 6: mathematics of a disk's calls: what stays in bounds, what is kept.
-/
import Derived.Test.YtempiajepomajaaDk19
namespace Go.Proofs.Ytempiajepomajaa
namespace Dsk

/-- the weight of a disk -/
def Wt (d : Dk) : Nat := used d.safe + wt d.ops
theorem burn_ok {d : Dk} (h : Ok d) : Ok (burn d) := by
  rw [burn_eq]
  have h1 := h.fuse
  have h2 := h.fuse'
  refine ⟨h.srt, h.wt, ?_, ?_⟩
  · show -1 ≤ if d.fuse > 0 then d.fuse - 1 else d.fuse
    split <;> omega
  · show (if d.fuse > 0 then d.fuse - 1 else d.fuse) ≤ _
    split <;> omega
theorem burn_safe (d : Dk) : (burn d).safe = d.safe := by rw [burn_eq]
theorem burn_ops (d : Dk) : (burn d).ops = d.ops := by rw [burn_eq]
theorem burn_cap (d : Dk) : (burn d).cap = d.cap := by rw [burn_eq]
theorem burn_down (d : Dk) : (burn d).down = d.down := by rw [burn_eq]
theorem note_wt (d : Dk) (o : Dop) : Wt (note d o) = Wt d + o.d.size + 16 := by
  show used d.safe + wt (d.ops ++ [o]) = _
  rw [wt_append, wt, wt]; unfold Wt; omega
theorem burn_wt (d : Dk) : Wt (burn d) = Wt d := by unfold Wt; rw [burn_safe, burn_ops]
/-- what an operation leaves -/
theorem operate_cases (d : Dk) (o : Dop) : (d.fuse = 0 ∧ operate d o = ({ d with down := true }, 9)) ∨ (d.fuse ≠ 0 ∧ operate d o = (note (burn d) o, 0)) := by
  by_cases h : d.fuse = 0
  · exact .inl ⟨h, if_pos h⟩
  · exact .inr ⟨h, if_neg h⟩
theorem fill_cases (d : Dk) (o : Dop) : (∃ e, e ≠ 0 ∧ fill d o = (d, e)) ∨ (d.down = false ∧ isName o.n = true ∧ (used (files (note d o)) : Int) ≤ d.cap ∧ fill d o = operate d o) := by
  unfold fill
  by_cases h1 : d.down = true
  · exact .inl ⟨9, by omega, if_pos h1⟩
  · by_cases h2 : isName o.n = true
    · by_cases h3 : (used (files (note d o)) : Int) > d.cap
      · exact .inl ⟨8, by omega, by rw [if_neg h1, if_pos h2, if_pos h3]⟩
      · exact .inr ⟨by simpa using h1, h2, by omega, by rw [if_neg h1, if_pos h2, if_neg h3]⟩
    · exact .inl ⟨11, by omega, by rw [if_neg h1, if_neg h2]⟩
theorem read_err (d : Dk) (n : ByteArray) : (read d n).2 = 0 ↔ d.down = false ∧ has (files d) n = true := by
  unfold read has
  cases h : d.down
  · simp only [Bool.false_eq_true, if_false, true_and]
    cases get (files d) n <;> simp
  · simp
theorem change_cases (d : Dk) (o : Dop) : (∃ e, e ≠ 0 ∧ change d o = (d, e)) ∨ (d.down = false ∧ has (files d) o.n = true ∧ change d o = operate d o) := by
  unfold change
  by_cases h : (read d o.n).2 = 0
  · have := (read_err d o.n).1 h
    exact .inr ⟨this.1, this.2, if_pos h⟩
  · exact .inl ⟨_, h, if_neg h⟩
/-- an operation or none: what the four calls that do something leave -/
theorem do_cases (d : Dk) (c : Cl) (hk : 1 ≤ c.k) (hk' : c.k ≤ 4) : ∃ o : Dop, o.k = c.k ∧ o.n = c.n ∧ (o.t = c.t ∨ o.t = ByteArray.empty) ∧ o.d.size ≤ c.x.size ∧
    ((∃ e, e ≠ 0 ∧ play d c = (d, e)) ∨ (d.down = false ∧ (c.k ≤ 2 → (used (files (note d o)) : Int) ≤ d.cap) ∧ play d c = operate d o)) := by
  unfold play
  by_cases h1 : c.k = 1
  · rw [if_pos h1]
    refine ⟨⟨1, c.n, ByteArray.empty, c.x⟩, h1.symm, rfl, .inr rfl, Nat.le_refl _, ?_⟩
    rcases fill_cases d ⟨1, c.n, ByteArray.empty, c.x⟩ with h | ⟨h2, _, h3, h4⟩
    · exact .inl h
    · exact .inr ⟨h2, fun _ => h3, h4⟩
  rw [if_neg h1]
  by_cases h2 : c.k = 2
  · rw [if_pos h2]
    refine ⟨⟨2, c.n, ByteArray.empty, c.x⟩, h2.symm, rfl, .inr rfl, Nat.le_refl _, ?_⟩
    rcases fill_cases d ⟨2, c.n, ByteArray.empty, c.x⟩ with h | ⟨h2, _, h3, h4⟩
    · exact .inl h
    · exact .inr ⟨h2, fun _ => h3, h4⟩
  rw [if_neg h2]
  by_cases h3 : c.k = 3
  · rw [if_pos h3]
    refine ⟨⟨3, c.n, c.t, ByteArray.empty⟩, h3.symm, rfl, .inl rfl, Nat.zero_le _, ?_⟩
    unfold rename
    by_cases h4 : d.down = true
    · rw [if_pos h4]; exact .inl ⟨9, by omega, rfl⟩
    · rw [if_neg h4]
      by_cases h5 : isName c.t = true
      · rw [if_pos h5]
        rcases change_cases d ⟨3, c.n, c.t, ByteArray.empty⟩ with h | ⟨h6, _, h7⟩
        · exact .inl h
        · exact .inr ⟨h6, fun h => by omega, h7⟩
      · rw [if_neg h5]; exact .inl ⟨11, by omega, rfl⟩
  rw [if_neg h3]
  have h4 : c.k = 4 := by omega
  rw [if_pos h4]
  refine ⟨⟨4, c.n, ByteArray.empty, ByteArray.empty⟩, h4.symm, rfl, .inr rfl, Nat.zero_le _, ?_⟩
  rcases change_cases d ⟨4, c.n, ByteArray.empty, ByteArray.empty⟩ with h | ⟨h6, _, h7⟩
  · exact .inl h
  · exact .inr ⟨h6, fun h => by omega, h7⟩
/-- the kinds of a call -/
theorem play_other (d : Dk) (c : Cl) (h : ¬ (1 ≤ c.k ∧ c.k ≤ 4)) : (c.k = 5 ∧ play d c = sync d) ∨ (c.k = 6 ∧ play d c = (arm d c.m, 0)) ∨ (c.k = 7 ∧ play d c = (setRoom d c.m, 0)) ∨ (c.k = 8 ∧ play d c = (crash d c.m, 0)) ∨ ((c.k < 1 ∨ 8 < c.k) ∧ play d c = (start d, 0)) := by
  unfold play
  rw [if_neg (by omega), if_neg (by omega), if_neg (by omega), if_neg (by omega)]
  by_cases h5 : c.k = 5
  · exact .inl ⟨h5, if_pos h5⟩
  rw [if_neg h5]
  by_cases h6 : c.k = 6
  · exact .inr (.inl ⟨h6, if_pos h6⟩)
  rw [if_neg h6]
  by_cases h7 : c.k = 7
  · exact .inr (.inr (.inl ⟨h7, if_pos h7⟩))
  rw [if_neg h7]
  by_cases h8 : c.k = 8
  · exact .inr (.inr (.inr (.inl ⟨h8, if_pos h8⟩)))
  rw [if_neg h8]
  exact .inr (.inr (.inr (.inr ⟨by omega, rfl⟩)))
theorem sync_cases (d : Dk) : (d.down = true ∧ sync d = (d, 9)) ∨ (d.down = false ∧ d.fuse = 0 ∧ sync d = ({ d with down := true }, 9)) ∨ (d.down = false ∧ d.fuse ≠ 0 ∧ sync d = (settle (burn d) d.ops.length, 0)) := by
  unfold sync
  by_cases h1 : d.down = true
  · exact .inl ⟨h1, if_pos h1⟩
  rw [if_neg h1]
  by_cases h2 : d.fuse = 0
  · exact .inr (.inl ⟨by simpa using h1, h2, if_pos h2⟩)
  · exact .inr (.inr ⟨by simpa using h1, h2, if_neg h2⟩)
theorem wt_take_le (ops : List Dop) (n : Nat) : wt (ops.take n) ≤ wt ops := by
  have := wt_append (ops.take n) (ops.drop n)
  rw [List.take_append_drop] at this; omega
theorem settle_wt (d : Dk) (n : Nat) : Wt (settle d n) ≤ Wt d := by
  show used (behind d.safe (d.ops.take n)) + wt [] ≤ _
  have h1 := used_behind d.safe (d.ops.take n)
  have h2 := wt_take_le d.ops n
  unfold Wt; rw [wt]; omega
theorem settle_ok {d : Dk} (h : Ok d) (n : Nat) : Ok (settle d n) :=
  ⟨behind_srt _ h.srt, by have h1 := settle_wt d n; have h2 := h.wt; unfold Wt at h1; omega, h.fuse, h.fuse'⟩
theorem operate_ok {d : Dk} (h : Ok d) (o : Dop) (hw : Wt d + o.d.size + 16 ≤ 10000000000) : Ok (operate d o).1 ∧ Wt (operate d o).1 ≤ Wt d + o.d.size + 16 := by
  rcases operate_cases d o with ⟨_, e⟩ | ⟨_, e⟩
  · rw [e]
    exact ⟨⟨h.srt, h.wt, h.fuse, h.fuse'⟩, by show Wt d ≤ _; omega⟩
  · rw [e]
    refine ⟨(burn_ok h).note o ?_, ?_⟩
    · rw [burn_safe, burn_ops]; unfold Wt at hw; exact hw
    · show Wt (note (burn d) o) ≤ _
      rw [note_wt, burn_wt]; exact Nat.le_refl _
theorem play_ok {d : Dk} (h : Ok d) (c : Cl) (hw : Wt d + c.x.size + 16 ≤ 10000000000) (hm : c.m ≤ 9223372036854775807) : Ok (play d c).1 ∧ Wt (play d c).1 ≤ Wt d + c.x.size + 16 := by
  by_cases hk : 1 ≤ c.k ∧ c.k ≤ 4
  · obtain ⟨o, _, _, _, ho, h1 | ⟨_, _, h1⟩⟩ := do_cases d c hk.1 hk.2
    · obtain ⟨e, _, h1⟩ := h1
      rw [h1]; exact ⟨h, by show Wt d ≤ _; omega⟩
    · rw [h1]
      have := operate_ok h o (by omega)
      exact ⟨this.1, by omega⟩
  · rcases play_other d c hk with ⟨_, e⟩ | ⟨_, e⟩ | ⟨_, e⟩ | ⟨_, e⟩ | ⟨_, e⟩
    · rw [e]
      rcases sync_cases d with ⟨_, e⟩ | ⟨_, _, e⟩ | ⟨_, _, e⟩
      · rw [e]; exact ⟨h, by show Wt d ≤ _; omega⟩
      · rw [e]; exact ⟨⟨h.srt, h.wt, h.fuse, h.fuse'⟩, by show Wt d ≤ _; omega⟩
      · rw [e]
        have := settle_wt (burn d) d.ops.length
        rw [burn_wt] at this
        exact ⟨settle_ok (burn_ok h) _, by show Wt (settle (burn d) d.ops.length) ≤ _; omega⟩
    · rw [e]; exact ⟨⟨h.srt, h.wt, by show -1 ≤ max c.m (-1); omega, by show max c.m (-1) ≤ _; omega⟩, by show Wt d ≤ _; omega⟩
    · rw [e]; exact ⟨⟨h.srt, h.wt, h.fuse, h.fuse'⟩, by show Wt d ≤ _; omega⟩
    · rw [e]
      have h1 := settle_ok h (keep c.m d.ops.length)
      have h2 := settle_wt d (keep c.m d.ops.length)
      exact ⟨⟨h1.srt, h1.wt, by show (-1 : Int) ≤ -1; omega, by show (-1 : Int) ≤ _; omega⟩, by show Wt (settle d _) ≤ _; omega⟩
    · rw [e]; exact ⟨⟨h.srt, h.wt, h.fuse, h.fuse'⟩, by show Wt d ≤ _; omega⟩

/-- DiskSafe: the file is safe, and nothing is done to it -/
structure Kept (K data : ByteArray) (d : Dk) : Prop where
  ok : Ok d
  safe : get d.safe K = some data
  ops : ∀ o ∈ d.ops, o.n ≠ K ∧ o.t ≠ K
theorem Kept.settle {K data : ByteArray} {d : Dk} (h : Kept K data d) (n : Nat) : Kept K data (Dsk.settle d n) :=
  ⟨settle_ok h.ok n, by
    show get (behind d.safe (d.ops.take n)) K = _
    rw [behind_other _ _ h.ok.srt (fun o ho => h.ops o (List.mem_of_mem_take ho))]; exact h.safe, fun o ho => by cases ho⟩
theorem Kept.play {K data : ByteArray} {d : Dk} (h : Kept K data d) (c : Cl) (hw : Wt d + c.x.size + 16 ≤ 10000000000) (hm : c.m ≤ 9223372036854775807) (h1 : c.n ≠ K) (h2 : c.t ≠ K) (h3 : ByteArray.empty ≠ K) : Kept K data (Dsk.play d c).1 := by
  have hok := (play_ok h.ok c hw hm).1
  by_cases hk : 1 ≤ c.k ∧ c.k ≤ 4
  · obtain ⟨o, _, hon, hot, ho, q | ⟨_, _, q⟩⟩ := do_cases d c hk.1 hk.2
    · obtain ⟨e, _, q⟩ := q
      rw [q]; exact h
    · rw [q] at hok ⊢
      rcases operate_cases d o with ⟨_, e⟩ | ⟨_, e⟩
      · rw [e] at hok ⊢; exact ⟨hok, h.safe, h.ops⟩
      · rw [e] at hok ⊢
        refine ⟨hok, ?_, ?_⟩
        · show get (burn d).safe K = _
          rw [burn_safe]; exact h.safe
        · intro p hp
          have hp' : p ∈ d.ops ++ [o] := by
            have : p ∈ (burn d).ops ++ [o] := hp
            rw [burn_ops] at this; exact this
          rcases List.mem_append.1 hp' with q' | q'
          · exact h.ops p q'
          · rw [List.mem_singleton.1 q', hon]
            refine ⟨h1, ?_⟩
            rcases hot with e | e
            · rw [e]; exact h2
            · rw [e]; exact h3
  · rcases play_other d c hk with ⟨_, e⟩ | ⟨_, e⟩ | ⟨_, e⟩ | ⟨_, e⟩ | ⟨_, e⟩
    · rw [e] at hok ⊢
      rcases sync_cases d with ⟨_, e⟩ | ⟨_, _, e⟩ | ⟨_, _, e⟩
      · rw [e]; exact h
      · rw [e] at hok ⊢; exact ⟨hok, h.safe, h.ops⟩
      · rw [e] at hok ⊢
        have hb : Kept K data (burn d) := ⟨burn_ok h.ok, by rw [burn_safe]; exact h.safe, by rw [burn_ops]; exact h.ops⟩
        exact hb.settle _
    · rw [e] at hok ⊢; exact ⟨hok, h.safe, h.ops⟩
    · rw [e] at hok ⊢; exact ⟨hok, h.safe, h.ops⟩
    · rw [e] at hok ⊢
      have := h.settle (keep c.m d.ops.length)
      exact ⟨hok, this.safe, this.ops⟩
    · rw [e] at hok ⊢; exact ⟨hok, h.safe, h.ops⟩
theorem Kept.reads {K data : ByteArray} {d : Dk} (h : Kept K data d) (n : Int) : read (start (crash d n)) K = (data, 0) := by
  have h1 := (h.settle (keep n d.ops.length)).safe
  unfold read
  have e : files (start (crash d n)) = (Dsk.settle d (keep n d.ops.length)).safe := rfl
  rw [if_neg (by show ¬ (false = true); simp), e, h1]
end Dsk
end Go.Proofs.Ytempiajepomajaa
