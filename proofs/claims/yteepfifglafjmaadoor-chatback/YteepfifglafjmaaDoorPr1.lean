/-
  Layer 8: what is kept while bytes are appended; putSigns, putText, putSent.
-/
import Derived.Test.YteepfifglafjmaaDoorCh10
import Derived.Test.YteepfifglafjmaaDoorMathK8
namespace Go.Proofs.YteepfifglafjmaaDoor
open Go.RowKit

/-- every block stays that is no row of bytes of one's own -/
def Keep (w w' : World) : Prop := ∀ (b : Nat) (o : Obj), w.heap[b]? = some o → (∀ C, o ≠ .cells C 5 (0, 0)) → w'.heap[b]? = some o
theorem Keep.refl (w : World) : Keep w w := fun _ _ h _ => h
theorem Keep.trans {a b c : World} (h : Keep a b) (k : Keep b c) : Keep a c := fun i o h1 h2 => k i o (h i o h1 h2) h2
theorem Keep.below {w w' : World} (h : Below w.heap.size w w') : Keep w w' := fun i o h1 _ => by
  have hi : i < w.heap.size := by
    rcases Nat.lt_or_ge i w.heap.size with c | c
    · exact c
    · rw [Array.getElem?_eq_none c] at h1; cases h1
  rw [h.block i hi]; exact h1
theorem Keep.bk {w w' : World} (h : Keep w w') {b : Nat} {C : List Value} {ty : TypeId} (k : Rg.Bk b C ty w) (hty : ty ≠ 5) : Rg.Bk b C ty w' := h b _ k fun C' e => by
  injection e with _ e _
  exact hty e
theorem keep_app {base : Nat} {W W' : World} {v : Value} {l : List UInt8} (h : BOwn base W v l) (hs : ∀ k, k < W.heap.size → v.ownBlock ≠ some k → W'.heap[k]? = W.heap[k]?) : Keep W W' := fun i o h1 h2 => by
  have hi : i < W.heap.size := by
    rcases Nat.lt_or_ge i W.heap.size with c | c
    · exact c
    · rw [Array.getElem?_eq_none c] at h1; cases h1
  rw [hs i hi (fun e => by
    obtain ⟨C, k, _⟩ := h.typed i e
    unfold Rg.Bk at k
    rw [h1] at k
    exact h2 _ (Option.some.inj k))]
  exact h1
/-- append of a text's bytes -/
theorem BOwn.adds {base : Nat} {W : World} {v : Value} {l : List UInt8} (h : BOwn base W v l) (s : ByteArray) (hB : base ≤ W.heap.size) (hlen : l.length + s.size ≤ 1000000000) :
    ∃ v' W', (Builtin.append_ #[45, 9] 45 #[v, .string s]).run Tryd.prog W = .ok v' W' ∧ BOwn base W' v' (l ++ s.data.toList) ∧ Below base W W' ∧ Keep W W' := by
  obtain ⟨v', W', h1, h2, h3, h4⟩ := h.add s hB hlen
  exact ⟨v', W', h1, h2, h3, keep_app h h4⟩
/-- append of bytes that lie in a block -/
theorem BOwn.put {base : Nat} {W : World} {v : Value} {l : List UInt8} (h : BOwn base W v l) (news : List UInt8) (n : Nat) (hn : n = news.length) (ad : Nat) (hk : Rg.Bk ad (news.map fun b => Value.int .u8 (b.toNat : Int)) 5 W) (hB : base ≤ W.heap.size) (hlen : l.length + news.length ≤ 1000000000) :
    ∃ v' W', (Builtin.append_ #[45, 45] 45 #[v, .slice (some ⟨ad, 0, none⟩) n n]).run Tryd.prog W = .ok v' W' ∧ BOwn base W' v' (l ++ news) ∧ Below base W W' ∧ Keep W W' := by
  subst hn
  obtain ⟨i0, hi, hz0, hz1, hz2⟩ := infoByte'
  obtain ⟨v', W', h1, h2, h3, _⟩ := run_append_own (P := Tryd.prog) W base 45 45 5 i0 _ 1 1 Tryd.underlying45 hi hz0 hz1 hz2 rfl (by decide) v l.length _ h ⟨ad, 0, none⟩ news.length news.length (news.map fun b => Value.int .u8 (b.toNat : Int)) (by simp) (fun j u hj => by
      have e : (⟨ad, 0, none⟩ : Addr).add j = ⟨ad, j, none⟩ := by cases j <;> simp [Addr.add]
      rw [e, hk.cell]; exact hj) (fun u hu => by
      obtain ⟨b, _, rfl⟩ := List.mem_map.1 hu
      rfl) (by unfold maxLen; omega) (by omega) hB
  refine ⟨v', W', h1, ?_, (Below.refl _ _).grown h3 hB (fun k hk => ?_), keep_app h fun k hk hne => h3.block k hk (fun e => hne e.symm)⟩
  · unfold BOwn
    rw [List.length_append, List.map_append]
    exact h2
  · rcases h.2 with ⟨rfl, _⟩ | ⟨g, cap, cur, rfl, a1, _⟩
    · cases hk
    · simp [Value.ownBlock] at hk; omega
/-- behind a call that goes on with a script -/
def BPost (base : Nat) (w : World) (r : List UInt8) (e : Ending) (w' : World) : Prop := ∃ v, e = .returned v ∧ BOwn base w' v r ∧ Below base w w' ∧ Keep w w'

/-- the bytes of a text, in a block of their own -/
theorem conv_text (W : World) (x : ByteArray) : ∃ CP w5 fr C, (convert 9 45 (.string x)).run Tryd.prog W = .ok (.slice (some ⟨W.heap.size, 0, none⟩) x.size CP) w5 ∧ Below W.heap.size W w5 ∧ w5.heap[W.heap.size]? = some (.cells C 5 (fr, fr + 1)) ∧ (∀ (i : Nat) (h : i < x.size), C[i]? = some (.int .u8 (x[i].toNat : Int))) := by
  have hcv := run_bytes_of_string (P := Tryd.prog) W 9 45 5 x Tryd.underlying9 Tryd.underlying45 Tryd.underlying5
  refine ⟨_, _, _, _, hcv, ((Below.refl _ W).drew).alloc (Nat.le_refl _) _, heap_alloc_new W.drew _, fun i h => ?_⟩
  unfold bytesRow
  rw [Array.getElem?_append_left (by simpa using h)]
  simp [h]
  rfl
end Go.Proofs.YteepfifglafjmaaDoor
