/-
  Walks of layer 5: Text of what may not be; the document's Text. Layer 5: what strings.SplitN cuts a text into; blocks that are known whole.
-/
import Derived.Test.YtgboghbicbnhiaaGreatDoorSoAJ
import Derived.Test.YtgboghbicbnhiaaGreatDoorSoAT
import Derived.Laws.Rows
namespace Go.Proofs.YtgboghbicbnhiaaGreatDoor
open Go.RowKit

set_option maxHeartbeats 1000000 in
theorem jtext_no (g n k : Int) (u f t c : ByteArray) (z : Int) (w : World) (hw : Ok w) (h0 : Job.chk ⟨g, n, k, u, f, t, c, z⟩ ≠ 0) (hu : u.size ≤ maxLen) (hf : f.size ≤ maxLen) (ht : t.size ≤ maxLen) (hc : c.size ≤ maxLen) :
    Calls Tryz.prog 32 #[.agg #[.int .i64 g, .int .i64 n, .int .i64 k, .string u, .string f, .string t, .string c, .int .i64 z]] w fun e w' => e = .returned (.tuple #[.string ⟨#[]⟩, .int .i64 (Job.chk ⟨g, n, k, u, f, t, c, z⟩ : Nat)]) ∧ Below w.heap.size w w' := by
  have hb0 : w.heap.size < (w.alloc (.cells #[.int .i64 g, .int .i64 n, .int .i64 k, .string u, .string f, .string t, .string c, .int .i64 z] 33)).heap.size := by simp
  have hk0 : Keeps w.heap.size g n k u f t c z (w.alloc (.cells #[.int .i64 g, .int .i64 n, .int .i64 k, .string u, .string f, .string t, .string c, .int .i64 z] 33)) := keeps_new g n k u f t c z w _
  have bw : Below w.heap.size w (w.alloc (.cells #[.int .i64 g, .int .i64 n, .int .i64 k, .string u, .string f, .string t, .string c, .int .i64 z] 33)) := below_alloc1 w _
  have hw0 : Ok (w.alloc (.cells #[.int .i64 g, .int .i64 n, .int .i64 k, .string u, .string f, .string t, .string c, .int .i64 z] 33)) := hw.below bw
  have HK : Hid (∀ W, Below (w.alloc (.cells #[.int .i64 g, .int .i64 n, .int .i64 k, .string u, .string f, .string t, .string c, .int .i64 z] 33)).heap.size (w.alloc (.cells #[.int .i64 g, .int .i64 n, .int .i64 k, .string u, .string f, .string t, .string c, .int .i64 z] 33)) W → Calls Tryz.prog 61 #[.agg #[.int .i64 g, .int .i64 n, .int .i64 k, .string u, .string f, .string t, .string c, .int .i64 z]] W fun e w' => e = .returned (.int .i64 (Job.chk ⟨g, n, k, u, f, t, c, z⟩ : Nat)) ∧ Below (w.alloc (.cells #[.int .i64 g, .int .i64 n, .int .i64 k, .string u, .string f, .string t, .string c, .int .i64 z] 33)).heap.size (w.alloc (.cells #[.int .i64 g, .int .i64 n, .int .i64 k, .string u, .string f, .string t, .string c, .int .i64 z] 33)) w' ∧ Keeps w.heap.size g n k u f t c z w') := fun W hW => chain hk0 hb0 hW (jcheck_any g n k u f t c z W (hw0.below hW) hu hf ht hc)
  obtain ⟨n1, n2, n3, n4⟩ := ne_facts h0
  generalize Job.chk ⟨g, n, k, u, f, t, c, z⟩ = q at *
  obtain ⟨j0, j1, j2, j3, j4, j5, j6, j7⟩ := hk0
  clear hw0 hw h0
  go_enter Tryz.func32, Tryz.ntmps32
  go_wp2_with (go_at_call 61; refine (HK.out _ (Below.refl _ _)).mono ?_; rintro e w' ⟨rfl, b', i0, i1, i2, i3, i4, i5, i6, i7⟩)
  go_ret2
  exact ⟨rfl, bw.trans (b'.mono bw.size)⟩

theorem jtext_any (g n k : Int) (u f t c : ByteArray) (z : Int) (w : World) (hw : Ok w) (hu : u.size ≤ maxLen) (hf : f.size ≤ maxLen) (ht : t.size ≤ maxLen) (hc : c.size ≤ maxLen) :
    Calls Tryz.prog 32 #[.agg #[.int .i64 g, .int .i64 n, .int .i64 k, .string u, .string f, .string t, .string c, .int .i64 z]] w fun e w' => e = .returned (.tuple #[.string ⟨(Job.text ⟨g, n, k, u, f, t, c, z⟩).1.toArray⟩, .int .i64 ((Job.text ⟨g, n, k, u, f, t, c, z⟩).2 : Nat)]) ∧ Below w.heap.size w w' := by
  by_cases h : Job.chk ⟨g, n, k, u, f, t, c, z⟩ = 0
  · have e : Job.text ⟨g, n, k, u, f, t, c, z⟩ = (Job.txt ⟨g, n, k, u, f, t, c, z⟩, 0) := by unfold Job.text; rw [if_pos h]
    rw [e]
    exact jtext_yes g n k u f t c z w hw h hu hf ht hc
  · have e : Job.text ⟨g, n, k, u, f, t, c, z⟩ = ([], Job.chk ⟨g, n, k, u, f, t, c, z⟩) := by unfold Job.text; rw [if_neg h]
    rw [e]
    exact jtext_no g n k u f t c z w hw h hu hf ht hc

namespace Job
end Job

end Go.Proofs.YtgboghbicbnhiaaGreatDoor

namespace Go.Proofs.YtgboghbicbnhiaaGreatDoor
open Go.RowKit

namespace Job
theorem splitK_size : ∀ (k : Nat) (l x : Bs), x ∈ Lib.splitK [32] 0 k l → x.length ≤ l.length
  | 0, l, x, h => by simp only [Lib.splitK, List.mem_singleton] at h; rw [h]; exact Nat.le_refl _
  | k + 1, l, x, h => by
    unfold Lib.splitK at h
    split at h
    · simp only [List.mem_singleton] at h; rw [h]; exact Nat.le_refl _
    · rw [List.mem_cons] at h
      rcases h with h | h
      · rw [h, List.length_take]; omega
      · have := splitK_size k _ x h
        rw [List.length_drop] at this; omega
/-- the words of a text -/
def wds (s : ByteArray) : List ByteArray := Lib.splitB ⟨#[32]⟩ 0 (min 7 (s.size + 1) - 1) s
theorem wds_map (s : ByteArray) : (wds s).map (·.data.toList) = Lib.splitK [32] 0 (min 7 (s.size + 1) - 1) s.data.toList := by
  unfold wds; rw [Lib.splitB_data]
theorem wds_len (s : ByteArray) : (wds s).length ≤ min 7 (s.size + 1) := by
  have h := congrArg List.length (wds_map s)
  rw [List.length_map] at h
  rw [h]
  have := splitK_len (min 7 (s.size + 1) - 1) s.data.toList
  omega
theorem wds_size {s x : ByteArray} (h : x ∈ wds s) : x.size ≤ s.size := by
  have hm : x.data.toList ∈ (wds s).map (·.data.toList) := List.mem_map.2 ⟨x, h, rfl⟩
  rw [wds_map] at hm
  have := splitK_size _ _ _ hm
  rw [Oct.len_eq, Oct.len_eq] at this
  exact this
theorem ltr_pos {k : Int} (h : knd k = true) : 1 ≤ (ltr k).length := by
  rcases hl : ltr k with _ | ⟨a, r⟩
  · rw [(knd_ltr k).1 hl] at h; cases h
  · simp
theorem txt_long {j : Jb} (h : chk j = 0) : 6 ≤ (txt j).length := by
  obtain ⟨h1, h2, h3, h4, h5, h6, h7, h8⟩ := chk_ok.1 h
  have a := jn_len (ws j) (by intro e; have := (ws_len j).1; rw [e] at this; simp at this)
  have b := (ws_len j).1
  have c := ltr_pos h2
  have d : 1 ≤ Lib.lens (ws j) := by unfold ws; simp only [Lib.lens, List.cons_append, List.map_cons, List.sum_cons]; omega
  unfold txt
  omega
theorem wds_says {s : ByteArray} {j : Jb} (h : says s.data.toList j) : cand (wds s) = j ∧ 6 ≤ (wds s).length := by
  have hl : 6 ≤ s.size := by rw [← Oct.len_eq, ← h.2]; exact txt_long h.1
  refine cand_split h ?_
  rw [wds_map]
  congr 1
  omega
theorem parse_short {s : ByteArray} (h : (wds s).length < 6) : parse s.data.toList = (zero, 3) := by
  refine parse_no ?_
  rintro ⟨j, hj⟩
  have := (wds_says hj).2
  omega
theorem parse_at {s : ByteArray} (hc : chk (cand (wds s)) = 0) (ht : txt (cand (wds s)) = s.data.toList) : parse s.data.toList = (cand (wds s), 0) := parse_yes ⟨hc, ht⟩
theorem parse_bad {s : ByteArray} (h : ¬ (chk (cand (wds s)) = 0 ∧ txt (cand (wds s)) = s.data.toList)) : parse s.data.toList = (zero, 3) :=
  parse_not (fun _ hj => (wds_says hj).1) h
end Job

/-- the cells of a row of texts -/
theorem splitN_any (s : ByteArray) (w : World) (hm : MaxIn w) (hs : s.size ≤ 1000000) :
    Calls Tryz.prog 141 #[.string s, .string ⟨#[32]⟩, .int .i64 7] w fun e w' => e = .returned (.slice (some ⟨w.heap.size, 0, none⟩) (Job.wds s).length (min 7 (s.size + 1))) ∧ Below w.heap.size w w' ∧ w.heap.size < w'.heap.size ∧ Texts w' w.heap.size (Job.wds s) := by
  obtain ⟨m, hm⟩ := hm
  refine (Tryz.strings_SplitN s ⟨#[32]⟩ 7 m w (by omega) hm (by decide) (by decide) (by decide)).mono ?_
  rintro e w' ⟨rfl, rfl⟩
  refine ⟨rfl, below_alloc1 _ _, by simp, fun i hi => ?_⟩
  have hl : i < (Lib.splitB ⟨#[32]⟩ 0 (min 7 (s.size + 1) - 1) s).length := hi
  rw [Lib.cell_of_heap (MapKept.heap_alloc w _).1 i]
  unfold Lib.cellsOf
  rw [List.getElem?_toArray, List.getElem?_append_left (by rw [List.length_map]; exact hl), List.getElem?_map, List.getElem?_eq_getElem hl]
  rfl

/-- a job's block, whole -/
def Blk (b : Nat) (C : Array Value) (W : World) : Prop := W.heap[b]? = some (.cells C 33 (0, 0))
theorem Blk.below {b B : Nat} {C : Array Value} {W W' : World} (h : Blk b C W) (hb : Below B W W') (hB : b < B) : Blk b C W' := by
  unfold Blk at *; rw [hb.block b hB]; exact h
theorem Blk.lt {b : Nat} {C : Array Value} {W : World} (h : Blk b C W) : b < W.heap.size := by
  unfold Blk at h
  rcases Nat.lt_or_ge b W.heap.size with h' | h'
  · exact h'
  · rw [Array.getElem?_eq_none h'] at h; cases h
theorem Blk.cell {b : Nat} {C : Array Value} {W : World} (h : Blk b C W) (i : Nat) : W.cell? ⟨b, i, none⟩ = C[i]? := Lib.cell_of_heap h i
theorem Blk.thaw {b : Nat} {C : Array Value} {W : World} (h : Blk b C W) (i : Nat) : W.frozen? ⟨b, i, none⟩ = false := by
  unfold Blk at h; unfold World.frozen?; simp [h]
theorem Blk.set {b i : Nat} {C : Array Value} {W : World} (h : Blk b C W) (hi : i < C.size) (v : Value) : Blk b (C.set i v hi) (W.setCell ⟨b, i, none⟩ v) := by
  unfold Blk at *
  rw [Go.heap_setCell_same W b i C 33 v h]
  simp [Array.setIfInBounds, hi]
theorem Blk.other {b c i : Nat} {C : Array Value} {W : World} (h : Blk b C W) (hc : c ≠ b) (v : Value) : Blk b C (W.setCell ⟨c, i, none⟩ v) := by
  unfold Blk at *
  rw [show (W.setCell ⟨c, i, none⟩ v).heap[b]? = W.heap[b]? from ?_]
  · exact h
  · exact Below.heap_setCell _ _ _ _ (fun e => hc e.symm)
end Go.Proofs.YtgboghbicbnhiaaGreatDoor
