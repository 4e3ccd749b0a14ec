/-
  Layer 9: what a door keeps while bytes come, and Type.
-/
import Derived.Test.YtpndcbilnbihaabDoorGr3
import Derived.Test.YtpndcbilnbihaabDoorGrB
namespace Go.Proofs.YtpndcbilnbihaabDoor
open Go.RowKit

theorem ba_drop (s : ByteArray) (k : Nat) : s.extract k s.size = ⟨(s.data.toList.drop k).toArray⟩ := by
  apply ByteArray.ext
  apply Array.toList_inj.1
  rw [ByteArray.data_extract]
  simp
  rw [List.take_of_length_le]
  simp
theorem ba_one (s : ByteArray) (k : Nat) (h : k < s.size) : s.extract k (k + 1) = ⟨#[s[k]]⟩ := by
  apply ByteArray.ext
  apply Array.toList_inj.1
  have h2 : k < s.data.size := h
  rw [ByteArray.data_extract, Array.toList_extract]
  show ((s.data.toList.drop k).take (k + 1 - k)) = [s[k]]
  rw [Gr.drop_at s k h, show k + 1 - k = 1 by omega]
  rfl
theorem byteCells_app (a b : List UInt8) : Lib.byteCells (a ++ b) = Lib.byteCells a ++ Lib.byteCells b := by simp [Lib.byteCells]
theorem builder_kept {T e : TypeId} {B b : Nat} {bs : List Value} {W W' : World} (h : Lib.IsBuilderF T e B b bs W) (hk : ∀ k, B ≤ k → k < W.heap.size → W'.heap[k]? = W.heap[k]?) : Lib.IsBuilderF T e B b bs W' := by
  have one : ∀ p, Lib.BuilderAtF T e B b p bs W → Lib.BuilderAtF T e B b p bs W' := by
    intro p h
    have hlt := h.lt
    obtain ⟨hB, v, hb, hown, hne⟩ := h
    refine ⟨hB, v, (hk b hB hlt).trans hb, ⟨hown.1, ?_⟩, hne⟩
    rcases hown.2 with hn | ⟨g, cap, cur, fz, hv, hbg, hg, rest⟩
    · exact .inl hn
    · have hgl : g < W.heap.size := by
        rcases Nat.lt_or_ge g W.heap.size with h' | h'
        · exact h'
        · rw [Array.getElem?_eq_none h'] at hg; cases hg
      exact .inr ⟨g, cap, cur, fz, hv, hbg, (hk g hbg hgl).trans hg, rest⟩
  exact h.elim (fun x => .inl (one _ x)) (fun x => .inr (one _ x))

/-- what stands while bytes are gone through -/
structure TIn (w : World) (login pw s : ByteArray) (R : Gr.D × List UInt8 × List UInt8) (k : Nat) (d : Gr.D) (out : List UInt8) (W : World) : Prop where
  bel : Below w.heap.size w W
  door : Rg.Bk w.heap.size [.int .i64 d.stage, .string d.typed, .string d.name, .int .i64 d.wrong] 38 W
  res : Rg.Bk (w.heap.size + 1) [.int .i64 0, .string ⟨#[]⟩, .string ⟨#[]⟩, .int .i64 0] 38 W
  bld : Lib.IsBuilderF 58 5 (w.heap.size + 2) (w.heap.size + 2) (Lib.byteCells out) W
  good : Gr.Good d
  run : R = ((Gr.typeL login pw (s.data.toList.drop k) d).1, out ++ (Gr.typeL login pw (s.data.toList.drop k) d).2.1, (Gr.typeL login pw (s.data.toList.drop k) d).2.2)
  small : out.length ≤ 24 * k
theorem line_small (login pw : ByteArray) (d : Gr.D) : (Gr.line login pw d).2.size ≤ 24 := by
  unfold Gr.line
  repeat' split
  all_goals (simp only; decide)
theorem TIn.lined {w : World} {login pw s : ByteArray} {R : Gr.D × List UInt8 × List UInt8} {k : Nat} {d : Gr.D} {out : List UInt8} {W W' : World} (h : TIn w login pw s R k d out W) (hk : k < s.size) (hc : s[k] = 13 ∨ s[k] = 10) (hs : d.stage = 0 ∨ d.stage = 1) (hb : Below w.heap.size w W')
    (hd : Rg.Bk w.heap.size [.int .i64 (Gr.line login pw d).1.stage, .string (Gr.line login pw d).1.typed, .string (Gr.line login pw d).1.name, .int .i64 (Gr.line login pw d).1.wrong] 38 W') (hr : Rg.Bk (w.heap.size + 1) [.int .i64 0, .string ⟨#[]⟩, .string ⟨#[]⟩, .int .i64 0] 38 W')
    (hbl : Lib.BuilderAtF 58 5 (w.heap.size + 2) (w.heap.size + 2) (.pointer (some ⟨w.heap.size + 2, 0, none⟩)) (Lib.byteCells out ++ Lib.strCells (Gr.line login pw d).2) W') :
    TIn w login pw s R (k + 1) (Gr.line login pw d).1 (out ++ (Gr.line login pw d).2.data.toList) W' :=
  ⟨hb, hd, hr, .inr (by rw [byteCells_app]; exact hbl), Gr.good_line login pw h.good hs, by
    rw [h.run, Gr.drop_at s k hk, Gr.type_line hs hc]; simp only [List.append_assoc], by
    have h1 := h.small
    have h2 : (Gr.line login pw d).2.data.toList.length ≤ 24 := by rw [Array.length_toList]; exact line_small login pw d
    show (out ++ (Gr.line login pw d).2.data.toList).length ≤ 24 * (k + 1)
    rw [List.length_append]
    omega⟩
theorem TIn.put {w : World} {login pw s : ByteArray} {R : Gr.D × List UInt8 × List UInt8} {k : Nat} {d : Gr.D} {out : List UInt8} {W W' : World} (h : TIn w login pw s R k d out W) (hk : k < s.size) (hc : ¬ (s[k] = 13 ∨ s[k] = 10)) (hs : d.stage = 0 ∨ d.stage = 1) (ho : Rg.Only w.heap.size W W')
    (hd : Rg.Bk w.heap.size [.int .i64 (Gr.put s[k] d).stage, .string (Gr.put s[k] d).typed, .string (Gr.put s[k] d).name, .int .i64 (Gr.put s[k] d).wrong] 38 W') :
    TIn w login pw s R (k + 1) (Gr.put s[k] d) out W' :=
  ⟨h.bel.trans (ho.bel (Nat.le_refl _)), hd, h.res.same (ho.block _ (by omega)), builder_kept h.bld (fun j hj _ => ho.block j (by omega)), Gr.good_put _ h.good, by
    rw [h.run, Gr.drop_at s k hk, Gr.type_put hs hc], by have := h.small; omega⟩
end Go.Proofs.YtpndcbilnbihaabDoor
