/-
  Walk of layer 4: the document's split.
-/
import Derived.Test.YthjlhbbhdliffaaDoorPat1
import Derived.Laws.AppendOwn
namespace Go.Proofs.YthjlhbbhdliffaaDoor
open Go.RowKit

theorem cut_data (s : ByteArray) (a b : Nat) : (s.extract a b).data.toList = (s.data.toList.drop a).take (b - a) := by
  simp [List.extract]

namespace Pth
/-- where the document's split stands at place k: what lies behind 'fr' is still to be cut -/
def Cut (t : Bs) (fr k : Nat) (L : List Bs) : Prop :=
  (k ≤ t.length ∧ 1 ≤ fr ∧ fr ≤ k ∧ L ++ spl (t.drop fr) = spl (t.drop 1) ∧ (47 : UInt8) ∉ (t.drop fr).take (k - fr)) ∨ (k = t.length + 1 ∧ L = spl (t.drop 1))
theorem cut_start {t : Bs} (h : 1 ≤ t.length) : Cut t 1 1 [] := .inl ⟨h, Nat.le_refl _, Nat.le_refl _, rfl, by simp⟩
theorem cut_le {t : Bs} {fr k : Nat} {L : List Bs} (h : Cut t fr k L) (hk : k ≤ t.length) : fr ≤ k := by
  rcases h with h | h
  · exact h.2.2.1
  · omega
theorem drop_at {t : Bs} {fr k : Nat} {c : UInt8} (hf : fr ≤ k) (hc : t[k]? = some c) : t.drop fr = (t.drop fr).take (k - fr) ++ c :: t.drop (k + 1) := by
  have hk : k < t.length := by
    rcases Nat.lt_or_ge k t.length with h | h
    · exact h
    · rw [List.getElem?_eq_none h] at hc; cases hc
  have e : t.drop k = c :: t.drop (k + 1) := by
    rw [List.getElem?_eq_getElem hk] at hc
    injection hc with hc
    rw [← hc, List.drop_eq_getElem_cons hk]
  have e2 := List.take_append_drop (k - fr) (t.drop fr)
  rw [List.drop_drop, show fr + (k - fr) = k by omega, e] at e2
  exact e2.symm
theorem cut_go {t : Bs} {fr k : Nat} {L : List Bs} {c : UInt8} (h : Cut t fr k L) (hc : t[k]? = some c) (h2 : c ≠ 47) : Cut t fr (k + 1) L := by
  have hk : k < t.length := by
    rcases Nat.lt_or_ge k t.length with h | h
    · exact h
    · rw [List.getElem?_eq_none h] at hc; cases hc
  rcases h with ⟨_, h0, h1, h3, h4⟩ | h
  · refine .inl ⟨hk, h0, by omega, h3, ?_⟩
    have e := drop_at h1 hc
    have e3 : (t.drop fr).take (k + 1 - fr) = (t.drop fr).take (k - fr) ++ [c] := by
      rw [show k + 1 - fr = (k - fr) + 1 by omega, List.take_add_one, List.getElem?_drop, show fr + (k - fr) = k by omega, hc]; rfl
    rw [e3]
    simp only [List.mem_append, List.mem_singleton, not_or]
    exact ⟨h4, fun x => h2 x.symm⟩
  · omega
theorem cut_at {t : Bs} {fr k : Nat} {L : List Bs} (h : Cut t fr k L) (hc : t[k]? = some 47) : Cut t (k + 1) (k + 1) (L ++ [(t.drop fr).take (k - fr)]) := by
  have hk : k < t.length := by
    rcases Nat.lt_or_ge k t.length with h | h
    · exact h
    · rw [List.getElem?_eq_none h] at hc; cases hc
  rcases h with ⟨_, h0, h1, h3, h4⟩ | h
  · refine .inl ⟨hk, by omega, Nat.le_refl _, ?_, by simp⟩
    rw [drop_at h1 hc, spl_append, spl_one _ h4] at h3
    rw [← h3, List.append_assoc]
  · omega
theorem cut_end {t : Bs} {fr : Nat} {L : List Bs} (h : Cut t fr t.length L) : Cut t (t.length + 1) (t.length + 1) (L ++ [(t.drop fr).take (t.length - fr)]) := by
  rcases h with ⟨_, h0, h1, h3, h4⟩ | h
  · refine .inr ⟨rfl, ?_⟩
    have e : (t.drop fr).take (t.length - fr) = t.drop fr := List.take_of_length_le (by simp)
    rw [e] at h4 ⊢
    rw [spl_one _ h4] at h3
    exact h3
  · omega
theorem cut_done {t : Bs} {fr k : Nat} {L : List Bs} (h : Cut t fr k L) (hk : t.length < k) : L = spl t.tail := by
  rcases h with h | h
  · omega
  · rw [← List.drop_one]; exact h.2
end Pth

theorem infoStr : (Tryd.prog.info? 9).map (fun i => (i.zero, i.size, i.bytes)) = some (some (.string ByteArray.empty), 1, 16) := by kernel_rfl
theorem news9 (w : World) (x : Value) : ∀ (j : Nat) (u : Value), [x][j]? = some u → (w.alloc (.cells #[x] 9)).cell? ((⟨w.heap.size, 0, none⟩ : Addr).add j) = some u := by
  intro j u hj
  match j, hj with
  | 0, hj => simp at hj; subst hj; simp [Addr.add]
theorem below_own {B : Nat} {a w w' : World} {o : Obj} {e size n : Nat} {v : Value} {xs : List Value} (h : Below B a w) (hB : B ≤ w.heap.size) (hg : (w.alloc o).grownBy w' v.ownBlock) (ho : w.ownsRow B e size v n xs) : Below B a w' :=
  (h.alloc hB o).grown hg (by simp; omega) (fun k hk => by
    rcases ho.2 with ⟨rfl, _⟩ | ⟨g, cap, cur, rfl, hgB, _⟩
    · cases hk
    · simp [Value.ownBlock] at hk; omega)

set_option maxHeartbeats 2000000 in
theorem rsplit_any (p : ByteArray) (w : World) (hs : p.size ≤ 1000000) (h1 : 1 ≤ p.size) :
    Calls Tryd.prog 45 #[.string p] w fun e w' => ∃ (v : Value) (l : List ByteArray), e = .returned v ∧ l.map (fun s : ByteArray => s.data.toList) = Pth.spl p.data.toList.tail ∧ w'.ownsRow w.heap.size 9 1 v l.length (l.map Value.string) ∧ Below w.heap.size w w' := by
  obtain ⟨i0, hi, hz0, hz1, hz2⟩ := info_parts infoStr
  have hlen := Oct.len_eq p
  go_enter Tryd.func45, Tryd.ntmps45
  go_wp2
  go_loopw [3, 4, 5] (fun v f i wr => ∃ (fr k : Nat) (l : List ByteArray), f = .int .i64 fr ∧ i = .int .i64 k ∧ l.length ≤ k ∧ k ≤ p.size + 1 ∧ Hid (Pth.Cut p.data.toList fr k (l.map fun s : ByteArray => s.data.toList)) ∧ wr.ownsRow w.heap.size 9 1 v l.length (l.map Value.string) ∧ Below w.heap.size w wr) (fun _ _ i _ => p.size + 2 - (intOf i).toNat)
  case atStart => exact ⟨1, 1, [], rfl, rfl, Nat.zero_le _, by omega, Pth.cut_start (by omega), World.ownsRow_nil _ _ _ _, Below.refl _ w⟩
  case round =>
    obtain ⟨fr, k, l, rfl, rfl, hl, hk, hcut, hown, hbl⟩ := hrel
    have hsz := hbl.size
    by_cases hle : k ≤ p.size
    · have hfr : fr ≤ k := Pth.cut_le hcut.out (by omega)
      by_cases hlt : k < p.size
      · have hkn : p.data.toList[k]? = some p[k] := by rw [List.getElem?_eq_getElem (by omega)]; rfl
        have he : ((k : Int) == (p.size : Int)) = false := by rw [beq_eq_false_iff_ne]; omega
        have he' : (k == p.size) = false := by rw [beq_eq_false_iff_ne]; omega
        by_cases hc : p[k] = 47
        · have hn : Hid (Pth.Cut p.data.toList (k + 1) (k + 1) ((l ++ [p.extract fr k]).map fun s : ByteArray => s.data.toList)) := by
            show Pth.Cut _ _ _ _
            rw [List.map_append, List.map_singleton, cut_data]
            exact Pth.cut_at hcut.out (by rw [hkn, hc])
          have hb : ((p[k].toNat : Int) == 47) = true := by rw [hc]; rfl
          clear hc hcut hkn
          go_wp2_with (at_builtin; refine wpList_append_own _ rfl _ _ 44 rfl w.heap.size 9 i0 (.string ByteArray.empty) 1 16 Tryd.underlying44 hi hz0 hz1 hz2 rfl (by decide) _ _ _ rfl (hown.alloc _) ⟨_, 0, none⟩ 1 1 [.string (p.extract fr k)] rfl rfl (news9 _ _) ?c2 ?c3 ?c4 ?c5 ?_)
          case c2 => intro u hu; simp at hu; subst hu; rfl
          case c3 => unfold maxLen; omega
          case c4 => omega
          case c5 => simp; omega
          intro v' w2 hown' hgrow _
          go_wp2
          go_roundw
          case rel => exact ⟨k + 1, k + 1, l ++ [p.extract fr k], by go_num, by go_num, by simp; omega, by omega, hn, by rw [List.map_append, List.length_append]; exact hown', below_own hbl hsz hgrow hown⟩
          case measure => simp [intOf]; omega
        · have hn : Hid (Pth.Cut p.data.toList fr (k + 1) (l.map fun s : ByteArray => s.data.toList)) := Pth.cut_go hcut.out hkn hc
          have hb : ((p[k].toNat : Int) == 47) = false := by
            rw [beq_eq_false_iff_ne]; intro h; exact hc (UInt8.toNat_inj.1 (by show p[k].toNat = 47; omega))
          clear hc hcut hkn
          go_wp2
          go_roundw
          case rel => exact ⟨fr, k + 1, l, rfl, by go_num, by omega, by omega, hn, hown, hbl⟩
          case measure => simp [intOf]; omega
      · obtain rfl : k = p.size := by omega
        have hn : Hid (Pth.Cut p.data.toList (p.size + 1) (p.size + 1) ((l ++ [p.extract fr p.size]).map fun s : ByteArray => s.data.toList)) := by
          show Pth.Cut _ _ _ _
          rw [List.map_append, List.map_singleton, cut_data, ← hlen]
          exact Pth.cut_end (by rw [hlen]; exact hcut.out)
        clear hcut
        go_wp2_with (at_builtin; refine wpList_append_own _ rfl _ _ 44 rfl w.heap.size 9 i0 (.string ByteArray.empty) 1 16 Tryd.underlying44 hi hz0 hz1 hz2 rfl (by decide) _ _ _ rfl (hown.alloc _) ⟨_, 0, none⟩ 1 1 [.string (p.extract fr p.size)] rfl rfl (news9 _ _) ?c2 ?c3 ?c4 ?c5 ?_)
        case c2 => intro u hu; simp at hu; subst hu; rfl
        case c3 => unfold maxLen; omega
        case c4 => omega
        case c5 => simp; omega
        intro v' w2 hown' hgrow _
        go_wp2
        go_roundw
        case rel => exact ⟨p.size + 1, p.size + 1, l ++ [p.extract fr p.size], by go_num, by go_num, by simp; omega, by omega, hn, by rw [List.map_append, List.length_append]; exact hown', below_own hbl hsz hgrow hown⟩
        case measure => simp [intOf]
    · have hd : Hid (l.map (fun s : ByteArray => s.data.toList) = Pth.spl p.data.toList.tail) := Pth.cut_done hcut.out (by omega)
      clear hcut
      go_wp2
      go_ret
      exact ⟨_, l, rfl, hd.out, hown, hbl⟩
end Go.Proofs.YthjlhbbhdliffaaDoor
