/-
  Walk of layer 1: the document's Quote (append, and a statement whose order Go leaves open).
-/
import Derived.Test.YtakgmpebgaiinaaDoorRefQ
import Derived.Deep.RegionLaw
namespace Go.Proofs.YtakgmpebgaiinaaDoor
open Go.RowKit

/-- append onto a row of the call's own, as one step of a region that draws its order. -/
theorem step_append_own {P : Program} {ops : Array Oper} {o : Oper} {a : Act} {w : World} {K : Act → World → Prop} {Q : Exit → Act → World → Prop} {E : Prop}
    (hg : o.guard = none) (s x : Operand) (t : TypeId) (ho : o.op = .call { callee := .builtin .append, args := #[s, x], argTypes := #[t, t] })
    (base : Nat) (e : TypeId) (i : TypeInfo) (z : Value) (size bytes : Nat) (ht : P.underlying t = some (.slice e)) (hi : P.info? e = some i) (hz : i.zero = some z)
    (hsize : i.size = size) (hby : i.bytes = bytes) (hzs : z.cells.size = size) (hsz : 0 < size)
    (v : Value) (n : Nat) (xs : List Value) (hs : a.eval s = v) (hown : w.ownsRow base e size v n xs)
    (ad : Addr) (m c : Nat) (news : List Value) (hx : a.eval x = .slice (some ad) m c) (hl : news.length = m * size) (hnews : ∀ j u, news[j]? = some u → w.cell? (ad.add j) = some u) (h1 : ∀ u ∈ news, u.oneCell' = true)
    (h63 : n + m ≤ maxLen) (hbytes : (n + m) * bytes ≤ 140737488355328) (hbase : base ≤ w.heap.size)
    (h : ∀ v' w', w'.ownsRow base e size v' (n + m) (xs ++ news) → w.grownBy w' v.ownBlock → K (a.put o.dst v') w') :
    if Region.wanted o (yielded ops a.tmps) = true then Oper.wp P o a w K Q else E := by
  have hw : Region.wanted o (yielded ops a.tmps) = true := by simp [Region.wanted, hg]
  rw [if_pos hw]
  exact wp_append_own w s x t ho base e i z size bytes ht hi hz hsize hby hzs hsz v n xs hs hown ad m c news hx hl hnews h1 h63 hbytes hbase fun v' w' h2 h3 _ => h v' w' h2 h3

theorem news1 (w : World) (x : Value) : ∀ (j : Nat) (u : Value), [x][j]? = some u → (w.alloc (.cells #[x] 5)).cell? ((⟨w.heap.size, 0, none⟩ : Addr).add j) = some u := by
  intro j u hj
  match j, hj with
  | 0, hj => simp at hj; subst hj; simp [Addr.add]
theorem news3 (w : World) (x y z : Value) : ∀ (j : Nat) (u : Value), [x, y, z][j]? = some u → (w.alloc (.cells #[x, y, z] 5)).cell? ((⟨w.heap.size, 0, none⟩ : Addr).add j) = some u := by
  intro j u hj
  match j, hj with
  | 0, hj => simp at hj; subst hj; simp [Addr.add]
  | 1, hj => simp at hj; subst hj; simp [Addr.add]
  | 2, hj => simp at hj; subst hj; simp [Addr.add]
theorem below_own {B : Nat} {a w w' : World} {o : Obj} {e size n : Nat} {v : Value} {xs : List Value} (h : Below B a w) (hB : B ≤ w.heap.size) (hg : (w.alloc o).grownBy w' v.ownBlock) (ho : w.ownsRow B e size v n xs) : Below B a w' :=
  (h.alloc hB o).grown hg (by simp; omega) (fun k hk => by
    rcases ho.2 with ⟨rfl, _⟩ | ⟨g, cap, cur, rfl, hgB, _⟩
    · cases hk
    · simp [Value.ownBlock] at hk; omega)

/-- 'string(b)' of a row of the call's own. -/
theorem conv_own {B n : Nat} {wr : World} {v : Value} {l : List UInt8} (h : wr.ownsRow B 5 1 v n (Lib.byteCells l)) :
    (convert 40 9 v).run Tryd.prog wr = .ok (.string ⟨l.toArray⟩) wr := by
  have hl : (Lib.byteCells l).length = n * 1 := h.1
  rw [Lib.byteCells_length] at hl
  rcases h.2 with ⟨rfl, h0⟩ | ⟨g, cap, cur, rfl, _, hb, hn, _, hcs, htk⟩
  · rw [run_convert_bytes_nil (P := Tryd.prog) wr 40 5 Tryd.underlying40 Tryd.underlying5 0 0 9 Tryd.underlying9]
    have : l = [] := List.eq_nil_of_length_eq_zero (by omega)
    subst this; rfl
  · obtain rfl : n = l.length := by omega
    refine run_convert_bytes_back (P := Tryd.prog) wr 40 9 5 ⟨g, 0, none⟩ cap l Tryd.underlying40 Tryd.underlying5 Tryd.underlying9 ?_
    intro j hj
    have e : (⟨g, 0, none⟩ : Addr).add j = ⟨g, j, none⟩ := by unfold Addr.add; split <;> simp_all
    rw [e, Lib.cell_of_heap hb j]
    have h2 : (cur.toList.take (l.length * 1))[j]? = (Lib.byteCells l)[j]? := by rw [htk]
    rw [List.getElem?_take_of_lt (by omega)] at h2
    rw [← Array.getElem?_toList, h2]
    simp [Lib.byteCells, hj]

set_option maxHeartbeats 2000000 in
theorem refQuote_any (s : ByteArray) (w : World) (hs : s.size ≤ 1099511627776) :
    Calls Tryd.prog 24 #[.string s] w fun e w' => e = .returned (.string ⟨(Oct.quote s.data.toList).toArray⟩) ∧ Below w.heap.size w w' := by
  obtain ⟨i0, hi, hz0, hz1, hz2⟩ := info_parts Bld.infoByte
  go_enter Tryd.func24, Tryd.ntmps24
  go_wp2
  go_loopw [3, 7] (fun v i wr => ∃ k : Nat, k ≤ s.size ∧ i = .int .i64 k ∧ wr.ownsRow w.heap.size 5 1 v (Oct.quote (s.data.toList.take k)).length (Lib.byteCells (Oct.quote (s.data.toList.take k))) ∧ Below w.heap.size w wr) (fun _ i _ => s.size - (intOf i).toNat)
  case atStart => exact ⟨0, Nat.zero_le _, rfl, World.ownsRow_nil _ _ _ _, Below.refl _ w⟩
  case round =>
    obtain ⟨k, hk, rfl, hown, hbl⟩ := hrel
    have hql := Oct.quote_take_len s k
    have hsz := hbl.size
    by_cases hlt : k < s.size
    · have hsn : Hid (s.data.toList.take (k + 1) = s.data.toList.take k ++ [s[k]]) := Oct.take_snoc s k hlt
      cases hp : Oct.plainI (s[k].toNat : Int) with
      | true =>
        have HA := refPlain_yes (s[k].toNat : Int) wr hp
        have hq : Hid (Oct.quote (s.data.toList.take (k + 1)) = Oct.quote (s.data.toList.take k) ++ [s[k]]) := by show _ = _; rw [hsn.out, Oct.quote_snoc, Oct.q1_yes hp]
        clear hp
        go_wp2_with (first | (go_at_call 31; refine HA.mono ?_; rintro e w' ⟨rfl, rfl⟩) | (at_builtin; refine wpList_append_own _ rfl _ _ 40 rfl w.heap.size 5 i0 (.int .u8 0) 1 1 Tryd.underlying40 hi hz0 hz1 hz2 rfl (by decide) _ _ _ rfl (hown.alloc _) ⟨_, 0, none⟩ 1 1 [.int .u8 (s[k].toNat : Int)] rfl rfl (news1 _ _) ?c2 ?c3 ?c4 ?c5 ?_))
        case c2 => intro u hu; simp at hu; subst hu; rfl
        case c3 => unfold maxLen; omega
        case c4 => omega
        case c5 => simp; omega
        intro v' w2 hown' hgrow _
        go_wp2
        go_roundw
        case rel => exact ⟨k + 1, by omega, by go_num, by rw [hq.out, Lib.byteCells_append, List.length_append]; exact hown', below_own hbl hsz hgrow hown⟩
        case measure => simp [intOf]; omega
      | false =>
        have HA := refPlain_no (s[k].toNat : Int) wr hp
        have hq : Hid (Oct.quote (s.data.toList.take (k + 1)) = Oct.quote (s.data.toList.take k) ++ [92, Oct.hexc (s[k].toNat / 16), Oct.hexc (s[k].toNat % 16)]) := by show _ = _; rw [hsn.out, Oct.quote_snoc, Oct.q1_no hp]
        clear hp
        have hc := UInt8.toNat_lt s[k]
        go_wp2_with (go_at_call 31; refine HA.mono ?_; rintro e w' ⟨rfl, rfl⟩)
        have hownD : w'.drew.ownsRow w.heap.size 5 1 u3 (Oct.quote (s.data.toList.take k)).length (Lib.byteCells (Oct.quote (s.data.toList.take k))) := hown
        have hw1 : IntKind.u8.wrap ((s[k].toNat : Int) / 16) = (s[k].toNat : Int) / 16 := by rw [IntKind.wrap_u8]; omega
        have hw2 : (s[k].toNat : Int).tmod 16 = (s[k].toNat : Int) % 16 := Int.tmod_eq_emod_of_nonneg (by omega)
        go_region_law (first
          | (refine step_append_own rfl (.tmp 20) (.tmp 31) 40 rfl w.heap.size 5 i0 (.int .u8 0) 1 1 Tryd.underlying40 hi hz0 hz1 hz2 rfl (by decide) u3 _ _ (by simp [Act.eval]) (hownD.alloc _) ⟨w'.heap.size, 0, none⟩ 3 3 [.int .u8 92, .int .u8 ((Oct.hexc (s[k].toNat / 16)).toNat : Int), .int .u8 ((Oct.hexc (s[k].toNat % 16)).toNat : Int)] (by simp [Act.eval]) rfl (news3 _ _ _ _) (by intro u hu; simp at hu; rcases hu with rfl | rfl | rfl <;> rfl) (by unfold maxLen; omega) (by omega) (by simp; omega) ?_
             intro v' w2 hown' hgrow)
          | (go_simp; go_at_call 34; refine (hex_any _ _ (by omega) (by omega)).mono ?_; rintro e w3 ⟨rfl, rfl⟩; dsimp only))
        all_goals
          go_wp2
          refine ⟨⟨k + 1, by omega, by go_num, ?_, below_own hbl.drew hsz hgrow hownD⟩, by simp [intOf]; omega⟩
          rw [hq.out, Lib.byteCells_append, List.length_append]; exact hown'
    · have hall : Hid (s.data.toList.take k = s.data.toList) := Oct.take_all s k (by omega)
      have hcv := conv_own hown
      go_wp2
      go_ret
      exact ⟨ret_s (by rw [hall.out]), hbl⟩
end Go.Proofs.YtakgmpebgaiinaaDoor
