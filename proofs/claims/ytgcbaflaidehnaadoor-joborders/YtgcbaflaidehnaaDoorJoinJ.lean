/-
  strings.Join at this program, where what stands between is one stroke.
-/
import Derived.Test.YtgcbaflaidehnaaDoorBldS
import Derived.Test.YtgcbaflaidehnaaDoorMathBun
namespace Go.Proofs.YtgcbaflaidehnaaDoor
open Go.RowKit


theorem join_none (a : Option Addr) (c : Nat) (sep : ByteArray) (w : World) :
    Calls Tryd.prog 19 #[.slice a 0 c, .string sep] w fun e w' => e = .returned (.string ⟨#[]⟩) ∧ w' = w := by
  go_enter Tryd.func19, Tryd.ntmps19
  go_wp2
  go_ret
  exact ⟨rfl, rfl⟩

theorem join_one (b c : Nat) (x sep : ByteArray) (w : World) (hc : w.cell? ⟨b, 0, none⟩ = some (.string x)) :
    Calls Tryd.prog 19 #[.slice (some ⟨b, 0, none⟩) 1 c, .string sep] w fun e w' => e = .returned (.string x) ∧ w' = w := by
  go_enter Tryd.func19, Tryd.ntmps19
  go_wp2
  go_ret
  exact ⟨rfl, rfl⟩

set_option maxHeartbeats 4000000 in
set_option maxRecDepth 100000 in
theorem join_many (b c : Nat) (xs : List ByteArray) (sep : ByteArray) (w : World) (hcells : Texts w b xs) (hbk : b < w.heap.size) (h2 : 2 ≤ xs.length) (hN : xs.length ≤ 100000) (hcap : xs.length ≤ c) (hcm : c ≤ maxLen)
    (hsep : sep.data.toList = [32]) (hlen : Lib.lens (xs.map (·.data.toList)) ≤ 100000) :
    Calls Tryd.prog 19 #[.slice (some ⟨b, 0, none⟩) xs.length c, .string sep] w fun e w' => e = .returned (.string ⟨(Job.jn (xs.map (·.data.toList))).toArray⟩) ∧ Below w.heap.size w w' := by
  unfold maxLen at hcm
  have hs1 : sep.size = 1 := by rw [← Oct.len_eq, hsep]; rfl
  have HC : Hid (Texts w b xs) := hcells
  have HL : Hid (∀ k, (Job.jn ((xs.map (·.data.toList)).take k)).length ≤ 200000) := fun k => by
    have := Job.jn_take_le (xs.map (·.data.toList)) k
    rw [List.length_map] at this; omega
  have Hsep : Hid (sep.data.toList = [32]) := hsep
  clear hcells hsep
  have hcast : ((xs.length : Int) - 1) = ((xs.length - 1 : Nat) : Int) := by omega
  have hdv : ¬ (9223372036854775807 / ((xs.length : Int) - 1) ≤ (sep.size : Int)) := by
    have e : (9223372036854775807 : Int) / ((xs.length - 1 : Nat) : Int) = ((9223372036854775807 / (xs.length - 1) : Nat) : Int) := IntWalk.up_div (x := 9223372036854775807) rfl rfl
    have hlt : 2 ≤ 9223372036854775807 / (xs.length - 1) := by
      rw [Nat.le_div_iff_mul_le (by omega)]; omega
    rw [hcast, e]
    generalize 9223372036854775807 / (xs.length - 1) = q at hlt
    omega
  have hprod : wrap64 ((sep.size : Int) * ((xs.length : Int) - 1)) = ((xs.length - 1 : Nat) : Int) := by
    rw [hs1, hcast]
    have e : (((1 : Nat) : Int) * ((xs.length - 1 : Nat) : Int)) = ((xs.length - 1 : Nat) : Int) := by omega
    rw [e]
    exact IntWalk.wrap64_in _ ⟨by omega, by omega⟩
  generalize hM : xs.length - 1 = M at hprod hcast
  have hne0 : ((xs.length : Int) == 0) = false := beq_eq_false_iff_ne.2 (by omega)
  have hne1 : ((xs.length : Int) == 1) = false := beq_eq_false_iff_ne.2 (by omega)
  have H0 : Hid (∃ x0, xs[0]? = some x0) := ⟨xs[0], List.getElem?_eq_getElem (by omega)⟩
  clear hcast
  go_enter Tryd.func19, Tryd.ntmps19
  go_wp2_with fail
  all_goals (
    go_loop [5, 41] (fun n i => ∃ k : Nat, k ≤ xs.length ∧ i = .int .i64 k ∧ n = .int .i64 ((M + Lib.lens ((xs.map (·.data.toList)).take k) : Nat) : Int)) (fun _ i => xs.length - (intOf i).toNat)
    case atStart => exact ⟨0, Nat.zero_le _, rfl, by simp [Lib.lens]; omega⟩
    case round =>
      obtain ⟨k, hk, rfl, rfl⟩ := hrel
      by_cases hkn : k < xs.length
      · have hc := HC.out k hkn
        have hstep := Lib.lens_take_succ (xs.map (·.data.toList)) k xs[k].data.toList (by simp [hkn])
        have hbound : Lib.lens ((xs.map (·.data.toList)).take (k + 1)) ≤ Lib.lens (xs.map (·.data.toList)) := Lib.lens_take_le _ _
        rw [Oct.len_eq] at hstep
        generalize hA1 : Lib.lens ((xs.map (·.data.toList)).take (k + 1)) = A1 at hstep hbound
        generalize Lib.lens ((xs.map (·.data.toList)).take k) = A0 at hstep
        have HA1 : Hid (Lib.lens ((xs.map (·.data.toList)).take (k + 1)) = A1) := hA1
        clear hA1
        go_wp2
        exact ⟨⟨k + 1, by omega, by go_num, by rw [HA1.out]; refine congrArg _ ?_; omega⟩, by simp [intOf]; omega⟩
      · have hke : k = xs.length := by omega
        subst hke
        have hall : (xs.map (·.data.toList)).take xs.length = xs.map (·.data.toList) := List.take_of_length_le (by simp)
        rw [hall]
        generalize Lib.lens (xs.map (·.data.toList)) = T at hlen
        clear hall
        go_wp2_with fail
        have hMT : ((M : Int) + (T : Int)) = ((M + T : Nat) : Int) := by omega
        rw [hMT]
        refine (Bld.grow w.heap.size (M + T) _ (heap_alloc_new w _) (by omega)).mono ?_
        rintro e w1 ⟨rfl, h1, hb1⟩
        have hb1' : Below w.heap.size w w1 := ((Below.refl w.heap.size w).alloc (Nat.le_refl _) _).trans hb1
        obtain ⟨x0, hx0⟩ := H0.out
        have hc0 : w1.cell? ⟨b, 0, none⟩ = some (.string x0) := by
          rw [hb1'.cell (p := ⟨b, 0, none⟩) hbk]
          have := HC.out 0 (by omega)
          rw [List.getElem?_eq_getElem (by omega)] at hx0
          injection hx0 with hx0; rw [← hx0]; exact this
        have H1 : Hid (Lib.IsBuilderF 54 5 w.heap.size w.heap.size [] w1) := Or.inr h1
        have Hb1 : Hid (Below w.heap.size w w1) := hb1'
        have hBw1 : w.heap.size ≤ w1.heap.size := hb1'.size
        have hst : Hid (Lib.strCells x0 = Lib.byteCells (Job.jn ((xs.map (·.data.toList)).take 1))) := by
          show _ = _
          rw [Lib.strCells_eq]
          congr 1
          rw [List.getElem?_eq_getElem (by omega)] at hx0
          injection hx0 with hx0
          rw [List.take_succ_eq_append_getElem (by simp; omega)]
          simp [Job.jn, hx0]
        have hx0s : x0.size ≤ 200000 := by
          have := HL.out 1
          have e := congrArg List.length hst.out
          rw [Lib.strCells_length, Lib.byteCells_length] at e
          omega
        clear h1 hb1 hb1' hMT hx0
        go_wp2_with fail
        refine (Bld.writeString w.heap.size w.heap.size [] x0 w1 H1.out (by simp; omega) hBw1).mono ?_
        rintro e w2 ⟨rfl, h2', hb2⟩
        rw [List.nil_append, hst.out] at h2'
        have H2 : Hid (Lib.IsBuilderF 54 5 w.heap.size w.heap.size (Lib.byteCells (Job.jn ((xs.map (·.data.toList)).take (0 + 1)))) w2) := Or.inr h2'
        have Hb2 : Hid (Below w.heap.size w w2) := Hb1.out.trans hb2
        clear h2' hb2 hst
        go_wp2_with fail
        go_loopw [65] (fun i wr => ∃ k : Nat, k ≤ M ∧ i = .int .i64 k ∧ Hid (Lib.IsBuilderF 54 5 w.heap.size w.heap.size (Lib.byteCells (Job.jn ((xs.map (·.data.toList)).take (k + 1)))) wr) ∧ Hid (Below w.heap.size w wr)) (fun i _ => M - (intOf i).toNat)
        case atStart => exact ⟨0, Nat.zero_le _, rfl, H2, Hb2⟩
        case round =>
          obtain ⟨k, hk', rfl, HB, HW⟩ := hrel
          by_cases hkr : k < M
          · have hk1 : k + 1 < xs.length := by omega
            have hcy : wr.cell? ⟨b, 1 + k, none⟩ = some (.string xs[k + 1]) := by
              rw [HW.out.cell (p := ⟨b, 1 + k, none⟩) hbk, Nat.add_comm 1 k]
              exact HC.out (k + 1) hk1
            have hBw : w.heap.size ≤ wr.heap.size := HW.out.size
            have Hn : Hid (Lib.byteCells (Job.jn ((xs.map (·.data.toList)).take (k + 1))) ++ Lib.strCells sep ++ Lib.strCells xs[k + 1] = Lib.byteCells (Job.jn ((xs.map (·.data.toList)).take (k + 1 + 1)))) := by
              show _ = _
              rw [Job.jn_take _ k (by simpa using hk1), Lib.strCells_eq, Lib.strCells_eq, Hsep.out, ← Lib.byteCells_append, ← Lib.byteCells_append]
              simp
            have hl1 : (Lib.byteCells (Job.jn ((xs.map (·.data.toList)).take (k + 1)))).length ≤ 200000 := by rw [Lib.byteCells_length]; exact HL.out _
            have hl2 : xs[k + 1].size ≤ 200000 := by
              have := HL.out (k + 1 + 1)
              have e := congrArg List.length Hn.out
              rw [Lib.byteCells_length, List.length_append, Lib.strCells_length] at e
              omega
            generalize xs[k + 1] = y at *
            go_wp2_with fail
            refine (Bld.writeString w.heap.size w.heap.size _ sep wr HB.out (by omega) hBw).mono ?_
            rintro e w3 ⟨rfl, h3, hb3⟩
            have hBw3 : w.heap.size ≤ w3.heap.size := Nat.le_trans hBw hb3.size
            have H3 : Hid (Lib.BuilderAtF 54 5 w.heap.size w.heap.size (.pointer (some ⟨w.heap.size, 0, none⟩)) _ w3) := h3
            have Hb3 : Hid (Below w.heap.size wr w3) := hb3
            have hcy3 : w3.cell? ⟨b, 1 + k, none⟩ = some (.string y) := by rw [hb3.cell (p := ⟨b, 1 + k, none⟩) hbk]; exact hcy
            clear h3 hb3
            go_wp2_with fail
            refine (Bld.writeString w.heap.size w.heap.size _ y w3 (Or.inr H3.out) (by rw [List.length_append, Lib.strCells_length]; omega) hBw3).mono ?_
            rintro e w4 ⟨rfl, h4, hb4⟩
            rw [Hn.out] at h4
            have H4 : Hid (Lib.IsBuilderF 54 5 w.heap.size w.heap.size (Lib.byteCells (Job.jn ((xs.map (·.data.toList)).take (k + 1 + 1)))) w4) := Or.inr h4
            have Hb4 : Hid (Below w.heap.size w w4) := (HW.out.trans Hb3.out).trans hb4
            clear h4 hb4
            go_wp2
            exact ⟨⟨k + 1, by omega, by go_num, H4, Hb4⟩, by simp [intOf]; omega⟩
          · have hke : k = M := by omega
            subst hke
            have hfull : (xs.map (·.data.toList)).take (k + 1) = xs.map (·.data.toList) := List.take_of_length_le (by simp; omega)
            have hB' := HB.out
            rw [hfull] at hB'
            have hBw : w.heap.size ≤ wr.heap.size := HW.out.size
            go_wp2_with fail
            refine (Tryd.Builder_String_any_k w.heap.size w.heap.size _ wr hB' hBw).mono ?_
            rintro e w5 ⟨rfl, _, hb5, _⟩
            have Hb5 : Hid (Below w.heap.size w w5) := HW.out.trans hb5
            clear hb5 hB'
            go_wp2
            go_ret
            exact ⟨rfl, Hb5.out⟩)
end Go.Proofs.YtgcbaflaidehnaaDoor
