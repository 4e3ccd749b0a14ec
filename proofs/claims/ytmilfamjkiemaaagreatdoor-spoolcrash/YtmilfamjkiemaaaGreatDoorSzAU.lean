/-
  strings.Join at this program, where what stands between is one stroke. Walks of layer 5: Text. Walks of layer 5: Text of what may not be; the document's Text. Layer 5: what strings.SplitN cuts a text into; blocks that are known whole.
-/
import Derived.Test.YtmilfamjkiemaaaGreatDoorSzAT
import Derived.Test.YtmilfamjkiemaaaGreatDoorSzAD
import Derived.Test.YtmilfamjkiemaaaGreatDoorSzAJ
import Derived.Deep.RegionHeld3
import Derived.Deep.DeepCutAuto
import Derived.Laws.Rows
namespace Go.Proofs.YtmilfamjkiemaaaGreatDoor
open Go.RowKit


set_option maxHeartbeats 4000000 in
set_option maxRecDepth 100000 in
theorem join_many (b c : Nat) (xs : List ByteArray) (sep : ByteArray) (w : World) (hcells : Texts w b xs) (hbk : b < w.heap.size) (h2 : 2 ≤ xs.length) (hN : xs.length ≤ 100000) (hcap : xs.length ≤ c) (hcm : c ≤ maxLen)
    (hsep : sep.data.toList = [32]) (hlen : Lib.lens (xs.map (·.data.toList)) ≤ 100000) :
    Calls Tryz.prog 65 #[.slice (some ⟨b, 0, none⟩) xs.length c, .string sep] w fun e w' => e = .returned (.string ⟨(Job.jn (xs.map (·.data.toList))).toArray⟩) ∧ Below w.heap.size w w' := by
  unfold maxLen at hcm
  have hs1 : sep.size = 1 := by rw [← Oct.len_eq, hsep]; rfl
  have HC : Hid (Texts w b xs) := hcells
  have HL : Hid (∀ k, (Job.jn ((xs.map (·.data.toList)).take k)).length ≤ 200000) := fun k => by
    have := Job.jn_take_le (xs.map (·.data.toList)) k
    rw [List.length_map] at this; omega
  have Hsep : Hid (sep.data.toList = [32]) := hsep
  clear hcells hsep
  have hcast : ((xs.length : Int) - 1) = ((xs.length - 1 : Nat) : Int) := by omega
  have hdv : ¬ (9223372036854775807 / ((xs.length : Int) - 1) ≤ (sep.size : Int)) := by
    have e : (9223372036854775807 : Int) / ((xs.length - 1 : Nat) : Int) = ((9223372036854775807 / (xs.length - 1) : Nat) : Int) := IntWalk.up_div (x := 9223372036854775807) rfl rfl
    have hlt : 2 ≤ 9223372036854775807 / (xs.length - 1) := by
      rw [Nat.le_div_iff_mul_le (by omega)]; omega
    rw [hcast, e]
    generalize 9223372036854775807 / (xs.length - 1) = q at hlt
    omega
  have hprod : wrap64 ((sep.size : Int) * ((xs.length : Int) - 1)) = ((xs.length - 1 : Nat) : Int) := by
    rw [hs1, hcast]
    have e : (((1 : Nat) : Int) * ((xs.length - 1 : Nat) : Int)) = ((xs.length - 1 : Nat) : Int) := by omega
    rw [e]
    exact IntWalk.wrap64_in _ ⟨by omega, by omega⟩
  generalize hM : xs.length - 1 = M at hprod hcast
  have hne0 : ((xs.length : Int) == 0) = false := beq_eq_false_iff_ne.2 (by omega)
  have hne1 : ((xs.length : Int) == 1) = false := beq_eq_false_iff_ne.2 (by omega)
  have H0 : Hid (∃ x0, xs[0]? = some x0) := ⟨xs[0], List.getElem?_eq_getElem (by omega)⟩
  clear hcast
  go_enter Tryz.func65, Tryz.ntmps65
  go_wp2_with fail
  all_goals (
    go_loop [5, 41] (fun n i => ∃ k : Nat, k ≤ xs.length ∧ i = .int .i64 k ∧ n = .int .i64 ((M + Lib.lens ((xs.map (·.data.toList)).take k) : Nat) : Int)) (fun _ i => xs.length - (intOf i).toNat)
    case atStart => exact ⟨0, Nat.zero_le _, rfl, by simp [Lib.lens]; omega⟩
    case round =>
      obtain ⟨k, hk, rfl, rfl⟩ := hrel
      by_cases hkn : k < xs.length
      · have hc := HC.out k hkn
        have hstep := Lib.lens_take_succ (xs.map (·.data.toList)) k xs[k].data.toList (by simp [hkn])
        have hbound : Lib.lens ((xs.map (·.data.toList)).take (k + 1)) ≤ Lib.lens (xs.map (·.data.toList)) := Lib.lens_take_le _ _
        rw [Oct.len_eq] at hstep
        generalize hA1 : Lib.lens ((xs.map (·.data.toList)).take (k + 1)) = A1 at hstep hbound
        generalize Lib.lens ((xs.map (·.data.toList)).take k) = A0 at hstep
        have HA1 : Hid (Lib.lens ((xs.map (·.data.toList)).take (k + 1)) = A1) := hA1
        clear hA1
        go_wp2
        exact ⟨⟨k + 1, by omega, by go_num, by rw [HA1.out]; refine congrArg _ ?_; omega⟩, by simp [intOf]; omega⟩
      · have hke : k = xs.length := by omega
        subst hke
        have hall : (xs.map (·.data.toList)).take xs.length = xs.map (·.data.toList) := List.take_of_length_le (by simp)
        rw [hall]
        generalize Lib.lens (xs.map (·.data.toList)) = T at hlen
        clear hall
        go_wp2_with fail
        have hMT : ((M : Int) + (T : Int)) = ((M + T : Nat) : Int) := by omega
        rw [hMT]
        refine (Bld.grow w.heap.size (M + T) _ (heap_alloc_new w _) (by omega)).mono ?_
        rintro e w1 ⟨rfl, h1, hb1⟩
        have hb1' : Below w.heap.size w w1 := ((Below.refl w.heap.size w).alloc (Nat.le_refl _) _).trans hb1
        obtain ⟨x0, hx0⟩ := H0.out
        have hc0 : w1.cell? ⟨b, 0, none⟩ = some (.string x0) := by
          rw [hb1'.cell (p := ⟨b, 0, none⟩) hbk]
          have := HC.out 0 (by omega)
          rw [List.getElem?_eq_getElem (by omega)] at hx0
          injection hx0 with hx0; rw [← hx0]; exact this
        have H1 : Hid (Lib.IsBuilderF 119 5 w.heap.size w.heap.size [] w1) := Or.inr h1
        have Hb1 : Hid (Below w.heap.size w w1) := hb1'
        have hBw1 : w.heap.size ≤ w1.heap.size := hb1'.size
        have hst : Hid (Lib.strCells x0 = Lib.byteCells (Job.jn ((xs.map (·.data.toList)).take 1))) := by
          show _ = _
          rw [Lib.strCells_eq]
          congr 1
          rw [List.getElem?_eq_getElem (by omega)] at hx0
          injection hx0 with hx0
          rw [List.take_succ_eq_append_getElem (by simp; omega)]
          simp [Job.jn, hx0]
        have hx0s : x0.size ≤ 200000 := by
          have := HL.out 1
          have e := congrArg List.length hst.out
          rw [Lib.strCells_length, Lib.byteCells_length] at e
          omega
        clear h1 hb1 hb1' hMT hx0
        go_wp2_with fail
        refine (Bld.writeString w.heap.size w.heap.size [] x0 w1 H1.out (by simp; omega) hBw1).mono ?_
        rintro e w2 ⟨rfl, h2', hb2⟩
        rw [List.nil_append, hst.out] at h2'
        have H2 : Hid (Lib.IsBuilderF 119 5 w.heap.size w.heap.size (Lib.byteCells (Job.jn ((xs.map (·.data.toList)).take (0 + 1)))) w2) := Or.inr h2'
        have Hb2 : Hid (Below w.heap.size w w2) := Hb1.out.trans hb2
        clear h2' hb2 hst
        go_wp2_with fail
        go_loopw [65] (fun i wr => ∃ k : Nat, k ≤ M ∧ i = .int .i64 k ∧ Hid (Lib.IsBuilderF 119 5 w.heap.size w.heap.size (Lib.byteCells (Job.jn ((xs.map (·.data.toList)).take (k + 1)))) wr) ∧ Hid (Below w.heap.size w wr)) (fun i _ => M - (intOf i).toNat)
        case atStart => exact ⟨0, Nat.zero_le _, rfl, H2, Hb2⟩
        case round =>
          obtain ⟨k, hk', rfl, HB, HW⟩ := hrel
          by_cases hkr : k < M
          · have hk1 : k + 1 < xs.length := by omega
            have hcy : wr.cell? ⟨b, 1 + k, none⟩ = some (.string xs[k + 1]) := by
              rw [HW.out.cell (p := ⟨b, 1 + k, none⟩) hbk, Nat.add_comm 1 k]
              exact HC.out (k + 1) hk1
            have hBw : w.heap.size ≤ wr.heap.size := HW.out.size
            have Hn : Hid (Lib.byteCells (Job.jn ((xs.map (·.data.toList)).take (k + 1))) ++ Lib.strCells sep ++ Lib.strCells xs[k + 1] = Lib.byteCells (Job.jn ((xs.map (·.data.toList)).take (k + 1 + 1)))) := by
              show _ = _
              rw [Job.jn_take _ k (by simpa using hk1), Lib.strCells_eq, Lib.strCells_eq, Hsep.out, ← Lib.byteCells_append, ← Lib.byteCells_append]
              simp
            have hl1 : (Lib.byteCells (Job.jn ((xs.map (·.data.toList)).take (k + 1)))).length ≤ 200000 := by rw [Lib.byteCells_length]; exact HL.out _
            have hl2 : xs[k + 1].size ≤ 200000 := by
              have := HL.out (k + 1 + 1)
              have e := congrArg List.length Hn.out
              rw [Lib.byteCells_length, List.length_append, Lib.strCells_length] at e
              omega
            generalize xs[k + 1] = y at *
            go_wp2_with fail
            refine (Bld.writeString w.heap.size w.heap.size _ sep wr HB.out (by omega) hBw).mono ?_
            rintro e w3 ⟨rfl, h3, hb3⟩
            have hBw3 : w.heap.size ≤ w3.heap.size := Nat.le_trans hBw hb3.size
            have H3 : Hid (Lib.BuilderAtF 119 5 w.heap.size w.heap.size (.pointer (some ⟨w.heap.size, 0, none⟩)) _ w3) := h3
            have Hb3 : Hid (Below w.heap.size wr w3) := hb3
            have hcy3 : w3.cell? ⟨b, 1 + k, none⟩ = some (.string y) := by rw [hb3.cell (p := ⟨b, 1 + k, none⟩) hbk]; exact hcy
            clear h3 hb3
            go_wp2_with fail
            refine (Bld.writeString w.heap.size w.heap.size _ y w3 (Or.inr H3.out) (by rw [List.length_append, Lib.strCells_length]; omega) hBw3).mono ?_
            rintro e w4 ⟨rfl, h4, hb4⟩
            rw [Hn.out] at h4
            have H4 : Hid (Lib.IsBuilderF 119 5 w.heap.size w.heap.size (Lib.byteCells (Job.jn ((xs.map (·.data.toList)).take (k + 1 + 1)))) w4) := Or.inr h4
            have Hb4 : Hid (Below w.heap.size w w4) := (HW.out.trans Hb3.out).trans hb4
            clear h4 hb4
            go_wp2
            exact ⟨⟨k + 1, by omega, by go_num, H4, Hb4⟩, by simp [intOf]; omega⟩
          · have hke : k = M := by omega
            subst hke
            have hfull : (xs.map (·.data.toList)).take (k + 1) = xs.map (·.data.toList) := List.take_of_length_le (by simp; omega)
            have hB' := HB.out
            rw [hfull] at hB'
            have hBw : w.heap.size ≤ wr.heap.size := HW.out.size
            go_wp2_with fail
            refine (Tryz.Builder_String_any_k w.heap.size w.heap.size _ wr hB' hBw).mono ?_
            rintro e w5 ⟨rfl, _, hb5, _⟩
            have Hb5 : Hid (Below w.heap.size w w5) := HW.out.trans hb5
            clear hb5 hB'
            go_wp2
            go_ret
            exact ⟨rfl, Hb5.out⟩)
end Go.Proofs.YtmilfamjkiemaaaGreatDoor

namespace Go.Proofs.YtmilfamjkiemaaaGreatDoor
open Go.RowKit

theorem joinJ (v : Value) (B : Nat) (xs : List ByteArray) (w : World) (h : w.ownsRow B 9 1 v xs.length (xs.map Value.string)) (h2 : 2 ≤ xs.length) (hn : xs.length ≤ 100000) (hlen : Lib.lens (xs.map (·.data.toList)) ≤ 100000) :
    Calls Tryz.prog 65 #[v, .string ⟨#[32]⟩] w fun e w' => e = .returned (.string ⟨(Job.jn (xs.map (·.data.toList))).toArray⟩) ∧ Below w.heap.size w w' := by
  obtain ⟨g, cap, rfl, _, hg, hc, hm, ht⟩ := owned_texts h (by intro e; rw [e] at h2; simp at h2)
  exact join_many g cap xs _ w ht hg h2 hn hc hm rfl hlen
theorem own_six (W : World) (B : Nat) (a b c d e f : ByteArray) (hB : B ≤ W.heap.size) :
    (W.alloc (.cells #[.string a, .string b, .string c, .string d, .string e, .string f] 9)).ownsRow B 9 1 (.slice (some ⟨W.heap.size, 0, none⟩) 6 6) 6 ([a, b, c, d, e, f].map Value.string) :=
  ⟨rfl, .inr ⟨W.heap.size, 6, #[.string a, .string b, .string c, .string d, .string e, .string f], rfl, hB, heap_alloc_new W _, Nat.le_refl _, by unfold maxLen; omega, rfl, rfl⟩⟩

set_option maxHeartbeats 4000000 in
set_option maxRecDepth 100000 in
theorem jtext_yes (g n k : Int) (u f t c : ByteArray) (z : Int) (w : World) (hw : Ok w) (h0 : Job.chk ⟨g, n, k, u, f, t, c, z⟩ = 0) (hu : u.size ≤ maxLen) (hf : f.size ≤ maxLen) (ht : t.size ≤ maxLen) (hc : c.size ≤ maxLen) :
    Calls Tryz.prog 32 #[.agg #[.int .i64 g, .int .i64 n, .int .i64 k, .string u, .string f, .string t, .string c, .int .i64 z]] w fun e w' => e = .returned (.tuple #[.string ⟨(Job.txt ⟨g, n, k, u, f, t, c, z⟩).toArray⟩, .int .i64 0]) ∧ Below w.heap.size w w' := by
  obtain ⟨w0, hw0e⟩ : ∃ w0, w0 = w.alloc (.cells #[.int .i64 g, .int .i64 n, .int .i64 k, .string u, .string f, .string t, .string c, .int .i64 z] 33) := ⟨_, rfl⟩
  have hb0 : w.heap.size < w0.heap.size := by rw [hw0e]; simp
  have hk0 : Keeps w.heap.size g n k u f t c z w0 := by rw [hw0e]; exact keeps_new g n k u f t c z w _
  have bw : Below w.heap.size w w0 := by rw [hw0e]; exact below_alloc1 w _
  have hw0 : Ok w0 := hw.below bw
  obtain ⟨h1, h2, h3, h4, h5, h6, h7, h8⟩ := Job.chk_ok.1 h0
  have HK : Hid (∀ W, Below w0.heap.size w0 W → Calls Tryz.prog 61 #[.agg #[.int .i64 g, .int .i64 n, .int .i64 k, .string u, .string f, .string t, .string c, .int .i64 z]] W fun e w' => e = .returned (.int .i64 0) ∧ Below w0.heap.size w0 w' ∧ Keeps w.heap.size g n k u f t c z w') := fun W hW => chain hk0 hb0 hW (by
    have := jcheck_any g n k u f t c z W (hw0.below hW) hu hf ht hc
    rw [h0] at this
    exact this)
  have HI : Hid (∀ W, Below w0.heap.size w0 W → Calls Tryz.prog 62 #[.agg #[.int .i64 g, .int .i64 n]] W fun e w' => e = .returned (.tuple #[.string ⟨(Nam.idT g n).toArray⟩, .int .i64 0]) ∧ Below w0.heap.size w0 w' ∧ Keeps w.heap.size g n k u f t c z w') := fun W hW => chain hk0 hb0 hW (id_yes g n W h1 (hw0.below hW).tab)
  have HL : Hid (∀ W, Calls Tryz.prog 63 #[.int .i64 k] W fun e w' => e = .returned (.string ⟨(Job.ltr k).toArray⟩) ∧ w' = W) := fun W => letter_any k W
  have HT : Hid (∀ W, Below w0.heap.size w0 W → Calls Tryz.prog 64 #[.int .i64 z] W fun e w' => e = .returned (.string ⟨(Lib.itoa z).toArray⟩) ∧ Below w0.heap.size w0 w' ∧ Keeps w.heap.size g n k u f t c z w') := fun W hW => chain hk0 hb0 hW (text_any z W (by simp only at h7; omega) (by simp only at h8; omega) (hw0.below hW).tab)
  have hkk : Hid (Keeps w.heap.size g n k u f t c z w0) := hk0
  obtain ⟨j0, j1, j2, j3, j4, j5, j6, j7⟩ := hk0
  have hws : Hid (Job.ws ⟨g, n, k, u, f, t, c, z⟩ = [Job.ltr k, Nam.idT g n, u.data.toList, f.data.toList, t.data.toList, Lib.itoa z] ++ (if k = 2 then [c.data.toList] else [])) := rfl
  have hls : Hid (Lib.lens (Job.ws ⟨g, n, k, u, f, t, c, z⟩) ≤ 159) := Job.ws_lens h0
  have H0 : Hid (Job.txt ⟨g, n, k, u, f, t, c, z⟩ = Job.jn (Job.ws ⟨g, n, k, u, f, t, c, z⟩)) := rfl
  obtain ⟨L, hL⟩ : ∃ L : ByteArray, Hid (L = ⟨(Job.ltr k).toArray⟩) := ⟨_, rfl⟩
  obtain ⟨X, hX⟩ : ∃ X : ByteArray, Hid (X = ⟨(Nam.idT g n).toArray⟩) := ⟨_, rfl⟩
  obtain ⟨Z, hZ⟩ : ∃ Z : ByteArray, Hid (Z = ⟨(Lib.itoa z).toArray⟩) := ⟨_, rfl⟩
  rw [← hL.out] at HL
  rw [← hX.out] at HI
  rw [← hZ.out] at HT
  clear h1 h2 h3 h4 h5 h6 h7 h8 h0 hw0 hw
  subst hw0e
  go_enter Tryz.func32, Tryz.ntmps32
  go_upto_region 5 with (first
    | (go_at_call 61; refine (HK.out _ (by first | exact Below.refl _ _ | assumption)).mono ?_; rintro e w' ⟨rfl, b', i0, i1, i2, i3, i4, i5, i6, i7⟩)
    | (go_at_call 62; refine (HI.out _ (by first | exact Below.refl _ _ | assumption)).mono ?_; rintro e w' ⟨rfl, b', i0, i1, i2, i3, i4, i5, i6, i7⟩))
  go_cut [7] (fun s7 wx => ∃ W, Below (w.alloc (.cells #[.int .i64 g, .int .i64 n, .int .i64 k, .string u, .string f, .string t, .string c, .int .i64 z] 33)).heap.size (w.alloc (.cells #[.int .i64 g, .int .i64 n, .int .i64 k, .string u, .string f, .string t, .string c, .int .i64 z] 33)) W ∧ s7 = .slice (some ⟨W.heap.size, 0, none⟩) 6 6 ∧ wx = W.alloc (.cells #[.string L, .string X, .string u, .string f, .string t, .string Z] 9))
  case first =>
    go_region_held3 (fun w' => w'.cell? ⟨w.heap.size, 2, none⟩ = some (.int .i64 k) ∧ w'.cell? ⟨w.heap.size, 3, none⟩ = some (.string u) ∧ w'.cell? ⟨w.heap.size, 4, none⟩ = some (.string f) ∧ w'.cell? ⟨w.heap.size, 5, none⟩ = some (.string t) ∧ w'.cell? ⟨w.heap.size, 7, none⟩ = some (.int .i64 z)) (go_keep) (first
      | (go_at_call 63; refine (HL.out _).mono ?_; rintro e w'' ⟨rfl, rfl⟩)
      | (go_at_call 64; refine (HT.out _ ?_).mono ?_; (first | assumption | exact Below.drew (by assumption)); rintro e w'' ⟨rfl, b'', k0, k1, k2, k3, k4, k5, k6, k7⟩))
    all_goals (go_wp2_with fail; go_meet; exact ⟨_, by first | assumption | exact Below.drew (by assumption), rfl, rfl⟩)
  case rest =>
    obtain ⟨W, hW, rfl, rfl⟩ := hcut
    have bR : Below (w.alloc (.cells #[.int .i64 g, .int .i64 n, .int .i64 k, .string u, .string f, .string t, .string c, .int .i64 z] 33)).heap.size (w.alloc (.cells #[.int .i64 g, .int .i64 n, .int .i64 k, .string u, .string f, .string t, .string c, .int .i64 z] 33)) (W.alloc (.cells #[.string L, .string X, .string u, .string f, .string t, .string Z] 9)) := hW.alloc hW.size _
    have hR : (w.alloc (.cells #[.int .i64 g, .int .i64 n, .int .i64 k, .string u, .string f, .string t, .string c, .int .i64 z] 33)).heap.size ≤ (W.alloc (.cells #[.string L, .string X, .string u, .string f, .string t, .string Z] 9)).heap.size := bR.size
    obtain ⟨m0, m1, m2, m3, m4, m5, m6, m7⟩ := hkk.out.below bR hb0
    have hown := own_six W (w.alloc (.cells #[.int .i64 g, .int .i64 n, .int .i64 k, .string u, .string f, .string t, .string c, .int .i64 z] 33)).heap.size L X u f t Z hW.size
    generalize hWR : W.alloc (.cells #[.string L, .string X, .string u, .string f, .string t, .string Z] 9) = WR at *
    clear b' i0 i1 i2 i3 i4 i5 i6 i7
    by_cases hk2 : k = 2
    · subst hk2
      have HJ : Hid (∀ v B W2, W2.ownsRow B 9 1 v 7 ([L, X, u, f, t, Z, c].map Value.string) → Calls Tryz.prog 65 #[v, .string ⟨#[32]⟩] W2 fun e w' => e = .returned (.string ⟨(Job.txt ⟨g, n, 2, u, f, t, c, z⟩).toArray⟩) ∧ Below W2.heap.size W2 w') := fun v B W2 h => by
        have hw : [L, X, u, f, t, Z, c].map (·.data.toList) = Job.ws ⟨g, n, 2, u, f, t, c, z⟩ := by
          rw [hws.out, if_pos rfl, hL.out, hX.out, hZ.out]; rfl
        have := joinJ v B [L, X, u, f, t, Z, c] W2 h (by simp) (by simp) (by rw [hw]; have := hls.out; omega)
        rw [hw, ← H0.out] at this
        exact this
      obtain ⟨i0, hi, hz0, hz1, hz2⟩ : ∃ i0, Tryz.prog.info? 9 = some i0 ∧ i0.zero = some (.string ByteArray.empty) ∧ i0.size = 1 ∧ i0.bytes = 16 := by
        have := infoStr
        cases h : Tryz.prog.info? 9 with
        | none => rw [h] at this; cases this
        | some i => rw [h] at this; simp only [Option.map_some, Option.some.injEq, Prod.mk.injEq] at this; exact ⟨i, rfl, this.1, this.2.1, this.2.2⟩
      go_wp2_with (at_builtin; refine wpList_append_own _ rfl _ _ 91 rfl (w.alloc (.cells #[.int .i64 g, .int .i64 n, .int .i64 2, .string u, .string f, .string t, .string c, .int .i64 z] 33)).heap.size 9 i0 (.string ByteArray.empty) 1 16 Tryz.underlying91 hi hz0 hz1 hz2 rfl (by decide) _ _ _ rfl (hown.alloc _) ⟨_, 0, none⟩ 1 1 [.string c] rfl rfl (news9 _ _) ?c2 ?c3 ?c4 ?c5 ?_)
      case c2 => first | rfl | (intro u hu; simp at hu; subst hu; rfl)
      (try case c3 => unfold maxLen; omega)
      (try case c4 => omega)
      (try case c5 => first | omega | (simp; omega))
      intro v' w2 hown' hgrow _
      have b2 : Below (w.alloc (.cells #[.int .i64 g, .int .i64 n, .int .i64 2, .string u, .string f, .string t, .string c, .int .i64 z] 33)).heap.size (w.alloc (.cells #[.int .i64 g, .int .i64 n, .int .i64 2, .string u, .string f, .string t, .string c, .int .i64 z] 33)) w2 := below_own bR hR hgrow hown
      go_wp2_with (go_at_call 65; refine (HJ.out _ _ _ hown').mono ?_; rintro e w3 ⟨rfl, b3⟩)
      go_ret2
      exact ⟨rfl, bw.trans ((b2.trans (b3.mono b2.size)).mono bw.size)⟩
    · have hd : (k == 2) = false := by simp [hk2]
      have hd' : decide (k = 2) = false := by simp [hk2]
      have HJ : Hid (Calls Tryz.prog 65 #[.slice (some ⟨W.heap.size, 0, none⟩) 6 6, .string ⟨#[32]⟩] WR fun e w' => e = .returned (.string ⟨(Job.txt ⟨g, n, k, u, f, t, c, z⟩).toArray⟩) ∧ Below WR.heap.size WR w') := by
        have hw : [L, X, u, f, t, Z].map (·.data.toList) = Job.ws ⟨g, n, k, u, f, t, c, z⟩ := by
          rw [hws.out, if_neg hk2, hL.out, hX.out, hZ.out]; rfl
        have := joinJ _ _ [L, X, u, f, t, Z] WR hown (by simp) (by simp) (by rw [hw]; have := hls.out; omega)
        rw [hw, ← H0.out] at this
        exact this
      go_wp2_with (go_at_call 65; refine HJ.out.mono ?_; rintro e w3 ⟨rfl, b3⟩)
      go_ret2
      exact ⟨rfl, bw.trans ((bR.trans (b3.mono bR.size)).mono bw.size)⟩
end Go.Proofs.YtmilfamjkiemaaaGreatDoor

namespace Go.Proofs.YtmilfamjkiemaaaGreatDoor
open Go.RowKit

set_option maxHeartbeats 1000000 in
theorem jtext_no (g n k : Int) (u f t c : ByteArray) (z : Int) (w : World) (hw : Ok w) (h0 : Job.chk ⟨g, n, k, u, f, t, c, z⟩ ≠ 0) (hu : u.size ≤ maxLen) (hf : f.size ≤ maxLen) (ht : t.size ≤ maxLen) (hc : c.size ≤ maxLen) :
    Calls Tryz.prog 32 #[.agg #[.int .i64 g, .int .i64 n, .int .i64 k, .string u, .string f, .string t, .string c, .int .i64 z]] w fun e w' => e = .returned (.tuple #[.string ⟨#[]⟩, .int .i64 (Job.chk ⟨g, n, k, u, f, t, c, z⟩ : Nat)]) ∧ Below w.heap.size w w' := by
  have hb0 : w.heap.size < (w.alloc (.cells #[.int .i64 g, .int .i64 n, .int .i64 k, .string u, .string f, .string t, .string c, .int .i64 z] 33)).heap.size := by simp
  have hk0 : Keeps w.heap.size g n k u f t c z (w.alloc (.cells #[.int .i64 g, .int .i64 n, .int .i64 k, .string u, .string f, .string t, .string c, .int .i64 z] 33)) := keeps_new g n k u f t c z w _
  have bw : Below w.heap.size w (w.alloc (.cells #[.int .i64 g, .int .i64 n, .int .i64 k, .string u, .string f, .string t, .string c, .int .i64 z] 33)) := below_alloc1 w _
  have hw0 : Ok (w.alloc (.cells #[.int .i64 g, .int .i64 n, .int .i64 k, .string u, .string f, .string t, .string c, .int .i64 z] 33)) := hw.below bw
  have HK : Hid (∀ W, Below (w.alloc (.cells #[.int .i64 g, .int .i64 n, .int .i64 k, .string u, .string f, .string t, .string c, .int .i64 z] 33)).heap.size (w.alloc (.cells #[.int .i64 g, .int .i64 n, .int .i64 k, .string u, .string f, .string t, .string c, .int .i64 z] 33)) W → Calls Tryz.prog 61 #[.agg #[.int .i64 g, .int .i64 n, .int .i64 k, .string u, .string f, .string t, .string c, .int .i64 z]] W fun e w' => e = .returned (.int .i64 (Job.chk ⟨g, n, k, u, f, t, c, z⟩ : Nat)) ∧ Below (w.alloc (.cells #[.int .i64 g, .int .i64 n, .int .i64 k, .string u, .string f, .string t, .string c, .int .i64 z] 33)).heap.size (w.alloc (.cells #[.int .i64 g, .int .i64 n, .int .i64 k, .string u, .string f, .string t, .string c, .int .i64 z] 33)) w' ∧ Keeps w.heap.size g n k u f t c z w') := fun W hW => chain hk0 hb0 hW (jcheck_any g n k u f t c z W (hw0.below hW) hu hf ht hc)
  obtain ⟨n1, n2, n3, n4⟩ := ne_facts h0
  generalize Job.chk ⟨g, n, k, u, f, t, c, z⟩ = q at *
  obtain ⟨j0, j1, j2, j3, j4, j5, j6, j7⟩ := hk0
  clear hw0 hw h0
  go_enter Tryz.func32, Tryz.ntmps32
  go_wp2_with (go_at_call 61; refine (HK.out _ (Below.refl _ _)).mono ?_; rintro e w' ⟨rfl, b', i0, i1, i2, i3, i4, i5, i6, i7⟩)
  go_ret2
  exact ⟨rfl, bw.trans (b'.mono bw.size)⟩

theorem jtext_any (g n k : Int) (u f t c : ByteArray) (z : Int) (w : World) (hw : Ok w) (hu : u.size ≤ maxLen) (hf : f.size ≤ maxLen) (ht : t.size ≤ maxLen) (hc : c.size ≤ maxLen) :
    Calls Tryz.prog 32 #[.agg #[.int .i64 g, .int .i64 n, .int .i64 k, .string u, .string f, .string t, .string c, .int .i64 z]] w fun e w' => e = .returned (.tuple #[.string ⟨(Job.text ⟨g, n, k, u, f, t, c, z⟩).1.toArray⟩, .int .i64 ((Job.text ⟨g, n, k, u, f, t, c, z⟩).2 : Nat)]) ∧ Below w.heap.size w w' := by
  by_cases h : Job.chk ⟨g, n, k, u, f, t, c, z⟩ = 0
  · have e : Job.text ⟨g, n, k, u, f, t, c, z⟩ = (Job.txt ⟨g, n, k, u, f, t, c, z⟩, 0) := by unfold Job.text; rw [if_pos h]
    rw [e]
    exact jtext_yes g n k u f t c z w hw h hu hf ht hc
  · have e : Job.text ⟨g, n, k, u, f, t, c, z⟩ = ([], Job.chk ⟨g, n, k, u, f, t, c, z⟩) := by unfold Job.text; rw [if_neg h]
    rw [e]
    exact jtext_no g n k u f t c z w hw h hu hf ht hc

namespace Job
end Job

end Go.Proofs.YtmilfamjkiemaaaGreatDoor

namespace Go.Proofs.YtmilfamjkiemaaaGreatDoor
open Go.RowKit

namespace Job
theorem splitK_size : ∀ (k : Nat) (l x : Bs), x ∈ Lib.splitK [32] 0 k l → x.length ≤ l.length
  | 0, l, x, h => by simp only [Lib.splitK, List.mem_singleton] at h; rw [h]; exact Nat.le_refl _
  | k + 1, l, x, h => by
    unfold Lib.splitK at h
    split at h
    · simp only [List.mem_singleton] at h; rw [h]; exact Nat.le_refl _
    · rw [List.mem_cons] at h
      rcases h with h | h
      · rw [h, List.length_take]; omega
      · have := splitK_size k _ x h
        rw [List.length_drop] at this; omega
/-- the words of a text -/
def wds (s : ByteArray) : List ByteArray := Lib.splitB ⟨#[32]⟩ 0 (min 7 (s.size + 1) - 1) s
theorem wds_map (s : ByteArray) : (wds s).map (·.data.toList) = Lib.splitK [32] 0 (min 7 (s.size + 1) - 1) s.data.toList := by
  unfold wds; rw [Lib.splitB_data]
theorem wds_len (s : ByteArray) : (wds s).length ≤ min 7 (s.size + 1) := by
  have h := congrArg List.length (wds_map s)
  rw [List.length_map] at h
  rw [h]
  have := splitK_len (min 7 (s.size + 1) - 1) s.data.toList
  omega
theorem wds_size {s x : ByteArray} (h : x ∈ wds s) : x.size ≤ s.size := by
  have hm : x.data.toList ∈ (wds s).map (·.data.toList) := List.mem_map.2 ⟨x, h, rfl⟩
  rw [wds_map] at hm
  have := splitK_size _ _ _ hm
  rw [Oct.len_eq, Oct.len_eq] at this
  exact this
theorem ltr_pos {k : Int} (h : knd k = true) : 1 ≤ (ltr k).length := by
  rcases hl : ltr k with _ | ⟨a, r⟩
  · rw [(knd_ltr k).1 hl] at h; cases h
  · simp
theorem txt_long {j : Jb} (h : chk j = 0) : 6 ≤ (txt j).length := by
  obtain ⟨h1, h2, h3, h4, h5, h6, h7, h8⟩ := chk_ok.1 h
  have a := jn_len (ws j) (by intro e; have := (ws_len j).1; rw [e] at this; simp at this)
  have b := (ws_len j).1
  have c := ltr_pos h2
  have d : 1 ≤ Lib.lens (ws j) := by unfold ws; simp only [Lib.lens, List.cons_append, List.map_cons, List.sum_cons]; omega
  unfold txt
  omega
theorem wds_says {s : ByteArray} {j : Jb} (h : says s.data.toList j) : cand (wds s) = j ∧ 6 ≤ (wds s).length := by
  have hl : 6 ≤ s.size := by rw [← Oct.len_eq, ← h.2]; exact txt_long h.1
  refine cand_split h ?_
  rw [wds_map]
  congr 1
  omega
theorem parse_short {s : ByteArray} (h : (wds s).length < 6) : parse s.data.toList = (zero, 3) := by
  refine parse_no ?_
  rintro ⟨j, hj⟩
  have := (wds_says hj).2
  omega
theorem parse_at {s : ByteArray} (hc : chk (cand (wds s)) = 0) (ht : txt (cand (wds s)) = s.data.toList) : parse s.data.toList = (cand (wds s), 0) := parse_yes ⟨hc, ht⟩
theorem parse_bad {s : ByteArray} (h : ¬ (chk (cand (wds s)) = 0 ∧ txt (cand (wds s)) = s.data.toList)) : parse s.data.toList = (zero, 3) :=
  parse_not (fun _ hj => (wds_says hj).1) h
end Job

/-- the cells of a row of texts -/
theorem splitN_any (s : ByteArray) (w : World) (hm : MaxIn w) (hs : s.size ≤ 1000000) :
    Calls Tryz.prog 141 #[.string s, .string ⟨#[32]⟩, .int .i64 7] w fun e w' => e = .returned (.slice (some ⟨w.heap.size, 0, none⟩) (Job.wds s).length (min 7 (s.size + 1))) ∧ Below w.heap.size w w' ∧ w.heap.size < w'.heap.size ∧ Texts w' w.heap.size (Job.wds s) := by
  obtain ⟨m, hm⟩ := hm
  refine (Tryz.strings_SplitN s ⟨#[32]⟩ 7 m w (by omega) hm (by decide) (by decide) (by decide)).mono ?_
  rintro e w' ⟨rfl, rfl⟩
  refine ⟨rfl, below_alloc1 _ _, by simp, fun i hi => ?_⟩
  have hl : i < (Lib.splitB ⟨#[32]⟩ 0 (min 7 (s.size + 1) - 1) s).length := hi
  rw [Lib.cell_of_heap (MapKept.heap_alloc w _).1 i]
  unfold Lib.cellsOf
  rw [List.getElem?_toArray, List.getElem?_append_left (by rw [List.length_map]; exact hl), List.getElem?_map, List.getElem?_eq_getElem hl]
  rfl

/-- a job's block, whole -/
def Blk (b : Nat) (C : Array Value) (W : World) : Prop := W.heap[b]? = some (.cells C 33 (0, 0))
theorem Blk.below {b B : Nat} {C : Array Value} {W W' : World} (h : Blk b C W) (hb : Below B W W') (hB : b < B) : Blk b C W' := by
  unfold Blk at *; rw [hb.block b hB]; exact h
theorem Blk.lt {b : Nat} {C : Array Value} {W : World} (h : Blk b C W) : b < W.heap.size := by
  unfold Blk at h
  rcases Nat.lt_or_ge b W.heap.size with h' | h'
  · exact h'
  · rw [Array.getElem?_eq_none h'] at h; cases h
theorem Blk.cell {b : Nat} {C : Array Value} {W : World} (h : Blk b C W) (i : Nat) : W.cell? ⟨b, i, none⟩ = C[i]? := Lib.cell_of_heap h i
theorem Blk.thaw {b : Nat} {C : Array Value} {W : World} (h : Blk b C W) (i : Nat) : W.frozen? ⟨b, i, none⟩ = false := by
  unfold Blk at h; unfold World.frozen?; simp [h]
theorem Blk.set {b i : Nat} {C : Array Value} {W : World} (h : Blk b C W) (hi : i < C.size) (v : Value) : Blk b (C.set i v hi) (W.setCell ⟨b, i, none⟩ v) := by
  unfold Blk at *
  rw [Go.heap_setCell_same W b i C 33 v h]
  simp [Array.setIfInBounds, hi]
theorem Blk.other {b c i : Nat} {C : Array Value} {W : World} (h : Blk b C W) (hc : c ≠ b) (v : Value) : Blk b C (W.setCell ⟨c, i, none⟩ v) := by
  unfold Blk at *
  rw [show (W.setCell ⟨c, i, none⟩ v).heap[b]? = W.heap[b]? from ?_]
  · exact h
  · exact Below.heap_setCell _ _ _ _ (fun e => hc e.symm)
end Go.Proofs.YtmilfamjkiemaaaGreatDoor
