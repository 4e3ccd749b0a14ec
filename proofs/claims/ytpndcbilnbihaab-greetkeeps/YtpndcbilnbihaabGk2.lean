/-
  Layer 9: the walk of GreetKeeps.
-/
import Derived.Test.YtpndcbilnbihaabGk1
namespace Go.Proofs.Ytpndcbilnbihaab
open Go.RowKit

theorem long_pair (a b : ByteArray) (w : World) (L : Bool) (hL : ([a, b].any fun s => decide (3000 < s.size)) = L) :
    Calls Try.prog 5 #[.slice (some ⟨w.heap.size, 0, none⟩) 2 2] (w.alloc (.cells #[.string a, .string b] 9)) fun e w' => e = .returned (.bool L) ∧ Below w.heap.size w w' :=
  long_list [a, b] (.cells #[.string a, .string b] 9) w (by simp) (MapKept.heap_alloc w _).1 L hL

set_option maxHeartbeats 4000000 in
set_option maxRecDepth 100000 in
theorem keeps_walk (login pw : ByteArray) (a : Option Addr) (cap : Nat) (l : List ByteArray) (_hl : l.length ≤ maxLen) (w : World) (hr : GRow w a l) :
    Calls Try.prog 3 #[.string login, .string pw, .slice a l.length cap] w fun e w' => e = .returned (.bool true) ∧ Below w.heap.size w w' := by
  have HA : Hid (∀ W, Calls Try.prog 6 #[] W fun e w' => e = .returned (.bool true) ∧ Below W.heap.size W w') := awake_any
  have hrow := Rg.hid hr
  clear hr
  cases hb : ([login, pw].any fun s => decide (3000 < s.size)) with
  | true =>
    have HL1 : Hid (∀ w : World, Calls Try.prog 5 #[.slice (some ⟨w.heap.size, 0, none⟩) 2 2] (w.alloc (.cells #[.string login, .string pw] 9)) fun e w' => e = .returned (.bool true) ∧ Below w.heap.size w w') := fun w => long_pair login pw w true hb
    clear hb
    go_enter Try.func3, Try.ntmps3
    go_wp2_with (go_at_call 5; refine (HL1.out w).mono ?_; rintro e w1 ⟨rfl, b1⟩)
    go_wp2_with (go_at_call 6; refine (HA.out _).mono ?_; rintro e w2 ⟨rfl, b2⟩)
    go_ret
    exact ⟨rfl, b1.trans (b2.mono b1.size)⟩
  | false =>
    have HL1 : Hid (∀ w : World, Calls Try.prog 5 #[.slice (some ⟨w.heap.size, 0, none⟩) 2 2] (w.alloc (.cells #[.string login, .string pw] 9)) fun e w' => e = .returned (.bool false) ∧ Below w.heap.size w w') := fun w => long_pair login pw w false hb
    clear hb
    by_cases h40 : 40 < l.length
    · have d0 : decide ((40 : Int) < (l.length : Int)) = true := by simp; omega
      go_enter Try.func3, Try.ntmps3
      go_wp2_with (go_at_call 5; refine (HL1.out w).mono ?_; rintro e w1 ⟨rfl, b1⟩)
      go_wp2_with (go_at_call 6; refine (HA.out _).mono ?_; rintro e w2 ⟨rfl, b2⟩)
      go_ret
      exact ⟨rfl, b1.trans (b2.mono b1.size)⟩
    · have d0 : decide ((40 : Int) < (l.length : Int)) = false := by simp; omega
      have HL2 : Hid (∀ W, Below w.heap.size w W → Calls Try.prog 5 #[.slice a l.length cap] W fun e w' => e = .returned (.bool (l.any fun s => decide (3000 < s.size))) ∧ W = w') := fun W hW => long_row a cap l W (by omega) (hrow.out.below hW)
      cases hb : (l.any fun s => decide (3000 < s.size)) with
      | true =>
        rw [hb] at HL2
        clear hb
        go_enter Try.func3, Try.ntmps3
        go_wp2_with (go_at_call 5; refine (HL1.out w).mono ?_)
        rintro e w1 ⟨rfl, b1⟩
        go_wp2_with (go_at_call 5; refine (HL2.out _ b1).mono ?_; rintro e w' ⟨rfl, rfl⟩)
        go_wp2_with (go_at_call 6; refine (HA.out _).mono ?_; rintro e w2 ⟨rfl, b2⟩)
        go_ret
        exact ⟨rfl, b1.trans (b2.mono b1.size)⟩
      | false =>
        rw [hb] at HL2
        clear hb
        have happ := fun W hW => two_appends a cap l l.length rfl login pw W (hrow.out.below hW) (by omega)
        obtain ⟨N, hN⟩ : ∃ N, N = l.length := ⟨_, rfl⟩
        rw [← hN] at h40 d0 HL2 happ ⊢
        replace hN := Rg.hid hN
        replace happ := Rg.hid happ
        go_enter Try.func3, Try.ntmps3
        go_wp2_with (go_at_call 5; refine (HL1.out w).mono ?_)
        rintro e w1 ⟨rfl, b1⟩
        go_upto_region 3 with (go_at_call 5; refine (HL2.out _ b1).mono ?_; rintro e w' ⟨rfl, rfl⟩)
        obtain ⟨g1, c1, W2, g2, c2, W4, ap1, ap2, hrow4, b4⟩ := happ.out w1 b1
        replace ap1 := Rg.hid ap1
        replace ap2 := Rg.hid ap2
        have q4 := Rg.hid (b1.trans (b4.mono b1.size))
        replace hrow4 := Rg.hid hrow4
        clear b1 b4 happ HL1 HL2
        go_wp2_with (first
          | (at_builtin; refine Rg.wpList_append_run rfl (.tmp 32) (.tmp 33) 22 rfl _ _ rfl rfl _ _ ap1.out ?_)
          | (at_builtin; refine Rg.wpList_append_run rfl (.tmp 34) (.tmp 37) 22 rfl _ _ rfl rfl _ _ ap2.out ?_))
        clear ap1 ap2
        have hall : Hid (∀ j, j < 0 → (h : j < (l ++ [login, pw]).length) → Gr.fine (l ++ [login, pw])[j]) := fun j hj _ => by omega
        have hlen : (l ++ [login, pw]).length = N + 2 := by rw [List.length_append, hN.out]; rfl
        replace hlen := Rg.hid hlen
        go_loop [40] (fun iv => ∃ i : Nat, i ≤ N + 2 ∧ iv = .int .i64 i ∧ Hid (∀ j, j < i → (h : j < (l ++ [login, pw]).length) → Gr.fine (l ++ [login, pw])[j])) (fun iv => N + 2 - (intOf iv).toNat)
        case atStart => exact ⟨0, Nat.zero_le _, rfl, hall⟩
        case round =>
          clear hall
          obtain ⟨i, hi, rfl, hall⟩ := hrel
          by_cases hlt : i < N + 2
          · have hil : i < (l ++ [login, pw]).length := by rw [hlen.out]; exact hlt
            obtain ⟨bb, oo, hae, _, hcell⟩ := hrow4.out.at hil
            injection hae with hae
            injection hae with e1 e2 e3
            subst e1 e2
            clear e3
            rw [Nat.zero_add] at hcell
            have hz0 : (0 : Int) ≤ (i : Int) := by omega
            have hz1 : (i : Int) < ((N + 2 : Nat) : Int) := by omega
            have hz2 : (i : Int) < (N : Int) + 2 := by omega
            have hnext : Hid (Gr.fine (l ++ [login, pw])[i] → ∀ j, j < i + 1 → (h : j < (l ++ [login, pw]).length) → Gr.fine (l ++ [login, pw])[j]) := fun hf j hj h => by
              by_cases hji : j < i
              · exact hall.out j hji h
              · obtain rfl : j = i := by omega
                exact hf
            clear hall
            generalize (l ++ [login, pw])[i] = x at *
            go_wp2
            go_loop [46] (fun kv => ∃ k : Nat, k ≤ x.size ∧ kv = .int .i64 k ∧ Hid (∀ c ∈ x.data.toList.take k, c ≠ 13 ∧ c ≠ 10) ∧ Hid (0 < k → x.size ≤ 60)) (fun kv => x.size - (intOf kv).toNat)
            case atStart => exact ⟨0, Nat.zero_le _, rfl, (by show ∀ c ∈ _, _; simp), fun h => absurd h (by decide)⟩
            case round =>
              obtain ⟨k, hk, rfl, hok, h60⟩ := hrel
              by_cases hkl : k < x.size
              · by_cases h13 : (x[k].toNat : Int) = 13
                · have c13 : ((x[k].toNat : Int) == 13) = true := by rw [beq_iff_eq]; exact h13
                  go_wp2_with (go_at_call 6; refine (HA.out _).mono ?_; rintro e w6 ⟨rfl, b6⟩)
                  go_ret
                  exact ⟨rfl, q4.out.trans (b6.mono q4.out.size)⟩
                · have c13 : ((x[k].toNat : Int) == 13) = false := by rw [beq_eq_false_iff_ne]; exact h13
                  by_cases h10 : (x[k].toNat : Int) = 10
                  · have c10 : ((x[k].toNat : Int) == 10) = true := by rw [beq_iff_eq]; exact h10
                    go_wp2_with (go_at_call 6; refine (HA.out _).mono ?_; rintro e w6 ⟨rfl, b6⟩)
                    go_ret
                    exact ⟨rfl, q4.out.trans (b6.mono q4.out.size)⟩
                  · have c10 : ((x[k].toNat : Int) == 10) = false := by rw [beq_eq_false_iff_ne]; exact h10
                    by_cases hx60 : 60 < x.size
                    · have d60 : decide ((60 : Int) < (x.size : Int)) = true := by simp; omega
                      go_wp2_with (go_at_call 6; refine (HA.out _).mono ?_; rintro e w6 ⟨rfl, b6⟩)
                      go_ret
                      exact ⟨rfl, q4.out.trans (b6.mono q4.out.size)⟩
                    · have d60 : decide ((60 : Int) < (x.size : Int)) = false := by simp; omega
                      have hok2 : Hid (∀ c ∈ x.data.toList.take (k + 1), c ≠ 13 ∧ c ≠ 10) := by
                        show ∀ c ∈ _, _
                        rw [Oct.take_snoc x k hkl]
                        intro c hc
                        rw [List.mem_append, List.mem_singleton] at hc
                        rcases hc with hc | rfl
                        · exact hok.out c hc
                        · exact ⟨Gr.not13 h13, Gr.not10 h10⟩
                      have h602 : Hid (0 < k + 1 → x.size ≤ 60) := fun _ => by omega
                      clear hok h60 h13 h10
                      go_wp2
                      go_round
                      case rel => exact ⟨k + 1, by omega, by go_num, hok2, h602⟩
                      case measure => simp [intOf]; omega
              · have hfine : Gr.fine x := by
                  refine ⟨by have := hok.out; rwa [Oct.take_all x k (by omega)] at this, ?_⟩
                  by_cases h0 : 0 < k
                  · exact h60.out h0
                  · omega
                have hall2 := Rg.hid (hnext.out hfine)
                clear hok h60 hfine hnext
                go_wp2
                go_round
                case rel => exact ⟨i + 1, by omega, by go_num, hall2⟩
                case measure => simp [intOf]; omega
          · have hfl : Hid (∀ (j : Nat) (h : j < l.length), Gr.fine l[j]) := fun j h => by
              have := hall.out j (by have := hN.out; omega) (by rw [List.length_append]; omega)
              rwa [List.getElem_append_left h] at this
            clear hall hrow4
            have HK : Hid (∀ W, Calls Try.prog 7 #[] W fun e w' => e = .returned (.tuple #[.agg #[.int .i64 0, .string ⟨#[]⟩, .string ⟨#[]⟩, .int .i64 0], .string ⟨#[108, 111, 103, 105, 110, 58, 32]⟩]) ∧ Below W.heap.size W w') := knock_any
            go_upto_region 14 with (go_at_call 7; refine (HK.out _).mono ?_; rintro e w6 ⟨rfl, b6⟩)
            have q6 := q4.out.trans (b6.mono q4.out.size)
            have kV : Hid (Rg.Bk w6.heap.size [.int .i64 0, .string ⟨#[]⟩, .string ⟨#[]⟩, .int .i64 0] 26 (w6.alloc (.cells #[.int .i64 0, .string ⟨#[]⟩, .string ⟨#[]⟩, .int .i64 0] 26))) := Rg.Bk.new rfl
            have q7 := Rg.hid (q6.alloc q6.size (.cells #[.int .i64 0, .string ⟨#[]⟩, .string ⟨#[]⟩, .int .i64 0] 26))
            have hVw : w.heap.size ≤ w6.heap.size := q6.size
            clear b6 q6 HK q4
            generalize World.alloc _ _ = w7 at *
            generalize w6.heap.size = V at *
            go_wp2
            go_loopw [12, 73] (fun wv iv W => ∃ (i : Nat) (d : Gr.D) (was : ByteArray), i ≤ N ∧ iv = .int .i64 i ∧ wv = .string was ∧ Hid (Gr.KInv d was i) ∧ Below w.heap.size w W ∧ Rg.Bk V [.int .i64 d.stage, .string d.typed, .string d.name, .int .i64 d.wrong] 26 W) (fun _ iv _ => N - (intOf iv).toNat)
            case atStart => exact ⟨0, _, _, Nat.zero_le _, rfl, rfl, Gr.kinv_zero, q7.out, kV.out⟩
            case round =>
              clear q7 kV
              obtain ⟨i, ⟨st, ty, nm, wg⟩, was, hi, rfl, rfl, hK, q7, kV⟩ := hrel
              replace q7 := Rg.hid q7
              have z0 : wr.cell? ⟨V, 0, none⟩ = some (.int .i64 st) := kV.cell 0
              have z1 : wr.cell? ⟨V, 1, none⟩ = some (.string ty) := kV.cell 1
              have z2 : wr.cell? ⟨V, 2, none⟩ = some (.string nm) := kV.cell 2
              have z3 : wr.cell? ⟨V, 3, none⟩ = some (.int .i64 wg) := kV.cell 3
              replace kV := Rg.hid kV
              by_cases hlt : i < N
              · have hil : i < l.length := by rw [← hN.out]; exact hlt
                obtain ⟨bb, oo, rfl, _, hcell⟩ := (hrow.out.below q7.out).at hil
                have hf := hfl.out i hil
                have hz0 : (0 : Int) ≤ (i : Int) := by omega
                have hz1 : (i : Int) < (N : Int) := by omega
                generalize l[i] = x at *
                have hx60 := hf.2
                have hcat : (x ++ ⟨#[13]⟩).data.toList = x.data.toList ++ [13] := by rw [ByteArray.data_append, Array.toList_append]
                have HT : Hid (∀ W, Calls Try.prog 8 #[.agg #[.int .i64 st, .string ty, .string nm, .int .i64 wg], .string login, .string pw, .string (x ++ ⟨#[13]⟩)] W fun e w' => TPost W (Gr.typeL login pw (x.data.toList ++ [13]) ⟨st, ty, nm, wg⟩) e w') := fun W => by
                  have := type_any ⟨st, ty, nm, wg⟩ login pw (x ++ ⟨#[13]⟩) W hK.out.good (by rw [ByteArray.size_append]; have : (⟨#[13]⟩ : ByteArray).size = 1 := rfl; omega)
                  rwa [hcat] at this
                have hin := Rg.hid (fun h => Gr.keep_in (login := login) (pw := pw) hK.out hf h)
                have hon0 := Rg.hid (fun h => Gr.keep_on (login := login) (pw := pw) hK.out hf h)
                clear hf hcat
                generalize Gr.typeL login pw (x.data.toList ++ [13]) ⟨st, ty, nm, wg⟩ = R at *
                obtain ⟨⟨st2, ty2, nm2, wg2⟩, o2, u2⟩ := R
                unfold TPost dv at HT
                dsimp only at HT hin hon0
                generalize (⟨o2.toArray⟩ : ByteArray) = ob at *
                generalize (⟨u2.toArray⟩ : ByteArray) = ub at *
                go_upto_region 19 with (go_at_call 8; refine (HT.out _).mono ?_; rintro e w8 ⟨rfl, b8⟩)
                have q8 := q7.out.trans (b8.mono q7.out.size)
                have kX : Hid (Rg.Bk w8.heap.size [.int .i64 st2, .string ty2, .string nm2, .int .i64 wg2] 26 (w8.alloc (.cells #[.int .i64 st2, .string ty2, .string nm2, .int .i64 wg2] 26))) := Rg.Bk.new rfl
                have q9 := Rg.hid (q8.alloc q8.size (.cells #[.int .i64 st2, .string ty2, .string nm2, .int .i64 wg2] 26))
                have kO := Rg.hid ((kV.out.below b8 kV.out.lt).old (.cells #[.int .i64 st2, .string ty2, .string nm2, .int .i64 wg2] 26))
                clear b8 q8 q7 kV z0 z1 z2 z3 HT hcell
                generalize World.alloc _ _ = w9 at *
                generalize w8.heap.size = X at *
                have x0 : w9.cell? ⟨X, 0, none⟩ = some (.int .i64 st2) := kX.out.cell 0
                have o0 : w9.cell? ⟨V, 0, none⟩ = some (.int .i64 st) := kO.out.cell 0
                by_cases h2 : st2 = 2
                · obtain ⟨e1, e2, e3, e4⟩ := hin.out h2
                  have e1 : st = 1 := e1
                  subst e1 h2
                  have c1 : ((i : Int) == 0) = false := by rw [beq_eq_false_iff_ne]; omega
                  have c1' : (i == 0) = false := by rw [beq_eq_false_iff_ne]; omega
                  have c2 : (was.toList != login.toList) = false := by rw [e2]; simp
                  have c2' : (was.toList == login.toList) = true := same_true e2
                  have c3 : (x.toList != pw.toList) = false := by rw [e3]; simp
                  have c3' : (x.toList == pw.toList) = true := same_true e3
                  clear hin hon0 hK e2 e3 kX kO
                  go_wp2_with (go_at_call 6; refine (HA.out _).mono ?_; rintro e w10 ⟨rfl, b10⟩)
                  go_ret
                  exact ⟨rfl, q9.out.trans (b10.mono q9.out.size)⟩
                · have c0 : (st2 == 2) = false := by rw [beq_eq_false_iff_ne]; exact h2
                  have hon := Rg.hid (hon0.out h2)
                  clear hin hon0 hK h2
                  by_cases h1 : st = 1
                  · subst h1
                    by_cases hw : was = login
                    · have c2 := same_true hw
                      have c3 := same_false (hon.out.2 rfl hw)
                      clear hw
                      go_upto_region 25 with fail
                      obtain ⟨kF, oF⟩ := ret4 kO.out rfl (.int .i64 st2) (.string ty2) (.string nm2) (.int .i64 wg2)
                      have q10 := Rg.hid (q9.out.trans (oF.bel hVw))
                      replace kF := Rg.hid kF
                      have x0' : w9.cell? ⟨X, 0, none⟩ = some (.int .i64 st2) := x0
                      have x1 : w9.cell? ⟨X, 1, none⟩ = some (.string ty2) := kX.out.cell 1
                      have x2 : w9.cell? ⟨X, 2, none⟩ = some (.string nm2) := kX.out.cell 2
                      have x3 : w9.cell? ⟨X, 3, none⟩ = some (.int .i64 wg2) := kX.out.cell 3
                      have of_ := kO.out.thaw
                      have o1 := kO.out.cell 1
                      have o2 := kO.out.cell 2
                      have o3 := kO.out.cell 3
                      clear kX oF
                      go_upto_region 26 with fail
                      clear x0 x0' x1 x2 x3 of_ o0 o1 o2 o3 kO
                      generalize World.setCell _ _ _ = w10 at *
                      go_wp2
                      go_roundw
                      case rel => exact ⟨i + 1, _, _, by omega, by go_num, rfl, hon.out.1, q10.out, kF.out⟩
                      case measure => simp [intOf]; omega
                    · have c2 := same_false hw
                      clear hw
                      go_upto_region 25 with fail
                      obtain ⟨kF, oF⟩ := ret4 kO.out rfl (.int .i64 st2) (.string ty2) (.string nm2) (.int .i64 wg2)
                      have q10 := Rg.hid (q9.out.trans (oF.bel hVw))
                      replace kF := Rg.hid kF
                      have x0' : w9.cell? ⟨X, 0, none⟩ = some (.int .i64 st2) := x0
                      have x1 : w9.cell? ⟨X, 1, none⟩ = some (.string ty2) := kX.out.cell 1
                      have x2 : w9.cell? ⟨X, 2, none⟩ = some (.string nm2) := kX.out.cell 2
                      have x3 : w9.cell? ⟨X, 3, none⟩ = some (.int .i64 wg2) := kX.out.cell 3
                      have of_ := kO.out.thaw
                      have o1 := kO.out.cell 1
                      have o2 := kO.out.cell 2
                      have o3 := kO.out.cell 3
                      clear kX oF
                      go_upto_region 26 with fail
                      clear x0 x0' x1 x2 x3 of_ o0 o1 o2 o3 kO
                      generalize World.setCell _ _ _ = w10 at *
                      go_wp2
                      go_roundw
                      case rel => exact ⟨i + 1, _, _, by omega, by go_num, rfl, hon.out.1, q10.out, kF.out⟩
                      case measure => simp [intOf]; omega
                  · have c1 : (st == 1) = false := by rw [beq_eq_false_iff_ne]; exact h1
                    clear h1
                    go_upto_region 25 with fail
                    obtain ⟨kF, oF⟩ := ret4 kO.out rfl (.int .i64 st2) (.string ty2) (.string nm2) (.int .i64 wg2)
                    have q10 := Rg.hid (q9.out.trans (oF.bel hVw))
                    replace kF := Rg.hid kF
                    have x0' : w9.cell? ⟨X, 0, none⟩ = some (.int .i64 st2) := x0
                    have x1 : w9.cell? ⟨X, 1, none⟩ = some (.string ty2) := kX.out.cell 1
                    have x2 : w9.cell? ⟨X, 2, none⟩ = some (.string nm2) := kX.out.cell 2
                    have x3 : w9.cell? ⟨X, 3, none⟩ = some (.int .i64 wg2) := kX.out.cell 3
                    have of_ := kO.out.thaw
                    have o1 := kO.out.cell 1
                    have o2 := kO.out.cell 2
                    have o3 := kO.out.cell 3
                    clear kX oF
                    go_upto_region 26 with fail
                    clear x0 x0' x1 x2 x3 of_ o0 o1 o2 o3 kO
                    generalize World.setCell _ _ _ = w10 at *
                    go_wp2
                    go_roundw
                    case rel => exact ⟨i + 1, _, _, by omega, by go_num, rfl, hon.out.1, q10.out, kF.out⟩
                    case measure => simp [intOf]; omega
              · have h2 : ¬ st = 2 := by
                  have h := hK.out.stage
                  have h : st = 0 ∨ st = 1 ∨ st = 3 := h
                  omega
                have c0 : (st != 2) = true := by rw [bne_iff_ne]; exact h2
                go_wp2_with (go_at_call 6; refine (HA.out _).mono ?_; rintro e w10 ⟨rfl, b10⟩)
                go_ret
                exact ⟨rfl, q7.out.trans (b10.mono q7.out.size)⟩
end Go.Proofs.Ytpndcbilnbihaab
