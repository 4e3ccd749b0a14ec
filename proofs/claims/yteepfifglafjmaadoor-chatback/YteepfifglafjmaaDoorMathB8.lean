/-
  Chats (layer 8) in plain mathematics: what is printed is read as what it was.
-/
import Derived.Test.YteepfifglafjmaaDoorMathU8
import Derived.Test.YteepfifglafjmaaDoorMathK8
import Derived.Test.YteepfifglafjmaaDoorMathE8
namespace Go.Proofs.YteepfifglafjmaaDoor
namespace Ch
theorem byte_all {P : UInt8 → Prop} (h : ∀ n, n < 256 → P (UInt8.ofNat n)) (b : UInt8) : P b := by
  have := h b.toNat b.toNat_lt
  rwa [UInt8.ofNat_toNat] at this
def P1 (b : UInt8) : Prop := (put1 b = [b] ∧ Lib.indexByte hid b < 0 ∧ b ≠ 92 ∧ b ≠ 34 ∧ b ≠ 45) ∨ (put1 b = [92, lets.getD (Lib.indexByte hid b).toNat 0] ∧ ¬ Lib.indexByte lets (lets.getD (Lib.indexByte hid b).toNat 0) < 0 ∧ hid.getD (Lib.indexByte lets (lets.getD (Lib.indexByte hid b).toNat 0)).toNat 0 = b ∧ lets.getD (Lib.indexByte hid b).toNat 0 ≠ 99 ∧ lets.getD (Lib.indexByte hid b).toNat 0 ≠ 45)
theorem put1_nat : ∀ n, n < 256 → P1 (UInt8.ofNat n) := by unfold P1; decide +kernel
theorem put1_two (b : UInt8) : (put1 b = [b] ∧ Lib.indexByte hid b < 0 ∧ b ≠ 92 ∧ b ≠ 34 ∧ b ≠ 45) ∨ (∃ d, put1 b = [92, d] ∧ ¬ Lib.indexByte lets d < 0 ∧ hid.getD (Lib.indexByte lets d).toNat 0 = b ∧ d ≠ 99 ∧ d ≠ 45) := by
  have h0 : P1 b := byte_all (P := P1) put1_nat b
  rcases h0 with h | h
  · exact .inl h
  · exact .inr ⟨_, h⟩
theorem put1_said_nat : ∀ n, n < 256 → said (UInt8.ofNat n) = true → ∀ x ∈ put1 (UInt8.ofNat n), 33 ≤ x.toNat ∧ x.toNat ≤ 126 := by decide +kernel
theorem put1_said (b : UInt8) : said b = true → ∀ x ∈ put1 b, 33 ≤ x.toNat ∧ x.toNat ≤ 126 := byte_all (P := fun b => said b = true → ∀ x ∈ put1 b, 33 ≤ x.toNat ∧ x.toNat ≤ 126) put1_said_nat b
theorem hid92 : ¬ Lib.indexByte hid 92 < 0 := by decide +kernel
theorem put1_sign (b : UInt8) (r : List UInt8) : sign (put1 b ++ r) = some (b, (put1 b).length) := by
  rcases put1_two b with ⟨h1, h2, _⟩ | ⟨d, h1, h2, h3, _⟩
  · rw [h1]
    cases r with
    | nil => simp [sign, h2]
    | cons c r => simp [sign, h2]
  · rw [h1]
    show sign (92 :: d :: r) = some (b, 2)
    rw [sign, if_neg hid92, if_neg (by simp), if_neg h2, h3]
theorem put1_ne (b : UInt8) (r : List UInt8) : put1 b ++ r ≠ [] ∧ put1 b ++ r ≠ [92, 99] ∧ put1 b ++ r ≠ [34, 34] := by
  rcases put1_two b with ⟨h1, h2, h3, h4, _⟩ | ⟨d, h1, h2, h3, h4, _⟩
  · rw [h1]; simp [h3, h4]
  · rw [h1]; simp [h4]
theorem put1_45 (b : UInt8) : (45 : UInt8) ∉ put1 b := by
  rcases put1_two b with ⟨h1, _, _, _, h5⟩ | ⟨d, h1, _, _, _, h5⟩
  · rw [h1]; simp; exact fun e => h5 e.symm
  · rw [h1]; simp; exact fun e => h5 e.symm
theorem putS_cons (b : UInt8) (l : List UInt8) : putS (b :: l) = put1 b ++ putS l := by simp [putS]
theorem putS_ge : ∀ l : List UInt8, l.length ≤ (putS l).length
  | [] => by simp
  | b :: l => by
    have h1 := putS_ge l
    have h2 : (put1 b).length ≠ 0 := by have := (put1_ne b []).1; rw [List.append_nil] at this; intro e; exact this (List.eq_nil_of_length_eq_zero e)
    rw [putS_cons, List.length_append, List.length_cons]
    omega
theorem go_put (sent : Bool) : ∀ (l : List UInt8) (n : Nat) (tail acc : List UInt8), go sent (n + l.length) (putS l ++ tail) acc = go sent n tail (acc ++ l)
  | [], n, tail, acc => by simp [putS]
  | b :: l, n, tail, acc => by
    have hne := put1_ne b (putS l ++ tail)
    rw [putS_cons, List.append_assoc, List.length_cons, ← Nat.add_assoc, go, if_neg hne.1, if_neg (fun h => hne.2.1 h.2), put1_sign]
    dsimp only
    rw [List.drop_left, go_put sent l n tail (acc ++ [b])]
    simp
theorem putS_quote (l : List UInt8) : putS l ≠ [34, 34] := by
  cases l with
  | nil => simp [putS]
  | cons b l => rw [putS_cons]; exact (put1_ne b _).2.2
theorem text_T (sent : Bool) (l : List UInt8) : text sent (putT l) = some (l ++ fin sent) := by
  unfold text putT
  by_cases h : l = []
  · rw [if_pos h, if_pos rfl, h]; rfl
  · rw [if_neg h, if_neg (putS_quote l)]
    have hg := putS_ge l
    obtain ⟨n, hn⟩ : ∃ n, (putS l).length + 1 = (n + 1) + l.length := ⟨(putS l).length - l.length, by omega⟩
    have := go_put sent l (n + 1) [] []
    rw [List.append_nil, List.nil_append] at this
    rw [hn, this, go, if_pos rfl, if_neg h]
theorem text_N (l : List UInt8) : text true (putN l) = some l := by
  unfold putN
  by_cases h : ends l = true
  · rw [if_pos h, text_T]
    have h2 : l.getLast? = some 13 := by simpa [ends] using h
    have hn : l ≠ [] := fun e => by rw [e] at h2; cases h2
    have h3 := List.dropLast_concat_getLast hn
    rw [List.getLast?_eq_some_getLast hn] at h2
    injection h2 with h2
    rw [h2] at h3
    rw [show fin true = [13] from rfl, h3]
  · rw [if_neg h]
    unfold text
    rw [if_neg (fun e => by have := congrArg List.getLast? e; simp at this)]
    have hg := putS_ge l
    obtain ⟨n, hn⟩ : ∃ n, (putS l ++ [92, 99]).length + 1 = (n + 1) + l.length := ⟨(putS l).length + 2 - l.length, by simp; omega⟩
    have := go_put true l (n + 1) [92, 99] []
    rw [List.nil_append] at this
    rw [hn, this, go, if_neg (by simp), if_pos ⟨rfl, rfl⟩]
/-- strokes are not printed -/
theorem putS_45 (l : List UInt8) : (45 : UInt8) ∉ putS l := by
  unfold putS
  intro h
  obtain ⟨b, _, h2⟩ := List.mem_flatMap.1 h
  exact put1_45 b h2
theorem putT_45 (l : List UInt8) : (45 : UInt8) ∉ putT l := by
  unfold putT; split
  · decide
  · exact putS_45 l
theorem putN_45 (l : List UInt8) : (45 : UInt8) ∉ putN l := by
  unfold putN; split
  · exact putT_45 _
  · intro h
    rcases List.mem_append.1 h with e | e
    · exact putS_45 l e
    · revert e; decide
theorem pt_one : ∀ (w cur : List UInt8), (45 : UInt8) ∉ w → pt cur w = [cur ++ w]
  | [], cur, _ => by simp [pt]
  | b :: w, cur, h => by
    rw [pt, if_neg (fun e => h (by simp [e])), pt_one w (cur ++ [b]) (fun e => h (List.mem_cons_of_mem _ e))]
    simp
theorem pt_end : ∀ (l cur w : List UInt8), (45 : UInt8) ∉ w → pt cur (l ++ 45 :: w) = pt cur l ++ [w]
  | [], cur, w, h => by
    have e : pt cur (45 :: w) = cur :: pt [] w := by rw [pt, if_pos rfl]
    rw [List.nil_append, e, pt_one w [] h]; simp [pt]
  | b :: l, cur, w, h => by
    rw [List.cons_append, pt, pt]
    split
    · rw [pt_end l [] w h]; rfl
    · rw [pt_end l _ w h]
theorem aw_app : ∀ (r s : List ByteArray) (i : Nat) (ws ns : List ByteArray), aw i (r ++ s) ws ns = match aw i r ws ns with
    | none => none
    | some q => aw (i + r.length) s q.1 q.2
  | [], s, i, ws, ns => by simp [aw]
  | p :: r, s, i, ws, ns => by
    rw [List.cons_append, aw, aw]
    have e : i + (p :: r).length = i + 1 + r.length := by rw [List.length_cons]; omega
    rw [e]
    split
    · cases text false p.data.toList with
      | none => rfl
      | some t => exact aw_app r s (i + 1) _ _
    · cases text true p.data.toList with
      | none => rfl
      | some t => exact aw_app r s (i + 1) _ _
theorem aw_put (ws ns : List ByteArray) : ∀ n, n < ws.length → n ≤ ns.length → (pt [] (putWs ws ns (n + 1))).length = 2 * n + 1 ∧ aw 0 ((pt [] (putWs ws ns (n + 1))).map ba) [] [] = some (ws.take (n + 1), ns.take n)
  | 0, h1, h2 => by
    have e : putWs ws ns (0 + 1) = putT (ws.getD 0 ⟨#[]⟩).data.toList := by simp [putWs, putW]
    rw [e, pt_one _ _ (putT_45 _), List.nil_append]
    refine ⟨rfl, ?_⟩
    show aw 0 [ba _] [] [] = _
    rw [aw, if_pos rfl]
    have e2 : text false (ba (putT (ws.getD 0 ⟨#[]⟩).data.toList)).data.toList = some (ws.getD 0 ⟨#[]⟩).data.toList := by
      have := text_T false (ws.getD 0 ⟨#[]⟩).data.toList
      rw [show fin false = [] from rfl, List.append_nil] at this
      exact this
    rw [e2]
    dsimp only
    rw [aw, List.take_succ_eq_append_getElem h1]
    have e3 : (ws.getD 0 ⟨#[]⟩) = ws[0] := by rw [List.getD_eq_getElem?_getD, List.getElem?_eq_getElem h1]; rfl
    rw [e3]
    simp
  | n + 1, h1, h2 => by
    obtain ⟨i1, i2⟩ := aw_put ws ns n (by omega) (by omega)
    have e : putWs ws ns (n + 1 + 1) = (putWs ws ns (n + 1) ++ 45 :: putN (ns.getD n ⟨#[]⟩).data.toList) ++ 45 :: putT (ws.getD (n + 1) ⟨#[]⟩).data.toList := by
      rw [putWs, putW, if_pos (by omega)]
      simp
    rw [e, pt_end _ _ _ (putT_45 _), pt_end _ _ _ (putN_45 _)]
    refine ⟨by simp [i1]; omega, ?_⟩
    rw [List.append_assoc, List.map_append, aw_app, i2]
    dsimp only
    rw [List.length_map, i1, Nat.zero_add]
    show aw (2 * n + 1) [ba _, ba _] _ _ = _
    have e1 : text true (ba (putN (ns.getD n ⟨#[]⟩).data.toList)).data.toList = some (ns.getD n ⟨#[]⟩).data.toList := text_N _
    have e2 : text false (ba (putT (ws.getD (n + 1) ⟨#[]⟩).data.toList)).data.toList = some (ws.getD (n + 1) ⟨#[]⟩).data.toList := by
      have := text_T false (ws.getD (n + 1) ⟨#[]⟩).data.toList
      rw [show fin false = [] from rfl, List.append_nil] at this
      exact this
    rw [aw, if_neg (by omega), e1]
    dsimp only
    rw [aw, if_pos (by omega), e2]
    dsimp only
    rw [aw, List.take_succ_eq_append_getElem (i := n + 1) h1, List.take_succ_eq_append_getElem (i := n) (l := ns) (by omega)]
    have e3 : (ws.getD (n + 1) ⟨#[]⟩) = ws[n + 1] := by rw [List.getD_eq_getElem?_getD, List.getElem?_eq_getElem h1]; rfl
    have e4 : (ns.getD n ⟨#[]⟩) = ns[n] := by rw [List.getD_eq_getElem?_getD, List.getElem?_eq_getElem (by omega)]; rfl
    rw [e3, e4]
theorem awaited_put (ws ns : List ByteArray) (h1 : 1 ≤ ws.length) (h2 : ns.length + 1 = ws.length) : awaited (ba (putWs ws ns ws.length)) = some (ws, ns) := by
  obtain ⟨n, hn⟩ : ∃ n, ws.length = n + 1 := ⟨ws.length - 1, by omega⟩
  obtain ⟨i1, i2⟩ := aw_put ws ns n (by omega) (by omega)
  unfold awaited
  rw [dash_pt, hn]
  rw [show (ba (putWs ws ns (n + 1))).data.toList = putWs ws ns (n + 1) from rfl, List.length_map, i1, if_neg (by omega), i2, List.take_of_length_le (by omega), List.take_of_length_le (by omega)]
/-- words -/
def Wd (l : List UInt8) : Prop := ∀ x ∈ l, 33 ≤ x.toNat ∧ x.toNat ≤ 126
theorem Wd.app {a b : List UInt8} (h1 : Wd a) (h2 : Wd b) : Wd (a ++ b) := fun x hx => by
  rcases List.mem_append.1 hx with e | e
  · exact h1 x e
  · exact h2 x e
theorem putS_wd {l : List UInt8} (h : l.all said = true) : Wd (putS l) := fun x hx => by
  unfold putS at hx
  obtain ⟨b, hb, h2⟩ := List.mem_flatMap.1 hx
  exact put1_said b (List.all_eq_true.1 h b hb) x h2
theorem putT_wd {l : List UInt8} (h : l.all said = true) : Wd (putT l) := by
  unfold putT; split
  · unfold Wd; decide
  · exact putS_wd h
theorem putN_wd {l : List UInt8} (h : l.all said = true) : Wd (putN l) := by
  unfold putN; split
  · exact putT_wd (List.all_eq_true.2 fun b hb => List.all_eq_true.1 h b ((List.dropLast_sublist l).subset hb))
  · exact (putS_wd h).app (by unfold Wd; decide)
theorem getD_said {l : List ByteArray} (h : l.all saidT = true) (i : Nat) : (l.getD i ⟨#[]⟩).data.toList.all said = true := by
  rw [List.getD_eq_getElem?_getD]
  cases hh : l[i]? with
  | none => rfl
  | some y => exact List.all_eq_true.1 h y (List.mem_of_getElem? hh)
theorem putW_wd {ws ns : List ByteArray} (h1 : ws.all saidT = true) (h2 : ns.all saidT = true) (i : Nat) : Wd (putW ws ns i) := by
  unfold putW
  refine Wd.app ?_ (putT_wd (getD_said h1 i))
  split
  · refine Wd.app (a := 45 :: putN _) ?_ (by unfold Wd; decide)
    exact Wd.app (a := [45]) (by unfold Wd; decide) (putN_wd (getD_said h2 _))
  · unfold Wd; simp
theorem putWs_wd {ws ns : List ByteArray} (h1 : ws.all saidT = true) (h2 : ns.all saidT = true) : ∀ i, Wd (putWs ws ns i)
  | 0 => by unfold Wd putWs; simp
  | i + 1 => by rw [putWs]; exact (putWs_wd h1 h2 i).app (putW_wd h1 h2 i)
theorem putT_ne (l : List UInt8) : putT l ≠ [] := by
  unfold putT; split
  · simp
  · rename_i h
    intro e
    have := putS_ge l
    rw [e] at this
    exact h (List.eq_nil_of_length_eq_zero (by simpa using this))
theorem putN_ne (l : List UInt8) : putN l ≠ [] := by
  unfold putN; split
  · exact putT_ne _
  · simp
theorem putWs_ne (ws ns : List ByteArray) : ∀ i, 1 ≤ i → putWs ws ns i ≠ []
  | 0, h => by omega
  | i + 1, _ => by
    rw [putWs, putW]
    intro e
    have := (List.append_eq_nil_iff.1 (List.append_eq_nil_iff.1 e).2).2
    exact putT_ne _ this
theorem wd_sp {x : UInt8} (h : 33 ≤ x.toNat ∧ x.toNat ≤ 126) : Lib.isSp x = false := by
  have := byte_all (P := fun x => 33 ≤ x.toNat ∧ x.toNat ≤ 126 → Lib.isSp x = false) (by decide +kernel) x
  exact this h
theorem fields_word : ∀ (w cur r : List UInt8), Wd w → cur ++ w ≠ [] → Lib.fieldsGo cur (w ++ 32 :: r) = (cur ++ w) :: Lib.fieldsGo [] r
  | [], cur, r, _, h => by rw [List.nil_append, List.append_nil]; exact Lib.fieldsGo_end cur 32 r (by decide) (by simpa using h)
  | b :: w, cur, r, hw, h => by
    rw [List.cons_append, Lib.fieldsGo_more _ _ _ (wd_sp (hw b (by simp))), fields_word w (cur ++ [b]) r (fun x hx => hw x (List.mem_cons_of_mem _ hx)) (by simp)]
    simp
/-- a step that is printed -/
structure Ok8 (x : St) : Prop where
  len : 1 ≤ x.wants.length
  two : x.nudge.length + 1 = x.wants.length
  ws : x.wants.all saidT = true
  ns : x.nudge.all saidT = true
  s : saidT x.send = true
theorem ok8_of {x : St} (h : chkSt x = 0) : Ok8 x := by
  unfold chkSt at h
  split at h
  · cases h
  · split at h
    · cases h
    · rename_i h1 h2
      simp only [Bool.not_eq_false, Bool.and_eq_true] at h2
      exact ⟨by omega, by omega, h2.1.1, h2.1.2, h2.2⟩
theorem ok8_all : ∀ {l : List St}, chkAll l = 0 → ∀ x ∈ l, Ok8 x
  | [], _, x, hx => by cases hx
  | y :: l, h, x, hx => by
    unfold chkAll at h
    split at h
    · rename_i h1; exact absurd h h1
    · rename_i h1
      rcases List.mem_cons.1 hx with e | e
      · rw [e]; exact ok8_of (by simpa using h1)
      · exact ok8_all h x e
theorem fields_put : ∀ {l : List St}, (∀ x ∈ l, Ok8 x) → Lib.fields (putAll l) = l.flatMap (fun x => [putWs x.wants x.nudge x.wants.length, putN x.send.data.toList])
  | [], _ => rfl
  | x :: l, h => by
    have hx := h x (by simp)
    have e : putAll (x :: l) = putWs x.wants x.nudge x.wants.length ++ 32 :: (putN x.send.data.toList ++ 32 :: putAll l) := by simp [putAll, putSt]
    unfold Lib.fields
    rw [e, fields_word _ _ _ (putWs_wd hx.ws hx.ns _) (by rw [List.nil_append]; exact putWs_ne _ _ _ hx.len), fields_word _ _ _ (putN_wd hx.s) (by rw [List.nil_append]; exact putN_ne _)]
    have ih := fields_put (l := l) (fun y hy => h y (List.mem_cons_of_mem _ hy))
    unfold Lib.fields at ih
    rw [ih]
    simp
theorem rd_put : ∀ (l : List St) (i : Nat) (acc : List St), (∀ x ∈ l, Ok8 x) → i % 2 = 0 → acc.length = i / 2 → rd i ((l.flatMap (fun x => [putWs x.wants x.nudge x.wants.length, putN x.send.data.toList])).map ba) acc = some (acc ++ l)
  | [], i, acc, _, _, _ => by simp [rd]
  | x :: l, i, acc, h, hi, ha => by
    have hx := h x (by simp)
    show rd i (ba (putWs x.wants x.nudge x.wants.length) :: ba (putN x.send.data.toList) :: (l.flatMap (fun x => [putWs x.wants x.nudge x.wants.length, putN x.send.data.toList])).map ba) acc = _
    rw [rd_two _ _ _ _ _ hi ha, awaited_put _ _ hx.len hx.two]
    dsimp only
    have e1 : text true (ba (putN x.send.data.toList)).data.toList = some x.send.data.toList := text_N _
    rw [e1]
    dsimp only
    rw [rd_put l (i + 2) _ (fun y hy => h y (List.mem_cons_of_mem _ hy)) (by omega) (by simp; omega)]
    simp
theorem put_wide {l : List St} (h : ∀ x ∈ l, Ok8 x) : (putAll l).any (fun b => odd b.toNat) = false := by
  rw [List.any_eq_false]
  intro b hb
  unfold putAll at hb
  obtain ⟨x, hx, h2⟩ := List.mem_flatMap.1 hb
  have ho := h x hx
  unfold putSt at h2
  have h3 : 32 ≤ b.toNat ∧ b.toNat ≤ 126 := by
    rcases List.mem_append.1 h2 with e | e
    · rcases List.mem_append.1 e with e | e
      · have := putWs_wd ho.ws ho.ns _ b e; omega
      · rcases List.mem_cons.1 e with e | e
        · rw [e]; decide
        · have := putN_wd ho.s b e; omega
    · rw [List.mem_singleton.1 e]; decide
  simp [odd]
  omega
/-- P8.6 -/
theorem parse_put {l : List St} (h : (print l).2 = 0) : parse ⟨(print l).1.toArray⟩ = (l, 0) := by
  unfold print at h ⊢
  by_cases h1 : 20 < l.length
  · rw [if_pos h1] at h; cases h
  rw [if_neg h1] at h ⊢
  by_cases h2 : chkAll l ≠ 0
  · rw [if_pos h2] at h; exact absurd h h2
  rw [if_neg h2] at h ⊢
  by_cases h3 : 300 < (putAll l).length
  · rw [if_pos h3] at h; cases h
  rw [if_neg h3]
  have hok := ok8_all (by simpa using h2 : chkAll l = 0)
  have hw : words ⟨(putAll l).toArray⟩ = (l.flatMap (fun x => [putWs x.wants x.nudge x.wants.length, putN x.send.data.toList])).map ba := by
    unfold words
    rw [show (⟨(putAll l).toArray⟩ : ByteArray).data.toList = putAll l from rfl, fields_put hok]
    rfl
  have hwl : (words ⟨(putAll l).toArray⟩).length = 2 * l.length := by
    rw [hw, List.length_map, List.length_flatMap]
    clear hok hw h h1 h2 h3
    induction l with
    | nil => rfl
    | cons x l ih => simp at ih ⊢; omega
  unfold parse
  dsimp only
  rw [if_neg (by show ¬ 300 < (putAll l).toArray.size; rw [List.size_toArray]; exact h3), if_neg (by rw [put_wide hok]; simp), if_neg (by rw [hwl]; omega), hw, rd_put l 0 [] hok rfl rfl]
  rfl
/-- what is read is near -/
def Sz (B : Nat) (x : St) : Prop := (∀ s ∈ x.wants, s.size ≤ B + 1) ∧ (∀ s ∈ x.nudge, s.size ≤ B + 1) ∧ x.send.size ≤ B + 1
theorem aw_sz (B : Nat) : ∀ (r : List ByteArray) (i : Nat) (ws ns : List ByteArray) (q : List ByteArray × List ByteArray), (∀ p ∈ r, p.size ≤ B) → (∀ s ∈ ws, s.size ≤ B + 1) → (∀ s ∈ ns, s.size ≤ B + 1) → aw i r ws ns = some q → (∀ s ∈ q.1, s.size ≤ B + 1) ∧ (∀ s ∈ q.2, s.size ≤ B + 1)
  | [], _, ws, ns, q, _, h1, h2, h => by simp only [aw, Option.some.injEq] at h; subst h; exact ⟨h1, h2⟩
  | p :: r, i, ws, ns, q, hp, h1, h2, h => by
    have hp' : ∀ p ∈ r, p.size ≤ B := fun y hy => hp y (List.mem_cons_of_mem _ hy)
    have h0 : p.data.toList.length ≤ B := hp p (by simp)
    simp only [aw] at h
    split at h
    · split at h
      · cases h
      · rename_i t ht
        refine aw_sz B r _ _ _ q hp' (fun s hs => ?_) h2 h
        rcases List.mem_append.1 hs with e | e
        · exact h1 s e
        · rw [List.mem_singleton.1 e]
          have := text_len ht
          show t.toArray.size ≤ _
          rw [List.size_toArray]; omega
    · split at h
      · cases h
      · rename_i t ht
        refine aw_sz B r _ _ _ q hp' h1 (fun s hs => ?_) h
        rcases List.mem_append.1 hs with e | e
        · exact h2 s e
        · rw [List.mem_singleton.1 e]
          have := text_len ht
          show t.toArray.size ≤ _
          rw [List.size_toArray]; omega
theorem rd_sz (B : Nat) : ∀ (r : List ByteArray) (i : Nat) (l q : List St), (∀ p ∈ r, p.size ≤ B) → (∀ x ∈ l, Sz B x) → rd i r l = some q → ∀ x ∈ q, Sz B x
  | [], _, l, q, _, hl, h => by simp only [rd, Option.some.injEq] at h; subst h; exact hl
  | p :: r, i, l, q, hp, hl, h => by
    have hp' : ∀ p ∈ r, p.size ≤ B := fun y hy => hp y (List.mem_cons_of_mem _ hy)
    have h0 : p.data.toList.length ≤ B := hp p (by simp)
    simp only [rd] at h
    split at h
    · split at h
      · cases h
      · rename_i a ha
        refine rd_sz B r _ _ q hp' (fun x hx => ?_) h
        rcases List.mem_append.1 hx with e | e
        · exact hl x e
        · rw [List.mem_singleton.1 e]
          unfold awaited at ha
          split at ha
          · cases ha
          · have := aw_sz B _ _ _ _ a (fun y hy => Nat.le_trans (dash_size hy) h0) (fun s hs => by cases hs) (fun s hs => by cases hs) ha
            exact ⟨this.1, this.2, Nat.zero_le _⟩
    · split at h
      · cases h
      · rename_i t ht
        refine rd_sz B r _ _ q hp' (fun x hx => ?_) h
        rcases List.mem_or_eq_of_mem_set hx with e | e
        · exact hl x e
        · rw [e]
          have hg : Sz B (l.getD (i / 2) ⟨[], [], ⟨#[]⟩⟩) := by
            rw [List.getD_eq_getElem?_getD]
            cases hh : l[i / 2]? with
            | none => exact ⟨fun s hs => (by cases hs), fun s hs => (by cases hs), Nat.zero_le _⟩
            | some y => exact hl y (List.mem_of_getElem? hh)
          refine ⟨hg.1, hg.2.1, ?_⟩
          have := text_len ht
          show t.toArray.size ≤ _
          rw [List.size_toArray]; omega
theorem parse_near (s : ByteArray) (h : (parse s).2 = 0) : Near (parse s).1 := by
  have h1 := parse_count s
  have h2 := parse_short s
  unfold parse at h h1 h2 ⊢
  by_cases h3 : 300 < s.size
  · rw [if_pos h3] at h; cases h
  rw [if_neg h3] at h h1 h2 ⊢
  by_cases h4 : s.data.toList.any (fun b => odd b.toNat) = true
  · rw [if_pos h4] at h; cases h
  rw [if_neg h4] at h h1 h2 ⊢
  by_cases h5 : 40 < (words s).length
  · rw [if_pos h5] at h; cases h
  rw [if_neg h5] at h h1 h2 ⊢
  cases hr : rd 0 (words s) [] with
  | none => rw [hr] at h; cases h
  | some l =>
    rw [hr] at h1 h2
    dsimp only at h1 h2 ⊢
    have h6 := rd_sz s.size _ _ _ l (fun p hp => words_size hp) (fun x hx => by cases hx) hr
    refine ⟨by omega, fun x hx => ?_, fun x hx => ?_, fun x hx => ?_⟩
    · have := (h2 x hx).1
      exact ⟨by omega, fun y hy => by have := (h6 x hx).1 y hy; omega⟩
    · have := (h2 x hx).2
      exact ⟨by omega, fun y hy => by have := (h6 x hx).2.1 y hy; omega⟩
    · have := (h6 x hx).2.2
      omega
end Ch
end Go.Proofs.YteepfifglafjmaaDoor
