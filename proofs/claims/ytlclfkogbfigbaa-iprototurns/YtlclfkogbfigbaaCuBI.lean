/-
  Walks of layer 16: takePackets whole. Walks of layer 16: Feed's closure. Walks of layer 16: a strings.Builder in a block of its own: WriteString, String, Reset.
-/
import Derived.Test.YtlclfkogbfigbaaCuBH
namespace Go.Proofs.Ytlclfkogbfigbaa
open Go.RowKit
theorem icut_fr {Kp : Nat → Prop} {W : World} {eb : Nat} {d : Gp.Dr} {p : Pl} {q : Qv} {S : List UInt8} {C : List Gp.Pc} (h : IAt Kp W eb d p q S C) (n : Nat) (hn : n ≤ d.buf.length) (a0 : 0 ≤ d.at_) (a1 : d.at_ + n ≤ 1099511627776) :
    Calls Try.prog 27 #[.pointer (some ⟨eb, 0, none⟩), .int .i64 (n : Int)] W fun e w' => e = .returned (.tuple #[]) ∧ Hid (IAt Kp w' eb { d with buf := d.buf.drop n, at_ := d.at_ + n } p q S C) ∧ Hid (Fr eb eb W w') := by
  refine (icut_go eb n ⟨d.buf.toArray⟩ d.at_ (d.at_ + n) W (h.bk.cell 12) (h.bk.cell 13) h.bk.thaw (by omega) (by rw [Ip.size_bytes]; omega) (by unfold wrap64; omega)).mono ?_
  rintro e w' ⟨rfl, rfl⟩
  rw [Ip.drop_bytes]
  exact ⟨rfl, (h.upd 12 (.string ⟨(d.buf.drop n).toArray⟩) { d with buf := d.buf.drop n } rfl rfl rfl rfl rfl).upd 13 (.int .i64 (d.at_ + n)) { d with buf := d.buf.drop n, at_ := d.at_ + n } rfl rfl rfl rfl rfl, (Fr.set (Nat.le_refl _) _ _).trans (Fr.set (Nat.le_refl _) _ _)⟩
theorem itakePackets_any {Kp : Nat → Prop} {eb : Nat} {W : World} {d : Gp.Dr} {p : Pl} {q : Qv} {S : List UInt8} {C : List Gp.Pc} (h : IAt Kp W eb d p q S C) (hr : Ip.right d) (ht : d.took = []) (hL : d.buf.length ≤ 40000) (hm : d.at_ + d.buf.length ≤ 1099511627776) (hls : S.length ≤ 1000000) (hlc : C.length ≤ 100000) :
    Calls Try.prog 14 #[.pointer (some ⟨eb, 0, none⟩)] W fun e w' => IPC Kp eb W (Ip.feedN (d.buf.length + 1) d [] []) S C e w' ∧ (S ++ (Ip.feedN (d.buf.length + 1) d [] []).2.1).length ≤ 170000000 ∧ (C ++ (Ip.feedN (d.buf.length + 1) d [] []).2.2).length ≤ 740000 := by
  have hal := Ip.ok_len (by omega) hr.1.ah
  refine itakePackets_go (Kp := Kp) (d := d) (L0 := d.buf.length) (S := S) (C := C) p.a d.ahead.length p.ac (h.bk.cell 11) _ hL ?_ ?_ ?_ ?_ ?_ ?_
  · refine (clonef_any p.a p.ac d.ahead W (by omega) h.aheadE).mono fun e w' ⟨a', c', e1, hx, hb⟩ => ⟨a', c', e1, ?_, (h.below hb).bk.thaw, (h.below hb).bk.cell 11⟩
    obtain ⟨p', q', h1, h2⟩ := h.cloned hb hx.out
    exact ⟨d, p', q', S, C, d.buf.length + 1, h1, h2, (hb.mono (Nat.le_of_lt h.bk.lt)).trans (below_set _ _ _), ⟨[], [], by simp, by simp, rfl⟩, hr, by omega, hm, Nat.le_refl _, by omega, by omega, by rw [ht]; exact Nat.zero_le _⟩
  · intro W1 dm p q Si Ci f hti
    have hb := hti.bl
    exact iscan_any ⟨dm.buf.toArray⟩ (by rw [isize_bytes]; omega) W1
  · intro W1 dm p q Si Ci f hti hs W2 b2
    obtain ⟨e1, e2, e3⟩ := hti.stop hs
    obtain ⟨i, a1, a2, _⟩ := Ip.scan_no dm.buf 0 hs
    have hmx := hti.mx
    have ha0 := hti.rt.1.at_.1
    refine (icut_any (hti.at_.below b2) (If.scan 0 dm.buf).a (by omega) ha0 (by omega)).mono fun e w' hp => ⟨hp.1, ⟨rfl, p, q, ?_, ?_, (hti.bel.trans (b2.mono (Nat.le_of_lt hti.at_.bk.lt))).trans hp.2.2⟩, ?_, ?_⟩
    rotate_left
    · rw [e1]; exact hti.ow
    · have h1 := hti.ls
      rw [← e2]
      omega
    · have h1 := hti.lc
      rw [← e3]
      omega
    rw [e1, ← e2, ← e3]
    exact hp.2.1
  · intro W1 dm p q Si Ci f hti hs W2 p2 h2
    obtain ⟨_, _, hle, _, _⟩ := iright_noted hti.rt hti.mx hs
    have hmx := hti.mx
    have ha0 := hti.rt.1.at_.1
    exact icut_fr h2 (If.scan 0 dm.buf).b hle ha0 (by show dm.at_ + _ ≤ _; omega)
  · intro W1 dm p q Si Ci f hti hs hca W2 t tc h2 hb2
    have e : Ip.takes (Ip.noted dm) (If.scan 0 dm.buf).f = (Ip.noted dm, [], []) := by rw [Ip.takes_1]; exact if_pos hca
    obtain ⟨⟨f', hn⟩, hlt⟩ := hti.next hs hb2 (p' := { p with t := t, tc := tc }) (q' := q) (by rw [e, List.append_nil, List.append_nil]; exact h2) (by rw [e]; exact hti.ow)
    exact ⟨⟨_, _, _, _, _, _, hn⟩, by show ibufLen eb W2 < dm.buf.length; rw [hn.at_.bufLen]; exact hlt⟩
  · intro W1 dm p q Si Ci f hti hs hca W2 t tc h2 hb2
    obtain ⟨hr1, hok, hle, _, _⟩ := iright_noted hti.rt hti.mx hs
    have hw := Gp.wait2 hr1.1.wt.1 hr1.1.wt.2
    have hr2 := Ip.right_wait hr1 hw
    have hls1 := hti.ls
    have hlc1 := hti.lc
    have hbl := hti.bl
    have e : Ip.takes (Ip.noted dm) (If.scan 0 dm.buf).f = Ip.take1 { Ip.noted dm with wait := Gp.or2 dm.wait } (If.scan 0 dm.buf).f := by rw [Ip.takes_1]; exact if_neg hca
    refine (itake_any h2 hti.ow hr2 (If.scan 0 dm.buf).f hok.1.2.1 (by omega) (by omega)).mono fun e2 w' hp => ?_
    obtain ⟨hp1, p', q', hp2, hp3, hp4⟩ := hp
    obtain ⟨⟨f', hn⟩, hlt⟩ := hti.next hs (hb2.trans hp4) (p' := p') (q' := q') (by rw [e]; exact hp2) (by rw [e]; exact hp3)
    exact ⟨hp1, ⟨_, _, _, _, _, _, hn⟩, by show ibufLen eb w' < dm.buf.length; rw [hn.at_.bufLen]; exact hlt⟩
end Go.Proofs.Ytlclfkogbfigbaa

namespace Go.Proofs.Ytlclfkogbfigbaa
open Go.RowKit
set_option maxHeartbeats 2000000 in
set_option maxRecDepth 100000 in
theorem ifeedC_go {Kp : Nat → Prop} {W : World} {eb : Nat} {d : Gp.Dr} {p : Pl} {q : Qv} {S : List UInt8} {C : List Gp.Pc} (h : IAt Kp W eb d p q S C) (sb : Nat) (s Z : ByteArray) (hZ : (⟨d.buf.toArray⟩ : ByteArray) ++ s = Z) (hz1 : (⟨d.buf.toArray⟩ : ByteArray).size + s.size ≤ 100000) (k0 : W.cell? ⟨sb, 0, none⟩ = some (.string s)) (b2 : List UInt8) (hb2 : Z = ⟨b2.toArray⟩) (Q : World → Prop) (Post : Ending → World → Prop)
    (HT : Hid (∀ W1, IAt Kp W1 eb { d with buf := b2 } p q S C → Below eb W W1 → Calls Try.prog 14 #[.pointer (some ⟨eb, 0, none⟩)] W1 fun e w' => e = .returned (.tuple #[]) ∧ Hid (Q w')))
    (HS : Hid (∀ W1, Q W1 → Calls Try.prog 15 #[.pointer (some ⟨eb, 0, none⟩)] W1 fun e w' => e = .returned (.tuple #[]) ∧ Post (.returned (.tuple #[])) w')) :
    Calls Try.prog 13 #[.pointer (some ⟨eb, 0, none⟩), .pointer (some ⟨sb, 0, none⟩)] W Post := by
  have c12 : W.cell? ⟨eb, 12, none⟩ = some (.string ⟨d.buf.toArray⟩) := h.bk.cell 12
  have fz := h.bk.thaw
  have h2 : Hid (IAt Kp (W.setCell ⟨eb, 12, none⟩ (.string Z)).drew eb { d with buf := b2 } p q S C) := by
    rw [hb2]
    exact (h.upd 12 (.string ⟨b2.toArray⟩) { d with buf := b2 } rfl rfl rfl rfl rfl).drew
  have f2 : Hid (Below eb W (W.setCell ⟨eb, 12, none⟩ (.string Z)).drew) := (below_set eb _ _).drew
  clear h hb2
  generalize (⟨d.buf.toArray⟩ : ByteArray) = B at *
  go_enter Try.func13, Try.ntmps13
  go_wp2
  go_region
  generalize World.drew _ = w1 at *
  clear c12 fz k0
  have HT1 := Rg.hid (HT.out w1 h2.out f2.out)
  clear HT h2 f2
  go_wp2_with (first | (go_at_call 14; refine HT1.out.mono ?_; rintro e w2 ⟨rfl, hq⟩) | (go_at_call 15; refine (HS.out _ hq.out).mono ?_; rintro e w3 ⟨rfl, hp⟩))
  go_end0
  exact hp
namespace Ip
theorem feedN_queue : ∀ (f : Nat) (d : Gp.Dr) (out : List UInt8) (came : List Gp.Pc), (feedN f d out came).1.queue = d.queue
  | 0, _, _, _ => rfl
  | f + 1, d, out, came => by
    unfold feedN
    dsimp only
    split
    · rw [feedN_queue f, (takes_keeps _ _).2.2.1]
    · rfl
theorem feedN_right : ∀ (f : Nat) (d : Gp.Dr) (out : List UInt8) (came : List Gp.Pc), d.buf.length < f → right d → d.at_ + d.buf.length ≤ 1099511627776 → right (feedN f d out came).1
  | 0, _, _, _, h, _, _ => by omega
  | f + 1, d, out, came, hf, h, ha => by
    unfold feedN
    dsimp only
    have hat := h.1.at_
    split
    · rename_i hok
      obtain ⟨hr, ho, hle, h6, _⟩ := iright_noted h ha hok
      have hK := takes_keeps (noted d) (If.scan 0 d.buf).f
      have hbl : (noted d).buf.length = d.buf.length - (If.scan 0 d.buf).b := by show (d.buf.drop _).length = _; rw [List.length_drop]
      have hat2 : (noted d).at_ = d.at_ + ((If.scan 0 d.buf).b : Int) := rfl
      exact feedN_right f (takes (noted d) (If.scan 0 d.buf).f).1 _ _ (by rw [hK.2.1, hbl]; omega) (right_takes hr ho) (by rw [hK.1, hK.2.1, hbl, hat2]; omega)
    · rename_i hok
      obtain ⟨i, h1, h2, h3⟩ := scan_no d.buf 0 (by simpa using hok)
      have e : (If.scan 0 d.buf).a = i := by rw [h1]; omega
      rw [e]
      refine ⟨⟨h.1.lt, h.1.sz, h.1.rm, h.1.wn, ?_, h.1.wt, h.1.tr, h.1.qu, h.1.wi, h.1.ah⟩, ?_⟩
      · show 0 ≤ d.at_ + (i : Int) ∧ d.at_ + (i : Int) ≤ 1099511627776
        omega
      · rcases h.2 with h2 | ⟨hp, hr⟩ | h2
        · exact .inl h2
        · exact .inr (.inl ⟨hp, hr.st, hr.md, hr.ws, hr.bs, hr.ln⟩)
        · exact .inr (.inr h2)
end Ip
/-- what Feed's closure leaves -/
def IFPost (Kp : Nat → Prop) (eb : Nat) (W : World) (r : Gp.Dr × List UInt8 × List Gp.Pc) (e : Ending) (w' : World) : Prop := e = .returned (.tuple #[]) ∧ IS Kp w' eb r.1 r.2.1 r.2.2 ∧ Below eb W w' ∧ r.2.2.length ≤ 740000
theorem icat_bytes (a b : List UInt8) : (⟨a.toArray⟩ : ByteArray) ++ (⟨b.toArray⟩ : ByteArray) = ⟨(a ++ b).toArray⟩ := by
  apply ByteArray.ext
  simp [ByteArray.data_append]
theorem ifeedC_any {Kp : Nat → Prop} {W : World} {eb : Nat} {d : Gp.Dr} {p : Pl} {q : Qv} (h : IAt Kp W eb (Gp.own d) p q [] []) (hr : Ip.right d) (sb : Nat) (s : List UInt8) (k0 : W.cell? ⟨sb, 0, none⟩ = some (.string ⟨s.toArray⟩)) (hq : d.queue.length ≤ 100000) (hm : d.at_ + d.buf.length + s.length ≤ 1099511627776) (hl : d.buf.length + s.length ≤ 40000) :
    Calls Try.prog 13 #[.pointer (some ⟨eb, 0, none⟩), .pointer (some ⟨sb, 0, none⟩)] W fun e w' => IFPost Kp eb W (Ip.feed d s) e w' := by
  have hlb : (d.buf ++ s).length = d.buf.length + s.length := List.length_append
  obtain ⟨d2, hd2⟩ : ∃ d2 : Gp.Dr, d2 = { Gp.own d with buf := d.buf ++ s } := ⟨_, rfl⟩
  have e2 : d2.buf.length = d.buf.length + s.length := by rw [hd2]; exact hlb
  have hr2 : Ip.right d2 := by
    rw [hd2]
    have b := hr.1
    exact ⟨⟨b.lt, b.sz, b.rm, b.wn, b.at_, b.wt, b.tr, b.qu, b.wi, b.ah⟩, by
      rcases hr.2 with x | ⟨x, y⟩ | x | x | x
      · exact .inl x
      · exact .inr (.inl ⟨x, ⟨y.st, y.md, y.ws, y.bs, y.ln⟩⟩)
      · exact .inr (.inr (.inl x))
      · exact .inr (.inr (.inr (.inl x)))
      · exact .inr (.inr (.inr (.inr x)))⟩
  have hm2 : d2.at_ + d2.buf.length ≤ 1099511627776 := by rw [e2, hd2]; show d.at_ + _ ≤ _; omega
  obtain ⟨r, hrr⟩ : ∃ r, r = Ip.feedN (d2.buf.length + 1) d2 [] [] := ⟨_, rfl⟩
  have hR := Ip.feedN_right (d2.buf.length + 1) d2 [] [] (by omega) hr2 hm2
  rw [← hrr] at hR
  have hQ : r.1.queue = d.queue := by rw [hrr, Ip.feedN_queue, hd2]; rfl
  have hF : Ip.feed d s = ((Ip.fill r.1).1, r.2.1 ++ (Ip.fill r.1).2, r.2.2) := by
    unfold Ip.feed
    dsimp only
    rw [hrr, e2, hd2]
  rw [hF]
  refine ifeedC_go h sb ⟨s.toArray⟩ ⟨(d.buf ++ s).toArray⟩ (icat_bytes _ _) (by rw [isize_bytes, isize_bytes]; show d.buf.length + _ ≤ _; omega) k0 (d.buf ++ s) rfl (fun w' => (∃ p q, IAt Kp w' eb r.1 p q r.2.1 r.2.2 ∧ Below eb W w') ∧ r.2.1.length ≤ 170000000 ∧ r.2.2.length ≤ 740000) _ (fun W1 hh f => ?_) (fun W1 hq1 => ?_)
  · rw [show ({ Gp.own d with buf := d.buf ++ s } : Gp.Dr) = d2 from hd2.symm] at hh
    refine (itakePackets_any hh hr2 (by rw [hd2]; rfl) (by rw [e2]; exact hl) hm2 (by simp) (by simp)).mono fun e w' ⟨⟨x1, p', q', x2, _, x3⟩, x5, x6⟩ => ?_
    rw [← hrr] at x2 x5 x6
    rw [List.nil_append] at x2 x5 x6
    rw [List.nil_append] at x2
    exact ⟨x1, ⟨p', q', x2, f.trans x3⟩, x5, x6⟩
  · obtain ⟨⟨p1, q1, h1, x3⟩, x5, x6⟩ := hq1
    exact (isendWaiting_any h1 hR (by rw [hQ]; exact hq) (by omega)).mono fun e w' hp => ⟨hp.1, rfl, hp.2.1, x3.trans hp.2.2, x6⟩
end Go.Proofs.Ytlclfkogbfigbaa

namespace Go.Proofs.Ytlclfkogbfigbaa
open Go.RowKit
namespace Bo
theorem lies0 : liesAt Try.prog Try.prog.depth 49 (2 / Try.prog.cellsOf 49) 0 49 1 = true := by kernel_rfl
set_option maxHeartbeats 1000000 in
set_option maxRecDepth 100000 in
theorem check_fresh (b o : Nat) (w : World) (h0 : w.cell? ⟨b, o, none⟩ = some (.pointer none)) (hsh : w.shape? b = some (49, 2)) (ho : o < 2) (hl : liesAt Try.prog Try.prog.depth 49 (2 / Try.prog.cellsOf 49) o 49 1 = true) (hfz : w.frozen? ⟨b, o, none⟩ = false) :
    Calls Try.prog 46 #[.pointer (some ⟨b, o, none⟩)] w fun e w' => e = .returned (.tuple #[]) ∧ w' = w.setCell ⟨b, o, none⟩ (.pointer (some ⟨b, o, none⟩)) := by
  obtain ⟨j, hj, hjs⟩ := Option.map_eq_some_iff.1 Bi.sizeB
  go_enter Try.func46, Try.ntmps46
  go_wp2
  rw [Lib.run_to_unsafe w ⟨b, o, none⟩ Try.underlying47 Try.underlying103 hj (by rw [hjs]; decide) hsh ho]
  simp only [Result.andThen]
  rw [Oper.upon_value]
  go_wp2
  rw [run_callFunc_extern Try.func69 (by kernel_rfl) (by kernel_rfl) (by kernel_rfl) (e := Extern.AbiNoEscape.same) (by kernel_rfl)]
  rw [Lib.run_noEscape]
  simp only [Result.andThen]
  rw [Oper.upon_value]
  go_wp2
  rw [Lib.run_from_unsafe w ⟨b, o, none⟩ Try.underlying103 Try.underlying47 hj hsh hl]
  simp only [Result.andThen]
  rw [Oper.upon_value]
  go_wp2
  go_end0
  exact ⟨rfl, rfl⟩

theorem check (b o : Nat) (C : List Value) (w : World) (hk : Rg.Bk b C 49 w) (hC : C.length = 2) (ho : o = 0) (h0 : C[o]? = some (.pointer none) ∨ C[o]? = some (.pointer (some ⟨b, o, none⟩))) :
    Calls Try.prog 46 #[.pointer (some ⟨b, o, none⟩)] w fun e w' => e = .returned (.tuple #[]) ∧ Rg.Bk b (C.set o (.pointer (some ⟨b, o, none⟩))) 49 w' ∧ Rg.Only b w w' := by
  rcases h0 with h0 | h0
  · refine (check_fresh b o w (by rw [hk.cell]; exact h0) (by unfold Rg.Bk at hk; simp [World.shape?, hk, hC]) (by omega) (by subst ho; exact lies0) (hk.thaw o)).mono ?_
    rintro e w' ⟨rfl, rfl⟩
    exact ⟨rfl, hk.set o _, Rg.Only.setCell w b o _⟩
  · refine (Bi.check_used b o w (by rw [hk.cell]; exact h0)).mono ?_
    rintro e w' ⟨rfl, rfl⟩
    refine ⟨rfl, ?_, Rg.Only.refl _ _⟩
    have hlt : o < C.length := by omega
    rw [List.getElem?_eq_getElem hlt] at h0
    have e := Option.some.inj h0
    rw [← e, List.set_getElem_self]
    exact hk
/-- where the bytes lie behind an append: where they lay, or in a new block -/
theorem Bi.block_or {P : Program} (w : World) (base : Nat) (t u ty e : TypeId) (i : TypeInfo) (ht : P.underlying t = some (.slice e)) (hu : P.underlying u = some .string) (hi : P.info? e = some i) (hz : i.zero = some (.int .u8 0)) (hsize : i.size = 1) (hby : i.bytes = 1)
    (v : Value) (n : Nat) (xs : List Value) (hown : w.ownsRowF base e 1 v n xs) (s : ByteArray) (h63 : n + s.size ≤ maxLen) (hbytes : n + s.size ≤ 140737488355328) (hbase : base ≤ w.heap.size) :
    ∃ v' w', (Builtin.append_ #[t, u] ty #[v, .string s]).run P w = .ok v' w' ∧ w'.ownsRowF base e 1 v' (n + s.size) (xs ++ Lib.strCells s) ∧ w.grownBy w' v.ownBlock ∧ (v' = .slice none 0 0 ↔ v = .slice none 0 0 ∧ s.size = 0) ∧ (∀ g, v'.ownBlock = some g → v.ownBlock = some g ∨ w.heap.size ≤ g) := by
  obtain ⟨v', w', h1, h2, h3, h4⟩ := Lib.run_append_own_stringF (P := P) w base t u ty e i ht hu hi hz hsize hby v n xs hown s h63 hbytes hbase
  refine ⟨v', w', h1, h2, h3, h4, ?_⟩
  rcases hown.2 with ⟨rfl, rfl⟩ | ⟨g, cap, cur, fz, rfl, hbg, hg, hfz, hnc, hcm, hcs, htake⟩
  · obtain ⟨v2, w2, g1, g2, _⟩ := Lib.run_append_own_stringF (P := P) w w.heap.size t u ty e i ht hu hi hz hsize hby (.slice none 0 0) 0 xs ⟨hown.1, .inl ⟨rfl, rfl⟩⟩ s h63 hbytes (Nat.le_refl _)
    rw [h1] at g1
    cases g1
    exact fun g hg => .inr (g2.lt g hg).1
  · by_cases hroom : n + s.size ≤ cap
    · have hcs' : cur.size = cap := by simpa using hcs
      have hr := Lib.run_append_room_stringF (P := P) w t u ty e i ht hu hi hsize g n cap cur fz hg (by simpa using hfz) s hroom (by omega)
      rw [h1] at hr
      cases hr
      exact fun k hk => .inl hk
    · have hxl : xs.length = n := by simpa using hown.1
      have hr := Lib.run_append_grow_string (P := P) w t u ty e i (.int .u8 0) ht hu hi hz ⟨g, 0, none⟩ n cap xs (by rw [hsize]; simpa using hxl) (hown.cells (g := g) rfl) s (by omega) (by unfold maxLen at h63; omega) (by rw [hby]; exact growslice_fits (by omega) (by unfold maxLen at h63; omega))
      rw [h1] at hr
      cases hr
      intro k hk
      simp [Value.ownBlock] at hk
      exact .inr (by omega)
theorem Bi.wpList_append_str {P : Program} {w : World} {ops : Array Oper} {rest : List Oper} {o : Oper} {a : Act} {Q : Exit → Act → World → Prop} (hw : Region.wanted o (yielded ops a.tmps) = true) (s x : Operand) (t u : TypeId)
    (ho : o.op = .call { callee := .builtin .append, args := #[s, x], argTypes := #[t, u] }) (v y : Value) (hs : a.eval s = v) (hx : a.eval x = y) (v' : Value) (w' : World)
    (hrun : (Builtin.append_ #[t, u] o.type #[v, y]).run P w = .ok v' w') (h : wpList P ops Q rest (a.put o.dst v') w') : wpList P ops Q (o :: rest) a w := by
  refine wpList_step fun K hK => ?_
  rw [if_pos hw]
  unfold Oper.wp
  simp [execOp, ho, resolve, invoke, builtin, hs, hx, hrun, Result.andThen]
  exact hK _ _ h
/-- what WriteString leaves -/
structure Wrote (base b o : Nat) (C : List Value) (v : Value) (S : List UInt8) (s : ByteArray) (w w' : World) (v' : Value) : Prop where
  bk : Rg.Bk b ((C.set o (.pointer (some ⟨b, o, none⟩))).set (o + 1) v') 49 w'
  bat : BAt base w' v' (S ++ s.data.toList)
  bel : Below base w w'
  size : w.heap.size ≤ w'.heap.size
  blk : ∀ k, k < w.heap.size → k ≠ b → v.ownBlock ≠ some k → w'.heap[k]? = w.heap[k]?
  own : ∀ g, v'.ownBlock = some g → v.ownBlock = some g ∨ w.heap.size ≤ g
set_option maxHeartbeats 2000000 in
set_option maxRecDepth 100000 in
theorem write_go (base b o o1 : Nat) (C : List Value) (v : Value) (S : List UInt8) (s : ByteArray) (w : World) (ho1 : o + 1 = o1) (hB : base ≤ b) (hsv : ∃ a n c, v = .slice a n c)
    (HC : Hid (Calls Try.prog 46 #[.pointer (some ⟨b, o, none⟩)] w fun e w' => e = .returned (.tuple #[]) ∧ Rg.Bk b (C.set o (.pointer (some ⟨b, o, none⟩))) 49 w' ∧ Rg.Only b w w'))
    (hc1 : (C.set o (.pointer (some ⟨b, o, none⟩)))[o1]? = some v) (hbt : BAt base w v S) (hlen : S.length + s.size ≤ 140737488355328) (hk0 : Rg.Bk b C 49 w) :
    Calls Try.prog 31 #[.pointer (some ⟨b, o, none⟩), .string s] w fun e w' => e = .returned (.tuple #[.int .i64 s.size, .nilIface]) ∧ ∃ v', Wrote base b o C v S s w w' v' := by
  obtain ⟨i0, hi, hz0, hz1, hz2⟩ := info_parts Bi.infoByte
  have hlt0 := hk0.lt
  have hne := hbt.ne hk0 (by decide)
  clear hk0
  go_enter Try.func31, Try.ntmps31
  go_upto_region 2 with (go_at_call 46; refine HC.out.mono ?_; rintro e w1 ⟨rfl, hk1, ho⟩)
  have c1 : w1.cell? ⟨b, o1, none⟩ = some v := by rw [hk1.cell]; exact hc1
  have c2 : w1.cell? ⟨b, o + 1, none⟩ = some v := by rw [ho1]; exact c1
  have hbt1 : BAt base w1 v S := hbt.kept fun g hg => ho.block g (fun e => hne (by rw [hg, e]))
  obtain ⟨v', w2, r1, r2, r3, r4, r5⟩ := Bi.block_or (P := Try.prog) w1 base 38 9 38 5 i0 Try.underlying38 Try.underlying9 hi hz0 hz1 hz2 v S.length (Lib.byteCells S) hbt1.own s (by unfold maxLen; omega) hlen (by rw [ho.size]; omega)
  have hk2 : Rg.Bk b (C.set o (.pointer (some ⟨b, o, none⟩))) 49 w2 := hk1.same (r3.block b (by rw [ho.size]; exact hlt0) (fun e => hne e.symm))
  have f1 : w2.frozen? ⟨b, o1, none⟩ = false := hk2.thaw o1
  have f2 : w2.frozen? ⟨b, o + 1, none⟩ = false := by rw [ho1]; exact f1
  have d1 : w2.cell? ⟨b, o1, none⟩ = some v := by rw [hk2.cell]; exact hc1
  have d2 : w2.cell? ⟨b, o + 1, none⟩ = some v := by rw [ho1]; exact d1
  obtain ⟨ao, n', cap, rfl⟩ : ∃ ao n' cap, v' = .slice ao n' cap := by
    rcases r2.2 with ⟨hv, _⟩ | ⟨g, cap, cur, fz, hv, _⟩
    · exact ⟨_, _, _, hv⟩
    · exact ⟨_, _, _, hv⟩
  obtain ⟨va, vn, vc, rfl⟩ := hsv
  have hfin : ∃ v', Wrote base b o C (.slice va vn vc) S s w (w2.setCell ⟨b, o + 1, none⟩ (.slice ao n' cap)) v' := by
    have hbt2 : BAt base w2 (.slice ao n' cap) (S ++ s.data.toList) := by
      refine ⟨?_, ?_⟩
      · rw [List.length_append, show s.data.toList.length = s.size from rfl, ← Bi.join]; exact r2
      · intro e
        have he := List.append_eq_nil_iff.1 e
        refine r4.2 ⟨hbt.nil he.1, ?_⟩
        show s.data.size = 0
        rw [← Array.length_toList, he.2]; rfl
    have hs : Below base w w2 := (ho.bel hB).trans ⟨r3.os, r3.tape, r3.output, r3.size, fun k hk => r3.block k (by rw [ho.size]; omega) (fun e => by have := (hbt1.own.lt k e.symm).1; omega)⟩
    refine ⟨.slice ao n' cap, hk2.set (o + 1) _, hbt2.set hk2 (by decide) _, hs.setCell (p := ⟨b, o + 1, none⟩) hB _, ?_, ?_, ?_⟩
    · rw [← ho.size]; simpa [World.setCell] using r3.size
    · intro k hk hkb hkv
      rw [Below.heap_setCell _ _ _ _ hkb, r3.block k (by rw [ho.size]; exact hk) (fun e => hkv e.symm), ho.block k hkb]
    · intro g hg
      have := r5 g hg
      rw [ho.size] at this
      exact this
  rw [ho1] at hfin
  clear r2 r3 r4 r5 hbt hbt1 hk1 hk2 hc1 hz0 hz1 hz2 hi hne ho
  go_wp2_with (at_builtin; refine Bi.wpList_append_str rfl _ _ _ _ rfl _ _ rfl rfl _ _ r1 ?_)
  go_ret2
  exact ⟨rfl, hfin⟩
theorem write (base b o : Nat) (C : List Value) (v : Value) (S : List UInt8) (s : ByteArray) (w : World) (hB : base ≤ b) (hk : Rg.Bk b C 49 w) (hC : C.length = 2) (ho : o = 0) (h0 : C[o]? = some (.pointer none) ∨ C[o]? = some (.pointer (some ⟨b, o, none⟩))) (h1 : C[o + 1]? = some v) (hbt : BAt base w v S) (hlen : S.length + s.size ≤ 140737488355328) :
    Calls Try.prog 31 #[.pointer (some ⟨b, o, none⟩), .string s] w fun e w' => e = .returned (.tuple #[.int .i64 s.size, .nilIface]) ∧ ∃ v', Wrote base b o C v S s w w' v' :=
  write_go base b o (o + 1) C v S s w rfl hB (Bi.slice_of hbt) (check b o C w hk hC ho h0) (by rw [List.getElem?_set_ne (by omega)]; exact h1) hbt hlen hk
set_option maxHeartbeats 1000000 in
set_option maxRecDepth 100000 in
theorem reset_go (b : Nat) (a v : Value) (w : World) (c0 : w.cell? ⟨b, 0, none⟩ = some a) (c1 : w.cell? ⟨b, 1, none⟩ = some v) (fz : ∀ i, w.frozen? ⟨b, i, none⟩ = false) :
    Calls Try.prog 32 #[.pointer (some ⟨b, 0, none⟩)] w fun e w' => e = .returned (.tuple #[]) ∧ w' = (w.setCell ⟨b, 0, none⟩ (.pointer none)).setCell ⟨b, 1, none⟩ (.slice none 0 0) := by
  go_enter Try.func32, Try.ntmps32
  go_wp2
  go_end0
  exact ⟨rfl, rfl⟩
end Bo
/-- a builder in a block of its own -/
def BW (base b : Nat) (W : World) (S : List UInt8) : Prop := base ≤ b ∧ ∃ a v, Rg.Bk b [a, v] 49 W ∧ (a = .pointer none ∨ a = .pointer (some ⟨b, 0, none⟩)) ∧ BAt base W v S
theorem BW.start {base b : Nat} {W : World} (hb : base ≤ b) (k : Rg.Bk b [.pointer none, .slice none 0 0] 49 W) : BW base b W [] := ⟨hb, _, _, k, .inl rfl, BAt.start _ _⟩
theorem BW.lt {base b : Nat} {W : World} {S : List UInt8} (h : BW base b W S) : b < W.heap.size := by
  obtain ⟨_, a, v, k, _⟩ := h
  exact k.lt
/-- what is neither the builder nor its bytes is kept -/
theorem BW.kept {base b : Nat} {W W' : World} {S : List UInt8} (h : BW base b W S) (hk : ∀ (k : Nat) (cur : Array Value) (T : TypeId) (fz : Nat × Nat), W.heap[k]? = some (Obj.cells cur T fz) → T = 5 ∨ T = 49 → W'.heap[k]? = W.heap[k]?) : BW base b W' S := by
  obtain ⟨hb, a, v, k, ha, hv⟩ := h
  refine ⟨hb, a, v, k.same (hk b _ _ _ k (.inr rfl)), ha, hv.kept fun g hg => ?_⟩
  obtain ⟨c, fz, hT⟩ := Lib.ownsRowF_kind hv.own g hg
  exact hk g _ _ _ hT (.inl rfl)
/-- what a method of the builder leaves -/
structure BWPost (base b : Nat) (W w' : World) (S : List UInt8) : Prop where
  at_ : BW base b w' S
  bel : Below base W w'
  oth : ∀ (k : Nat) (cur : Array Value) (T : TypeId) (fz : Nat × Nat), W.heap[k]? = some (Obj.cells cur T fz) → T ≠ 5 → T ≠ 49 → w'.heap[k]? = W.heap[k]?
theorem BW.write {base b : Nat} {W : World} {S : List UInt8} (h : BW base b W S) (s : ByteArray) (hlen : S.length + s.size ≤ 140737488355328) :
    Calls Try.prog 31 #[.pointer (some ⟨b, 0, none⟩), .string s] W fun e w' => e = .returned (.tuple #[.int .i64 s.size, .nilIface]) ∧ BWPost base b W w' (S ++ s.data.toList) := by
  obtain ⟨hb, a, v, k, ha, hv⟩ := h
  refine (Bo.write base b 0 [a, v] v S s W hb k rfl rfl (by rcases ha with e | e <;> simp [e]) rfl hv hlen).mono ?_
  rintro e w' ⟨rfl, v', hw⟩
  refine ⟨rfl, ⟨hb, _, v', hw.bk, .inr rfl, hw.bat⟩, hw.bel, fun g cur T fz hg h5 hB => ?_⟩
  refine hw.blk g (Array.getElem?_eq_some_iff.1 hg).1 (fun e => ?_) (fun e => ?_)
  · have hb2 := k
    unfold Rg.Bk at hb2
    rw [← e, hg] at hb2
    cases hb2
    exact hB rfl
  · obtain ⟨c, fz2, hc⟩ := Lib.ownsRowF_kind hv.own g e
    rw [hg] at hc
    cases hc
    exact h5 rfl
theorem BW.str {base b : Nat} {W : World} {S : List UInt8} (h : BW base b W S) :
    Calls Try.prog 11 #[.pointer (some ⟨b, 0, none⟩)] W fun e w' => e = .returned (.string ⟨S.toArray⟩) ∧ Below base W w' ∧ (∃ a v, Rg.Bk b [a, v] 49 w') ∧ (∀ (k : Nat) (cur : Array Value) (T : TypeId) (fz : Nat × Nat), W.heap[k]? = some (Obj.cells cur T fz) → T ≠ 5 → w'.heap[k]? = W.heap[k]?) := by
  obtain ⟨hb, a, v, k, ha, hv⟩ := h
  refine (Bi.str base b 0 v S W (k.cell 1) hv).mono ?_
  rintro e w' ⟨rfl, hw⟩
  have hoth : ∀ (k : Nat) (cur : Array Value) (T : TypeId) (fz : Nat × Nat), W.heap[k]? = some (Obj.cells cur T fz) → T ≠ 5 → w'.heap[k]? = W.heap[k]? := fun g cur T fz hg h5 => hw.blk g (Array.getElem?_eq_some_iff.1 hg).1 (fun e => by
    obtain ⟨c, fz2, hc⟩ := Lib.ownsRowF_kind hv.own g e
    rw [hg] at hc
    cases hc
    exact h5 rfl)
  exact ⟨rfl, hw.bel, ⟨a, v, k.same (hoth b _ _ _ k (by decide))⟩, hoth⟩
theorem BW.reset {base b : Nat} {W : World} {a v : Value} (hb : base ≤ b) (k : Rg.Bk b [a, v] 49 W) :
    Calls Try.prog 32 #[.pointer (some ⟨b, 0, none⟩)] W fun e w' => e = .returned (.tuple #[]) ∧ BWPost base b W w' [] := by
  refine (Bo.reset_go b a v W (k.cell 0) (k.cell 1) k.thaw).mono ?_
  rintro e w' ⟨rfl, rfl⟩
  refine ⟨rfl, BW.start hb ((k.set 0 _).set 1 _), ((Below.refl _ _).setCell (p := ⟨b, 0, none⟩) hb _).setCell (p := ⟨b, 1, none⟩) hb _, fun g cur T fz hg h5 hB => ?_⟩
  have hne : g ≠ b := fun e => by
    have hb2 := k
    unfold Rg.Bk at hb2
    rw [← e, hg] at hb2
    cases hb2
    exact hB rfl
  rw [Below.heap_setCell _ _ _ _ hne, Below.heap_setCell _ _ _ _ hne]
end Go.Proofs.Ytlclfkogbfigbaa
