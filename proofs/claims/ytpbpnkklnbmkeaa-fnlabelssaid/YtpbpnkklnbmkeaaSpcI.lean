/-
  Whether chosen labels leave each other room: the program's contract.
-/
import Derived.Test.YtpbpnkklnbmkeaaXH
import Derived.Test.YtpbpnkklnbmkeaaLblW
namespace Go.Proofs.Ytpbpnkklnbmkeaa
open Go.RowKit Go.Maps

def rmOf (d : LblD) : RmD := ⟨d.x, d.y, d.x + d.wd - 1, d.y + d.ht - 1⟩
theorem rmOf_P {d : LblD} (hk : lblK d = true) : RmP (rmOf d) := by
  obtain ⟨_, ⟨x0, x1, y0, y1⟩, ⟨w0, w1⟩, ⟨t0, t1⟩, _, _⟩ := lblK_out hk
  unfold RmP rmOf XOk
  simp only
  omega
theorem rmOf_len {d : LblD} (hk : lblK d = true) : (rmS (rmOf d)).length ≤ 4 := by
  obtain ⟨_, ⟨x0, x1, y0, y1⟩, ⟨w0, w1⟩, ⟨t0, t1⟩, _, _⟩ := lblK_out hk
  unfold rmS sqs
  rw [sqCols_len]
  have h1 : (sqn (rmOf d).c - sqn (rmOf d).a + 1).toNat ≤ 2 := by unfold sqn rmOf; simp only; omega
  have h2 : (sqn (rmOf d).d - sqn (rmOf d).b + 1).toNat ≤ 2 := by unfold sqn rmOf; simp only; omega
  exact Nat.mul_le_mul h1 h2
/-- Each finds room among these and those ahead of it. -/
def spTo (rs : List RmD) : List LblD → Bool
  | [] => true
  | d :: t => frB rs (rmOf d) && spTo (rs ++ [rmOf d]) t
noncomputable def spQ (l : List LblD) (ids : List Int) : Bool := bP (lblsP l) && spTo [] (chQ l ids)
theorem Sl.below {α : Type} {q : Nat} {E : Elem α} (hE : Stays q E) {N0 : Nat} {w w' : World} {a : Option Addr} {l : List α} {bs : List Nat} (h : Sl q E w a l bs) (g : Below N0 w w') (hn : ∀ x ∈ bs, x < N0) : Sl q E w' a l bs :=
  h.alike hE fun b hb => by
    have hl := h.lt hE b hb
    have e := g.block b (hn b hb)
    exact ⟨Nat.lt_of_lt_of_le hl g.size, fun o => World.cell?_of_block e, fun o => World.frozen?_of_block e⟩
set_option maxRecDepth 100000 in
set_option maxHeartbeats 2000000 in
theorem spaced1_any (N0 G M : Nat) (rs : List RmD) (n : Nat) (q : GD) (d : LblD) (w : World) (hG : Grid N0 G M (fun _ => False) w rs n q) (hk : lblK d = true) (hn : n ≤ 1000000) (hrs : rs.length ≤ 1000000) :
    Calls Try.prog 38 #[lbv d, .pointer (some ⟨G, 0, none⟩)] w fun e w' => PutOut N0 G M w rs (rmOf d) n e w' := by
  have hlen := rmOf_len hk
  have hP := rmOf_P hk
  have hN0 := hG.lo.2.2.2
  obtain ⟨b, Hb⟩ : ∃ b, Hid (b = w.alloc (.cells #[.int .i64 d.id, .int .i64 d.x, .int .i64 d.y, .int .i64 d.wd, .int .i64 d.ht, .int .i64 d.rk] 33)) := ⟨_, (rfl : w.alloc (.cells #[.int .i64 d.id, .int .i64 d.x, .int .i64 d.y, .int .i64 d.wd, .int .i64 d.ht, .int .i64 d.rk] 33) = _)⟩
  have hwb : Bel w b := by rw [Hb.out]; exact bel_alloc (Bel.refl _) _
  go_enter Try.func38, Try.ntmps38
  go_wp2_with fail
  rw [← Hb.out]
  refine (room_any d b hk).mono ?_
  rintro e w1 ⟨rfl, hb1⟩
  have hw1 := bel_step hwb hb1
  have hG1 := hG.bel hw1
  clear hG
  go_wp2_with fail
  refine (put_any N0 G M rs n q (rmOf d) w1 hG1 hP (by omega) hrs).mono ?_
  rintro e w2 ho
  obtain ⟨q', n', rfl, hG2, hn2, hB2⟩ := ho.out
  have HP : Hid (PutOut N0 G M w rs (rmOf d) n (.returned (.bool (frB rs (rmOf d)))) w2) := ⟨⟨q', n', rfl, hG2, hn2, (hw1.out.mono hN0).trans hB2⟩⟩
  clear ho hG2 hG1
  go_wp2
  exact bodyPost_ret (v := .bool (frB rs (rmOf d))) (by simp [results, Try.results38, go_sem]) rfl HP.out
structure AllOut (N0 : Nat) (w : World) (r : Bool) (e : Ending) (w' : World) : Prop where
  out : e = .returned (.bool r) ∧ Below N0 w w'
theorem spTo_step {rs : List RmD} {ch : List LblD} {k : Nat} (hk : k < ch.length) : spTo rs (ch.drop k) = (frB rs (rmOf ch[k]) && spTo (rs ++ [rmOf ch[k]]) (ch.drop (k + 1))) := by
  rw [List.drop_eq_getElem_cons hk]; rfl
set_option maxRecDepth 100000 in
set_option maxHeartbeats 2000000 in
theorem allL_any (N0 G M : Nat) (q : GD) (a : Option Addr) (m c : Nat) (ch : List LblD) (bs : List Nat) (w : World) (hG : Grid N0 G M (fun _ => False) w [] 0 q) (hT : LblL w a ch bs) (hm : ch.length = m) (h5 : m ≤ 500) (hbs : ∀ x ∈ bs, x < N0) (hK : ∀ d ∈ ch, lblK d = true) :
    Calls Try.prog 37 #[.slice a m c, .func (.func 38) #[] #[.pointer (some ⟨G, 0, none⟩)]] w fun e w' => AllOut N0 w (spTo [] ch) e w' := by
  have Hm : Hid (ch.length = m) := hm
  have HK : Hid (∀ d ∈ ch, lblK d = true) := hK
  have HG : Hid (Grid N0 G M (fun _ => False) w [] 0 q) := hG
  clear hm hK hG
  go_enter Try.func37, Try.ntmps37
  go_wp2
  go_loopw [9] (fun i wr => ∃ (k : Nat) (q' : GD) (n' : Nat), k ≤ m ∧ i = .int .i64 k ∧ Grid N0 G M (fun _ => False) wr ((ch.take k).map rmOf) n' q' ∧ n' ≤ 4 * k ∧ spTo [] ch = spTo ((ch.take k).map rmOf) (ch.drop k) ∧ Below N0 w wr) (fun i _ => m - (intOf i).toNat)
  case atStart => exact ⟨0, q, 0, Nat.zero_le _, rfl, HG.out, by omega, by simp, Below.refl _ _⟩
  case round =>
    obtain ⟨k, q', n', hk, rfl, hGr, hn', hsp, hB⟩ := hrel
    have HGr : Hid (Grid N0 G M (fun _ => False) wr ((ch.take k).map rmOf) n' q') := hGr
    have Hsp : Hid (spTo [] ch = spTo ((ch.take k).map rmOf) (ch.drop k)) := hsp
    clear hGr hsp
    by_cases hlt : k < m
    · have hkl : k < ch.length := by rw [Hm.out]; exact hlt
      obtain ⟨bb, off, f, rfl, hbb, hx⟩ := (hT.below lblE hB hbs).out hkl
      obtain ⟨_, _, _, _, _, _, _, c0, c1, c2, c3, c4, c5⟩ := hx k hkl
      have hkd := HK.out ch[k] (List.getElem_mem hkl)
      have hst := spTo_step (rs := (ch.take k).map rmOf) hkl
      have hmp : (ch.take (k + 1)).map rmOf = (ch.take k).map rmOf ++ [rmOf ch[k]] := by rw [List.take_succ_eq_append_getElem hkl, List.map_append]; rfl
      obtain ⟨d, Hd⟩ : ∃ d, Hid (d = ch[k]) := ⟨_, (rfl : ch[k] = _)⟩
      rw [← Hd.out] at c0 c1 c2 c3 c4 c5 hkd hst hmp
      obtain ⟨rs, Hrs⟩ : ∃ r, Hid (r = (ch.take k).map rmOf) := ⟨_, (rfl : (ch.take k).map rmOf = _)⟩
      rw [← Hrs.out] at hst hmp HGr Hsp
      have hrl : rs.length ≤ 500 := by rw [Hrs.out]; simp; omega
      have Hst : Hid (spTo rs (ch.drop k) = (frB rs (rmOf d) && spTo (rs ++ [rmOf d]) (ch.drop (k + 1)))) := hst
      have Hmp : Hid ((ch.take (k + 1)).map rmOf = rs ++ [rmOf d]) := hmp
      obtain ⟨U, HU⟩ : ∃ U, Hid (U = wr.alloc (.cells #[.int .i64 d.id, .int .i64 d.x, .int .i64 d.y, .int .i64 d.wd, .int .i64 d.ht, .int .i64 d.rk] 33)) := ⟨_, (rfl : wr.alloc (.cells #[.int .i64 d.id, .int .i64 d.x, .int .i64 d.y, .int .i64 d.wd, .int .i64 d.ht, .int .i64 d.rk] 33) = _)⟩
      have hbU : Bel wr U := by rw [HU.out]; exact bel_alloc (Bel.refl _) _
      have hGU := HGr.out.bel hbU
      have hN := HGr.out.lo.2.2.2
      have hlen := rmOf_len hkd
      clear hx hst hmp
      go_wp2_with fail
      rw [← HU.out]
      refine (spaced1_any N0 G M rs n' q' d U hGU hkd (by omega) (by omega)).mono ?_
      rintro e w3 ho
      obtain ⟨q3, n3, rfl, hG3, hn3, hB3⟩ := ho.out
      have HB3 : Hid (Below N0 w w3) := hB.trans ((hbU.out.mono hN).trans hB3)
      clear ho hGU
      rcases Bool.eq_false_or_eq_true (frB rs (rmOf d)) with hf | hf
      · rw [if_pos hf] at hG3
        have HG3 : Hid (Grid N0 G M (fun _ => False) w3 ((ch.take (k + 1)).map rmOf) n3 q3) := by rw [Hmp.out]; exact hG3
        have HS3 : Hid (spTo [] ch = spTo ((ch.take (k + 1)).map rmOf) (ch.drop (k + 1))) := by rw [Hsp.out, Hst.out, hf, Hmp.out]; exact rfl
        rw [hf]
        clear hG3
        go_wp2
        go_roundw
        case rel => exact ⟨k + 1, q3, n3, by omega, by go_num, HG3.out, by omega, HS3.out, HB3.out⟩
        case measure => simp [intOf]; omega
      · have HS3 : Hid (spTo [] ch = false) := by rw [Hsp.out, Hst.out, hf]; exact rfl
        rw [hf]
        clear hG3
        go_wp2
        exact bodyPost_ret (v := .bool false) (by simp [results, Try.results37, go_sem]) rfl ⟨⟨by rw [HS3.out], HB3.out⟩⟩
    · have e : k = m := by omega
      subst e
      have HS3 : Hid (spTo [] ch = true) := by rw [Hsp.out, List.drop_eq_nil_of_le (by rw [Hm.out]; exact Nat.le_refl _)]; exact rfl
      go_wp2
      exact bodyPost_ret (v := .bool true) (by simp [results, Try.results37, go_sem]) rfl ⟨⟨by rw [HS3.out], hB⟩⟩
theorem Grid.fresh (w : World) : Grid w.heap.size (w.heap.size + 1) w.heap.size (fun _ => False) ((w.alloc (.map #[] 0)).alloc (.cells #[.slice none 0 0, .map (some w.heap.size), .slice none 0 0] 66)) [] 0 ⟨.slice none 0 0, .slice none 0 0, fun _ _ => .slice none 0 0, fun _ => List.replicate 4 (.bool false), fun _ _ => [], []⟩ := by
  have hM := GMap.new w
  refine ⟨Blk.new1 w _ [.slice none 0 0, .map (some w.heap.size), .slice none 0 0] _, hM.same ?_, Gr.nil _ _ _ _ _, World.ownsRow_nil _ _ _ _, fun _ _ => World.ownsRow_nil _ _ _ _, fun _ _ => Nat.le_refl _, (fun _ _ _ h => nomatch h), fun _ h => absurd h (Nat.not_lt_zero _), ⟨by omega, Nat.le_refl _, by omega, by simp; omega⟩, (fun _ h => h.elim), .inl rfl, fun _ _ => .inl rfl, fun _ _ _ _ _ => .inl rfl, (fun _ h => nomatch h), (fun _ h => nomatch h), (fun _ _ _ h => nomatch h)⟩
  exact (bel_alloc (Bel.refl (w.alloc (.map #[] 0))) _).out.block _ hM.lt
set_option maxRecDepth 100000 in
set_option maxHeartbeats 2000000 in
theorem spaced_any (a : Option Addr) (n c : Nat) (l : List LblD) (bs : List Nat) (ai : Option Addr) (ni ci : Nat) (ids : List Int) (bi : List Nat) (w : World) (hT : LblL w a l bs) (hn : l.length = n) (hm : n ≤ 1048576) (hI : Ints w ai ids bi) (hni : ids.length = ni) (hmi : ni ≤ 1048576) :
    Calls Try.prog 13 #[.slice a n c, .slice ai ni ci] w fun e w' => e = .returned (.bool (spQ l ids)) ∧ Bel w w' := by
  have hmm := @run_makeMap Try.prog
  go_enter Try.func13, Try.ntmps13
  go_wp2_with fail
  refine (chosen_any _ _ _ l bs _ _ _ ids bi _ hT hn hm hI hni hmi).mono ?_
  rintro e w1 ⟨⟨hP, va, vc, cs, rfl, hS⟩ | ⟨hP, rfl⟩, hb1⟩
  · have HQ : Hid (spQ l ids = spTo [] (chQ l ids)) := by unfold spQ; rw [bP_true hP]; exact rfl
    have HK : Hid (∀ d ∈ chQ l ids, lblK d = true) := fun d hd => lblsP_mem hP (chQ_mem hd)
    have hl5 : (chQ l ids).length ≤ 500 := Nat.le_trans (chQ_len _ _) hP.1
    obtain ⟨W, HW⟩ : ∃ W, Hid (W = (w1.alloc (.map #[] 0)).alloc (.cells #[.slice none 0 0, .map (some w1.heap.size), .slice none 0 0] 66)) := ⟨_, (rfl : (w1.alloc (.map #[] 0)).alloc (.cells #[.slice none 0 0, .map (some w1.heap.size), .slice none 0 0] 66) = _)⟩
    have hG := Grid.fresh w1
    rw [← HW.out] at hG
    have hbW : Bel w1 W := by rw [HW.out]; exact bel_alloc (bel_alloc (Bel.refl _) _) _
    have hSW := hS.bel lblE hbW
    have hlt := hS.lt lblE
    clear hT hI hP hS
    go_wp2_with fail
    rw [← HW.out]
    refine (allL_any w1.heap.size (w1.heap.size + 1) w1.heap.size _ _ _ _ (chQ l ids) cs W hG hSW rfl hl5 hlt HK.out).mono ?_
    rintro e w2 ho
    obtain ⟨rfl, hB2⟩ := ho.out
    have hle := hb1.out.size
    have hBB : Bel w w2 := hb1.out.trans ((hbW.out.mono hle).trans (hB2.mono hle))
    rw [← HQ.out]
    go_wp2
    go_ret
    exact ⟨ret_bl rfl, hBB⟩
  · have HQ : Hid (spQ l ids = false) := by unfold spQ; rw [bP_false hP]; exact rfl
    clear hT hI
    go_wp2
    go_ret
    exact ⟨ret_bl HQ.out.symm, bel_alloc (bel_alloc hb1 _) _⟩
end Go.Proofs.Ytpbpnkklnbmkeaa
