/-
  Turns back at a place, put and taken back at dead ends, in the program: contract of forbidBack.
-/
import Derived.Test.YtiagdabikbjbiaaPbkI
namespace Go.Proofs.Ytiagdabikbjbiaa
open Go.RowKit Go.Maps Go.WideElems

/-- One ban less. -/
def delB (l : List BanD) (d : BanD) : List BanD := l.filter fun y => !(decide (y.fr = d.fr) && decide (y.to = d.to))
theorem delB_mem {l : List BanD} {d y : BanD} : y ∈ delB l d ↔ y ∈ l ∧ y ≠ d := by
  unfold delB
  rw [List.mem_filter]
  constructor
  · rintro ⟨h, hd⟩
    refine ⟨h, fun e => ?_⟩
    subst e; simp at hd
  · rintro ⟨h, hd⟩
    refine ⟨h, ?_⟩
    by_cases e : y.fr = d.fr ∧ y.to = d.to
    · exact absurd (ban_ext e.1 e.2) hd
    · by_cases e1 : y.fr = d.fr
      · have e2 : y.to ≠ d.to := fun h => e ⟨e1, h⟩
        simp [e2]
      · simp [e1]
theorem delB_out : ∀ {l : List BanD} {d : BanD}, d ∉ l → delB l d = l := fun {l d} h => by
  unfold delB
  rw [List.filter_eq_self]
  intro y hy
  by_cases e : y.fr = d.fr ∧ y.to = d.to
  · exact absurd (ban_ext e.1 e.2 ▸ hy) h
  · by_cases e1 : y.fr = d.fr
    · have e2 : y.to ≠ d.to := fun h => e ⟨e1, h⟩
      simp [e2]
    · simp [e1]
theorem delB_len : ∀ {l : List BanD} {d : BanD}, l.Nodup → d ∈ l → (delB l d).length + 1 = l.length
  | [], _, _, h => nomatch h
  | x :: r, d, hn, h => by
    rw [List.nodup_cons] at hn
    by_cases e : x = d
    · subst e
      have h1 : delB (x :: r) x = delB r x := by unfold delB; rw [List.filter_cons_of_neg (by simp)]
      rw [h1, delB_out hn.1, List.length_cons]
    · have h1 : delB (x :: r) d = x :: delB r d := by
        have hx : x ∈ delB (x :: r) d := delB_mem.2 ⟨by simp, e⟩
        unfold delB at hx ⊢
        exact List.filter_cons_of_pos (List.mem_filter.1 hx).2
      have h2 : d ∈ r := by rcases List.mem_cons.1 h with h | h; exact absurd h.symm e; exact h
      rw [h1, List.length_cons, List.length_cons, ← delB_len hn.2 h2]
theorem delB_srt {l : List BanD} {d : BanD} (h : SrtB l) : SrtB (delB l d) := by
  have hp : l.Pairwise banLt := List.pairwise_iff_getElem.2 fun i j hi hj hij => h i j hi hj hij
  have := hp.sublist (List.filter_sublist (p := fun y : BanD => !(decide (y.fr = d.fr) && decide (y.to = d.to))))
  exact fun i j hi hj hij => List.pairwise_iff_getElem.1 this i j hi hj hij
theorem BX.del {w : World} {b : Nat} {l : List BanD} (h : BX w b l) {d : BanD} (hf : In64 d.fr) (ht : In64 d.to) (ty : TypeId) :
    ∃ w', (Builtin.delete_ #[57, 75] ty #[.map (some b), .agg #[.int .i64 d.fr, .int .i64 d.to]]).run Try.prog w = .ok (.tuple #[]) w' ∧ BX w' b (delB l d) ∧ w.grownBy w' (some b) := by
  obtain ⟨D, h1, h2, h3, h4, h5⟩ := h
  obtain ⟨w', hrun, ho, hg⟩ := h1.drop lawB Try.underlying57 (keyB hf ht) ty
  have hz := size_del (k := bnL d.fr d.to) (h1.tidy lawB)
  rw [h3 _ _ hf ht] at hz
  have hsz : Maps.size (D.del (bnL d.fr d.to)) = (delB l d).length := by
    by_cases hin : d ∈ l
    · rw [bP_true (inL_iff.2 hin)] at hz
      have := delB_len (nodup_of_srt h4) hin
      simp at hz
      omega
    · rw [bP_false (fun hh => hin (inL_iff.1 hh))] at hz
      rw [delB_out hin]
      simp at hz
      omega
  have ho' := own_exact ho
  refine ⟨w', hrun, ⟨_, ?_, hsz, fun f' t' hf' ht' => ?_, delB_srt h4, fun y hy => h5 y (delB_mem.1 hy).1⟩, hg.grown⟩
  · rw [← hsz]; exact ho'
  · by_cases e : f' = d.fr ∧ t' = d.to
    · obtain ⟨rfl, rfl⟩ := e
      rw [has_del_same, bP_false (fun hh => (delB_mem.1 (inL_iff.1 hh)).2 rfl)]
    · rw [has_del_other (bnL_ne hf' ht' hf ht e), h3 f' t' hf' ht']
      have e' : (⟨f', t'⟩ : BanD) ≠ d := fun h => e (by rw [← h]; exact ⟨rfl, rfl⟩)
      by_cases hs : inL l f' t'
      · rw [bP_true hs, bP_true (inL_iff.2 (delB_mem.2 ⟨inL_iff.1 hs, e'⟩))]
      · rw [bP_false hs, bP_false (fun h => hs (inL_iff.2 (delB_mem.1 (inL_iff.1 h)).1))]
theorem delF_step {x : Nat} {row : List Nat} {j : Nat} (hj : j < row.length) {L : List BanD} (h : SrtB L) : delF x (row.take (j + 1)) L = delB (delF x (row.take j) L) ⟨x, row[j]⟩ :=
  srt_eq _ _ (delF_srt h) (delB_srt (delF_srt h)) fun y => by
    rw [delB_mem, delF_mem, delF_mem, List.take_succ_eq_append_getElem hj]
    constructor
    · rintro ⟨h1, h2⟩
      exact ⟨⟨h1, fun ⟨e, k, hk, ek⟩ => h2 ⟨e, k, List.mem_append.2 (.inl hk), ek⟩⟩, fun e => h2 ⟨by rw [e], row[j], List.mem_append.2 (.inr (List.mem_singleton.2 rfl)), by rw [e]⟩⟩
    · rintro ⟨⟨h1, h2⟩, h3⟩
      refine ⟨h1, fun ⟨e, k, hk, ek⟩ => ?_⟩
      rcases List.mem_append.1 hk with hk | hk
      · exact h2 ⟨e, k, hk, ek⟩
      · obtain rfl : k = row[j] := by simpa using hk
        exact h3 (ban_ext e ek)
theorem delF_nil (x : Nat) (L : List BanD) : delF x [] L = L := by unfold delF; simp

set_option maxRecDepth 100000 in
set_option maxHeartbeats 4000000 in
theorem forbidBack_any (lo Bb Be M : Nat) (V : Bool → Nat → Value) (a0 : Option Addr) (n0 c0 : Nat) (a1 : Option Addr) (n1 c1 : Nat) (a2 : Option Addr) (k2 c2 : Nat) (rs : List RoadD) (L0 : List BanD) (b1 : List Nat) (p : Nat) (w : World) (hT : Tabs lo w (fun t => cond t Bb Be) n0 V (bgF rs n1)) (hS : BX w M L0) (h0 : L0.length ≤ 2001) (t1 : RoadL w a1 rs b1) (e1 : rs.length = n1) (hm0 : n0 ≤ 5000) (hm : n1 ≤ 8000) (hM : M < lo) (hneB : Bb ≠ M) (hneE : Be ≠ M) (hMb : M ∉ b1) (hp : p < n0) :
    Calls Try.prog 45 #[.agg #[.slice a0 n0 c0, .slice a1 n1 c1, .slice a2 k2 c2, .slice (some ⟨Bb, 0, none⟩) n0 n0, .slice (some ⟨Be, 0, none⟩) n0 n0, .map (some M)], .int .i64 p] w
      fun e w' => e = .returned (.tuple #[]) ∧ BX w' M (plF rs (bgF rs n1 true p) (bgF rs n1 false p) L0) ∧ w.grownBy w' (some M) := by
  have HE1 : Hid (rs.length = n1) := e1
  obtain ⟨bg, Hbg⟩ : ∃ l, Hid (l = bgF rs n1 true p) := ⟨_, (rfl : bgF rs n1 true p = _)⟩
  obtain ⟨en, Hen⟩ : ∃ l, Hid (l = bgF rs n1 false p) := ⟨_, (rfl : bgF rs n1 false p = _)⟩
  have hbm : bg.length ≤ 8000 := by rw [Hbg.out]; exact Nat.le_trans (bgF_len _ _ _ _) hm
  have hem : en.length ≤ 8000 := by rw [Hen.out]; exact Nat.le_trans (bgF_len _ _ _ _) hm
  have HBI : Hid (∀ i ∈ bg, i < n1) := (by rw [Hbg.out]; exact fun i hi => bgF_mem hi : ∀ i ∈ bg, i < n1)
  have HEI : Hid (∀ i ∈ en, i < n1 ∧ ∀ h : i < rs.length, rs[i].to = (p : Int)) := (by rw [Hen.out]; exact fun i hi => ⟨bgF_mem hi, fun h => (bgF_end e1 hi).2⟩ : ∀ i ∈ en, i < n1 ∧ ∀ h : i < rs.length, rs[i].to = (p : Int))
  obtain ⟨mb, Hmb⟩ : ∃ m, Hid (bg.length = m) := ⟨_, (rfl : bg.length = _)⟩
  obtain ⟨me, Hme⟩ : ∃ m, Hid (en.length = m) := ⟨_, (rfl : en.length = _)⟩
  have hbc := hT.cell true p hp
  have hbo := hT.rows true p hp
  have hMr := hT.row_ne (t := true) hp M hM
  have hec := hT.cell false p hp
  have heo := hT.rows false p hp
  have hMe := hT.row_ne (t := false) hp M hM
  rw [← Hbg.out, Hmb.out] at hbo
  rw [← Hen.out, Hme.out] at heo
  rw [← Hbg.out, ← Hen.out]
  obtain ⟨va, vc, hv⟩ := own_shape hbo
  obtain ⟨ua, uc, hu⟩ := own_shape heo
  rw [hv] at hbc hbo hMr
  rw [hu] at hec heo hMe
  have hbc : w.cell? ⟨Bb, p, none⟩ = some (.slice va mb vc) := hbc
  have hec : w.cell? ⟨Be, p, none⟩ = some (.slice ua me uc) := hec
  rw [Hmb.out] at hbm
  rw [Hme.out] at hem
  have hsz := hT.sz
  have hBb : Bb < lo := hT.lt true
  have hBe : Be < lo := hT.lt false
  have hMlt : M < w.heap.size := by omega
  have hne1 : w.heap.size ≠ M := by omega
  have hpI : (p : Int) < (n0 : Int) := by omega
  obtain ⟨W, HW⟩ : ∃ W, Hid (W = w.alloc (.cells #[.slice a0 n0 c0, .slice a1 n1 c1, .slice a2 k2 c2, .slice (some ⟨Bb, 0, none⟩) n0 n0, .slice (some ⟨Be, 0, none⟩) n0 n0, .map (some M)] 59)) := ⟨_, (rfl : w.alloc (.cells #[.slice a0 n0 c0, .slice a1 n1 c1, .slice a2 k2 c2, .slice (some ⟨Bb, 0, none⟩) n0 n0, .slice (some ⟨Be, 0, none⟩) n0 n0, .map (some M)] 59) = _)⟩
  have hBW : Bel w W := by rw [HW.out]; exact bel_alloc (Bel.refl _) _
  have XN : Blk W w.heap.size [.slice a0 n0 c0, .slice a1 n1 c1, .slice a2 k2 c2, .slice (some ⟨Bb, 0, none⟩) n0 n0, .slice (some ⟨Be, 0, none⟩) n0 n0, .map (some M)] := by rw [HW.out]; exact Blk.new w [.slice a0 n0 c0, .slice a1 n1 c1, .slice a2 k2 c2, .slice (some ⟨Bb, 0, none⟩) n0 n0, .slice (some ⟨Be, 0, none⟩) n0 n0, .map (some M)] _
  have hGW : w.grownBy W (some M) := grown_of_bel hBW _
  have hTW := hT.bel hBW
  have HTW : Hid (Tabs lo W (fun t => cond t Bb Be) n0 V (bgF rs n1)) := hTW
  have t1W := t1.bel roadE hBW
  have hSW := hS.bel hBW
  have hboW := hbo.kept (bel_none hBW) (Classical.em _)
  have heoW := heo.kept (bel_none hBW) (Classical.em _)
  have x4 : W.cell? ⟨w.heap.size, 4, none⟩ = some (.slice (some ⟨Be, 0, none⟩) n0 n0) := XN.cell 4 (by simp)
  have xl := XN.lt
  have hecW := bel_cellM hBW (by omega) hec
  clear hT hTW hS t1 hbo heo hv hu e1
  go_enter Try.func45, Try.ntmps45
  go_upto_region 1 with fail
  rw [← HW.out]
  go_wp2_with fail
  clear x4 xl hec hecW
  go_loopw [5, 7, 14] (fun _ _ i wr => ∃ (j : Nat) (L : List BanD), j ≤ me ∧ i = .int .i64 j ∧ Hid (BX wr M L) ∧ Hid (L.length ≤ 2001) ∧ Hid (plF rs bg en L0 = plF rs bg (en.drop j) L) ∧ Hid (W.grownBy wr (some M))) (fun _ _ i _ => me - (intOf i).toNat)
  case atStart => exact ⟨0, L0, Nat.zero_le _, rfl, hSW, h0, (rfl : plF rs bg en L0 = plF rs bg en L0), World.grownBy.refl _ _⟩
  case round =>
    obtain ⟨j, L, hj, rfl, HS, HL, HP, Hgr⟩ := hrel
    have Xr := XN.grown Hgr.out hne1
    by_cases hlt : j < me
    · have hjl : j < en.length := by rw [Hme.out]; exact hlt
      obtain ⟨_, _, hvs⟩ := own_some heoW (by omega)
      obtain ⟨ge, rfl⟩ : ∃ gb, ua = some ⟨gb, 0, none⟩ := by injection hvs with hva _ _; exact ⟨_, hva⟩
      clear hvs
      have hor := heoW.kept Hgr.out (.inr (fun e => hMe e.symm))
      have hgb := (hor.lt ge rfl).2
      have hck : wr.cell? ⟨ge, j, none⟩ = some (.int .i64 (en[j] : Int)) := by
        rw [hor.cellAt j (by omega)]
        unfold intsN
        rw [List.getElem?_map, List.getElem?_eq_getElem hjl]; rfl
      obtain ⟨x, Hx⟩ : ∃ x, Hid (x = en[j]) := ⟨_, (rfl : en[j] = _)⟩
      have hxn := HEI.out _ (List.getElem_mem hjl)
      rw [← Hx.out] at hck hxn
      have hjI : (j : Int) < (me : Int) := by omega
      have hMb' : M ≠ cond true Bb Be := fun e => hneB e.symm
      have hMe' : M ≠ cond false Bb Be := fun e => hneE e.symm
      have cP := putBack_any lo Bb Be M V a0 n0 c0 a1 n1 c1 a2 k2 c2 rs L b1 x p wr (HTW.out.kept Hgr.out hM hMb' hMe') HS.out HL.out (t1W.grown roadE Hgr.out hMb) HE1.out hm0 hm hM hneB hMb hxn.1 hp hxn.2
      rw [← Hbg.out] at cP
      have HD : Hid (plF rs bg (en.drop j) L = if goes rs x bg then plF rs bg (en.drop (j + 1)) (bkL rs x L bg) else delF x bg (bkL rs x L bg)) := show plF rs bg (en.drop j) L = _ by
        rw [List.drop_eq_getElem_cons hjl, ← Hx.out]; rfl
      have c0 : wr.cell? ⟨w.heap.size, 0, none⟩ = some (.slice a0 n0 c0) := Xr.cell 0 (by simp)
      have c1 : wr.cell? ⟨w.heap.size, 1, none⟩ = some (.slice a1 n1 c1) := Xr.cell 1 (by simp)
      have c2 : wr.cell? ⟨w.heap.size, 2, none⟩ = some (.slice a2 k2 c2) := Xr.cell 2 (by simp)
      have c3 : wr.cell? ⟨w.heap.size, 3, none⟩ = some (.slice (some ⟨Bb, 0, none⟩) n0 n0) := Xr.cell 3 (by simp)
      have c4 : wr.cell? ⟨w.heap.size, 4, none⟩ = some (.slice (some ⟨Be, 0, none⟩) n0 n0) := Xr.cell 4 (by simp)
      have c5 : wr.cell? ⟨w.heap.size, 5, none⟩ = some (.map (some M)) := Xr.cell 5 (by simp)
      have cl := Xr.lt
      have HL' : Hid ((bkL rs x L bg).length ≤ 2001) := bkL_len HL.out
      obtain ⟨gg, Hgg⟩ : ∃ b, Hid (goes rs x bg = b) := ⟨_, (rfl : goes rs x bg = _)⟩
      rw [Hgg.out] at cP
      clear hor
      go_wp2_with fail
      refine cP.mono ?_
      rintro e w2 ⟨rfl, hS2, hg2⟩
      have HS2 : Hid (BX w2 M (bkL rs x L bg)) := hS2
      have Hgr2 : Hid (W.grownBy w2 (some M)) := Hgr.out.trans hg2
      clear hS2 cP c0 c1 c2 c3 c4 c5 cl hck
      cases gg with
      | true =>
        have HQ : Hid (plF rs bg en L0 = plF rs bg (en.drop (j + 1)) (bkL rs x L bg)) := show plF rs bg en L0 = _ by rw [HP.out, HD.out, if_pos Hgg.out]
        go_wp2_with fail
        go_roundw
        case rel => exact ⟨j + 1, _, by omega, by go_num, HS2, HL', HQ, Hgr2⟩
        case measure => simp [intOf]; omega
      | false =>
        have HQ : Hid (plF rs bg en L0 = delF x bg (bkL rs x L bg)) := show plF rs bg en L0 = _ by rw [HP.out, HD.out, if_neg (by rw [Hgg.out]; decide)]
        have Xr2 := XN.grown Hgr2.out hne1
        have c3 : w2.cell? ⟨w.heap.size, 3, none⟩ = some (.slice (some ⟨Bb, 0, none⟩) n0 n0) := Xr2.cell 3 (by simp)
        have cl := Xr2.lt
        have hbc2 : w2.cell? ⟨Bb, p, none⟩ = some (.slice va mb vc) := (World.cell?_of_block (a := ⟨Bb, p, none⟩) (Hgr2.out.block Bb (by have := hBW.out.size; omega) (fun e => hneB (by injection e)))).trans (bel_cellM hBW (by omega) hbc)
        have hbl2 : Bb < w2.heap.size := by have := hBW.out.size; have := Hgr2.out.size; omega
        obtain ⟨L', HLL⟩ : ∃ l, Hid (l = bkL rs x L bg) := ⟨_, (rfl : bkL rs x L bg = _)⟩
        rw [← HLL.out] at HS2 HL' HQ
        have HSrt : Hid (SrtB L') := (by obtain ⟨_, _, _, _, h, _⟩ := HS2.out; exact h : SrtB L')
        go_wp2_with fail
        clear c3 cl hbc2 hbl2
        go_loopw [7, 27] (fun _ i wr => ∃ t : Nat, t ≤ mb ∧ i = .int .i64 t ∧ Hid (BX wr M (delF x (bg.take t) L')) ∧ Hid (W.grownBy wr (some M))) (fun _ i _ => mb - (intOf i).toNat)
        case atStart => exact ⟨0, Nat.zero_le _, rfl, by rw [List.take_zero, delF_nil]; exact HS2, Hgr2⟩
        case round =>
          obtain ⟨t, ht, rfl, HSt, Hgt⟩ := hrel
          by_cases hlt2 : t < mb
          · have htl : t < bg.length := by rw [Hmb.out]; exact hlt2
            obtain ⟨_, _, hvs⟩ := own_some hboW (by omega)
            obtain ⟨gb, rfl⟩ : ∃ gb, va = some ⟨gb, 0, none⟩ := by injection hvs with hva _ _; exact ⟨_, hva⟩
            clear hvs
            have hor := hboW.kept Hgt.out (.inr (fun e => hMr e.symm))
            have hgb := (hor.lt gb rfl).2
            have hck : wr.cell? ⟨gb, t, none⟩ = some (.int .i64 (bg[t] : Int)) := by
              rw [hor.cellAt t (by omega)]
              unfold intsN
              rw [List.getElem?_map, List.getElem?_eq_getElem htl]; rfl
            obtain ⟨k, Hk⟩ : ∃ k, Hid (k = bg[t]) := ⟨_, (rfl : bg[t] = _)⟩
            have hkn := HBI.out _ (List.getElem_mem htl)
            rw [← Hk.out] at hck hkn
            have htI : (t : Int) < (mb : Int) := by omega
            have Xt := XN.grown Hgt.out hne1
            have c5 : wr.cell? ⟨w.heap.size, 5, none⟩ = some (.map (some M)) := Xt.cell 5 (by simp)
            have cl := Xt.lt
            have hin : In64 (x : Int) ∧ In64 (k : Int) := by have := hxn.1; unfold In64; omega
            obtain ⟨w3, hrun, hS3, hg3⟩ := HSt.out.del (d := ⟨x, k⟩) hin.1 hin.2 0
            have HS3 : Hid (BX w3 M (delF x (bg.take (t + 1)) L')) := by rw [delF_step htl HSrt.out, ← Hk.out]; exact hS3
            have Hg3 : Hid (W.grownBy w3 (some M)) := Hgt.out.trans hg3
            clear hor hS3 hg3 hin
            go_wp2_with fail
            go_roundw
            case rel => exact ⟨t + 1, by omega, by go_num, HS3, Hg3⟩
            case measure => simp [intOf]; omega
          · obtain rfl : t = mb := by omega
            have HT2 : Hid (bg.take t = bg) := List.take_of_length_le (by rw [Hmb.out]; exact Nat.le_refl _)
            rw [HT2.out] at HSt
            go_wp2_with fail
            ((try simp only [Exit.inBlock, Exit.then]); refine bodyPost_ret (results_none rfl _ _ _) rfl ?_)
            exact ⟨rfl, by rw [HQ.out]; exact HSt.out, hGW.trans Hgt.out⟩
    · obtain rfl : j = me := by omega
      have HQ : Hid (plF rs bg en L0 = L) := show plF rs bg en L0 = L by rw [HP.out, List.drop_eq_nil_of_le (by rw [Hme.out]; exact Nat.le_refl _)]; rfl
      go_wp2_with fail
      go_end0
      exact ⟨rfl, by rw [HQ.out]; exact HS.out, hGW.trans Hgr.out⟩
end Go.Proofs.Ytiagdabikbjbiaa
