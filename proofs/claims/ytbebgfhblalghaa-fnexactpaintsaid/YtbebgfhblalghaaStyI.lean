/-
  Rules made ready to be asked, in the program: contracts.
-/
import Derived.Test.YtbebgfhblalghaaStyC
import Derived.Test.YtbebgfhblalghaaRowH
import Derived.Deep.AppendLies
namespace Go.Proofs.Ytbebgfhblalghaa
open Go.RowKit Go.Maps

def TestP (d : TestD) : Prop := d.k.size ≤ maxLen ∧ In64 d.op ∧ d.v.size ≤ maxLen
/-- The cells of a test. -/
def testCs (d : TestD) : List Value := [.string d.k, .int .i64 d.op, .string d.v]
theorem testE_blk {w : World} {B : Nat} {d : TestD} (hp : TestP d) (h : Blk w B (testCs d)) : TestE w B 0 d [] :=
  ⟨rfl, hp.1, hp.2.1, hp.2.2, h.cell 0 (by simp [testCs]), h.cell 1 (by simp [testCs]), h.cell 2 (by simp [testCs])⟩
theorem testE_bel {w w' : World} {B : Nat} {d : TestD} (h : TestE w B 0 d []) (hB : B < w.heap.size) (hb : Bel w w') : TestE w' B 0 d [] :=
  testE.alike h (fun j _ => hb.out.cell (p := ⟨B, 0 + j, none⟩) hB) (fun _ hx => nomatch hx)
def ChkE : Elem TestD := fun w b o d bs => ∃ B, bs = [B] ∧ w.cell? ⟨b, o, none⟩ = some (chkV B d.op) ∧ B < w.heap.size ∧ TestE w B 0 d []
theorem chkE : Stays 1 ChkE := ⟨fun ⟨B, e, h1, h2, h3⟩ hc hA => by
    subst e
    have hB := hA B (by simp)
    exact ⟨B, rfl, same_cell hc 0 (by decide) h1, hB.1, testE.alike h3 (fun j _ => hB.2.1 _) (fun _ hx => nomatch hx)⟩,
  fun ⟨B, e, _, h2, _⟩ x hx => by subst e; simp at hx; subst hx; exact h2⟩
def ChkW : VElem TestD := fun w vs d bs => ∃ B, bs = [B] ∧ vs = [chkV B d.op] ∧ B < w.heap.size ∧ TestE w B 0 d []
theorem chkV_fn (B : Nat) (op : Int) : ∃ fn caps, chkV B op = .func (.func fn) #[] caps := by
  unfold chkV
  split
  · exact ⟨_, _, rfl⟩
  · split
    · exact ⟨_, _, rfl⟩
    · split
      · exact ⟨_, _, rfl⟩
      · split <;> exact ⟨_, _, rfl⟩
theorem chkW : VStays 1 ChkE ChkW :=
  ⟨fun ⟨B, _, e, _, _⟩ => by rw [e]; rfl, fun {_ _ d _} ⟨B, _, e, _, _⟩ u hu => by
      subst e
      obtain ⟨fn, caps, h⟩ := chkV_fn B d.op
      rw [h] at hu
      simp only [List.mem_singleton] at hu
      subst hu
      rfl,
    fun ⟨B, e, e2, h2, h3⟩ hA => by
      subst e
      have hB := hA B (by simp)
      exact ⟨B, rfl, e2, hB.1, testE.alike h3 (fun j _ => hB.2.1 _) (fun _ hx => nomatch hx)⟩,
    fun ⟨B, e, _, h2, _⟩ x hx => by subst e; simp at hx; subst hx; exact h2,
    fun ⟨B, e, e2, h2, h3⟩ hc => by subst e2; exact ⟨B, e, hc 0 (by simp), h2, h3⟩⟩

set_option maxHeartbeats 1000000 in
theorem checkOf_any (d : TestD) (w : World) (hp : TestP d) :
    Calls Try.prog 169 #[.agg #[.string d.k, .int .i64 d.op, .string d.v]] w fun e w' => ∃ B fn caps, e = .returned (.func (.func fn) #[] caps) ∧ chkV B d.op = .func (.func fn) #[] caps ∧ Fresh w w' [B] ∧ TestE w' B 0 d [] ∧ Bel w w' := by
  have hX := testE_blk hp (Blk.new w (testCs d) 155)
  have HW : Hid (∀ fn caps, chkV w.heap.size d.op = .func (.func fn) #[] caps → ∃ B fn' caps', Ending.returned (.func (.func fn) #[] caps) = .returned (.func (.func fn') #[] caps') ∧ chkV B d.op = .func (.func fn') #[] caps' ∧ Fresh w (w.alloc (.cells #[.string d.k, .int .i64 d.op, .string d.v] 155)) [B] ∧ TestE (w.alloc (.cells #[.string d.k, .int .i64 d.op, .string d.v] 155)) B 0 d [] ∧ Bel w (w.alloc (.cells #[.string d.k, .int .i64 d.op, .string d.v] 155))) :=
    fun fn caps h => ⟨w.heap.size, fn, caps, rfl, h, ⟨by simp, fun b hb => by simp at hb; subst hb; simp, fun b hb j => by simp at hb; subst hb; simp⟩, hX, bel_alloc (Bel.refl _) _⟩
  clear hX
  by_cases h1 : d.op = 1
  · have HV : Hid (chkV w.heap.size d.op = .func (.func 208) #[] #[.pointer (some ⟨w.heap.size, 0, none⟩)]) := (by simp [chkV, h1] : _ = _)
    go_enter Try.func169, Try.ntmps169
    go_wp2
    go_ret
    have := HW.out _ _ HV.out
    simpa [h1] using this
  · by_cases h2 : d.op = 2
    · have HV : Hid (chkV w.heap.size d.op = .func (.func 210) #[] #[.pointer (some ⟨w.heap.size, 0, none⟩)]) := (by simp [chkV, h2] : _ = _)
      go_enter Try.func169, Try.ntmps169
      go_wp2
      go_ret
      have := HW.out _ _ HV.out
      simpa [h2] using this
    · by_cases h3 : d.op = 3
      · have HV : Hid (chkV w.heap.size d.op = .func (.func 211) #[] #[.pointer (some ⟨w.heap.size, 0, none⟩)]) := (by simp [chkV, h3] : _ = _)
        go_enter Try.func169, Try.ntmps169
        go_wp2
        go_ret
        have := HW.out _ _ HV.out
        simpa [h3] using this
      · by_cases h4 : d.op = 4
        · have HV : Hid (chkV w.heap.size d.op = .func (.func 213) #[] #[.pointer (some ⟨w.heap.size, 0, none⟩)]) := (by simp [chkV, h4] : _ = _)
          go_enter Try.func169, Try.ntmps169
          go_wp2
          go_ret
          have := HW.out _ _ HV.out
          simpa [h4] using this
        · have HV : Hid (chkV w.heap.size d.op = .func (.func 214) #[] #[]) := (by simp [chkV, h1, h2, h3, h4] : _ = _)
          go_enter Try.func169, Try.ntmps169
          go_wp2
          go_ret
          exact HW.out _ _ HV.out

theorem infoCk : (Try.prog.info? 243).map (fun i => (i.zero, i.size, i.bytes)) = some (some .nilFunc, 1, 8) := by kernel_rfl
set_option maxRecDepth 100000 in
set_option maxHeartbeats 2000000 in
theorem eachK_any (a : Option Addr) (n c : Nat) (l : List TestD) (bs : List Nat) (w : World) (hT : Tests w a l bs) (hn : l.length = n) (hm : n ≤ 1048576) :
    Calls Try.prog 168 #[.slice a n c, .func (.func 169) #[] #[]] w fun e w' => ∃ a' c' bs', e = .returned (.slice a' n c') ∧ Sl 1 ChkE w' a' l bs' ∧ Fresh w w' bs' ∧ Bel w w' := by
  obtain ⟨i0, hi0, hz0, hz1, hz2⟩ := info_parts infoCk
  have Hn : Hid (l.length = n) := hn
  have HK : Hid (∀ k, k ≤ n → (l.take k).length = k) := fun k hk => by rw [List.length_take, Hn.out]; omega
  clear hn
  go_enter Try.func168, Try.ntmps168
  go_wp2
  go_loopw [5, 10] (fun o i wr => ∃ (k : Nat) (R : Nat → List Value) (f : Nat → List Nat), k ≤ n ∧ i = .int .i64 k ∧ (∃ va vc, o = .slice va k vc) ∧ Gr 1 ChkW 243 w.heap.size wr o (l.take k) R f ∧ Bel w wr) (fun _ i _ => n - (intOf i).toNat)
  case atStart => exact ⟨0, _, _, Nat.zero_le _, rfl, ⟨_, _, rfl⟩, Gr.nil 1 ChkW 243 _ _, Bel.refl _⟩
  case round =>
    obtain ⟨k, R, f0, hk, rfl, ⟨va, vc, rfl⟩, hG, hBr⟩ := hrel
    have HG : Hid (Gr 1 ChkW 243 w.heap.size wr (.slice va k vc) (l.take k) R f0) := hG
    have HO : Hid (wr.ownsRow w.heap.size 243 1 (.slice va k vc) k (recs R k)) := by have := hG.own; rw [HK.out k hk] at this; exact this
    clear hG
    by_cases hlt : k < n
    · have hkl : k < l.length := by rw [Hn.out]; exact hlt
      obtain ⟨b, off, f, rfl, hb, hx⟩ := (hT.bel testE hBr).out hkl
      obtain ⟨_, s0, s1, s2, c0, c1, c2⟩ := hx k hkl
      have HE : Hid (l.take (k + 1) = l.take k ++ [l[k]]) := List.take_succ_eq_append_getElem hkl
      obtain ⟨d, Hd⟩ : ∃ d, Hid (l[k] = d) := ⟨_, (rfl : l[k] = _)⟩
      rw [Hd.out] at HE c0 c1 c2 s0 s1 s2
      have hlt' : (k : Int) < (n : Int) := by omega
      have hV1 := bel_alloc (Bel.refl wr) (.cells #[.string d.k, .int .i64 d.op, .string d.v] 155)
      clear hx
      go_wp2_with fail
      refine (checkOf_any d _ ⟨s0, s1, s2⟩).mono ?_
      rintro e w4 ⟨B, fn, caps, rfl, hcv, F4, T4, hb4⟩
      have h04 : Bel wr w4 := bel_step hV1 hb4
      have F04 : Fresh wr w4 [B] := F4.old hV1.out.size
      have HV : Hid (ChkW w4 [.func (.func fn) #[] caps] d [B]) := ⟨B, rfl, by rw [hcv], (F04.new B (by simp)).2, T4⟩
      have hown2 := World.ownsRow.alloc (own_bel HO.out h04) (.cells #[.func (.func fn) #[] caps] 243)
      have hBa := bel_alloc (bel_step hBr h04) (.cells #[.func (.func fn) #[] caps] 243)
      have hB4 := bel_step hBr h04
      clear T4 F4 hb4 c0 c1 c2 hV1 hcv
      go_wp2_with (first
        | (at_builtin; refine wpList_append_lies _ rfl _ _ 240 rfl w.heap.size 243 i0 .nilFunc 1 8 Try.underlying240 hi0 hz0 hz1 hz2 rfl (by decide) _ _ _ rfl hown2 ⟨w4.heap.size, 0, none⟩ 1 1 [.func (.func fn) #[] caps] rfl rfl ?c1 ?c2 (by decide) ?c3 ?c4 ?c5 (w4.heap.size + 1) ?c6 ?_)
        | go_in)
      case c1 =>
        intro j u hj
        match j, hj with
        | 0, hj => simp at hj; subst hj; simp [Addr.add]
      case c2 =>
        intro u hu
        simp at hu
        subst hu; rfl
      case c3 => unfold maxLen; omega
      case c4 => omega
      case c5 => have := hB4.out.size; simp; omega
      case c6 => simp
      intro g cap w5 hown' hgrow hat _
      have HG5 : Hid (∃ R' f', Gr 1 ChkW 243 w.heap.size w5 (.slice (some ⟨g, 0, none⟩) (k + 1) cap) (l.take (k + 1)) R' f') := by
        have hat' : (Value.slice va k vc).ownBlock = some g ∨ g = (w4.alloc (.cells #[.func (.func fn) #[] caps] 243)).heap.size := by simpa using hat
        have := Gr.add chkW HG.out h04 (bel_alloc (Bel.refl w4) (.cells #[.func (.func fn) #[] caps] 243)) HV.out F04 hBr.out.size (by rw [HK.out k hk]; exact hown') hgrow (hatF hat')
        rw [HE.out]
        exact ⟨_, _, this⟩
      have hB5 : Bel w w5 := bel_grow hBa hgrow (fun t e => (hown2.lt t e).1)
      clear hown' hgrow hown2 hBa HG HO HV hat HE
      go_wp2
      go_roundw
      case rel =>
        obtain ⟨R', f', G'⟩ := HG5.out
        exact ⟨k + 1, R', f', by omega, by go_num, ⟨_, _, rfl⟩, G', hB5⟩
      case measure => simp [intOf]; omega
    · have e : k = n := by omega
      subst e
      have HL : Hid (l.take k = l) := List.take_of_length_le (by rw [Hn.out]; exact Nat.le_refl _)
      go_wp2
      go_ret
      have G := HG.out
      rw [HL.out] at G
      obtain ⟨a', c', cs, e, S', M'⟩ := Gr.out chkW G
      rw [Hn.out] at e
      injection e with e1 e2 e3
      exact ⟨va, vc, cs, rfl, by rw [e1]; exact S', ⟨M'.nd, M'.new, M'.free⟩, hBr⟩

set_option maxHeartbeats 1000000 in
theorem callK_any (B : Nat) (d : TestD) (Bt : Nat) (a : Option Addr) (n c : Nat) (l : List TagD) (bs : List Nat) (w : World) (hB : B < w.heap.size) (hd : TestE w B 0 d []) (hc : w.cell? ⟨Bt, 0, none⟩ = some (.slice a n c)) (hT : Tags w a l bs) (hn : l.length = n) (hm : n ≤ 1048576) :
    Calls Try.prog 172 #[chkV B d.op, .pointer (some ⟨Bt, 0, none⟩)] w fun e w' => e = .returned (.bool (tstB l d)) ∧ Bel w w' := by
  by_cases h1 : d.op = 1
  · have HQ : Hid (tstB l d = ((tagOfL l d.k).toList == d.v.toList)) := (by simp [tstB, h1] : _ = _)
    rw [show chkV B d.op = .func (.func 208) #[] #[.pointer (some ⟨B, 0, none⟩)] by simp [chkV, h1], HQ.out]
    go_enter Try.func172, Try.ntmps172
    go_wp2_with fail
    refine (chk1_any B d _ _ _ l bs _ hB hd hT hn hm).mono ?_
    rintro e w1 ⟨rfl, hb1⟩
    go_wp2
    go_ret
    exact ⟨rfl, hb1⟩
  · by_cases h2 : d.op = 2
    · have HQ : Hid (tstB l d = (!((tagOfL l d.k).toList == d.v.toList))) := (by simp [tstB, h2] : _ = _)
      rw [show chkV B d.op = .func (.func 210) #[] #[.pointer (some ⟨B, 0, none⟩)] by simp [chkV, h2], HQ.out]
      go_enter Try.func172, Try.ntmps172
      go_wp2_with fail
      refine (chk2_any B d _ _ _ l bs _ hB hd hT hn hm).mono ?_
      rintro e w1 ⟨rfl, hb1⟩
      go_wp2
      go_ret
      exact ⟨rfl, hb1⟩
    · by_cases h3 : d.op = 3
      · have HQ : Hid (tstB l d = thrB l d.k) := (by simp [tstB, h3] : _ = _)
        rw [show chkV B d.op = .func (.func 211) #[] #[.pointer (some ⟨B, 0, none⟩)] by simp [chkV, h3], HQ.out]
        go_enter Try.func172, Try.ntmps172
        go_wp2_with fail
        refine (chk3_any B d _ _ _ l bs _ hd hT hn hm).mono ?_
        rintro e w1 ⟨rfl, hb1⟩
        go_wp2
        go_ret
        exact ⟨rfl, hb1⟩
      · by_cases h4 : d.op = 4
        · have HQ : Hid (tstB l d = (!(thrB l d.k))) := (by simp [tstB, h4] : _ = _)
          rw [show chkV B d.op = .func (.func 213) #[] #[.pointer (some ⟨B, 0, none⟩)] by simp [chkV, h4], HQ.out]
          go_enter Try.func172, Try.ntmps172
          go_wp2_with fail
          refine (chk4_any B d _ _ _ l bs _ hd hT hn hm).mono ?_
          rintro e w1 ⟨rfl, hb1⟩
          go_wp2
          go_ret
          exact ⟨rfl, hb1⟩
        · have HQ : Hid (tstB l d = false) := (by simp [tstB, h1, h2, h3, h4] : _ = _)
          rw [show chkV B d.op = .func (.func 214) #[] #[] by simp [chkV, h1, h2, h3, h4], HQ.out]
          go_enter Try.func172, Try.ntmps172
          go_wp2_with fail
          refine (chk5_any _ _ _ _).mono ?_
          rintro e w1 ⟨rfl, hb1⟩
          go_wp2
          go_ret
          exact ⟨rfl, hb1⟩

set_option maxRecDepth 100000 in
set_option maxHeartbeats 1000000 in
theorem allK_any (va : Option Addr) (m vc : Nat) (q : List TestD) (cs : List Nat) (Bt : Nat) (a : Option Addr) (n c : Nat) (l : List TagD) (bs : List Nat) (w : World) (hS : Sl 1 ChkE w va q cs) (hq : q.length = m) (hmq : m ≤ 1048576) (hBt : Bt < w.heap.size) (hc : w.cell? ⟨Bt, 0, none⟩ = some (.slice a n c)) (hT : Tags w a l bs) (hn : l.length = n) (hm : n ≤ 1048576) :
    Calls Try.prog 171 #[.slice va m vc, .func (.func 172) #[] #[.pointer (some ⟨Bt, 0, none⟩)]] w fun e w' => e = .returned (.bool (q.all (tstB l))) ∧ Bel w w' := by
  have Hq : Hid (q.length = m) := hq
  clear hq
  go_enter Try.func171, Try.ntmps171
  go_wp2
  go_loopw [9] (fun i wr => ∃ k : Nat, k ≤ m ∧ i = .int .i64 k ∧ (∀ j (h : j < q.length), j < k → tstB l q[j] = true) ∧ Bel w wr) (fun i _ => m - (intOf i).toNat)
  case atStart => exact ⟨0, Nat.zero_le _, rfl, fun j _ hj => absurd hj (Nat.not_lt_zero _), Bel.refl _⟩
  case round =>
    obtain ⟨k, hk, rfl, hall, hbel⟩ := hrel
    have H : Hid (∀ j (h : j < q.length), j < k → tstB l q[j] = true) := hall
    clear hall
    by_cases hlt : k < m
    · have hkl : k < q.length := by rw [Hq.out]; exact hlt
      obtain ⟨b, off, f, rfl, hb, hx⟩ := (hS.bel chkE hbel).out hkl
      obtain ⟨B, _, c0, hB, hd⟩ := hx k hkl
      simp only [Nat.mul_one] at c0
      have hcr := (hbel.out.cell (p := ⟨Bt, 0, none⟩) hBt).trans hc
      have hTr := hT.bel tagE hbel
      have hlt' : (k : Int) < (m : Int) := by omega
      obtain ⟨r, Hr⟩ : ∃ r, Hid (tstB l q[k] = r) := ⟨_, (rfl : tstB l q[k] = _)⟩
      have cC := callK_any B q[k] Bt a n c l bs wr hB hd hcr hTr hn hm
      rw [Hr.out] at cC
      obtain ⟨d, Hd⟩ : ∃ d, Hid (q[k] = d) := ⟨_, (rfl : q[k] = _)⟩
      rw [Hd.out] at cC c0
      obtain ⟨fn, caps, hfn⟩ := chkV_fn B d.op
      rw [hfn] at cC c0
      clear hx hS hd hcr hTr hfn
      go_wp2_with fail
      refine cC.mono ?_
      rintro e w1 ⟨rfl, hb1⟩
      have hB1 := bel_step hbel hb1
      cases r
      · have HF : Hid (false = q.all (tstB l)) := (List.all_eq_false.2 ⟨q[k], List.getElem_mem hkl, by rw [Hr.out]; decide⟩).symm
        go_wp2
        go_ret
        exact ⟨ret_bl HF.out, hB1⟩
      · go_wp2
        go_roundw
        case rel => exact ⟨k + 1, by omega, by go_num, fun j h hj => by
                        (by_cases e : j = k)
                        · subst e; exact Hr.out
                        · exact H.out j h (by omega), hB1⟩
        case measure => simp [intOf]; omega
    · have HT : Hid (true = q.all (tstB l)) := (List.all_eq_true.2 fun d hd => by
        obtain ⟨i, hi, rfl⟩ := List.mem_iff_getElem.1 hd
        exact H.out i hi (by rw [Hq.out] at hi; omega)).symm
      go_wp2
      go_ret
      exact ⟨ret_bl HT.out, hbel⟩
end Go.Proofs.Ytbebgfhblalghaa
