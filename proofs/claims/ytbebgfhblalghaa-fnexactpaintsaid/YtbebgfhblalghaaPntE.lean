/-
  Which rule paints: plain mathematics; the rules of a style made ready, in the program: contracts.
-/
import Derived.Test.YtbebgfhblalghaaBwdK
namespace Go.Proofs.Ytbebgfhblalghaa
open Go.RowKit Go.Maps

/-- Of the first k rules: which one paints. -/
def pntI (rs : List RuleD) (ts : List TagD) (z : Int) : Nat → Option Nat
  | 0 => none
  | k + 1 => if h : k < rs.length then (if appB rs[k] ts z = true then (if rs[k].hide = true then none else some k) else pntI rs ts z k) else none
theorem pntI_none {rs : List RuleD} {ts : List TagD} {z : Int} : ∀ k, (∀ j (h : j < rs.length), j < k → appB rs[j] ts z = false) → pntI rs ts z k = none
  | 0, _ => rfl
  | k + 1, h => by
    unfold pntI
    split
    · rename_i hk
      rw [h k hk (by omega)]
      simp only [Bool.false_eq_true, if_false]
      exact pntI_none k fun j hj hjk => h j hj (by omega)
    · rfl
theorem pntI_at {rs : List RuleD} {ts : List TagD} {z : Int} {i : Nat} (hi : i < rs.length) (ha : appB rs[i] ts z = true) : ∀ k, i < k → k ≤ rs.length → (∀ j (h : j < rs.length), i < j → j < k → appB rs[j] ts z = false) → pntI rs ts z k = if rs[i].hide = true then none else some i
  | 0, h, _, _ => absurd h (Nat.not_lt_zero _)
  | k + 1, h, hk, hn => by
    unfold pntI
    rw [dif_pos (show k < rs.length by omega)]
    by_cases e : i = k
    · subst e
      rw [if_pos ha]
    · rw [hn k (by omega) (by omega) (by omega)]
      simp only [Bool.false_eq_true, if_false]
      exact pntI_at hi ha k (by omega) (by omega) fun j hj h1 h2 => hn j hj h1 (by omega)
/-- The rules that are asked: none when they are too many. -/
def plR (rs : List RuleD) : List RuleD := if rs.length ≤ 100 then rs else []
/-- Which rule paints. -/
def pntQ (rs : List RuleD) (ts : List TagD) (z : Int) : Option Nat := pntI (plR rs) ts z (plR rs).length

def ApE : Elem RuleD := fun w b o r bs => ∃ R C cs, bs = R :: C :: cs ∧ w.cell? ⟨b, o, none⟩ = some (apV R C) ∧ ApP w R C r cs
theorem apE : Stays 1 ApE := ⟨fun ⟨R, C, cs, e, h1, h2⟩ hc hA => ⟨R, C, cs, e, same_cell hc 0 (by decide) h1, h2.alike (e ▸ hA)⟩, fun ⟨R, C, cs, e, _, h2⟩ x hx => h2.lt x (e ▸ hx)⟩
def ApW : VElem RuleD := fun w vs r bs => ∃ R C cs, bs = R :: C :: cs ∧ vs = [apV R C] ∧ ApP w R C r cs
theorem apW : VStays 1 ApE ApW :=
  ⟨fun ⟨R, C, cs, _, e, _⟩ => by rw [e]; rfl, fun ⟨R, C, cs, _, e, _⟩ u hu => by
      subst e
      simp only [List.mem_singleton] at hu
      subst hu
      rfl,
    fun ⟨R, C, cs, e, e2, h2⟩ hA => ⟨R, C, cs, e, e2, h2.alike (e ▸ hA)⟩,
    fun ⟨R, C, cs, e, _, h2⟩ x hx => h2.lt x (e ▸ hx),
    fun ⟨R, C, cs, e, e2, h2⟩ hc => by subst e2; exact ⟨R, C, cs, e, hc 0 (by simp), h2⟩⟩

theorem infoAp : (Try.prog.info? 161).map (fun i => (i.zero, i.size, i.bytes)) = some (some .nilFunc, 1, 8) := by kernel_rfl
set_option maxRecDepth 100000 in
set_option maxHeartbeats 2000000 in
theorem eachP_any (a : Option Addr) (n c : Nat) (l : List RuleD) (bs : List Nat) (w : World) (hT : Rules w a l bs) (hn : l.length = n) (hm : n ≤ 1048576) (hs : ∀ i (h : i < l.length), l[i].tests.length ≤ 1048576) :
    Calls Try.prog 174 #[.slice a n c, .func (.func 108) #[] #[]] w fun e w' => ∃ a' c' bs', e = .returned (.slice a' n c') ∧ Sl 1 ApE w' a' l bs' ∧ Fresh w w' bs' ∧ Bel w w' := by
  obtain ⟨i0, hi0, hz0, hz1, hz2⟩ := info_parts infoAp
  have Hn : Hid (l.length = n) := hn
  have HS : Hid (∀ i (h : i < l.length), l[i].tests.length ≤ 1048576) := hs
  have HK : Hid (∀ k, k ≤ n → (l.take k).length = k) := fun k hk => by rw [List.length_take, Hn.out]; omega
  clear hn hs
  go_enter Try.func174, Try.ntmps174
  go_wp2
  go_loopw [5, 10] (fun o i wr => ∃ (k : Nat) (R : Nat → List Value) (f : Nat → List Nat), k ≤ n ∧ i = .int .i64 k ∧ (∃ va vc, o = .slice va k vc) ∧ Gr 1 ApW 161 w.heap.size wr o (l.take k) R f ∧ Bel w wr) (fun _ i _ => n - (intOf i).toNat)
  case atStart => exact ⟨0, _, _, Nat.zero_le _, rfl, ⟨_, _, rfl⟩, Gr.nil 1 ApW 161 _ _, Bel.refl _⟩
  case round =>
    obtain ⟨k, R, f0, hk, rfl, ⟨va, vc, rfl⟩, hG, hBr⟩ := hrel
    have HG : Hid (Gr 1 ApW 161 w.heap.size wr (.slice va k vc) (l.take k) R f0) := hG
    have HO : Hid (wr.ownsRow w.heap.size 161 1 (.slice va k vc) k (recs R k)) := by have := hG.own; rw [HK.out k hk] at this; exact this
    clear hG
    by_cases hlt : k < n
    · have hkl : k < l.length := by rw [Hn.out]; exact hlt
      obtain ⟨b, off, f, rfl, hb, hx⟩ := (hT.bel ruleE hBr).out hkl
      obtain ⟨_, _, _, _, _, c0, c1, c3, c4, c5, c6, a2, k2, _, c2, t2⟩ := hx k hkl
      have HE : Hid (l.take (k + 1) = l.take k ++ [l[k]]) := List.take_succ_eq_append_getElem hkl
      have hts := HS.out k hkl
      obtain ⟨d, Hd⟩ : ∃ d, Hid (l[k] = d) := ⟨_, (rfl : l[k] = _)⟩
      rw [Hd.out] at HE c0 c1 c2 c3 c4 c5 c6 t2 hts
      have hlt' : (k : Int) < (n : Int) := by omega
      have hV1 := bel_alloc (Bel.refl wr) (.cells #[.int .i64 d.low, .int .i64 d.high, .slice a2 d.tests.length k2, .bool d.hide, .string d.col, .int .i64 d.wd, .int .i64 d.lay] 68)
      clear hx
      go_wp2_with fail
      refine (applierOf_any d _ _ _ _ _ (t2.bel testE hV1) rfl hts).mono ?_
      rintro e w4 ⟨R4, C4, cs4, rfl, A4, F4, hb4⟩
      have h04 : Bel wr w4 := bel_step hV1 hb4
      have F04 : Fresh wr w4 (R4 :: C4 :: cs4) := F4.old hV1.out.size
      have HV : Hid (ApW w4 [apV R4 C4] d (R4 :: C4 :: cs4)) := ⟨R4, C4, cs4, rfl, rfl, A4⟩
      have hown2 := World.ownsRow.alloc (own_bel HO.out h04) (.cells #[apV R4 C4] 161)
      have hBa := bel_alloc (bel_step hBr h04) (.cells #[apV R4 C4] 161)
      have hB4 := bel_step hBr h04
      clear A4 F4 hb4 c0 c1 c2 c3 c4 c5 c6 t2 hV1
      go_wp2_with (first
        | (at_builtin; refine wpList_append_lies _ rfl _ _ 248 rfl w.heap.size 161 i0 .nilFunc 1 8 Try.underlying248 hi0 hz0 hz1 hz2 rfl (by decide) _ _ _ rfl hown2 ⟨w4.heap.size, 0, none⟩ 1 1 [apV R4 C4] rfl rfl ?c1 ?c2 (by decide) ?c3 ?c4 ?c5 (w4.heap.size + 1) ?c6 ?_)
        | go_in)
      case c1 =>
        intro j u hj
        match j, hj with
        | 0, hj => simp at hj; subst hj; simp [Addr.add]
      case c2 =>
        intro u hu
        simp at hu
        subst hu; rfl
      case c3 => unfold maxLen; omega
      case c4 => omega
      case c5 => have := hB4.out.size; simp; omega
      case c6 => simp
      intro g cap w5 hown' hgrow hat _
      have HG5 : Hid (∃ R' f', Gr 1 ApW 161 w.heap.size w5 (.slice (some ⟨g, 0, none⟩) (k + 1) cap) (l.take (k + 1)) R' f') := by
        have hat' : (Value.slice va k vc).ownBlock = some g ∨ g = (w4.alloc (.cells #[apV R4 C4] 161)).heap.size := by simpa using hat
        have := Gr.add apW HG.out h04 (bel_alloc (Bel.refl w4) (.cells #[apV R4 C4] 161)) HV.out F04 hBr.out.size (by rw [HK.out k hk]; exact hown') hgrow (hatF hat')
        rw [HE.out]
        exact ⟨_, _, this⟩
      have hB5 : Bel w w5 := bel_grow hBa hgrow (fun t e => (hown2.lt t e).1)
      clear hown' hgrow hown2 hBa HG HO HV hat HE
      go_wp2
      go_roundw
      case rel =>
        obtain ⟨R', f', G'⟩ := HG5.out
        exact ⟨k + 1, R', f', by omega, by go_num, ⟨_, _, rfl⟩, G', hB5⟩
      case measure => simp [intOf]; omega
    · have e : k = n := by omega
      subst e
      have HL : Hid (l.take k = l) := List.take_of_length_le (by rw [Hn.out]; exact Nat.le_refl _)
      go_wp2
      go_ret
      have G := HG.out
      rw [HL.out] at G
      obtain ⟨a', c', cs, e, S', M'⟩ := Gr.out apW G
      rw [Hn.out] at e
      injection e with e1 e2 e3
      exact ⟨va, vc, cs, rfl, by rw [e1]; exact S', ⟨M'.nd, M'.new, M'.free⟩, hBr⟩

/-- The painter of a style: A: where its rules made ready are told, S: where the style is. -/
abbrev pnV (A S : Nat) : Value := .func (.func 175) #[] #[.pointer (some ⟨A, 0, none⟩), .pointer (some ⟨S, 0, none⟩)]
structure PnP (w : World) (A S : Nat) (rs : List RuleD) (a : Option Addr) (n c : Nat) : Prop where
  la : A < w.heap.size
  ls : S < w.heap.size
  cs : w.cell? ⟨S, 0, none⟩ = some (.slice a n c)
  ca : ∃ va vc bs, w.cell? ⟨A, 0, none⟩ = some (.slice va (plR rs).length vc) ∧ Sl 1 ApE w va (plR rs) bs

set_option maxHeartbeats 1000000 in
theorem painterOf_any (a : Option Addr) (n c : Nat) (rs : List RuleD) (bs : List Nat) (w : World) (hT : Rules w a rs bs) (hn : rs.length = n) (hm : n ≤ 1048576) (hs : ∀ i (h : i < rs.length), rs[i].tests.length ≤ 1048576) :
    Calls Try.prog 112 #[.slice a n c] w fun e w' => ∃ A S, e = .returned (pnV A S) ∧ PnP w' A S rs a n c ∧ Bel w w' := by
  have Hn : Hid (rs.length = n) := hn
  obtain ⟨W, HW⟩ : ∃ W, Hid (W = (w.alloc (.cells #[.slice a n c] 79)).alloc (.cells #[.slice none 0 0] 248)) := ⟨_, (rfl : (w.alloc (.cells #[.slice a n c] 79)).alloc (.cells #[.slice none 0 0] 248) = _)⟩
  have hBW : Bel w W := by rw [HW.out]; exact bel_alloc (bel_alloc (Bel.refl _) _) _
  have X0 : Blk W w.heap.size [.slice a n c] := by rw [HW.out]; exact (Blk.new w [.slice a n c] _).bel (bel_alloc (Bel.refl _) _)
  have X1 : Blk W (w.heap.size + 1) [.slice none 0 0] := by rw [HW.out]; exact Blk.new1 w _ [.slice none 0 0] _
  have hsW : W.heap.size = w.heap.size + 2 := by rw [HW.out]; simp
  clear hn
  by_cases h1 : n ≤ 100
  · have HP : Hid (plR rs = rs) := (by unfold plR; rw [if_pos (by rw [Hn.out]; exact h1)] : plR rs = rs)
    go_enter Try.func112, Try.ntmps112
    go_wp2_with fail
    rw [← HW.out]
    refine (eachP_any _ _ _ rs bs _ (hT.bel ruleE hBW) Hn.out hm hs).mono ?_
    rintro e w1 ⟨va, vc, cs, rfl, S1, F1, hb1⟩
    have Y0 := X0.bel hb1
    have Y1 := X1.bel hb1
    have y1 : w1.cell? ⟨w.heap.size + 1, 0, none⟩ = some (.slice none 0 0) := Y1.cell 0 (by simp)
    have yf := Y1.free 0
    have yl := Y1.lt
    have HE : Hid (∃ A S, Ending.returned (pnV (w.heap.size + 1) w.heap.size) = .returned (pnV A S) ∧ PnP (w1.setCell ⟨w.heap.size + 1, 0, none⟩ (.slice va n vc)) A S rs a n c ∧ Bel w (w1.setCell ⟨w.heap.size + 1, 0, none⟩ (.slice va n vc))) := by
      have Z0 : Blk (w1.setCell ⟨w.heap.size + 1, 0, none⟩ (.slice va n vc)) w.heap.size [.slice a n c] := Y0.far (by omega)
      have Z1 : Blk (w1.setCell ⟨w.heap.size + 1, 0, none⟩ (.slice va n vc)) (w.heap.size + 1) [.slice va n vc] := Y1.set 0 (.slice va n vc) (by simp)
      have hnc : w.heap.size + 1 ∉ cs := fun h => by have := (F1.new _ h).1; omega
      refine ⟨w.heap.size + 1, w.heap.size, rfl, ⟨Z1.lt, Z0.lt, Z0.cell 0 (by simp), va, vc, cs, ?_, ?_⟩, bel_set (bel_step hBW hb1) (by show w.heap.size ≤ w.heap.size + 1; omega) _⟩
      · rw [HP.out, Hn.out]; exact Z1.cell 0 (by simp)
      · rw [HP.out]; exact S1.alike apE ((Alike.refl (S1.lt apE)).set hnc 0 _)
    clear S1 F1 Y0 Y1 X0 X1 hT
    go_wp2
    go_ret
    exact HE.out
  · have HP : Hid (plR rs = []) := (by unfold plR; rw [if_neg (by rw [Hn.out]; exact h1)] : plR rs = [])
    have HE : Hid (∃ A S, Ending.returned (pnV (w.heap.size + 1) w.heap.size) = .returned (pnV A S) ∧ PnP W A S rs a n c ∧ Bel w W) := by
      refine ⟨w.heap.size + 1, w.heap.size, rfl, ⟨X1.lt, X0.lt, X0.cell 0 (by simp), none, 0, [], ?_, ?_⟩, hBW⟩
      · rw [HP.out]; exact X1.cell 0 (by simp)
      · rw [HP.out]; exact Sl.nil
    have x0 : W.cell? ⟨w.heap.size, 0, none⟩ = some (.slice a n c) := X0.cell 0 (by simp)
    clear hT X0 X1
    go_enter Try.func112, Try.ntmps112
    go_wp2
    rw [← HW.out]
    go_ret
    exact HE.out
end Go.Proofs.Ytbebgfhblalghaa
