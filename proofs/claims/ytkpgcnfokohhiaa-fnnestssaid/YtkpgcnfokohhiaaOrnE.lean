/-
  Contract of Orient in the program: every ring anew, turned to its side.
-/
import Derived.Test.YtkpgcnfokohhiaaOrnI
namespace Go.Proofs.Ytkpgcnfokohhiaa
open Go.RowKit Go.Maps

def RingV : VElem RingD := fun w vs d bs => d.row.length ≤ maxLen ∧ ∃ a c, vs = [.slice a d.row.length c, .bool d.inner] ∧ PtL w a d.row bs
theorem ringV : VStays 2 RingE RingV :=
  ⟨fun ⟨_, a, c, e, _⟩ => by rw [e]; rfl, fun ⟨_, a, c, e, _⟩ u hu => by
      subst e; simp only [List.mem_cons, List.not_mem_nil, or_false] at hu; rcases hu with rfl | rfl <;> rfl,
    fun ⟨h4, a, c, e, h5⟩ hA => ⟨h4, a, c, e, h5.alike ptE hA⟩, fun ⟨_, a, c, e, h5⟩ => h5.lt ptE,
    fun ⟨h4, a, c, e, h5⟩ hc => by subst e; exact ⟨a, c, h4, hc 0 (by simp), hc 1 (by simp), h5⟩⟩
def orT (l : List RingD) (k : Nat) : List RingD := (l.take k).map ornR
theorem orT_len {l : List RingD} {k : Nat} (h : k ≤ l.length) : (orT l k).length = k := by unfold orT; rw [List.length_map, List.length_take]; omega
theorem orT_succ {l : List RingD} {k : Nat} (h : k < l.length) : orT l (k + 1) = orT l k ++ [ornR l[k]] := by
  unfold orT
  rw [List.take_succ_eq_append_getElem h, List.map_append]
  rfl
theorem orT_all (l : List RingD) : orT l l.length = l.map ornR := by unfold orT; rw [List.take_of_length_le (Nat.le_refl _)]
theorem infoRg : (Try.prog.info? 32).map (fun i => (i.zero, i.size, i.bytes)) = some (some (.agg #[.slice none 0 0, .bool false]), 2, 32) := by kernel_rfl

set_option maxRecDepth 100000 in
set_option maxHeartbeats 2000000 in
theorem eachR_any (a : Option Addr) (n c : Nat) (l : List RingD) (bs : List Nat) (w : World) (hT : RingL w a l bs) (hn : l.length = n) (hok : rgsB l = true) :
    Calls Try.prog 25 #[.slice a n c, .func (.func 26) #[] #[]] w fun e w' => ∃ v' bs', e = .returned v' ∧ (∃ a' c', v' = .slice a' n c' ∧ RingL w' a' (l.map ornR) bs') ∧ Fresh w w' bs' ∧ Bel w w' := by
  obtain ⟨i0, hi0, hz0, hz1, hz2⟩ := info_parts infoRg
  have Hn : Hid (l.length = n) := hn
  have hm40 : n ≤ 40 := by rw [← hn]; exact (rgsB_out hok).1
  have HR : Hid (∀ j (hj : j < l.length), l[j].row.length ≤ 2000 ∧ rwB l[j].row = true) := fun j hj => ⟨((rgsB_out hok).2 j hj).1, by
    simp only [rgsB, Bool.and_eq_true, List.all_eq_true] at hok
    exact hok.2 _ (List.getElem_mem hj)⟩
  clear hn hok
  go_enter Try.func25, Try.ntmps25
  go_wp2
  go_loopw [5, 7, 10] (fun o _ i wr => ∃ (k : Nat) (R : Nat → List Value) (f : Nat → List Nat), k ≤ n ∧ i = .int .i64 k ∧ Gr 2 RingV 32 w.heap.size wr o (orT l k) R f ∧ Bel w wr) (fun _ _ i _ => n - (intOf i).toNat)
  case atStart => exact ⟨0, _, _, Nat.zero_le _, rfl, Gr.nil 2 RingV 32 _ _, Bel.refl _⟩
  case round =>
    obtain ⟨k, R, f0, hk, rfl, hG, hBr⟩ := hrel
    obtain ⟨va, vc, rfl⟩ := own_shape hG.own
    have HLK : Hid ((orT l k).length = k) := orT_len (by rw [Hn.out]; exact hk)
    have HG : Hid (Gr 2 RingV 32 w.heap.size wr (.slice va (orT l k).length vc) (orT l k) R f0) := hG
    clear hG
    by_cases hlt : k < n
    · have hkl : k < l.length := by rw [Hn.out]; exact hlt
      obtain ⟨b, off, f, rfl, hb, hx⟩ := (hT.bel ringE hBr).out hkl
      obtain ⟨a0, k0, ml, c0, c1, t0⟩ := hx k hkl
      have HE : Hid (orT l (k + 1) = orT l k ++ [ornR l[k]]) := orT_succ hkl
      obtain ⟨hr1, hr2⟩ := HR.out k hkl
      obtain ⟨d, Hd⟩ : ∃ d, Hid (l[k] = d) := ⟨_, (rfl : l[k] = _)⟩
      rw [Hd.out] at HE ml c0 c1 t0 hr1 hr2
      have hlt' : (k : Int) < (n : Int) := by omega
      have t1 := t0.bel ptE (bel_alloc (Bel.refl wr) (.cells #[.slice a0 d.row.length k0, .bool d.inner] 32))
      have hV1 := bel_alloc (Bel.refl wr) (.cells #[.slice a0 d.row.length k0, .bool d.inner] 32)
      clear hx
      go_wp2_with fail
      refine (oriented_any _ _ _ _ d.row _ _ t1 rfl (by omega) hr2).mono ?_
      rintro e w4 ⟨a4, c4, b4, rfl, T4, F4, hb4⟩
      have h04 : Bel wr w4 := bel_step hV1 hb4
      have F04 : Fresh wr w4 b4 := F4.old hV1.out.size
      have HV : Hid (RingV w4 [.slice a4 d.row.length c4, .bool d.inner] (ornR d) b4) := (⟨by rw [ornR_len]; exact ml, a4, c4, by rw [ornR_len]; rfl, T4⟩ : RingV w4 _ (ornR d) b4)
      have hown2 := World.ownsRow.alloc (own_bel HG.out.own h04) (.cells #[.slice a4 d.row.length c4, .bool d.inner] 32)
      have hBa := bel_alloc (bel_step hBr h04) (.cells #[.slice a4 d.row.length c4, .bool d.inner] 32)
      have hB4 := bel_step hBr h04
      clear t0 t1 T4 F4 hb4 c0 c1 hV1
      go_wp2_with (first
        | (at_builtin; refine wpList_append_lies _ rfl _ _ 24 rfl w.heap.size 32 i0 (.agg #[.slice none 0 0, .bool false]) 2 32 Try.underlying24 hi0 hz0 hz1 hz2 rfl (by decide) _ _ _ rfl hown2 ⟨w4.heap.size, 0, none⟩ 1 1 [.slice a4 d.row.length c4, .bool d.inner] rfl rfl ?c1 ?c2 (by decide) ?c3 ?c4 ?c5 (w4.heap.size + 1) ?c6 ?_)
        | go_in)
      case c1 =>
        intro j u hj
        match j, hj with
        | 0, hj => simp at hj; subst hj; simp [Addr.add]
        | 1, hj => simp at hj; subst hj; simp [Addr.add]
      case c2 =>
        intro u hu
        simp at hu
        rcases hu with rfl | rfl <;> rfl
      case c3 => have := HLK.out; unfold maxLen; omega
      case c4 => have := HLK.out; omega
      case c5 => have := hB4.out.size; simp; omega
      case c6 => simp
      intro g cap w5 hown' hgrow hat _
      have HG5 : Hid (∃ R' f', Gr 2 RingV 32 w.heap.size w5 (.slice (some ⟨g, 0, none⟩) ((orT l k).length + 1) cap) (orT l (k + 1)) R' f') := by
        have hat' : (Value.slice va (orT l k).length vc).ownBlock = some g ∨ g = (w4.alloc (.cells #[.slice a4 d.row.length c4, .bool d.inner] 32)).heap.size := by simpa using hat
        have := Gr.add ringV HG.out h04 (bel_alloc (Bel.refl w4) (.cells #[.slice a4 d.row.length c4, .bool d.inner] 32)) HV.out F04 hBr.out.size hown' hgrow (hatO hat')
        rw [HE.out]
        exact ⟨_, _, this⟩
      have hB5 : Bel w w5 := bel_grow hBa hgrow (fun j e => (hown2.lt j e).1)
      clear hown' hgrow hown2 hBa HG hat HV F04 h04 hB4
      go_wp2
      go_roundw
      case rel =>
        obtain ⟨R', f', G'⟩ := HG5.out
        exact ⟨k + 1, R', f', by omega, by go_num, G', hB5⟩
      case measure => simp [intOf]; omega
    · have e : n = k := by omega
      subst e
      have HO := Gr.out ringV HG.out
      have HT : Hid (orT l n = l.map ornR) := by rw [← Hn.out]; exact orT_all l
      rw [HLK.out]
      obtain ⟨a', c', bs', e', hS, hM⟩ := HO
      rw [HLK.out] at e'
      obtain ⟨rfl, rfl⟩ : va = a' ∧ vc = c' := by simpa using e'
      have HS : Hid (∃ a' c', Value.slice va n vc = .slice a' n c' ∧ RingL wr a' (l.map ornR) bs') := ⟨va, vc, rfl, by rw [← HT.out]; exact hS⟩
      have hF := hM.fresh (w := w) (Nat.le_refl _)
      clear hS e' HG hM
      go_wp2
      go_ret
      exact ⟨_, bs', rfl, HS.out, hF, hBr⟩

theorem orient_any (a : Option Addr) (n c : Nat) (l : List RingD) (bs : List Nat) (w : World) (hT : RingL w a l bs) (hn : l.length = n) (hm : n ≤ 1048576) (hs : ∀ i (h : i < l.length), l[i].row.length ≤ 1048576) :
    Calls Try.prog 15 #[.slice a n c] w fun e w' => ∃ v' bs', e = .returned v' ∧ (∃ a' c', v' = .slice a' (ornQ l).length c' ∧ RingL w' a' (ornQ l) bs') ∧ Fresh w w' bs' ∧ Bel w w' := by
  cases hok : rgsB l
  · have HQ : Hid (ornQ l = []) := (by unfold ornQ; rw [hok]; rfl : ornQ l = [])
    rw [HQ.out]
    go_enter Try.func15, Try.ntmps15
    go_wp2_with fail
    refine (ringsOk_any _ _ _ l bs _ hT hn hm hs).mono ?_
    rintro e w1 ⟨rfl, hb1⟩
    rw [hok]
    have HA : Hid (∃ a' c', Value.slice none 0 0 = .slice a' ([] : List RingD).length c' ∧ RingL w1 a' [] []) := ⟨none, 0, rfl, Sl.nil⟩
    go_wp2
    go_ret
    exact ⟨_, [], rfl, HA.out, Fresh.nil _ _, hb1⟩
  · have HQ : Hid (ornQ l = l.map ornR) := (by unfold ornQ; rw [hok]; rfl : ornQ l = l.map ornR)
    have HL : Hid ((l.map ornR).length = n) := (by rw [List.length_map]; exact hn : (l.map ornR).length = n)
    rw [HQ.out, HL.out]
    go_enter Try.func15, Try.ntmps15
    go_wp2_with fail
    refine (ringsOk_any _ _ _ l bs _ hT hn hm hs).mono ?_
    rintro e w1 ⟨rfl, hb1⟩
    rw [hok]
    go_wp2_with fail
    refine (eachR_any _ _ _ l bs _ (hT.bel ringE hb1) hn hok).mono ?_
    rintro e w2 ⟨v2, b2, rfl, V2, F2, hb2⟩
    have HV2 : Hid _ := V2
    have F2' : Fresh w w2 b2 := F2.old hb1.out.size
    clear V2 F2
    go_wp2
    go_ret
    exact ⟨_, b2, rfl, HV2.out, F2', bel_step hb1 hb2⟩
end Go.Proofs.Ytkpgcnfokohhiaa
