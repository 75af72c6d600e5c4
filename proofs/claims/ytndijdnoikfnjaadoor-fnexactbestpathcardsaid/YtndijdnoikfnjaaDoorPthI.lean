/-
  The Roads of a best path, and a path that is told, in the program: roadsFrom, path: contracts.
-/
import Derived.Test.YtndijdnoikfnjaaDoorBhdI
import Derived.Deep.AppendLies
namespace Go.Proofs.YtndijdnoikfnjaaDoor
open Go.RowKit Go.Maps

/-- How many a slice has. -/
def slLen : Value → Nat
  | .slice _ n _ => n
  | _ => 0
/-- The Roads so far and the next one make the path. -/
def RfR (n : Nat) (g : GraphD) (d : Nat → Option Cst) (F l : List Nat) : Option Nat → Prop
  | none => l = F
  | some y => ∃ c, d y = some c ∧ l ++ chR n g d c.c.toNat y = F
theorem RfR.step {n : Nat} {g : GraphD} {t : Int} {d : Nat → Option Cst} {F l : List Nat} {y : Nat} {c : Cst} (hL : LC n g t d) (hd : d y = some c) (h : l ++ chR n g d c.c.toNat y = F) : l.length < F.length ∧ RfR n g d F (l ++ [y]) (nxR n g d y) := by
  have hb := hL.bd y c hd
  obtain ⟨k, hk⟩ : ∃ k, c.c.toNat = k + 1 := ⟨c.c.toNat - 1, by omega⟩
  rw [hk] at h
  by_cases h1 : c.c = 1
  · have e := hL.one hd h1
    rw [chR_end e] at h
    rw [e]
    refine ⟨by rw [← h]; simp, h⟩
  · obtain ⟨z, cz, e, h2, _, h3, _⟩ := hL.more hd (by omega)
    rw [chR_on e] at h
    rw [e]
    refine ⟨by rw [← h]; simp, cz, h2, ?_⟩
    have e2 : c.c = cz.c + 1 := by rw [h3]; rfl
    rw [show cz.c.toNat = k by omega, ← h]
    simp

set_option maxRecDepth 100000 in
set_option maxHeartbeats 4000000 in
theorem roadsFrom_any (base P : Nat) (S : SrS) (g : GraphD) (lo : Nat) (bl : List Cst) (d : Nat → Option Cst) (t : Int) (o : Option Nat) (F : List Nat) (w : World) (h : BhS base P S g lo bl d t w) (hF : RfR S.n1 g d F [] o) (hFl : F.length ≤ 8001) :
    Calls Tryd.prog 39 #[.pointer (some ⟨P, 0, none⟩), .int .i64 (nxI o)] w fun e w' => ∃ va vc, e = .returned (.slice va F.length vc) ∧ w'.ownsRow w.heap.size 2 1 (.slice va F.length vc) F.length (intsN F) ∧ Bel w w' := by
  obtain ⟨i0, hi0, hz0, hz1, hz2⟩ := info_parts infoI64
  have HBS : Hid (BhS base P S g lo bl d t w) := h
  have HF : Hid (RfR S.n1 g d F [] o) := hF
  obtain ⟨f, Hf⟩ : ∃ n, Hid (F.length = n) := ⟨_, (rfl : F.length = _)⟩
  rw [Hf.out] at hFl ⊢
  obtain ⟨nw, Hnw⟩ : ∃ n, Hid (w.heap.size = n) := ⟨_, (rfl : w.heap.size = _)⟩
  rw [Hnw.out]
  clear h hF
  go_enter Tryd.func39, Tryd.ntmps39
  go_wp2_with fail
  go_loopw [1, 5] (fun r v wr => ∃ (l : List Nat) (o : Option Nat) (m : Nat) (va : Option Addr) (vc : Nat), r = .int .i64 (nxI o) ∧ v = .slice va m vc ∧ m ≤ f ∧ Hid (l.length = m) ∧ Hid (wr.ownsRow nw 2 1 (.slice va m vc) m (intsN l)) ∧ Hid (RfR S.n1 g d F l o) ∧ Hid (Bel w wr)) (fun _ v _ => f - slLen v)
  case atStart => exact ⟨[], o, 0, none, 0, rfl, rfl, Nat.zero_le _, (rfl : [].length = 0), World.ownsRow_nil _ _ _ _, HF, Bel.refl _⟩
  case round =>
    clear HF
    obtain ⟨l, o, m, va, vc, rfl, rfl, hmf, Hl, HO, HR, HB⟩ := hrel
    cases o with
    | none =>
      have e : l = F := HR.out
      have e2 : m = f := by rw [← Hl.out, e, Hf.out]
      have HOE : Hid (wr.ownsRow nw 2 1 (.slice va f vc) f (intsN F)) := (by rw [← e, ← e2]; exact HO.out : wr.ownsRow nw 2 1 (.slice va f vc) f (intsN F))
      clear HO HR
      subst e2
      simp only [nxI]
      go_wp2
      go_ret
      exact ⟨va, vc, rfl, HOE.out, HB.out⟩
    | some y =>
      obtain ⟨c, hd, hap⟩ : ∃ c, d y = some c ∧ l ++ chR S.n1 g d c.c.toNat y = F := HR.out
      obtain ⟨hlt, hnext⟩ := RfR.step HBS.out.lc hd hap
      rw [Hl.out, Hf.out] at hlt
      have HN : Hid (RfR S.n1 g d F (l ++ [y]) (nxR S.n1 g d y)) := hnext
      have Hd : Hid (d y = some c) := hd
      have hyn := (HBS.out.lc.bd y c hd).1
      have hB1 : Bel w (wr.alloc (.cells #[.int .i64 (y : Int)] 2)) := bel_alloc HB.out _
      have hownA : (wr.alloc (.cells #[.int .i64 (y : Int)] 2)).ownsRow nw 2 1 (.slice va m vc) m (intsN l) := World.ownsRow.alloc HO.out _
      have hnews : Hid (∀ j u, [Value.int .i64 (y : Int)][j]? = some u → (wr.alloc (.cells #[.int .i64 (y : Int)] 2)).cell? (Addr.add ⟨wr.heap.size, 0, none⟩ j) = some u) := World.news_of_block (cs := #[.int .i64 (y : Int)]) (heap_alloc_new wr _)
      have hnw : nw ≤ wr.heap.size := by rw [← Hnw.out]; exact HB.out.out.size
      have HL2 : Hid ((l ++ [y]).length = m + 1) := (by rw [List.length_append, Hl.out]; rfl : (l ++ [y]).length = m + 1)
      have HI2 : Hid (intsN (l ++ [y]) = intsN l ++ [.int .i64 (y : Int)]) := (by simp [intsN] : intsN (l ++ [y]) = intsN l ++ [.int .i64 (y : Int)])
      have hne1 : ((y : Int) == -1) = false := by rw [beq_eq_false_iff_ne]; omega
      have hne2 : ((y : Int) != -1) = true := by simp only [bne, hne1]; rfl
      have hne3 : ¬ (y : Int) = -1 := by omega
      have HBw : Hid (Bel w (wr.alloc (.cells #[.int .i64 (y : Int)] 2))) := hB1
      have mb : m ≤ 8001 := by omega
      clear hd hap hnext HR hB1
      simp only [nxI]
      go_wp2_with (first
        | (at_builtin; refine wpList_append_lies _ rfl _ _ 28 rfl nw 2 i0 (.int .i64 0) 1 8 Tryd.underlying28 hi0 hz0 hz1 hz2 rfl (by decide) _ _ _ rfl hownA ⟨wr.heap.size, 0, none⟩ 1 1 [.int .i64 (y : Int)] rfl rfl hnews.out (by simp [Value.oneCell']) (by decide) (by unfold maxLen; omega) (by omega) (by simp; omega) (wr.heap.size + 1) (by simp) ?_)
        | go_in)
      intro g2 cap2 w2 hown2 hgrow hat _
      have hB2 : Bel w w2 := bel_grow HBw.out hgrow (fun j e => by rw [Hnw.out]; exact (hownA.lt j e).1)
      have HO2 : Hid (w2.ownsRow nw 2 1 (.slice (some ⟨g2, 0, none⟩) (m + 1) cap2) (m + 1) (intsN (l ++ [y]))) := (by rw [HI2.out]; exact hown2 : w2.ownsRow nw 2 1 (.slice (some ⟨g2, 0, none⟩) (m + 1) cap2) (m + 1) (intsN (l ++ [y])))
      have HB2 : Hid (Bel w w2) := hB2
      have cB := behind_any base P S g lo bl d t y c w2 (HBS.out.bel hB2) hyn Hd.out
      obtain ⟨on, Hon⟩ : ∃ o, Hid (nxR S.n1 g d y = o) := ⟨_, (rfl : nxR S.n1 g d y = _)⟩
      rw [Hon.out] at cB HN
      clear hown2 hgrow hat hownA hB2
      go_wp2_with fail
      refine cB.mono ?_
      rintro e w3 ⟨rfl, hb3⟩
      have HO3 : Hid (w3.ownsRow nw 2 1 (.slice (some ⟨g2, 0, none⟩) (m + 1) cap2) (m + 1) (intsN (l ++ [y]))) := own_bel HO2.out hb3
      have HB3 : Hid (Bel w w3) := bel_step HB2.out hb3
      clear cB hb3 HO2 HB2
      go_wp2
      go_roundw
      case rel => exact ⟨l ++ [y], on, m + 1, _, cap2, rfl, rfl, by omega, HL2, HO3, HN, HB3⟩
      case measure => simp [slLen]; omega

set_option maxRecDepth 100000 in
set_option maxHeartbeats 4000000 in
theorem path_any (a0 : Option Addr) (n0 c0 : Nat) (a1 : Option Addr) (n1 c1 : Nat) (a2 : Option Addr) (n2 c2 Bb Be M Wd : Nat) (g : GraphD) (b1 : List Nat) (l : List Nat) (va : Option Addr) (m vc lo : Nat) (time : Int) (w : World) (hg : graphP g) (e1 : g.roads.length = n1) (t1 : RoadL w a1 g.roads b1)
    (hO : w.ownsRow lo 2 1 (.slice va m vc) m (intsN l)) (hm : l.length = m) (hl : ∀ x ∈ l, x < n1) (mb : m ≤ 8001) :
    Calls Tryd.prog 38 #[.agg #[.slice a0 n0 c0, .slice a1 n1 c1, .slice a2 n2 c2, .slice (some ⟨Bb, 0, none⟩) n0 n0, .slice (some ⟨Be, 0, none⟩) n0 n0, .map (some M), .slice (some ⟨Wd, 0, none⟩) n1 n1], .slice va m vc, .int .i64 time] w fun e w' => e = .returned (.agg #[.bool true, .slice va m vc, .int .i64 time, .int .i64 (lnS g l)]) ∧ Bel w w' := by
  have H1 : Hid (g.roads.length = n1) := e1
  have Hm : Hid (l.length = m) := hm
  have m1 : n1 ≤ 8000 := by rw [← e1]; exact hg.1.2.1
  obtain ⟨W, HW⟩ : ∃ W, Hid (W = w.alloc (.cells #[.slice a0 n0 c0, .slice a1 n1 c1, .slice a2 n2 c2, .slice (some ⟨Bb, 0, none⟩) n0 n0, .slice (some ⟨Be, 0, none⟩) n0 n0, .map (some M), .slice (some ⟨Wd, 0, none⟩) n1 n1] 66)) := ⟨_, (rfl : w.alloc (.cells #[.slice a0 n0 c0, .slice a1 n1 c1, .slice a2 n2 c2, .slice (some ⟨Bb, 0, none⟩) n0 n0, .slice (some ⟨Be, 0, none⟩) n0 n0, .map (some M), .slice (some ⟨Wd, 0, none⟩) n1 n1] 66) = _)⟩
  have hBW : Bel w W := by rw [HW.out]; exact bel_alloc (Bel.refl _) _
  have XW : Blk W w.heap.size [.slice a0 n0 c0, .slice a1 n1 c1, .slice a2 n2 c2, .slice (some ⟨Bb, 0, none⟩) n0 n0, .slice (some ⟨Be, 0, none⟩) n0 n0, .map (some M), .slice (some ⟨Wd, 0, none⟩) n1 n1] := by rw [HW.out]; exact Blk.new w [.slice a0 n0 c0, .slice a1 n1 c1, .slice a2 n2 c2, .slice (some ⟨Bb, 0, none⟩) n0 n0, .slice (some ⟨Be, 0, none⟩) n0 n0, .map (some M), .slice (some ⟨Wd, 0, none⟩) n1 n1] _
  obtain ⟨nw, Hnw⟩ : ∃ n, Hid (w.heap.size = n) := ⟨_, (rfl : w.heap.size = _)⟩
  have HWs : Hid (W.heap.size = nw + 1) := (by rw [HW.out, ← Hnw.out]; simp : W.heap.size = nw + 1)
  rw [Hnw.out] at XW
  obtain ⟨w1, Hw1⟩ : ∃ X, Hid (X = (W.alloc (.cells #[.bool false, .slice none 0 0, .int .i64 0, .int .i64 0] 30)).alloc (.cells #[.bool true, .slice va m vc, .int .i64 time, .int .i64 0] 30)) := ⟨_, (rfl : (W.alloc (.cells #[.bool false, .slice none 0 0, .int .i64 0, .int .i64 0] 30)).alloc (.cells #[.bool true, .slice va m vc, .int .i64 time, .int .i64 0] 30) = _)⟩
  have hB1 : Bel W w1 := by rw [Hw1.out]; exact bel_alloc (bel_alloc (Bel.refl _) _) _
  have HXR : Hid (Blk w1 (nw + 1) [.bool false, .slice none 0 0, .int .i64 0, .int .i64 0]) := (by rw [Hw1.out, ← HWs.out]; exact (Blk.new W [.bool false, .slice none 0 0, .int .i64 0, .int .i64 0] _).bel (bel_alloc (Bel.refl _) _) : Blk w1 (nw + 1) [.bool false, .slice none 0 0, .int .i64 0, .int .i64 0])
  have HXP : Hid (Blk w1 (nw + 1 + 1) [.bool true, .slice va m vc, .int .i64 time, .int .i64 (lnS g (l.take 0))]) := (by rw [Hw1.out, ← HWs.out]; exact Blk.new1 W _ [.bool true, .slice va m vc, .int .i64 time, .int .i64 0] _ : Blk w1 (nw + 1 + 1) [.bool true, .slice va m vc, .int .i64 time, .int .i64 (lnS g (l.take 0))])
  have HXW : Hid (Blk w1 nw [.slice a0 n0 c0, .slice a1 n1 c1, .slice a2 n2 c2, .slice (some ⟨Bb, 0, none⟩) n0 n0, .slice (some ⟨Be, 0, none⟩) n0 n0, .map (some M), .slice (some ⟨Wd, 0, none⟩) n1 n1]) := XW.bel hB1
  have HB1 : Hid (Bel w w1) := bel_step hBW hB1
  have HO : Hid (w.ownsRow lo 2 1 (.slice va m vc) m (intsN l)) := hO
  have HT1 : Hid (RoadL w a1 g.roads b1) := t1
  have Hl : Hid (∀ x ∈ l, x < n1) := hl
  have HG : Hid (graphP g) := hg
  obtain ⟨ln, Hln⟩ : ∃ q, Hid (lnS g l = q) := ⟨_, (rfl : lnS g l = _)⟩
  rw [Hln.out]
  clear XW hO t1 hl hg hm e1 hB1 hBW
  go_enter Tryd.func38, Tryd.ntmps38
  go_upto_region 2 with fail
  rw [← HW.out, Hnw.out]
  rw [← Hw1.out]
  go_wp2_with fail
  go_loopw [9, 15] (fun _ i wr => ∃ k : Nat, k ≤ m ∧ i = .int .i64 k ∧ Hid (Blk wr (nw + 1 + 1) [.bool true, .slice va m vc, .int .i64 time, .int .i64 (lnS g (l.take k))]) ∧ Hid (Blk wr (nw + 1) [.bool false, .slice none 0 0, .int .i64 0, .int .i64 0]) ∧ Hid (Blk wr nw [.slice a0 n0 c0, .slice a1 n1 c1, .slice a2 n2 c2, .slice (some ⟨Bb, 0, none⟩) n0 n0, .slice (some ⟨Be, 0, none⟩) n0 n0, .map (some M), .slice (some ⟨Wd, 0, none⟩) n1 n1]) ∧ Hid (Bel w wr)) (fun _ i _ => m - (intOf i).toNat)
  case atStart => exact ⟨0, Nat.zero_le _, rfl, HXP, HXR, HXW, HB1⟩
  case round =>
    clear HXP HXR HXW HB1
    obtain ⟨k, hk, rfl, HXP, HXR, HXW, HB⟩ := hrel
    by_cases hlt : k < m
    · have hkl : k < l.length := by rw [Hm.out]; exact hlt
      obtain ⟨ga, cap, ev, _, _⟩ := own_in HO.out (by omega)
      simp only [Value.slice.injEq] at ev
      obtain ⟨rfl, _, rfl⟩ := ev
      have hrow := own_bel HO.out HB.out
      have r0 : wr.cell? ⟨ga, k, none⟩ = some (.int .i64 (l[k] : Int)) := by
        rw [hrow.cellAt k (by omega)]
        unfold intsN
        rw [List.getElem?_map, List.getElem?_eq_getElem hkl]
        rfl
      have rl := (World.ownsRow.lt hrow ga rfl).2
      have hxn := Hl.out l[k] (List.getElem_mem _)
      have hLt := lnS_take (g := g) hkl
      have hLb := lnS_bd HG.out (l.take k) (fun x hx => by rw [H1.out]; exact Hl.out x (List.mem_of_mem_take hx))
      rw [List.length_take] at hLb
      obtain ⟨x, Hx⟩ : ∃ y, Hid (l[k] = y) := ⟨_, (rfl : l[k] = _)⟩
      rw [Hx.out] at r0 hxn hLt
      have hxg : x < g.roads.length := by rw [H1.out]; exact hxn
      obtain ⟨b, off, ff, ea, hbl, hrx⟩ := (HT1.out.bel roadE HB.out).out hxg
      obtain ⟨_, _, _, _, _, _, _, _, _, _, _, y4, _⟩ := hrx x hxg
      have hrb := (roadB_out (HG.out.2.2.1 x hxg)).2.2.2.2
      rw [← rdAt_eq hxg] at y4 hrb
      subst ea
      obtain ⟨q, Hq⟩ : ∃ q, Hid ((rdAt g x).len = q) := ⟨_, (rfl : (rdAt g x).len = _)⟩
      rw [Hq.out] at y4 hLt hrb
      obtain ⟨s, Hs⟩ : ∃ q, Hid (lnS g (l.take k) = q) := ⟨_, (rfl : lnS g (l.take k) = _)⟩
      rw [Hs.out] at hLt hLb HXP
      have hkm : min k l.length ≤ 8001 := by omega
      have hsb : 0 ≤ s ∧ s ≤ 8001 * 1000000000 := by omega
      have hw : IntKind.i64.wrap (s + q) = s + q := by rw [IntKind.wrap_i64]; omega
      have HL2 : Hid (lnS g (l.take (k + 1)) = s + q) := hLt
      have hxI : (x : Int) < (n1 : Int) := by omega
      have hkI : (k : Int) < (m : Int) := by omega
      have HS0 : wr.drew.cell? ⟨nw, 1, none⟩ = some (.slice (some ⟨b, off, none⟩) n1 c1) ∧ wr.drew.cell? ⟨b, off + x * 6 + 4, none⟩ = some (.int .i64 q) := ⟨HXW.out.cell 1 (by simp), y4⟩
      have y3 : wr.drew.cell? ⟨nw + 1 + 1, 3, none⟩ = some (.int .i64 s) := HXP.out.cell 3 (by simp)
      have y3f : wr.drew.frozen? ⟨nw + 1 + 1, 3, none⟩ = false := HXP.out.free 3
      have y3l : nw + 1 + 1 < wr.drew.heap.size := HXP.out.lt
      have hbn : b ≠ nw + 1 + 1 := by
        have h1 := HT1.out.lt roadE
        obtain ⟨b', off', ff', ea', hbl', _⟩ := HT1.out.out hxg
        injection ea' with ea'
        injection ea' with e1 e2
        have h2 := hbl'
        rw [Hnw.out, ← e1] at h2
        omega
      have HXP2 : Hid (Blk (wr.drew.setCell ⟨nw + 1 + 1, 3, none⟩ (.int .i64 (s + q))) (nw + 1 + 1) [.bool true, .slice (some ⟨ga, 0, none⟩) m vc, .int .i64 time, .int .i64 (lnS g (l.take (k + 1)))]) := (by
        rw [HL2.out]
        exact (HXP.out.bel (Bel.refl _).drew).set 3 _ (by simp) : Blk (wr.drew.setCell ⟨nw + 1 + 1, 3, none⟩ (.int .i64 (s + q))) (nw + 1 + 1) [.bool true, .slice (some ⟨ga, 0, none⟩) m vc, .int .i64 time, .int .i64 (lnS g (l.take (k + 1)))])
      have HXR2 : Hid (Blk (wr.drew.setCell ⟨nw + 1 + 1, 3, none⟩ (.int .i64 (s + q))) (nw + 1) [.bool false, .slice none 0 0, .int .i64 0, .int .i64 0]) := (HXR.out.bel (Bel.refl _).drew).far (by omega)
      have HXW2 : Hid (Blk (wr.drew.setCell ⟨nw + 1 + 1, 3, none⟩ (.int .i64 (s + q))) nw [.slice a0 n0 c0, .slice (some ⟨b, off, none⟩) n1 c1, .slice a2 n2 c2, .slice (some ⟨Bb, 0, none⟩) n0 n0, .slice (some ⟨Be, 0, none⟩) n0 n0, .map (some M), .slice (some ⟨Wd, 0, none⟩) n1 n1]) := (HXW.out.bel (Bel.refl _).drew).far (by omega)
      have HB2 : Hid (Bel w (wr.drew.setCell ⟨nw + 1 + 1, 3, none⟩ (.int .i64 (s + q)))) := bel_set HB.out.drew (by rw [Hnw.out]; show nw ≤ nw + 1 + 1; omega) _
      clear hrow hrx y4 hLt hLb
      go_wp2_with fail
      go_upto_region 5 with fail
      clear r0 rl
      refine wp_region_noPanic ?_
      refine wp_region_held_drew (S := fun w' => w'.cell? ⟨nw, 1, none⟩ = some (.slice (some ⟨b, off, none⟩) n1 c1) ∧ w'.cell? ⟨b, off + x * 6 + 4, none⟩ = some (.int .i64 q)) (by kernel_rfl) HS0 (fun hHeld => ?_)
      clear HS0
      generalize wr.drew = Y at hHeld y3 y3f y3l HXP2 HXR2 HXW2 HB2 ⊢
      refine tk 0 hHeld ?_; refine tk 2 hHeld ?_; refine tk 3 hHeld ?_; refine tk 4 hHeld ?_; refine tk 5 hHeld ?_; refine tk 6 hHeld ?_; refine tk 7 hHeld ?_; refine tk 8 hHeld ?_; refine tk 9 hHeld ?_
      refine rd1 1 (fun K hK => ?_)
      go_simp
      refine hK.out _ _ hHeld (fun hHeld' => ?_)
      clear hK K hHeld
      have hHeld := hHeld'
      clear hHeld'
      try simp only [Act.put, List.setIfInBounds_toArray, List.set_cons_zero, List.set_cons_succ]
      refine tk 10 hHeld ?_; refine tk 11 hHeld ?_
      refine rd1 12 (fun K hK => ?_)
      go_simp
      refine hK.out _ _ ⟨by rw [World.cell?_setCell_other _ _ _ _ (fun e => by have h : nw + 1 + 1 = nw := congrArg Addr.block e; omega)]; exact hHeld.1, by rw [World.cell?_setCell_other _ _ _ _ (fun e => hbn (congrArg Addr.block e).symm)]; exact hHeld.2⟩ (fun hHeld' => ?_)
      clear hK K hHeld
      have hHeld := hHeld'
      clear hHeld'
      try simp only [Act.put, List.setIfInBounds_toArray, List.set_cons_zero, List.set_cons_succ]
      refine wpAnyH_done (by kernel_rfl) ?_ _
      refine NoPanic.normal ?_
      clear hHeld
      go_wp2
      go_roundw
      case rel => exact ⟨k + 1, by omega, by go_num, HXP2, HXR2, HXW2, HB2⟩
      case measure => simp [intOf]; omega
    · have e : l.take k = l := List.take_of_length_le (by rw [Hm.out]; omega)
      rw [e, Hln.out] at HXP
      have hge : ¬ (k : Int) < (m : Int) := by omega
      have q0 : wr.cell? ⟨nw + 1 + 1, 0, none⟩ = some (.bool true) := HXP.out.cell 0 (by simp)
      have q1 : wr.cell? ⟨nw + 1 + 1, 1, none⟩ = some (.slice va m vc) := HXP.out.cell 1 (by simp)
      have q2 : wr.cell? ⟨nw + 1 + 1, 2, none⟩ = some (.int .i64 time) := HXP.out.cell 2 (by simp)
      have q3 : wr.cell? ⟨nw + 1 + 1, 3, none⟩ = some (.int .i64 ln) := HXP.out.cell 3 (by simp)
      have u0 : wr.cell? ⟨nw + 1, 0, none⟩ = some (.bool false) := HXR.out.cell 0 (by simp)
      have u1 : wr.cell? ⟨nw + 1, 1, none⟩ = some (.slice none 0 0) := HXR.out.cell 1 (by simp)
      have u2 : wr.cell? ⟨nw + 1, 2, none⟩ = some (.int .i64 0) := HXR.out.cell 2 (by simp)
      have u3 : wr.cell? ⟨nw + 1, 3, none⟩ = some (.int .i64 0) := HXR.out.cell 3 (by simp)
      have f0 := HXR.out.free 0
      have f1 := HXR.out.free 1
      have f2 := HXR.out.free 2
      have f3 := HXR.out.free 3
      have ql := HXP.out.lt
      have ul := HXR.out.lt
      have XE : Blk ((((wr.setCell ⟨nw + 1, 0, none⟩ (.bool true)).setCell ⟨nw + 1, 1, none⟩ (.slice va m vc)).setCell ⟨nw + 1, 2, none⟩ (.int .i64 time)).setCell ⟨nw + 1, 3, none⟩ (.int .i64 ln)) (nw + 1) [.bool true, .slice va m vc, .int .i64 time, .int .i64 ln] := (((HXR.out.set 0 _ (by simp)).set 1 _ (by simp)).set 2 _ (by simp)).set 3 _ (by simp)
      have r0 := XE.cell 0 (by simp)
      have r1 := XE.cell 1 (by simp)
      have r2 := XE.cell 2 (by simp)
      have r3 := XE.cell 3 (by simp)
      simp only [List.getElem_cons_zero, List.getElem_cons_succ] at r0 r1 r2 r3
      have hle : w.heap.size ≤ nw + 1 := by rw [Hnw.out]; omega
      have HBE : Hid (Bel w ((((wr.setCell ⟨nw + 1, 0, none⟩ (.bool true)).setCell ⟨nw + 1, 1, none⟩ (.slice va m vc)).setCell ⟨nw + 1, 2, none⟩ (.int .i64 time)).setCell ⟨nw + 1, 3, none⟩ (.int .i64 ln))) := bel_set (bel_set (bel_set (bel_set HB.out hle _) hle _) hle _) hle _
      obtain ⟨X, HX⟩ : ∃ X, Hid (X = (((wr.setCell ⟨nw + 1, 0, none⟩ (.bool true)).setCell ⟨nw + 1, 1, none⟩ (.slice va m vc)).setCell ⟨nw + 1, 2, none⟩ (.int .i64 time)).setCell ⟨nw + 1, 3, none⟩ (.int .i64 ln)) := ⟨_, (rfl : (((wr.setCell ⟨nw + 1, 0, none⟩ (.bool true)).setCell ⟨nw + 1, 1, none⟩ (.slice va m vc)).setCell ⟨nw + 1, 2, none⟩ (.int .i64 time)).setCell ⟨nw + 1, 3, none⟩ (.int .i64 ln) = _)⟩
      rw [← HX.out] at r0 r1 r2 r3 HBE
      clear XE HXP HXR HXW
      go_wp2
      rw [← HX.out]
      exact bodyPost_ret (v := .agg #[.bool true, .slice va m vc, .int .i64 time, .int .i64 ln]) (by simp [results, Tryd.results38, go_sem, r0, r1, r2, r3]) rfl ⟨rfl, HBE.out⟩
end Go.Proofs.YtndijdnoikfnjaaDoor
