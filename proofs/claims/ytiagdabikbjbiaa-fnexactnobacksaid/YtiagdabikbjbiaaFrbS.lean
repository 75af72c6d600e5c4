/-
  A turn forbidden, in the model: contract of l9Forbid.
-/
import Derived.Test.YtiagdabikbjbiaaAddS
import Derived.Test.YtiagdabikbjbiaaPlcS
import Derived.Test.YtiagdabikbjbiaaFrbI
namespace Go.Proofs.Ytiagdabikbjbiaa
open Go.RowKit Go.Maps

theorem wyb_succ {rs : List RoadD} {k : Nat} (hk : k < rs.length) (t : Bool) (p : Nat) (y : Int) :
    wyL (bgF rs (k + 1) t p) rs y = if endR t rs[k] = (p : Int) ∧ rs[k].way = y then wyL (bgF rs k t p) rs y ++ [(k : Int)] else wyL (bgF rs k t p) rs y := by
  rw [bgF_succ hk]
  by_cases h1 : endR t rs[k] = (p : Int)
  · rw [if_pos h1]
    by_cases h2 : rs[k].way = y
    · rw [if_pos ⟨h1, h2⟩]; unfold wyL; rw [List.filter_append]; simp [hk, h2]
    · rw [if_neg (fun h => h2 h.2)]; unfold wyL; rw [List.filter_append]; simp [hk, h2]
  · rw [if_neg h1, if_neg (fun h => h1 h.1)]
theorem onto_snoc (L : List BanD) (f : Int) (l : List Int) (x : Int) : onto L f (l ++ [x]) = capB (onto L f l) ⟨f, x⟩ := by unfold onto; rw [List.foldl_append]; rfl
theorem frbB_snoc (L : List BanD) (l into : List Int) (x : Int) : frbB L (l ++ [x]) into = onto (frbB L l into) x into := by unfold frbB; rw [List.foldl_append]; rfl
theorem onto_stay {L : List BanD} {f : Int} {rs : List RoadD} {p : Nat} {y : Int} {k : Nat} (h : ¬ (onto L f (wyL (bgF rs k true p) rs y)).length ≤ 2000) : ∀ d, k + d ≤ rs.length → onto L f (wyL (bgF rs (k + d) true p) rs y) = onto L f (wyL (bgF rs k true p) rs y)
  | 0, _ => rfl
  | d + 1, hd => by
    have hi := onto_stay h d (by omega)
    rw [← Nat.add_assoc, wyb_succ (by omega)]
    split
    · rw [onto_snoc, hi, capB_no h]
    · exact hi
theorem wyb_zero (rs : List RoadD) (t : Bool) (p : Nat) (y : Int) : wyL (bgF rs 0 t p) rs y = [] := rfl

/-- A row of bans in a variable: that of the beginning, or one of the call's own. -/
structure BRow (W : World) (a : Option Addr) (c : Nat) (bs : List Nat) (w : World) (L : List BanD) (a' : Option Addr) (n' c' : Nat) (bs' : List Nat) : Prop where
  row : BanL w a' L bs'
  len : L.length = n'
  cap : n' ≤ c'
  srt : SrtB L
  own : (a' = a ∧ c' = c ∧ bs' = bs) ∨ Fresh W w bs'
theorem BRow.bel {W w w' : World} {a : Option Addr} {c : Nat} {bs : List Nat} {L : List BanD} {a' : Option Addr} {n' c' : Nat} {bs' : List Nat} (h : BRow W a c bs w L a' n' c' bs') (hb : Bel w w') : BRow W a c bs w' L a' n' c' bs' :=
  ⟨h.row.bel banE hb, h.len, h.cap, h.srt, h.own.imp id fun h => h.bel hb⟩
theorem BRow.set {W w : World} {a : Option Addr} {c : Nat} {bs : List Nat} {L : List BanD} {a' : Option Addr} {n' c' : Nat} {bs' : List Nat} (h : BRow W a c bs w L a' n' c' bs') {B : Nat} (hB : B < W.heap.size) (hbs : B ∉ bs) (j : Nat) (v : Value) : BRow W a c bs (w.setCell ⟨B, j, none⟩ v) L a' n' c' bs' := by
  have hn : B ∉ bs' := fun hm => by
    rcases h.own with ⟨_, _, e⟩ | h'
    · exact hbs (e ▸ hm)
    · have := (h'.new B hm).1; omega
  have al : Alike w (w.setCell ⟨B, j, none⟩ v) bs' := (Alike.refl (h.row.lt banE)).set hn _ _
  exact ⟨h.row.alike banE al, h.len, h.cap, h.srt, h.own.imp id fun h => ⟨h.nd, fun b hm => ⟨(h.new b hm).1, (al b hm).1⟩, fun b hm j => by rw [(al b hm).2.2 j]; exact h.free b hm j⟩⟩
theorem BRow.add {W w w' : World} {a : Option Addr} {c : Nat} {bs : List Nat} {L : List BanD} {a' : Option Addr} {n' c' : Nat} {bs' : List Nat} (h : BRow W a c bs w L a' n' c' bs') (hW : W.heap.size ≤ w.heap.size) {d : BanD} {e : Ending} (hA : AddOut w a' c' L d e w') :
    ∃ a2 n2 c2 b2, e = .returned (.slice a2 n2 c2) ∧ BRow W a c bs w' (addB L d) a2 n2 c2 b2 ∧ Bel w w' := by
  rcases hA with ⟨rfl, e1, hb⟩ | ⟨v', rfl, hO, hP, hb⟩
  · exact ⟨a', _, c', bs', rfl, by rw [e1, h.len]; exact h.bel hb, hb⟩
  · obtain ⟨p, q, ds, rfl, hT, hM⟩ := banF.out hO (fun i hi => hP _ (List.getElem_mem hi))
    have hcap : (addB L d).length ≤ q := by
      rcases hO.2 with ⟨_, e1⟩ | ⟨_, _, _, e1, _, _, h3, _⟩
      · rw [e1]; exact Nat.zero_le _
      · injection e1 with _ _ e1
        rw [e1]; exact h3
    exact ⟨p, _, q, ds, rfl, ⟨hT, rfl, hcap, addB_srt L d h.srt, .inr ((hM.fresh (Nat.le_refl _)).old hW)⟩, hb⟩
theorem BRow.from_ {V W w : World} {a : Option Addr} {c : Nat} {bs : List Nat} {L : List BanD} {a' : Option Addr} {n' c' : Nat} {bs' : List Nat} (h : BRow W a c bs w L a' n' c' bs') (hW : V.heap.size ≤ W.heap.size) : BRow V a c bs w L a' n' c' bs' :=
  ⟨h.row, h.len, h.cap, h.srt, h.own.imp id fun h => h.old hW⟩

set_option maxRecDepth 100000 in
set_option maxHeartbeats 4000000 in
theorem frbS_any (a0 : Option Addr) (n0 c0 : Nat) (a1 : Option Addr) (n1 c1 : Nat) (a2 : Option Addr) (n2 c2 : Nat) (g : GraphD) (L0 : List BanD) (b0 b1 b2 : List Nat) (way id next : Int) (p : Nat) (w : World) (t0 : SpotL w a0 g.places b0) (t1 : RoadL w a1 g.roads b1) (hR : BanL w a2 L0 b2) (e0 : g.places.length = n0) (e1 : g.roads.length = n1) (e2 : L0.length = n2) (hcap : n2 ≤ c2) (hsrt : SrtB L0) (m0 : n0 ≤ 5000) (m1 : n1 ≤ 8000) (hP : spotsP g.places) (hsp : spl g.places id = some p) :
    Calls Try.prog 25 #[gphV a0 n0 c0 a1 n1 c1 a2 n2 c2, .int .i64 way, .int .i64 id, .int .i64 next] w
      fun e w' => ∃ a' n' c' b', e = .returned (gphV a0 n0 c0 a1 n1 c1 a' n' c') ∧ BRow w a2 c2 b2 w' (frbB L0 (wyL (bgF g.roads n1 false p) g.roads way) (wyL (bgF g.roads n1 true p) g.roads next)) a' n' c' b' ∧ Bel w w' := by
  have hsi : splI g.places id = (p : Int) := by unfold splI; rw [hsp]; rfl
  obtain ⟨Li, HLi⟩ : ∃ Li : Nat → Nat → List BanD, Hid (∀ i j, Li i j = onto (frbB L0 (wyL (bgF g.roads i false p) g.roads way) (wyL (bgF g.roads n1 true p) g.roads next)) i (wyL (bgF g.roads j true p) g.roads next)) := ⟨_, ((fun _ _ => rfl) : ∀ i j : Nat, (fun i j => onto (frbB L0 (wyL (bgF g.roads i false p) g.roads way) (wyL (bgF g.roads n1 true p) g.roads next)) i (wyL (bgF g.roads j true p) g.roads next)) i j = onto (frbB L0 (wyL (bgF g.roads i false p) g.roads way) (wyL (bgF g.roads n1 true p) g.roads next)) i (wyL (bgF g.roads j true p) g.roads next))⟩
  obtain ⟨Lf, HLf⟩ : ∃ Lf : Nat → List BanD, Hid (∀ i, Lf i = frbB L0 (wyL (bgF g.roads i false p) g.roads way) (wyL (bgF g.roads n1 true p) g.roads next)) := ⟨_, ((fun _ => rfl) : ∀ i : Nat, (fun i => frbB L0 (wyL (bgF g.roads i false p) g.roads way) (wyL (bgF g.roads n1 true p) g.roads next)) i = frbB L0 (wyL (bgF g.roads i false p) g.roads way) (wyL (bgF g.roads n1 true p) g.roads next))⟩
  rw [← HLf.out n1]
  have Hf0 : Hid (Lf 0 = L0) := (by rw [HLf.out]; rfl : Lf 0 = L0)
  have Hi0 : Hid (∀ i, Li i 0 = Lf i) := fun i => by rw [HLi.out, HLf.out]; rfl
  have Hfs : Hid (∀ i (h : i < g.roads.length), Lf (i + 1) = if g.roads[i].to = (p : Int) ∧ g.roads[i].way = way then Li i n1 else Lf i) := fun i h => by
    rw [HLf.out, wyb_succ h]
    by_cases hc : g.roads[i].to = (p : Int) ∧ g.roads[i].way = way
    · rw [if_pos (show endR false g.roads[i] = (p : Int) ∧ g.roads[i].way = way from hc), if_pos hc, frbB_snoc, HLi.out]
    · rw [if_neg (show ¬ (endR false g.roads[i] = (p : Int) ∧ g.roads[i].way = way) from hc), if_neg hc, HLf.out]
  have His : Hid (∀ i k (h : k < g.roads.length), Li i (k + 1) = if g.roads[k].fr = (p : Int) ∧ g.roads[k].way = next then capB (Li i k) ⟨i, k⟩ else Li i k) := fun i k h => by
    rw [HLi.out, wyb_succ h]
    by_cases hc : g.roads[k].fr = (p : Int) ∧ g.roads[k].way = next
    · rw [if_pos (show endR true g.roads[k] = (p : Int) ∧ g.roads[k].way = next from hc), if_pos hc, onto_snoc, HLi.out]
    · rw [if_neg (show ¬ (endR true g.roads[k] = (p : Int) ∧ g.roads[k].way = next) from hc), if_neg hc, HLi.out]
  have Hie : Hid (∀ i k, k ≤ n1 → ¬ (Li i k).length ≤ 2000 → Li i n1 = Li i k) := fun i k hk h => by
    rw [HLi.out] at h
    rw [HLi.out, HLi.out]
    have h' := onto_stay h (n1 - k) (by rw [e1]; omega)
    rwa [Nat.add_sub_cancel' hk] at h'
  have HE1 : Hid (g.roads.length = n1) := e1
  obtain ⟨W, HW⟩ : ∃ W, Hid (W = (w.alloc (.cells #[.slice a0 n0 c0, .slice a1 n1 c1, .slice a2 n2 c2] 34)).alloc (.cells #[.slice none 0 0, .slice none 0 0, .slice none 0 0] 34)) := ⟨_, (rfl : (w.alloc (.cells #[.slice a0 n0 c0, .slice a1 n1 c1, .slice a2 n2 c2] 34)).alloc (.cells #[.slice none 0 0, .slice none 0 0, .slice none 0 0] 34) = _)⟩
  have hBW : Bel w W := by rw [HW.out]; exact bel_alloc (bel_alloc (Bel.refl _) _) _
  have XG : Blk W w.heap.size [.slice a0 n0 c0, .slice a1 n1 c1, .slice a2 n2 c2] := by rw [HW.out]; exact (Blk.new w [.slice a0 n0 c0, .slice a1 n1 c1, .slice a2 n2 c2] _).bel (bel_alloc (Bel.refl _) _)
  have XR : Blk W (w.heap.size + 1) [.slice none 0 0, .slice none 0 0, .slice none 0 0] := by rw [HW.out]; exact Blk.new1 w _ [.slice none 0 0, .slice none 0 0, .slice none 0 0] _
  have hlo : w.heap.size ≤ w.heap.size + 1 := Nat.le_succ _
  have HBs : Hid (w.heap.size < W.heap.size) := XG.lt
  have HB2 : Hid (w.heap.size + 1 < W.heap.size) := XR.lt
  have HW2 : Hid (w.heap.size ≤ W.heap.size) := hBW.out.size
  have HNb2 : Hid (w.heap.size + 1 ∉ b2) := (fun h => absurd (hR.lt banE _ h) (by omega) : w.heap.size + 1 ∉ b2)
  have HNb : Hid (w.heap.size ∉ b2) := (fun h => absurd (hR.lt banE _ h) (Nat.lt_irrefl _) : w.heap.size ∉ b2)
  have HR0 : Hid (BRow W a2 c2 b2 W L0 a2 n2 c2 b2) := (⟨hR.bel banE hBW, e2, hcap, hsrt, .inl ⟨rfl, rfl, rfl⟩⟩ : BRow W a2 c2 b2 W L0 a2 n2 c2 b2)
  have x0 : W.cell? ⟨w.heap.size, 0, none⟩ = some (.slice a0 n0 c0) := XG.cell 0 (by simp)
  have x1 : W.cell? ⟨w.heap.size, 1, none⟩ = some (.slice a1 n1 c1) := XG.cell 1 (by simp)
  have x2 : W.cell? ⟨w.heap.size, 2, none⟩ = some (.slice a2 n2 c2) := XG.cell 2 (by simp)
  have xl := XG.lt
  have HP := l9Place_any a0 n0 c0 a1 n1 c1 a2 n2 c2 g.places b0 id W (t0.bel spotE hBW) e0 m0 hP
  rw [hsi] at HP
  clear hsi e0 e1 e2 hsp hP hsrt hcap hR
  go_enter Try.func25, Try.ntmps25
  go_upto_region 1 with fail
  rw [← HW.out]
  go_wp2_with fail
  refine HP.mono ?_
  rintro e w1 ⟨rfl, hb1⟩
  have HR1 := HR0.out.bel hb1
  have XG1 := XG.bel hb1
  have XR1 := XR.bel hb1
  have hB1 := bel_step hBW hb1
  have hs1 : W.heap.size ≤ w1.heap.size := hb1.out.size
  clear x0 x1 x2 xl HP XG XR
  go_wp2_with fail
  go_loopw [10, 11] (fun i _ wr => ∃ (k : Nat) (a : Option Addr) (n c : Nat) (bs : List Nat), k ≤ n1 ∧ i = .int .i64 k ∧ Hid (BRow W a2 c2 b2 wr (Lf k) a n c bs) ∧ Hid (Blk wr w.heap.size [.slice a0 n0 c0, .slice a1 n1 c1, .slice a n c]) ∧ Hid (Blk wr (w.heap.size + 1) [.slice none 0 0, .slice none 0 0, .slice none 0 0]) ∧ Hid (Bel w wr) ∧ Hid (W.heap.size ≤ wr.heap.size)) (fun i _ _ => n1 - (intOf i).toNat)
  case atStart => exact ⟨0, a2, n2, c2, b2, Nat.zero_le _, rfl, by rw [Hf0.out]; exact HR1, XG1, XR1, hB1, hs1⟩
  case round =>
    obtain ⟨k, a, n, c, bs, hk1, rfl, HRr, HXG, HXR, HB, Hs⟩ := hrel
    have x0 : wr.cell? ⟨w.heap.size, 0, none⟩ = some (.slice a0 n0 c0) := HXG.out.cell 0 (by simp)
    have x1 : wr.cell? ⟨w.heap.size, 1, none⟩ = some (.slice a1 n1 c1) := HXG.out.cell 1 (by simp)
    have x2 : wr.cell? ⟨w.heap.size, 2, none⟩ = some (.slice a n c) := HXG.out.cell 2 (by simp)
    have xl := HXG.out.lt
    by_cases hlt : k < n1
    · have hkl : k < g.roads.length := by rw [HE1.out]; exact hlt
      have hlt' : (k : Int) < (n1 : Int) := by omega
      obtain ⟨b, off, ff, rfl, hb, hx⟩ := (t1.bel roadE HB.out).out hkl
      obtain ⟨_, _, _, _, _, _, _, z0, z1, z2, _⟩ := hx k hkl
      obtain ⟨dt, Hdt⟩ : ∃ d, Hid (d = g.roads[k].to) := ⟨_, (rfl : g.roads[k].to = _)⟩
      obtain ⟨dw, Hdw⟩ : ∃ d, Hid (d = g.roads[k].way) := ⟨_, (rfl : g.roads[k].way = _)⟩
      rw [← Hdt.out] at z1
      rw [← Hdw.out] at z2
      clear hx z0
      have hend : ∀ (h : ¬ (dt = (p : Int) ∧ dw = way)), Hid (Lf (k + 1) = Lf k) := fun h => show Lf (k + 1) = Lf k by
        rw [Hfs.out k hkl, if_neg (by rw [← Hdt.out, ← Hdw.out]; exact h)]
      by_cases hw : dw = way
      rotate_left
      · have HN := hend (fun h => hw h.2)
        have q1 : (dw != way) = true := by simp [hw]
        clear hend hw
        go_wp2_with fail
        go_roundw
        case rel => exact ⟨k + 1, a, n, c, bs, by omega, by go_num, by rw [HN.out]; exact HRr, HXG, HXR, HB, Hs⟩
        case measure => simp [intOf]; omega
      · by_cases ht : dt = (p : Int)
        rotate_left
        · have HN := hend (fun h => ht h.1)
          have q1 : (dw != way) = false := by simp [hw]
          have q2 : (dt != (p : Int)) = true := by simp [ht]
          clear hend hw ht
          go_wp2_with fail
          go_roundw
          case rel => exact ⟨k + 1, a, n, c, bs, by omega, by go_num, by rw [HN.out]; exact HRr, HXG, HXR, HB, Hs⟩
          case measure => simp [intOf]; omega
        · have HY : Hid (Lf (k + 1) = Li k n1) := (by rw [Hfs.out k hkl, if_pos (by rw [← Hdt.out, ← Hdw.out]; exact ⟨ht, hw⟩)] : Lf (k + 1) = Li k n1)
          have q1 : (dw != way) = false := by simp [hw]
          have q2 : (dt != (p : Int)) = false := by simp [ht]
          clear hend hw ht
          go_wp2_with fail
          clear x0 x1 x2 xl z1 z2 q1 q2
          go_loopw [11] (fun i wr => ∃ (j : Nat) (a : Option Addr) (n c : Nat) (bs : List Nat), j ≤ n1 ∧ i = .int .i64 j ∧ Hid (BRow W a2 c2 b2 wr (Li k j) a n c bs) ∧ Hid (Blk wr w.heap.size [.slice a0 n0 c0, .slice (some ⟨b, off, none⟩) n1 c1, .slice a n c]) ∧ Hid (Blk wr (w.heap.size + 1) [.slice none 0 0, .slice none 0 0, .slice none 0 0]) ∧ Hid (Bel w wr) ∧ Hid (W.heap.size ≤ wr.heap.size)) (fun i _ => n1 - (intOf i).toNat)
          case atStart => exact ⟨0, a, n, c, bs, Nat.zero_le _, rfl, by rw [Hi0.out]; exact HRr, HXG, HXR, HB, Hs⟩
          case round =>
            clear HRr HXG HXR HB Hs
            obtain ⟨j, a, n, c, bs, hj1, rfl, HRr, HXG, HXR, HB, Hs⟩ := hrel
            have x0 : wr.cell? ⟨w.heap.size, 0, none⟩ = some (.slice a0 n0 c0) := HXG.out.cell 0 (by simp)
            have x1 : wr.cell? ⟨w.heap.size, 1, none⟩ = some (.slice (some ⟨b, off, none⟩) n1 c1) := HXG.out.cell 1 (by simp)
            have x2 : wr.cell? ⟨w.heap.size, 2, none⟩ = some (.slice a n c) := HXG.out.cell 2 (by simp)
            have xl := HXG.out.lt
            by_cases hjn : j < n1
            rotate_left
            · obtain rfl : j = n1 := by omega
              go_wp2_with fail
              go_roundw
              case rel => exact ⟨k + 1, a, n, c, bs, by omega, by go_num, by rw [HY.out]; exact HRr, HXG, HXR, HB, Hs⟩
              case measure => simp [intOf]; omega
            have hjI : (j : Int) < (n1 : Int) := by omega
            by_cases hn : n ≤ 2000
            rotate_left
            · have hnI : ¬ (n : Int) ≤ 2000 := by omega
              have HS : Hid (Li k n1 = Li k j) := Hie.out k j hj1 (by rw [HRr.out.len]; exact hn)
              go_wp2_with fail
              go_roundw
              case rel => exact ⟨k + 1, a, n, c, bs, by omega, by go_num, by rw [HY.out, HS.out]; exact HRr, HXG, HXR, HB, Hs⟩
              case measure => simp [intOf]; omega
            have hnI : (n : Int) ≤ 2000 := by omega
            have hjl : j < g.roads.length := by rw [HE1.out]; exact hjn
            obtain ⟨b', off', ff', e, hb', hx⟩ := (t1.bel roadE HB.out).out hjl
            injection e with e
            injection e with e1 e2
            subst e1 e2
            obtain ⟨_, _, _, _, _, _, _, z0, z1, z2, _⟩ := hx j hjl
            obtain ⟨df, Hdf⟩ : ∃ d, Hid (d = g.roads[j].fr) := ⟨_, (rfl : g.roads[j].fr = _)⟩
            obtain ⟨dw, Hdw⟩ : ∃ d, Hid (d = g.roads[j].way) := ⟨_, (rfl : g.roads[j].way = _)⟩
            rw [← Hdf.out] at z0
            rw [← Hdw.out] at z2
            clear hx z1
            have hend : ∀ (h : ¬ (df = (p : Int) ∧ dw = next)), Hid (Li k (j + 1) = Li k j) := fun h => show Li k (j + 1) = Li k j by
              rw [His.out k j hjl, if_neg (by rw [← Hdf.out, ← Hdw.out]; exact h)]
            by_cases hw : dw = next
            rotate_left
            · have HN := hend (fun h => hw h.2)
              have q1 : (dw == next) = false := by simp [hw]
              clear hend hw
              go_wp2_with fail
              go_roundw
              case rel => exact ⟨j + 1, a, n, c, bs, by omega, by go_num, by rw [HN.out]; exact HRr, HXG, HXR, HB, Hs⟩
              case measure => simp [intOf]; omega
            by_cases ht : df = (p : Int)
            rotate_left
            · have HN := hend (fun h => ht h.1)
              have q1 : (dw == next) = true := by simp [hw]
              have q2 : (df == (p : Int)) = false := by simp [ht]
              clear hend hw ht
              go_wp2_with fail
              go_roundw
              case rel => exact ⟨j + 1, a, n, c, bs, by omega, by go_num, by rw [HN.out]; exact HRr, HXG, HXR, HB, Hs⟩
              case measure => simp [intOf]; omega
            have HN : Hid (Li k (j + 1) = addB (Li k j) ⟨k, j⟩) := (by rw [His.out k j hjl, if_pos (by rw [← Hdf.out, ← Hdw.out]; exact ⟨ht, hw⟩), capB_yes (by rw [HRr.out.len]; exact hn)] : Li k (j + 1) = addB (Li k j) ⟨k, j⟩)
            have q1 : (dw == next) = true := by simp [hw]
            have q2 : (df == (p : Int)) = true := by simp [ht]
            have hin : In64 (k : Int) ∧ In64 (j : Int) := by unfold In64; omega
            clear hend hw ht
            go_wp2_with fail
            refine (addBan_any a n c (Li k j) bs k j wr HRr.out.row HRr.out.len (by omega) HRr.out.srt hin.1 hin.2 HRr.out.cap).mono ?_
            intro e w2 hA
            obtain ⟨a', n', c', bs', rfl, HR2, hb2⟩ := HRr.out.add Hs.out hA
            have HR2 : Hid _ := HR2
            have XG2 := HXG.out.bel hb2
            have XR2 := HXR.out.bel hb2
            have hB2 := bel_step HB.out hb2
            have hs2 := Nat.le_trans Hs.out hb2.out.size
            clear x0 x1 x2 xl z0 z2 q1 q2
            have x0 : w2.cell? ⟨w.heap.size, 0, none⟩ = some (.slice a0 n0 c0) := XG2.cell 0 (by simp)
            have x1 : w2.cell? ⟨w.heap.size, 1, none⟩ = some (.slice (some ⟨b, off, none⟩) n1 c1) := XG2.cell 1 (by simp)
            have x2 : w2.cell? ⟨w.heap.size, 2, none⟩ = some (.slice a n c) := XG2.cell 2 (by simp)
            have xf := XG2.free 2
            have xl := XG2.lt
            go_wp2_with fail
            go_roundw
            case rel => exact ⟨j + 1, a', n', c', bs', by omega, by go_num, by rw [HN.out]; exact HR2.out.set HBs.out HNb.out 2 _, XG2.set 2 (.slice a' n' c') (by simp), XR2.far (by omega), bel_set hB2 (Nat.le_refl _) _, (by simpa [World.setCell] using hs2 : W.heap.size ≤ (w2.setCell ⟨w.heap.size, 2, none⟩ (.slice a' n' c')).heap.size)⟩
            case measure => simp [intOf]; omega
    · obtain rfl : k = n1 := by omega
      have u0 := HXR.out.cell 0 (by simp)
      have u1 := HXR.out.cell 1 (by simp)
      have u2 := HXR.out.cell 2 (by simp)
      have f0 := HXR.out.free 0
      have f1 := HXR.out.free 1
      have f2 := HXR.out.free 2
      have fl := HXR.out.lt
      simp only [List.getElem_cons_zero, List.getElem_cons_succ] at u0 u1 u2
      obtain ⟨X, HX⟩ : ∃ X, Hid (X = ((wr.setCell ⟨w.heap.size + 1, 0, none⟩ (.slice a0 n0 c0)).setCell ⟨w.heap.size + 1, 1, none⟩ (.slice a1 k c1)).setCell ⟨w.heap.size + 1, 2, none⟩ (.slice a n c)) := ⟨_, (rfl : ((wr.setCell ⟨w.heap.size + 1, 0, none⟩ (.slice a0 n0 c0)).setCell ⟨w.heap.size + 1, 1, none⟩ (.slice a1 k c1)).setCell ⟨w.heap.size + 1, 2, none⟩ (.slice a n c) = _)⟩
      have XX : Blk X (w.heap.size + 1) [.slice a0 n0 c0, .slice a1 k c1, .slice a n c] := by rw [HX.out]; exact ((HXR.out.set 0 _ (by simp)).set 1 _ (by simp)).set 2 _ (by simp)
      have hBX : Bel w X := by rw [HX.out]; exact bel_set (bel_set (bel_set HB.out hlo _) hlo _) hlo _
      have HRX : Hid (BRow W a2 c2 b2 X (Lf k) a n c bs) := (by rw [HX.out]; exact ((HRr.out.set HB2.out HNb2.out 0 _).set HB2.out HNb2.out 1 _).set HB2.out HNb2.out 2 _ : BRow W a2 c2 b2 X (Lf k) a n c bs)
      have s0 := XX.cell 0 (by simp)
      have s1 := XX.cell 1 (by simp)
      have s2 := XX.cell 2 (by simp)
      simp only [List.getElem_cons_zero, List.getElem_cons_succ] at s0 s1 s2
      clear XX
      go_wp2_with fail
      rw [← HX.out]
      exact bodyPost_ret (v := .agg #[.slice a0 n0 c0, .slice a1 k c1, .slice a n c]) (by simp [results, Try.results25, go_sem, s0, s1, s2]) rfl ⟨a, n, c, bs, rfl, HRX.out.from_ HW2.out, hBX⟩
end Go.Proofs.Ytiagdabikbjbiaa
