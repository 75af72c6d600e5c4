/-
  Contracts: what is asked of every way and of every area; at which places Ids stand.
-/
import Derived.Test.YtmmapkpieimibaaGreatAreaC
import Derived.Test.YtmmapkpieimibaaGreatAscC
namespace Go.Proofs.YtmmapkpieimibaaGreat
open Go.RowKit Go.Maps

/-- At which place an Id stands last. -/
def plc (I : Nat → Int) : Nat → Int → Option Int
  | 0, _ => none
  | k + 1, y => if y = I k then some (k : Int) else plc I k y
theorem plc_some (I : Nat → Int) (x : Int) : ∀ n, (plc I n x).isSome = bP (HasI n I x)
  | 0 => (bP_false fun ⟨i, hi, _⟩ => absurd hi (Nat.not_lt_zero _)).symm
  | n + 1 => by
    simp only [plc]
    split
    · next h => exact (bP_true ⟨n, Nat.lt_succ_self _, h.symm⟩).symm
    · next h =>
      rw [plc_some I x n]
      by_cases hh : HasI n I x
      · rw [bP_true hh]
        obtain ⟨i, hi, e⟩ := hh
        exact (bP_true ⟨i, by omega, e⟩).symm
      · rw [bP_false hh]
        refine (bP_false fun ⟨i, hi, e⟩ => ?_).symm
        by_cases en : i = n
        · subst en; exact h e.symm
        · exact hh ⟨i, by omega, e⟩
theorem plc_at {I : Nat → Int} {i : Nat} : ∀ {n : Nat}, i < n → (∀ j, i < j → j < n → I j ≠ I i) → plc I n (I i) = some (i : Int)
  | 0, h, _ => absurd h (Nat.not_lt_zero _)
  | n + 1, h, hu => by
    simp only [plc]
    by_cases e : i = n
    · subst e; simp
    · rw [if_neg (fun h' => hu n (by omega) (by omega) h'.symm)]
      exact plc_at (by omega) (fun j h1 h2 => hu j h1 (by omega))

set_option maxRecDepth 100000 in
set_option maxHeartbeats 1000000 in
theorem allW_any (an : Option Addr) (nn cn : Nat) (aw : Option Addr) (nw cw : Nat) (aa : Option Addr) (na ca : Nat) (bN bW : Nat) (a : Option Addr) (n c : Nat) (l : List WayD) (bs : List Nat) (nm m : Nat) (I : Nat → Int) (g : Int → Option Int) (w : World) (hT : WRecs w a l bs) (hn : l.length = n) (hm : n ≤ 1048576) (hs : ∀ i (h : i < l.length), l[i].nodes.length ≤ 1048576)
    (hM : MapAt w bN nm g) (hg : ∀ x, (g x).isSome = bP (HasI m I x)) :
    Calls Tryz.prog 113 #[.slice a n c, .func (.func 114) #[chV an nn cn aw nw cw aa na ca bN bW] #[]] w fun e w' => e = .returned (.bool (bP (∀ i (h : i < l.length), WayP m I l[i].nodes))) ∧ Bel w w' := by
  have Hn : Hid (l.length = n) := hn
  have Hg : Hid (∀ x, (g x).isSome = bP (HasI m I x)) := hg
  clear hn hg
  go_enter Tryz.func113, Tryz.ntmps113
  go_wp2
  go_loopw [6, 9] (fun _ i wr => ∃ k : Nat, k ≤ n ∧ i = .int .i64 k ∧ (∀ j (h : j < l.length), j < k → WayP m I l[j].nodes) ∧ Bel w wr) (fun _ i _ => n - (intOf i).toNat)
  case atStart => exact ⟨0, Nat.zero_le _, rfl, fun j _ hj => absurd hj (Nat.not_lt_zero _), Bel.refl _⟩
  case round =>
    obtain ⟨k, hk, rfl, hall, hbel⟩ := hrel
    have H : Hid (∀ j (h : j < l.length), j < k → WayP m I l[j].nodes) := hall
    clear hall
    by_cases hlt : k < n
    · have hkl : k < l.length := by rw [Hn.out]; exact hlt
      obtain ⟨b, off, f, rfl, hb, hx⟩ := (hT.bel wRecE hbel).out hkl
      obtain ⟨in0, c0, an1, kn1, a1, k1, bs1, bs2, _, _, _, c2, t2, c1, t1⟩ := hx k hkl
      have hMr := hM.bel (bel_alloc hbel (.cells #[.int .i64 l[k].id, .slice a1 l[k].tags.length k1, .slice an1 l[k].nodes.length kn1] 95))
      have t2' := t2.bel intE (bel_alloc (Bel.refl wr) (.cells #[.int .i64 l[k].id, .slice a1 l[k].tags.length k1, .slice an1 l[k].nodes.length kn1] 95))
      clear hx hT hM
      cases hf : bP (WayP m I l[k].nodes)
      · have HF : Hid (false = bP (∀ i (h : i < l.length), WayP m I l[i].nodes)) := (bP_false fun h => bP_not hf (h k hkl)).symm
        go_wp2_with fail
        refine (wayOk_any _ _ _ _ _ _ _ _ _ _ _ _ _ _ _ _ _ _ l[k].nodes bs1 nm m I g _ t2' rfl (hs k hkl) hMr Hg.out).mono ?_
        rintro e w1 ⟨rfl, hb1⟩
        rw [hf]
        have hB1 := bel_step (bel_alloc hbel _) hb1
        go_wp2
        go_ret
        exact ⟨ret_bl HF.out, hB1⟩
      · have HA : Hid (WayP m I l[k].nodes) := bP_out hf
        go_wp2_with fail
        refine (wayOk_any _ _ _ _ _ _ _ _ _ _ _ _ _ _ _ _ _ _ l[k].nodes bs1 nm m I g _ t2' rfl (hs k hkl) hMr Hg.out).mono ?_
        rintro e w1 ⟨rfl, hb1⟩
        rw [hf]
        have hB1 := bel_step (bel_alloc hbel _) hb1
        go_wp2
        go_roundw
        case rel => exact ⟨k + 1, by omega, by go_num, fun j h hj => by
                        (by_cases e : j = k)
                        · subst e; exact HA.out
                        · exact H.out j h (by omega), hB1⟩
        case measure => simp [intOf]; omega
    · have HT : Hid (true = bP (∀ i (h : i < l.length), WayP m I l[i].nodes)) := (bP_true fun j h => H.out j h (by rw [Hn.out] at h; omega)).symm
      go_wp2
      go_ret
      exact ⟨ret_bl HT.out, hbel⟩

set_option maxRecDepth 100000 in
set_option maxHeartbeats 1000000 in
theorem allA_any (an : Option Addr) (nn cn : Nat) (aw : Option Addr) (nw cw : Nat) (aa : Option Addr) (na ca : Nat) (bN bW : Nat) (a : Option Addr) (n c : Nat) (l : List AreaD) (bs : List Nat) (nm m : Nat) (I : Nat → Int) (g : Int → Option Int) (w : World) (hT : ARecs w a l bs) (hn : l.length = n) (hm : n ≤ 1048576) (hs : ∀ i (h : i < l.length), l[i].parts.length ≤ 1048576)
    (hM : MapAt w bW nm g) (hg : ∀ x, (g x).isSome = bP (HasI m I x)) :
    Calls Tryz.prog 115 #[.slice a n c, .func (.func 116) #[chV an nn cn aw nw cw aa na ca bN bW] #[]] w fun e w' => e = .returned (.bool (bP (∀ i (h : i < l.length), AreaP m I l[i].parts))) ∧ Bel w w' := by
  have Hn : Hid (l.length = n) := hn
  have Hg : Hid (∀ x, (g x).isSome = bP (HasI m I x)) := hg
  clear hn hg
  go_enter Tryz.func115, Tryz.ntmps115
  go_wp2
  go_loopw [6, 9] (fun _ i wr => ∃ k : Nat, k ≤ n ∧ i = .int .i64 k ∧ (∀ j (h : j < l.length), j < k → AreaP m I l[j].parts) ∧ Bel w wr) (fun _ i _ => n - (intOf i).toNat)
  case atStart => exact ⟨0, Nat.zero_le _, rfl, fun j _ hj => absurd hj (Nat.not_lt_zero _), Bel.refl _⟩
  case round =>
    obtain ⟨k, hk, rfl, hall, hbel⟩ := hrel
    have H : Hid (∀ j (h : j < l.length), j < k → AreaP m I l[j].parts) := hall
    clear hall
    by_cases hlt : k < n
    · have hkl : k < l.length := by rw [Hn.out]; exact hlt
      obtain ⟨b, off, f, rfl, hb, hx⟩ := (hT.bel aRecE hbel).out hkl
      obtain ⟨in0, c0, an1, kn1, a1, k1, bs1, bs2, _, _, _, c2, t2, c1, t1⟩ := hx k hkl
      have hMr := hM.bel (bel_alloc hbel (.cells #[.int .i64 l[k].id, .slice a1 l[k].tags.length k1, .slice an1 l[k].parts.length kn1] 98))
      have t2' := t2.bel partE (bel_alloc (Bel.refl wr) (.cells #[.int .i64 l[k].id, .slice a1 l[k].tags.length k1, .slice an1 l[k].parts.length kn1] 98))
      clear hx hT hM
      cases hf : bP (AreaP m I l[k].parts)
      · have HF : Hid (false = bP (∀ i (h : i < l.length), AreaP m I l[i].parts)) := (bP_false fun h => bP_not hf (h k hkl)).symm
        go_wp2_with fail
        refine (areaOk_any _ _ _ _ _ _ _ _ _ _ _ _ _ _ _ _ _ _ l[k].parts bs1 nm m I g _ t2' rfl (hs k hkl) hMr Hg.out).mono ?_
        rintro e w1 ⟨rfl, hb1⟩
        rw [hf]
        have hB1 := bel_step (bel_alloc hbel _) hb1
        go_wp2
        go_ret
        exact ⟨ret_bl HF.out, hB1⟩
      · have HA : Hid (AreaP m I l[k].parts) := bP_out hf
        go_wp2_with fail
        refine (areaOk_any _ _ _ _ _ _ _ _ _ _ _ _ _ _ _ _ _ _ l[k].parts bs1 nm m I g _ t2' rfl (hs k hkl) hMr Hg.out).mono ?_
        rintro e w1 ⟨rfl, hb1⟩
        rw [hf]
        have hB1 := bel_step (bel_alloc hbel _) hb1
        go_wp2
        go_roundw
        case rel => exact ⟨k + 1, by omega, by go_num, fun j h hj => by
                        (by_cases e : j = k)
                        · subst e; exact HA.out
                        · exact H.out j h (by omega), hB1⟩
        case measure => simp [intOf]; omega
    · have HT : Hid (true = bP (∀ i (h : i < l.length), AreaP m I l[i].parts)) := (bP_true fun j h => H.out j h (by rw [Hn.out] at h; omega)).symm
      go_wp2
      go_ret
      exact ⟨ret_bl HT.out, hbel⟩

set_option maxRecDepth 100000 in
set_option maxHeartbeats 1000000 in
theorem placesN_any (a : Option Addr) (n c : Nat) (l : List NodeD) (bs : List Nat) (w : World) (hT : NRecs w a l bs) (hn : l.length = n) (hm : n ≤ 1048576) :
    Calls Tryz.prog 81 #[.slice a n c] w fun e w' => ∃ b, e = .returned (.map (some b)) ∧ w.heap.size ≤ b ∧ MapAt w' b n (plc (nId l) n) ∧ Bel w w' := by
  have Hn : Hid (l.length = n) := hn
  clear hn
  have hmm := run_mkMap
  have hmk := methN_key
  go_enter Tryz.func81, Tryz.ntmps81
  go_wp2
  go_loopw [4, 5, 11] (fun _ _ i wr => ∃ k : Nat, k ≤ n ∧ i = .int .i64 k ∧ MapAt wr w.heap.size k (plc (nId l) k) ∧ Bel w wr) (fun _ _ i _ => n - (intOf i).toNat)
  case atStart => exact ⟨0, Nat.zero_le _, rfl, MapAt.new w, bel_alloc (Bel.refl _) _⟩
  case round =>
    obtain ⟨k, hk, rfl, hMk, hbel⟩ := hrel
    by_cases hlt : k < n
    · have hkl : k < l.length := by rw [Hn.out]; exact hlt
      obtain ⟨b, off, f, rfl, hb, hx⟩ := (hT.bel nRecE hbel).out hkl
      obtain ⟨in0, _, _, c0, c2, c3, a1, k1, _, c1, t1⟩ := hx k hkl
      have hMr := hMk.bel (bel_alloc (Bel.refl wr) (.cells #[.int .i64 l[k].id, .slice a1 l[k].tags.length k1, .int .i64 l[k].x, .int .i64 l[k].y] 91))
      clear hx hT hMk
      have HI : Hid (nId l k = l[k].id) := nId_at hkl
      go_wp2_with fail
      refine (key_any _ _ _ _ _).mono ?_
      rintro e w1 ⟨rfl, hb1⟩
      have hB1 := bel_step (bel_alloc hbel _) hb1
      obtain ⟨w2, hput, hM2, hg2⟩ := (hMr.bel hb1).put (by unfold maxLen; omega) in0 (c := (k : Int)) ⟨by omega, by omega⟩
      have HM2 : Hid (MapAt w2 w.heap.size (k + 1) (plc (nId l) (k + 1))) := by
        have e : (fun y => if y = l[k].id then some (k : Int) else plc (nId l) k y) = plc (nId l) (k + 1) := by funext y; simp only [plc, HI.out]
        rw [e] at hM2
        exact hM2
      have hB2 : Bel w w2 := bel_grow hB1 hg2 (fun j e => by injection e with e; omega)
      clear hMr hM2 hg2 hB1 hb1 hbel
      go_wp2
      go_roundw
      case rel => exact ⟨k + 1, by omega, by go_num, HM2.out, hB2⟩
      case measure => simp [intOf]; omega
    · have e : k = n := by omega
      subst e
      have HM : Hid (MapAt wr w.heap.size k (plc (nId l) k)) := hMk
      clear hMk
      go_wp2
      go_ret
      exact ⟨_, rfl, Nat.le_refl _, HM.out, hbel⟩

set_option maxRecDepth 100000 in
set_option maxHeartbeats 1000000 in
theorem placesW_any (a : Option Addr) (n c : Nat) (l : List WayD) (bs : List Nat) (w : World) (hT : WRecs w a l bs) (hn : l.length = n) (hm : n ≤ 1048576) :
    Calls Tryz.prog 82 #[.slice a n c] w fun e w' => ∃ b, e = .returned (.map (some b)) ∧ w.heap.size ≤ b ∧ MapAt w' b n (plc (wId l) n) ∧ Bel w w' := by
  have Hn : Hid (l.length = n) := hn
  clear hn
  have hmm := run_mkMap
  have hmk := methW_key
  go_enter Tryz.func82, Tryz.ntmps82
  go_wp2
  go_loopw [4, 5, 11] (fun _ _ i wr => ∃ k : Nat, k ≤ n ∧ i = .int .i64 k ∧ MapAt wr w.heap.size k (plc (wId l) k) ∧ Bel w wr) (fun _ _ i _ => n - (intOf i).toNat)
  case atStart => exact ⟨0, Nat.zero_le _, rfl, MapAt.new w, bel_alloc (Bel.refl _) _⟩
  case round =>
    obtain ⟨k, hk, rfl, hMk, hbel⟩ := hrel
    by_cases hlt : k < n
    · have hkl : k < l.length := by rw [Hn.out]; exact hlt
      obtain ⟨b, off, f, rfl, hb, hx⟩ := (hT.bel wRecE hbel).out hkl
      obtain ⟨in0, c0, an1, kn1, a1, k1, bs1, bs2, _, _, _, c2, t2, c1, t1⟩ := hx k hkl
      have hMr := hMk.bel (bel_alloc (Bel.refl wr) (.cells #[.int .i64 l[k].id, .slice a1 l[k].tags.length k1, .slice an1 l[k].nodes.length kn1] 95))
      clear hx hT hMk
      have HI : Hid (wId l k = l[k].id) := wId_at hkl
      go_wp2_with fail
      refine (key_any _ _ _ _ _).mono ?_
      rintro e w1 ⟨rfl, hb1⟩
      have hB1 := bel_step (bel_alloc hbel _) hb1
      obtain ⟨w2, hput, hM2, hg2⟩ := (hMr.bel hb1).put (by unfold maxLen; omega) in0 (c := (k : Int)) ⟨by omega, by omega⟩
      have HM2 : Hid (MapAt w2 w.heap.size (k + 1) (plc (wId l) (k + 1))) := by
        have e : (fun y => if y = l[k].id then some (k : Int) else plc (wId l) k y) = plc (wId l) (k + 1) := by funext y; simp only [plc, HI.out]
        rw [e] at hM2
        exact hM2
      have hB2 : Bel w w2 := bel_grow hB1 hg2 (fun j e => by injection e with e; omega)
      clear hMr hM2 hg2 hB1 hb1 hbel
      go_wp2
      go_roundw
      case rel => exact ⟨k + 1, by omega, by go_num, HM2.out, hB2⟩
      case measure => simp [intOf]; omega
    · have e : k = n := by omega
      subst e
      have HM : Hid (MapAt wr w.heap.size k (plc (wId l) k)) := hMk
      clear hMk
      go_wp2
      go_ret
      exact ⟨_, rfl, Nat.le_refl _, HM.out, hbel⟩

end Go.Proofs.YtmmapkpieimibaaGreat
