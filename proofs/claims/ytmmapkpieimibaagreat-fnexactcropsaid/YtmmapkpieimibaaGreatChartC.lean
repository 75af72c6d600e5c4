/-
  Contract of the question whether a chart can be: for every chart.
-/
import Derived.Test.YtmmapkpieimibaaGreatOkC
namespace Go.Proofs.YtmmapkpieimibaaGreat
open Go.RowKit Go.Maps

/-- What is asked of a map, but for how many there are. -/
structure ChartP (ns : List NodeD) (ws : List WayD) (rs : List AreaD) (nn nw na : Nat) : Prop where
  b1 : AscP nn (nId ns) (nTg ns)
  b2 : AscP nw (wId ws) (wTg ws)
  b3 : AscP na (aId rs) (aTg rs)
  b4 : ∀ i, i < nn → nPk ns i = true
  b5 : ∀ i (h : i < ws.length), WayP nn (nId ns) ws[i].nodes
  b6 : ∀ i (h : i < rs.length), AreaP nw (wId ws) rs[i].parts

set_option maxRecDepth 100000 in
set_option maxHeartbeats 2000000 in
theorem chartOk_any (an : Option Addr) (nn cn : Nat) (aw : Option Addr) (nw cw : Nat) (aa : Option Addr) (na ca : Nat) (bN bW : Nat) (ns : List NodeD) (ws : List WayD) (rs : List AreaD) (bsN bsW bsA : List Nat) (w : World)
    (hN : NRecs w an ns bsN) (eN : ns.length = nn) (mN : nn ≤ 1048576) (tN : ∀ i (h : i < ns.length), ns[i].tags.length ≤ 1048576)
    (hW : WRecs w aw ws bsW) (eW : ws.length = nw) (mW : nw ≤ 1048576) (tW : ∀ i (h : i < ws.length), ws[i].nodes.length ≤ 1048576 ∧ ws[i].tags.length ≤ 1048576)
    (hA : ARecs w aa rs bsA) (eA : rs.length = na) (mA : na ≤ 1048576) (tA : ∀ i (h : i < rs.length), rs[i].parts.length ≤ 1048576 ∧ rs[i].tags.length ≤ 1048576)
    (gN : MapAt w bN nn (plc (nId ns) nn)) (gW : MapAt w bW nw (plc (wId ws) nw)) :
    Calls Tryz.prog 83 #[chV an nn cn aw nw cw aa na ca bN bW] w fun e w' => e = .returned (.bool (bP (ChartP ns ws rs nn nw na))) ∧ Bel w w' := by
  have S0 : Bel w (w.alloc (.cells #[.slice an nn cn, .slice aw nw cw, .slice aa na ca, .map (some bN), .map (some bW)] 81)) := bel_alloc (Bel.refl _) _
  have X0 : Blk (w.alloc (.cells #[.slice an nn cn, .slice aw nw cw, .slice aa na ca, .map (some bN), .map (some bW)] 81)) w.heap.size [.slice an nn cn, .slice aw nw cw, .slice aa na ca, .map (some bN), .map (some bW)] := Blk.new w [.slice an nn cn, .slice aw nw cw, .slice aa na ca, .map (some bN), .map (some bW)] _
  cases h1 : bP (AscP nn (nId ns) (nTg ns))
  · have HF : Hid (false = bP (ChartP ns ws rs nn nw na)) := (bP_false fun h => bP_not h1 h.b1).symm
    go_enter Tryz.func83, Tryz.ntmps83
    go_wp2_with fail
    refine (ascN_any _ _ _ ns bsN _ (hN.bel nRecE S0) eN mN tN).mono ?_
    rintro e w1 ⟨rfl, hb1⟩
    rw [h1]
    have S1 := bel_step S0 hb1
    go_wp2
    go_ret
    exact ⟨ret_bl HF.out, S1⟩
  · have q1 : Hid (AscP nn (nId ns) (nTg ns)) := bP_out h1
    cases h2 : bP (AscP nw (wId ws) (wTg ws))
    · have HF : Hid (false = bP (ChartP ns ws rs nn nw na)) := (bP_false fun h => bP_not h2 h.b2).symm
      go_enter Tryz.func83, Tryz.ntmps83
      go_wp2_with fail
      refine (ascN_any _ _ _ ns bsN _ (hN.bel nRecE S0) eN mN tN).mono ?_
      rintro e w1 ⟨rfl, hb1⟩
      rw [h1]
      have S1 := bel_step S0 hb1
      have X1 := X0.bel hb1
      have x10 : w1.cell? ⟨w.heap.size, 0, none⟩ = some (.slice an nn cn) := X1.cell 0 (by simp)
      have x11 : w1.cell? ⟨w.heap.size, 1, none⟩ = some (.slice aw nw cw) := X1.cell 1 (by simp)
      have x12 : w1.cell? ⟨w.heap.size, 2, none⟩ = some (.slice aa na ca) := X1.cell 2 (by simp)
      have x13 : w1.cell? ⟨w.heap.size, 3, none⟩ = some (.map (some bN)) := X1.cell 3 (by simp)
      have x14 : w1.cell? ⟨w.heap.size, 4, none⟩ = some (.map (some bW)) := X1.cell 4 (by simp)
      go_wp2_with fail
      refine (ascW_any _ _ _ ws bsW _ (hW.bel wRecE S1) eW mW tW).mono ?_
      rintro e w2 ⟨rfl, hb2⟩
      rw [h2]
      have S2 := bel_step S1 hb2
      go_wp2
      go_ret
      exact ⟨ret_bl HF.out, S2⟩
    · have q2 : Hid (AscP nw (wId ws) (wTg ws)) := bP_out h2
      cases h3 : bP (AscP na (aId rs) (aTg rs))
      · have HF : Hid (false = bP (ChartP ns ws rs nn nw na)) := (bP_false fun h => bP_not h3 h.b3).symm
        go_enter Tryz.func83, Tryz.ntmps83
        go_wp2_with fail
        refine (ascN_any _ _ _ ns bsN _ (hN.bel nRecE S0) eN mN tN).mono ?_
        rintro e w1 ⟨rfl, hb1⟩
        rw [h1]
        have S1 := bel_step S0 hb1
        have X1 := X0.bel hb1
        have x10 : w1.cell? ⟨w.heap.size, 0, none⟩ = some (.slice an nn cn) := X1.cell 0 (by simp)
        have x11 : w1.cell? ⟨w.heap.size, 1, none⟩ = some (.slice aw nw cw) := X1.cell 1 (by simp)
        have x12 : w1.cell? ⟨w.heap.size, 2, none⟩ = some (.slice aa na ca) := X1.cell 2 (by simp)
        have x13 : w1.cell? ⟨w.heap.size, 3, none⟩ = some (.map (some bN)) := X1.cell 3 (by simp)
        have x14 : w1.cell? ⟨w.heap.size, 4, none⟩ = some (.map (some bW)) := X1.cell 4 (by simp)
        go_wp2_with fail
        refine (ascW_any _ _ _ ws bsW _ (hW.bel wRecE S1) eW mW tW).mono ?_
        rintro e w2 ⟨rfl, hb2⟩
        rw [h2]
        have S2 := bel_step S1 hb2
        have X2 := X1.bel hb2
        have x20 : w2.cell? ⟨w.heap.size, 0, none⟩ = some (.slice an nn cn) := X2.cell 0 (by simp)
        have x21 : w2.cell? ⟨w.heap.size, 1, none⟩ = some (.slice aw nw cw) := X2.cell 1 (by simp)
        have x22 : w2.cell? ⟨w.heap.size, 2, none⟩ = some (.slice aa na ca) := X2.cell 2 (by simp)
        have x23 : w2.cell? ⟨w.heap.size, 3, none⟩ = some (.map (some bN)) := X2.cell 3 (by simp)
        have x24 : w2.cell? ⟨w.heap.size, 4, none⟩ = some (.map (some bW)) := X2.cell 4 (by simp)
        go_wp2_with fail
        refine (ascA_any _ _ _ rs bsA _ (hA.bel aRecE S2) eA mA tA).mono ?_
        rintro e w3 ⟨rfl, hb3⟩
        rw [h3]
        have S3 := bel_step S2 hb3
        go_wp2
        go_ret
        exact ⟨ret_bl HF.out, S3⟩
      · have q3 : Hid (AscP na (aId rs) (aTg rs)) := bP_out h3
        cases h4 : bP (∀ i, i < nn → nPk ns i = true)
        · have HF : Hid (false = bP (ChartP ns ws rs nn nw na)) := (bP_false fun h => bP_not h4 h.b4).symm
          go_enter Tryz.func83, Tryz.ntmps83
          go_wp2_with fail
          refine (ascN_any _ _ _ ns bsN _ (hN.bel nRecE S0) eN mN tN).mono ?_
          rintro e w1 ⟨rfl, hb1⟩
          rw [h1]
          have S1 := bel_step S0 hb1
          have X1 := X0.bel hb1
          have x10 : w1.cell? ⟨w.heap.size, 0, none⟩ = some (.slice an nn cn) := X1.cell 0 (by simp)
          have x11 : w1.cell? ⟨w.heap.size, 1, none⟩ = some (.slice aw nw cw) := X1.cell 1 (by simp)
          have x12 : w1.cell? ⟨w.heap.size, 2, none⟩ = some (.slice aa na ca) := X1.cell 2 (by simp)
          have x13 : w1.cell? ⟨w.heap.size, 3, none⟩ = some (.map (some bN)) := X1.cell 3 (by simp)
          have x14 : w1.cell? ⟨w.heap.size, 4, none⟩ = some (.map (some bW)) := X1.cell 4 (by simp)
          go_wp2_with fail
          refine (ascW_any _ _ _ ws bsW _ (hW.bel wRecE S1) eW mW tW).mono ?_
          rintro e w2 ⟨rfl, hb2⟩
          rw [h2]
          have S2 := bel_step S1 hb2
          have X2 := X1.bel hb2
          have x20 : w2.cell? ⟨w.heap.size, 0, none⟩ = some (.slice an nn cn) := X2.cell 0 (by simp)
          have x21 : w2.cell? ⟨w.heap.size, 1, none⟩ = some (.slice aw nw cw) := X2.cell 1 (by simp)
          have x22 : w2.cell? ⟨w.heap.size, 2, none⟩ = some (.slice aa na ca) := X2.cell 2 (by simp)
          have x23 : w2.cell? ⟨w.heap.size, 3, none⟩ = some (.map (some bN)) := X2.cell 3 (by simp)
          have x24 : w2.cell? ⟨w.heap.size, 4, none⟩ = some (.map (some bW)) := X2.cell 4 (by simp)
          go_wp2_with fail
          refine (ascA_any _ _ _ rs bsA _ (hA.bel aRecE S2) eA mA tA).mono ?_
          rintro e w3 ⟨rfl, hb3⟩
          rw [h3]
          have S3 := bel_step S2 hb3
          have X3 := X2.bel hb3
          have x30 : w3.cell? ⟨w.heap.size, 0, none⟩ = some (.slice an nn cn) := X3.cell 0 (by simp)
          have x31 : w3.cell? ⟨w.heap.size, 1, none⟩ = some (.slice aw nw cw) := X3.cell 1 (by simp)
          have x32 : w3.cell? ⟨w.heap.size, 2, none⟩ = some (.slice aa na ca) := X3.cell 2 (by simp)
          have x33 : w3.cell? ⟨w.heap.size, 3, none⟩ = some (.map (some bN)) := X3.cell 3 (by simp)
          have x34 : w3.cell? ⟨w.heap.size, 4, none⟩ = some (.map (some bW)) := X3.cell 4 (by simp)
          go_wp2_with fail
          refine (allN_any _ _ _ ns bsN _ (hN.bel nRecE S3) eN mN).mono ?_
          rintro e w4 ⟨rfl, hb4⟩
          rw [h4]
          have S4 := bel_step S3 hb4
          go_wp2
          go_ret
          exact ⟨ret_bl HF.out, S4⟩
        · have q4 : Hid (∀ i, i < nn → nPk ns i = true) := bP_out h4
          cases h5 : bP (∀ i (h : i < ws.length), WayP nn (nId ns) ws[i].nodes)
          · have HF : Hid (false = bP (ChartP ns ws rs nn nw na)) := (bP_false fun h => bP_not h5 h.b5).symm
            go_enter Tryz.func83, Tryz.ntmps83
            go_wp2_with fail
            refine (ascN_any _ _ _ ns bsN _ (hN.bel nRecE S0) eN mN tN).mono ?_
            rintro e w1 ⟨rfl, hb1⟩
            rw [h1]
            have S1 := bel_step S0 hb1
            have X1 := X0.bel hb1
            have x10 : w1.cell? ⟨w.heap.size, 0, none⟩ = some (.slice an nn cn) := X1.cell 0 (by simp)
            have x11 : w1.cell? ⟨w.heap.size, 1, none⟩ = some (.slice aw nw cw) := X1.cell 1 (by simp)
            have x12 : w1.cell? ⟨w.heap.size, 2, none⟩ = some (.slice aa na ca) := X1.cell 2 (by simp)
            have x13 : w1.cell? ⟨w.heap.size, 3, none⟩ = some (.map (some bN)) := X1.cell 3 (by simp)
            have x14 : w1.cell? ⟨w.heap.size, 4, none⟩ = some (.map (some bW)) := X1.cell 4 (by simp)
            go_wp2_with fail
            refine (ascW_any _ _ _ ws bsW _ (hW.bel wRecE S1) eW mW tW).mono ?_
            rintro e w2 ⟨rfl, hb2⟩
            rw [h2]
            have S2 := bel_step S1 hb2
            have X2 := X1.bel hb2
            have x20 : w2.cell? ⟨w.heap.size, 0, none⟩ = some (.slice an nn cn) := X2.cell 0 (by simp)
            have x21 : w2.cell? ⟨w.heap.size, 1, none⟩ = some (.slice aw nw cw) := X2.cell 1 (by simp)
            have x22 : w2.cell? ⟨w.heap.size, 2, none⟩ = some (.slice aa na ca) := X2.cell 2 (by simp)
            have x23 : w2.cell? ⟨w.heap.size, 3, none⟩ = some (.map (some bN)) := X2.cell 3 (by simp)
            have x24 : w2.cell? ⟨w.heap.size, 4, none⟩ = some (.map (some bW)) := X2.cell 4 (by simp)
            go_wp2_with fail
            refine (ascA_any _ _ _ rs bsA _ (hA.bel aRecE S2) eA mA tA).mono ?_
            rintro e w3 ⟨rfl, hb3⟩
            rw [h3]
            have S3 := bel_step S2 hb3
            have X3 := X2.bel hb3
            have x30 : w3.cell? ⟨w.heap.size, 0, none⟩ = some (.slice an nn cn) := X3.cell 0 (by simp)
            have x31 : w3.cell? ⟨w.heap.size, 1, none⟩ = some (.slice aw nw cw) := X3.cell 1 (by simp)
            have x32 : w3.cell? ⟨w.heap.size, 2, none⟩ = some (.slice aa na ca) := X3.cell 2 (by simp)
            have x33 : w3.cell? ⟨w.heap.size, 3, none⟩ = some (.map (some bN)) := X3.cell 3 (by simp)
            have x34 : w3.cell? ⟨w.heap.size, 4, none⟩ = some (.map (some bW)) := X3.cell 4 (by simp)
            go_wp2_with fail
            refine (allN_any _ _ _ ns bsN _ (hN.bel nRecE S3) eN mN).mono ?_
            rintro e w4 ⟨rfl, hb4⟩
            rw [h4]
            have S4 := bel_step S3 hb4
            have X4 := X3.bel hb4
            have x40 : w4.cell? ⟨w.heap.size, 0, none⟩ = some (.slice an nn cn) := X4.cell 0 (by simp)
            have x41 : w4.cell? ⟨w.heap.size, 1, none⟩ = some (.slice aw nw cw) := X4.cell 1 (by simp)
            have x42 : w4.cell? ⟨w.heap.size, 2, none⟩ = some (.slice aa na ca) := X4.cell 2 (by simp)
            have x43 : w4.cell? ⟨w.heap.size, 3, none⟩ = some (.map (some bN)) := X4.cell 3 (by simp)
            have x44 : w4.cell? ⟨w.heap.size, 4, none⟩ = some (.map (some bW)) := X4.cell 4 (by simp)
            go_wp2_with fail
            refine (allW_any _ _ _ _ _ _ _ _ _ _ _ _ _ _ ws bsW nn nn (nId ns) (plc (nId ns) nn) _ (hW.bel wRecE S4) eW mW (fun i h => (tW i h).1) (gN.bel S4) (plc_some (nId ns) · nn)).mono ?_
            rintro e w5 ⟨rfl, hb5⟩
            rw [h5]
            have S5 := bel_step S4 hb5
            go_wp2
            go_ret
            exact ⟨ret_bl HF.out, S5⟩
          · have q5 : Hid (∀ i (h : i < ws.length), WayP nn (nId ns) ws[i].nodes) := bP_out h5
            cases h6 : bP (∀ i (h : i < rs.length), AreaP nw (wId ws) rs[i].parts)
            · have HF : Hid (false = bP (ChartP ns ws rs nn nw na)) := (bP_false fun h => bP_not h6 h.b6).symm
              go_enter Tryz.func83, Tryz.ntmps83
              go_wp2_with fail
              refine (ascN_any _ _ _ ns bsN _ (hN.bel nRecE S0) eN mN tN).mono ?_
              rintro e w1 ⟨rfl, hb1⟩
              rw [h1]
              have S1 := bel_step S0 hb1
              have X1 := X0.bel hb1
              have x10 : w1.cell? ⟨w.heap.size, 0, none⟩ = some (.slice an nn cn) := X1.cell 0 (by simp)
              have x11 : w1.cell? ⟨w.heap.size, 1, none⟩ = some (.slice aw nw cw) := X1.cell 1 (by simp)
              have x12 : w1.cell? ⟨w.heap.size, 2, none⟩ = some (.slice aa na ca) := X1.cell 2 (by simp)
              have x13 : w1.cell? ⟨w.heap.size, 3, none⟩ = some (.map (some bN)) := X1.cell 3 (by simp)
              have x14 : w1.cell? ⟨w.heap.size, 4, none⟩ = some (.map (some bW)) := X1.cell 4 (by simp)
              go_wp2_with fail
              refine (ascW_any _ _ _ ws bsW _ (hW.bel wRecE S1) eW mW tW).mono ?_
              rintro e w2 ⟨rfl, hb2⟩
              rw [h2]
              have S2 := bel_step S1 hb2
              have X2 := X1.bel hb2
              have x20 : w2.cell? ⟨w.heap.size, 0, none⟩ = some (.slice an nn cn) := X2.cell 0 (by simp)
              have x21 : w2.cell? ⟨w.heap.size, 1, none⟩ = some (.slice aw nw cw) := X2.cell 1 (by simp)
              have x22 : w2.cell? ⟨w.heap.size, 2, none⟩ = some (.slice aa na ca) := X2.cell 2 (by simp)
              have x23 : w2.cell? ⟨w.heap.size, 3, none⟩ = some (.map (some bN)) := X2.cell 3 (by simp)
              have x24 : w2.cell? ⟨w.heap.size, 4, none⟩ = some (.map (some bW)) := X2.cell 4 (by simp)
              go_wp2_with fail
              refine (ascA_any _ _ _ rs bsA _ (hA.bel aRecE S2) eA mA tA).mono ?_
              rintro e w3 ⟨rfl, hb3⟩
              rw [h3]
              have S3 := bel_step S2 hb3
              have X3 := X2.bel hb3
              have x30 : w3.cell? ⟨w.heap.size, 0, none⟩ = some (.slice an nn cn) := X3.cell 0 (by simp)
              have x31 : w3.cell? ⟨w.heap.size, 1, none⟩ = some (.slice aw nw cw) := X3.cell 1 (by simp)
              have x32 : w3.cell? ⟨w.heap.size, 2, none⟩ = some (.slice aa na ca) := X3.cell 2 (by simp)
              have x33 : w3.cell? ⟨w.heap.size, 3, none⟩ = some (.map (some bN)) := X3.cell 3 (by simp)
              have x34 : w3.cell? ⟨w.heap.size, 4, none⟩ = some (.map (some bW)) := X3.cell 4 (by simp)
              go_wp2_with fail
              refine (allN_any _ _ _ ns bsN _ (hN.bel nRecE S3) eN mN).mono ?_
              rintro e w4 ⟨rfl, hb4⟩
              rw [h4]
              have S4 := bel_step S3 hb4
              have X4 := X3.bel hb4
              have x40 : w4.cell? ⟨w.heap.size, 0, none⟩ = some (.slice an nn cn) := X4.cell 0 (by simp)
              have x41 : w4.cell? ⟨w.heap.size, 1, none⟩ = some (.slice aw nw cw) := X4.cell 1 (by simp)
              have x42 : w4.cell? ⟨w.heap.size, 2, none⟩ = some (.slice aa na ca) := X4.cell 2 (by simp)
              have x43 : w4.cell? ⟨w.heap.size, 3, none⟩ = some (.map (some bN)) := X4.cell 3 (by simp)
              have x44 : w4.cell? ⟨w.heap.size, 4, none⟩ = some (.map (some bW)) := X4.cell 4 (by simp)
              go_wp2_with fail
              refine (allW_any _ _ _ _ _ _ _ _ _ _ _ _ _ _ ws bsW nn nn (nId ns) (plc (nId ns) nn) _ (hW.bel wRecE S4) eW mW (fun i h => (tW i h).1) (gN.bel S4) (plc_some (nId ns) · nn)).mono ?_
              rintro e w5 ⟨rfl, hb5⟩
              rw [h5]
              have S5 := bel_step S4 hb5
              have X5 := X4.bel hb5
              have x50 : w5.cell? ⟨w.heap.size, 0, none⟩ = some (.slice an nn cn) := X5.cell 0 (by simp)
              have x51 : w5.cell? ⟨w.heap.size, 1, none⟩ = some (.slice aw nw cw) := X5.cell 1 (by simp)
              have x52 : w5.cell? ⟨w.heap.size, 2, none⟩ = some (.slice aa na ca) := X5.cell 2 (by simp)
              have x53 : w5.cell? ⟨w.heap.size, 3, none⟩ = some (.map (some bN)) := X5.cell 3 (by simp)
              have x54 : w5.cell? ⟨w.heap.size, 4, none⟩ = some (.map (some bW)) := X5.cell 4 (by simp)
              go_wp2_with fail
              refine (allA_any _ _ _ _ _ _ _ _ _ _ _ _ _ _ rs bsA nw nw (wId ws) (plc (wId ws) nw) _ (hA.bel aRecE S5) eA mA (fun i h => (tA i h).1) (gW.bel S5) (plc_some (wId ws) · nw)).mono ?_
              rintro e w6 ⟨rfl, hb6⟩
              rw [h6]
              have S6 := bel_step S5 hb6
              go_wp2
              go_ret
              exact ⟨ret_bl HF.out, S6⟩
            · have HT : Hid (true = bP (ChartP ns ws rs nn nw na)) := (bP_true ⟨q1.out, q2.out, q3.out, q4.out, q5.out, bP_out h6⟩).symm
              go_enter Tryz.func83, Tryz.ntmps83
              go_wp2_with fail
              refine (ascN_any _ _ _ ns bsN _ (hN.bel nRecE S0) eN mN tN).mono ?_
              rintro e w1 ⟨rfl, hb1⟩
              rw [h1]
              have S1 := bel_step S0 hb1
              have X1 := X0.bel hb1
              have x10 : w1.cell? ⟨w.heap.size, 0, none⟩ = some (.slice an nn cn) := X1.cell 0 (by simp)
              have x11 : w1.cell? ⟨w.heap.size, 1, none⟩ = some (.slice aw nw cw) := X1.cell 1 (by simp)
              have x12 : w1.cell? ⟨w.heap.size, 2, none⟩ = some (.slice aa na ca) := X1.cell 2 (by simp)
              have x13 : w1.cell? ⟨w.heap.size, 3, none⟩ = some (.map (some bN)) := X1.cell 3 (by simp)
              have x14 : w1.cell? ⟨w.heap.size, 4, none⟩ = some (.map (some bW)) := X1.cell 4 (by simp)
              go_wp2_with fail
              refine (ascW_any _ _ _ ws bsW _ (hW.bel wRecE S1) eW mW tW).mono ?_
              rintro e w2 ⟨rfl, hb2⟩
              rw [h2]
              have S2 := bel_step S1 hb2
              have X2 := X1.bel hb2
              have x20 : w2.cell? ⟨w.heap.size, 0, none⟩ = some (.slice an nn cn) := X2.cell 0 (by simp)
              have x21 : w2.cell? ⟨w.heap.size, 1, none⟩ = some (.slice aw nw cw) := X2.cell 1 (by simp)
              have x22 : w2.cell? ⟨w.heap.size, 2, none⟩ = some (.slice aa na ca) := X2.cell 2 (by simp)
              have x23 : w2.cell? ⟨w.heap.size, 3, none⟩ = some (.map (some bN)) := X2.cell 3 (by simp)
              have x24 : w2.cell? ⟨w.heap.size, 4, none⟩ = some (.map (some bW)) := X2.cell 4 (by simp)
              go_wp2_with fail
              refine (ascA_any _ _ _ rs bsA _ (hA.bel aRecE S2) eA mA tA).mono ?_
              rintro e w3 ⟨rfl, hb3⟩
              rw [h3]
              have S3 := bel_step S2 hb3
              have X3 := X2.bel hb3
              have x30 : w3.cell? ⟨w.heap.size, 0, none⟩ = some (.slice an nn cn) := X3.cell 0 (by simp)
              have x31 : w3.cell? ⟨w.heap.size, 1, none⟩ = some (.slice aw nw cw) := X3.cell 1 (by simp)
              have x32 : w3.cell? ⟨w.heap.size, 2, none⟩ = some (.slice aa na ca) := X3.cell 2 (by simp)
              have x33 : w3.cell? ⟨w.heap.size, 3, none⟩ = some (.map (some bN)) := X3.cell 3 (by simp)
              have x34 : w3.cell? ⟨w.heap.size, 4, none⟩ = some (.map (some bW)) := X3.cell 4 (by simp)
              go_wp2_with fail
              refine (allN_any _ _ _ ns bsN _ (hN.bel nRecE S3) eN mN).mono ?_
              rintro e w4 ⟨rfl, hb4⟩
              rw [h4]
              have S4 := bel_step S3 hb4
              have X4 := X3.bel hb4
              have x40 : w4.cell? ⟨w.heap.size, 0, none⟩ = some (.slice an nn cn) := X4.cell 0 (by simp)
              have x41 : w4.cell? ⟨w.heap.size, 1, none⟩ = some (.slice aw nw cw) := X4.cell 1 (by simp)
              have x42 : w4.cell? ⟨w.heap.size, 2, none⟩ = some (.slice aa na ca) := X4.cell 2 (by simp)
              have x43 : w4.cell? ⟨w.heap.size, 3, none⟩ = some (.map (some bN)) := X4.cell 3 (by simp)
              have x44 : w4.cell? ⟨w.heap.size, 4, none⟩ = some (.map (some bW)) := X4.cell 4 (by simp)
              go_wp2_with fail
              refine (allW_any _ _ _ _ _ _ _ _ _ _ _ _ _ _ ws bsW nn nn (nId ns) (plc (nId ns) nn) _ (hW.bel wRecE S4) eW mW (fun i h => (tW i h).1) (gN.bel S4) (plc_some (nId ns) · nn)).mono ?_
              rintro e w5 ⟨rfl, hb5⟩
              rw [h5]
              have S5 := bel_step S4 hb5
              have X5 := X4.bel hb5
              have x50 : w5.cell? ⟨w.heap.size, 0, none⟩ = some (.slice an nn cn) := X5.cell 0 (by simp)
              have x51 : w5.cell? ⟨w.heap.size, 1, none⟩ = some (.slice aw nw cw) := X5.cell 1 (by simp)
              have x52 : w5.cell? ⟨w.heap.size, 2, none⟩ = some (.slice aa na ca) := X5.cell 2 (by simp)
              have x53 : w5.cell? ⟨w.heap.size, 3, none⟩ = some (.map (some bN)) := X5.cell 3 (by simp)
              have x54 : w5.cell? ⟨w.heap.size, 4, none⟩ = some (.map (some bW)) := X5.cell 4 (by simp)
              go_wp2_with fail
              refine (allA_any _ _ _ _ _ _ _ _ _ _ _ _ _ _ rs bsA nw nw (wId ws) (plc (wId ws) nw) _ (hA.bel aRecE S5) eA mA (fun i h => (tA i h).1) (gW.bel S5) (plc_some (wId ws) · nw)).mono ?_
              rintro e w6 ⟨rfl, hb6⟩
              rw [h6]
              have S6 := bel_step S5 hb6
              go_wp2
              go_ret
              exact ⟨ret_bl HT.out, S6⟩
end Go.Proofs.YtmmapkpieimibaaGreat
