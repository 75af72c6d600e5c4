/-
  PROVED: for every row of bytes the law FnTilesOf says true. No condition.
-/
import Derived.Test.YtkknbapcbcialaaTlsC
import Derived.Test.YtkknbapcbcialaaDrawTl
import Derived.Test.YtkknbapcbcialaaTloC
import Derived.Test.YtkknbapcbcialaaTbxC
import Derived.Test.YtkknbapcbcialaaOpenB
import Derived.BigRegion
namespace Go.Proofs.Ytkknbapcbcialaa
open Go.ChangeShapes Go.WideShapes Go.ChangeAt Go.RowKit

set_option maxRecDepth 100000 in
set_option maxHeartbeats 4000000 in
theorem lawFnTilesOf_any (a : Option Addr) (n c : Nat) (w : World) (hS : Bts w a n) (_hm : n ≤ 9223372036854775807) :
    Calls Try.prog 4 #[.slice a n c] w fun e w' => e = .returned (.bool true) ∧ Bel w w' := by
  by_cases hn : n ≤ 1048576
  · have hbig : decide (1048576 < (n : Int)) = false := by simp; omega
    go_enter Try.func4, Try.ntmps4
    go_wp2_with fail
    refine (big_any _ _ _ _).mono ?_
    rintro e w1 ⟨rfl, rfl⟩
    rw [hbig]
    clear hbig
    go_wp2_with fail
    refine (drawTilesOf_any _ _ _ _ hS hn).mono ?_
    rintro e w2 ⟨q, z, rfl, B2⟩
    obtain ⟨V1, HV1⟩ : ∃ V, Hid (V = w2.alloc (.cells #[.int .i64 q.a, .int .i64 q.b, .int .i64 q.c, .int .i64 q.d] 35)) := ⟨_, (rfl : w2.alloc (.cells #[.int .i64 q.a, .int .i64 q.b, .int .i64 q.c, .int .i64 q.d] 35) = _)⟩
    have hbV1 : Bel w2 V1 := by rw [HV1.out]; exact bel_alloc (Bel.refl _) _
    have XQ : Blk V1 w2.heap.size [.int .i64 q.a, .int .i64 q.b, .int .i64 q.c, .int .i64 q.d] := by rw [HV1.out]; exact Blk.new w2 [.int .i64 q.a, .int .i64 q.b, .int .i64 q.c, .int .i64 q.d] _
    have BV1 := bel_step B2 hbV1
    have cT := tilesOf_any q z
    have cS := specTilesOf_any q z
    have cO := tilesOf_any ⟨0, 0, 0, 0⟩ 0
    rw [tlQ_one] at cO
    obtain ⟨L, HL⟩ : ∃ L, Hid (tlQ q z = L) := ⟨_, (rfl : tlQ q z = _)⟩
    rw [HL.out] at cT cS
    have hml : L.length ≤ 400 := by rw [← HL.out]; exact tlQ_len q z
    have q0 := XQ.cell 0 (by simp)
    have q1 := XQ.cell 1 (by simp)
    have q2 := XQ.cell 2 (by simp)
    have q3 := XQ.cell 3 (by simp)
    simp only [List.getElem_cons_zero, List.getElem_cons_succ] at q0 q1 q2 q3
    obtain ⟨m, HM⟩ : ∃ m, Hid (L.length = m) := ⟨_, (rfl : L.length = _)⟩
    rw [HM.out] at cT cS hml
    have gW : w2.heap.size < V1.heap.size := XQ.lt
    go_wp2_with fail
    rw [← HV1.out]
    refine (cT _).mono ?_
    rintro e w3 ⟨a3, c3, b3, rfl, T3, _, g3⟩
    go_wp2_with fail
    refine (cO _).mono ?_
    rintro e w4 ⟨a4, c4, b4, rfl, _, _, g4⟩
    have g14 := bel_step g3 g4
    have X4 := XQ.bel g14
    have T4 := Sl.bel tileE T3 g4
    clear q0 q1 q2 q3
    have q0 := X4.cell 0 (by simp)
    have q1 := X4.cell 1 (by simp)
    have q2 := X4.cell 2 (by simp)
    have q3 := X4.cell 3 (by simp)
    simp only [List.getElem_cons_zero, List.getElem_cons_succ] at q0 q1 q2 q3
    go_wp2_with fail
    refine (cS _).mono ?_
    rintro e w5 ⟨a5, c5, b5, rfl, _, _, g5⟩
    have B5 := bel_step (bel_step BV1 g14) g5
    have X5 := X4.bel g5
    have T5 := Sl.bel tileE T4 g5
    clear q0 q1 q2 q3 T3 T4 X4 XQ cT cO cS HV1 hbV1 g14 g3 g4 g5 B2 BV1
    go_wp2
    go_loopw [6, 7, 8, 9, 10, 11, 12] (fun i _ _ _ _ _ _ wr => ∃ k : Nat, k ≤ m ∧ i = .int .i64 k ∧ Bel w5 wr) (fun i _ _ _ _ _ _ _ => m - (intOf i).toNat)
    case atStart => exact ⟨0, Nat.zero_le _, rfl, Bel.refl _⟩
    case round =>
      obtain ⟨k, hk, rfl, hBr⟩ := hrel
      obtain ⟨wo, hwo⟩ : ∃ V, V = wr := ⟨_, rfl⟩
      subst hwo
      by_cases hlt : k < m
      · have hkL : k < L.length := by rw [HM.out]; exact hlt
        have HT : Hid (TlHas q z) := tl_has (by rw [HL.out]; intro e; rw [e] at hkL; simp at hkL)
        have hmem : L[k] ∈ tlQ q z := by rw [HL.out]; exact List.getElem_mem hkL
        have hzz := tl_mem_z HT.out hmem
        rcases Sl.bel tileE T5 hBr with ⟨h1, _⟩ | ⟨b, off, f, rfl, h2, _, hc⟩
        · exfalso; rw [h1] at hkL; simp at hkL
        obtain ⟨_, _, _, _, cz, cx, cy⟩ := hc k hkL
        clear hc
        obtain ⟨tx, Htx⟩ : ∃ x, Hid (L[k].x = x) := ⟨_, (rfl : L[k].x = _)⟩
        obtain ⟨ty, Hty⟩ : ∃ x, Hid (L[k].y = x) := ⟨_, (rfl : L[k].y = _)⟩
        rw [Htx.out] at cx; rw [Hty.out] at cy; rw [hzz] at cz
        have heL : (⟨z, tx, ty⟩ : TileD) = L[k] := by rw [← Htx.out, ← Hty.out, ← hzz]
        have hAt : TlAt q z tx ty := tl_at HT.out (by rw [heL]; exact hmem)
        clear heL
        obtain ⟨hok, i1, i2, i3, i4⟩ := hAt
        have cB := fun w' => tileBox_any z tx ty w'
        rw [tbx_yes hok] at cB
        have hbd := til_out hok
        have hzn := (zNS hbd.1).2.2.2.1
        have tx0 : 0 ≤ tx := by omega
        have tx1 : tx < 1024 := by omega
        have ty0 : 0 ≤ ty := by omega
        have ty1 : ty < 1024 := by omega
        obtain ⟨r0, Hr0⟩ : ∃ x, Hid (tbA z tx = x) := ⟨_, (rfl : tbA z tx = _)⟩
        obtain ⟨r1, Hr1⟩ : ∃ x, Hid (tbA z ty = x) := ⟨_, (rfl : tbA z ty = _)⟩
        rw [Hr0.out] at cB i1 i2
        rw [Hr1.out] at cB i3 i4
        obtain ⟨r2, Hr2⟩ : ∃ x, Hid (r0 + (zS z : Int) = x) := ⟨_, (rfl : r0 + (zS z : Int) = _)⟩
        obtain ⟨r3, Hr3⟩ : ∃ x, Hid (r1 + (zS z : Int) = x) := ⟨_, (rfl : r1 + (zS z : Int) = _)⟩
        rw [Hr2.out] at cB i2
        rw [Hr3.out] at cB i4
        clear hbd hzn hmem hzz
        have hlt' : (k : Int) < (m : Int) := by omega
        go_wp2_with fail
        refine (cB _).mono ?_
        rintro e w6 ⟨rfl, g6⟩
        obtain ⟨V6, HV6⟩ : ∃ V, Hid (V = w6.alloc (.cells #[.int .i64 r0, .int .i64 r1, .int .i64 r2, .int .i64 r3] 35)) := ⟨_, (rfl : w6.alloc (.cells #[.int .i64 r0, .int .i64 r1, .int .i64 r2, .int .i64 r3] 35) = _)⟩
        have hbV6 : Bel w6 V6 := by rw [HV6.out]; exact bel_alloc (Bel.refl _) _
        have XR : Blk V6 w6.heap.size [.int .i64 r0, .int .i64 r1, .int .i64 r2, .int .i64 r3] := by rw [HV6.out]; exact Blk.new w6 [.int .i64 r0, .int .i64 r1, .int .i64 r2, .int .i64 r3] _
        have g7 := bel_step g6 hbV6
        have dz := bel_cellM g7 h2 cz
        have dx := bel_cellM g7 h2 cx
        have dy := bel_cellM g7 h2 cy
        have h27 : b < V6.heap.size := bel_lt g7 h2
        clear cz cx cy
        go_upto_region 13 with fail
        rw [← HV6.out]
        go_wp2_with fail
        refine (tileOk_any z tx ty V6).mono ?_
        rintro e w8 ⟨rfl, g8⟩
        rw [hok]
        have XR8 := XR.bel g8
        have XQ8 := (X5.bel hBr).bel (bel_step g7 g8)
        have s0 := XR8.cell 0 (by simp)
        have s1 := XR8.cell 1 (by simp)
        have s2 := XR8.cell 2 (by simp)
        have s3 := XR8.cell 3 (by simp)
        have q0 := XQ8.cell 0 (by simp)
        have q1 := XQ8.cell 1 (by simp)
        have q2 := XQ8.cell 2 (by simp)
        have q3 := XQ8.cell 3 (by simp)
        simp only [List.getElem_cons_zero, List.getElem_cons_succ] at q0 q1 q2 q3 s0 s1 s2 s3
        have cz := bel_cellM g8 h27 dz
        have cx := bel_cellM g8 h27 dx
        have cy := bel_cellM g8 h27 dy
        have h28 : b < w8.heap.size := bel_lt g8 h27
        have gk8 : Bel wo w8 := bel_step g7 g8
        have ql := XQ8.lt
        have rl := XR8.lt
        clear dz dx dy g7 g8 hbV6 HV6 XR g6 h27 hok
        have j1 : ¬ q.c < r0 := by omega
        have j2 : ¬ r2 < q.a := by omega
        have j3 : ¬ q.d < r1 := by omega
        have j4 : ¬ r3 < q.b := by omega
        have j1' : decide (q.c < r0) = false := by simp; omega
        have j2' : decide (r2 < q.a) = false := by simp; omega
        have j3' : decide (q.d < r1) = false := by simp; omega
        have j4' : decide (r3 < q.b) = false := by simp; omega
        clear i1 i2 i3 i4
        go_wp2
        go_loopw [8, 9, 10, 11, 12] (fun d _ _ _ _ wr => ∃ dx : Int, -1 ≤ dx ∧ dx ≤ 2 ∧ d = .int .i64 dx ∧ Bel w8 wr) (fun d _ _ _ _ _ => (2 - intOf d).toNat)
        case atStart => exact ⟨-1, by decide, by decide, rfl, Bel.refl _⟩
        case round =>
          have HC : Hid (w8.cell? ⟨b, off + k * 3 + 1, none⟩ = some (.int .i64 tx) ∧ w8.cell? ⟨b, off + k * 3 + 2, none⟩ = some (.int .i64 ty)) := ⟨cx, cy⟩
          clear cz cx cy q0 q1 q2 q3 s0 s1 s2 s3 j1 j2 j3 j4 j1' j2' j3' j4' XR8 rl Hr0 Hr1 Hr2 Hr3 cB
          obtain ⟨dx, dx0, dx1, rfl, gD⟩ := hrel
          obtain ⟨wp, hwp⟩ : ∃ V, V = wr := ⟨_, rfl⟩
          subst hwp
          by_cases hdx : dx ≤ 1
          · go_wp2
            go_loopw [9, 10, 11, 12] (fun d _ _ _ wr => ∃ dy : Int, -1 ≤ dy ∧ dy ≤ 2 ∧ d = .int .i64 dy ∧ Bel w8 wr) (fun d _ _ _ _ => (2 - intOf d).toNat)
            case atStart => exact ⟨-1, by decide, by decide, rfl, gD⟩
            case round =>
              clear gD
              obtain ⟨dy, dy0, dy1, rfl, gE⟩ := hrel
              by_cases hdy : dy ≤ 1
              · have cx := bel_cellM gE h28 HC.out.1
                have cy := bel_cellM gE h28 HC.out.2
                have bl : b < wr.heap.size := bel_lt gE h28
                have hwx : IntKind.i64.wrap (tx + dx) = tx + dx := by rw [IntKind.wrap_i64]; omega
                have hwy : IntKind.i64.wrap (ty + dy) = ty + dy := by rw [IntKind.wrap_i64]; omega
                go_wp2
                go_big_region
                generalize hnx : tx + dx = nx
                generalize hny : ty + dy = ny
                clear hnx hny cx cy hwx hwy
                obtain ⟨V7, HV7⟩ : ∃ V, Hid (V = (wr.alloc (.cells #[.int .i64 z, .int .i64 nx, .int .i64 ny] 42)).drew) := ⟨_, (rfl : (wr.alloc (.cells #[.int .i64 z, .int .i64 nx, .int .i64 ny] 42)).drew = _)⟩
                have gr7 : Bel wr V7 := by rw [HV7.out]; exact Bel.drew (bel_alloc (Bel.refl _) _)
                have XN : Blk V7 wr.heap.size [.int .i64 z, .int .i64 nx, .int .i64 ny] := by rw [HV7.out]; exact (Blk.new wr [.int .i64 z, .int .i64 nx, .int .i64 ny] _).bel (Bel.drew (Bel.refl _))
                have g87 := bel_step gE gr7
                rw [← HV7.out]
                clear HV7 gr7 gE
                have n0 := XN.cell 0 (by simp)
                have n1 := XN.cell 1 (by simp)
                have n2 := XN.cell 2 (by simp)
                simp only [List.getElem_cons_zero, List.getElem_cons_succ] at n0 n1 n2
                have cB := fun w' => tileBox_any z nx ny w'
                have cK := fun w' => tileOk_any z nx ny w'
                have HMt := fun h => tl_meet (x := nx) (y := ny) HT.out h
                obtain ⟨r, Hr⟩ : ∃ r, Hid (tbx z nx ny = r) := ⟨_, (rfl : tbx z nx ny = _)⟩
                rw [Hr.out] at cB HMt
                obtain ⟨mt, Hmt⟩ : ∃ mt, Hid (meetT q r = mt) := ⟨_, (rfl : meetT q r = _)⟩
                rw [Hmt.out, HL.out] at HMt
                go_wp2_with fail
                refine (cB _).mono ?_
                rintro e w9 ⟨rfl, g9⟩
                obtain ⟨V9, HV9⟩ : ∃ V, Hid (V = w9.alloc (.cells #[.int .i64 r.a, .int .i64 r.b, .int .i64 r.c, .int .i64 r.d] 35)) := ⟨_, (rfl : w9.alloc (.cells #[.int .i64 r.a, .int .i64 r.b, .int .i64 r.c, .int .i64 r.d] 35) = _)⟩
                have gr9 : Bel V7 V9 := by rw [HV9.out]; exact bel_alloc g9 _
                have XY : Blk V9 w9.heap.size [.int .i64 r.a, .int .i64 r.b, .int .i64 r.c, .int .i64 r.d] := by rw [HV9.out]; exact Blk.new w9 [.int .i64 r.a, .int .i64 r.b, .int .i64 r.c, .int .i64 r.d] _
                have XN9 := XN.bel gr9
                have XQ9 := XQ8.bel (bel_step g87 gr9)
                have g89 := bel_step g87 gr9
                clear XN g87 gr9 g9 cB n0 n1 n2
                go_upto_region 23 with fail
                rw [← HV9.out]
                clear HV9
                go_cut [12] (fun t wx => t = .bool mt ∧ wx = V9)
                case first =>
                  have y0 := XY.cell 0 (by simp)
                  have y1 := XY.cell 1 (by simp)
                  have y2 := XY.cell 2 (by simp)
                  have y3 := XY.cell 3 (by simp)
                  have q0 := XQ9.cell 0 (by simp)
                  have q1 := XQ9.cell 1 (by simp)
                  have q2 := XQ9.cell 2 (by simp)
                  have q3 := XQ9.cell 3 (by simp)
                  simp only [List.getElem_cons_zero, List.getElem_cons_succ] at q0 q1 q2 q3 y0 y1 y2 y3
                  clear XY XN9 XQ9 HMt
                  by_cases h1 : r.a ≤ q.c
                  · by_cases h2 : q.a ≤ r.c
                    · by_cases h3 : r.b ≤ q.d
                      · by_cases h4 : q.b ≤ r.d
                        · have HE : Hid (mt = true) := (show mt = true from by rw [← Hmt.out]; simp [meetT, h1, h2, h3, h4])
                          go_wp2
                          go_meet
                          case rel => exact ⟨by rw [HE.out], rfl⟩
                        · have HE : Hid (mt = false) := (show mt = false from by rw [← Hmt.out]; simp [meetT, h4])
                          go_wp2
                          go_meet
                          case rel => exact ⟨by rw [HE.out], rfl⟩
                      · have HE : Hid (mt = false) := (show mt = false from by rw [← Hmt.out]; simp [meetT, h3])
                        go_wp2
                        go_meet
                        case rel => exact ⟨by rw [HE.out], rfl⟩
                    · have HE : Hid (mt = false) := (show mt = false from by rw [← Hmt.out]; simp [meetT, h2])
                      go_wp2
                      go_meet
                      case rel => exact ⟨by rw [HE.out], rfl⟩
                  · have HE : Hid (mt = false) := (show mt = false from by rw [← Hmt.out]; simp [meetT, h1])
                    go_wp2
                    go_meet
                    case rel => exact ⟨by rw [HE.out], rfl⟩
                case rest =>
                  obtain ⟨rfl, hwc⟩ := hcut
                  obtain rfl : V9 = wc := hwc.symm
                  clear XY XQ9 Hmt Hr
                  have n0 := XN9.cell 0 (by simp)
                  have n1 := XN9.cell 1 (by simp)
                  have n2 := XN9.cell 2 (by simp)
                  simp only [List.getElem_cons_zero, List.getElem_cons_succ] at n0 n1 n2
                  have nl := XN9.lt
                  have hwd : IntKind.i64.wrap (dy + 1) = dy + 1 := by rw [IntKind.wrap_i64]; omega
                  go_wp2_with fail
                  refine (cK _).mono ?_
                  rintro e wk ⟨rfl, gk⟩
                  have g8k := bel_step g89 gk
                  cases hok : tilB z nx ny
                  · clear HMt n0 n1 n2 XN9
                    go_wp2
                    go_roundw
                    case rel => exact ⟨dy + 1, by omega, by omega, rfl, g8k⟩
                    case measure => simp [intOf]; omega
                  · have XNk := XN9.bel gk
                    clear n0 n1 n2
                    have n0 := XNk.cell 0 (by simp)
                    have n1 := XNk.cell 1 (by simp)
                    have n2 := XNk.cell 2 (by simp)
                    simp only [List.getElem_cons_zero, List.getElem_cons_succ] at n0 n1 n2
                    have cH := hasTile_any (some ⟨b, off, none⟩) c3 L b3 z nx ny wk (Sl.bel tileE (Sl.bel tileE T5 hBr) (bel_step gk8 g8k)) (by rw [HM.out]; exact hml) m HM.out.symm
                    rw [← HMt hok] at cH
                    clear HMt hok XN9
                    go_wp2_with fail
                    refine cH.mono ?_
                    rintro e wh ⟨rfl, gh⟩
                    have g8h := bel_step g8k gh
                    clear cH n0 n1 n2
                    cases mt
                    · go_wp2
                      go_roundw
                      case rel => exact ⟨dy + 1, by omega, by omega, rfl, g8h⟩
                      case measure => simp [intOf]; omega
                    · go_wp2
                      go_roundw
                      case rel => exact ⟨dy + 1, by omega, by omega, rfl, g8h⟩
                      case measure => simp [intOf]; omega
              · have hdy' : ¬ dy ≤ 1 := hdy
                have hwd : IntKind.i64.wrap (dx + 1) = dx + 1 := by rw [IntKind.wrap_i64]; omega
                go_wp2
                go_roundw
                case rel => exact ⟨dx + 1, by omega, by omega, rfl, gE⟩
                case measure => simp [intOf]; omega
          · go_wp2
            go_roundw
            case rel => exact ⟨k + 1, by omega, by go_num, bel_step hBr (bel_step gk8 gD)⟩
            case measure => simp [intOf]; omega
      · have hge : ¬ (k : Int) < (m : Int) := by omega
        go_wp2
        go_ret
        exact ⟨rfl, bel_step B5 hBr⟩
  · have hbig : decide (1048576 < (n : Int)) = true := by simp; omega
    go_enter Try.func4, Try.ntmps4
    go_wp2_with fail
    refine (big_any _ _ _ _).mono ?_
    rintro e w1 ⟨rfl, rfl⟩
    rw [hbig]
    go_wp2
    go_ret
    exact ⟨rfl, Bel.refl _⟩

theorem fnTilesOf_own : ownKnob Try.prog.godebug = none := by kernel_rfl
theorem fnTilesOf_laidOut : laidOutB Try.prog = true := by kernel_rfl

set_option maxRecDepth 100000 in
theorem fnTilesOf_lifted (os : Os) (started : os.Started) (H : Type) (enc : TypeId × Value → H) :
    ReturnsInHanded {} Try.checked os 4 .any (Rows.fnTilesOfSpec.pre6 enc Try.prog Try.f4 Rows.fnTilesOfRow.domain false) (Rows.fnTilesOfSpec.post enc Try.prog Try.f4 false true false false) := by
  refine returnsInHanded_of_change (C := Try.checked) fnTilesOf_own started (by kernel_rfl) Try.func4
    (ChangeSpec.witness6 (enc := enc) (C := Try.checked) false ⟨#[], #[.slice none 0 0], []⟩ 8 (by kernel_rfl) (by kernel_rfl) (by kernel_rfl) (by kernel_rfl)) ?_
  intro W base args ds gs before hval0 hW hcnd _
  have hval : ∀ (j : Nat) t v, Try.f4.params[j]? = some t → args[j]? = some v → Value.okWide Try.prog W .any base t v := hval0
  have hW' := hW
  obtain ⟨p, q, hA0, hV, rfl, hfz, hnd⟩ := hW
  have hA : DataW.TrodAll enc Try.prog W 0 (fun _ => true) true Try.f4.params.toList args.toList ds p := hA0
  rw [Try.params4] at hA hval
  obtain ⟨v0, vs0, d0, ds0, p0, q0, hargs, rfl, rfl, h0, r0⟩ := trodAll_cons hA
  obtain ⟨rfl, rfl, rfl⟩ := trodAll_nil r0
  obtain rfl : args = #[v0] := by cases args; simp_all
  obtain ⟨rfl, rfl⟩ := trodVars_none hV
  have k0 := h0
  have lt0 : ∀ x ∈ p0, x.block < W.heap.size := by obtain ⟨m, hm⟩ := k0; exact DataW.trod_lt m _ _ _ hm
  obtain ⟨a0, n0, c0, rfl, ip0, im0⟩ := open_bytes (hval 0 22 v0 rfl rfl) h0
  clear hA0 hval0
  refine (lawFnTilesOf_any a0 n0 c0 W ip0 im0).mono fun e W' ⟨he, bel0⟩ => ?_
  have bel := bel0.out
  subst he
  exact ⟨_, rfl, _, _, _, [], _, [], hW', trodAll_mk1 (shut_bool Try.underlying4 _), (trodAll_cons_mk (Below.trod fnTilesOf_laidOut (by kernel_rfl) (of_decide_eq_true (by kernel_rfl)) k0 bel lt0) trodAll_mk0), rfl, bel.frame _, fun h => by cases h⟩

theorem fnTilesOf_over : Rows.fnTilesOfRow.holds Try.pinned (OpenSpec.ofChange Rows.fnTilesOfSpec) :=
  OpenClaim.holds_of_wide 4 Try.f4 rfl rfl rfl rfl rfl rfl rfl ⟨rfl, rfl, rfl, rfl, rfl⟩ rfl rfl rfl rfl rfl (by kernel_rfl) Try.func4 (by kernel_rfl)
    (of_decide_eq_true (by kernel_rfl)) (by unfold Func.isWrapper; first | (rw [if_pos (by decide +kernel)]; kernel_rfl) | (rw [if_neg (by decide +kernel)]; exact ⟨rfl, rfl⟩))
    (fun os started H enc _ => fnTilesOf_lifted os started H enc)

theorem fnTilesOf_holds : Rows.FnTilesOfSaid := fnTilesOf_over
#print axioms fnTilesOf_holds
end Go.Proofs.Ytkknbapcbcialaa
