/-
  Tiles, marked and held: contracts.
-/
import Derived.Test.YthlgednppcapbaaMarkD
import Derived.Test.YthlgednppcapbaaTilD
namespace Go.Proofs.Ythlgednppcapbaa
open Go.RowKit Go.Maps

def mkTile (k : Nat) : TileD := ⟨(k : Int), (k : Int) + 1, (k : Int) + 2⟩
def mkTiles (k : Nat) (l : List TileD) : List TileD := (List.range l.length).map fun i => mkTile (k + 3 * i)
theorem mkTiles_len (k : Nat) (l : List TileD) : (mkTiles k l).length = l.length := by simp [mkTiles]

set_option maxRecDepth 100000 in
set_option maxHeartbeats 1000000 in
theorem markTileS_any (a : Option Addr) (n c : Nat) (l : List TileD) (bs : List Nat) (k : Nat) (w : World) (hT : TileL w a l bs) (hf : ∀ x ∈ bs, ∀ j, w.frozen? ⟨x, j, none⟩ = false) (hn : l.length = n) (hm : n ≤ 1048576) (h0k : 0 < k) (hk : k ≤ 1125899906842624) :
    Calls Try.prog 18 #[.slice a n c, .int .i64 k] w fun e w' => e = .returned (.int .i64 ((k + 3 * n : Nat) : Int)) ∧ TileL w' a (mkTiles k l) bs ∧ (∀ x ∈ bs, ∀ j, w'.frozen? ⟨x, j, none⟩ = false) ∧ Onl bs w w' := by
  by_cases h0 : n = 0
  · subst h0
    obtain rfl : l = [] := List.length_eq_zero_iff.1 hn
    have HT : Hid (TileL w a (mkTiles k []) bs) := hT
    clear hT
    go_enter Try.func18, Try.ntmps18
    go_wp2
    go_loopw [1, 5] (fun t i wr => t = .int .i64 k ∧ i = .int .i64 0 ∧ wr = w) (fun _ _ _ => 0)
    case atStart => exact ⟨rfl, rfl, rfl⟩
    case round =>
      obtain ⟨rfl, rfl, rfl⟩ := hrel
      go_wp2
      go_ret
      exact ⟨by simp, HT.out, hf, Onl.refl _ _⟩
  · rcases hT with ⟨rfl, _⟩ | ⟨b, off, f, rfl, hb, rfl, hx⟩
    · exact absurd hn.symm h0
    · have hfam : Fam 3 TileE w b off n (fun i => l.getD i ⟨0, 0, 0⟩) f := fun i hi => by
        show TileE w b (off + i * 3) (l.getD i ⟨0, 0, 0⟩) (f i)
        rw [getD_at ⟨0, 0, 0⟩ (show i < l.length by omega)]
        exact hx i (by omega)
      have hbf : ∀ j, w.frozen? ⟨b, j, none⟩ = false := hf b (by simp)
      have Hn : Hid (l.length = n) := hn
      have hfe : ∀ i, i < n → f i = [] := fun i hi => (hfam i hi).1
      clear hn hx hf
      go_enter Try.func18, Try.ntmps18
      go_wp2
      go_loopw [1, 5] (fun t i wr => ∃ j : Nat, j ≤ n ∧ i = .int .i64 j ∧ t = .int .i64 ((k + 3 * j : Nat) : Int) ∧ Fam 3 TileE wr b off n (upto j (fun i => mkTile (k + 3 * i)) (fun i => l.getD i ⟨0, 0, 0⟩)) f ∧ (∀ x, wr.frozen? ⟨b, x, none⟩ = false) ∧ Onl [b] w wr) (fun _ i _ => n - (intOf i).toNat)
      case atStart => exact ⟨0, Nat.zero_le _, rfl, by simp, by rw [upto_zero]; exact hfam, hbf, Onl.refl _ _⟩
      case round =>
        obtain ⟨j, hj, rfl, rfl, hF, hfr, hO⟩ := hrel
        have hbr := Nat.lt_of_lt_of_le hb hO.size
        by_cases hlt : j < n
        · obtain ⟨_, _, _, _, c0, c1, c2⟩ := hF j hlt
          have f0 := hfr (off + j * 3)
          have f1 := hfr (off + j * 3 + 1)
          have f2 := hfr (off + j * 3 + 2)
          have hlt' : (j : Int) < (n : Int) := by omega
          obtain ⟨kk, hkk⟩ : ∃ kk, k + 3 * j = kk := ⟨_, rfl⟩
          have hk1 : 0 < kk := by omega
          have hk2 : kk ≤ 1125912004000000 := by omega
          have HK : Hid (k + 3 * (j + 1) = kk + 3) := (by omega : k + 3 * (j + 1) = kk + 3)
          have HM : Hid (mkTile (k + 3 * j) = mkTile kk) := (by rw [hkk] : mkTile (k + 3 * j) = mkTile kk)
          rw [hkk]
          obtain ⟨V, HV⟩ : ∃ V, Hid (V = setRow wr b (off + j * 3) [.int .i64 (kk : Int), .int .i64 ((kk : Int) + 1), .int .i64 ((kk : Int) + 2)]) := ⟨_, (rfl : setRow wr b (off + j * 3) [.int .i64 (kk : Int), .int .i64 ((kk : Int) + 1), .int .i64 ((kk : Int) + 2)] = _)⟩
          have HVe : Hid (V = ((wr.setCell ⟨b, off + j * 3, none⟩ (.int .i64 (kk : Int))).setCell ⟨b, off + j * 3 + 1, none⟩ (.int .i64 ((kk : Int) + 1))).setCell ⟨b, off + j * 3 + 2, none⟩ (.int .i64 ((kk : Int) + 1 + 1))) := (by rw [show (kk : Int) + 1 + 1 = (kk : Int) + 2 by omega]; exact HV.out)
          have S := setRow_in b [.int .i64 (kk : Int), .int .i64 ((kk : Int) + 1), .int .i64 ((kk : Int) + 2)] wr (off + j * 3) (fun i hi => by
            match i, hi with
            | 0, _ => exact ⟨_, c0⟩
            | 1, _ => exact ⟨_, c1⟩
            | 2, _ => exact ⟨_, c2⟩)
          rw [← HV.out] at S
          have hF3 : Fam 3 TileE V b off n (upto (j + 1) (fun i => mkTile (k + 3 * i)) (fun i => l.getD i ⟨0, 0, 0⟩)) f := by
            have := hF.step tileE (w' := V) (j := j) (mkTile kk) (fun o ho => by rw [HV.out]; exact setRow_out b o _ _ _ ho) (fun i hi _ => by rw [hfe i hi]; exact fun x hx => nomatch hx)
              (by rw [hfe j hlt]; exact ⟨rfl, ⟨by show _ ≤ (kk : Int); omega, by show (kk : Int) ≤ _; omega⟩, ⟨by show _ ≤ (kk : Int) + 1; omega, by show (kk : Int) + 1 ≤ _; omega⟩, ⟨by show _ ≤ (kk : Int) + 2; omega, by show (kk : Int) + 2 ≤ _; omega⟩, S 0 (by simp), S 1 (by simp), S 2 (by simp)⟩)
            rw [← HM.out, upto_step j (fun i => mkTile (k + 3 * i)) (fun i => l.getD i ⟨0, 0, 0⟩)] at this
            exact this
          have hO3 : Onl [b] w V := by rw [HVe.out]; exact ((hO.set (b := b) (by simp) _ _).set (b := b) (by simp) _ _).set (b := b) (by simp) _ _
          have hfr3 : ∀ x, V.frozen? ⟨b, x, none⟩ = false := fun x => by rw [HV.out, setRow_frozen]; exact hfr x
          have HF3 : Hid (Fam 3 TileE V b off n (upto (j + 1) (fun i => mkTile (k + 3 * i)) (fun i => l.getD i ⟨0, 0, 0⟩)) f) := hF3
          clear hF hkk hF3 S hO hfr HV
          go_wp2
          rw [← HVe.out]
          go_roundw
          case rel => exact ⟨j + 1, by omega, by go_num, by rw [HK.out]; go_num, HF3.out, hfr3, hO3⟩
          case measure => simp [intOf]; omega
        · have e : n = j := by omega
          subst e
          have HS : Hid (TileL wr (some ⟨b, off, none⟩) (mkTiles k l) (b :: (List.range l.length).flatMap f)) := by
            rw [Hn.out]
            exact Sl.fam hF (Nat.lt_of_lt_of_le hb hO.size) (by rw [mkTiles_len]; exact Hn.out) (fun i hi => by
              rw [mkTiles_len, Hn.out] at hi
              simp [upto, mkTiles, hi])
          have HO : Hid (Onl (b :: (List.range l.length).flatMap f) w wr) := hO.mono (fun x hx => by simp at hx; simp [hx])
          have HR : Hid (∀ x ∈ b :: (List.range l.length).flatMap f, ∀ j, wr.frozen? ⟨x, j, none⟩ = false) := fun x hx j => by
            rcases List.mem_cons.1 hx with rfl | hx
            · exact hfr j
            · obtain ⟨i, hi, hx⟩ := List.mem_flatMap.1 hx
              rw [hfe i (by rw [← Hn.out]; exact List.mem_range.1 hi)] at hx
              exact nomatch hx
          clear hF hO
          go_wp2
          go_ret
          exact ⟨rfl, HS.out, HR.out, HO.out⟩

set_option maxRecDepth 100000 in
set_option maxHeartbeats 1000000 in
theorem heldTileS_any (a : Option Addr) (n c : Nat) (l : List TileD) (bs : List Nat) (k : Nat) (w : World) (hT : TileL w a (mkTiles k l) bs) (hn : l.length = n) (hm : n ≤ 1048576) (hk : k ≤ 1125899906842624) :
    Calls Try.prog 19 #[.slice a n c, .int .i64 k] w fun e w' => e = .returned (.int .i64 ((k + 3 * n : Nat) : Int)) ∧ w' = w := by
  by_cases h0 : n = 0
  · subst h0
    clear hT
    go_enter Try.func19, Try.ntmps19
    go_wp2
    go_loopw [1, 5] (fun t i wr => t = .int .i64 k ∧ i = .int .i64 0 ∧ wr = w) (fun _ _ _ => 0)
    case atStart => exact ⟨rfl, rfl, rfl⟩
    case round =>
      obtain ⟨rfl, rfl, rfl⟩ := hrel
      go_wp2
      go_ret
      exact ⟨by simp, rfl⟩
  · rcases hT with ⟨e, _⟩ | ⟨b, off, f, rfl, hb, rfl, hx⟩
    · have := congrArg List.length e
      rw [mkTiles_len] at this
      exact absurd (hn.symm.trans this) h0
    · have HC : Hid (∀ i, i < n → w.cell? ⟨b, off + i * 3, none⟩ = some (.int .i64 ((k : Int) + 3 * (i : Int))) ∧ w.cell? ⟨b, off + i * 3 + 1, none⟩ = some (.int .i64 ((k : Int) + 3 * (i : Int) + 1)) ∧ w.cell? ⟨b, off + i * 3 + 2, none⟩ = some (.int .i64 ((k : Int) + 3 * (i : Int) + 2))) := fun i hi => by
        have hi' : i < (mkTiles k l).length := by rw [mkTiles_len]; omega
        have h := (hx i hi').2.2.2.2
        refine ⟨by rw [h.1]; simp [mkTiles, mkTile], by rw [h.2.1]; simp [mkTiles, mkTile], by rw [h.2.2]; simp [mkTiles, mkTile]⟩
      clear hx
      go_enter Try.func19, Try.ntmps19
      go_wp2
      go_loopw [1, 5] (fun t i wr => ∃ j : Nat, j ≤ n ∧ i = .int .i64 j ∧ t = .int .i64 ((k : Int) + 3 * (j : Int)) ∧ wr = w) (fun _ i _ => n - (intOf i).toNat)
      case atStart => exact ⟨0, Nat.zero_le _, rfl, by simp, rfl⟩
      case round =>
        obtain ⟨j, hj, rfl, rfl, rfl⟩ := hrel
        by_cases hlt : j < n
        · obtain ⟨cx, cy, cz⟩ := HC.out j hlt
          have hlt' : (j : Int) < (n : Int) := by omega
          go_wp2
          go_roundw
          case rel => exact ⟨j + 1, by omega, by go_num, by go_num, trivial⟩
          case measure => simp [intOf]; omega
        · have e : n = j := by omega
          subst e
          go_wp2
          go_ret
          exact ⟨ret_num (by omega), rfl⟩
end Go.Proofs.Ythlgednppcapbaa
