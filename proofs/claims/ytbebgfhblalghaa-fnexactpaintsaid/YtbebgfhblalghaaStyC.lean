/-
  What a test of a style asks of tags: plain mathematics; the program's functions that ask it: contracts.
-/
import Derived.Test.YtbebgfhblalghaaStyD
import Derived.Test.YtbebgfhblalghaaTagS
import Derived.Laws.EntriesVeiled
import Derived.Deep.LoopGhost
import Derived.Deep.RegionHeld3
namespace Go.Proofs.Ytbebgfhblalghaa
open Go.RowKit

/-- Is there a tag with this Key? -/
def thrB (ts : List TagD) (key : ByteArray) : Bool := ts.any (fun t => t.k.toList == key.toList)
theorem thrB_at {ts : List TagD} {key : ByteArray} {k : Nat} (hk : k < ts.length) (h : (ts[k].k.toList == key.toList) = true) : thrB ts key = true :=
  List.any_eq_true.2 ⟨ts[k], List.getElem_mem hk, h⟩
theorem thrB_none {ts : List TagD} {key : ByteArray} (h : ∀ j (hj : j < ts.length), (ts[j].k.toList == key.toList) = false) : thrB ts key = false := by
  unfold thrB
  rw [List.any_eq_false]
  intro d hd
  obtain ⟨i, hi, rfl⟩ := List.mem_iff_getElem.1 hd
  rw [h i hi]; decide
/-- Is the test right for these tags? -/
def tstB (ts : List TagD) (d : TestD) : Bool :=
  if d.op = 1 then (tagOfL ts d.k).toList == d.v.toList else if d.op = 2 then !((tagOfL ts d.k).toList == d.v.toList) else if d.op = 3 then thrB ts d.k else if d.op = 4 then !(thrB ts d.k) else false
/-- Does the rule apply? -/
def appB (r : RuleD) (ts : List TagD) (z : Int) : Bool := decide (r.low ≤ z) && (decide (z ≤ r.high) && r.tests.all (tstB ts))

set_option maxHeartbeats 1000000 in
theorem tagIs_any (k v key : ByteArray) (B : Nat) (r : Bool) (w : World) (hB : B < w.heap.size) (hc : w.cell? ⟨B, 0, none⟩ = some (.string key)) (hr : (k.toList == key.toList) = r) :
    Calls Try.prog 242 #[.agg #[.string k, .string v], .pointer (some ⟨B, 0, none⟩)] w fun e w' => e = .returned (.bool r) ∧ Bel w w' := by
  go_enter Try.func242, Try.ntmps242
  go_wp2
  go_ret
  exact ⟨rfl, bel_alloc (Bel.refl _) _⟩

set_option maxRecDepth 100000 in
set_option maxHeartbeats 1000000 in
theorem tagIndex_any (a : Option Addr) (n c : Nat) (l : List TagD) (bs : List Nat) (key : ByteArray) (B : Nat) (w : World) (hT : Tags w a l bs) (hn : l.length = n) (hm : n ≤ 1048576) (hB : B < w.heap.size) (hc : w.cell? ⟨B, 0, none⟩ = some (.string key)) :
    Calls Try.prog 255 #[.slice a n c, .func (.func 242) #[] #[.pointer (some ⟨B, 0, none⟩)]] w fun e w' => ∃ r : Int, e = .returned (.int .i64 r) ∧ decide (0 ≤ r) = thrB l key ∧ Bel w w' := by
  have Hn : Hid (l.length = n) := hn
  clear hn
  go_enter Try.func255, Try.ntmps255
  go_wp2
  go_loopw [5, 8] (fun _ i wr => ∃ k : Nat, k ≤ n ∧ i = .int .i64 k ∧ (∀ j (h : j < l.length), j < k → (l[j].k.toList == key.toList) = false) ∧ Bel w wr) (fun _ i _ => n - (intOf i).toNat)
  case atStart => exact ⟨0, Nat.zero_le _, rfl, fun j _ hj => absurd hj (Nat.not_lt_zero _), Bel.refl _⟩
  case round =>
    obtain ⟨k, hk, rfl, hall, hbel⟩ := hrel
    have H : Hid (∀ j (h : j < l.length), j < k → (l[j].k.toList == key.toList) = false) := hall
    have hBr := bel_lt hbel hB
    have hcr := (hbel.out.cell (p := ⟨B, 0, none⟩) hB).trans hc
    clear hall
    by_cases hlt : k < n
    · have hkl : k < l.length := by rw [Hn.out]; exact hlt
      obtain ⟨b, off, f, rfl, hb, hx⟩ := (hT.bel tagE hbel).out hkl
      obtain ⟨_, _, _, c0, c1⟩ := hx k hkl
      have hlt' : (k : Int) < (n : Int) := by omega
      obtain ⟨r, Hr⟩ : ∃ r, Hid ((l[k].k.toList == key.toList) = r) := ⟨_, (rfl : (l[k].k.toList == key.toList) = _)⟩
      clear hx hT hc hB
      go_wp2_with fail
      refine (tagIs_any l[k].k l[k].v key B r _ hBr hcr Hr.out).mono ?_
      rintro e w1 ⟨rfl, hb1⟩
      have hB1 := bel_step hbel hb1
      cases r
      · go_wp2
        go_roundw
        case rel => exact ⟨k + 1, by omega, by go_num, fun j h hj => by
                        (by_cases e : j = k)
                        · subst e; exact Hr.out
                        · exact H.out j h (by omega), hB1⟩
        case measure => simp [intOf]; omega
      · have HF : Hid (decide (0 ≤ (k : Int)) = thrB l key) := by rw [thrB_at hkl Hr.out, decide_eq_true (by omega)]; exact rfl
        go_wp2
        go_ret
        exact ⟨_, rfl, HF.out, hB1⟩
    · have HF : Hid (decide (0 ≤ (-1 : Int)) = thrB l key) := by
        rw [thrB_none fun j h => H.out j h (by rw [Hn.out] at h; omega)]; exact rfl
      go_wp2
      go_ret
      exact ⟨_, rfl, HF.out, hbel⟩

theorem hasTag_any (a : Option Addr) (n c : Nat) (l : List TagD) (bs : List Nat) (key : ByteArray) (w : World) (hT : Tags w a l bs) (hn : l.length = n) (hm : n ≤ 1048576) :
    Calls Try.prog 212 #[.slice a n c, .string key] w fun e w' => e = .returned (.bool (thrB l key)) ∧ Bel w w' := by
  have cC : ∀ (W : World), Bel (w.alloc (.cells #[.string key] 9)) W → Calls Try.prog 241 #[.slice a n c, .func (.func 242) #[] #[.pointer (some ⟨w.heap.size, 0, none⟩)]] W fun e w' => e = .returned (.bool (thrB l key)) ∧ Bel W w' := fun W hW => by
    have X := (Blk.new w [.string key] 9).bel hW
    go_enter Try.func241, Try.ntmps241
    go_wp2_with fail
    refine (tagIndex_any _ _ _ l bs key _ _ (hT.bel tagE (bel_step (bel_alloc (Bel.refl _) _) hW)) hn hm X.lt (X.cell 0 (by simp))).mono ?_
    rintro e w1 ⟨r, rfl, hr, hb1⟩
    have HR : Hid (decide (0 ≤ r) = thrB l key) := hr
    clear X hT hr
    go_wp2
    go_ret
    exact ⟨ret_bl HR.out, hb1⟩
  have hB0 := bel_alloc (Bel.refl w) (.cells #[.string key] 9)
  go_enter Try.func212, Try.ntmps212
  go_wp2_with fail
  refine (cC _ (Bel.refl _)).mono ?_
  rintro e w1 ⟨rfl, hb1⟩
  go_wp2
  go_ret
  exact ⟨rfl, bel_step hB0 hb1⟩

/-- The function value that a test becomes; B: where the test lies. -/
def chkV (B : Nat) (op : Int) : Value :=
  if op = 1 then .func (.func 208) #[] #[.pointer (some ⟨B, 0, none⟩)] else if op = 2 then .func (.func 210) #[] #[.pointer (some ⟨B, 0, none⟩)]
  else if op = 3 then .func (.func 211) #[] #[.pointer (some ⟨B, 0, none⟩)] else if op = 4 then .func (.func 213) #[] #[.pointer (some ⟨B, 0, none⟩)] else .func (.func 214) #[] #[]
set_option maxHeartbeats 1000000 in
theorem chk1_any (B : Nat) (d : TestD) (a : Option Addr) (n c : Nat) (l : List TagD) (bs : List Nat) (w : World) (hB : B < w.heap.size) (hd : TestE w B 0 d []) (hT : Tags w a l bs) (hn : l.length = n) (hm : n ≤ 1048576) :
    Calls Try.prog 208 #[.slice a n c, .pointer (some ⟨B, 0, none⟩)] w fun e w' => e = .returned (.bool ((tagOfL l d.k).toList == d.v.toList)) ∧ Bel w w' := by
  obtain ⟨_, _, _, _, c0, c1, c2⟩ := hd
  obtain ⟨K, HK⟩ : ∃ K, Hid (K = d.k) := ⟨_, (rfl : d.k = _)⟩
  obtain ⟨V, HV⟩ : ∃ K, Hid (K = d.v) := ⟨_, (rfl : d.v = _)⟩
  rw [← HK.out] at c0 ⊢
  rw [← HV.out] at c2 ⊢
  have hR : ∀ w', Bel w w' → w'.cell? ⟨B, 0, none⟩ = some (.string K) ∧ w'.cell? ⟨B, 2, none⟩ = some (.string V) := fun w' h => ⟨(h.out.cell (p := ⟨B, 0, none⟩) hB).trans c0, (h.out.cell (p := ⟨B, 2, none⟩) hB).trans c2⟩
  have g0 : Bel w w := Bel.refl _
  have cT := fun (W : World) (h : Bel w W) => tagOf_any a n c l bs K W (hT.bel tagE h) hn hm
  obtain ⟨T, HT⟩ : ∃ T, Hid (tagOfL l K = T) := ⟨_, (rfl : tagOfL l K = _)⟩
  rw [HT.out] at cT ⊢
  clear c0 c1 c2 hT
  go_enter Try.func208, Try.ntmps208
  go_wp2
  go_region_held3 (fun w' => Bel w w') (with_reducible (repeat (first | exact g0 | refine Bel.drew ?_ | assumption)))
    (first
      | (go_at_call 209; refine (cT _ (by assumption)).mono ?_; rintro e w1 ⟨rfl, hb1⟩; refine (fun hq : Bel w w1 => ?_) (bel_step (by assumption) hb1)))
  go_wp2
  go_ret
  exact ⟨rfl, hq⟩
set_option maxHeartbeats 1000000 in
theorem chk2_any (B : Nat) (d : TestD) (a : Option Addr) (n c : Nat) (l : List TagD) (bs : List Nat) (w : World) (hB : B < w.heap.size) (hd : TestE w B 0 d []) (hT : Tags w a l bs) (hn : l.length = n) (hm : n ≤ 1048576) :
    Calls Try.prog 210 #[.slice a n c, .pointer (some ⟨B, 0, none⟩)] w fun e w' => e = .returned (.bool (!((tagOfL l d.k).toList == d.v.toList))) ∧ Bel w w' := by
  obtain ⟨_, _, _, _, c0, c1, c2⟩ := hd
  obtain ⟨K, HK⟩ : ∃ K, Hid (K = d.k) := ⟨_, (rfl : d.k = _)⟩
  obtain ⟨V, HV⟩ : ∃ K, Hid (K = d.v) := ⟨_, (rfl : d.v = _)⟩
  rw [← HK.out] at c0 ⊢
  rw [← HV.out] at c2 ⊢
  have hR : ∀ w', Bel w w' → w'.cell? ⟨B, 0, none⟩ = some (.string K) ∧ w'.cell? ⟨B, 2, none⟩ = some (.string V) := fun w' h => ⟨(h.out.cell (p := ⟨B, 0, none⟩) hB).trans c0, (h.out.cell (p := ⟨B, 2, none⟩) hB).trans c2⟩
  have g0 : Bel w w := Bel.refl _
  have cT := fun (W : World) (h : Bel w W) => tagOf_any a n c l bs K W (hT.bel tagE h) hn hm
  obtain ⟨T, HT⟩ : ∃ T, Hid (tagOfL l K = T) := ⟨_, (rfl : tagOfL l K = _)⟩
  rw [HT.out] at cT ⊢
  clear c0 c1 c2 hT
  go_enter Try.func210, Try.ntmps210
  go_wp2
  go_region_held3 (fun w' => Bel w w') (with_reducible (repeat (first | exact g0 | refine Bel.drew ?_ | assumption)))
    (first
      | (go_at_call 209; refine (cT _ (by assumption)).mono ?_; rintro e w1 ⟨rfl, hb1⟩; refine (fun hq : Bel w w1 => ?_) (bel_step (by assumption) hb1)))
  go_wp2
  go_ret
  exact ⟨rfl, hq⟩
theorem chk3_any (B : Nat) (d : TestD) (a : Option Addr) (n c : Nat) (l : List TagD) (bs : List Nat) (w : World) (hd : TestE w B 0 d []) (hT : Tags w a l bs) (hn : l.length = n) (hm : n ≤ 1048576) :
    Calls Try.prog 211 #[.slice a n c, .pointer (some ⟨B, 0, none⟩)] w fun e w' => e = .returned (.bool (thrB l d.k)) ∧ Bel w w' := by
  obtain ⟨_, _, _, _, c0, _, _⟩ := hd
  go_enter Try.func211, Try.ntmps211
  go_wp2_with fail
  refine (hasTag_any _ _ _ l bs d.k _ hT hn hm).mono ?_
  rintro e w1 ⟨rfl, hb1⟩
  go_wp2
  go_ret
  exact ⟨rfl, hb1⟩
theorem chk4_any (B : Nat) (d : TestD) (a : Option Addr) (n c : Nat) (l : List TagD) (bs : List Nat) (w : World) (hd : TestE w B 0 d []) (hT : Tags w a l bs) (hn : l.length = n) (hm : n ≤ 1048576) :
    Calls Try.prog 213 #[.slice a n c, .pointer (some ⟨B, 0, none⟩)] w fun e w' => e = .returned (.bool (!(thrB l d.k))) ∧ Bel w w' := by
  obtain ⟨_, _, _, _, c0, _, _⟩ := hd
  obtain ⟨q, Hq⟩ : ∃ q, Hid (thrB l d.k = q) := ⟨_, (rfl : thrB l d.k = _)⟩
  have cH := fun (W : World) => hasTag_any a n c l bs d.k W
  rw [Hq.out] at cH ⊢
  go_enter Try.func213, Try.ntmps213
  go_wp2_with fail
  refine (cH _ hT hn hm).mono ?_
  rintro e w1 ⟨rfl, hb1⟩
  go_wp2
  go_ret
  exact ⟨rfl, hb1⟩
theorem chk5_any (a : Option Addr) (n c : Nat) (w : World) :
    Calls Try.prog 214 #[.slice a n c] w fun e w' => e = .returned (.bool false) ∧ Bel w w' := by
  go_enter Try.func214, Try.ntmps214
  go_wp2
  go_ret
  exact ⟨rfl, Bel.refl _⟩
end Go.Proofs.Ytbebgfhblalghaa
