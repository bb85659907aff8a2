/-
  For all bytes: a drawn row's sum goes on from its beginning's sum, the product of drawn turns does not hang on their order, and a short float that is answered comes back.
-/
import Derived.Test.YthbhoppmdcfgeaaRows
import Derived.Test.YthbhoppmdcfgeaaSame
import Derived.Test.YthbhoppmdcfgeaaOpenF
import Derived.WalkKit
import Derived.ProofKit
import Derived.OpenShut
import Derived.SizedLaws
namespace Go.Proofs.Ythbhoppmdcfgeaa.fnSums
open Go.ChangeShapes Go.WideShapes Go.ChangeAt Go.RowKit
set_option linter.unusedVariables false

theorem own : ownKnob Try.prog.godebug = none := by kernel_rfl

theorem take_getD (xs : List Nat) (k i : Nat) (h : i < (xs.take k).length) : (xs.take k).getD i 0 = xs.getD i 0 ∧ i < xs.length := by
  rw [List.length_take] at h
  rw [List.getD_eq_getElem?_getD, List.getD_eq_getElem?_getD, List.getElem?_take, if_pos (by omega)]
  exact ⟨rfl, by omega⟩
theorem frow_take {w : World} {ao : Option Addr} {xs : List Nat} (h : FRow w ao xs) (k : Nat) : FRow w ao (xs.take k) := by
  intro i hi
  obtain ⟨e, hl⟩ := take_getD xs k i hi
  rw [e]
  exact h i hl
theorem wide_take {xs : List Nat} (h : Wide xs) (k : Nat) : Wide (xs.take k) := by
  intro i hi
  obtain ⟨e, hl⟩ := take_getD xs k i hi
  rw [e]
  exact h i hl
theorem wide_rest {xs : List Nat} (h : Wide xs) (k s : Nat) (hs : s < 18446744073709551616) : Wide (s :: xs.drop k) := by
  rw [wide_iff] at *
  intro x hx
  rcases List.mem_cons.1 hx with h1 | h1
  · omega
  · exact h x (List.mem_of_mem_drop h1)
theorem sum_lt (xs : List Nat) : (sumM xs).1 < 18446744073709551616 := by
  unfold sumM
  split
  · cases h : accO xs with
    | none => simp [plainO]
    | some v =>
      have := (acc_plain xs v h).1
      show plain v < _
      unfold plain
      split <;> omega
  · show 0 < _; omega
theorem rest_cells {w : World} {ab off : Nat} {xs : List Nat} (h : FRow w (some ⟨ab, off, none⟩) xs) (k : Nat) (o : Obj) : ∀ (j : Nat) (u : Value), ((xs.drop k).map (Value.float .f64))[j]? = some u → (w.alloc o).cell? ((⟨ab, off + k, none⟩ : Addr).add j) = some u := by
  intro j u hj
  rw [List.getElem?_map, List.getElem?_drop] at hj
  cases hx : xs[k + j]? with
  | none => rw [hx] at hj; cases hj
  | some x =>
    rw [hx] at hj
    obtain rfl : Value.float .f64 x = u := by simpa using hj
    have hlt : k + j < xs.length := by
      rcases Nat.lt_or_ge (k + j) xs.length with h | h
      · exact h
      · rw [List.getElem?_eq_none h] at hx; cases hx
    obtain ⟨ab', off', e, hc⟩ := h (k + j) hlt
    cases e
    rw [List.getD_eq_getElem?_getD, hx] at hc
    have hb := World.block_lt_of_cell? w _ hc
    rw [Go.WideShapes.add_plain, Nat.add_assoc]
    exact (World.cell?_of_block (w := w) (a := ⟨ab, off + (k + j), none⟩) (Below.heap_alloc w o ab hb)).trans hc
theorem rest_one (xs : List Nat) : ∀ u, u ∈ xs.map (Value.float .f64) → u.oneCell' = true := by
  intro u hu
  obtain ⟨x, _, rfl⟩ := List.mem_map.1 hu
  rfl

theorem rest_kept {w w1 w5 : World} {s n : Nat} (k1 : Kept w w1) (hg : ((w1.alloc (.cells #[.float .f64 s] 25)).drewN n).grownBy w5 (Value.slice (some ⟨w1.heap.size, 0, none⟩) 1 1).ownBlock) : Kept w w5 := by
  refine Kept.grownBy ((k1.trans (Kept.of ((Grown.refl w1).alloc _ _))).drewN n) hg ?_
  intro k e
  have : w1.heap.size = k := by simpa [Value.ownBlock] using e
  have := k1.2
  omega
theorem rest_own {B : Nat} {w5 : World} {v' : Value} {s k : Nat} {xs : List Nat} (h : w5.ownsRow B 25 1 v' (1 + (xs.length - k)) ([Value.float .f64 s] ++ (xs.drop k).map (Value.float .f64))) : Own B w5 v' (s :: xs.drop k) := by
  unfold Own
  have e : (s :: xs.drop k).length = 1 + (xs.length - k) := by simp; omega
  rw [e]
  simpa using h

/-- What ToShort answers, where it answers, comes back. -/
theorem to_false {x b : Nat} (h : (toM x b).2 = false) : toM x b = (0, false) := by
  unfold toM at *
  split at h
  · cases h
  · rename_i hc; rw [if_neg hc]
theorem to_back {x b : Nat} (hb : b < 4294967296) (h : (toM x b).2 = true) : ∃ c y, toM x b = (c, true) ∧ c < 4294967296 ∧ ofShortM c = (y, true) ∧ y < 18446744073709551616 ∧ narO y = some c ∧ toM y c = (c, true) := by
  unfold toM at h
  split at h
  · rename_i hc
    simp only [Bool.and_eq_true] at hc
    have key : ∀ c, c < 4294967296 → fin32 c = true → c ≠ 2147483648 → (zero32 c = true → c = 0) → toM x b = (c, true) → ∃ c y, toM x b = (c, true) ∧ c < 4294967296 ∧ ofShortM c = (y, true) ∧ y < 18446744073709551616 ∧ narO y = some c ∧ toM y c = (c, true) := by
      intro c h1 h2 h3 h4 h5
      obtain ⟨y, e1, e2, e3, e4⟩ := short_back c h1 h2 h3
      refine ⟨c, y, h5, h1, ?_, e2, e4, ?_⟩
      · simp only [ofShortM, e1, goodO, e3, if_true, Option.getD_some]
      · simp only [toM, e3, h2, Bool.and_self, if_true]
        cases hz : zero32 c
        · rfl
        · rw [h4 hz]; rfl
    have e0 : toM x b = (if zero32 b then 0 else b, true) := by simp only [toM, hc.1, hc.2, Bool.and_self, if_true]
    cases hz : zero32 b
    · refine key b hb hc.2 ?_ (fun h => by rw [hz] at h; cases h) (by rw [e0, hz]; rfl)
      intro e
      subst e
      simp [zero32] at hz
    · exact key 0 (by omega) (by decide) (by omega) (fun _ => rfl) (by rw [e0, hz]; rfl)
  · cases h

set_option maxHeartbeats 4000000 in
theorem walk (ao0 : Option Addr) (len0 cap0 : Nat) (ao1 : Option Addr) (len1 cap1 : Nat) (w : World) (hm0 : len0 ≤ 140737488351232) (hc0 : Code w ao0 len0) (hm1 : len1 ≤ 140737488351232) (hc1 : Code w ao1 len1) :
    Calls Try.prog 3 #[.slice ao0 len0 cap0, .slice ao1 len1 cap1] w fun e w' => e = .returned (.bool true) ∧ Kept w w' := by
  by_cases h1 : 1048576 < len0 + len1
  · have h1' : (1048576 : Int) < (len0 : Int) + (len1 : Int) := by omega
    go_enter Try.func3, Try.ntmps3
    go_wp2
    go_ret
    exact ⟨rfl, Kept.refl w⟩
  · have hl0 : len0 ≤ 1048576 := by omega
    have hl1 : len1 ≤ 1048576 := by omega
    obtain ⟨i0, hi, hz0, hz1, hz2⟩ := info_parts info25
    go_enter Try.func3, Try.ntmps3
    go_wp2_with fail
    go_at_call 13; refine (drawRow ao0 len0 cap0 _ hc0 hl0).mono ?_; rintro e w1 ⟨ao, cap, xs, rfl, hfr, hwd, hln, hcp, hmx, k1⟩
    go_wp2_with fail
    go_at_call 14; refine (implSum ao cap xs _ hfr hwd (by omega)).mono ?_; rintro e w2 ⟨rfl, n2, rfl⟩
    go_wp2_with fail
    go_at_call 15; refine (specSum ao cap xs (w1.drewN n2) hfr hwd (by omega)).mono ?_; rintro e w3 ⟨rfl, n3, rfl⟩
    have hn := sum_nan0 xs
    have KW : Hid (Kept w (w1.drewN (n2 + n3))) := k1.drewN (n2 + n3)
    cases hs : (sumM xs).2
    · go_wp2_with fail
      go_at_call 16; refine (drawTurns ao1 len1 cap1 _ (hc1.kept KW) hl1).mono ?_; rintro e wB ⟨a, b, c, d, rfl, ha, hb, hcc, hd, kB⟩
      have KB0 : Hid (Kept w wB) := Kept.trans KW kB
      clear hfr hwd hmx k1 hi hz0 hz1 hz2 hn
      have hcm := mul_turn_comm a b c d
      have hmn := mul_nan0 a b c d
      have hne := turn_neq (mulM a b c d).1 (mulM a b c d).2.1 hmn.1 hmn.2
      have hg29 := guard29
      go_wp2_with fail
      go_at_call 17; refine (implMul a b c d ha hb hcc hd _).mono ?_; rintro e wC ⟨rfl, gC⟩
      obtain ⟨c0, c1, c2, c3, z0, z1⟩ := keep4 (h := wB.heap.size) (a := .float .f64 a) (b := .float .f64 b) (c := .float .f64 c) (d := .float .f64 d) gC (by simp +arith) (by simp [go_sem]) (by simp [go_sem]) (by simp [go_sem]) (by simp [go_sem])
      have KC : Hid (Kept w wC) := Kept.trans (Kept.trans KB0 (Kept.of (((Grown.refl wB).alloc _ _).alloc _ _))) (Kept.of gC)
      clear gC
      go_wp2_with fail
      go_at_call 17; refine (implMul c d a b hcc hd ha hb _).mono ?_; rw [← hcm]; rintro e wD ⟨rfl, gD⟩
      have p0 : wD.cell? ⟨wC.heap.size, 0, none⟩ = some (.float .f64 (mulM a b c d).1) := (gcell gD _ _ (by simp)).trans (by simp [go_sem])
      have p1 : wD.cell? ⟨wC.heap.size, 1, none⟩ = some (.float .f64 (mulM a b c d).2.1) := (gcell gD _ _ (by simp)).trans (by simp [go_sem])
      have pz : wC.heap.size < wD.heap.size := by have := gD.2.2; simp at this; omega
      have KD : Hid (Kept w (wD.alloc (.cells #[.float .f64 (mulM a b c d).1, .float .f64 (mulM a b c d).2.1] 29))) := Kept.trans (Kept.trans (Kept.trans KC (Kept.of ((Grown.refl wC).alloc _ _))) (Kept.of gD)) (Kept.of ((Grown.refl wD).alloc _ _))
      clear gD hcm c0 c1 c2 c3 z0 z1
      go_wp2_with fail
      go_at_call 18; refine (drawTo ao1 len1 cap1 _ (hc1.kept KD) hl1).mono ?_; rintro e wF ⟨x, rfl, hx, kF⟩
      have KF : Hid (Kept w wF) := Kept.trans KD kF
      clear kF p0 p1 pz hne hg29 hmn KC KD KB0 kB
      go_wp2_with fail
      go_at_call 19; refine (implTo x hx _).mono ?_; rintro e wG ⟨⟨q, hq, hnar, rfl⟩, n9, rfl⟩
      clear hnar
      cases hok : (toM x q).2
      · have e0 := to_false hok
        rw [e0]
        go_wp2
        go_ret
        exact ⟨rfl, Kept.drewN KF n9⟩
      · obtain ⟨v, y, e1, hv, e2, hy, e3, e4⟩ := to_back hq hok
        rw [e1]
        clear e1 hok
        go_wp2_with fail
        go_at_call 20; refine (implOf (v : Int) (by omega) (by omega) _).mono ?_; rw [Int.toNat_natCast, e2]; rintro e wH ⟨rfl, gH⟩
        go_wp2_with fail
        go_at_call 19; refine (implTo y hy _).mono ?_; rintro e wI ⟨⟨q2, hq2, hnar2, rfl⟩, n10, rfl⟩
        obtain rfl := hnar2 v e3
        rw [e4]
        clear hnar2 e2 e3 e4
        go_wp2
        go_ret
        exact ⟨rfl, Kept.drewN (Kept.trans (Kept.drewN KF n9) (Kept.of gH)) n10⟩
    · by_cases hx0 : xs.length = 0
      · go_wp2_with fail
        go_at_call 16; refine (drawTurns ao1 len1 cap1 _ (hc1.kept KW) hl1).mono ?_; rintro e wB ⟨a, b, c, d, rfl, ha, hb, hcc, hd, kB⟩
        have KB0 : Hid (Kept w wB) := Kept.trans KW kB
        clear hfr hwd hmx k1 hi hz0 hz1 hz2 hn
        have hcm := mul_turn_comm a b c d
        have hmn := mul_nan0 a b c d
        have hne := turn_neq (mulM a b c d).1 (mulM a b c d).2.1 hmn.1 hmn.2
        have hg29 := guard29
        go_wp2_with fail
        go_at_call 17; refine (implMul a b c d ha hb hcc hd _).mono ?_; rintro e wC ⟨rfl, gC⟩
        obtain ⟨c0, c1, c2, c3, z0, z1⟩ := keep4 (h := wB.heap.size) (a := .float .f64 a) (b := .float .f64 b) (c := .float .f64 c) (d := .float .f64 d) gC (by simp +arith) (by simp [go_sem]) (by simp [go_sem]) (by simp [go_sem]) (by simp [go_sem])
        have KC : Hid (Kept w wC) := Kept.trans (Kept.trans KB0 (Kept.of (((Grown.refl wB).alloc _ _).alloc _ _))) (Kept.of gC)
        clear gC
        go_wp2_with fail
        go_at_call 17; refine (implMul c d a b hcc hd ha hb _).mono ?_; rw [← hcm]; rintro e wD ⟨rfl, gD⟩
        have p0 : wD.cell? ⟨wC.heap.size, 0, none⟩ = some (.float .f64 (mulM a b c d).1) := (gcell gD _ _ (by simp)).trans (by simp [go_sem])
        have p1 : wD.cell? ⟨wC.heap.size, 1, none⟩ = some (.float .f64 (mulM a b c d).2.1) := (gcell gD _ _ (by simp)).trans (by simp [go_sem])
        have pz : wC.heap.size < wD.heap.size := by have := gD.2.2; simp at this; omega
        have KD : Hid (Kept w (wD.alloc (.cells #[.float .f64 (mulM a b c d).1, .float .f64 (mulM a b c d).2.1] 29))) := Kept.trans (Kept.trans (Kept.trans KC (Kept.of ((Grown.refl wC).alloc _ _))) (Kept.of gD)) (Kept.of ((Grown.refl wD).alloc _ _))
        clear gD hcm c0 c1 c2 c3 z0 z1
        go_wp2_with fail
        go_at_call 18; refine (drawTo ao1 len1 cap1 _ (hc1.kept KD) hl1).mono ?_; rintro e wF ⟨x, rfl, hx, kF⟩
        have KF : Hid (Kept w wF) := Kept.trans KD kF
        clear kF p0 p1 pz hne hg29 hmn KC KD KB0 kB
        go_wp2_with fail
        go_at_call 19; refine (implTo x hx _).mono ?_; rintro e wG ⟨⟨q, hq, hnar, rfl⟩, n9, rfl⟩
        clear hnar
        cases hok : (toM x q).2
        · have e0 := to_false hok
          rw [e0]
          go_wp2
          go_ret
          exact ⟨rfl, Kept.drewN KF n9⟩
        · obtain ⟨v, y, e1, hv, e2, hy, e3, e4⟩ := to_back hq hok
          rw [e1]
          clear e1 hok
          go_wp2_with fail
          go_at_call 20; refine (implOf (v : Int) (by omega) (by omega) _).mono ?_; rw [Int.toNat_natCast, e2]; rintro e wH ⟨rfl, gH⟩
          go_wp2_with fail
          go_at_call 19; refine (implTo y hy _).mono ?_; rintro e wI ⟨⟨q2, hq2, hnar2, rfl⟩, n10, rfl⟩
          obtain rfl := hnar2 v e3
          rw [e4]
          clear hnar2 e2 e3 e4
          go_wp2
          go_ret
          exact ⟨rfl, Kept.drewN (Kept.trans (Kept.drewN KF n9) (Kept.of gH)) n10⟩
      · obtain ⟨ab, off, rfl, _⟩ := hfr 0 (by omega)
        have hx1 : 0 < xs.length := by omega
        obtain ⟨k, hk⟩ : ∃ k, k = xs.length / 2 := ⟨_, rfl⟩
        have hkI : (xs.length : Int) / 2 = (k : Int) := by omega
        have hk1 : k < xs.length := by omega
        have hmx' : cap ≤ 9223372036854775807 := hmx
        have HKd : Hid (k = xs.length / 2) := hk
        clear hk
        have ht : (xs.take k).length = k := by rw [List.length_take]; omega
        have hsum := implSum (some ⟨ab, off, none⟩) cap (xs.take k) (w1.drewN (n2 + n3)) (frow_take hfr k) (wide_take hwd k) (by omega)
        rw [ht] at hsum
        have HSm : Hid (Calls Try.prog 14 #[.slice (some ⟨ab, off, none⟩) k cap] (w1.drewN (n2 + n3)) fun e w' => e = .returned (fbV (sumM (xs.take k))) ∧ ∃ n, w' = (w1.drewN (n2 + n3)).drewN n) := hsum
        clear hsum
        have hkc : k < cap := by omega
        have hkcI : (k : Int) < (cap : Int) := by omega
        go_wp2_with fail
        go_at_call 14
        refine Calls.mono HSm ?_; rintro e w4 ⟨rfl, n4, rfl⟩
        clear HSm ht
        have hk1s := k1.2
        by_cases hk0 : 0 < k
        · have hk0I : (0 : Int) < (k : Int) := by omega
          have hgo := sum_goes_on xs k hk0 (by omega) hs
          have hgo1 := hgo.1
          have HG : Hid (sumM ((sumM (xs.take k)).1 :: xs.drop k) = sumM xs) := hgo.2
          clear hgo
          go_wp2_with (first
            | (at_builtin; refine wpList_append_own _ rfl _ _ 23 rfl w1.heap.size 25 i0 (.float .f64 0) 1 8 Try.underlying23 hi hz0 hz1 hz2 rfl (by decide) _ _ _ rfl (World.ownsRow_lit w1 #[.float .f64 (sumM (xs.take k)).1] 1 (Nat.le_refl _) (by decide) rfl) ⟨ab, off + k, none⟩ (xs.length - k) (cap - k) ((xs.drop k).map (Value.float .f64)) rfl (by simp) (rest_cells hfr k _) (rest_one _) (by unfold maxLen; omega) (by omega) (by simp) ?_; intro v' w5 hown' hgrow _))
          have K5 : Kept w w5 := rest_kept k1 hgrow
          obtain ⟨ao5, cap5, rfl, _, _, hf5⟩ := own_form2 (rest_own hown')
          have hsum := implSum ao5 cap5 ((sumM (xs.take k)).1 :: xs.drop k) w5 hf5 (wide_rest hwd k _ (sum_lt _)) (by simp; omega)
          rw [show sumM ((sumM (xs.take k)).1 :: xs.drop k) = sumM xs from HG] at hsum
          clear hown' hgrow hf5 HG KW
          go_at_call 14
          refine hsum.mono ?_; rintro e w6 ⟨rfl, n6, rfl⟩
          clear hsum
          have KW : Hid (Kept w (w5.drewN n6)) := K5.drewN n6
          go_wp2_with fail
          go_at_call 16; refine (drawTurns ao1 len1 cap1 _ (hc1.kept KW) hl1).mono ?_; rintro e wB ⟨a, b, c, d, rfl, ha, hb, hcc, hd, kB⟩
          have KB0 : Hid (Kept w wB) := Kept.trans KW kB
          clear hfr hwd hmx k1 hi hz0 hz1 hz2 hn K5 hk0I hgo1 hkc hkcI hkI hk1 HKd
          have hcm := mul_turn_comm a b c d
          have hmn := mul_nan0 a b c d
          have hne := turn_neq (mulM a b c d).1 (mulM a b c d).2.1 hmn.1 hmn.2
          have hg29 := guard29
          go_wp2_with fail
          go_at_call 17; refine (implMul a b c d ha hb hcc hd _).mono ?_; rintro e wC ⟨rfl, gC⟩
          obtain ⟨c0, c1, c2, c3, z0, z1⟩ := keep4 (h := wB.heap.size) (a := .float .f64 a) (b := .float .f64 b) (c := .float .f64 c) (d := .float .f64 d) gC (by simp +arith) (by simp [go_sem]) (by simp [go_sem]) (by simp [go_sem]) (by simp [go_sem])
          have KC : Hid (Kept w wC) := Kept.trans (Kept.trans KB0 (Kept.of (((Grown.refl wB).alloc _ _).alloc _ _))) (Kept.of gC)
          clear gC
          go_wp2_with fail
          go_at_call 17; refine (implMul c d a b hcc hd ha hb _).mono ?_; rw [← hcm]; rintro e wD ⟨rfl, gD⟩
          have p0 : wD.cell? ⟨wC.heap.size, 0, none⟩ = some (.float .f64 (mulM a b c d).1) := (gcell gD _ _ (by simp)).trans (by simp [go_sem])
          have p1 : wD.cell? ⟨wC.heap.size, 1, none⟩ = some (.float .f64 (mulM a b c d).2.1) := (gcell gD _ _ (by simp)).trans (by simp [go_sem])
          have pz : wC.heap.size < wD.heap.size := by have := gD.2.2; simp at this; omega
          have KD : Hid (Kept w (wD.alloc (.cells #[.float .f64 (mulM a b c d).1, .float .f64 (mulM a b c d).2.1] 29))) := Kept.trans (Kept.trans (Kept.trans KC (Kept.of ((Grown.refl wC).alloc _ _))) (Kept.of gD)) (Kept.of ((Grown.refl wD).alloc _ _))
          clear gD hcm c0 c1 c2 c3 z0 z1
          go_wp2_with fail
          go_at_call 18; refine (drawTo ao1 len1 cap1 _ (hc1.kept KD) hl1).mono ?_; rintro e wF ⟨x, rfl, hx, kF⟩
          have KF : Hid (Kept w wF) := Kept.trans KD kF
          clear kF p0 p1 pz hne hg29 hmn KC KD KB0 kB
          go_wp2_with fail
          go_at_call 19; refine (implTo x hx _).mono ?_; rintro e wG ⟨⟨q, hq, hnar, rfl⟩, n9, rfl⟩
          clear hnar
          cases hok : (toM x q).2
          · have e0 := to_false hok
            rw [e0]
            go_wp2
            go_ret
            exact ⟨rfl, Kept.drewN KF n9⟩
          · obtain ⟨v, y, e1, hv, e2, hy, e3, e4⟩ := to_back hq hok
            rw [e1]
            clear e1 hok
            go_wp2_with fail
            go_at_call 20; refine (implOf (v : Int) (by omega) (by omega) _).mono ?_; rw [Int.toNat_natCast, e2]; rintro e wH ⟨rfl, gH⟩
            go_wp2_with fail
            go_at_call 19; refine (implTo y hy _).mono ?_; rintro e wI ⟨⟨q2, hq2, hnar2, rfl⟩, n10, rfl⟩
            obtain rfl := hnar2 v e3
            rw [e4]
            clear hnar2 e2 e3 e4
            go_wp2
            go_ret
            exact ⟨rfl, Kept.drewN (Kept.trans (Kept.drewN KF n9) (Kept.of gH)) n10⟩
        · have hk0I : decide ((0 : Int) < (k : Int)) = false := by simp; omega
          go_wp2_with (first
            | (at_builtin; refine wpList_append_own _ rfl _ _ 23 rfl w1.heap.size 25 i0 (.float .f64 0) 1 8 Try.underlying23 hi hz0 hz1 hz2 rfl (by decide) _ _ _ rfl (World.ownsRow_lit w1 #[.float .f64 (sumM (xs.take k)).1] 1 (Nat.le_refl _) (by decide) rfl) ⟨ab, off + k, none⟩ (xs.length - k) (cap - k) ((xs.drop k).map (Value.float .f64)) rfl (by simp) (rest_cells hfr k _) (rest_one _) (by unfold maxLen; omega) (by omega) (by simp) ?_; intro v' w5 hown' hgrow _))
          have K5 : Kept w w5 := rest_kept k1 hgrow
          clear hown' hgrow KW
          have KW : Hid (Kept w w5) := K5
          go_at_call 16; refine (drawTurns ao1 len1 cap1 _ (hc1.kept KW) hl1).mono ?_; rintro e wB ⟨a, b, c, d, rfl, ha, hb, hcc, hd, kB⟩
          have KB0 : Hid (Kept w wB) := Kept.trans KW kB
          clear hfr hwd hmx k1 hi hz0 hz1 hz2 hn K5 hk0I hkc hkcI hkI hk1 HKd
          have hcm := mul_turn_comm a b c d
          have hmn := mul_nan0 a b c d
          have hne := turn_neq (mulM a b c d).1 (mulM a b c d).2.1 hmn.1 hmn.2
          have hg29 := guard29
          go_wp2_with fail
          go_at_call 17; refine (implMul a b c d ha hb hcc hd _).mono ?_; rintro e wC ⟨rfl, gC⟩
          obtain ⟨c0, c1, c2, c3, z0, z1⟩ := keep4 (h := wB.heap.size) (a := .float .f64 a) (b := .float .f64 b) (c := .float .f64 c) (d := .float .f64 d) gC (by simp +arith) (by simp [go_sem]) (by simp [go_sem]) (by simp [go_sem]) (by simp [go_sem])
          have KC : Hid (Kept w wC) := Kept.trans (Kept.trans KB0 (Kept.of (((Grown.refl wB).alloc _ _).alloc _ _))) (Kept.of gC)
          clear gC
          go_wp2_with fail
          go_at_call 17; refine (implMul c d a b hcc hd ha hb _).mono ?_; rw [← hcm]; rintro e wD ⟨rfl, gD⟩
          have p0 : wD.cell? ⟨wC.heap.size, 0, none⟩ = some (.float .f64 (mulM a b c d).1) := (gcell gD _ _ (by simp)).trans (by simp [go_sem])
          have p1 : wD.cell? ⟨wC.heap.size, 1, none⟩ = some (.float .f64 (mulM a b c d).2.1) := (gcell gD _ _ (by simp)).trans (by simp [go_sem])
          have pz : wC.heap.size < wD.heap.size := by have := gD.2.2; simp at this; omega
          have KD : Hid (Kept w (wD.alloc (.cells #[.float .f64 (mulM a b c d).1, .float .f64 (mulM a b c d).2.1] 29))) := Kept.trans (Kept.trans (Kept.trans KC (Kept.of ((Grown.refl wC).alloc _ _))) (Kept.of gD)) (Kept.of ((Grown.refl wD).alloc _ _))
          clear gD hcm c0 c1 c2 c3 z0 z1
          go_wp2_with fail
          go_at_call 18; refine (drawTo ao1 len1 cap1 _ (hc1.kept KD) hl1).mono ?_; rintro e wF ⟨x, rfl, hx, kF⟩
          have KF : Hid (Kept w wF) := Kept.trans KD kF
          clear kF p0 p1 pz hne hg29 hmn KC KD KB0 kB
          go_wp2_with fail
          go_at_call 19; refine (implTo x hx _).mono ?_; rintro e wG ⟨⟨q, hq, hnar, rfl⟩, n9, rfl⟩
          clear hnar
          cases hok : (toM x q).2
          · have e0 := to_false hok
            rw [e0]
            go_wp2
            go_ret
            exact ⟨rfl, Kept.drewN KF n9⟩
          · obtain ⟨v, y, e1, hv, e2, hy, e3, e4⟩ := to_back hq hok
            rw [e1]
            clear e1 hok
            go_wp2_with fail
            go_at_call 20; refine (implOf (v : Int) (by omega) (by omega) _).mono ?_; rw [Int.toNat_natCast, e2]; rintro e wH ⟨rfl, gH⟩
            go_wp2_with fail
            go_at_call 19; refine (implTo y hy _).mono ?_; rintro e wI ⟨⟨q2, hq2, hnar2, rfl⟩, n10, rfl⟩
            obtain rfl := hnar2 v e3
            rw [e4]
            clear hnar2 e2 e3 e4
            go_wp2
            go_ret
            exact ⟨rfl, Kept.drewN (Kept.trans (Kept.drewN KF n9) (Kept.of gH)) n10⟩

theorem cellsByte : Try.prog.cellsOf 5 = 1 := by kernel_rfl
theorem bytes5 : Try.prog.bytesOf 5 = 1 := by kernel_rfl
theorem u8_bd (c : Int) (h : (Lit.int .u8 c).wf = true) : 0 ≤ c ∧ c ≤ 255 := by
  have h' : IntKind.u8.min ≤ c ∧ c ≤ IntKind.u8.max := by simpa [Lit.wf] using h
  have e : IntKind.u8.min = 0 := by decide
  have e' : IntKind.u8.max = 255 := by decide
  rw [e, e'] at h'
  exact h'
theorem code_of {H : Type} {enc : TypeId × Value → H} {W : World} {base : Nat} {v0 : Value} {d0 : DataW H} {p0 : List MemPlace} (hval : Value.okWide Try.prog W .any base 22 v0)
    (h0 : DataW.Trod enc Try.prog W 0 (fun _ => true) true 22 v0 d0 p0) : ∃ ao len cap, v0 = .slice ao len cap ∧ (len = 0 ∨ ∃ es sp, d0 = .slice es sp ∧ len ≤ es.length + sp.length) ∧ Code W ao len := by
  obtain ⟨ao, len, cap, rfl⟩ := okWide_slice Try.underlying22 hval
  obtain ⟨fuel, hf⟩ := h0
  refine ⟨ao, len, cap, rfl, ?_⟩
  rcases open_ints Try.underlying22 Try.underlying5 cellsByte hf with ⟨hcs, hx⟩ | ⟨a, len', cap', zs, hcs, _, hl, hm, hz, hx, hcell, hwz⟩
  · simp [Value.cells] at hcs
    obtain ⟨rfl, rfl, rfl⟩ := hcs
    exact ⟨.inl rfl, fun i hi => by omega⟩
  · simp [Value.cells] at hcs
    obtain ⟨rfl, rfl, rfl⟩ := hcs
    simp only [if_true] at hz
    simp only [Prod.mk.injEq] at hx
    refine ⟨.inr ⟨_, _, hx.1, by simp [lits]; omega⟩, fun i hi => ?_⟩
    have hi' : i < zs.length := by omega
    obtain ⟨ab, off, rfl, hat⟩ := ints_at hcell (by omega)
    refine ⟨ab, off, zs.getD i 0, rfl, hat i hi', ?_⟩
    refine u8_bd _ (hwz _ ?_)
    rw [List.getD_eq_getElem?_getD, List.getElem?_eq_getElem hi']
    exact List.getElem_mem hi'

set_option maxRecDepth 100000 in
theorem lifted (os : Os) (started : os.Started) (H : Type) (enc : TypeId × Value → H) :
    ReturnsInHanded {} Try.checked os 3 .any (Rows.fnSumsSpec.pre6 enc Try.prog Try.f3 Rows.fnSumsRow.domain false) (Rows.fnSumsSpec.post enc Try.prog Try.f3 false true false false) := by
  refine returnsInHanded_of_change_sized (C := Try.checked) own started (by kernel_rfl) Try.func3
    (ChangeSpec.witness6 (enc := enc) (C := Try.checked) false ⟨#[], #[.slice none 0 0, .slice none 0 0], []⟩ 8 (by kernel_rfl) (by kernel_rfl) (by kernel_rfl) (by kernel_rfl)) ?_
  intro W base args ds gs before hval0 hW hcnd hsz0 _
  have hval : ∀ (j : Nat) t v, Try.f3.params[j]? = some t → args[j]? = some v → Value.okWide Try.prog W .any base t v := hval0
  have hsz : (DataW.weightsEach Try.prog (Try.f3.params.toList ++ Rows.fnSumsSpec.plain.varTypes Try.prog) (ds ++ gs)).all (· ≤ reachBytes) = true := hsz0
  have hW' := hW
  obtain ⟨p, q, hA0, hV, rfl, hfz, hnd⟩ := hW
  have hA : DataW.TrodAll enc Try.prog W 0 (fun _ => true) true Try.f3.params.toList args.toList ds p := hA0
  rw [Try.params3] at hA hval hsz
  obtain ⟨v0, vs0, d0, ds0, p0, q0, hargs, rfl, rfl, h0, r0⟩ := trodAll_cons hA
  obtain ⟨v1, vs1, d1, ds1, p1, q1, rfl, rfl, rfl, h1, r1⟩ := trodAll_cons r0
  obtain ⟨rfl, rfl, rfl⟩ := trodAll_nil r1
  obtain rfl : args = #[v0, v1] := by cases args; simp_all
  obtain ⟨rfl, rfl⟩ := trodVars_none hV
  obtain ⟨ao0, len0, cap0, rfl, hb0', hc0⟩ := code_of (hval 0 22 v0 rfl rfl) h0
  obtain ⟨ao1, len1, cap1, rfl, hb1', hc1⟩ := code_of (hval 1 22 v1 rfl rfl) h1
  have hb0 : len0 ≤ 140737488351232 := by
    rcases hb0' with e | ⟨es, sp, rfl, hle⟩
    · omega
    · have := sized_slice hsz (j := 0) (t := 22) rfl rfl Try.underlying22
      rw [bytes5] at this
      simp [reachBytes] at this
      omega
  have hb1 : len1 ≤ 140737488351232 := by
    rcases hb1' with e | ⟨es, sp, rfl, hle⟩
    · omega
    · have := sized_slice hsz (j := 1) (t := 22) rfl rfl Try.underlying22
      rw [bytes5] at this
      simp [reachBytes] at this
      omega
  clear hA0 hval0 hsz0
  refine (walk ao0 len0 cap0 ao1 len1 cap1 W hb0 hc0 hb1 hc1).mono fun e W' ⟨he, hg⟩ => ?_
  subst he
  have l0 : ∀ x ∈ p0, x.block < W.heap.size := fun x hx => hW'.lt x (by simp [hx])
  have l1 : ∀ x ∈ p1, x.block < W.heap.size := fun x hx => hW'.lt x (by simp [hx])
  exact ⟨_, rfl, post_of_kept (pa := p0 ++ (p1 ++ [])) (pv := []) hW' (fun _ _ _ => (trodAll_cons_mk (shut_bool Try.underlying4 _) trodAll_mk0))
    (fun sp hsp => trodAll_cons_mk (kept_trod (by kernel_rfl) (of_decide_eq_true (by kernel_rfl)) h0 hg l0 (fun x hx => hsp x (by simp [hx]))) (trodAll_cons_mk (kept_trod (by kernel_rfl) (of_decide_eq_true (by kernel_rfl)) h1 hg l1 (fun x hx => hsp x (by simp [hx]))) trodAll_mk0))
    (fun _ _ => rfl) hg⟩

theorem over : Rows.fnSumsRow.holds Try.pinned (OpenSpec.ofChange Rows.fnSumsSpec) :=
  OpenClaim.holds_of_wide 3 Try.f3 rfl rfl rfl rfl rfl rfl rfl ⟨rfl, rfl, rfl, rfl, rfl⟩ rfl rfl rfl rfl rfl (by kernel_rfl) Try.func3 (by kernel_rfl)
    (of_decide_eq_true (by kernel_rfl)) (by unfold Func.isWrapper; first | (rw [if_pos (by decide +kernel)]; kernel_rfl) | (rw [if_neg (by decide +kernel)]; exact ⟨rfl, rfl⟩))
    (fun os started H enc _ => lifted os started H enc)

theorem proved : Rows.FnSumsSaid :=
  over
#print axioms proved
end Go.Proofs.Ythbhoppmdcfgeaa.fnSums
