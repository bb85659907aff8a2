/-
  CutNode in the specification.
-/
import Derived.Test.YtcljppnakmeldaaCut
namespace Go.Proofs.Ytcljppnakmeldaa
open Go.ChangeShapes Go.WideShapes Go.ChangeAt Go.RowKit

theorem info3 : (Try.prog.info? 3).map (fun i => (i.zero, i.size, i.bytes)) = some (some (.int .i64 0), 1, 8) := by kernel_rfl
theorem loc_made (w : World) (n : Nat) : Loc (w.alloc (.cells (madeCells #[.int .i64 0] (n * 1)) 3)) w.heap.size ((List.replicate n (0 : Int)).map (Value.int .i64)) := by
  refine ⟨3, ?_⟩
  rw [heap_alloc_new]
  have h := made_flat #[Value.int .i64 0] 1 (by omega) (fun z : Int => [Value.int .i64 z]) 0 (fun _ => rfl) rfl n
  have h2 : (List.replicate n (0 : Int)).flatMap (fun z : Int => [Value.int .i64 z]) = (List.replicate n (0 : Int)).map (Value.int .i64) := by
    induction n with
    | zero => rfl
    | succ n ih => rw [List.replicate_succ, List.flatMap_cons, List.map_cons, ih (made_flat #[Value.int .i64 0] 1 (by omega) (fun z : Int => [Value.int .i64 z]) 0 (fun _ => rfl) rfl n)]; rfl
  rw [← h2, ← h]

set_option maxRecDepth 100000 in
set_option maxHeartbeats 8000000 in
theorem scut_ok (l : List NodeD) (v : Value) (c lo hi : Nat) (w : World) (ho : NodeO w lo hi v l) (hn : l.length ≤ 1048576) (hs : ∀ p ∈ l, p.1.size ≤ 1048576) (hG : GoodL l) (hc : c < l.length) :
    Calls Try.prog 31 #[v, .int .i64 (c : Int)] w fun e w' => ∃ v', e = .returned (.tuple #[v', .bool true]) ∧ NodeO w' w.heap.size w'.heap.size v' (cutAt c l l.length).2 ∧ Kept w w' := by
  obtain ⟨ao, cap, hsl, hcap⟩ := own_cap ho.1
  subst hsl
  have hv := ho.at
  have h40 := hG.1
  have HB : Hid (true = true ↔ GoodL l) := (by simp [hG] : true = true ↔ GoodL l)
  have q2 : inB (c : Int) 0 ((l.length : Int) - 1) = true := by simp [inB]; omega
  obtain ⟨i0, hi0, hz0, hz1, hz2⟩ := info_parts info36
  obtain ⟨j0, hj0, hy0, hy1, hy2⟩ := info_parts info3
  have hmk : ∀ W : World, (Instr.makeSlice 80 (.int .i64 (l.length : Int)) (.int .i64 (l.length : Int))).run Try.prog W = .ok (.slice (some ⟨W.heap.size, 0, none⟩) l.length l.length) (W.alloc (.cells (madeCells #[.int .i64 0] (l.length * 1)) 3)) := fun W => by
    have := run_make (P := Try.prog) W 80 3 j0 _ Try.underlying80 hj0 hy0 .i64 .i64 (l.length : Int) (l.length : Int) (by omega) (by omega) (by rw [hy2]; omega) (by omega)
    rw [this, hy1]
    simp [Value.cells]
  go_enter Try.func31, Try.ntmps31
  repeat (first
    | (go_at_call 21; refine (end_of HB.out (specGood l _ lo hi _ ho hn hs)).mono ?_; rintro e w1 ⟨rfl, k1⟩; dsimp only)
    | (go_at_call 48; refine (l1In _ _ _ _).mono ?_; rintro e w' ⟨rfl, h⟩; rw [h, q2]; clear h; dsimp only)
    | go_values | go_skip | go_guarded | go_step | go_upon)
  have hw1 := k1.size
  have hlm := loc_made w1 l.length
  rw [Nat.mul_one] at hlm
  clear hmk
  go_loopw [7, 8, 9, 26] (fun tv _ _ i wr => ∃ (k : Nat) (ao2 : Option Addr) (cap2 : Nat) (B : List Int), k ≤ l.length ∧ i = .int .i64 k ∧ tv = .slice ao2 (cutAt c l k).2.length cap2 ∧ wr.ownsRow (w1.heap.size + 1) 36 6 (.slice ao2 (cutAt c l k).2.length cap2) (cutAt c l k).2.length ((cutAt c l k).2.flatMap nodeC) ∧ B.length = l.length ∧ (∀ j z, j < k → (cutAt c l k).1[j]? = some z → B[j]? = some z) ∧ Loc wr w1.heap.size (B.map (Value.int .i64)) ∧ Kept w1 wr) (fun _ _ _ i _ => l.length - (intOf i).toNat)
  case atStart => exact ⟨0, none, 0, List.replicate l.length 0, by omega, rfl, rfl, World.ownsRow_nil _ _ _ _, by simp, fun j z h => by omega, hlm, (But.refl _ _ _).alloc _⟩
  case round =>
    obtain ⟨k, ao2, cap2, B, hk, rfl, rfl, hown, hBl, hBn, hL, hkp⟩ := hrel
    clear hlm
    by_cases hlt : k < l.length
    · obtain ⟨⟨nm, up, x, y, t, f⟩, hp⟩ : ∃ p, l[k]? = some p := ⟨_, List.getElem?_eq_getElem hlt⟩
      obtain ⟨b, o, cap3, e, c0, c1, c2, c3, c4, c5⟩ := node_get (hv.kept (k1.trans hkp)) hp
      cases e
      dsimp only at c0 c1 c2 c3 c4 c5
      have hln := cutAt_len (c := c) (l := l) k (by omega)
      have hol := cutAt_out (c := c) (l := l) k (by omega)
      have hsu := cutAt_succ (c := c) hp
      obtain ⟨ak, hak⟩ : ∃ z, B[k]? = some z := ⟨_, List.getElem?_eq_getElem (by omega)⟩
      have hup1 : -1 ≤ up := (hG.2 k _ hp).2.1
      have hup2 : up < (k : Int) := (hG.2 k _ hp).2.2.1
      have hlw := hL.lt
      have hkz := hkp.size
      have ck := hL.cell k (v := .int .i64 ak) (by simp [hak])
      have zk := hL.frozen k
      have HO : Hid (wr.ownsRow (w1.heap.size + 1) 36 6 (.slice ao2 (cutAt c l k).2.length cap2) (cutAt c l k).2.length ((cutAt c l k).2.flatMap nodeC)) := hown
      have HL : Hid (Loc wr w1.heap.size (B.map (Value.int .i64))) := hL
      have HK : Hid (Kept w1 wr) := hkp
      have HBn : Hid (∀ j z, j < k → (cutAt c l k).1[j]? = some z → B[j]? = some z) := hBn
      have hbw := World.block_lt_of_cell? wr _ c0
      have hne1 : w1.heap.size ≠ wr.heap.size := by omega
      have hne2 : wr.heap.size ≠ w1.heap.size := by omega
      have hkl' : (k : Int) < (l.length : Int) := by omega
      clear hown hL hkp hBn
      by_cases hkc : k = c
      · have hE : cutAt c l (k + 1) = ((cutAt c l k).1 ++ [-1], (cutAt c l k).2) := by rw [hsu, cutStep, show cutB c (cutAt c l k) (nm, up, x, y, t, f) = true by unfold cutB; rw [hln, decide_eq_true hkc]; rfl]; rfl
        have HE : Hid (cutAt c l (k + 1) = ((cutAt c l k).1 ++ [-1], (cutAt c l k).2)) := hE
        have qk : ((k : Int) == (c : Int)) = true := by simp; omega
        clear hE hsu hkc
        repeat (first | go_values | go_skip | go_guarded | go_step | go_upon)
        refine ⟨⟨k + 1, ao2, cap2, B.set k (-1), hlt, by go_num, ?_, ?_, by rw [List.length_set]; exact hBl, ?_, ?_, ?_⟩, by simp [intOf]; omega⟩
        · rw [HE.out]
        · rw [HE.out]
          refine own_but HO.out (((But.refl w1.heap.size (w1.heap.size + 1) wr).setCell (p := ⟨w1.heap.size, k, none⟩) (Nat.le_refl _) (Nat.lt_succ_self _) _).alloc _) (fun g hg => .inr (own_lt HO.out hg).1)
        · intro j z hj hz
          rw [HE.out] at hz
          by_cases hjk : j < k
          · rw [List.getElem?_append_left (by omega)] at hz
            rw [List.getElem?_set, if_neg (by omega)]
            exact HBn.out j z hjk hz
          · obtain rfl : j = k := by omega
            rw [List.getElem?_append_right (by omega), hln, Nat.sub_self] at hz
            simp at hz
            subst hz
            rw [List.getElem?_set, if_pos rfl, if_pos (by omega)]
        · have := (HL.out.set k (.int .i64 (-1))).alloc (.cells #[.string nm, .int .i64 up, .int .i64 x, .int .i64 y, .int .i64 t, .bool f] 36)
          rw [show (B.map (Value.int .i64)).set k (.int .i64 (-1)) = (B.set k (-1)).map (Value.int .i64) from List.map_set.symm] at this
          exact this
        · exact (HK.out.setNew (p := ⟨w1.heap.size, k, none⟩) (Nat.le_refl _) _).alloc _
      · have qk : ((k : Int) == (c : Int)) = false := by simp; omega
        by_cases hu0 : 0 ≤ up
        · obtain ⟨u, rfl⟩ : ∃ u : Nat, up = u := ⟨up.toNat, by omega⟩
          have huk : u < k := by omega
          obtain ⟨z, hz⟩ : ∃ z, (cutAt c l k).1[u]? = some z := ⟨_, List.getElem?_eq_getElem (by omega)⟩
          have hBu := HBn.out u z huk hz
          have huk' : u ≠ k := by omega
          have huk2 : k ≠ u := by omega
          have cu := HL.out.cell u (v := .int .i64 z) (by simp [hBu])
          have q0 : decide (0 ≤ (u : Int)) = true := by simp
          have hul : (u : Int) < (l.length : Int) := by omega
          by_cases hzn : z < 0
          · have hE : cutAt c l (k + 1) = ((cutAt c l k).1 ++ [-1], (cutAt c l k).2) := by rw [hsu, cutStep, show cutB c (cutAt c l k) (nm, (u : Int), x, y, t, f) = true by simp [cutB, hz, hzn]]; rfl
            have HE : Hid (cutAt c l (k + 1) = ((cutAt c l k).1 ++ [-1], (cutAt c l k).2)) := hE
            have qz : decide (z < 0) = true := by simpa using hzn
            clear hE hsu hz
            repeat (first | go_values | go_skip | go_guarded | go_step | go_upon)
            refine ⟨⟨k + 1, ao2, cap2, B.set k (-1), hlt, by go_num, ?_, ?_, by rw [List.length_set]; exact hBl, ?_, ?_, ?_⟩, by simp [intOf]; omega⟩
            · rw [HE.out]
            · rw [HE.out]
              refine own_but HO.out (((But.refl w1.heap.size (w1.heap.size + 1) wr).setCell (p := ⟨w1.heap.size, k, none⟩) (Nat.le_refl _) (Nat.lt_succ_self _) _).alloc _) (fun g hg => .inr (own_lt HO.out hg).1)
            · intro j z hj hz
              rw [HE.out] at hz
              by_cases hjk : j < k
              · rw [List.getElem?_append_left (by omega)] at hz
                rw [List.getElem?_set, if_neg (by omega)]
                exact HBn.out j z hjk hz
              · obtain rfl : j = k := by omega
                rw [List.getElem?_append_right (by omega), hln, Nat.sub_self] at hz
                simp at hz
                subst hz
                rw [List.getElem?_set, if_pos rfl, if_pos (by omega)]
            · have := (HL.out.set k (.int .i64 (-1))).alloc (.cells #[.string nm, .int .i64 (u : Int), .int .i64 x, .int .i64 y, .int .i64 t, .bool f] 36)
              rw [show (B.map (Value.int .i64)).set k (.int .i64 (-1)) = (B.set k (-1)).map (Value.int .i64) from List.map_set.symm] at this
              exact this
            · exact (HK.out.setNew (p := ⟨w1.heap.size, k, none⟩) (Nat.le_refl _) _).alloc _
          · have qz : decide (z < 0) = false := by simpa using hzn
            obtain ⟨M, hM⟩ : ∃ M, (cutAt c l k).2.length = M := ⟨_, rfl⟩
            have hE2 : cutAt c l (k + 1) = ((cutAt c l k).1 ++ [((cutAt c l k).2.length : Int)], (cutAt c l k).2 ++ [(nm, z, x, y, t, f)]) := by
              rw [hsu, cutStep, show cutB c (cutAt c l k) (nm, (u : Int), x, y, t, f) = false by unfold cutB; rw [hln, decide_eq_false hkc]; simp [hz, hzn]]
              simp [cutN, hz]
            rw [hM] at hE2 hol
            rw [hM]
            have HE : Hid (cutAt c l (k + 1) = ((cutAt c l k).1 ++ [(M : Int)], (cutAt c l k).2 ++ [(nm, z, x, y, t, f)])) := hE2
            have HM : Hid ((cutAt c l k).2.length = M) := hM
            have HLN : Hid ((cutAt c l k).1.length = k) := hln
            clear hsu hE2 hM hln
            repeat (first
              | (at_builtin; refine forgetL (fun w' => w' = _) rfl ?_)
              | go_values | go_skip | go_guarded | go_step | go_upon)
            intro W7 hW7
            subst hW7
            have hO0 := HO.out
            rw [HM.out] at hO0
            have hrow := fun g hg => own_lt hO0 (g := g) hg
            have hO7 := own_but hO0 (((((But.refl w1.heap.size (w1.heap.size + 1) wr).setCell (p := ⟨w1.heap.size, k, none⟩) (Nat.le_refl _) (Nat.lt_succ_self _) (.int .i64 (-1))).setCell (p := ⟨w1.heap.size, k, none⟩) (Nat.le_refl _) (Nat.lt_succ_self _) (.int .i64 (M : Int))).alloc (.cells #[.string nm, .int .i64 z, .int .i64 x, .int .i64 y, .int .i64 t, .bool f] 36)).alloc (.cells #[.string nm, .int .i64 z, .int .i64 x, .int .i64 y, .int .i64 t, .bool f] 36)) (fun g hg => .inr (hrow g hg).1)
            refine wpList_append_own _ rfl _ _ 29 rfl (w1.heap.size + 1) 36 i0 (.agg #[.string ByteArray.empty, .int .i64 0, .int .i64 0, .int .i64 0, .int .i64 0, .bool false]) 6 56 Try.underlying29 hi0 hz0 hz1 hz2 rfl (by decide) _ _ _ rfl hO7 ⟨_, 0, none⟩ 1 1 (nodeC (nm, z, x, y, t, f)) rfl rfl (news_node _ _ _ (alloc_new' _ _ _ (by simp [World.setCell]))) (one_node _) (by unfold maxLen; omega) (by omega) (by simp; omega) ?_
            intro v3 w3 hown hgrow _
            obtain ⟨ao5, cap5, hf5, _⟩ := own_form hown
            subst hf5
            have hnb : (Value.slice ao2 M cap2).ownBlock ≠ some w1.heap.size := fun h => by have := (hrow _ h).1; omega
            have L3 : Loc w3 w1.heap.size (((B.map (Value.int .i64)).set k (.int .i64 (-1))).set k (.int .i64 (M : Int))) := ((((HL.out.set k _).set k _).alloc _).alloc _).grown hgrow hnb
            rw [List.set_set, show (B.map (Value.int .i64)).set k (.int .i64 (M : Int)) = (B.set k (M : Int)).map (Value.int .i64) from List.map_set.symm] at L3
            have K3 : Kept w1 w3 := ((((HK.out.setNew (p := ⟨w1.heap.size, k, none⟩) (Nat.le_refl _) _).setNew (p := ⟨w1.heap.size, k, none⟩) (Nat.le_refl _) _).alloc _).alloc _).grown hgrow (fun g hg => .inl (by have := (hrow g hg).1; omega))
            have HL3 : Hid (Loc w3 w1.heap.size ((B.set k (M : Int)).map (Value.int .i64))) := L3
            have HK3 : Hid (Kept w1 w3) := K3
            have HO3 : Hid (w3.ownsRow (w1.heap.size + 1) 36 6 (.slice ao5 (M + 1) cap5) (M + 1) ((cutAt c l k).2.flatMap nodeC ++ nodeC (nm, z, x, y, t, f))) := hown
            clear hgrow hown L3 K3 hO7 hO0
            repeat (first | go_values | go_skip | go_guarded | go_step | go_upon)
            have hln := HLN.out
            refine ⟨⟨k + 1, ao5, cap5, B.set k (M : Int), hlt, by go_num, ?_, ?_, by rw [List.length_set]; exact hBl, ?_, HL3.out, HK3.out⟩, by simp [intOf]; omega⟩
            · rw [HE.out]; simp [HM.out]
            · rw [HE.out]
              simp only [List.length_append, List.length_singleton, List.flatMap_append, List.flatMap_cons, List.flatMap_nil, List.append_nil, HM.out]
              exact HO3.out
            · intro j z hj hz
              rw [HE.out] at hz
              by_cases hjk : j < k
              · rw [List.getElem?_append_left (by omega)] at hz
                rw [List.getElem?_set, if_neg (by omega)]
                exact HBn.out j z hjk hz
              · obtain rfl : j = k := by omega
                rw [List.getElem?_append_right (by omega), hln, Nat.sub_self] at hz
                simp at hz
                subst hz
                rw [List.getElem?_set, if_pos rfl, if_pos (by omega)]
        · have q0 : decide (0 ≤ up) = false := by simpa using hu0
          obtain ⟨M, hM⟩ : ∃ M, (cutAt c l k).2.length = M := ⟨_, rfl⟩
          have hE2 : cutAt c l (k + 1) = ((cutAt c l k).1 ++ [((cutAt c l k).2.length : Int)], (cutAt c l k).2 ++ [(nm, up, x, y, t, f)]) := by
            rw [hsu, cutStep, show cutB c (cutAt c l k) (nm, up, x, y, t, f) = false by unfold cutB; rw [hln, decide_eq_false hkc]; simp [hu0]]
            simp [cutN, hu0]
          rw [hM] at hE2 hol
          rw [hM]
          have HE : Hid (cutAt c l (k + 1) = ((cutAt c l k).1 ++ [(M : Int)], (cutAt c l k).2 ++ [(nm, up, x, y, t, f)])) := hE2
          have HM : Hid ((cutAt c l k).2.length = M) := hM
          have HLN : Hid ((cutAt c l k).1.length = k) := hln
          clear hsu hE2 hM hln
          repeat (first
            | (at_builtin; refine forgetL (fun w' => w' = _) rfl ?_)
            | go_values | go_skip | go_guarded | go_step | go_upon)
          intro W7 hW7
          subst hW7
          have hO0 := HO.out
          rw [HM.out] at hO0
          have hrow := fun g hg => own_lt hO0 (g := g) hg
          have hO7 := own_but hO0 (((((But.refl w1.heap.size (w1.heap.size + 1) wr).setCell (p := ⟨w1.heap.size, k, none⟩) (Nat.le_refl _) (Nat.lt_succ_self _) (.int .i64 (-1))).setCell (p := ⟨w1.heap.size, k, none⟩) (Nat.le_refl _) (Nat.lt_succ_self _) (.int .i64 (M : Int))).alloc (.cells #[.string nm, .int .i64 up, .int .i64 x, .int .i64 y, .int .i64 t, .bool f] 36)).alloc (.cells #[.string nm, .int .i64 up, .int .i64 x, .int .i64 y, .int .i64 t, .bool f] 36)) (fun g hg => .inr (hrow g hg).1)
          refine wpList_append_own _ rfl _ _ 29 rfl (w1.heap.size + 1) 36 i0 (.agg #[.string ByteArray.empty, .int .i64 0, .int .i64 0, .int .i64 0, .int .i64 0, .bool false]) 6 56 Try.underlying29 hi0 hz0 hz1 hz2 rfl (by decide) _ _ _ rfl hO7 ⟨_, 0, none⟩ 1 1 (nodeC (nm, up, x, y, t, f)) rfl rfl (news_node _ _ _ (alloc_new' _ _ _ (by simp [World.setCell]))) (one_node _) (by unfold maxLen; omega) (by omega) (by simp; omega) ?_
          intro v3 w3 hown hgrow _
          obtain ⟨ao5, cap5, hf5, _⟩ := own_form hown
          subst hf5
          have hnb : (Value.slice ao2 M cap2).ownBlock ≠ some w1.heap.size := fun h => by have := (hrow _ h).1; omega
          have L3 : Loc w3 w1.heap.size (((B.map (Value.int .i64)).set k (.int .i64 (-1))).set k (.int .i64 (M : Int))) := ((((HL.out.set k _).set k _).alloc _).alloc _).grown hgrow hnb
          rw [List.set_set, show (B.map (Value.int .i64)).set k (.int .i64 (M : Int)) = (B.set k (M : Int)).map (Value.int .i64) from List.map_set.symm] at L3
          have K3 : Kept w1 w3 := ((((HK.out.setNew (p := ⟨w1.heap.size, k, none⟩) (Nat.le_refl _) _).setNew (p := ⟨w1.heap.size, k, none⟩) (Nat.le_refl _) _).alloc _).alloc _).grown hgrow (fun g hg => .inl (by have := (hrow g hg).1; omega))
          have HL3 : Hid (Loc w3 w1.heap.size ((B.set k (M : Int)).map (Value.int .i64))) := L3
          have HK3 : Hid (Kept w1 w3) := K3
          have HO3 : Hid (w3.ownsRow (w1.heap.size + 1) 36 6 (.slice ao5 (M + 1) cap5) (M + 1) ((cutAt c l k).2.flatMap nodeC ++ nodeC (nm, up, x, y, t, f))) := hown
          clear hgrow hown L3 K3 hO7 hO0
          repeat (first | go_values | go_skip | go_guarded | go_step | go_upon)
          have hln := HLN.out
          refine ⟨⟨k + 1, ao5, cap5, B.set k (M : Int), hlt, by go_num, ?_, ?_, by rw [List.length_set]; exact hBl, ?_, HL3.out, HK3.out⟩, by simp [intOf]; omega⟩
          · rw [HE.out]; simp [HM.out]
          · rw [HE.out]
            simp only [List.length_append, List.length_singleton, List.flatMap_append, List.flatMap_cons, List.flatMap_nil, List.append_nil, HM.out]
            exact HO3.out
          · intro j z hj hz
            rw [HE.out] at hz
            by_cases hjk : j < k
            · rw [List.getElem?_append_left (by omega)] at hz
              rw [List.getElem?_set, if_neg (by omega)]
              exact HBn.out j z hjk hz
            · obtain rfl : j = k := by omega
              rw [List.getElem?_append_right (by omega), hln, Nat.sub_self] at hz
              simp at hz
              subst hz
              rw [List.getElem?_set, if_pos rfl, if_pos (by omega)]
    · have hke : k = l.length := by omega
      subst hke
      have HO : Hid _ := hown
      have HK : Hid (Kept w wr) := k1.trans hkp
      clear hown hkp hL hBn
      repeat (first | go_values | go_skip | go_guarded | go_step | go_upon)
      refine bodyPost_ret (v := .tuple #[.slice ao2 (cutAt c l l.length).2.length cap2, .bool true]) (by simp [results, Try.results31, go_sem]) rfl ?_
      exact ⟨_, rfl, RowO.top (own_base HO.out (by omega)), HK.out⟩
end Go.Proofs.Ytcljppnakmeldaa
