/-
  Which cells are reached, in the program.
-/
import Derived.Test.YtnfkgnbhdhpnmaaSteps13
import Derived.Test.YtnfkgnbhdhpnmaaBlockI13
namespace Go.Proofs.Ytnfkgnbhdhpnmaa
open Go.ChangeShapes Go.WideShapes Go.ChangeAt Go.RowKit

/-- The cells that are reached, rising. -/
noncomputable def reachL (F : Nat → Prop) (E : Nat → Nat → Prop) (N : Nat) : List Int := ((List.range N).filter (fun c => @decide (∃ m, Walk F E m c) (Classical.propDecidable _))).map (fun c : Nat => (c : Int))
/-- What FloodFrom answers. -/
noncomputable def floodA (a b d : Int) (l : List Int) (x y z : Int) : List Int × Bool := if BlocksP a b d l ∧ Here a b d x y z then (reachL (fun c => c ∈ [(num a b x y z).toNat]) (EW (nxtM a b d) (fun k => (getI l (k : Int) == 0) == (getI l (num a b x y z) == 0)) 6) l.length, true) else ([], false)
theorem reachL_len (F : Nat → Prop) (E : Nat → Nat → Prop) (N : Nat) : (reachL F E N).length ≤ N := by
  unfold reachL
  rw [List.length_map]
  exact Nat.le_trans (List.length_filter_le _ _) (by simp)
theorem floodA_len (a b d : Int) (l : List Int) (x y z : Int) : (floodA a b d l x y z).1.length ≤ l.length := by
  unfold floodA
  split
  · exact reachL_len _ _ _
  · simp
/-- The first cells that are reached. -/
def cutL (p : Nat → Bool) (k : Nat) : List Int := ((List.range k).filter p).map (fun c : Nat => (c : Int))
theorem cutL_yes {p : Nat → Bool} {k : Nat} (h : p k = true) : cutL p (k + 1) = cutL p k ++ [(k : Int)] := by
  unfold cutL
  rw [List.range_succ, List.filter_append, List.map_append]
  simp [h]
theorem cutL_no {p : Nat → Bool} {k : Nat} (h : p k = false) : cutL p (k + 1) = cutL p k := by
  unfold cutL
  rw [List.range_succ, List.filter_append, List.map_append]
  simp [h]
theorem cutL_len (p : Nat → Bool) (k : Nat) : (cutL p k).length ≤ k := by
  unfold cutL
  rw [List.length_map]
  exact Nat.le_trans (List.length_filter_le _ _) (by simp)
theorem cut_reach {F : Nat → Prop} {E : Nat → Nat → Prop} {N : Nat} {p : Nat → Bool} (h : ∀ c, c < N → (p c = true ↔ ∃ m, Walk F E m c)) : cutL p N = reachL F E N := by
  unfold cutL reachL
  congr 1
  apply List.filter_congr
  intro c hc
  rw [Bool.eq_iff_iff, h c (List.mem_range.1 hc)]
  exact (@decide_eq_true_iff _ (Classical.propDecidable _)).symm
theorem dist_reach {F : Nat → Prop} {E : Nat → Nat → Prop} {v : Int} {c : Nat} (h : IsDist F E v c) : (v != -1) = true ↔ ∃ m, Walk F E m c := by
  rcases h with ⟨rfl, h⟩ | ⟨m, rfl, h, _⟩
  · simp; exact h
  · simp only [bne_iff_ne, ne_eq]
    exact ⟨fun _ => ⟨m, h⟩, fun _ => by omega⟩

set_option maxRecDepth 100000
set_option linter.unusedVariables false
set_option maxHeartbeats 4000000 in
theorem iflood1 (a b d : Int) (l : List Int) (ao : Option Addr) (cap k f Bb Bf : Nat) (w : World) (hv : NumAt w (.slice ao l.length cap) l) (hk : k < l.length) (hf : f < l.length) (Lb : Loc w Bb [.int .i64 a, .int .i64 b, .int .i64 d, .slice ao l.length cap]) (Lf : Loc w Bf [.int .i64 (f : Int)]) :
    Calls Try.prog 56 #[.int .i64 (k : Int), .pointer (some ⟨Bb, 0, none⟩), .pointer (some ⟨Bf, 0, none⟩)] w fun e w' => e = .returned (.bool ((getI l (k : Int) == 0) == (getI l (f : Int) == 0))) ∧ Kept w w' := by
  have v0 := Lb.cell 0 rfl
  have v1 := Lb.cell 1 rfl
  have v2 := Lb.cell 2 rfl
  have v3 := Lb.cell 3 rfl
  have f0 := Lf.cell 0 rfl
  have vl := Lb.lt
  have fl := Lf.lt
  have HA1 : Hid (∀ u : World, Kept w u → Calls Try.prog 57 #[.agg #[.int .i64 a, .int .i64 b, .int .i64 d, .slice ao l.length cap], .int .i64 (k : Int)] u fun e w' => e = .returned (.bool (getI l (k : Int) == 0)) ∧ Kept u w') := fun u hu => iair a b d (k : Int) l ao cap u (hv.kept hu) (by omega) (by omega)
  have HA2 : Hid (∀ u : World, Kept w u → Calls Try.prog 57 #[.agg #[.int .i64 a, .int .i64 b, .int .i64 d, .slice ao l.length cap], .int .i64 (f : Int)] u fun e w' => e = .returned (.bool (getI l (f : Int) == 0)) ∧ Kept u w') := fun u hu => iair a b d (f : Int) l ao cap u (hv.kept hu) (by omega) (by omega)
  go_enter Try.func56, Try.ntmps56
  repeat (first | go_values | go_skip | go_guarded | go_step | go_upon)
  refine wp_region_kept (by kernel_rfl) (by kernel_rfl) ?_
  have hcc := KW.cell_eq w
  repeat (go_big_quiet_step (first | (go_at_call 57; with_reducible exact kw_call (HA1.out _ (KW.k _))) | (go_at_call 57; with_reducible exact kw_call (HA2.out _ (KW.k _)))))
  refine wpQuiet_nil ?_
  rintro y1 ⟨⟨w8, k1⟩, h9⟩
  change y1 = w8 at h9
  subst h9
  clear hcc
  repeat (first | go_values | go_skip | go_guarded | go_step | go_upon)
  go_ret
  exact ⟨rfl, k1⟩
set_option maxHeartbeats 8000000 in
theorem iflood (a b d : Int) (l : List Int) (x y z : Int) (ao : Option Addr) (cap : Nat) (w : World) (hv : NumAt w (.slice ao l.length cap) l) (hn : l.length ≤ 1048576) :
    Calls Try.prog 35 #[.agg #[.int .i64 a, .int .i64 b, .int .i64 d, .slice ao l.length cap], .int .i64 x, .int .i64 y, .int .i64 z] w fun e w' => ∃ v', e = .returned (.tuple #[v', .bool (floodA a b d l x y z).2]) ∧ NumO w' w.heap.size w'.heap.size v' (floodA a b d l x y z).1 ∧ Kept w w' := by
  by_cases hg : BlocksP a b d l ∧ Here a b d x y z
  · obtain ⟨n0, n1⟩ := num_lt hg.1 hg.2
    obtain ⟨N, hN⟩ := Int.eq_ofNat_of_zero_le n0
    have ha : cellA a b d l x y z = ((N : Int), true) := by rw [← hN]; exact if_pos hg
    have hR : floodA a b d l x y z = (reachL (fun c => c ∈ [N]) (EW (nxtM a b d) (fun k => (getI l (k : Int) == 0) == (getI l (N : Int) == 0)) 6) l.length, true) := by
      unfold floodA
      rw [if_pos hg, hN]
      rfl
    rw [hR]
    have hNl : N < l.length := by omega
    have hg1 := hg.1
    have HG : Hid (BlocksP a b d l) := hg1
    clear hR hN n0 n1 hg hg1
    go_enter Try.func35, Try.ntmps35
    repeat (first | (go_at_call 49; refine (icell _ _ _ _ _ _ _ _ _ _ (hv.kept ((But.refl _ _ _).alloc _)) (by omega)).mono ?_; rintro e u1 ⟨rfl, k1⟩; rw [ha]; have K1 : Kept w u1 := ((But.refl _ _ _).alloc _).trans k1; have L1 := (Loc.new w [.int .i64 a, .int .i64 b, .int .i64 d, .slice ao l.length cap] 25).kept k1; have v0 := L1.cell 0 rfl; have v1 := L1.cell 1 rfl; have v2 := L1.cell 2 rfl; have v3 := L1.cell 3 rfl; have vl := L1.lt; (try dsimp only)) | go_values | go_skip | go_guarded | go_step | go_upon)
    obtain ⟨X, hX⟩ : ∃ X, X = (u1.alloc (.cells #[.int .i64 (N : Int)] 3)).alloc (.cells #[.int .i64 (N : Int)] 3) := ⟨_, rfl⟩
    have kX : Kept u1 X := by rw [hX]; exact ((But.refl _ _ _).alloc _).alloc _
    have LF : Loc X u1.heap.size [.int .i64 (N : Int)] := by rw [hX]; exact (Loc.new u1 _ _).alloc _
    have NF : NumAt X (.slice (some ⟨u1.heap.size + 1, 0, none⟩) [N].length 1) ([N].map (fun c : Nat => (c : Int))) := by
      have h := Loc.new (u1.alloc (.cells #[.int .i64 (N : Int)] 3)) [.int .i64 (N : Int)] 3
      rw [← hX] at h
      simp only [World.size_alloc] at h
      refine ⟨some ⟨u1.heap.size + 1, 0, none⟩, 1, rfl, fun j v hj => ⟨_, _, rfl, ?_⟩⟩
      rw [Nat.zero_add]
      exact h.cell j hj
    rw [← hX]
    have LB := L1.kept kX
    have KX := K1.trans kX
    clear hX v0 v1 v2 v3 kX
    go_at_call 55
    refine (isteps a b d l [N] _ _ ao _ cap 1 X (hv.kept KX) HG.out NF (fun c hc => by simp at hc; omega) (by simp) (by simp) (fun k => (getI l (k : Int) == 0) == (getI l (N : Int) == 0)) (fun u k hk hu => iflood1 a b d l ao cap k N w.heap.size u1.heap.size u (hv.kept (KX.trans hu)) hk hNl (LB.kept hu) (LF.kept hu))).mono ?_
    rintro e u3 ⟨v3, s, rfl, o3, hsl, hds, k3⟩
    obtain ⟨g3, cap3, ef⟩ := own_some o3 (by omega)
    subst ef
    have K3 := KX.trans k3
    have HO3 : Hid (NumO u3 X.heap.size u3.heap.size (.slice (some ⟨g3, 0, none⟩) s.length cap3) s) := o3
    have HD : Hid (∀ c, c < l.length → IsDist (fun x => x ∈ [N]) (EW (nxtM a b d) (fun k => (getI l (k : Int) == 0) == (getI l (N : Int) == 0)) 6) (sv s c) c) := hds
    have HSL : Hid (s.length = l.length) := hsl
    have hsb : s.length ≤ 1048576 := by omega
    clear o3 hds k3 KX LB LF NF K1 L1 hsl
    (try dsimp only)
    repeat (first | go_values | go_skip | go_guarded | go_step | go_upon)
    have HRL : Hid (cutL (fun c => sv s c != -1) s.length = reachL (fun x => x ∈ [N]) (EW (nxtM a b d) (fun k => (getI l (k : Int) == 0) == (getI l (N : Int) == 0)) 6) l.length) := by
      show cutL _ _ = _
      rw [HSL.out]
      exact cut_reach (fun c hc => dist_reach (HD.out c hc))
    obtain ⟨i0, hi0, hz0, hz1, hz2⟩ := info_parts info_num
    go_loopw [13, 33] (fun x i wr => ∃ (k : Nat) (ao' : Option Addr) (c' m : Nat), k ≤ s.length ∧ i = .int .i64 k ∧ Hid (m = (cutL (fun c => sv s c != -1) k).length) ∧ x = .slice ao' m c' ∧ Hid (wr.ownsRow u3.heap.size 3 1 (.slice ao' m c') m ((cutL (fun c => sv s c != -1) k).flatMap numC)) ∧ Hid (Kept u3 wr)) (fun _ i _ => s.length - (intOf i).toNat)
    case atStart => exact ⟨0, none, 0, 0, by omega, rfl, rfl, rfl, World.ownsRow_nil _ _ _ _, But.refl _ _ _⟩
    case round =>
      obtain ⟨k, ao', c', m, hk, rfl, HM, rfl, HO, HK⟩ := hrel
      by_cases hlt : k < s.length
      · have hml := cutL_len (fun c => sv s c != -1) k
        rw [← HM.out] at hml
        have hwz := HK.out.size
        obtain ⟨c0, -⟩ := (HO3.out.kept HK.out).cells (sv_get (s := s) (c := k) hlt)
        cases q : sv s k != -1 with
        | true =>
          have hp : (fun c => sv s c != -1) k = true := q
          have HP : Hid ((fun c => sv s c != -1) k = true) := hp
          clear hp
          repeat (first
            | (at_builtin
               refine wpList_append_own _ rfl _ _ 23 rfl u3.heap.size 3 i0 (.int .i64 0) 1 8 Try.underlying23 hi0 hz0 hz1 hz2 rfl (by decide) _ _ _ rfl (own_kept HO.out ((But.refl _ _ wr).alloc _)) ⟨wr.heap.size, 0, none⟩ 1 1 [.int .i64 (k : Int)] rfl rfl (news1 (Loc.new wr [.int .i64 (k : Int)] 3)) (by simp [Value.oneCell']) (by unfold maxLen; omega) (by omega) (by simp; omega) ?_
               intro v' w2 hown' hgrow _
               obtain ⟨ao5, cap5, hf5, _⟩ := own_form hown'
               subst hf5
               have HK5 : Hid (Kept u3 w2) := (HK.out.alloc _).grown hgrow (by intro x hx; have := own_lt HO.out hx; omega)
               have HW : Hid (w2.ownsRow u3.heap.size 3 1 (.slice ao5 (m + 1) cap5) (m + 1) ((cutL (fun c => sv s c != -1) k).flatMap numC ++ [.int .i64 (k : Int)])) := hown'
               clear hgrow hown')
            | go_values | go_skip | go_guarded | go_step | go_upon)
          refine ⟨⟨k + 1, ao5, cap5, m + 1, hlt, by go_num, ?_, rfl, ?_, HK5⟩, by simp [intOf]; omega⟩
          · show m + 1 = _
            rw [cutL_yes HP.out, HM.out]; simp
          · show World.ownsRow _ _ _ _ _ _ _
            rw [cutL_yes HP.out, List.flatMap_append]
            exact HW.out
        | false =>
          have hp : (fun c => sv s c != -1) k = false := q
          have HP : Hid ((fun c => sv s c != -1) k = false) := hp
          clear hp
          repeat (first | go_values | go_skip | go_guarded | go_step | go_upon)
          refine ⟨⟨k + 1, ao', c', m, hlt, by go_num, ?_, rfl, ?_, HK⟩, by simp [intOf]; omega⟩
          · show m = _
            rw [cutL_no HP.out]; exact HM.out
          · show World.ownsRow _ _ _ _ _ _ _
            rw [cutL_no HP.out]; exact HO.out
      · have hke : k = s.length := by omega
        subst hke
        repeat (first | go_values | go_skip | go_guarded | go_step | go_upon)
        go_returns
        refine ⟨_, rfl, ?_, K3.trans HK.out⟩
        have h := RowO.top HO.out
        have hm := HM.out
        have hz := K3.size
        have h2 := NumO.mono (lo' := w.heap.size) (hi' := wr.heap.size) (show NumO wr u3.heap.size wr.heap.size (.slice ao' m c') (cutL (fun c => sv s c != -1) s.length) by unfold NumO; rw [← hm]; exact h) hz (Nat.le_refl _)
        rw [HRL.out] at h2
        exact h2
  · rw [show floodA a b d l x y z = ([], false) from if_neg hg]
    have ha : cellA a b d l x y z = (0, false) := if_neg hg
    go_enter Try.func35, Try.ntmps35
    repeat (first | (go_at_call 49; refine (icell _ _ _ _ _ _ _ _ _ _ (hv.kept ((But.refl _ _ _).alloc _)) (by omega)).mono ?_; rintro e u1 ⟨rfl, k1⟩; rw [ha]; have K1 : Kept w u1 := ((But.refl _ _ _).alloc _).trans k1; (try dsimp only)) | go_values | go_skip | go_guarded | go_step | go_upon)
    go_returns
    exact ⟨_, rfl, RowO.top (World.ownsRow_nil _ _ _ _), K1.alloc _⟩

end Go.Proofs.Ytnfkgnbhdhpnmaa
