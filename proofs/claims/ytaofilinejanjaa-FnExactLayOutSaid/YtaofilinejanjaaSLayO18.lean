/-
  LayOut in the specification.
-/
import Derived.Test.YtaofilinejanjaaLayO18
import Derived.Test.YtaofilinejanjaaLayT18
import Derived.Test.YtaofilinejanjaaShS18
import Derived.Test.YtaofilinejanjaaGoodS18
import Derived.Test.YtaofilinejanjaaQuiet
import Derived.Deep.Cut
import Derived.BigQuiet
namespace Go.Proofs.Ytaofilinejanjaa
open Go.ChangeShapes Go.WideShapes Go.ChangeAt Go.RowKit

set_option maxRecDepth 100000
set_option linter.unusedVariables false


/-- Three rows that grow beside a variable. -/
structure GS (W w : World) (BB OB : Nat) (cs : List Value) (v6 : Value) (K6 : List Int) (v7 : Value) (K7 : List Int) (v8 : Value) (K8 : List Int) : Prop where
  r6 : NumO w (BB + 1) w.heap.size v6 K6
  r7 : NumO w (BB + 1) w.heap.size v7 K7
  r8 : NumO w (BB + 1) w.heap.size v8 K8
  p67 : Ap v6 v7
  p68 : Ap v6 v8
  p78 : Ap v7 v8
  n6 : v6.ownBlock ≠ some OB
  n7 : v7.ownBlock ≠ some OB
  n8 : v8.ownBlock ≠ some OB
  loc : Loc w OB cs
  k : Kept W w
theorem GS.rot {W w : World} {BB OB : Nat} {cs : List Value} {v6 v7 v8 : Value} {K6 K7 K8 : List Int} (h : GS W w BB OB cs v6 K6 v7 K7 v8 K8) : GS W w BB OB cs v7 K7 v8 K8 v6 K6 := ⟨h.r7, h.r8, h.r6, h.p78, h.p67.symm, h.p68.symm, h.n7, h.n8, h.n6, h.loc, h.k⟩
theorem GS.alloc {W w : World} {BB OB : Nat} {cs : List Value} {v6 v7 v8 : Value} {K6 K7 K8 : List Int} (h : GS W w BB OB cs v6 K6 v7 K7 v8 K8) (o : Obj) : GS W (w.alloc o) BB OB cs v6 K6 v7 K7 v8 K8 := by
  have hk : Kept w (w.alloc o) := (But.refl _ _ w).alloc _
  exact ⟨(h.r6.kept hk).low, (h.r7.kept hk).low, (h.r8.kept hk).low, h.p67, h.p68, h.p78, h.n6, h.n7, h.n8, h.loc.kept hk, h.k.trans hk⟩
theorem GS.app {W w : World} {BB OB : Nat} {cs : List Value} {v6 v7 v8 : Value} {K6 K7 K8 : List Int} (h : GS W w BB OB cs v6 K6 v7 K7 v8 K8) (hW : W.heap.size = BB + 1) {v' : Value} {w' : World} {x : Int} (o : NumO w' (BB + 1) w'.heap.size v' (K6 ++ [x])) (b : But (blo v6) (bhi v6) w w') (l : v'.ownBlock = v6.ownBlock ∨ v'.ownBlock = some w.heap.size) : GS W w' BB OB cs v' (K6 ++ [x]) v7 K7 v8 K8 := by
  have hnew : v'.ownBlock ≠ some OB := fun e => by
    rcases l with l | l
    · exact h.n6 (l.symm.trans e)
    · rw [l] at e
      cases e
      exact absurd h.loc.lt (by omega)
  refine ⟨o, (RowO.apart h.r7 b h.p67.symm).mono (Nat.le_refl _) b.size, (RowO.apart h.r8 b h.p68.symm).mono (Nat.le_refl _) b.size, (ap1_num h.r7 h.p67.symm l).symm, (ap1_num h.r8 h.p68.symm l).symm, h.p78, hnew, h.n7, h.n8, h.loc.but b ?_, But.onto h.k (But.inner b h.r6) (by omega)⟩
  have hcb := h.n6
  unfold blo bhi
  cases hob : v6.ownBlock with
  | none => simp
  | some y =>
    rw [hob] at hcb
    have : y ≠ OB := fun e => hcb (by rw [e])
    simp only [Option.getD_some]
    omega
set_option maxHeartbeats 32000000 in
theorem slayout (l : List BoxD) (wide high : Int) (vl : Value) (w : World) (hv : BoxAt w vl l) (hn : l.length ≤ 1048576) :
    Calls Try.prog 19 #[vl, .int .i64 wide, .int .i64 high] w fun e w' => ∃ v', e = .returned (.tuple #[v', .bool (dec (LayOk l wide high))]) ∧ PlacedO w' w.heap.size w'.heap.size v' (layR l wide high) ∧ Kept w w' := by
  obtain ⟨ao, cap, hsl⟩ := row_nil hv
  subst hsl
  have G1 : ∀ q, dec (BoxesP l) = q → Hid (Calls Try.prog 9 #[.slice ao l.length cap] w fun e w' => e = .returned (.bool q) ∧ Kept w w') := fun q hq => by rw [← hq]; exact sgood l _ w hv hn
  have HV : Hid (BoxAt w (.slice ao l.length cap) l) := hv
  clear hv
  cases q1 : dec (BoxesP l) with
  | false =>
    have A1 := G1 _ q1
    have no : ¬ LayOk l wide high := fun h => of_dec_no q1 h.1
    rw [dec_no no, layR_no no]
    clear G1 no q1
    go_enter Try.func19, Try.ntmps19
    repeat (first | (go_at_call 9; refine (A1.out).mono ?_; rintro e w1 ⟨rfl, k1⟩; dsimp only) | go_values | go_skip | go_guarded | go_step | go_upon)
    go_returns
    exact ⟨_, rfl, nil_placed _ _ _, k1⟩
  | true =>
  have A1 := G1 _ q1
  have hB := of_dec q1
  cases q2 : decide (0 ≤ wide ∧ wide ≤ 10000) with
  | false =>
    have no : ¬ LayOk l wide high := fun h => absurd (decide_eq_true h.2.1) (by rw [q2]; simp)
    rw [dec_no no, layR_no no]
    clear G1 no q1 hB
    go_enter Try.func19, Try.ntmps19
    repeat (first | (go_at_call 9; refine (A1.out).mono ?_; rintro e w1 ⟨rfl, k1⟩; dsimp only) | go_values | go_skip | go_guarded | go_step | go_upon)
    go_at_call 31; refine (sInG _ _ _ _).mono ?_; rintro e w2 ⟨rfl, hw2⟩; rw [hw2, q2]; clear hw2 w2; dsimp only
    repeat (first | go_values | go_skip | go_guarded | go_step | go_upon)
    go_returns
    exact ⟨_, rfl, nil_placed _ _ _, k1⟩
  | true =>
  have hW := of_decide_eq_true q2
  cases q3 : decide (0 ≤ high ∧ high ≤ 10000) with
  | false =>
    have no : ¬ LayOk l wide high := fun h => absurd (decide_eq_true h.2.2) (by rw [q3]; simp)
    rw [dec_no no, layR_no no]
    clear G1 no q1 hB hW
    go_enter Try.func19, Try.ntmps19
    repeat (first | (go_at_call 9; refine (A1.out).mono ?_; rintro e w1 ⟨rfl, k1⟩; dsimp only) | go_values | go_skip | go_guarded | go_step | go_upon)
    go_at_call 31; refine (sInG _ _ _ _).mono ?_; rintro e w2 ⟨rfl, hw2⟩; rw [hw2, q2]; clear hw2 w2; dsimp only
    repeat (first | go_values | go_skip | go_guarded | go_step | go_upon)
    go_at_call 31; refine (sInG _ _ _ _).mono ?_; rintro e w2 ⟨rfl, hw2⟩; rw [hw2, q3]; clear hw2 w2; dsimp only
    repeat (first | go_values | go_skip | go_guarded | go_step | go_upon)
    go_returns
    exact ⟨_, rfl, nil_placed _ _ _, k1⟩
  | true =>
  have hH := of_decide_eq_true q3
  have yes : LayOk l wide high := ⟨hB, hW, hH⟩
  rw [dec_yes yes, layR_yes yes]
  have HY : Hid (LayOk l wide high) := yes
  have h1 := hB.1
  have h40 := hB.2.1
  clear G1 yes q1 hB hW hH
  have hmk := make_placed l.length hn
  go_enter Try.func19, Try.ntmps19
  repeat (first | (go_at_call 9; refine (A1.out).mono ?_; rintro e w1 ⟨rfl, k1⟩; dsimp only) | go_values | go_skip | go_guarded | go_step | go_upon)
  go_at_call 31; refine (sInG _ _ _ _).mono ?_; rintro e w2 ⟨rfl, hw2⟩; rw [hw2, q2]; clear hw2 w2; dsimp only
  repeat (first | go_values | go_skip | go_guarded | go_step | go_upon)
  go_at_call 31; refine (sInG _ _ _ _).mono ?_; rintro e w2 ⟨rfl, hw2⟩; rw [hw2, q3]; clear hw2 w2; dsimp only
  have hmp := made_placed l.length hn w1
  repeat (go_not_at_region 4; first | go_values | go_skip | go_guarded | go_step | go_upon)
  obtain ⟨G, hG⟩ : ∃ G, w1.heap.size = G := ⟨_, rfl⟩
  rw [hG] at hmp ⊢
  refine forgetC (fun W => PlacedO W G (G + 1) (.slice (some ⟨G, 0, none⟩) l.length l.length) (List.replicate l.length placed0) ∧ Kept w1 W) ⟨hmp, (But.refl _ _ _).alloc _⟩ ?_
  have HG : Hid (w1.heap.size = G ∧ w.heap.size ≤ G) := ⟨hG, by have := k1.size; omega⟩
  have HK1 : Hid (Kept w w1) := k1
  clear hmp hG hmk k1 A1
  intro W hW
  have hmp := hW.1
  have hkW := hW.2
  clear hW
  have hget : (List.replicate l.length placed0)[0]? = some placed0 := by rw [List.getElem?_replicate, if_pos (by omega)]
  obtain ⟨d0, d1, d2, d3, dz⟩ := hmp.cells (i := 0) (p := placed0) hget
  obtain ⟨m1, m2, m3, mm⟩ := hmp.store (by simp) (i := 0) (p := placed0) hget (0, 0, wide, high)
  have dz0 := dz 0
  have dz1 := dz 1
  have dz2 := dz 2
  have dz3 := dz 3
  simp only [Nat.zero_mul, Nat.zero_add, placed0] at d0 d1 d2 d3 m1 m2 m3 mm
  have B5 : But G (G + 1) W ((((W.setCell ⟨G, 0, none⟩ (.int .i64 0)).setCell ⟨G, 1, none⟩ (.int .i64 0)).setCell ⟨G, 2, none⟩ (.int .i64 wide)).setCell ⟨G, 3, none⟩ (.int .i64 high)) := ((((But.refl _ _ _).setCell (by simp) (by simp) _).setCell (by simp) (by simp) _).setCell (by simp) (by simp) _).setCell (by simp) (by simp) _
  have HMM : Hid (PlacedO ((((W.setCell ⟨G, 0, none⟩ (.int .i64 0)).setCell ⟨G, 1, none⟩ (.int .i64 0)).setCell ⟨G, 2, none⟩ (.int .i64 wide)).setCell ⟨G, 3, none⟩ (.int .i64 high)) G (G + 1) (.slice (some ⟨G, 0, none⟩) l.length l.length) (layA l wide high 0)) := by
    show PlacedO _ _ _ _ _
    rw [layA]
    exact mm
  have HKM : Hid (Kept w ((((W.setCell ⟨G, 0, none⟩ (.int .i64 0)).setCell ⟨G, 1, none⟩ (.int .i64 0)).setCell ⟨G, 2, none⟩ (.int .i64 wide)).setCell ⟨G, 3, none⟩ (.int .i64 high))) := But.onto (HK1.out.trans hkW) B5 HG.out.2
  have HLW : Hid (G < W.heap.size) := World.block_lt_of_cell? _ _ d0
  clear dz mm hmp hget B5 hkW
  repeat (first | go_values | go_skip | go_guarded | go_step | go_upon)
  clear d0 d1 d2 d3 m1 m2 m3 dz0 dz1 dz2 dz3
  go_loopw [47] (fun i wr => ∃ u : Nat, u ≤ l.length ∧ i = .int .i64 (u : Int) ∧ PlacedO wr G (G + 1) (.slice (some ⟨G, 0, none⟩) l.length l.length) (layA l wide high u) ∧ Kept w wr) (fun i _ => l.length - (intOf i).toNat)
  case atStart => exact ⟨0, by omega, rfl, HMM.out, HKM.out⟩
  case round =>
    obtain ⟨u, hu, rfl, ho, hkp⟩ := hrel
    by_cases hlt : u < l.length
    · obtain ⟨bx, hbx⟩ : ∃ b, l[u]? = some b := ⟨_, List.getElem?_eq_getElem hlt⟩
      have hal := layA_len l wide high u
      obtain ⟨pp, hpp⟩ : ∃ p, (layA l wide high u)[u]? = some p := ⟨_, List.getElem?_eq_getElem (by omega)⟩
      have HBO := HY.out.1.2.2 u hlt bx hbx
      have HPB := layA_bd HY.out.1 HY.out.2.1 HY.out.2.2 u pp (List.mem_of_getElem? hpp)
      have HLB0 : Hid (layB l (layA l wide high u) u = layN bx.2.1 (padP pp bx.2.2.2.2) (kids l u l.length) (shA (roomL bx.2.1 (padP pp bx.2.2.2.2)) (leasts l u l.length) (grows l u l.length)) (layA l wide high u) (kids l u l.length).length) := layB_at hbx hpp
      obtain ⟨b, o, cap', ee, e0, e1, e2, e3, e4⟩ := box_get (HV.out.kept hkp) hbx
      cases ee
      obtain ⟨BB, hBB⟩ : ∃ BB, wr.heap.size = BB := ⟨_, rfl⟩
      have hGB : G + 1 ≤ BB := by have := (own_lt ho.1 (g := G) rfl).2; omega
      obtain ⟨x0, x1, x2, x3, x4⟩ := bx
      obtain ⟨p0, p1, p2, p3⟩ := pp
      dsimp only at e0 e1 e2 e3 e4 HBO HPB HLB0
      have HBX : Hid (l[u]? = some (x0, x1, x2, x3, x4) ∧ (layA l wide high u)[u]? = some (p0, p1, p2, p3)) := ⟨hbx, hpp⟩
      have HO : Hid (PlacedO wr G (G + 1) (.slice (some ⟨G, 0, none⟩) l.length l.length) (layA l wide high u)) := ho
      have HKr : Hid (Kept w wr) := hkp
      have HU : Hid (u ≤ 40) := show _ ≤ _ from by omega
      clear ho hkp hbx hpp hal
      repeat (go_not_at_region 8; first | go_values | go_skip | go_guarded | go_step | go_upon)
      try rw [hBB]
      have hlb : Loc (wr.alloc (.cells #[.int .i64 x0, .int .i64 x1, .int .i64 x2, .int .i64 x3, .int .i64 x4] 52)) BB [.int .i64 x0, .int .i64 x1, .int .i64 x2, .int .i64 x3, .int .i64 x4] := by rw [← hBB]; exact Loc.new wr [.int .i64 x0, .int .i64 x1, .int .i64 x2, .int .i64 x3, .int .i64 x4] 52
      refine forgetC (fun W => Loc W BB [.int .i64 x0, .int .i64 x1, .int .i64 x2, .int .i64 x3, .int .i64 x4] ∧ Kept wr W ∧ W.heap.size = BB + 1) ⟨hlb, (But.refl _ _ _).alloc _, by rw [← hBB]; simp⟩ ?_
      clear hlb e0 e1 e2 e3 e4
      intro W hW
      have HLB : Hid (Loc W BB [.int .i64 x0, .int .i64 x1, .int .i64 x2, .int .i64 x3, .int .i64 x4]) := hW.1
      have HKW0 : Hid (Kept wr W ∧ Kept w W) := ⟨hW.2.1, HKr.out.trans hW.2.1⟩
      have HWS : Hid (W.heap.size = BB + 1) := hW.2.2
      have HVW : Hid (BoxAt W (.slice (some ⟨b, o, none⟩) l.length cap) l) := HV.out.kept HKW0.out.2
      clear hW
      repeat (first | go_values | go_skip | go_guarded | go_step | go_upon)
      go_loopw [11, 12, 13, 54] (fun y6 y7 y8 i wz => ∃ (k : Nat) (K6 K7 K8 : List Int), k ≤ l.length ∧ i = .int .i64 (k : Int) ∧ Hid (kids l u k = K6 ∧ leasts l u k = K7 ∧ grows l u k = K8) ∧ NumO wz (BB + 1) wz.heap.size y6 K6 ∧ NumO wz (BB + 1) wz.heap.size y7 K7 ∧ NumO wz (BB + 1) wz.heap.size y8 K8 ∧ Ap y6 y7 ∧ Ap y6 y8 ∧ Ap y7 y8 ∧ Kept W wz) (fun y6 y7 y8 i _ => l.length - (intOf i).toNat)
      case atStart => exact ⟨0, [], [], [], by omega, rfl, ⟨rfl, rfl, rfl⟩, nil_num _ _ _, nil_num _ _ _, nil_num _ _ _, (fun g hg => by simp [Value.ownBlock] at hg), (fun g hg => by simp [Value.ownBlock] at hg), (fun g hg => by simp [Value.ownBlock] at hg), But.refl _ _ _⟩
      case round =>
        rename World => wz
        obtain ⟨k, K6, K7, K8, hk, rfl, HKS, o6, o7, o8, p67, p68, p78, hkz⟩ := hrel
        obtain ⟨a6, c6, hf, _⟩ := own_form o6.1
        subst hf
        obtain ⟨a7, c7, hf, _⟩ := own_form o7.1
        subst hf
        obtain ⟨a8, c8, hf, _⟩ := own_form o8.1
        subst hf
        have hkl := kids_len l u k
        rw [HKS.out.1, HKS.out.2.1, HKS.out.2.2] at hkl
        have HLN : Hid (K6.length ≤ 1000 ∧ K7.length ≤ 1000 ∧ K8.length ≤ 1000) := by show _ ∧ _ ∧ _; omega
        have H6 : Hid (NumO wz (BB + 1) wz.heap.size (.slice a6 K6.length c6) K6) := o6
        have H7 : Hid (NumO wz (BB + 1) wz.heap.size (.slice a7 K7.length c7) K7) := o7
        have H8 : Hid (NumO wz (BB + 1) wz.heap.size (.slice a8 K8.length c8) K8) := o8
        have HAP : Hid (Ap (.slice a6 K6.length c6) (.slice a7 K7.length c7) ∧ Ap (.slice a6 K6.length c6) (.slice a8 K8.length c8) ∧ Ap (.slice a7 K7.length c7) (.slice a8 K8.length c8)) := ⟨p67, p68, p78⟩
        have HKz : Hid (Kept W wz) := hkz
        have hwz := hkz.size
        clear o6 o7 o8 p67 p68 p78 hkl
        by_cases hltk : k < l.length
        · obtain ⟨d, hd⟩ : ∃ d, l[k]? = some d := ⟨_, List.getElem?_eq_getElem hltk⟩
          obtain ⟨bb, oo, cap'', ee, e0, e1, e2, e3, e4⟩ := box_get (HVW.out.kept hkz) hd
          cases ee
          have HD : Hid (l[k]? = some d) := hd
          have HDO := HY.out.1.2.2 k hltk d hd
          obtain ⟨d0, d1, d2, d3, d4⟩ := d
          dsimp only at e0 e1 e2 e3 e4 HDO
          clear hd hkz
          by_cases hdu : d0 = (u : Int)
          · have h0 : 0 < k := by
              rcases Nat.eq_zero_or_pos k with e | e
              · have := HDO.1 e
                omega
              · exact e
            have dj : decide (0 < k) = true := decide_eq_true h0
            have dq : (d0 == (u : Int)) = true := by simp [hdu]
            have HN := kids_yes HD.out hdu
            rw [HKS.out.1, HKS.out.2.1, HKS.out.2.2] at HN
            have HN1 : Hid (kids l u (k + 1) = K6 ++ [(k : Int)] ∧ leasts l u (k + 1) = K7 ++ [d2] ∧ grows l u (k + 1) = K8 ++ [d3]) := HN
            have KA := (But.refl 0 0 wz).alloc (.cells #[.int .i64 d0, .int .i64 d1, .int .i64 d2, .int .i64 d3, .int .i64 d4] 52)
            have hnb : ∀ (a : Option Addr) (c : Nat) (K : List Int), NumO wz (BB + 1) wz.heap.size (.slice a K.length c) K → (Value.slice a K.length c).ownBlock ≠ some wz.heap.size := fun a c K h e => by
              have := (h.1.lt _ e).2
              omega
            have gs0 : GS W (wz.alloc (.cells #[.int .i64 d0, .int .i64 d1, .int .i64 d2, .int .i64 d3, .int .i64 d4] 52)) BB wz.heap.size [.int .i64 d0, .int .i64 d1, .int .i64 d2, .int .i64 d3, .int .i64 d4] (.slice a6 K6.length c6) K6 (.slice a7 K7.length c7) K7 (.slice a8 K8.length c8) K8 := ⟨(H6.out.kept KA).low, (H7.out.kept KA).low, (H8.out.kept KA).low, HAP.out.1, HAP.out.2.1, HAP.out.2.2, hnb _ _ _ H6.out, hnb _ _ _ H7.out, hnb _ _ _ H8.out, Loc.new wz [.int .i64 d0, .int .i64 d1, .int .i64 d2, .int .i64 d3, .int .i64 d4] 52, HKz.out.trans KA⟩
            have HGS0 : Hid (GS W (wz.alloc (.cells #[.int .i64 d0, .int .i64 d1, .int .i64 d2, .int .i64 d3, .int .i64 d4] 52)) BB wz.heap.size [.int .i64 d0, .int .i64 d1, .int .i64 d2, .int .i64 d3, .int .i64 d4] (.slice a6 K6.length c6) K6 (.slice a7 K7.length c7) K7 (.slice a8 K8.length c8) K8) := gs0
            clear hdu HN HKS HDO KA hnb gs0 H6 H7 H8 HAP h0
            repeat (go_not_at_region 13; first | go_values | go_skip | go_guarded | go_step | go_upon)
            obtain ⟨OB, hOB⟩ : ∃ OB, wz.heap.size = OB := ⟨_, rfl⟩
            have HGS1 := HGS0
            rw [hOB] at HGS1 ⊢
            refine forgetC (fun W1 => GS W W1 BB OB [.int .i64 d0, .int .i64 d1, .int .i64 d2, .int .i64 d3, .int .i64 d4] (.slice a6 K6.length c6) K6 (.slice a7 K7.length c7) K7 (.slice a8 K8.length c8) K8) HGS1.out ?_
            clear HGS0 HGS1 e0 e1 e2 e3 e4
            intro W1 gs1
            have HGS1 : Hid (GS W W1 BB OB [.int .i64 d0, .int .i64 d1, .int .i64 d2, .int .i64 d3, .int .i64 d4] (.slice a6 K6.length c6) K6 (.slice a7 K7.length c7) K7 (.slice a8 K8.length c8) K8) := gs1
            have hs1 : BB + 1 ≤ W1.heap.size := by have := gs1.k.size; have := HWS.out; omega
            clear gs1 hOB
            repeat (first | (at_builtin; refine forgetL (fun w' => w' = _) rfl ?_) | go_values | go_skip | go_guarded | go_step | go_upon)
            intro W7 hW7
            rw [hW7]
            clear hW7 W7
            refine app1_num rfl _ _ rfl (lo := BB + 1) (hi := W1.heap.size) rfl (HGS1.out.r6.kept ((But.refl _ _ W1).alloc _)) (k : Int) rfl (Loc.new W1 [.int .i64 (k : Int)] 3) (by have := HLN.out; omega) (by simp; omega) ?_
            intro v6 W2 o6 b6 l6
            have HGS2 : Hid (GS W W2 BB OB [.int .i64 d0, .int .i64 d1, .int .i64 d2, .int .i64 d3, .int .i64 d4] v6 (K6 ++ [(k : Int)]) (.slice a7 K7.length c7) K7 (.slice a8 K8.length c8) K8) := (HGS1.out.alloc _).app HWS.out o6 b6 l6
            clear o6 b6 l6 HGS1
            have g2 := HGS2.out.loc.cell 2 rfl
            have g3 := HGS2.out.loc.cell 3 rfl
            have gl := HGS2.out.loc.lt
            have hs2 : BB + 1 ≤ W2.heap.size := by have := HGS2.out.k.size; have := HWS.out; omega
            repeat (first | (at_builtin; refine forgetL (fun w' => w' = _) rfl ?_) | go_values | go_skip | go_guarded | go_step | go_upon)
            intro W7 hW7
            rw [hW7]
            clear hW7 W7
            refine app1_num rfl _ _ rfl (lo := BB + 1) (hi := W2.heap.size) rfl (HGS2.out.r7.kept ((But.refl _ _ W2).alloc _)) d2 rfl (Loc.new W2 [.int .i64 d2] 3) (by have := HLN.out; omega) (by simp; omega) ?_
            intro v7 W3 o7 b7 l7
            have HGS3 : Hid (GS W W3 BB OB [.int .i64 d0, .int .i64 d1, .int .i64 d2, .int .i64 d3, .int .i64 d4] v7 (K7 ++ [d2]) (.slice a8 K8.length c8) K8 v6 (K6 ++ [(k : Int)])) := (HGS2.out.rot.alloc _).app HWS.out o7 b7 l7
            clear o7 b7 l7 HGS2 g2 g3 gl
            have g3 := HGS3.out.loc.cell 3 rfl
            have gl := HGS3.out.loc.lt
            have hs3 : BB + 1 ≤ W3.heap.size := by have := HGS3.out.k.size; have := HWS.out; omega
            repeat (first | (at_builtin; refine forgetL (fun w' => w' = _) rfl ?_) | go_values | go_skip | go_guarded | go_step | go_upon)
            intro W7 hW7
            rw [hW7]
            clear hW7 W7
            refine app1_num rfl _ _ rfl (lo := BB + 1) (hi := W3.heap.size) rfl (HGS3.out.r7.kept ((But.refl _ _ W3).alloc _)) d3 rfl (Loc.new W3 [.int .i64 d3] 3) (by have := HLN.out; omega) (by simp; omega) ?_
            intro v8 W4 o8 b8 l8
            have HGS4 : Hid (GS W W4 BB OB [.int .i64 d0, .int .i64 d1, .int .i64 d2, .int .i64 d3, .int .i64 d4] v8 (K8 ++ [d3]) v6 (K6 ++ [(k : Int)]) v7 (K7 ++ [d2])) := (HGS3.out.rot.alloc _).app HWS.out o8 b8 l8
            clear o8 b8 l8 HGS3 g3 gl dj
            repeat (first | go_values | go_skip | go_guarded | go_step | go_upon)
            have gf := HGS4.out.rot
            exact ⟨⟨k + 1, _, _, _, hltk, by go_num, HN1, gf.r6, gf.r7, gf.r8, gf.p67, gf.p68, gf.p78, gf.k⟩, by simp [intOf]; omega⟩
          · have HN := kids_no HD.out hdu
            rw [HKS.out.1, HKS.out.2.1, HKS.out.2.2] at HN
            have HN1 : Hid (kids l u (k + 1) = K6 ∧ leasts l u (k + 1) = K7 ∧ grows l u (k + 1) = K8) := HN
            have dq : (d0 == (u : Int)) = false := by simp [hdu]
            clear hdu HN HKS HDO
            have KA := (But.refl 0 0 wz).alloc (.cells #[.int .i64 d0, .int .i64 d1, .int .i64 d2, .int .i64 d3, .int .i64 d4] 52)
            have HEND : Hid (NumO (wz.alloc (.cells #[.int .i64 d0, .int .i64 d1, .int .i64 d2, .int .i64 d3, .int .i64 d4] 52)) (BB + 1) (wz.alloc (.cells #[.int .i64 d0, .int .i64 d1, .int .i64 d2, .int .i64 d3, .int .i64 d4] 52)).heap.size (.slice a6 K6.length c6) K6 ∧ NumO (wz.alloc (.cells #[.int .i64 d0, .int .i64 d1, .int .i64 d2, .int .i64 d3, .int .i64 d4] 52)) (BB + 1) (wz.alloc (.cells #[.int .i64 d0, .int .i64 d1, .int .i64 d2, .int .i64 d3, .int .i64 d4] 52)).heap.size (.slice a7 K7.length c7) K7 ∧ NumO (wz.alloc (.cells #[.int .i64 d0, .int .i64 d1, .int .i64 d2, .int .i64 d3, .int .i64 d4] 52)) (BB + 1) (wz.alloc (.cells #[.int .i64 d0, .int .i64 d1, .int .i64 d2, .int .i64 d3, .int .i64 d4] 52)).heap.size (.slice a8 K8.length c8) K8 ∧ Kept W (wz.alloc (.cells #[.int .i64 d0, .int .i64 d1, .int .i64 d2, .int .i64 d3, .int .i64 d4] 52))) := ⟨(H6.out.kept KA).low, (H7.out.kept KA).low, (H8.out.kept KA).low, HKz.out.trans KA⟩
            clear KA
            by_cases h0 : 0 < k
            · have dj : decide (0 < k) = true := decide_eq_true h0
              repeat (first | go_values | go_skip | go_guarded | go_step | go_upon)
              exact ⟨⟨k + 1, K6, K7, K8, hltk, by go_num, HN1, HEND.out.1, HEND.out.2.1, HEND.out.2.2.1, HAP.out.1, HAP.out.2.1, HAP.out.2.2, HEND.out.2.2.2⟩, by simp [intOf]; omega⟩
            · have dj : decide (0 < k) = false := decide_eq_false h0
              clear h0
              repeat (first | go_values | go_skip | go_guarded | go_step | go_upon)
              clear dj
              exact ⟨⟨k + 1, K6, K7, K8, hltk, by go_num, HN1, HEND.out.1, HEND.out.2.1, HEND.out.2.2.1, HAP.out.1, HAP.out.2.1, HAP.out.2.2, HEND.out.2.2.2⟩, by simp [intOf]; omega⟩
        · have hke : k = l.length := by omega
          subst hke
          have hkN := kids_len l u l.length
          have hkI := kids_in l u l.length
          have HSP := kids_shP HY.out.1 (u : Int) (Nat.le_refl l.length)
          rw [HKS.out.1, HKS.out.2.1, HKS.out.2.2] at hkN
          rw [HKS.out.1] at hkI
          rw [HKS.out.2.1, HKS.out.2.2] at HSP
          have HLB1 := HLB0.out
          rw [HKS.out.1, HKS.out.2.1, HKS.out.2.2] at HLB1
          have HKL : Hid (K6.length ≤ l.length ∧ K7.length = K6.length ∧ K8.length = K6.length ∧ (∀ x ∈ K6, 0 ≤ x ∧ x < (l.length : Int)) ∧ ShP K7 K8) := ⟨hkN.1, hkN.2.1, hkN.2.2, hkI, HSP⟩
          have HPD := pad_bd (M := 400100 * (u : Int)) (p := (p0, p1, p2, p3)) (pad := x4) HPB HBO.2.2.2.2.2
          have hr0 : padP (p0, p1, p2, p3) x4 = (p0 + x4, p1 + x4, pos0 (p2 - 2 * x4), pos0 (p3 - 2 * x4)) := rfl
          obtain ⟨r0, hr0'⟩ : ∃ r, p0 + x4 = r := ⟨_, rfl⟩
          obtain ⟨r1, hr1'⟩ : ∃ r, p1 + x4 = r := ⟨_, rfl⟩
          obtain ⟨r2, hr2'⟩ : ∃ r, pos0 (p2 - 2 * x4) = r := ⟨_, rfl⟩
          obtain ⟨r3, hr3'⟩ : ∃ r, pos0 (p3 - 2 * x4) = r := ⟨_, rfl⟩
          rw [hr0, hr0', hr1', hr2', hr3'] at HLB1 HPD
          dsimp only at HPD
          have HLB0 : Hid (layB l (layA l wide high u) u = layN x1 (r0, r1, r2, r3) K6 (shA (roomL x1 (r0, r1, r2, r3)) K7 K8) (layA l wide high u) K6.length) := HLB1
          have HRB : Hid (((0 ≤ r0 ∧ r0 ≤ 400100 * (u : Int) + 100) ∧ (0 ≤ r1 ∧ r1 ≤ 400100 * (u : Int) + 100)) ∧ u ≤ 40 ∧ (0 ≤ r2 ∧ r2 ≤ 10000) ∧ (0 ≤ r3 ∧ r3 ≤ 10000)) := ⟨⟨HPD.1, HPD.2.1⟩, HU.out, HPD.2.2.1, HPD.2.2.2⟩
          have HB1 : Hid (u ≤ 40) := HU.out
          have hKWz := HKW0.out.1.trans hkz
          have HKW : Hid (Kept w wz) := HKW0.out.2.trans hkz
          have opz := HO.out.kept hKWz
          have HOZ : Hid (PlacedO wz G (G + 1) (.slice (some ⟨G, 0, none⟩) l.length l.length) (layA l wide high u)) := opz
          have hcc := PlacedO.cells (g := G) (cap := l.length) (n := l.length) (i := u) (p := (p0, p1, p2, p3)) opz HBX.out.2
          have q0 := hcc.1
          have q1 := hcc.2.1
          have q2 := hcc.2.2.1
          have q3 := hcc.2.2.2.1
          have lz := HLB.out.kept hkz
          have b4 := lz.cell 4 rfl
          have b1 := lz.cell 1 rfl
          have gl : G < wz.heap.size := World.block_lt_of_cell? _ _ q0
          have bl : BB < wz.heap.size := lz.lt
          have HG2 : Hid (True ∧ G + 1 ≤ BB ∧ BB + 1 ≤ wz.heap.size) := ⟨trivial, hGB, bl⟩
          have AL2 : Hid (∀ W, Calls Try.prog 39 #[.int .i64 (p2 - 2 * x4)] W fun e w' => e = .returned (.int .i64 r2) ∧ w' = W) := fun W => by have := sleast (p2 - 2 * x4) W; rw [hr2'] at this; exact this
          have AL3 : Hid (∀ W, Calls Try.prog 39 #[.int .i64 (p3 - 2 * x4)] W fun e w' => e = .returned (.int .i64 r3) ∧ w' = W) := fun W => by have := sleast (p3 - 2 * x4) W; rw [hr3'] at this; exact this
          have y0 : (0 : Int) ≤ (u : Int) := by omega
          have y1 : (u : Int) < (l.length : Int) := by omega
          have y2 := HPB.1.1
          have y3 : p0 ≤ 100000000 := by have := HPB.1.2; have := HU.out; omega
          have y4 := HPB.2.1.1
          have y5 : p1 ≤ 100000000 := by have := HPB.2.1.2; have := HU.out; omega
          have y6 := HPB.2.2.1.1
          have y7 := HPB.2.2.1.2
          have y8 := HPB.2.2.2.1
          have y9 := HPB.2.2.2.2
          have yp := HBO.2.2.2.2.2.1
          have yq := HBO.2.2.2.2.2.2
          have HLY : Hid (1 ≤ x1 ∧ x1 ≤ 2) := HBO.2.2.1
          have HE0 : Hid (p0 + x4 = r0 ∧ p1 + x4 = r1) := ⟨hr0', hr1'⟩
          have HKQ : Hid (Kept wz wz) := But.refl _ _ _
          clear hkN hkI HSP HLB1 HPD hr0 hr0' hr1' hr2' hr3' HKS hKWz opz hcc lz hkz HBO HPB HLN
          repeat (first | go_values | go_skip | go_guarded | go_step | go_upon)
          refine wp_region_kept (by kernel_rfl) (by kernel_rfl) ?_
          have hcc := @KW.cell_eq
          repeat (go_big_quiet_step (first | fail))
          refine wpQuiet_nil ?_
          rintro w3 ⟨⟨w8, k3⟩, h9⟩
          change w3 = w8 at h9
          subst h9
          clear hcc
          have HKQ : Hid (Kept wz w3) := HKQ.out.trans k3
          have q0 := Kept.cell k3 q0
          have q1 := Kept.cell k3 q1
          have q2 := Kept.cell k3 q2
          have q3 := Kept.cell k3 q3
          have b4 := Kept.cell k3 b4
          have b1 := Kept.cell k3 b1
          have gl : G < w3.heap.size := by have := k3.size; omega
          have bl : BB < w3.heap.size := by have := k3.size; omega
          clear k3
          repeat (first | go_values | go_skip | go_guarded | go_step | go_upon)
          refine wp_region_kept (by kernel_rfl) (by kernel_rfl) ?_
          have hcc := @KW.cell_eq
          repeat (go_big_quiet_step (first | fail))
          refine wpQuiet_nil ?_
          rintro w4 ⟨⟨w8, k4⟩, h9⟩
          change w4 = w8 at h9
          subst h9
          clear hcc
          have HKQ : Hid (Kept wz w4) := HKQ.out.trans k4
          have q0 := Kept.cell k4 q0
          have q1 := Kept.cell k4 q1
          have q2 := Kept.cell k4 q2
          have q3 := Kept.cell k4 q3
          have b4 := Kept.cell k4 b4
          have b1 := Kept.cell k4 b1
          have gl : G < w4.heap.size := by have := k4.size; omega
          have bl : BB < w4.heap.size := by have := k4.size; omega
          clear k4
          repeat (first | go_values | go_skip | go_guarded | go_step | go_upon)
          refine wp_region_kept (by kernel_rfl) (by kernel_rfl) ?_
          have hcc := @KW.cell_eq
          repeat (go_big_quiet_step (first | (go_at_call 39; with_reducible exact kw_same (AL2.out _))))
          refine wpQuiet_nil ?_
          rintro w5 ⟨⟨w8, k5⟩, h9⟩
          change w5 = w8 at h9
          subst h9
          clear hcc
          have HKQ : Hid (Kept wz w5) := HKQ.out.trans k5
          have q0 := Kept.cell k5 q0
          have q1 := Kept.cell k5 q1
          have q2 := Kept.cell k5 q2
          have q3 := Kept.cell k5 q3
          have b4 := Kept.cell k5 b4
          have b1 := Kept.cell k5 b1
          have gl : G < w5.heap.size := by have := k5.size; omega
          have bl : BB < w5.heap.size := by have := k5.size; omega
          clear k5
          repeat (first | go_values | go_skip | go_guarded | go_step | go_upon)
          refine wp_region_kept (by kernel_rfl) (by kernel_rfl) ?_
          have hcc := @KW.cell_eq
          repeat (go_big_quiet_step (first | (go_at_call 39; with_reducible exact kw_same (AL3.out _))))
          refine wpQuiet_nil ?_
          rintro w6 ⟨⟨w8, k6⟩, h9⟩
          change w6 = w8 at h9
          subst h9
          clear hcc
          have HKQ : Hid (Kept wz w6) := HKQ.out.trans k6
          have q0 := Kept.cell k6 q0
          have q1 := Kept.cell k6 q1
          have q2 := Kept.cell k6 q2
          have q3 := Kept.cell k6 q3
          have b4 := Kept.cell k6 b4
          have b1 := Kept.cell k6 b1
          have gl : G < w6.heap.size := by have := k6.size; omega
          have bl : BB < w6.heap.size := by have := k6.size; omega
          clear k6
          try rw [HE0.out.1]
          try rw [HE0.out.2]
          have HKQ2 : Hid (Kept wz w6) := HKQ.out
          have HWZ : Hid (Kept wz wz) := But.refl _ _ _
          have HKZ : Hid (Kept wz w6) := HKQ.out
          clear AL2 AL3 y2 y3 y4 y5 y6 y7 y8 y9 yp yq HE0
          by_cases hlay : x1 = 1
          · subst hlay
            repeat (first | go_values | go_skip | go_guarded | go_step | go_upon)
            have HSHC : Hid (Calls Try.prog 35 #[.int .i64 r2, .slice a7 K7.length c7, .slice a8 K8.length c8] w6 fun e w' => ∃ v, e = .returned v ∧ NumO w' w6.heap.size w'.heap.size v (shA r2 K7 K8) ∧ Kept w6 w') := sshares r2 K7 K8 _ _ w6 (H7.out.kept (HWZ.out.trans HKZ.out)).at (H8.out.kept (HWZ.out.trans HKZ.out)).at HKL.out.2.2.2.2 HRB.out.2.2.1
            obtain ⟨SH, hSH⟩ : ∃ SH, shA r2 K7 K8 = SH := ⟨_, rfl⟩
            have hshb : ∀ x ∈ SH, 0 ≤ x ∧ x ≤ 10000 := by rw [← hSH]; exact shA_bd ⟨HRB.out.2.2.1, HKL.out.2.2.2.2⟩
            have hshl : SH.length = K6.length := by rw [← hSH, shA_len HKL.out.2.2.2.2.2.1]; exact HKL.out.2.1
            have HLE : Hid (layB l (layA l wide high u) u = layN 1 (r0, r1, r2, r3) K6 SH (layA l wide high u) K6.length) := show _ = _ from by rw [HLB0.out, ← hSH]; rfl
            rw [hSH] at HSHC
            have HSB : Hid ((∀ x ∈ SH, 0 ≤ x ∧ x ≤ 10000) ∧ SH.length = K6.length ∧ SH.length ≤ 40) := ⟨hshb, hshl, by have := HKL.out.1; omega⟩
            clear hSH hshb hshl HLB0 q0 q1 q2 q3 b4 b1 gl bl
            go_at_call 35
            refine HSHC.out.mono ?_
            rintro e w7 ⟨vs, rfl, osh, k7⟩
            obtain ⟨asH, cs, hf, _⟩ := own_form osh.1
            subst hf
            dsimp only
            have HSO : Hid (NumO w7 w6.heap.size w7.heap.size (.slice asH SH.length cs) SH) := osh
            have HK7 : Hid (Kept wz w7) := HKQ2.out.trans k7
            have HSZ : Hid (G + 1 ≤ BB ∧ BB + 1 ≤ wz.heap.size ∧ wz.heap.size ≤ w6.heap.size ∧ w6.heap.size ≤ w7.heap.size ∧ w.heap.size ≤ G) := ⟨HG2.out.2.1, HG2.out.2.2, HKQ2.out.size, k7.size, HG.out.2⟩
            have HSL : Hid (SH.length ≤ 40) := HSB.out.2.2
            have HKW7 : Hid (Kept w w7) := HKW.out.trans HK7.out
            clear osh k7 HSHC
            repeat (first | go_values | go_skip | go_guarded | go_step | go_upon)
            go_loopw [16, 126] (fun xv i wy => ∃ n : Nat, n ≤ SH.length ∧ i = .int .i64 (n : Int) ∧ xv = .int .i64 (r0 + (SH.take n).sum) ∧ PlacedO wy G (G + 1) (.slice (some ⟨G, 0, none⟩) l.length l.length) (layN 1 (r0, r1, r2, r3) K6 SH (layA l wide high u) n) ∧ NumO wy (BB + 1) wz.heap.size (.slice a6 K6.length c6) K6 ∧ NumO wy w6.heap.size w7.heap.size (.slice asH SH.length cs) SH ∧ Kept w wy) (fun xv i _ => SH.length - (intOf i).toNat)
            case atStart => exact ⟨0, by omega, rfl, by simp, HOZ.out.kept HK7.out, H6.out.kept HK7.out, HSO.out, HKW7.out⟩
            case round =>
              rename World => wy
              obtain ⟨n, hn9, rfl, rfl, opl, ok6, osh, hky⟩ := hrel
              by_cases hltn : n < SH.length
              · obtain ⟨sv, hsv⟩ : ∃ s, SH[n]? = some s := ⟨_, List.getElem?_eq_getElem hltn⟩
                obtain ⟨kq, hkq⟩ : ∃ k, K6[n]? = some k := ⟨_, List.getElem?_eq_getElem (by have := HSB.out.2.1; omega)⟩
                have hkb := HKL.out.2.2.2.1 kq (List.mem_of_getElem? hkq)
                obtain ⟨kk, rfl⟩ : ∃ kk : Nat, kq = (kk : Int) := ⟨kq.toNat, by omega⟩
                have hsb := HSB.out.1 sv (List.mem_of_getElem? hsv)
                have hof := sumT_bd (SH.take n) (fun x hx => HSB.out.1 x (List.mem_of_mem_take hx))
                have hol : ((SH.take n).length : Int) ≤ 40 := by rw [List.length_take]; have := HSB.out.2.2; omega
                have hlen := layN_len 1 (r0, r1, r2, r3) K6 SH (layA l wide high u) n
                rw [layA_len] at hlen
                obtain ⟨⟨v0, v1, v2, v3⟩, hpv⟩ : ∃ p, (layN 1 (r0, r1, r2, r3) K6 SH (layA l wide high u) n)[kk]? = some p := ⟨_, List.getElem?_eq_getElem (by omega)⟩
                have hnx := layN_next (lay := 1) (r := (r0, r1, r2, r3)) (ps := layA l wide high u) hkq hsv
                rw [show ((kk : Int)).toNat = kk by omega] at hnx
                have hsum : (SH.take (n + 1)).sum = (SH.take n).sum + sv := by rw [take_snoc hsv, List.sum_append]; simp
                obtain ⟨bs, oss, caps, ee, c0s⟩ := num_get osh.at hsv
                cases ee
                obtain ⟨bk, ok, capk, ee, c0k⟩ := num_get ok6.at hkq
                cases ee
                obtain ⟨OFF, hOFF⟩ : ∃ o, (SH.take n).sum = o := ⟨_, rfl⟩
                rw [hOFF] at hof hsum hnx ⊢
                obtain ⟨X, hX⟩ : ∃ x, r0 + OFF = x := ⟨_, rfl⟩
                have hkd : kidP 1 (r0, r1, r2, r3) OFF sv = (X, r1, sv, r3) := by rw [← hX]; rfl
                rw [hX]
                rw [hkd] at hnx
                have hXb : 0 ≤ X ∧ X ≤ 100000000 := by have := HRB.out; have := HB1.out; omega
                have HNX : Hid (layN 1 (r0, r1, r2, r3) K6 SH (layA l wide high u) (n + 1) = (layN 1 (r0, r1, r2, r3) K6 SH (layA l wide high u) n).set kk (X, r1, sv, r3) ∧ r0 + (SH.take (n + 1)).sum = X + sv) := ⟨hnx, by rw [hsum]; omega⟩
                obtain ⟨PS, hPS⟩ : ∃ q, layN 1 (r0, r1, r2, r3) K6 SH (layA l wide high u) n = q := ⟨_, rfl⟩
                rw [hPS] at opl hlen hpv HNX
                have hcc := PlacedO.cells (g := G) (cap := l.length) (n := l.length) (i := kk) (p := (v0, v1, v2, v3)) opl hpv
                have hst := PlacedO.store (g := G) (cap := l.length) (n := l.length) (i := kk) (p := (v0, v1, v2, v3)) opl hlen.symm hpv (X, r1, sv, r3)
                have e0 := hcc.1
                have e1 := hcc.2.1
                have e2 := hcc.2.2.1
                have e3 := hcc.2.2.2.1
                have dz0 := hcc.2.2.2.2 (kk * 4)
                have dz1 := hcc.2.2.2.2 (kk * 4 + 1)
                have dz2 := hcc.2.2.2.2 (kk * 4 + 2)
                have dz3 := hcc.2.2.2.2 (kk * 4 + 3)
                have m1 := hst.1
                have m2 := hst.2.1
                have m3 := hst.2.2.1
                have mm := hst.2.2.2
                dsimp only at e0 e1 e2 e3 m1 m2 m3 mm
                have HMM : Hid (PlacedO ((((wy.setCell ⟨G, kk * 4, none⟩ (.int .i64 X)).setCell ⟨G, kk * 4 + 1, none⟩ (.int .i64 r1)).setCell ⟨G, kk * 4 + 2, none⟩ (.int .i64 sv)).setCell ⟨G, kk * 4 + 3, none⟩ (.int .i64 r3)) G (G + 1) (.slice (some ⟨G, 0, none⟩) l.length l.length) (PS.set kk (X, r1, sv, r3))) := mm
                have B5 : But G (G + 1) wy ((((wy.setCell ⟨G, kk * 4, none⟩ (.int .i64 X)).setCell ⟨G, kk * 4 + 1, none⟩ (.int .i64 r1)).setCell ⟨G, kk * 4 + 2, none⟩ (.int .i64 sv)).setCell ⟨G, kk * 4 + 3, none⟩ (.int .i64 r3)) := ((((But.refl _ _ _).setCell (by simp) (by simp) _).setCell (by simp) (by simp) _).setCell (by simp) (by simp) _).setCell (by simp) (by simp) _
                have HFB : Hid (NumO ((((wy.setCell ⟨G, kk * 4, none⟩ (.int .i64 X)).setCell ⟨G, kk * 4 + 1, none⟩ (.int .i64 r1)).setCell ⟨G, kk * 4 + 2, none⟩ (.int .i64 sv)).setCell ⟨G, kk * 4 + 3, none⟩ (.int .i64 r3)) (BB + 1) wz.heap.size (.slice (some ⟨bk, ok, none⟩) K6.length c6) K6 ∧ NumO ((((wy.setCell ⟨G, kk * 4, none⟩ (.int .i64 X)).setCell ⟨G, kk * 4 + 1, none⟩ (.int .i64 r1)).setCell ⟨G, kk * 4 + 2, none⟩ (.int .i64 sv)).setCell ⟨G, kk * 4 + 3, none⟩ (.int .i64 r3)) w6.heap.size w7.heap.size (.slice (some ⟨bs, oss, none⟩) SH.length cs) SH ∧ Kept w ((((wy.setCell ⟨G, kk * 4, none⟩ (.int .i64 X)).setCell ⟨G, kk * 4 + 1, none⟩ (.int .i64 r1)).setCell ⟨G, kk * 4 + 2, none⟩ (.int .i64 sv)).setCell ⟨G, kk * 4 + 3, none⟩ (.int .i64 r3))) := ⟨ok6.but B5 (by have := HSZ.out; omega), osh.but B5 (by have := HSZ.out; omega), But.onto hky B5 HG.out.2⟩
                have z0 : (0 : Int) ≤ (n : Int) := by omega
                have z1 : (n : Int) < (K6.length : Int) := by have := HSB.out.2.1; omega
                have z2 : (n : Int) < (SH.length : Int) := by omega
                have z3 : (n : Int) ≤ 40 := by have := HSB.out.2.2; omega
                have t0 : (0 : Int) ≤ (kk : Int) := by omega
                have t1 : (kk : Int) < (l.length : Int) := by omega
                have hbkl : bk < wy.heap.size := World.block_lt_of_cell? _ _ c0k
                have hbsl : bs < wy.heap.size := World.block_lt_of_cell? _ _ c0s
                have hXb0 := hXb.1
                have hXb1 := hXb.2
                have hsb0 := hsb.1
                have hsb1 := hsb.2
                clear opl ok6 osh hky hpv hlen hnx hsum hof hol hOFF hX hkd hPS hkb hsv hkq hcc hst mm B5 hXb hsb
                repeat (first | go_values | go_skip | go_guarded | go_step | go_upon)
                refine ⟨⟨n + 1, hltn, by go_num, ?_, ?_, HFB.out.1, HFB.out.2.1, HFB.out.2.2⟩, by simp [intOf]; omega⟩
                · rw [HNX.out.2]
                · rw [HNX.out.1]; exact HMM.out
              · have hne : n = SH.length := by omega
                subst hne
                have HOP : Hid (PlacedO wy G (G + 1) (.slice (some ⟨G, 0, none⟩) l.length l.length) (layN 1 (r0, r1, r2, r3) K6 SH (layA l wide high u) SH.length)) := opl
                have HKY : Hid (Kept w wy) := hky
                clear opl ok6 osh hky
                repeat (first | go_values | go_skip | go_guarded | go_step | go_upon)
                exact ⟨⟨u + 1, hlt, by go_num, by rw [layA, HLE.out, ← HSB.out.2.1]; exact HOP.out, HKY.out⟩, by simp [intOf]; omega⟩
          · have hl2 : x1 = 2 := by have := HLY.out; omega
            subst hl2
            repeat (first | go_values | go_skip | go_guarded | go_step | go_upon)
            have HSHC : Hid (Calls Try.prog 35 #[.int .i64 r3, .slice a7 K7.length c7, .slice a8 K8.length c8] w6 fun e w' => ∃ v, e = .returned v ∧ NumO w' w6.heap.size w'.heap.size v (shA r3 K7 K8) ∧ Kept w6 w') := sshares r3 K7 K8 _ _ w6 (H7.out.kept (HWZ.out.trans HKZ.out)).at (H8.out.kept (HWZ.out.trans HKZ.out)).at HKL.out.2.2.2.2 HRB.out.2.2.2
            obtain ⟨SH, hSH⟩ : ∃ SH, shA r3 K7 K8 = SH := ⟨_, rfl⟩
            have hshb : ∀ x ∈ SH, 0 ≤ x ∧ x ≤ 10000 := by rw [← hSH]; exact shA_bd ⟨HRB.out.2.2.2, HKL.out.2.2.2.2⟩
            have hshl : SH.length = K6.length := by rw [← hSH, shA_len HKL.out.2.2.2.2.2.1]; exact HKL.out.2.1
            have HLE : Hid (layB l (layA l wide high u) u = layN 2 (r0, r1, r2, r3) K6 SH (layA l wide high u) K6.length) := show _ = _ from by rw [HLB0.out, ← hSH]; rfl
            rw [hSH] at HSHC
            have HSB : Hid ((∀ x ∈ SH, 0 ≤ x ∧ x ≤ 10000) ∧ SH.length = K6.length ∧ SH.length ≤ 40) := ⟨hshb, hshl, by have := HKL.out.1; omega⟩
            clear hSH hshb hshl HLB0 q0 q1 q2 q3 b4 b1 gl bl
            go_at_call 35
            refine HSHC.out.mono ?_
            rintro e w7 ⟨vs, rfl, osh, k7⟩
            obtain ⟨asH, cs, hf, _⟩ := own_form osh.1
            subst hf
            dsimp only
            have HSO : Hid (NumO w7 w6.heap.size w7.heap.size (.slice asH SH.length cs) SH) := osh
            have HK7 : Hid (Kept wz w7) := HKQ2.out.trans k7
            have HSZ : Hid (G + 1 ≤ BB ∧ BB + 1 ≤ wz.heap.size ∧ wz.heap.size ≤ w6.heap.size ∧ w6.heap.size ≤ w7.heap.size ∧ w.heap.size ≤ G) := ⟨HG2.out.2.1, HG2.out.2.2, HKQ2.out.size, k7.size, HG.out.2⟩
            have HSL : Hid (SH.length ≤ 40) := HSB.out.2.2
            have HKW7 : Hid (Kept w w7) := HKW.out.trans HK7.out
            clear osh k7 HSHC
            repeat (first | go_values | go_skip | go_guarded | go_step | go_upon)
            go_loopw [17, 151] (fun xv i wy => ∃ n : Nat, n ≤ SH.length ∧ i = .int .i64 (n : Int) ∧ xv = .int .i64 (r1 + (SH.take n).sum) ∧ PlacedO wy G (G + 1) (.slice (some ⟨G, 0, none⟩) l.length l.length) (layN 2 (r0, r1, r2, r3) K6 SH (layA l wide high u) n) ∧ NumO wy (BB + 1) wz.heap.size (.slice a6 K6.length c6) K6 ∧ NumO wy w6.heap.size w7.heap.size (.slice asH SH.length cs) SH ∧ Kept w wy) (fun xv i _ => SH.length - (intOf i).toNat)
            case atStart => exact ⟨0, by omega, rfl, by simp, HOZ.out.kept HK7.out, H6.out.kept HK7.out, HSO.out, HKW7.out⟩
            case round =>
              rename World => wy
              obtain ⟨n, hn9, rfl, rfl, opl, ok6, osh, hky⟩ := hrel
              by_cases hltn : n < SH.length
              · obtain ⟨sv, hsv⟩ : ∃ s, SH[n]? = some s := ⟨_, List.getElem?_eq_getElem hltn⟩
                obtain ⟨kq, hkq⟩ : ∃ k, K6[n]? = some k := ⟨_, List.getElem?_eq_getElem (by have := HSB.out.2.1; omega)⟩
                have hkb := HKL.out.2.2.2.1 kq (List.mem_of_getElem? hkq)
                obtain ⟨kk, rfl⟩ : ∃ kk : Nat, kq = (kk : Int) := ⟨kq.toNat, by omega⟩
                have hsb := HSB.out.1 sv (List.mem_of_getElem? hsv)
                have hof := sumT_bd (SH.take n) (fun x hx => HSB.out.1 x (List.mem_of_mem_take hx))
                have hol : ((SH.take n).length : Int) ≤ 40 := by rw [List.length_take]; have := HSB.out.2.2; omega
                have hlen := layN_len 2 (r0, r1, r2, r3) K6 SH (layA l wide high u) n
                rw [layA_len] at hlen
                obtain ⟨⟨v0, v1, v2, v3⟩, hpv⟩ : ∃ p, (layN 2 (r0, r1, r2, r3) K6 SH (layA l wide high u) n)[kk]? = some p := ⟨_, List.getElem?_eq_getElem (by omega)⟩
                have hnx := layN_next (lay := 2) (r := (r0, r1, r2, r3)) (ps := layA l wide high u) hkq hsv
                rw [show ((kk : Int)).toNat = kk by omega] at hnx
                have hsum : (SH.take (n + 1)).sum = (SH.take n).sum + sv := by rw [take_snoc hsv, List.sum_append]; simp
                obtain ⟨bs, oss, caps, ee, c0s⟩ := num_get osh.at hsv
                cases ee
                obtain ⟨bk, ok, capk, ee, c0k⟩ := num_get ok6.at hkq
                cases ee
                obtain ⟨OFF, hOFF⟩ : ∃ o, (SH.take n).sum = o := ⟨_, rfl⟩
                rw [hOFF] at hof hsum hnx ⊢
                obtain ⟨X, hX⟩ : ∃ x, r1 + OFF = x := ⟨_, rfl⟩
                have hkd : kidP 2 (r0, r1, r2, r3) OFF sv = (r0, X, r2, sv) := by rw [← hX]; rfl
                rw [hX]
                rw [hkd] at hnx
                have hXb : 0 ≤ X ∧ X ≤ 100000000 := by have := HRB.out; have := HB1.out; omega
                have HNX : Hid (layN 2 (r0, r1, r2, r3) K6 SH (layA l wide high u) (n + 1) = (layN 2 (r0, r1, r2, r3) K6 SH (layA l wide high u) n).set kk (r0, X, r2, sv) ∧ r1 + (SH.take (n + 1)).sum = X + sv) := ⟨hnx, by rw [hsum]; omega⟩
                obtain ⟨PS, hPS⟩ : ∃ q, layN 2 (r0, r1, r2, r3) K6 SH (layA l wide high u) n = q := ⟨_, rfl⟩
                rw [hPS] at opl hlen hpv HNX
                have hcc := PlacedO.cells (g := G) (cap := l.length) (n := l.length) (i := kk) (p := (v0, v1, v2, v3)) opl hpv
                have hst := PlacedO.store (g := G) (cap := l.length) (n := l.length) (i := kk) (p := (v0, v1, v2, v3)) opl hlen.symm hpv (r0, X, r2, sv)
                have e0 := hcc.1
                have e1 := hcc.2.1
                have e2 := hcc.2.2.1
                have e3 := hcc.2.2.2.1
                have dz0 := hcc.2.2.2.2 (kk * 4)
                have dz1 := hcc.2.2.2.2 (kk * 4 + 1)
                have dz2 := hcc.2.2.2.2 (kk * 4 + 2)
                have dz3 := hcc.2.2.2.2 (kk * 4 + 3)
                have m1 := hst.1
                have m2 := hst.2.1
                have m3 := hst.2.2.1
                have mm := hst.2.2.2
                dsimp only at e0 e1 e2 e3 m1 m2 m3 mm
                have HMM : Hid (PlacedO ((((wy.setCell ⟨G, kk * 4, none⟩ (.int .i64 r0)).setCell ⟨G, kk * 4 + 1, none⟩ (.int .i64 X)).setCell ⟨G, kk * 4 + 2, none⟩ (.int .i64 r2)).setCell ⟨G, kk * 4 + 3, none⟩ (.int .i64 sv)) G (G + 1) (.slice (some ⟨G, 0, none⟩) l.length l.length) (PS.set kk (r0, X, r2, sv))) := mm
                have B5 : But G (G + 1) wy ((((wy.setCell ⟨G, kk * 4, none⟩ (.int .i64 r0)).setCell ⟨G, kk * 4 + 1, none⟩ (.int .i64 X)).setCell ⟨G, kk * 4 + 2, none⟩ (.int .i64 r2)).setCell ⟨G, kk * 4 + 3, none⟩ (.int .i64 sv)) := ((((But.refl _ _ _).setCell (by simp) (by simp) _).setCell (by simp) (by simp) _).setCell (by simp) (by simp) _).setCell (by simp) (by simp) _
                have HFB : Hid (NumO ((((wy.setCell ⟨G, kk * 4, none⟩ (.int .i64 r0)).setCell ⟨G, kk * 4 + 1, none⟩ (.int .i64 X)).setCell ⟨G, kk * 4 + 2, none⟩ (.int .i64 r2)).setCell ⟨G, kk * 4 + 3, none⟩ (.int .i64 sv)) (BB + 1) wz.heap.size (.slice (some ⟨bk, ok, none⟩) K6.length c6) K6 ∧ NumO ((((wy.setCell ⟨G, kk * 4, none⟩ (.int .i64 r0)).setCell ⟨G, kk * 4 + 1, none⟩ (.int .i64 X)).setCell ⟨G, kk * 4 + 2, none⟩ (.int .i64 r2)).setCell ⟨G, kk * 4 + 3, none⟩ (.int .i64 sv)) w6.heap.size w7.heap.size (.slice (some ⟨bs, oss, none⟩) SH.length cs) SH ∧ Kept w ((((wy.setCell ⟨G, kk * 4, none⟩ (.int .i64 r0)).setCell ⟨G, kk * 4 + 1, none⟩ (.int .i64 X)).setCell ⟨G, kk * 4 + 2, none⟩ (.int .i64 r2)).setCell ⟨G, kk * 4 + 3, none⟩ (.int .i64 sv))) := ⟨ok6.but B5 (by have := HSZ.out; omega), osh.but B5 (by have := HSZ.out; omega), But.onto hky B5 HG.out.2⟩
                have z0 : (0 : Int) ≤ (n : Int) := by omega
                have z1 : (n : Int) < (K6.length : Int) := by have := HSB.out.2.1; omega
                have z2 : (n : Int) < (SH.length : Int) := by omega
                have z3 : (n : Int) ≤ 40 := by have := HSB.out.2.2; omega
                have t0 : (0 : Int) ≤ (kk : Int) := by omega
                have t1 : (kk : Int) < (l.length : Int) := by omega
                have hbkl : bk < wy.heap.size := World.block_lt_of_cell? _ _ c0k
                have hbsl : bs < wy.heap.size := World.block_lt_of_cell? _ _ c0s
                have hXb0 := hXb.1
                have hXb1 := hXb.2
                have hsb0 := hsb.1
                have hsb1 := hsb.2
                clear opl ok6 osh hky hpv hlen hnx hsum hof hol hOFF hX hkd hPS hkb hsv hkq hcc hst mm B5 hXb hsb
                repeat (first | go_values | go_skip | go_guarded | go_step | go_upon)
                refine ⟨⟨n + 1, hltn, by go_num, ?_, ?_, HFB.out.1, HFB.out.2.1, HFB.out.2.2⟩, by simp [intOf]; omega⟩
                · rw [HNX.out.2]
                · rw [HNX.out.1]; exact HMM.out
              · have hne : n = SH.length := by omega
                subst hne
                have HOP : Hid (PlacedO wy G (G + 1) (.slice (some ⟨G, 0, none⟩) l.length l.length) (layN 2 (r0, r1, r2, r3) K6 SH (layA l wide high u) SH.length)) := opl
                have HKY : Hid (Kept w wy) := hky
                clear opl ok6 osh hky
                repeat (first | go_values | go_skip | go_guarded | go_step | go_upon)
                exact ⟨⟨u + 1, hlt, by go_num, by rw [layA, HLE.out, ← HSB.out.2.1]; exact HOP.out, HKY.out⟩, by simp [intOf]; omega⟩
    · have hue : u = l.length := by omega
      subst hue
      have HO : Hid (PlacedO wr G (G + 1) (.slice (some ⟨G, 0, none⟩) l.length l.length) (layA l wide high l.length)) := ho
      have HK : Hid (Kept w wr) := hkp
      clear ho hkp
      repeat (first | go_values | go_skip | go_guarded | go_step | go_upon)
      go_returns
      exact ⟨_, rfl, (HO.out.mono HG.out.2 (Nat.le_refl _)).low, HK.out⟩

end Go.Proofs.Ytaofilinejanjaa
