/-
  The quads of a layer, in the program.
-/
import Derived.Test.YtnfkgnbhdhpnmaaIFrom13
import Derived.Test.YtnfkgnbhdhpnmaaSQuads13
namespace Go.Proofs.Ytnfkgnbhdhpnmaa
open Go.ChangeShapes Go.WideShapes Go.ChangeAt Go.RowKit

set_option maxRecDepth 100000
set_option linter.unusedVariables false
theorem runW_ge {G : Grid} {u v : Nat} {k : Int} : ∀ (f w0 : Nat), w0 ≤ runW G u v k f w0
  | 0, w0 => by unfold runW; exact Nat.le_refl _
  | f + 1, w0 => by
    unfold runW
    split
    · exact Nat.le_trans (Nat.le_succ _) (runW_ge f (w0 + 1))
    · exact Nat.le_refl _
theorem runW_le {G : Grid} {us vs u v : Nat} {k : Int} (hb : Bd us vs G) (hk : k ≠ 0) : ∀ (f w0 : Nat), u + w0 ≤ us → u + runW G u v k f w0 ≤ us
  | 0, w0, h => by unfold runW; exact h
  | f + 1, w0, h => by
    unfold runW
    split
    · rename_i e
      refine runW_le hb hk f (w0 + 1) ?_
      rcases Nat.lt_or_ge (u + w0) us with h2 | h2
      · omega
      · exact absurd (e.symm.trans (hb _ _ (.inl h2))) hk
    · exact h
theorem runH_le {G : Grid} {us vs u v w : Nat} {k : Int} (hb : Bd us vs G) (hk : k ≠ 0) (hw : 1 ≤ w) : ∀ (f h0 : Nat), v + h0 ≤ vs → v + runH G u v k w f h0 ≤ vs
  | 0, h0, h => by unfold runH; exact h
  | f + 1, h0, h => by
    unfold runH
    split
    · rename_i e
      refine runH_le hb hk hw f (h0 + 1) ?_
      rcases Nat.lt_or_ge (v + h0) vs with h2 | h2
      · omega
      · exact absurd ((rowB_iff.1 e 0 (by omega)).symm.trans (hb _ _ (.inr h2))) hk
    · exact h
theorem quad_in {G : Grid} {us vs u v : Nat} (hb : Bd us vs G) (hk : G u v ≠ 0) (hu : u < us) (hv : v < vs) : u + wOf G u v ≤ us ∧ v + hOf G u v ≤ vs :=
  ⟨runW_le hb hk 8 1 (by omega), runH_le hb hk (runW_ge 8 1) 8 1 (by omega)⟩
set_option maxHeartbeats 16000000 in
theorem ilayL (A B D way at_ T : Nat) (l : List Int) (ao : Option Addr) (cap : Nat) (wz w : World) (hg : BlocksP (A : Int) (B : Int) (D : Int) l) (hw : way < 6) (ha : at_ < sideN A B D way) (hva : NumAt wz (.slice ao l.length cap) l) (hkz : Kept wz w) (hTz : wz.heap.size ≤ T) (htk : Loc w T (tkL (fun _ => false))) (hl : l.length ≤ 1048576) :
    Calls Try.prog 41 #[.agg #[.int .i64 (A : Int), .int .i64 (B : Int), .int .i64 (D : Int), .slice ao l.length cap, .int .i64 (way : Int), .int .i64 (at_ : Int), .slice (some ⟨T, 0, none⟩) 64 64]] w fun e w' => ∃ r, e = .returned r ∧ QuadO w' w.heap.size w'.heap.size r (layQ way at_ (usN A B way) (face A B D l way at_) (usN A B way * vsN B D way)).2 ∧ (∃ tk, Loc w' T (tkL tk)) ∧ But T (T + 1) w w' := by
  have hdl := dims_le (A := A) (B := B) (D := D) (by have := hg.1; omega) (by have := hg.2.1; omega) (by have := hg.2.2.1; omega) way
  have hTw := htk.lt
  have hatb : at_ ≤ 8 := by omega
  have HAX0 : Hid (∀ x : World, Calls Try.prog 61 #[.agg #[.int .i64 (A : Int), .int .i64 (B : Int), .int .i64 (D : Int), .slice ao l.length cap, .int .i64 (way : Int), .int .i64 (at_ : Int), .slice (some ⟨T, 0, none⟩) 64 64]] x fun e w' => e = .returned (.tuple #[.agg #[.int .i64 (sideN A B D way : Int), .int .i64 (apA A B way : Int)], .agg #[.int .i64 (usN A B way : Int), .int .i64 (apU A way : Int)], .agg #[.int .i64 (vsN B D way : Int), .int .i64 (apV A B way : Int)]]) ∧ Kept x w') := fun x => iaxesL A B D way at_ T (way / 2) l ao cap x hg.edge hw rfl
  have HKA0 : Hid (∀ (x : World) (tk : Nat → Bool) (a b : Nat), a ≤ 8 → b ≤ 8 → Kept wz x → Loc x T (tkL tk) → Calls Try.prog 62 #[.agg #[.int .i64 (A : Int), .int .i64 (B : Int), .int .i64 (D : Int), .slice ao l.length cap, .int .i64 (way : Int), .int .i64 (at_ : Int), .slice (some ⟨T, 0, none⟩) 64 64], .int .i64 (a : Int), .int .i64 (b : Int)] x fun e w' => e = .returned (.int .i64 (maskG (face A B D l way at_) tk a b)) ∧ Kept x w') := fun x tk a b h1 h2 hx ht => ikindL A B D way at_ T a b tk l ao cap x hg hw ha h1 h2 (hva.kept hx) (tkL_TK ht) hl
  have HFA0 : Hid (∀ (x : World) (tk : Nat → Bool) (a b : Nat), a < usN A B way → b < vsN B D way → maskG (face A B D l way at_) tk a b ≠ 0 → Kept wz x → Loc x T (tkL tk) → Calls Try.prog 63 #[.agg #[.int .i64 (A : Int), .int .i64 (B : Int), .int .i64 (D : Int), .slice ao l.length cap, .int .i64 (way : Int), .int .i64 (at_ : Int), .slice (some ⟨T, 0, none⟩) 64 64], .int .i64 (a : Int), .int .i64 (b : Int)] x fun e w' => e = .returned (.agg (quadC (quadAt way at_ (maskG (face A B D l way at_) tk) a b)).toArray) ∧ Kept x w') := fun x tk a b h1 h2 h3 hx ht => ifromL A B D way at_ T a b tk l ao cap x hg hw ha h1 h2 h3 (hva.kept hx) (tkL_TK ht) hl
  have hbd : Bd (usN A B way) (vsN B D way) (face A B D l way at_) := fun x y h => face_bd A B D l way at_ x y h
  obtain ⟨us, hus⟩ : ∃ us, us = usN A B way := ⟨_, rfl⟩
  obtain ⟨vs, hvs⟩ : ∃ vs, vs = vsN B D way := ⟨_, rfl⟩
  obtain ⟨sd, hsd⟩ : ∃ sd, sd = sideN A B D way := ⟨_, rfl⟩
  obtain ⟨f, hf⟩ : ∃ f, f = face A B D l way at_ := ⟨_, rfl⟩
  obtain ⟨pa, hpa⟩ : ∃ p, p = apA A B way := ⟨_, rfl⟩
  obtain ⟨pu, hpu⟩ : ∃ p, p = apU A way := ⟨_, rfl⟩
  obtain ⟨pv, hpv⟩ : ∃ p, p = apV A B way := ⟨_, rfl⟩
  rw [← hus, ← hvs, ← hsd, ← hpa, ← hpu, ← hpv] at HAX0
  rw [← hf] at HKA0
  rw [← hus, ← hvs, ← hf] at HFA0
  rw [← hus, ← hvs, ← hf] at hbd
  rw [← hus, ← hvs, ← hf]
  have hus8 : us ≤ 8 := by omega
  have hvs8 : vs ≤ 8 := by omega
  have HBD : Hid (Bd us vs f) := hbd
  clear hus hvs hsd hf hpa hpu hpv hbd hva hg ha hdl hl
  go_enter Try.func41, Try.ntmps41
  repeat (first | (go_at_call 61; refine (HAX0.out _).mono ?_; rintro e u1 ⟨rfl, k1⟩; have K1 : Kept w u1 := ((But.refl _ _ _).alloc _).trans k1; have L1 := (Loc.new w [.int .i64 (A : Int), .int .i64 (B : Int), .int .i64 (D : Int), .slice ao l.length cap, .int .i64 (way : Int), .int .i64 (at_ : Int), .slice (some ⟨T, 0, none⟩) 64 64] 63).kept k1; (try dsimp only)) | go_values | go_skip | go_guarded | go_step | go_upon)
  obtain ⟨W1, hW1⟩ : ∃ X, X = ((u1.alloc (.cells #[.int .i64 (sd : Int), .int .i64 (pa : Int)] 57)).alloc (.cells #[.int .i64 (us : Int), .int .i64 (pu : Int)] 57)).alloc (.cells #[.int .i64 (vs : Int), .int .i64 (pv : Int)] 57) := ⟨_, rfl⟩
  have kW0 : Kept u1 W1 := by rw [hW1]; exact (((But.refl _ _ _).alloc _).alloc _).alloc _
  have kW : Kept w W1 := K1.trans kW0
  have HLL : Hid (Loc W1 w.heap.size [.int .i64 (A : Int), .int .i64 (B : Int), .int .i64 (D : Int), .slice ao l.length cap, .int .i64 (way : Int), .int .i64 (at_ : Int), .slice (some ⟨T, 0, none⟩) 64 64]) := L1.kept kW0
  have HLA : Hid (Loc W1 (u1.heap.size + 1) [.int .i64 (us : Int), .int .i64 (pu : Int)]) := by
    show Loc _ _ _
    rw [hW1]
    have h := (Loc.new (u1.alloc (.cells #[.int .i64 (sd : Int), .int .i64 (pa : Int)] 57)) [.int .i64 (us : Int), .int .i64 (pu : Int)] 57).alloc (.cells #[.int .i64 (vs : Int), .int .i64 (pv : Int)] 57)
    simpa only [World.size_alloc] using h
  have HT1 : Hid (Loc W1 T (tkL fun _ => false)) := htk.kept kW
  have hTu : T < u1.heap.size := by have := K1.size; omega
  have hTW : T < W1.heap.size := by have := kW.size; omega
  have HKZ : Hid (Kept wz W1) := hkz.trans kW
  have HKW : Hid (Kept w W1) := kW
  rw [← hW1]
  clear hW1 kW0 kW K1 L1 k1 htk hkz HAX0
  obtain ⟨i0, hi0, hz0, hz1, hz2⟩ := info_parts info_quad
  go_loopw [3, 18] (fun x i wr => ∃ (v m : Nat) (ao' : Option Addr) (c' : Nat) (tk : Nat → Bool), v ≤ vs ∧ i = .int .i64 v ∧ Hid (m = (layQ way at_ us f (v * us)).2.length) ∧ x = .slice ao' m c' ∧ Hid (wr.ownsRow W1.heap.size 33 7 (.slice ao' m c') m ((layQ way at_ us f (v * us)).2.flatMap quadC)) ∧ Hid (Loc wr T (tkL tk) ∧ maskG f tk = (layQ way at_ us f (v * us)).1) ∧ Hid (But T (T + 1) W1 wr)) (fun _ i _ => vs - (intOf i).toNat)
  case atStart => exact ⟨0, 0, none, 0, fun _ => false, by omega, rfl, by show 0 = _; simp [layQ], rfl, by show World.ownsRow _ _ _ _ _ _ _; rw [Nat.zero_mul]; exact World.ownsRow_nil _ _ _ _, ⟨HT1.out, by rw [Nat.zero_mul]; funext x y; simp [maskG, layQ]⟩, But.refl _ _ _⟩
  case round =>
    rename World => wa
    obtain ⟨v, m, ao', c', tk, hv, rfl, HM, rfl, HO, HT, HK⟩ := hrel
    have hvu : v * us ≤ 64 := Nat.mul_le_mul (show v ≤ 8 by omega) hus8
    by_cases hlv : v < vs
    · have dv : decide ((v : Int) < (vs : Int)) = true := by simp; omega
      have a0 := (HLA.out.but HK.out (.inr (by omega))).cell 0 rfl
      repeat (first | go_values | go_skip | go_guarded | go_step | go_upon)
      clear a0 dv
      go_loopw [3, 23] (fun x i wr => ∃ (u m : Nat) (ao' : Option Addr) (c' : Nat) (tk : Nat → Bool), u ≤ us ∧ i = .int .i64 u ∧ Hid (m = (layQ way at_ us f (v * us + u)).2.length) ∧ x = .slice ao' m c' ∧ Hid (wr.ownsRow W1.heap.size 33 7 (.slice ao' m c') m ((layQ way at_ us f (v * us + u)).2.flatMap quadC)) ∧ Hid (Loc wr T (tkL tk) ∧ maskG f tk = (layQ way at_ us f (v * us + u)).1) ∧ Hid (But T (T + 1) W1 wr)) (fun _ i _ => us - (intOf i).toNat)
      case atStart => exact ⟨0, m, ao', c', tk, by omega, rfl, HM, rfl, HO, HT, HK⟩
      case round =>
        clear HM HO HT HK
        rename World => wb
        obtain ⟨u, m, ao', c', tk, hu, rfl, HM, rfl, HO, HT, HK⟩ := hrel
        have hml : m ≤ 72 := by have h1 := HM.out; have h2 := layQ_len (way := way) (at_ := at_) (us := us) (G0 := f) (v * us + u); omega
        have HZB : Hid (Kept wz wb) := HKZ.out.onto HK.out hTz
        by_cases hlu : u < us
        · have du : decide ((u : Int) < (us : Int)) = true := by simp; omega
          have hm1 : (v * us + u) % us = u := by rw [Nat.add_comm, Nat.add_mul_mod_self_right, Nat.mod_eq_of_lt hlu]
          have hm2 : (v * us + u) / us = v := by rw [Nat.add_comm, Nat.add_mul_div_right _ _ (by omega), Nat.div_eq_of_lt hlu, Nat.zero_add]
          have LLB := HLL.out.but HK.out (.inr (by omega))
          have v0 := LLB.cell 0 rfl
          have v1 := LLB.cell 1 rfl
          have v2 := LLB.cell 2 rfl
          have v3 := LLB.cell 3 rfl
          have v4 := LLB.cell 4 rfl
          have v5 := LLB.cell 5 rfl
          have v6 := LLB.cell 6 rfl
          obtain ⟨G, hG⟩ : ∃ G, G = maskG f tk := ⟨_, rfl⟩
          have HKB : Hid (Calls Try.prog 62 #[.agg #[.int .i64 (A : Int), .int .i64 (B : Int), .int .i64 (D : Int), .slice ao l.length cap, .int .i64 (way : Int), .int .i64 (at_ : Int), .slice (some ⟨T, 0, none⟩) 64 64], .int .i64 (u : Int), .int .i64 (v : Int)] wb fun e w' => e = .returned (.int .i64 (G u v)) ∧ Kept wb w') := by
            rw [hG]
            exact HKA0.out wb tk u v (by omega) (by omega) HZB.out HT.out.1
          have HGE : Hid (G = (layQ way at_ us f (v * us + u)).1) := hG.trans HT.out.2
          have HGB : Hid (Bd us vs G) := by show Bd _ _ _; rw [HGE.out]; exact layQ_bd HBD.out _
          by_cases hz : G u v = 0
          · have HNO : Hid (layQ way at_ us f (v * us + u + 1) = layQ way at_ us f (v * us + u)) := layQ_no (by rw [← HGE.out, hm1, hm2]; exact hz)
            rw [hz] at HKB
            clear hG hm1 hm2
            repeat (first | (go_at_call 62; refine HKB.out.mono ?_; rintro e y1 ⟨rfl, k1⟩; (try dsimp only)) | go_values | go_skip | go_guarded | go_step | go_upon)
            exact ⟨⟨u + 1, m, ao', c', tk, hlu, by go_num, by show m = _; rw [← Nat.add_assoc, HNO.out]; exact HM.out, rfl, by show World.ownsRow _ _ _ _ _ _ _; rw [← Nat.add_assoc, HNO.out]; exact own_kept HO.out k1, ⟨HT.out.1.kept k1, by rw [← Nat.add_assoc, HNO.out]; exact HT.out.2⟩, HK.out.transK k1⟩, by simp [intOf]; omega⟩
          · have dz : (G u v != 0) = true := by simpa using hz
            obtain ⟨hin1, hin2⟩ := quad_in HGB.out hz hlu hlv
            have HFA : Hid (∀ x : World, Kept wb x → Calls Try.prog 63 #[.agg #[.int .i64 (A : Int), .int .i64 (B : Int), .int .i64 (D : Int), .slice ao l.length cap, .int .i64 (way : Int), .int .i64 (at_ : Int), .slice (some ⟨T, 0, none⟩) 64 64], .int .i64 (u : Int), .int .i64 (v : Int)] x fun e w' => e = .returned (.agg (quadC (quadAt way at_ G u v)).toArray) ∧ Kept x w') := fun x hx => by
              rw [hG]
              exact HFA0.out x tk u v hlu hlv (by rw [← hG]; exact hz) (HZB.out.trans hx) (HT.out.1.kept hx)
            have HTA : Hid (∀ x : World, Kept wb x → Calls Try.prog 64 #[.agg #[.int .i64 (A : Int), .int .i64 (B : Int), .int .i64 (D : Int), .slice ao l.length cap, .int .i64 (way : Int), .int .i64 (at_ : Int), .slice (some ⟨T, 0, none⟩) 64 64], .agg (quadC (quadAt way at_ G u v)).toArray] x fun e w' => e = .returned (.tuple #[]) ∧ Loc w' T (tkL (tkR tk u v (wOf G u v) (hOf G u v) 0)) ∧ But T (T + 1) x w') := fun x hx => itakeL A B D way at_ T u v (wOf G u v) (hOf G u v) (way : Int) (at_ : Int) (G u v) tk l ao cap x (by omega) (by omega) (HT.out.1.kept hx)
            have HMK : Hid (maskG f (tkR tk u v (wOf G u v) (hOf G u v) 0) = cutG G u v (wOf G u v) (hOf G u v)) := by
              have h := maskG_cut (tk := tk) (u := u) (v := v) (W := wOf G u v) (H := hOf G u v) HBD.out hus8
              rw [← hG] at h
              exact h
            obtain ⟨qd, hqd⟩ : ∃ q, q = quadAt way at_ G u v := ⟨_, rfl⟩
            have hys := layQ_yes (way := way) (at_ := at_) (us := us) (G0 := f) (k := v * us + u) (by rw [← HGE.out, hm1, hm2]; exact hz)
            rw [← HGE.out, hm1, hm2, ← hqd] at hys
            rw [← hqd] at HFA HTA
            obtain ⟨g1, g2, g3, g4, g5, g6, g7⟩ := qd
            have HYS : Hid _ := hys
            clear hys hqd hG hm1 hm2 hin1 hin2 hz
            repeat (first
              | (go_at_call 62; refine HKB.out.mono ?_; rintro e y1 ⟨rfl, k1⟩; clear v0 v1 v2 v3 v4 v5 v6; have v0 := (LLB.kept k1).cell 0 rfl; have v1 := (LLB.kept k1).cell 1 rfl; have v2 := (LLB.kept k1).cell 2 rfl; have v3 := (LLB.kept k1).cell 3 rfl; have v4 := (LLB.kept k1).cell 4 rfl; have v5 := (LLB.kept k1).cell 5 rfl; have v6 := (LLB.kept k1).cell 6 rfl; (try dsimp only))
              | (go_at_call 63; refine (HFA.out _ k1).mono ?_; rintro e y2 ⟨rfl, k2⟩; have K2 : Kept wb y2 := k1.trans k2; clear v0 v1 v2 v3 v4 v5 v6; have v0 := (LLB.kept K2).cell 0 rfl; have v1 := (LLB.kept K2).cell 1 rfl; have v2 := (LLB.kept K2).cell 2 rfl; have v3 := (LLB.kept K2).cell 3 rfl; have v4 := (LLB.kept K2).cell 4 rfl; have v5 := (LLB.kept K2).cell 5 rfl; have v6 := (LLB.kept K2).cell 6 rfl; have vl := (LLB.kept K2).lt; have hTy : T < y2.heap.size := (by have h1 := K2.size; have h2 := HK.out.size; omega); (try dsimp only [quadC]))
              | (go_at_call 64; refine (HTA.out _ (K2.alloc _)).mono ?_; rintro e y3 ⟨rfl, lt3, bt3⟩; have LQ3 := (Loc.new y2 [.int .i64 g1, .int .i64 g2, .int .i64 g3, .int .i64 g4, .int .i64 g5, .int .i64 g6, .int .i64 g7] 33).but bt3 (.inr (by omega)); have q0 := LQ3.cell 0 rfl; have q1 := LQ3.cell 1 rfl; have q2 := LQ3.cell 2 rfl; have q3 := LQ3.cell 3 rfl; have q4 := LQ3.cell 4 rfl; have q5 := LQ3.cell 5 rfl; have q6 := LQ3.cell 6 rfl; have HO1 : Hid (y3.ownsRow W1.heap.size 33 7 (.slice ao' m c') m ((layQ way at_ us f (v * us + u)).2.flatMap quadC)) := own_but (own_kept HO.out (K2.alloc _)) bt3 (fun g hg => (by have := own_lt HO.out hg; omega)); have HK3 : Hid (But T (T + 1) W1 y3) := (HK.out.transK (K2.alloc _)).trans bt3; have HL3 : Hid (Loc y3 T (tkL (tkR tk u v (wOf G u v) (hOf G u v) 0))) := lt3; have hsz3 : W1.heap.size ≤ y3.heap.size := HK3.out.size; clear lt3 bt3 v0 v1 v2 v3 v4 v5 v6; (try dsimp only))
              | (at_builtin
                 refine wpList_append_own _ rfl _ _ 27 rfl W1.heap.size 33 i0 (.agg #[.int .i64 0, .int .i64 0, .int .i64 0, .int .i64 0, .int .i64 0, .int .i64 0, .int .i64 0]) 7 56 Try.underlying27 hi0 hz0 hz1 hz2 rfl (by decide) _ _ _ rfl (own_kept HO1.out ((But.refl _ _ y3).alloc _)) ⟨y3.heap.size, 0, none⟩ 1 1 [.int .i64 g1, .int .i64 g2, .int .i64 g3, .int .i64 g4, .int .i64 g5, .int .i64 g6, .int .i64 g7] rfl rfl (news1 (Loc.new y3 [.int .i64 g1, .int .i64 g2, .int .i64 g3, .int .i64 g4, .int .i64 g5, .int .i64 g6, .int .i64 g7] 33)) (by simp [Value.oneCell']) (by unfold maxLen; omega) (by omega) (by simp; omega) ?_
                 intro v' w2 hown' hgrow _
                 obtain ⟨ao5, cap5, hf5, _⟩ := own_form hown'
                 subst hf5
                 have HK5 : Hid (But T (T + 1) W1 w2) := (HK3.out.alloc _).grown hgrow (by intro x hx; have := own_lt HO1.out hx; omega)
                 have HL5 : Hid (Loc w2 T (tkL (tkR tk u v (wOf G u v) (hOf G u v) 0))) := (HL3.out.alloc _).grown hgrow (by intro hx; have := own_lt HO1.out hx; omega)
                 have HW : Hid (w2.ownsRow W1.heap.size 33 7 (.slice ao5 (m + 1) cap5) (m + 1) ((layQ way at_ us f (v * us + u)).2.flatMap quadC ++ quadC (g1, g2, g3, g4, g5, g6, g7))) := hown'
                 clear hgrow hown')
              | go_values | go_skip | go_guarded | go_step | go_upon)
            refine ⟨⟨u + 1, m + 1, ao5, cap5, _, hlu, by go_num, ?_, rfl, ?_, ⟨HL5.out, ?_⟩, HK5⟩, by simp [intOf]; omega⟩
            · show m + 1 = _
              rw [← Nat.add_assoc, HYS.out, HM.out]
              simp
            · show World.ownsRow _ _ _ _ _ _ _
              rw [← Nat.add_assoc, HYS.out, List.flatMap_append]
              simpa using HW.out
            · rw [← Nat.add_assoc, HYS.out]
              exact HMK.out
        · have hue : u = us := by omega
          subst hue
          have du : decide ((u : Int) < (u : Int)) = false := by simp
          repeat (first | go_values | go_skip | go_guarded | go_step | go_upon)
          refine ⟨⟨v + 1, m, ao', c', tk, hlv, by go_num, ?_, rfl, ?_, ⟨HT.out.1, ?_⟩, HK⟩, by simp [intOf]; omega⟩
          · show m = _
            rw [Nat.add_mul, Nat.one_mul]; exact HM.out
          · show World.ownsRow _ _ _ _ _ _ _
            rw [Nat.add_mul, Nat.one_mul]; exact HO.out
          · rw [Nat.add_mul, Nat.one_mul]; exact HT.out.2
    · have hve : v = vs := by omega
      subst hve
      have dv : decide ((v : Int) < (v : Int)) = false := by simp
      repeat (first | go_values | go_skip | go_guarded | go_step | go_upon)
      go_ret
      have hz := HKW.out.size
      have hm := HM.out
      refine ⟨_, rfl, ?_, ⟨tk, HT.out.1⟩, (But.of HKW.out).trans HK.out⟩
      rw [Nat.mul_comm]
      exact QuadO.mono (lo := W1.heap.size) (hi := wa.heap.size) (show QuadO wa W1.heap.size wa.heap.size (.slice ao' m c') (layQ way at_ us f (v * us)).2 by unfold QuadO; rw [← hm]; exact RowO.top HO.out) hz (Nat.le_refl _)

end Go.Proofs.Ytnfkgnbhdhpnmaa
