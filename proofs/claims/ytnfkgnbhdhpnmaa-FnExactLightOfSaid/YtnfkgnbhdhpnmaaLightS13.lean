/-
  Light, in the specification.
-/
import Derived.Test.YtnfkgnbhdhpnmaaLamps13
import Derived.Deep.LoopGhost
import Derived.BigRegion
namespace Go.Proofs.Ytnfkgnbhdhpnmaa
open Go.ChangeShapes Go.WideShapes Go.ChangeAt Go.RowKit

set_option maxRecDepth 100000
set_option linter.unusedVariables false
theorem walk_zero {F : Nat → Prop} {E : Nat → Nat → Prop} {c : Nat} : Walk F E 0 c ↔ F c := ⟨fun h => by cases h; assumption, .base⟩
theorem lt_zero {F : Nat → Prop} {E : Nat → Nat → Prop} {c : Nat} {v : Int} (h1 : F c → v = 15) (h2 : ¬ F c → v = 0) : v = lt F E 0 c := by
  by_cases h : F c
  · rw [h1 h]
    exact (lv_some (walk_zero.2 h) 1 0 (by omega) (by omega) (fun m hm => by omega)).symm
  · rw [h2 h]
    exact (lv_none 1 0 (fun m' _ hm hw => by obtain rfl : m' = 0 := (by omega); exact h (walk_zero.1 hw))).symm
theorem walk_in {a b d : Int} {l ls : List Int} {ent : Nat → Bool} (hg : BlocksP a b d l) (hf : ∀ c, lampF ls c → c < l.length) : ∀ m c, Walk (lampF ls) (EW (nxtM a b d) ent 6) m c → c < l.length := by
  intro m c h
  induction h with
  | base h => exact hf _ h
  | step _ he ih =>
    obtain ⟨w, hw, e1, _⟩ := he
    exact nxtM_lt hg ih hw e1
set_option maxHeartbeats 16000000 in
theorem slight (a b d : Int) (l ls : List Int) (ao po : Option Addr) (cap pcap : Nat) (w : World) (hv : NumAt w (.slice ao l.length cap) l) (hp : NumAt w (.slice po ls.length pcap) ls) (hl : l.length ≤ 1048576) (hls : ls.length ≤ 1048576) :
    Calls Try.prog 36 #[.agg #[.int .i64 a, .int .i64 b, .int .i64 d, .slice ao l.length cap], .slice po ls.length pcap] w fun e w' => ∃ v', e = .returned (.tuple #[v', .bool (lightA a b d l ls).2]) ∧ NumO w' w.heap.size w'.heap.size v' (lightA a b d l ls).1 ∧ Kept w w' := by
  by_cases hg : BlocksP a b d l
  · have dg : decide (BlocksP a b d l) = true := decide_eq_true hg
    by_cases h20 : ls.length ≤ 20
    · have d20 : decide ((20 : Int) < (ls.length : Int)) = false := by simp; omega
      have HG : Hid (BlocksP a b d l) := hg
      have hvol := hg.edge.vol
      have hl5 := hg.len
      have hl512 : l.length ≤ 512 ∧ 0 < l.length := by omega
      have hok : lampsOk (l.length : Int) ls = lampsB (l.length : Int) (-1) ls := by unfold lampsOk; rw [decide_eq_true h20]; rfl
      have HOK : Hid _ := hok
      clear hvol hl5 hok hg
      obtain ⟨i0, hi, hz0, hz1, hz2⟩ := info_parts info_num
      have hmk : ∀ W : World, (Instr.makeSlice 23 (.int .i64 (l.length : Int)) (.int .i64 (l.length : Int))).run Try.prog W = .ok (.slice (some ⟨W.heap.size, 0, none⟩) l.length l.length) (W.alloc (.cells (madeCells #[.int .i64 0] (l.length * 1)) 3)) := fun W => by
        have := run_make (P := Try.prog) W 23 3 i0 _ Try.underlying23 hi hz0 .i64 .i64 (l.length : Int) (l.length : Int) (by omega) (by omega) (by rw [hz2]; omega) (by omega)
        rw [this, hz1]
        simp [Value.cells]
      have hm := fun (W : World) => row_made W W.heap.size 3 #[.int .i64 0] 1 (by omega) numC num0 numC_len rfl l.length (Nat.le_refl _) (by unfold maxLen; omega)
      have HM : Hid (∀ W : World, NumO (W.alloc (.cells (madeCells #[.int .i64 0] (l.length * 1)) 3)) W.heap.size (W.heap.size + 1) (.slice (some ⟨W.heap.size, 0, none⟩) l.length l.length) (List.replicate l.length 0)) := fun W => by
        have h := hm W
        unfold NumO
        rw [List.length_replicate]
        exact h
      simp only [Nat.mul_one] at hmk HM
      clear hi hz0 hz1 hz2 hm i0
      go_enter Try.func36, Try.ntmps36
      repeat (first | (go_at_call 17; refine (sgood _ _ _ _ _ _ _ (hv.kept ((But.refl _ _ _).alloc _)) (by omega)).mono ?_; rintro e u1 ⟨rfl, k1⟩; rw [dg]; have K1 : Kept w u1 := ((But.refl _ _ _).alloc _).trans k1; have L1 := (Loc.new w [.int .i64 a, .int .i64 b, .int .i64 d, .slice ao l.length cap] 25).kept k1; have v0 := L1.cell 0 rfl; have v1 := L1.cell 1 rfl; have v2 := L1.cell 2 rfl; have v3 := L1.cell 3 rfl; have vl := L1.lt; (try dsimp only)) | go_values | go_skip | go_guarded | go_step | go_upon)
      obtain ⟨F, hF⟩ : ∃ F, F = u1.heap.size := ⟨_, rfl⟩
      have hO1 := HM.out u1
      obtain ⟨W1, hW1⟩ : ∃ W, W = u1.alloc (.cells (madeCells #[.int .i64 0] l.length) 3) := ⟨_, rfl⟩
      have kW : Kept u1 W1 := by rw [hW1]; exact (But.refl _ _ _).alloc _
      rw [← hW1, ← hF] at hO1
      rw [← hW1, ← hF]
      have HFS : Hid (w.heap.size < F ∧ Kept w W1 ∧ Loc W1 w.heap.size [.int .i64 a, .int .i64 b, .int .i64 d, .slice ao l.length cap]) := ⟨by rw [hF]; exact vl, K1.trans kW, L1.kept kW⟩
      have HO1 : Hid (NumO W1 F (F + 1) (.slice (some ⟨F, 0, none⟩) l.length l.length) (List.replicate l.length 0)) := hO1
      clear hF hO1 hW1 kW HM hmk v0 v1 v2 v3 vl L1 K1 k1 d20 dg
      go_loopw [27] (fun i wr => ∃ (k : Nat) (o : List Int), k ≤ ls.length ∧ i = .int .i64 k ∧ Hid (NumO wr F (F + 1) (.slice (some ⟨F, 0, none⟩) l.length l.length) o ∧ o.length = l.length ∧ ∀ c, c < l.length → sv o c = if c ∈ (ls.take k).map Int.toNat then 15 else 0) ∧ Hid (lampsB (l.length : Int) (-1) ls = lampsB (l.length : Int) (lastL ls k) (ls.drop k) ∧ -1 ≤ lastL ls k) ∧ Hid (But F (F + 1) W1 wr)) (fun i _ => ls.length - (intOf i).toNat)
      case atStart =>
        refine ⟨0, _, by omega, rfl, ⟨HO1.out, by simp, fun c hc => ?_⟩, ⟨rfl, by simp [lastL]⟩, But.refl _ _ _⟩
        simp [sv, List.getD_eq_getElem?_getD, hc]
      case round =>
        obtain ⟨k, o, hk, rfl, HO, HB, HK⟩ := hrel
        clear HO1
        have KR : Kept w wr := HFS.out.2.1.onto HK.out (by have := HFS.out.1; omega)
        have LR := HFS.out.2.2.but HK.out (.inl HFS.out.1)
        have HKR : Hid (Kept w wr) := KR
        have HLR : Hid (Loc wr w.heap.size [.int .i64 a, .int .i64 b, .int .i64 d, .slice ao l.length cap]) := LR
        by_cases hlt : k < ls.length
        · obtain ⟨x, hx⟩ : ∃ x, ls[k]? = some x := ⟨_, List.getElem?_eq_getElem hlt⟩
          obtain ⟨pg, po', pcap', ee, c0⟩ := num_get (hp.kept KR) hx
          cases ee
          have v3 := LR.cell 3 rfl
          have HX : Hid (ls[k]? = some x) := hx
          have vl := LR.lt
          have cl := cell_ltG c0
          clear hx KR LR
          cases q1 : decide (0 ≤ x ∧ x ≤ (l.length : Int) - 1) with
          | false =>
            have HQ : Hid (¬ (0 ≤ x ∧ x ≤ (l.length : Int) - 1)) := of_decide_eq_false q1
            repeat (first | (go_at_call 45; refine (sIn _ _ _ _).mono ?_; rintro e w3 ⟨rfl, hw3⟩; rw [hw3, q1]; clear hw3; (try dsimp only)) | go_values | go_skip | go_guarded | go_step | go_upon)
            go_returns
            rw [lightA_no (fun h => by have h2 := h.2; rw [HOK.out, HB.out.1, lampsB_step HX.out] at h2; simp only [Bool.and_eq_true, decide_eq_true_eq] at h2; have h3 := HB.out.2; have h4 := HQ.out; omega)]
            exact ⟨_, rfl, RowO.top (World.ownsRow_nil _ _ _ _), HKR.out⟩
          | true =>
            have hxx := of_decide_eq_true q1
            obtain ⟨c, hc⟩ := Int.eq_ofNat_of_zero_le hxx.1
            subst hc
            have hcN : c < l.length := by omega
            obtain ⟨hO, hol, hov⟩ := HO.out
            obtain ⟨d0, dz⟩ := hO.cells (sv_get (s := o) (c := c) (by omega))
            have dz0 := dz c
            have h9 := hO.set hol.symm (sv_get (s := o) (c := c) (by omega)) 15
            have HO2 : Hid (NumO (wr.setCell ⟨F, c, none⟩ (.int .i64 15)) F (F + 1) (.slice (some ⟨F, 0, none⟩) l.length l.length) (o.set c 15)) := h9
            have HO3 : Hid (o.length = l.length ∧ ∀ c, c < l.length → sv o c = if c ∈ (ls.take k).map Int.toNat then 15 else 0) := ⟨hol, hov⟩
            have zc : (c : Int) < (l.length : Int) := by omega
            clear hO hol hov h9 dz hxx
            have fin : lastL ls k < (c : Int) → Hid ((lampsB (l.length : Int) (-1) ls = lampsB (l.length : Int) (lastL ls (k + 1)) (ls.drop (k + 1))) ∧ -1 ≤ lastL ls (k + 1)) := fun hlx => by
              show _ ∧ _
              rw [lastL_succ HX.out]
              refine ⟨?_, by omega⟩
              rw [HB.out.1, lampsB_step HX.out, decide_eq_true hlx, decide_eq_true zc]
              rfl
            have FIN : Hid _ := fin
            have fin2 : ∀ c', c' < l.length → sv (o.set c 15) c' = if c' ∈ (ls.take (k + 1)).map Int.toNat then 15 else 0 := fun c' hc' => by
              rw [sv_set _ _ _ _ (by rw [HO3.out.1]; exact hcN), take_snoc HX.out, HO3.out.2 c' hc']
              by_cases e : c' = c
              · subst e; simp
              · rw [if_neg e]; simp [e]
            have FIN2 : Hid _ := fin2
            clear fin fin2
            by_cases hk0 : k = 0
            · subst hk0
              have hl0 : lastL ls 0 < (c : Int) := by simp [lastL]; omega
              rw [Nat.add_zero] at c0
              repeat (first | (go_at_call 45; refine (sIn _ _ _ _).mono ?_; rintro e w3 ⟨rfl, hw3⟩; rw [hw3, q1]; clear hw3; (try dsimp only)) | go_values | go_skip | go_guarded | go_step | go_upon)
              exact ⟨⟨0 + 1, o.set c 15, hlt, by go_num, ⟨HO2.out, by rw [List.length_set]; exact HO3.out.1, FIN2.out⟩, FIN.out hl0, HK.out.setCell (by simp) (by simp) _⟩, by simp [intOf]; omega⟩
            · have hx' : ls[k - 1]? = some (lastL ls k) := by
                unfold lastL
                rw [if_neg hk0, List.getD_eq_getElem?_getD, List.getElem?_eq_getElem (by omega)]
                rfl
              obtain ⟨_, _, _, ee, c1⟩ := num_get (hp.kept HKR.out) hx'
              cases ee
              have hkp : decide ((0 : Int) < (k : Int)) = true := by simp; omega
              have hkp2 : decide (0 < k) = true := by simp; omega
              have zk' : (k : Int) - 1 < (ls.length : Int) := by omega
              have zk2 : (0 : Int) ≤ (k : Int) - 1 := by omega
              clear hx'
              by_cases q2 : (c : Int) ≤ lastL ls k
              · have d2 : decide ((c : Int) ≤ lastL ls k) = true := decide_eq_true q2
                repeat (first | (go_at_call 45; refine (sIn _ _ _ _).mono ?_; rintro e w3 ⟨rfl, hw3⟩; rw [hw3, q1]; clear hw3; (try dsimp only)) | go_values | go_skip | go_guarded | go_step | go_upon)
                go_returns
                rw [lightA_no (fun h => by have h2 := h.2; rw [HOK.out, HB.out.1, lampsB_step HX.out] at h2; simp only [Bool.and_eq_true, decide_eq_true_eq] at h2; omega)]
                exact ⟨_, rfl, RowO.top (World.ownsRow_nil _ _ _ _), HKR.out⟩
              · have d2 : decide ((c : Int) ≤ lastL ls k) = false := decide_eq_false q2
                have hl0 : lastL ls k < (c : Int) := by omega
                repeat (first | (go_at_call 45; refine (sIn _ _ _ _).mono ?_; rintro e w3 ⟨rfl, hw3⟩; rw [hw3, q1]; clear hw3; (try dsimp only)) | go_values | go_skip | go_guarded | go_step | go_upon)
                exact ⟨⟨k + 1, o.set c 15, hlt, by go_num, ⟨HO2.out, by rw [List.length_set]; exact HO3.out.1, FIN2.out⟩, FIN.out hl0, HK.out.setCell (by simp) (by simp) _⟩, by simp [intOf]; omega⟩
        · have hke : k = ls.length := by omega
          subst hke
          repeat (first | go_values | go_skip | go_guarded | go_step | go_upon)
          have hlb : lampsB (l.length : Int) (-1) ls = true := by rw [HB.out.1, List.drop_length]; rfl
          have hok : lampsOk (l.length : Int) ls = true := by rw [HOK.out, hlb]
          obtain ⟨first, hfe, hfr, -⟩ := lamps_nat ls (-1) (by omega) hlb
          have HWI : Hid (∀ m c, Walk (lampF ls) (airE a b d l) m c → c < l.length) := walk_in HG.out (fun c hc => by
            unfold lampF at hc
            rw [hfe, nat_back] at hc
            have := hfr c hc
            omega)
          have HA : Hid (lightA a b d l ls = ((List.range l.length).map (lightV (lampF ls) (airE a b d l)), true)) := lightA_yes ⟨HG.out, hok⟩
          have HO5 : Hid (NumO wr F (F + 1) (.slice (some ⟨F, 0, none⟩) l.length l.length) o ∧ o.length = l.length ∧ ∀ c, c < l.length → sv o c = lt (lampF ls) (airE a b d l) 0 c) := ⟨HO.out.1, HO.out.2.1, fun c hc => by
            have h := HO.out.2.2 c hc
            rw [List.take_length] at h
            exact lt_zero (fun hf => by rw [h, if_pos (show c ∈ ls.map Int.toNat from hf)]) (fun hf => by rw [h, if_neg (show ¬ c ∈ ls.map Int.toNat from hf)])⟩
          have HK5 : Hid (But F (F + 1) W1 wr) := HK
          clear hlb hok hfe hfr HO HB HK HKR HLR KR LR HOK hlt hk
          go_loopw [9] (fun lv wr => ∃ (t : Nat) (o : List Int), t ≤ 14 ∧ lv = .int .i64 (15 - (t : Int)) ∧ Hid (NumO wr F (F + 1) (.slice (some ⟨F, 0, none⟩) l.length l.length) o ∧ o.length = l.length ∧ ∀ c, c < l.length → sv o c = lt (lampF ls) (airE a b d l) t c) ∧ Hid (But F (F + 1) W1 wr)) (fun lv _ => (intOf lv).toNat)
          case atStart => exact ⟨0, o, by omega, rfl, HO5, HK5⟩
          case round =>
            clear HO5 HK5
            rename World => wa
            obtain ⟨t, o, ht, rfl, HO, HK⟩ := hrel
            by_cases ht13 : t < 14
            · have dt : decide ((1 : Int) < 15 - (t : Int)) = true := by simp; omega
              repeat (first | go_values | go_skip | go_guarded | go_step | go_upon)
              clear dt
              have HM0 : Hid (Mid (lampF ls) (nxtM a b d) (fun k => getI l (k : Int) == 0) l.length t 0 0 o) := Mid.start HO.out.2.1 HO.out.2.2 (by omega)
              have HO0 : Hid (NumO wa F (F + 1) (.slice (some ⟨F, 0, none⟩) l.length l.length) o) := HO.out.1
              have HK0 : Hid (But F (F + 1) W1 wa) := HK
              clear HO HK
              go_loopw [62] (fun i wr => ∃ (n : Nat) (o : List Int), n ≤ l.length ∧ i = .int .i64 n ∧ Hid (NumO wr F (F + 1) (.slice (some ⟨F, 0, none⟩) l.length l.length) o) ∧ Hid (Mid (lampF ls) (nxtM a b d) (fun k => getI l (k : Int) == 0) l.length t n 0 o) ∧ Hid (But F (F + 1) W1 wr)) (fun i _ => l.length - (intOf i).toNat)
              case atStart => exact ⟨0, o, by omega, rfl, HO0, HM0, HK0⟩
              case round =>
                clear HM0 HO0 HK0
                rename World => wb
                obtain ⟨n, o, hn, rfl, HO, HM, HK⟩ := hrel
                by_cases hlt : n < l.length
                · have hol := HM.out.len
                  obtain ⟨c0, -⟩ := HO.out.cells (sv_get (s := o) (c := n) (by omega))
                  have zn : (n : Int) < (l.length : Int) := by omega
                  by_cases hq : sv o n = 15 - (t : Int)
                  · rw [hq] at c0
                    have HQ : Hid (sv o n = 15 - (t : Int)) := hq
                    clear hq hol
                    repeat (first | go_values | go_skip | go_guarded | go_step | go_upon)
                    have HOn : Hid (NumO wb F (F + 1) (.slice (some ⟨F, 0, none⟩) l.length l.length) o) := HO
                    clear c0
                    go_loopw [11] (fun i wr => ∃ (j : Nat) (o' : List Int), j ≤ 6 ∧ i = .int .i64 j ∧ Hid (NumO wr F (F + 1) (.slice (some ⟨F, 0, none⟩) l.length l.length) o') ∧ Hid (Mid (lampF ls) (nxtM a b d) (fun k => getI l (k : Int) == 0) l.length t n j o') ∧ Hid (sv o' n = 15 - (t : Int)) ∧ Hid (But F (F + 1) W1 wr)) (fun i _ => 6 - (intOf i).toNat)
                    case atStart => exact ⟨0, o, by omega, rfl, HO, HM, HQ, HK⟩
                    case round =>
                      clear HOn HO HM HQ HK
                      rename World => wc
                      obtain ⟨j, o', hj, rfl, HO, HM, HQ, HK⟩ := hrel
                      by_cases hlj : j < 6
                      · have KR : Kept w wc := HFS.out.2.1.onto HK.out (by have := HFS.out.1; omega)
                        have LR := HFS.out.2.2.but HK.out (.inl HFS.out.1)
                        have v0 := LR.cell 0 rfl
                        have v1 := LR.cell 1 rfl
                        have v2 := LR.cell 2 rfl
                        have v3 := LR.cell 3 rfl
                        have hvv := HG.out.len
                        have HNX : Hid (∀ u : World, Calls Try.prog 54 #[.agg #[.int .i64 a, .int .i64 b, .int .i64 d, .slice ao l.length cap], .int .i64 (n : Int), .int .i64 (j : Int)] u fun e w' => e = .returned (.int .i64 (nx a b d (n : Int) j)) ∧ Kept u w') := fun u => snext a b d (n : Int) j (.slice ao l.length cap) u HG.out.edge (by omega) (by omega) hlj
                        have HKR : Hid (Kept w wc) := KR
                        clear hvv LR KR
                        cases q2 : there a b d (n : Int) j with
                        | false =>
                          have hnv : nx a b d (n : Int) j = -1 := by unfold nx; rw [q2]; rfl
                          have hnx : nxtM a b d n j = none := by unfold nxtM; rw [q2]; rfl
                          repeat (first | (go_at_call 54; refine (HNX.out _).mono ?_; rintro e u5 ⟨rfl, k5⟩; rw [hnv]; (try dsimp only)) | go_values | go_skip | go_guarded | go_step | go_upon)
                          exact ⟨⟨j + 1, o', hlj, by go_num, HO.out.kept k5, HM.out.skip (fun k hk => by rw [hnx] at hk; cases hk), HQ, HK.out.transK k5⟩, by simp [intOf]; omega⟩
                        | true =>
                          obtain ⟨b0, b1⟩ := bes_lt HG.out (n := (n : Int)) (by omega) (by omega) hlj q2
                          obtain ⟨k, hkb⟩ := Int.eq_ofNat_of_zero_le b0
                          have hnv : nx a b d (n : Int) j = (k : Int) := by unfold nx; rw [q2, hkb]; rfl
                          have hnx : nxtM a b d n j = some k := by unfold nxtM; rw [q2, hkb]; rfl
                          have hkN : k < l.length := by omega
                          have HXN : Hid (nxtM a b d n j = some k) := hnx
                          clear hkb hnx b0 b1
                          obtain ⟨g, og, rfl, e0, gl⟩ := cell_of (hv.kept HKR.out) (k := (k : Int)) (by omega) (by omega)
                          simp only [Int.toNat_natCast] at e0
                          obtain ⟨d0, dz⟩ := HO.out.cells (sv_get (s := o') (c := k) (by rw [HM.out.len]; exact hkN))
                          have dz0 := dz k
                          clear dz
                          have zk : (k : Int) < (l.length : Int) := by omega
                          have hat := HM.out.at (by omega) hkN
                          cases q3 : (getI l (k : Int) == 0) with
                          | false =>
                            repeat (first | (go_at_call 54; refine (HNX.out _).mono ?_; rintro e u5 ⟨rfl, k5⟩; rw [hnv]; have e5 := Kept.cell k5 e0; have d5 := Kept.cell k5 d0; have v5 := Kept.cell k5 v3; have dl5 := cell_ltG d5; have el5 := cell_ltG e5; have vl5 := cell_ltG v5; (try dsimp only)) | go_values | go_skip | go_guarded | go_step | go_upon)
                            exact ⟨⟨j + 1, o', hlj, by go_num, HO.out.kept k5, HM.out.skip (fun k' hk he => by rw [HXN.out] at hk; cases hk; rw [q3] at he; cases he), HQ, HK.out.transK k5⟩, by simp [intOf]; omega⟩
                          | true =>
                            by_cases hs : sv o' k < 14 - (t : Int)
                            · have ds : decide (sv o' k < 14 - (t : Int)) = true := decide_eq_true hs
                              have ds2 : decide (sv o' k < 15 - (t : Int) - 1) = true := decide_eq_true (by omega)
                              have e15 : 15 - (t : Int) - 1 = 14 - (t : Int) := by omega
                              repeat (first | (go_at_call 54; refine (HNX.out _).mono ?_; rintro e u5 ⟨rfl, k5⟩; rw [hnv]; have e5 := Kept.cell k5 e0; have d5 := Kept.cell k5 d0; have v5 := Kept.cell k5 v3; have dl5 := cell_ltG d5; have el5 := cell_ltG e5; have vl5 := cell_ltG v5; have fz5 := ((HO.out.kept k5).cells (sv_get (s := o') (c := k) (by rw [HM.out.len]; exact hkN))).2 k; (try dsimp only)) | go_values | go_skip | go_guarded | go_step | go_upon)
                              exact ⟨⟨j + 1, o'.set k (14 - (t : Int)), hlj, by go_num, (HO.out.kept k5).set HM.out.len.symm (sv_get (s := o') (c := k) (by rw [HM.out.len]; exact hkN)) (14 - (t : Int)), HM.out.take (by omega) hlt HQ.out hlj HXN.out q3 hkN hs, by show sv _ _ = _; rw [sv_set _ _ _ _ (by rw [HM.out.len]; exact hkN), if_neg (fun e : n = k => by have h1 := HQ.out; rw [e] at h1; omega)]; exact HQ.out, (HK.out.transK k5).setCell (by simp) (by simp) _⟩, by simp [intOf]; omega⟩
                            · have ds : decide (sv o' k < 14 - (t : Int)) = false := decide_eq_false hs
                              have ds2 : decide (sv o' k < 15 - (t : Int) - 1) = false := decide_eq_false (by omega)
                              have e15 : 15 - (t : Int) - 1 = 14 - (t : Int) := by omega
                              repeat (first | (go_at_call 54; refine (HNX.out _).mono ?_; rintro e u5 ⟨rfl, k5⟩; rw [hnv]; have e5 := Kept.cell k5 e0; have d5 := Kept.cell k5 d0; have v5 := Kept.cell k5 v3; have dl5 := cell_ltG d5; have el5 := cell_ltG e5; have vl5 := cell_ltG v5; (try dsimp only)) | go_values | go_skip | go_guarded | go_step | go_upon)
                              exact ⟨⟨j + 1, o', hlj, by go_num, HO.out.kept k5, HM.out.skip (fun k' hk he => by rw [HXN.out] at hk; cases hk; omega), HQ, HK.out.transK k5⟩, by simp [intOf]; omega⟩
                      · have hje : j = 6 := by omega
                        subst hje
                        repeat (first | go_values | go_skip | go_guarded | go_step | go_upon)
                        exact ⟨⟨n + 1, o', hlt, by go_num, HO, HM.out.next, HK⟩, by simp [intOf]; omega⟩
                  · have dq : (sv o n != 15 - (t : Int)) = true := by simpa using hq
                    have HQ : Hid (sv o n ≠ 15 - (t : Int)) := hq
                    clear hq hol
                    repeat (first | go_values | go_skip | go_guarded | go_step | go_upon)
                    exact ⟨⟨n + 1, o, hlt, by go_num, HO, HM.out.pass HQ.out, HK⟩, by simp [intOf]; omega⟩
                · have hne : n = l.length := by omega
                  subst hne
                  repeat (first | go_values | go_skip | go_guarded | go_step | go_upon)
                  refine ⟨⟨t + 1, o, by omega, ?_, ⟨HO.out, HM.out.len, HM.out.fin (by omega) HWI.out⟩, HK⟩, ?_⟩
                  · congr 1
                    omega
                  · simp [intOf]
                    omega
            · have hte : t = 14 := by omega
              subst hte
              repeat (first | go_values | go_skip | go_guarded | go_step | go_upon)
              go_returns
              rw [HA.out]
              have hfs := HFS.out.1
              have hz := HK.out.size
              have h2 := own_lt HO.out.1.1 (g := F) rfl
              refine ⟨_, rfl, ?_, HFS.out.2.1.onto HK.out (by omega)⟩
              have h := HO.out.1
              rw [row_light HO.out.2.1 HO.out.2.2] at h
              exact NumO.mono h (by omega) h2.2
    · have d20 : decide ((20 : Int) < (ls.length : Int)) = true := by simp; omega
      have hok : lampsOk (l.length : Int) ls = false := by unfold lampsOk; rw [decide_eq_false h20]; rfl
      rw [lightA_no (fun h => by rw [hok] at h; cases h.2)]
      go_enter Try.func36, Try.ntmps36
      repeat (first | (go_at_call 17; refine (sgood _ _ _ _ _ _ _ (hv.kept ((But.refl _ _ _).alloc _)) (by omega)).mono ?_; rintro e u1 ⟨rfl, k1⟩; rw [dg]; have K1 : Kept w u1 := ((But.refl _ _ _).alloc _).trans k1; have L1 := (Loc.new w [.int .i64 a, .int .i64 b, .int .i64 d, .slice ao l.length cap] 25).kept k1; have v0 := L1.cell 0 rfl; have v1 := L1.cell 1 rfl; have v2 := L1.cell 2 rfl; have v3 := L1.cell 3 rfl; have vl := L1.lt; (try dsimp only)) | go_values | go_skip | go_guarded | go_step | go_upon)
      go_returns
      exact ⟨_, rfl, RowO.top (World.ownsRow_nil _ _ _ _), K1⟩
  · have dg : decide (BlocksP a b d l) = false := decide_eq_false hg
    rw [lightA_no (fun h => hg h.1)]
    go_enter Try.func36, Try.ntmps36
    repeat (first | (go_at_call 17; refine (sgood _ _ _ _ _ _ _ (hv.kept ((But.refl _ _ _).alloc _)) (by omega)).mono ?_; rintro e u1 ⟨rfl, k1⟩; rw [dg]; have K1 : Kept w u1 := ((But.refl _ _ _).alloc _).trans k1; have L1 := (Loc.new w [.int .i64 a, .int .i64 b, .int .i64 d, .slice ao l.length cap] 25).kept k1; have v0 := L1.cell 0 rfl; have v1 := L1.cell 1 rfl; have v2 := L1.cell 2 rfl; have v3 := L1.cell 3 rfl; have vl := L1.lt; (try dsimp only)) | go_values | go_skip | go_guarded | go_step | go_upon)
    go_returns
    exact ⟨_, rfl, RowO.top (World.ownsRow_nil _ _ _ _), K1⟩

end Go.Proofs.Ytnfkgnbhdhpnmaa
