/-
  ComboAt in the specification.
-/
import Derived.Test.YthkfpbknfjapaaaComboP17
import Derived.Test.YthkfpbknfjapaaaTxt
import Derived.Test.YthkfpbknfjapaaaMomS17
import Derived.Test.YthkfpbknfjapaaaApp1x17
namespace Go.Proofs.Ythkfpbknfjapaaa
open Go.ChangeShapes Go.WideShapes Go.ChangeAt Go.RowKit

set_option maxRecDepth 100000
set_option linter.unusedVariables false

theorem loc_apart {w w' : World} {lo hi : Nat} {e : TypeId} {size : Nat} {v : Value} {n : Nat} {xs : List Value} {b : Nat} {cs : List Value} (h : RowO w lo hi e size v n xs) (L : Loc w b cs) (hb : hi ≤ b) (k : But (blo v) (bhi v) w w') : Loc w' b cs := by
  refine L.but k (.inr ?_)
  unfold bhi
  cases hv : v.ownBlock with
  | none => simp
  | some g =>
    have := h.2 g hv
    simp
    omega
theorem okstep {p q : Prop} {b : Bool} (h : p ↔ q ∧ b = true) : dec p = (dec q && b) := by
  rcases Classical.em q with hq | hq
  · rw [dec_yes hq]
    cases b with
    | true => rw [dec_yes (h.2 ⟨hq, rfl⟩)]; rfl
    | false => rw [dec_no (fun hp => by have := (h.1 hp).2; exact absurd this (by simp))]; rfl
  · rw [dec_no hq, dec_no (fun hp => hq (h.1 hp).1)]
    rfl
set_option maxHeartbeats 16000000 in
theorem scombo (l : List MeantD) (cs : List ByteArray) (most : Int) (v u : Value) (w : World) (hv : MeantAt w v l) (hu : TxtAt w u cs) (hn : l.length ≤ 1048576) (hs : ∀ d ∈ l, d.2.1.size ≤ 1048576) (hm : cs.length ≤ 1048576) (hr : ∀ s ∈ cs, s.size ≤ 1048576) :
    Calls Try.prog 40 #[v, u, .int .i64 most] w fun e w' => ∃ v', e = .returned (.tuple #[v', .bool (comboA l cs most).2]) ∧ NumO w' w.heap.size w'.heap.size v' (comboA l cs most).1 ∧ Kept w w' := by
  obtain ⟨ao, cap, hsl⟩ := row_nil hv
  subst hsl
  obtain ⟨ao', cap', hsl⟩ := row_nil hu
  subst hsl
  rcases (Classical.em (MomsP l)).symm with h1 | h1
  · have dm : dec (MomsP l) = false := dec_no h1
    rw [comboA_no (fun h => h1 (h.1))]
    go_enter Try.func40, Try.ntmps40
    repeat (first | (go_at_call 76; refine (smoms l _ _ hv hn hs).mono ?_; rintro e w1 ⟨rfl, k1⟩; rw [dm]; dsimp only) | (go_at_call 71; refine (sInG _ _ _ _).mono ?_; rintro e w3 ⟨rfl, hw3⟩; rw [hw3, dt]; clear hw3 w3; dsimp only) | go_values | go_skip | go_guarded | go_step | go_upon)
    go_ret2
    exact ⟨_, rfl, nil_num _ _ _, k1⟩
  have dm : dec (MomsP l) = true := dec_yes h1
  rcases (Classical.em (¬ cs.length < 1)).symm with h2 | h2
  · have dc1 : decide ((cs.length : Int) < 1) = true := by simp; omega
    rw [comboA_no (fun h => h2 (fun hh => by have := h.2.1.1; omega))]
    go_enter Try.func40, Try.ntmps40
    repeat (first | (go_at_call 76; refine (smoms l _ _ hv hn hs).mono ?_; rintro e w1 ⟨rfl, k1⟩; rw [dm]; dsimp only) | (go_at_call 71; refine (sInG _ _ _ _).mono ?_; rintro e w3 ⟨rfl, hw3⟩; rw [hw3, dt]; clear hw3 w3; dsimp only) | go_values | go_skip | go_guarded | go_step | go_upon)
    go_ret2
    exact ⟨_, rfl, nil_num _ _ _, k1⟩
  have dc1 : decide ((cs.length : Int) < 1) = false := by simp; omega
  rcases (Classical.em (¬ 10 < cs.length)).symm with h3 | h3
  · have dc2 : decide (10 < (cs.length : Int)) = true := by simp; omega
    rw [comboA_no (fun h => h3 (fun hh => by have := h.2.1.1; omega))]
    go_enter Try.func40, Try.ntmps40
    repeat (first | (go_at_call 76; refine (smoms l _ _ hv hn hs).mono ?_; rintro e w1 ⟨rfl, k1⟩; rw [dm]; dsimp only) | (go_at_call 71; refine (sInG _ _ _ _).mono ?_; rintro e w3 ⟨rfl, hw3⟩; rw [hw3, dt]; clear hw3 w3; dsimp only) | go_values | go_skip | go_guarded | go_step | go_upon)
    go_ret2
    exact ⟨_, rfl, nil_num _ _ _, k1⟩
  have dc2 : decide (10 < (cs.length : Int)) = false := by simp; omega
  rcases (Classical.em (0 ≤ most ∧ most ≤ 100000)).symm with h4 | h4
  · have dt : decide (0 ≤ most ∧ most ≤ 100000) = false := decide_eq_false h4
    rw [comboA_no (fun h => h4 (h.2.2))]
    go_enter Try.func40, Try.ntmps40
    repeat (first | (go_at_call 76; refine (smoms l _ _ hv hn hs).mono ?_; rintro e w1 ⟨rfl, k1⟩; rw [dm]; dsimp only) | (go_at_call 71; refine (sInG _ _ _ _).mono ?_; rintro e w3 ⟨rfl, hw3⟩; rw [hw3, dt]; clear hw3 w3; dsimp only) | go_values | go_skip | go_guarded | go_step | go_upon)
    go_ret2
    exact ⟨_, rfl, nil_num _ _ _, k1⟩
  have dt : decide (0 ≤ most ∧ most ≤ 100000) = true := decide_eq_true h4
  have NO : Hid (¬ NamesP cs → comboA l cs most = ([], false)) := fun h => comboA_no (fun h' => h h'.2.1)
  have YES : Hid (NamesP cs → comboA l cs most = (comboK l cs most l.length, true)) := fun h => comboA_yes ⟨h1, h, h4⟩
  generalize comboA l cs most = RR at *
  have h200 := h1.1
  have HT : Hid (∀ d ∈ l, 0 ≤ d.1 ∧ d.1 ≤ 100000) := moms_time h1
  have hc1 : 1 ≤ cs.length := by omega
  have hc2 : cs.length ≤ 10 := by omega
  go_enter Try.func40, Try.ntmps40
  repeat (first | (go_at_call 76; refine (smoms l _ _ hv hn hs).mono ?_; rintro e w1 ⟨rfl, k1⟩; rw [dm]; dsimp only) | (go_at_call 71; refine (sInG _ _ _ _).mono ?_; rintro e w3 ⟨rfl, hw3⟩; rw [hw3, dt]; clear hw3 w3; dsimp only) | go_values | go_skip | go_guarded | go_step | go_upon)
  clear dm dc1 dc2 dt h1 h2 h3 h4
  have s1 := k1.size
  go_loopw [38] (fun i wr => ∃ (k : Nat), k ≤ cs.length ∧ i = .int .i64 k ∧ Hid (∀ j s, j < k → cs[j]? = some s → nameB s = true) ∧ Kept w1 wr) (fun i _ => cs.length - (intOf i).toNat)
  case atStart => exact ⟨0, by omega, rfl, fun j s hj => by omega, But.refl _ _ _⟩
  case round =>
    obtain ⟨k, hk, rfl, HB, hkp⟩ := hrel
    by_cases hlt : k < cs.length
    · obtain ⟨s, hd⟩ : ∃ p, cs[k]? = some p := ⟨_, List.getElem?_eq_getElem hlt⟩
      obtain ⟨b, o, cap1, ee, c0⟩ := txt_get (hu.kept (k1.trans hkp)) hd
      cases ee
      have hsz := hr s (List.mem_of_getElem? hd)
      have HP : Hid (cs[k]? = some s) := hd
      have HK : Hid (Kept w wr) := k1.trans hkp
      have HK1 : Hid (Kept w1 wr) := hkp
      clear hd hkp hv hu
      cases q : nameB s with
      | false =>
        have hR := NO.out (fun h => by have := h.2 k s hlt HP.out; rw [q] at this; exact absurd this (by simp))
        subst hR
        repeat (first | (go_at_call 55; refine (sname s _ hsz).mono ?_; rintro e w3 ⟨rfl, hw3⟩; rw [hw3, q]; clear hw3 w3; dsimp only) | go_values | go_skip | go_guarded | go_step | go_upon)
        go_ret2
        exact ⟨_, rfl, nil_num _ _ _, HK.out⟩
      | true =>
        repeat (first | (go_at_call 55; refine (sname s _ hsz).mono ?_; rintro e w3 ⟨rfl, hw3⟩; rw [hw3, q]; clear hw3 w3; dsimp only) | go_values | go_skip | go_guarded | go_step | go_upon)
        exact ⟨⟨k + 1, hlt, by go_num, (fun j s' hj hs' => by
          by_cases e : j = k
          · subst e
            rw [HP.out] at hs'
            cases hs'
            exact q
          · exact HB.out j s' (by omega) hs'), HK1.out⟩, by simp [intOf]; omega⟩
    · have hke : k = cs.length := by omega
      subst hke
      have hR := YES.out ⟨⟨hc1, hc2⟩, HB.out⟩
      subst hR
      have K2 : Kept w wr := k1.trans hkp
      have s2 := K2.size
      clear NO YES HB hlt hkp hk k1
      repeat (first | go_values | go_skip | go_guarded | go_step | go_upon)
      rename World => w2
      go_loopw [10, 11, 48] (fun ov ev i wr => ∃ (k : Nat), k ≤ l.length ∧ i = .int .i64 k ∧ NumO wr w2.heap.size wr.heap.size ov (onI l k) ∧ NumO wr w2.heap.size wr.heap.size ev (comboK l cs most k) ∧ Ap ev ov ∧ Kept w2 wr) (fun ov ev i _ => l.length - (intOf i).toNat)
      case atStart => exact ⟨0, by omega, rfl, nil_num _ _ _, nil_num _ _ _, (fun g hg => by simp [Value.ownBlock] at hg), But.refl _ _ _⟩
      case round =>
        obtain ⟨k, hk, rfl, oo, oe, hap, hkp⟩ := hrel
        have hel := combo_len l cs most k
        have hol := on_len l k
        have hol1 := on_len l (k + 1)
        by_cases hlt : k < l.length
        · obtain ⟨d, hd⟩ : ∃ p, l[k]? = some p := ⟨_, List.getElem?_eq_getElem hlt⟩
          obtain ⟨b, o, cap1, ee, c0, c1, c2⟩ := meant_get (hv.kept (K2.trans hkp)) hd
          cases ee
          have hb1 : b < wr.heap.size := World.block_lt_of_cell? _ _ c0
          have htd := HT.out d (List.mem_of_getElem? hd)
          obtain ⟨t0, nm, on⟩ := d
          dsimp only at c0 c1 c2 htd
          obtain ⟨ae, pe, hf⟩ := oe.form
          subst hf
          obtain ⟨ag, pg, hf⟩ := oo.form
          subst hf
          have sr := hkp.size
          cases on with
          | false =>
            have HOF : Hid (comboK l cs most (k + 1) = comboK l cs most k) := combo_off hd rfl
            have HON : Hid (onI l (k + 1) = onI l k) := (on_no hd rfl).1
            have OE : Hid (NumO wr w2.heap.size wr.heap.size (.slice ae (comboK l cs most k).length pe) (comboK l cs most k)) := oe
            have OO : Hid (NumO wr w2.heap.size wr.heap.size (.slice ag (onI l k).length pg) (onI l k)) := oo
            have HAP : Hid (Ap (.slice ae (comboK l cs most k).length pe) (.slice ag (onI l k).length pg)) := hap
            have HK : Hid (Kept w2 wr) := hkp
            clear hd hkp oe oo hol1 hv hu hap
            repeat (first | go_values | go_skip | go_guarded | go_step | go_upon)
            refine ⟨⟨k + 1, hlt, by go_num, ?_, ?_, HAP.out, HK.out.alloc _⟩, by simp [intOf]; omega⟩
            · rw [HON.out]; exact (OO.out.kept ((But.refl _ _ wr).alloc _)).mono (Nat.le_refl _) (by simp)
            · rw [HOF.out]; exact (OE.out.kept ((But.refl _ _ wr).alloc _)).mono (Nat.le_refl _) (by simp)
          | true =>
            have HON : Hid (onI l (k + 1) = onI l k ++ [(k : Int)]) := (on_yes hd rfl).1
            have HYES : Hid (EndP (onD l (k + 1)) cs most → comboK l cs most (k + 1) = comboK l cs most k ++ [(k : Int)]) := fun h => combo_yes hd rfl h
            have HNO : Hid (¬ EndP (onD l (k + 1)) cs most → comboK l cs most (k + 1) = comboK l cs most k) := fun h => combo_no hd h
            have HZ : Hid ((onD l (k + 1))[(onD l (k + 1)).length - 1]? = some (t0, nm, true)) := by
              show _ = _
              rw [(on_yes hd rfl).2]
              simp
            obtain ⟨E, hE⟩ : ∃ E, comboK l cs most k = E := ⟨_, rfl⟩
            obtain ⟨G, hG⟩ : ∃ G, onI l k = G := ⟨_, rfl⟩
            obtain ⟨F, hF⟩ : ∃ F, onD l (k + 1) = F := ⟨_, rfl⟩
            obtain ⟨X, hX⟩ : ∃ X, onI l (k + 1) = X := ⟨_, rfl⟩
            have HAT : Hid (∀ (j : Nat) (x : Int), X[j]? = some x → ∃ (i : Nat) (d : MeantD), x = (i : Int) ∧ i < k + 1 ∧ l[i]? = some d ∧ F[j]? = some d) := by rw [← hX, ← hF]; exact on_at l (k + 1)
            rw [hE] at oe HYES HNO hel hap ⊢
            rw [hG] at oo hol HON hap ⊢
            rw [hX] at HON hol1
            rw [hF] at HYES HNO hol1 HZ
            have HX : Hid (onI l (k + 1) = X) := hX
            have hxg : X.length = G.length + 1 := by rw [HON.out]; simp
            have OE : Hid (NumO wr w2.heap.size wr.heap.size (.slice ae E.length pe) E) := oe
            have OO : Hid (NumO wr w2.heap.size wr.heap.size (.slice ag G.length pg) G) := oo
            have HAP : Hid (Ap (.slice ae E.length pe) (.slice ag G.length pg)) := hap
            have HK : Hid (Kept w2 wr) := hkp
            have HXG : Hid (X.length = G.length + 1 ∧ X.length = F.length) := ⟨hxg, hol1.1⟩
            have hXl : X.length ≤ 300 := by omega
            clear hd hkp oe oo hE hG hF hX hap hxg hol1
            repeat (first | (at_builtin; refine forgetL (fun w' => w' = _) rfl ?_) | go_values | go_skip | go_guarded | go_step | go_upon)
            intro W7 hW7
            rw [hW7]
            clear hW7 W7
            refine app1_num rfl _ _ rfl (lo := w2.heap.size) (hi := wr.heap.size) rfl (OO.out.kept (((But.refl _ _ wr).alloc _).alloc _)) (k : Int) rfl (by have := Loc.new (wr.alloc (.cells #[.int .i64 t0, .string nm, .bool true] 31)) [.int .i64 (k : Int)] 3; simp only [World.size_alloc] at this; exact this) (by have := HXG.out; omega) (by simp; omega) ?_
            intro v3 w3 o3 b3 a3'
            have g1 := OE.out.kept (((But.refl _ _ wr).alloc (.cells #[.int .i64 t0, .string nm, .bool true] 31)).alloc (.cells #[.int .i64 (k : Int)] 3))
            have g2 := OO.out.kept (((But.refl _ _ wr).alloc (.cells #[.int .i64 t0, .string nm, .bool true] 31)).alloc (.cells #[.int .i64 (k : Int)] 3))
            have OE3 : Hid (NumO w3 w2.heap.size w3.heap.size (.slice ae E.length pe) E) := NumO.low (RowO.apart g1 b3 HAP.out)
            have AP3 : Hid (Ap (.slice ae E.length pe) v3) := ap1_num g1 HAP.out a3'
            have b3' := But.inner b3 g2
            have Lm := ((Loc.new wr [.int .i64 t0, .string nm, .bool true] 31).alloc (.cells #[.int .i64 (k : Int)] 3))
            have Lm3 : Loc w3 wr.heap.size [.int .i64 t0, .string nm, .bool true] := loc_apart (OO.out.kept (((But.refl _ _ wr).alloc (.cells #[.int .i64 t0, .string nm, .bool true] 31)).alloc (.cells #[.int .i64 (k : Int)] 3))) Lm (Nat.le_refl _) b3
            rw [← HON.out] at o3
            obtain ⟨a3, p3, hf⟩ := o3.form
            subst hf
            have K3 : Kept w2 w3 := But.onto ((HK.out.alloc _).alloc _) b3' (Nat.le_refl _)
            have HO3 : Hid (NumO w3 w2.heap.size w3.heap.size (.slice a3 X.length p3) X) := o3
            have HK3 : Hid (Kept w2 w3) := K3
            have s3 := K3.size
            have m0 := Lm3.cell 0 rfl
            have HLm : Hid (Loc w3 wr.heap.size [.int .i64 t0, .string nm, .bool true]) := Lm3
            have hml := Lm3.lt
            clear g1 g2 b3 b3' a3' Lm Lm3 OO OE HAP o3 K3
            by_cases hlen : X.length < cs.length
            · have HEQ : Hid (comboK l cs most (k + 1) = E) := HNO.out (fun h => by have := h.1; have := HXG.out; omega)
              have dl : decide ((X.length : Int) < (cs.length : Int)) = true := by simp; omega
              clear HYES HNO
              repeat (first | go_values | go_skip | go_guarded | go_step | go_upon)
              refine ⟨⟨k + 1, hlt, by go_num, ?_, ?_, ?_, HK3.out⟩, by simp [intOf]; omega⟩
              · rw [HX.out]; exact HO3.out
              · rw [HEQ.out]; exact OE3.out
              · exact AP3.out
            have dl : decide ((X.length : Int) < (cs.length : Int)) = false := by simp; omega
            obtain ⟨B, hB⟩ : ∃ B : Nat, B = X.length - cs.length := ⟨_, rfl⟩
            have HBF : Hid (F.length - cs.length = B) := by show _ = _; have := HXG.out; omega
            have HFc : Hid (cs.length ≤ F.length) := by show _ ≤ _; have := HXG.out; omega
            have eB : (X.length : Int) - (cs.length : Int) = (B : Int) := by omega
            have eB2 : IntKind.i64.wrap ((X.length : Int) - (cs.length : Int)) = (B : Int) := by rw [IntWalk.i64_in _ (by omega)]; omega
            obtain ⟨hcp1, hcp2⟩ := cap_num HO3.out
            obtain ⟨aoD, hD⟩ : ∃ a : Option Addr, (if p3 = B then (a3 : Option Addr) else a3.map (·.add B)) = a := ⟨_, rfl⟩
            have hsl : ∀ W, (Instr.slice 39 (.slice a3 X.length p3) (some (.int .i64 (B : Int))) none none).run Try.prog W = .ok (.slice aoD cs.length (p3 - B)) W := fun W => by
              rw [slice_from W _ X.length p3 B (by omega), hD, show X.length - B = cs.length by omega]
            obtain ⟨Y, hY⟩ : ∃ Y, X.drop B = Y := ⟨_, rfl⟩
            have hYl : Y.length = cs.length := by rw [← hY, List.length_drop]; omega
            have HDR : Hid (∀ u, Kept w3 u → NumAt u (.slice aoD cs.length (p3 - B)) Y) := fun u hu' => by
              have := dropNum ((HO3.out.kept hu').at) B (by omega) hcp1
              rw [hD, hY, show X.length - B = cs.length by omega] at this
              exact this
            have HYA : Hid (∀ (j : Nat) (x : Int), Y[j]? = some x → ∃ (i : Nat) (d : MeantD), x = (i : Int) ∧ i < l.length ∧ l[i]? = some d ∧ F[B + j]? = some d) := fun j x hx => by
              rw [← hY, List.getElem?_drop] at hx
              obtain ⟨i, d, q1, q2, q3, q4⟩ := HAT.out _ _ hx
              exact ⟨i, d, q1, by omega, q3, q4⟩
            obtain ⟨x0, hx0⟩ : ∃ x : Int, Y[0]? = some x := ⟨_, List.getElem?_eq_getElem (by omega)⟩
            obtain ⟨i0, da, rfl, hi0, hla, hFa⟩ := HYA.out 0 x0 hx0
            have hdr := HDR.out w3 (But.refl _ _ _)
            rw [← hYl] at hdr
            obtain ⟨bY, oY, capY, eY, y0⟩ := num_get hdr hx0
            cases eY
            clear hdr
            have hta := HT.out da (List.mem_of_getElem? hla)
            obtain ⟨ba, oa, capa, ea, f0, f1, f2⟩ := meant_get (hv.kept (K2.trans HK3.out)) hla
            cases ea
            obtain ⟨ta, na, oa'⟩ := da
            dsimp only at f0 f1 f2 hta
            have HFA : Hid (F[B]? = some (ta, na, oa')) := show F[B]? = some (ta, na, oa') from (by simpa using hFa)
            have y1 : (0 : Int) ≤ (i0 : Int) := by omega
            have y2 : (i0 : Int) < (l.length : Int) := by omega
            have y3 : (0 : Int) < (cs.length : Int) := by omega
            have est : IntKind.i64.wrap (t0 - ta) = t0 - ta := IntWalk.i64_in _ (by omega)
            have hbY : bY < w3.heap.size := World.block_lt_of_cell? _ _ y0
            have hba : b < w3.heap.size := World.block_lt_of_cell? _ _ f0
            have HEND : Hid (EndP F cs most ↔ (t0 - ta ≤ most ∧ ∀ i d s, i < cs.length → F[B + i]? = some d → cs[i]? = some s → (d.2.1.toList == s.toList) = true)) := by
              constructor
              · intro h
                exact ⟨h.2.2 (ta, na, oa') (t0, nm, true) (by rw [HBF.out]; exact HFA.out) HZ.out, fun i d s hi hd hs => h.2.1 i d s hi (by rw [HBF.out]; exact hd) hs⟩
              · intro h
                refine ⟨HFc.out, fun i d s hi hd hs => h.2 i d s hi (by rw [← HBF.out]; exact hd) hs, fun a z ha hz => ?_⟩
                rw [HBF.out, HFA.out] at ha
                rw [HZ.out] at hz
                cases ha
                cases hz
                exact h.1
            have HYL : Hid (Y.length = cs.length) := hYl
            have y0' : w3.cell? ⟨bY, oY, none⟩ = some (.int .i64 (i0 : Int)) := y0
            clear hla hFa hx0 hY hD HAT HZ HFA hB hYl y0
            repeat (first | go_values | go_skip | go_guarded | go_step | go_upon)
            refine wp_region_kept (by kernel_rfl) (by kernel_rfl) ?_
            have hcc := @KW.cell_eq
            repeat (go_big_quiet_step (first | fail))
            refine wpQuiet_nil ?_
            rintro w5 ⟨⟨w8, k5⟩, h9⟩
            change w5 = w8 at h9
            subst h9
            clear hcc
            repeat (first | go_values | go_skip | go_guarded | go_step | go_upon)
            clear hsl eB eB2 dl
            have HK5 : Hid (Kept w2 w5) := HK3.out.trans k5
            have K35 : Hid (Kept w3 w5) := k5
            have s5 := k5.size
            clear k5 y0' f0 f1 f2 m0 hbY hba y1 y2 est hml
            go_loopw [15, 86] (fun okv i wz => ∃ (K : Nat), K ≤ cs.length ∧ i = .int .i64 K ∧ okv = .bool (dec (t0 - ta ≤ most ∧ ∀ i d s, i < K → F[B + i]? = some d → cs[i]? = some s → (d.2.1.toList == s.toList) = true)) ∧ Kept w5 wz) (fun okv i _ => cs.length - (intOf i).toNat)
            case atStart =>
              refine ⟨0, by omega, rfl, ?_, But.refl _ _ _⟩
              congr 1
              by_cases h : t0 - ta ≤ most
              · rw [decide_eq_true h, dec_yes ⟨h, fun i d s hi => by omega⟩]
              · rw [decide_eq_false h, dec_no (fun h' => h h'.1)]
            case round =>
              rename World => wz
              obtain ⟨K, hK, rfl, hok, hkz⟩ := hrel
              by_cases hltK : K < cs.length
              · obtain ⟨x, hx⟩ : ∃ x : Int, Y[K]? = some x := ⟨_, List.getElem?_eq_getElem (by have := HYL.out; omega)⟩
                obtain ⟨s, hs'⟩ : ∃ p, cs[K]? = some p := ⟨_, List.getElem?_eq_getElem hltK⟩
                obtain ⟨i1, d1, rfl, hi1, hl1, hF1⟩ := HYA.out K x hx
                have hdr := HDR.out wz (K35.out.trans hkz)
                rw [← HYL.out] at hdr
                obtain ⟨bZ, oZ, capZ, eZ, z0⟩ := num_get hdr hx
                cases eZ
                obtain ⟨bS, oS, capS, eS, z1⟩ := txt_get (hu.kept (K2.trans (HK5.out.trans hkz))) hs'
                cases eS
                obtain ⟨bL, oL, capL, eL, g0, g1, g2⟩ := meant_get (hv.kept (K2.trans (HK5.out.trans hkz))) hl1
                cases eL
                obtain ⟨t9, n9, o9⟩ := d1
                dsimp only at g0 g1 g2
                have HKz : Hid (Kept w5 wz) := hkz
                have HD1 : Hid (F[B + K]? = some (t9, n9, o9) ∧ cs[K]? = some s) := ⟨hF1, hs'⟩
                have w0 : (0 : Int) ≤ (i1 : Int) := by omega
                have w1' : (i1 : Int) < (l.length : Int) := by omega
                have w2' : (0 : Int) ≤ (K : Int) := by omega
                have w3' : (K : Int) < (cs.length : Int) := by omega
                have hb9 : b < wz.heap.size := World.block_lt_of_cell? _ _ g0
                have hbS : bS < wz.heap.size := World.block_lt_of_cell? _ _ z1
                have HST : Hid ((t0 - ta ≤ most ∧ ∀ i d s, i < K + 1 → F[B + i]? = some d → cs[i]? = some s → (d.2.1.toList == s.toList) = true) ↔ (t0 - ta ≤ most ∧ ∀ i d s, i < K → F[B + i]? = some d → cs[i]? = some s → (d.2.1.toList == s.toList) = true) ∧ (n9.toList == s.toList) = true) := by
                  constructor
                  · intro h
                    exact ⟨⟨h.1, fun i d s hi hd hs => h.2 i d s (by omega) hd hs⟩, h.2 K _ s (by omega) HD1.out.1 HD1.out.2⟩
                  · rintro ⟨h1, h2⟩
                    refine ⟨h1.1, fun i d s' hi hd hs => ?_⟩
                    by_cases e : i = K
                    · subst e
                      rw [HD1.out.1] at hd
                      rw [HD1.out.2] at hs
                      cases hd
                      cases hs
                      exact h2
                    · exact h1.2 i d s' (by omega) hd hs
                clear hkz hx hs' hl1 hF1 hdr
                rcases Classical.em (t0 - ta ≤ most ∧ ∀ i d s, i < K → F[B + i]? = some d → cs[i]? = some s → (d.2.1.toList == s.toList) = true) with hQ | hQ
                · rw [dec_yes hQ] at hok
                  subst hok
                  have HQ : Hid (dec (t0 - ta ≤ most ∧ ∀ i d s, i < K + 1 → F[B + i]? = some d → cs[i]? = some s → (d.2.1.toList == s.toList) = true) = (n9.toList == s.toList)) := by
                    show _ = _
                    rw [okstep HST.out, dec_yes hQ]
                    rfl
                  clear HST hQ
                  obtain ⟨qq, hqq⟩ : ∃ q, (n9.toList == s.toList) = q := ⟨_, rfl⟩
                  rw [hqq] at HQ
                  repeat (first | go_values | go_skip | go_guarded | go_step | go_upon)
                  refine wp_region_kept (by kernel_rfl) (by kernel_rfl) ?_
                  have hcc := @KW.cell_eq
                  repeat (go_big_quiet_step (first | fail))
                  refine wpQuiet_nil ?_
                  rintro w6 ⟨⟨w8x, k6⟩, h9⟩
                  change w6 = w8x at h9
                  subst h9
                  clear hcc
                  repeat (first | go_values | go_skip | go_guarded | go_step | go_upon)
                  clear hqq
                  exact ⟨⟨K + 1, hltK, by go_num, by rw [HQ.out], HKz.out.trans k6⟩, by simp [intOf]; omega⟩
                · rw [dec_no hQ] at hok
                  subst hok
                  have HQ : Hid (dec (t0 - ta ≤ most ∧ ∀ i d s, i < K + 1 → F[B + i]? = some d → cs[i]? = some s → (d.2.1.toList == s.toList) = true) = false) := dec_no (fun h => hQ (HST.out.1 h).1)
                  clear HST hQ
                  repeat (first | go_values | go_skip | go_guarded | go_step | go_upon)
                  refine wp_region_kept (by kernel_rfl) (by kernel_rfl) ?_
                  have hcc := @KW.cell_eq
                  repeat (go_big_quiet_step (first | fail))
                  refine wpQuiet_nil ?_
                  rintro w6 ⟨⟨w8x, k6⟩, h9⟩
                  change w6 = w8x at h9
                  subst h9
                  clear hcc
                  repeat (first | go_values | go_skip | go_guarded | go_step | go_upon)
                  exact ⟨⟨K + 1, hltK, by go_num, by rw [HQ.out], HKz.out.trans k6⟩, by simp [intOf]; omega⟩
              · have hke : K = cs.length := by omega
                subst hke
                have HKz : Hid (Kept w3 wz) := K35.out.trans hkz
                have sz := hkz.size
                clear hkz
                rcases (Classical.em (EndP F cs most)).symm with he | he
                · rw [dec_no (fun h => he (HEND.out.2 h))] at hok
                  subst hok
                  have HEQ : Hid (comboK l cs most (k + 1) = E) := HNO.out he
                  clear HYES HNO he hltK hK
                  repeat (first | go_values | go_skip | go_guarded | go_step | go_upon)
                  refine ⟨⟨k + 1, hlt, by go_num, ?_, ?_, AP3.out, HK3.out.trans HKz.out⟩, by simp [intOf]; omega⟩
                  · rw [HX.out]; exact (HO3.out.kept HKz.out).low
                  · rw [HEQ.out]; exact (OE3.out.kept HKz.out).low
                · rw [dec_yes (HEND.out.1 he)] at hok
                  subst hok
                  have HEQ : Hid (comboK l cs most (k + 1) = E ++ [(k : Int)]) := HYES.out he
                  clear HYES HNO he hltK hK
                  repeat (first | (at_builtin; refine forgetL (fun w' => w' = _) rfl ?_) | go_values | go_skip | go_guarded | go_step | go_upon)
                  intro W7 hW7
                  rw [hW7]
                  clear hW7 W7
                  refine app1_num rfl _ _ rfl (lo := w2.heap.size) (hi := w3.heap.size) rfl (OE3.out.kept (HKz.out.trans ((But.refl _ _ _).alloc _))) (k : Int) rfl (Loc.new wz [.int .i64 (k : Int)] 3) (by omega) (by simp; omega) ?_
                  intro v5 w9 o5 b5 a5
                  have g1 := OE3.out.kept (HKz.out.trans ((But.refl _ _ wz).alloc (.cells #[.int .i64 (k : Int)] 3)))
                  have g2 := HO3.out.kept (HKz.out.trans ((But.refl _ _ wz).alloc (.cells #[.int .i64 (k : Int)] 3)))
                  have HO9 : Hid (NumO w9 w2.heap.size w9.heap.size (.slice a3 X.length p3) X) := NumO.low (RowO.apart g2 b5 AP3.out.symm)
                  have AP9 : Hid (Ap v5 (.slice a3 X.length p3)) := (ap1_num g2 AP3.out.symm a5).symm
                  have HK9 : Hid (Kept w2 w9) := But.onto ((HK3.out.trans HKz.out).alloc _) (But.inner b5 g1) (Nat.le_refl _)
                  have HE9 : Hid (NumO w9 w2.heap.size w9.heap.size v5 (E ++ [(k : Int)])) := o5
                  clear o5 b5 a5 g1 g2
                  repeat (first | go_values | go_skip | go_guarded | go_step | go_upon)
                  refine ⟨⟨k + 1, hlt, by go_num, ?_, ?_, AP9.out, HK9.out⟩, by simp [intOf]; omega⟩
                  · rw [HX.out]; exact HO9.out
                  · rw [HEQ.out]; exact HE9.out
        · have hke : k = l.length := by omega
          subst hke
          obtain ⟨ae, pe, hf⟩ := oe.form
          subst hf
          have OE : Hid (NumO wr w2.heap.size wr.heap.size (.slice ae (comboK l cs most l.length).length pe) (comboK l cs most l.length)) := oe
          have HK : Hid (Kept w2 wr) := hkp
          obtain ⟨ag, pg, hf⟩ := oo.form
          subst hf
          clear oe oo hkp hv hu
          go_wp2
          go_ret2
          exact ⟨_, rfl, OE.out.mono (by omega) (Nat.le_refl _), K2.trans HK.out⟩

end Go.Proofs.Ythkfpbknfjapaaa
