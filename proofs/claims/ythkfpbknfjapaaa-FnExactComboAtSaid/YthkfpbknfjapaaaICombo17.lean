/-
  ComboAt in the program.
-/
import Derived.Test.YthkfpbknfjapaaaGCombo17
import Derived.Test.YthkfpbknfjapaaaEnds17
import Derived.Test.YthkfpbknfjapaaaMomI17
import Derived.Test.YthkfpbknfjapaaaApp1x17
namespace Go.Proofs.Ythkfpbknfjapaaa
open Go.ChangeShapes Go.WideShapes Go.ChangeAt Go.RowKit

set_option maxRecDepth 100000
set_option linter.unusedVariables false

set_option maxHeartbeats 8000000 in
theorem icombo (l : List MeantD) (cs : List ByteArray) (most : Int) (v u : Value) (w : World) (hv : MeantAt w v l) (hu : TxtAt w u cs) (hn : l.length ≤ 1048576) (hs : ∀ d ∈ l, d.2.1.size ≤ 1048576) (hm : cs.length ≤ 1048576) (hr : ∀ s ∈ cs, s.size ≤ 1048576) :
    Calls Try.prog 42 #[v, u, .int .i64 most] w fun e w' => ∃ v', e = .returned (.tuple #[v', .bool (comboA l cs most).2]) ∧ NumO w' w.heap.size w'.heap.size v' (comboA l cs most).1 ∧ Kept w w' := by
  obtain ⟨ao, cap, hsl⟩ := row_nil hv
  subst hsl
  obtain ⟨ao', cap', hsl⟩ := row_nil hu
  subst hsl
  rcases (Classical.em (MomsP l)).symm with h1 | h1
  · have dm : dec (MomsP l) = false := dec_no h1
    rw [comboA_no (fun h => h1 (h.1))]
    go_enter Try.func42, Try.ntmps42
    repeat (first | (go_at_call 78; refine (imoms l _ _ hv hn hs).mono ?_; rintro e w1 ⟨rfl, k1⟩; rw [dm]; dsimp only) | (go_at_call 80; refine (igcombo cs _ _ (hu.kept k1) hm hr).mono ?_; rintro e w2 ⟨rfl, k2⟩; rw [dn]; dsimp only) | (go_at_call 72; refine (itime _ _).mono ?_; rintro e w3 ⟨rfl, hw3⟩; rw [hw3, dt]; clear hw3 w3; dsimp only) | go_values | go_skip | go_guarded | go_step | go_upon)
    go_ret2
    exact ⟨_, rfl, nil_num _ _ _, k1⟩
  have dm : dec (MomsP l) = true := dec_yes h1
  rcases (Classical.em (NamesP cs)).symm with h2 | h2
  · have dn : dec (NamesP cs) = false := dec_no h2
    rw [comboA_no (fun h => h2 (h.2.1))]
    go_enter Try.func42, Try.ntmps42
    repeat (first | (go_at_call 78; refine (imoms l _ _ hv hn hs).mono ?_; rintro e w1 ⟨rfl, k1⟩; rw [dm]; dsimp only) | (go_at_call 80; refine (igcombo cs _ _ (hu.kept k1) hm hr).mono ?_; rintro e w2 ⟨rfl, k2⟩; rw [dn]; dsimp only) | (go_at_call 72; refine (itime _ _).mono ?_; rintro e w3 ⟨rfl, hw3⟩; rw [hw3, dt]; clear hw3 w3; dsimp only) | go_values | go_skip | go_guarded | go_step | go_upon)
    go_ret2
    exact ⟨_, rfl, nil_num _ _ _, k1.trans k2⟩
  have dn : dec (NamesP cs) = true := dec_yes h2
  rcases (Classical.em (0 ≤ most ∧ most ≤ 100000)).symm with h3 | h3
  · have dt : decide (0 ≤ most ∧ most ≤ 100000) = false := decide_eq_false h3
    rw [comboA_no (fun h => h3 (h.2.2))]
    go_enter Try.func42, Try.ntmps42
    repeat (first | (go_at_call 78; refine (imoms l _ _ hv hn hs).mono ?_; rintro e w1 ⟨rfl, k1⟩; rw [dm]; dsimp only) | (go_at_call 80; refine (igcombo cs _ _ (hu.kept k1) hm hr).mono ?_; rintro e w2 ⟨rfl, k2⟩; rw [dn]; dsimp only) | (go_at_call 72; refine (itime _ _).mono ?_; rintro e w3 ⟨rfl, hw3⟩; rw [hw3, dt]; clear hw3 w3; dsimp only) | go_values | go_skip | go_guarded | go_step | go_upon)
    go_ret2
    exact ⟨_, rfl, nil_num _ _ _, k1.trans k2⟩
  have dt : decide (0 ≤ most ∧ most ≤ 100000) = true := decide_eq_true h3
  rw [comboA_yes ⟨h1, h2, h3⟩]
  have h200 := h1.1
  have HT : Hid (∀ k, ∀ d ∈ onD l k, 0 ≤ d.1 ∧ d.1 ≤ 100000) := fun k d hd => moms_time h1 d (onD_mem l k d hd)
  have hc1 := h2.1.1
  go_enter Try.func42, Try.ntmps42
  repeat (first | (go_at_call 78; refine (imoms l _ _ hv hn hs).mono ?_; rintro e w1 ⟨rfl, k1⟩; rw [dm]; dsimp only) | (go_at_call 80; refine (igcombo cs _ _ (hu.kept k1) hm hr).mono ?_; rintro e w2 ⟨rfl, k2⟩; rw [dn]; dsimp only) | (go_at_call 72; refine (itime _ _).mono ?_; rintro e w3 ⟨rfl, hw3⟩; rw [hw3, dt]; clear hw3 w3; dsimp only) | go_values | go_skip | go_guarded | go_step | go_upon)
  clear dm dn dt h1 h2 h3
  have K2 : Kept w w2 := k1.trans k2
  clear k1 k2
  have s2 := K2.size
  go_loopw [8, 9, 27] (fun ev ov i wr => ∃ (k : Nat), k ≤ l.length ∧ i = .int .i64 k ∧ NumO wr w2.heap.size wr.heap.size ev (comboK l cs most k) ∧ MeantO wr w2.heap.size wr.heap.size ov (onD l k) ∧ Kept w2 wr) (fun ev ov i _ => l.length - (intOf i).toNat)
  case atStart => exact ⟨0, by omega, rfl, nil_num _ _ _, nil_meant _ _ _, But.refl _ _ _⟩
  case round =>
    obtain ⟨k, hk, rfl, oe, oo, hkp⟩ := hrel
    have hel := combo_len l cs most k
    have hol := on_len l k
    have hol1 := on_len l (k + 1)
    by_cases hlt : k < l.length
    · obtain ⟨d, hd⟩ : ∃ p, l[k]? = some p := ⟨_, List.getElem?_eq_getElem hlt⟩
      obtain ⟨b, o, cap1, ee, c0, c1, c2⟩ := meant_get (hv.kept (K2.trans hkp)) hd
      cases ee
      have hb1 : b < wr.heap.size := World.block_lt_of_cell? _ _ c0
      obtain ⟨t0, nm, on⟩ := d
      dsimp only at c0 c1 c2
      obtain ⟨ae, pe, hf⟩ := oe.form
      subst hf
      obtain ⟨ag, pg, hf⟩ := oo.form
      subst hf
      have sr := hkp.size
      cases on with
      | false =>
        have HOF : Hid (comboK l cs most (k + 1) = comboK l cs most k) := combo_off hd rfl
        have HON : Hid (onD l (k + 1) = onD l k) := (on_no hd rfl).2
        have OE : Hid (NumO wr w2.heap.size wr.heap.size (.slice ae (comboK l cs most k).length pe) (comboK l cs most k)) := oe
        have OO : Hid (MeantO wr w2.heap.size wr.heap.size (.slice ag (onD l k).length pg) (onD l k)) := oo
        have HK : Hid (Kept w2 wr) := hkp
        clear hd hkp oe oo hol1 hv hu
        repeat (first | go_values | go_skip | go_guarded | go_step | go_upon)
        refine ⟨⟨k + 1, hlt, by go_num, ?_, ?_, HK.out.alloc _⟩, by simp [intOf]; omega⟩
        · rw [HOF.out]; exact (OE.out.kept ((But.refl _ _ wr).alloc _)).mono (Nat.le_refl _) (by simp)
        · rw [HON.out]; exact (OO.out.kept ((But.refl _ _ wr).alloc _)).mono (Nat.le_refl _) (by simp)
      | true =>
        have hon := (on_yes hd rfl).2
        have HON : Hid (onD l (k + 1) = onD l k ++ [(t0, nm, true)]) := hon
        have HYES : Hid (EndP (onD l (k + 1)) cs most → comboK l cs most (k + 1) = comboK l cs most k ++ [(k : Int)]) := fun h => combo_yes hd rfl h
        have HNO : Hid (¬ EndP (onD l (k + 1)) cs most → comboK l cs most (k + 1) = comboK l cs most k) := fun h => combo_no hd h
        obtain ⟨E, hE⟩ : ∃ E, comboK l cs most k = E := ⟨_, rfl⟩
        obtain ⟨G, hG⟩ : ∃ G, onD l k = G := ⟨_, rfl⟩
        obtain ⟨F, hF⟩ : ∃ F, onD l (k + 1) = F := ⟨_, rfl⟩
        have HTF : Hid (∀ d ∈ F, 0 ≤ d.1 ∧ d.1 ≤ 100000) := by rw [← hF]; exact HT.out (k + 1)
        rw [hE] at oe HYES HNO hel ⊢
        rw [hG] at oo hol HON ⊢
        rw [hF] at HON HYES HNO hol1
        have HF : Hid (onD l (k + 1) = F) := hF
        have OE : Hid (NumO wr w2.heap.size wr.heap.size (.slice ae E.length pe) E) := oe
        have OO : Hid (MeantO wr w2.heap.size wr.heap.size (.slice ag G.length pg) G) := oo
        have HK : Hid (Kept w2 wr) := hkp
        have HFl : Hid (F.length ≤ 1048576) := by show _ ≤ _; omega
        clear hd hkp oe oo hon hE hG hF hv HT
        repeat (first | (at_builtin; refine forgetL (fun w' => w' = _) rfl ?_) | go_values | go_skip | go_guarded | go_step | go_upon)
        intro W7 hW7
        rw [hW7]
        clear hW7 W7
        have Lv := Loc.new wr [.int .i64 t0, .string nm, .bool true] 31
        refine app1_meant rfl _ _ rfl (lo := w2.heap.size) (hi := wr.heap.size) rfl (OO.out.kept (((But.refl _ _ wr).alloc _).alloc _)) (t0, nm, true) rfl ((by have := Loc.new (wr.alloc (.cells #[.int .i64 t0, .string nm, .bool true] 31)) [.int .i64 t0, .string nm, .bool true] 31; simp only [World.size_alloc] at this; exact this)) (by omega) (by simp; omega) ?_
        intro v3 w3 o3 b3 a3'
        have BT3 := b3
        have b3 := But.inner b3 (OO.out.kept (((But.refl _ _ wr).alloc (.cells #[.int .i64 t0, .string nm, .bool true] 31)).alloc (.cells #[.int .i64 t0, .string nm, .bool true] 31)))
        rw [← HON.out] at o3
        obtain ⟨a3, p3, hf⟩ := o3.form
        subst hf
        have K3 : Kept w2 w3 := But.onto ((HK.out.alloc _).alloc _) b3 (Nat.le_refl _)
        have OE3 : Hid (NumO w3 w2.heap.size w3.heap.size (.slice ae E.length pe) E) := by
          show NumO _ _ _ _ _
          refine NumO.low (lo := w2.heap.size) (hi := wr.heap.size) ?_
          have h1 := OE.out.kept (((But.refl _ _ wr).alloc (.cells #[.int .i64 t0, .string nm, .bool true] 31)).alloc (.cells #[.int .i64 t0, .string nm, .bool true] 31))
          have h2 := OO.out.kept (((But.refl _ _ wr).alloc (.cells #[.int .i64 t0, .string nm, .bool true] 31)).alloc (.cells #[.int .i64 t0, .string nm, .bool true] 31))
          exact RowO.apart h1 BT3 (ap_types h1 h2 (by decide))
        have HO3 : Hid (MeantO w3 w2.heap.size w3.heap.size (.slice a3 F.length p3) F) := o3
        have HK3 : Hid (Kept w2 w3) := K3
        have s3 := K3.size
        have HE : Hid (Calls Try.prog 81 #[.slice a3 F.length p3, .slice ao' cs.length cap', .int .i64 most] w3 fun e w' => e = .returned (.bool (dec (EndP F cs most))) ∧ Kept w3 w') := iends F cs most _ _ w3 o3.at (hu.kept (K2.trans K3)) HFl.out ⟨hc1, hm⟩ HTF.out
        clear o3 b3 BT3 K3 Lv hu
        rcases (Classical.em (EndP F cs most)).symm with he | he
        · rw [dec_no he] at HE
          have HEQ : Hid (comboK l cs most (k + 1) = E) := HNO.out he
          clear HYES HNO he
          repeat (first | (go_at_call 81; refine HE.out.mono ?_; rintro e w4 ⟨rfl, k4⟩; dsimp only) | go_values | go_skip | go_guarded | go_step | go_upon)
          refine ⟨⟨k + 1, hlt, by go_num, ?_, ?_, HK3.out.trans k4⟩, by simp [intOf]; omega⟩
          · rw [HEQ.out]; exact (OE3.out.kept k4).low
          · rw [HF.out]; exact (HO3.out.kept k4).low
        · rw [dec_yes he] at HE
          have HEQ : Hid (comboK l cs most (k + 1) = E ++ [(k : Int)]) := HYES.out he
          clear HYES HNO he
          repeat (first | (go_at_call 81; refine HE.out.mono ?_; rintro e w4 ⟨rfl, k4⟩; dsimp only) | (at_builtin; refine forgetL (fun w' => w' = _) rfl ?_) | go_values | go_skip | go_guarded | go_step | go_upon)
          intro W7 hW7
          rw [hW7]
          clear hW7 W7
          have s4 := k4.size
          refine app1_num rfl _ _ rfl (lo := w2.heap.size) (hi := w3.heap.size) rfl (OE3.out.kept (k4.trans ((But.refl _ _ _).alloc _))) (k : Int) rfl (Loc.new w4 [.int .i64 (k : Int)] 3) (by omega) (by simp; omega) ?_
          intro v5 w5 o5 b5 a5
          have g1 := OE3.out.kept (k4.trans ((But.refl _ _ w4).alloc (.cells #[.int .i64 (k : Int)] 3)))
          have g2 := HO3.out.kept (k4.trans ((But.refl _ _ w4).alloc (.cells #[.int .i64 (k : Int)] 3)))
          have HO5 : Hid (MeantO w5 w2.heap.size w5.heap.size (.slice a3 F.length p3) F) := MeantO.low (RowO.apart g2 b5 (ap_types g2 g1 (by decide)))
          have HK5 : Hid (Kept w2 w5) := But.onto ((HK3.out.trans k4).alloc _) (But.inner b5 g1) (Nat.le_refl _)
          have HE5 : Hid (NumO w5 w2.heap.size w5.heap.size v5 (E ++ [(k : Int)])) := o5
          clear o5 b5 a5 g1 g2
          repeat (first | go_values | go_skip | go_guarded | go_step | go_upon)
          refine ⟨⟨k + 1, hlt, by go_num, ?_, ?_, HK5.out⟩, by simp [intOf]; omega⟩
          · rw [HEQ.out]; exact HE5.out
          · rw [HF.out]; exact HO5.out
    · have hke : k = l.length := by omega
      subst hke
      obtain ⟨ae, pe, hf⟩ := oe.form
      subst hf
      have OE : Hid (NumO wr w2.heap.size wr.heap.size (.slice ae (comboK l cs most l.length).length pe) (comboK l cs most l.length)) := oe
      have HK : Hid (Kept w2 wr) := hkp
      obtain ⟨ag, pg, hf⟩ := oo.form
      subst hf
      clear oe oo hkp hv hu
      go_wp2
      go_ret2
      exact ⟨_, rfl, OE.out.mono (by omega) (Nat.le_refl _), K2.trans HK.out⟩

end Go.Proofs.Ythkfpbknfjapaaa
