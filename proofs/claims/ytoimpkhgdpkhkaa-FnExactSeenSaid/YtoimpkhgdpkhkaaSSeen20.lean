/-
  Which items are seen, in the specification.
-/
import Derived.Test.YtoimpkhgdpkhkaaSeenP20
namespace Go.Proofs.Ytoimpkhgdpkhkaa
open Go.ChangeShapes Go.WideShapes Go.ChangeAt Go.RowKit

set_option maxRecDepth 100000
set_option linter.unusedVariables false
set_option linter.unusedSimpArgs false

set_option maxHeartbeats 16000000 in
theorem sseen (l : List ItemD) (x y a b : Int) (v : Value) (w : World) (hv : ItemAt w v l) (hn : l.length ≤ 1048576) :
    Calls Try.prog 13 #[v, .agg #[.int .i64 x, .int .i64 y, .int .i64 a, .int .i64 b]] w fun e w' => ∃ v', e = .returned (.tuple #[v', .bool (seenA l x y a b).2]) ∧ NumO w' w.heap.size w'.heap.size v' (seenA l x y a b).1 ∧ Kept w w' := by
  obtain ⟨ao, cap, hsl⟩ := row_nil hv
  subst hsl
  have NO : Hid (¬ SeenP l x y a b → seenA l x y a b = ([], false)) := fun h => if_neg h
  have YES : Hid (SeenP l x y a b → seenA l x y a b = (seenN l x y a b l.length, true)) := fun h => if_pos h
  generalize seenA l x y a b = R at *
  by_cases h1 : 60 < l.length
  · have hR := NO.out (fun h => by have := h.1; omega)
    subst hR
    have d1 : decide ((60 : Int) < (l.length : Int)) = true := decide_eq_true (by omega)
    clear NO YES
    go_enter Try.func13, Try.ntmps13
    repeat (first | go_values | go_skip | go_guarded | go_step | go_upon)
    go_ret2
    exact ⟨_, rfl, nil_num _ _ _, ((But.refl _ _ _).alloc _)⟩
  have d1 : decide ((60 : Int) < (l.length : Int)) = false := decide_eq_false (by omega)
  rcases (Decidable.em (BoxP x y a b)).symm with h2 | h2
  · have hR := NO.out (fun h => h2 h.2.1)
    subst hR
    have d2 : decide (BoxP x y a b) = false := decide_eq_false h2
    clear NO YES h2
    go_enter Try.func13, Try.ntmps13
    repeat (first | (go_at_call 36; refine (sbox _ _ _ _ _).mono ?_; rintro e u1 ⟨rfl, k1⟩; rw [d2]; dsimp only; have K1 : Kept w u1 := ((But.refl _ _ _).alloc _).trans k1; have Lv := (Loc.new w [.int .i64 x, .int .i64 y, .int .i64 a, .int .i64 b] 27).kept k1; clear k1) | go_values | go_skip | go_guarded | go_step | go_upon)
    go_ret2
    exact ⟨_, rfl, nil_num _ _ _, K1⟩
  have d2 : decide (BoxP x y a b) = true := decide_eq_true h2
  have HB : Hid (BoxP x y a b) := h2
  clear h2
  go_enter Try.func13, Try.ntmps13
  repeat (first | (go_at_call 36; refine (sbox _ _ _ _ _).mono ?_; rintro e u1 ⟨rfl, k1⟩; rw [d2]; dsimp only; have K1 : Kept w u1 := ((But.refl _ _ _).alloc _).trans k1; have Lv := (Loc.new w [.int .i64 x, .int .i64 y, .int .i64 a, .int .i64 b] 27).kept k1; clear k1) | go_values | go_skip | go_guarded | go_step | go_upon)
  clear d1 d2
  have hub := Lv.lt
  go_loopw [6, 19] (fun s i wr => ∃ (k : Nat), k ≤ l.length ∧ i = .int .i64 k ∧ Hid (∀ j, j < k → ∀ p, l[j]? = some p → ItemP p) ∧ NumO wr u1.heap.size wr.heap.size s (seenN l x y a b k) ∧ Loc wr w.heap.size [.int .i64 x, .int .i64 y, .int .i64 a, .int .i64 b] ∧ u1.heap.size ≤ wr.heap.size ∧ Kept w wr) (fun s i _ => l.length - (intOf i).toNat)
  case atStart => exact ⟨0, by omega, rfl, fun j hj => by omega, nil_num _ _ _, Lv, Nat.le_refl _, K1⟩
  case round =>
    clear Lv K1
    obtain ⟨k, hk, rfl, HP, ho, lv, hus, hkp⟩ := hrel
    obtain ⟨ao6, cap6, hf6⟩ := ho.form
    subst hf6
    by_cases hlt : k < l.length
    · obtain ⟨p, hp⟩ : ∃ p, l[k]? = some p := ⟨_, List.getElem?_eq_getElem hlt⟩
      obtain ⟨g, o, cap1, ee, c0, c1, c2, c3, c4, c5, c6, c7, c8⟩ := item_get (hv.kept hkp) hp
      cases ee
      have HG : Hid (l[k]? = some p) := hp
      have HO : Hid (NumO wr u1.heap.size wr.heap.size (.slice ao6 (seenN l x y a b k).length cap6) (seenN l x y a b k)) := ho
      have HV : Hid (Loc wr w.heap.size [.int .i64 x, .int .i64 y, .int .i64 a, .int .i64 b]) := lv
      have HK : Hid (Kept w wr) := hkp
      have HL6 : Hid ((seenN l x y a b k).length ≤ k) := seenN_len l x y a b k
      obtain ⟨p0, p1, p2, p3, p4, p5, p6, p7, p8⟩ := p
      dsimp only at c0 c1 c2 c3 c4 c5 c6 c7 c8
      obtain ⟨M, hM⟩ : ∃ M, (seenN l x y a b k).length = M := ⟨_, rfl⟩
      rw [hM] at HO HL6
      have hM' : Hid ((seenN l x y a b k).length = M) := hM
      rw [hM]
      clear hp ho lv hkp hv hM
      have q1 : (0 : Int) ≤ (k : Int) := by omega
      have q2 : (k : Int) < (l.length : Int) := by omega
      rcases (Decidable.em (ItemP (p0, p1, p2, p3, p4, p5, p6, p7, p8))).symm with hi | hi
      · have di : decide (ItemP (p0, p1, p2, p3, p4, p5, p6, p7, p8)) = false := decide_eq_false hi
        have hR := NO.out (fun h => hi (h.2.2 _ (List.mem_of_getElem? HG.out)))
        subst hR
        clear hi
        repeat (first | (go_at_call 9; refine (sitem _ _ _ _ _ _ _ _ _ _).mono ?_; rintro e u2 ⟨rfl, k2⟩; rw [di]; dsimp only) | go_values | go_skip | go_guarded | go_step | go_upon)
        go_ret2
        exact ⟨_, rfl, nil_num _ _ _, (HK.out.alloc _).trans k2⟩
      have di : decide (ItemP (p0, p1, p2, p3, p4, p5, p6, p7, p8)) = true := decide_eq_true hi
      have HI2 : Hid (BoxP p5 p6 p7 p8) := hi.2
      have HP2 : Hid (∀ j, j < k + 1 → ∀ p, l[j]? = some p → ItemP p) := fun j hj p hp => by
        by_cases hjk : j = k
        · subst hjk
          rw [HG.out] at hp
          cases hp
          exact hi
        · exact HP.out j (by omega) p hp
      clear hi
      have lw : Loc (wr.alloc (.cells #[.int .i64 p0, .int .i64 p1, .int .i64 p2, .int .i64 p3, .bool p4, .int .i64 p5, .int .i64 p6, .int .i64 p7, .int .i64 p8] 29)) w.heap.size [.int .i64 x, .int .i64 y, .int .i64 a, .int .i64 b] := HV.out.alloc _
      have li : Loc (wr.alloc (.cells #[.int .i64 p0, .int .i64 p1, .int .i64 p2, .int .i64 p3, .bool p4, .int .i64 p5, .int .i64 p6, .int .i64 p7, .int .i64 p8] 29)) wr.heap.size [.int .i64 p0, .int .i64 p1, .int .i64 p2, .int .i64 p3, .bool p4, .int .i64 p5, .int .i64 p6, .int .i64 p7, .int .i64 p8] := Loc.new wr _ 29
      have hlw := HV.out.lt
      repeat (first | (go_at_call 9; refine (sitem _ _ _ _ _ _ _ _ _ _).mono ?_; rintro e u2 ⟨rfl, k2⟩; rw [di]; dsimp only; have lw := lw.kept k2; have li := li.kept k2; have b0 := lw.cell 0 rfl; have b1 := lw.cell 1 rfl; have b2 := lw.cell 2 rfl; have b3 := lw.cell 3 rfl; have i5 := li.cell 5 rfl; have i6 := li.cell 6 rfl; have i7 := li.cell 7 rfl; have i8 := li.cell 8 rfl; have bl := lw.lt; have il := li.lt) | go_values | go_skip | go_guarded | go_step | go_upon)
      go_at_call 39
      refine (smeet p5 p6 p7 p8 x y a b u2 HI2.out HB.out).mono ?_
      rintro e u3 ⟨rfl, k3⟩
      have hs2 := k2.size
      have hs3 := k3.size
      simp only [World.size_alloc] at hs2
      have k23 : Kept wr u3 := ((But.refl _ _ _).alloc _).trans (k2.trans k3)
      have O3 := (HO.out.kept k23)
      have lv := HV.out.kept k23
      have K3 := HK.out.trans k23
      have HLV : Hid (Loc u3 w.heap.size [.int .i64 x, .int .i64 y, .int .i64 a, .int .i64 b]) := lv
      have HK3 : Hid (Kept w u3) := K3
      have H23 : Hid (wr.heap.size < u3.heap.size) := show _ < _ by omega
      have HO3 : Hid (NumO u3 u1.heap.size wr.heap.size (.slice ao6 M cap6) (seenN l x y a b k)) := O3
      clear b0 b1 b2 b3 i5 i6 i7 i8 bl il lw li k2 k3 k23 O3 lv K3 hs2 hs3 c0 c1 c2 c3 c4 c5 c6 c7 c8 hlw
      cases hm : decide (MeetP p5 p6 p7 p8 x y a b) with
      | false =>
        dsimp only
        have HS : Hid (seenN l x y a b (k + 1) = seenN l x y a b k) := seenN_no HG.out hm
        clear hm
        repeat (first | go_values | go_skip | go_guarded | go_step | go_upon)
        have h23 := H23.out
        exact ⟨⟨k + 1, hlt, by go_num, HP2.out, by rw [HS.out]; exact HO3.out.low, HLV.out, by omega, HK3.out⟩, by simp [intOf]; omega⟩
      | true =>
        dsimp only
        have HS : Hid (seenN l x y a b (k + 1) = seenN l x y a b k ++ [(k : Int)]) := seenN_yes HG.out hm
        clear hm
        have O5 : NumO (u3.alloc (.cells #[.int .i64 (k : Int)] 3)) u1.heap.size wr.heap.size (.slice ao6 M cap6) (seenN l x y a b k) := HO3.out.kept ((But.refl _ _ _).alloc _)
        have L5 : Loc (u3.alloc (.cells #[.int .i64 (k : Int)] 3)) u3.heap.size (numC (k : Int)) := Loc.new u3 _ 3
        have HO5 : Hid _ := O5
        have HL5 : Hid _ := L5
        clear O5 L5
        repeat (first
          | (at_builtin
             refine app_num rfl _ _ rfl rfl HO5.out rfl (one_num HL5.out) rfl (by have h1 := HL6.out; have h2 := hM'.out; simp only [List.length_singleton]; omega) (by have h3 := H23.out; simp; omega) ?_
             intro v7 u7 o7 b7
             obtain ⟨ao7, cap7, hf7⟩ := o7.form
             subst hf7)
          | go_values | go_skip | go_guarded | go_step | go_upon)
        have h23 := H23.out
        have hs7 := b7.size
        simp only [World.size_alloc] at hs7
        have B7 : But u1.heap.size wr.heap.size u3 u7 := ((But.refl _ _ _).alloc _).trans b7
        exact ⟨⟨k + 1, hlt, by go_num, HP2.out, by rw [HS.out]; rw [List.length_append, List.length_singleton] at o7; exact o7, HLV.out.but B7 (by omega), by omega, HK3.out.onto B7 (by omega)⟩, by simp [intOf]; omega⟩
    · have hke : k = l.length := by omega
      subst hke
      have hR := YES.out ⟨by omega, HB.out, fun p hp => by
        obtain ⟨j, hj, e⟩ := List.mem_iff_getElem.1 hp
        exact HP.out j hj p (by rw [List.getElem?_eq_getElem hj, e])⟩
      subst hR
      have HO : Hid (NumO wr u1.heap.size wr.heap.size (.slice ao6 (seenN l x y a b l.length).length cap6) (seenN l x y a b l.length)) := ho
      have HK : Hid (Kept w wr) := hkp
      clear ho hkp lv
      repeat (first | go_values | go_skip | go_guarded | go_step | go_upon)
      go_ret2
      exact ⟨_, rfl, HO.out.mono (by omega) (Nat.le_refl _), HK.out⟩

end Go.Proofs.Ytoimpkhgdpkhkaa
