/-
  What goodParts and GoodWorld answer in the program: whether a world is good.
-/
import Derived.Test.YtajelalimiobeaaName
import Derived.Test.YtajelalimiobeaaData
import Derived.Test.YtajelalimiobeaaLess
import Derived.WalkLawsBesides
namespace Go.Proofs.Ytajelalimiobeaa
open Go.ChangeShapes Go.WideShapes Go.ChangeAt Go.RowKit

def okP (T : Int) (ps : List PD) (i : Nat) (p : PD) : Prop := nameB p.1 = true ∧ 0 ≤ p.2.2 ∧ p.2.2 ≤ T ∧ (∀ q, 0 < i → ps[i - 1]? = some q → less q.1 p.1 = true)
def GoodPs (T : Int) (ps : List PD) : Prop := ps.length ≤ 12 ∧ ∀ (i : Nat) p, ps[i]? = some p → okP T ps i p
def okE (D : WD) (i : Nat) (e : ED) : Prop := 1 ≤ e.1 ∧ e.1 ≤ D.1 - 1 ∧ (∀ q, 0 < i → D.2.2[i - 1]? = some q → q.1 < e.1) ∧ GoodPs D.2.1 e.2
def GoodW (D : WD) : Prop := 1 ≤ D.1 ∧ D.1 ≤ 1000000 ∧ 0 ≤ D.2.1 ∧ D.2.1 ≤ 1000000 ∧ D.2.2.length ≤ 60 ∧ ∀ (i : Nat) e, D.2.2[i]? = some e → okE D i e
def BoolEnd (P : Prop) (e : Ending) : Prop := ∃ b : Bool, e = .returned (.bool b) ∧ (b = true ↔ P)
theorem be_no {P : Prop} {v : Value} (hv : v = .bool false) (h : ¬ P) : BoolEnd P (.returned v) := ⟨false, by rw [hv], by simp [h]⟩
theorem be_yes {P : Prop} {v : Value} (hv : v = .bool true) (h : P) : BoolEnd P (.returned v) := ⟨true, by rw [hv], by simp [h]⟩
theorem name_pos {s : ByteArray} (h : nameB s = true) : 1 ≤ s.size := ((nameB_iff s).1 h).1

theorem okP_iff {T : Int} {ps : List PD} {k : Nat} {p : PD} {s : ByteArray} (hp : ps[k]? = some p) (h0 : k = 0 → s = ⟨#[]⟩) (hq : ∀ q, 0 < k → ps[k - 1]? = some q → s = q.1) :
    okP T ps k p ↔ nameB p.1 = true ∧ (Op.bytesLess p.1.toList s.toList = false ∧ ¬ p.1.toList = s.toList) ∧ 0 ≤ p.2.2 ∧ p.2.2 ≤ T := by
  have key : nameB p.1 = true → ((∀ q, 0 < k → ps[k - 1]? = some q → less q.1 p.1 = true) ↔ (Op.bytesLess p.1.toList s.toList = false ∧ ¬ p.1.toList = s.toList)) := by
    intro hn
    by_cases e : k = 0
    · have hs := h0 e
      subst hs
      refine ⟨fun _ => ⟨?_, ?_⟩, fun _ q h => by omega⟩
      · have : (⟨#[]⟩ : ByteArray).toList = [] := by rw [ByteArray.toList_eq]
        rw [this]
        cases p.1.toList <;> rfl
      · intro e2
        have := toList_inj e2
        have h1 := name_pos hn
        rw [this] at h1
        simp [ByteArray.size] at h1
    · have hk : k < ps.length := (List.getElem?_eq_some_iff.1 hp).1
      obtain ⟨q, hqq⟩ : ∃ q, ps[k - 1]? = some q := ⟨_, List.getElem?_eq_getElem (by omega)⟩
      have hs := hq q (by omega) hqq
      subst hs
      constructor
      · intro h
        have h1 := h q (by omega) hqq
        refine ⟨bl_asym _ _ h1, fun e2 => ?_⟩
        have := toList_inj e2
        rw [this, less_irr] at h1
        cases h1
      · intro h q' _ hq'
        rw [hqq] at hq'
        cases hq'
        exact bl_tri _ _ h.1 h.2
  unfold okP
  constructor
  · rintro ⟨h1, h2, h3, h4⟩
    exact ⟨h1, (key h1).1 h4, h2, h3⟩
  · rintro ⟨h1, h4, h2, h3⟩
    exact ⟨h1, h2, h3, (key h1).2 h4⟩

set_option maxHeartbeats 2000000 in
theorem goodParts (ps : List PD) (T : Int) (v : Value) (w : World) (hv : PartsAt w v ps) (hs : psum ps ≤ 1048576) (hn : ps.length ≤ 1048576) :
    Calls Try.prog 71 #[v, .int .i64 T] w fun e w' => BoolEnd (GoodPs T ps) e ∧ Kept w w' := by
  obtain ⟨ao, cap, hsl⟩ := row_nil hv
  subst hsl
  by_cases h12 : 12 < ps.length
  · go_enter Try.func71, Try.ntmps71
    go_wp2
    go_ret
    exact ⟨be_no rfl (fun h => by have := h.1; omega), But.refl _ _ _⟩
  have h12' : decide (12 < (ps.length : Int)) = false := by simp; omega
  go_enter Try.func71, Try.ntmps71
  go_wp2
  clear h12'
  go_loopw [5, 13] (fun l i wr => ∃ (k : Nat) (s : ByteArray), k ≤ ps.length ∧ i = .int .i64 k ∧ l = .string s ∧ (∀ j p, j < k → ps[j]? = some p → okP T ps j p) ∧ (k = 0 → s = ⟨#[]⟩) ∧ (∀ q, 0 < k → ps[k - 1]? = some q → s = q.1) ∧ Kept w wr) (fun l i _ => ps.length - (intOf i).toNat)
  case atStart => exact ⟨0, _, by omega, rfl, rfl, fun j p hj => by omega, fun _ => rfl, fun q h => by omega, But.refl _ _ _⟩
  case round =>
    obtain ⟨k, s, hk, rfl, rfl, hok, hs0, hsq, hkp⟩ := hrel
    by_cases hlt : k < ps.length
    · obtain ⟨p, hp⟩ : ∃ p, ps[k]? = some p := ⟨_, List.getElem?_eq_getElem hlt⟩
      obtain ⟨b, o, cap1, e, c0, c1, c2⟩ := parts_get (hv.kept hkp) hp
      cases e
      have hnl : p.1.size ≤ 1048576 := by have := name_le hp; omega
      have hiff := okP_iff (T := T) hp hs0 hsq
      have HO : Hid ((∀ j p, j < k → ps[j]? = some p → okP T ps j p)) := hok
      clear hok hs0 hsq hv
      by_cases hg : okP T ps k p
      · obtain ⟨g1, ⟨g2, g3⟩, g4, g5⟩ := hiff.1 hg
        have g3' : (p.1.toList == s.toList) = false := by simpa using g3
        have d4 : decide (p.2.2 < 0) = false := by simp; omega
        have d5 : decide (T < p.2.2) = false := by simp; omega
        have HG : Hid _ := hg
        clear hg hiff g3 g4 g5
        go_wp2_with (go_at_call 104; refine (iname _ _ hnl).mono ?_; rintro e w' ⟨rfl, rfl⟩)
        refine ⟨⟨k + 1, _, hlt, by go_num, rfl, fun j x hj hx => ?_, fun h => by omega, fun q _ hq => ?_, hkp.alloc _⟩, by simp [intOf]; omega⟩
        · by_cases e : j = k
          · subst e
            rw [hp] at hx
            cases hx
            exact HG.out
          · exact HO.out j x (by omega) hx
        · rw [Nat.add_sub_cancel, hp] at hq
          cases hq
          rfl
      · have hway : nameB p.1 = false ∨ (nameB p.1 = true ∧ Op.bytesLess p.1.toList s.toList = true) ∨ (nameB p.1 = true ∧ Op.bytesLess p.1.toList s.toList = false ∧ (p.1.toList == s.toList) = true) ∨ (nameB p.1 = true ∧ Op.bytesLess p.1.toList s.toList = false ∧ (p.1.toList == s.toList) = false ∧ p.2.2 < 0) ∨ (nameB p.1 = true ∧ Op.bytesLess p.1.toList s.toList = false ∧ (p.1.toList == s.toList) = false ∧ decide (p.2.2 < 0) = false ∧ T < p.2.2) := by
          cases q1 : nameB p.1 with
          | false => exact .inl rfl
          | true =>
            refine .inr ?_
            cases q2 : Op.bytesLess p.1.toList s.toList with
            | true => exact .inl ⟨rfl, rfl⟩
            | false =>
              refine .inr ?_
              cases q3 : (p.1.toList == s.toList) with
              | true => exact .inl ⟨rfl, rfl, rfl⟩
              | false =>
                refine .inr ?_
                by_cases q4 : p.2.2 < 0
                · exact .inl ⟨rfl, rfl, rfl, q4⟩
                · refine .inr ⟨rfl, rfl, rfl, by simpa using q4, ?_⟩
                  refine Int.not_le.1 fun q5 => hg (hiff.2 ⟨q1, ⟨q2, by simpa using q3⟩, by omega, q5⟩)
        have HG : Hid (¬ okP T ps k p) := hg
        clear hg hiff
        rcases hway with h1 | ⟨h1, h2⟩ | ⟨h1, h2, h3⟩ | ⟨h1, h2, h3, h4⟩ | ⟨h1, h2, h3, h4, h5⟩
        all_goals
          go_wp2_with (go_at_call 104; refine (iname _ _ hnl).mono ?_; rintro e w' ⟨rfl, rfl⟩)
          go_ret
          exact ⟨be_no rfl (fun h => HG.out (h.2 k p hp)), hkp.alloc _⟩
    · have hke : k = ps.length := by omega
      subst hke
      go_wp2
      go_ret
      exact ⟨be_yes rfl ⟨by omega, fun i p hp => hok i p (List.getElem?_eq_some_iff.1 hp).1 hp⟩, hkp⟩

/-- A good world, step by step: the entity behind the last one that was looked at. -/
theorem okE_iff {D : WD} {k : Nat} {e : ED} {last : Int} (hp : D.2.2[k]? = some e) (h0 : k = 0 → last = 0) (hq : ∀ q, 0 < k → D.2.2[k - 1]? = some q → last = q.1) :
    (1 ≤ e.1 ∧ e.1 ≤ D.1 - 1 ∧ (∀ q, 0 < k → D.2.2[k - 1]? = some q → q.1 < e.1)) ↔ last < e.1 ∧ e.1 < D.1 ∧ 1 ≤ e.1 := by
  constructor
  · rintro ⟨a, b, c⟩
    refine ⟨?_, by omega, a⟩
    by_cases e0 : k = 0
    · rw [h0 e0]; omega
    · have hk : k < D.2.2.length := (List.getElem?_eq_some_iff.1 hp).1
      obtain ⟨q, hqq⟩ : ∃ q, D.2.2[k - 1]? = some q := ⟨_, List.getElem?_eq_getElem (by omega)⟩
      rw [hq q (by omega) hqq]
      exact c q (by omega) hqq
  · rintro ⟨a, b, c⟩
    exact ⟨c, by omega, fun q hk hqq => by rw [hq q hk hqq] at a; exact a⟩

set_option maxHeartbeats 4000000 in
theorem implGood (D : WD) (v : Value) (w : World) (hv : WAt w v D) (hc : ecost D.2.2 ≤ 1048576) :
    Calls Try.prog 27 #[v] w fun e w' => BoolEnd (GoodW D) e ∧ Kept w w' := by
  obtain ⟨ev, zs, rfl, he, hes⟩ := hv
  obtain ⟨ao, cap, hsl⟩ := row_nil he.1
  subst hsl
  have hzl : zs.length = D.2.2.length := by rw [← hes]; simp
  have HE : Hid (zs.map strip = D.2.2 ∧ zs.length = D.2.2.length) := ⟨hes, hzl⟩
  by_cases hh : 1 ≤ D.1 ∧ D.1 ≤ 1000000 ∧ 0 ≤ D.2.1 ∧ D.2.1 ≤ 1000000 ∧ zs.length ≤ 60
  · obtain ⟨g1, g2, g3, g4, g5⟩ := hh
    have d1 : decide (D.1 < 1) = false := by simp; omega
    have d2 : decide (1000000 < D.1) = false := by simp; omega
    have d3 : decide (D.2.1 < 0) = false := by simp; omega
    have d4 : decide (1000000 < D.2.1) = false := by simp; omega
    have d5 : decide (60 < (zs.length : Int)) = false := by simp; omega
    have HG : Hid (1 ≤ D.1 ∧ D.1 ≤ 1000000 ∧ 0 ≤ D.2.1 ∧ D.2.1 ≤ 1000000 ∧ zs.length ≤ 60) := ⟨g1, g2, g3, g4, g5⟩
    clear hes hzl
    go_enter Try.func27, Try.ntmps27
    go_wp2
    go_loopw [3, 33] (fun l i wr => ∃ (k : Nat) (s : Int), k ≤ zs.length ∧ i = .int .i64 k ∧ l = .int .i64 s ∧ (∀ j e, j < k → D.2.2[j]? = some e → okE D j e) ∧ (k = 0 → s = 0) ∧ (∀ q, 0 < k → D.2.2[k - 1]? = some q → s = q.1) ∧ 0 ≤ s ∧ Loc wr w.heap.size [.int .i64 D.1, .int .i64 D.2.1, .slice ao zs.length cap] ∧ Kept w wr) (fun l i _ => zs.length - (intOf i).toNat)
    case atStart => exact ⟨0, 0, by omega, rfl, rfl, fun j p hj => by omega, fun _ => rfl, fun q h => by omega, by omega, Loc.new _ [.int .i64 D.1, .int .i64 D.2.1, .slice ao zs.length cap] _, (But.refl _ _ _).alloc _⟩
    case round =>
      obtain ⟨k, s, hk, rfl, rfl, hok, hs0, hsq, hsp, hL, hkp⟩ := hrel
      by_cases hlt : k < zs.length
      · obtain ⟨z, hz⟩ : ∃ z, zs[k]? = some z := ⟨_, List.getElem?_eq_getElem hlt⟩
        have hek : D.2.2[k]? = some (strip z) := by rw [← HE.out.1, List.getElem?_map, hz]; rfl
        obtain ⟨b, o, cap1, ao1, n1, cap2, e1, ez, c0, c1, en, hpa⟩ := ents_get (he.kept hkp) hz
        cases e1
        subst en
        have l0 := hL.cell 0 rfl
        have l1 := hL.cell 1 rfl
        have hlw := hL.lt
        have hcost := parts_le hek
        simp only [strip] at hcost
        have hp1 : psum z.2.2 ≤ 1048576 := by unfold pcost at hcost; unfold ecost at hc; omega
        have hp2 : z.2.2.length ≤ 1048576 := by unfold pcost at hcost; unfold ecost at hc; omega
        have hiff := okE_iff (last := s) hek hs0 hsq
        simp only [strip] at hiff
        have HO : Hid ((∀ j e, j < k → D.2.2[j]? = some e → okE D j e) ∧ D.2.2[k]? = some (strip z)) := ⟨hok, hek⟩
        have HL : Hid _ := hL
        clear hok hs0 hsq hek hL hcost ez d1 d2 d3 d4 d5 g1 g2 g3 g4
        have hway : z.1 ≤ s ∨ (decide (z.1 ≤ s) = false ∧ D.1 ≤ z.1) ∨ (decide (z.1 ≤ s) = false ∧ decide (D.1 ≤ z.1) = false) := by
          by_cases q1 : z.1 ≤ s
          · exact .inl q1
          · by_cases q2 : D.1 ≤ z.1
            · exact .inr (.inl ⟨by simpa using q1, q2⟩)
            · exact .inr (.inr ⟨by simpa using q1, by simpa using q2⟩)
        have HI : Hid _ := hiff
        clear hiff
        rcases hway with h1 | ⟨h1, h2⟩ | ⟨h1, h2⟩
        · go_wp2_with fail
          go_ret
          exact ⟨be_no rfl (fun h => by have h3 := h.2.2.2.2.2 k _ HO.out.2; have h4 := HI.out.1 ⟨h3.1, h3.2.1, h3.2.2.1⟩; omega), hkp.alloc _⟩
        · go_wp2_with fail
          go_ret
          exact ⟨be_no rfl (fun h => by have h3 := h.2.2.2.2.2 k _ HO.out.2; have h4 := HI.out.1 ⟨h3.1, h3.2.1, h3.2.2.1⟩; omega), hkp.alloc _⟩
        · go_wp2_with (go_at_call 71; refine (goodParts z.2.2 D.2.1 _ _ (hpa.kept ((But.refl _ _ wr).alloc _)) hp1 hp2).mono ?_; rintro e w' ⟨⟨bb, rfl, hbb⟩, hk2⟩
                       have HB : Hid (bb = true ↔ GoodPs D.2.1 z.2.2) := hbb
                       have HK : Hid (Kept wr w') := ((But.refl _ _ wr).alloc _).trans hk2
                       have LE := (Loc.new wr [.int .i64 z.1, .slice ao1 z.2.2.length cap2] 36).kept hk2
                       have m0 := LE.cell 0 rfl
                       clear hbb hk2 LE)
          · rename_i hbf
            go_ret
            refine ⟨be_no rfl (fun h => ?_), hkp.trans HK.out⟩
            have h3 := (h.2.2.2.2.2 k _ HO.out.2).2.2.2
            have h4 := HB.out.2 h3
            rw [h4] at hbf
            cases hbf
          · rename_i hbf
            have h4 : bb = true := by simpa using hbf
            have h5 : s < z.1 := by simpa using h1
            have h6 : z.1 < D.1 := by simpa using h2
            have h7 := HI.out.2 ⟨h5, h6, by omega⟩
            refine ⟨⟨k + 1, _, hlt, by go_num, rfl, fun j x hj hx => ?_, fun h => by omega, fun q _ hq => ?_, by omega, Loc.kept HL.out HK.out, hkp.trans HK.out⟩, by simp [intOf]; omega⟩
            · by_cases e : j = k
              · subst e
                rw [HO.out.2] at hx
                cases hx
                exact ⟨h7.1, h7.2.1, h7.2.2, HB.out.1 h4⟩
              · exact HO.out.1 j x (by omega) hx
            · rw [Nat.add_sub_cancel, HO.out.2] at hq
              cases hq
              rfl
      · have hke : k = zs.length := by omega
        subst hke
        go_wp2
        go_ret
        refine ⟨be_yes rfl ⟨HG.out.1, HG.out.2.1, HG.out.2.2.1, HG.out.2.2.2.1, by rw [← HE.out.2]; exact g5, fun i e he => hok i e ?_ he⟩, hkp⟩
        rw [HE.out.2]
        exact (List.getElem?_eq_some_iff.1 he).1
  · have hway : D.1 < 1 ∨ (decide (D.1 < 1) = false ∧ 1000000 < D.1) ∨ (decide (D.1 < 1) = false ∧ decide (1000000 < D.1) = false ∧ D.2.1 < 0) ∨ (decide (D.1 < 1) = false ∧ decide (1000000 < D.1) = false ∧ decide (D.2.1 < 0) = false ∧ 1000000 < D.2.1) ∨ (decide (D.1 < 1) = false ∧ decide (1000000 < D.1) = false ∧ decide (D.2.1 < 0) = false ∧ decide (1000000 < D.2.1) = false ∧ 60 < (zs.length : Int)) := by
      by_cases q1 : D.1 < 1
      · exact .inl q1
      · by_cases q2 : 1000000 < D.1
        · exact .inr (.inl ⟨by simpa using q1, q2⟩)
        · by_cases q3 : D.2.1 < 0
          · exact .inr (.inr (.inl ⟨by simpa using q1, by simpa using q2, q3⟩))
          · by_cases q4 : 1000000 < D.2.1
            · exact .inr (.inr (.inr (.inl ⟨by simpa using q1, by simpa using q2, by simpa using q3, q4⟩)))
            · exact .inr (.inr (.inr (.inr ⟨by simpa using q1, by simpa using q2, by simpa using q3, by simpa using q4, by omega⟩)))
    have HN : Hid (¬ GoodW D) := fun h => hh ⟨h.1, h.2.1, h.2.2.1, h.2.2.2.1, by rw [hzl]; exact h.2.2.2.2.1⟩
    clear hh hes hzl
    rcases hway with h1 | ⟨h1, h2⟩ | ⟨h1, h2, h3⟩ | ⟨h1, h2, h3, h4⟩ | ⟨h1, h2, h3, h4, h5⟩
    all_goals
      go_enter Try.func27, Try.ntmps27
      go_wp2
      go_ret
      exact ⟨be_no rfl HN.out, (But.refl _ _ _).alloc _⟩
end Go.Proofs.Ytajelalimiobeaa
