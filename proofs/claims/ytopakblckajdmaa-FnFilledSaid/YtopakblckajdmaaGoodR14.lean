/-
  Good rules: the specification and the program.
-/
import Derived.Test.YtopakblckajdmaaGood14
namespace Go.Proofs.Ytopakblckajdmaa
open Go.ChangeShapes Go.WideShapes Go.ChangeAt Go.RowKit

set_option maxRecDepth 100000
set_option linter.unusedVariables false
set_option maxHeartbeats 4000000 in
theorem igoodR (v : Value) (c : RulesD) (w : World) (hv : RulesAt w v c) (hc : rulesCost c ≤ 1048576) :
    Calls Try.prog 19 #[v] w fun e w' => e = .returned (.bool (dec (RulesP c))) ∧ Kept w w' := by
  obtain ⟨a1, c1, a2, c2, hfm⟩ := hv.form
  subst hfm
  obtain ⟨r1, r2⟩ := hv.parts
  have z1 := lLCost_len c.2.1
  have z2 := lLCost_len c.2.2
  unfold rulesCost at hc
  have n1 : c.2.1.length ≤ 1048576 := by omega
  have n2 : c.2.2.length ≤ 1048576 := by omega
  have q1 : ∀ p ∈ c.2.1, p.length ≤ 1048576 := fun p hp => by have := z1.2 p hp; omega
  have q2 : ∀ p ∈ c.2.2, p.length ≤ 1048576 := fun p hp => by have := z2.2 p hp; omega
  clear z1 z2 hc
  by_cases h1 : 1 ≤ c.1 ∧ c.1 ≤ 6
  · have e1 : decide ((1 : Int) ≤ c.1) = true := decide_eq_true h1.1
    have e2 : decide (c.1 ≤ 6) = true := decide_eq_true h1.2
    have K0 : Kept w (w.alloc (.cells #[.int .i64 c.1, .slice a1 c.2.1.length c1, .slice a2 c.2.2.length c2] 25)) := (But.refl _ _ _).alloc _
    cases d1 : dec (ListsP c.1 c.2.1) with
    | false =>
      rw [show dec (RulesP c) = false from dec_no fun h => of_dec_no d1 h.2.1]
      go_enter Try.func19, Try.ntmps19
      repeat (first | go_values | go_skip | go_guarded | go_step | go_upon)
      go_at_call 54
      refine (ilists c.1 c.2.1 _ _ _ (r1.kept K0) (by omega) (fun p hp => by have := q1 p hp; omega)).mono ?_
      rintro e u1 ⟨rfl, k1⟩
      rw [d1]
      dsimp only
      repeat (first | go_values | go_skip | go_guarded | go_step | go_upon)
      go_ret
      exact ⟨rfl, K0.trans k1⟩
    | true =>
      go_enter Try.func19, Try.ntmps19
      repeat (first | go_values | go_skip | go_guarded | go_step | go_upon)
      go_at_call 54
      refine (ilists c.1 c.2.1 _ _ _ (r1.kept K0) (by omega) (fun p hp => by have := q1 p hp; omega)).mono ?_
      rintro e u1 ⟨rfl, k1⟩
      rw [d1]
      have L0 := (Loc.new w [.int .i64 c.1, .slice a1 c.2.1.length c1, .slice a2 c.2.2.length c2] 25).kept k1
      have p0 := L0.cell 0 rfl
      have p2 := L0.cell 2 rfl
      have K1 := K0.trans k1
      dsimp only
      repeat (first | go_values | go_skip | go_guarded | go_step | go_upon)
      go_at_call 54
      refine (ilists c.1 c.2.2 _ _ _ (r2.kept K1) (by omega) (fun p hp => by have := q2 p hp; omega)).mono ?_
      rintro e u2 ⟨rfl, k2⟩
      dsimp only
      repeat (first | go_values | go_skip | go_guarded | go_step | go_upon)
      go_ret
      refine ⟨ret_bool ?_, K1.trans k2⟩
      by_cases h : ListsP c.1 c.2.2
      · rw [dec_yes h, dec_yes ⟨h1, of_dec d1, h⟩]
      · rw [dec_no h, dec_no (fun x => h x.2.2)]
  · rw [show dec (RulesP c) = false from dec_no fun h => h1 h.1]
    by_cases h3 : 1 ≤ c.1
    · have e1 : decide ((1 : Int) ≤ c.1) = true := decide_eq_true h3
      have e2 : decide (c.1 ≤ 6) = false := decide_eq_false (by omega)
      go_enter Try.func19, Try.ntmps19
      repeat (first | go_values | go_skip | go_guarded | go_step | go_upon)
      go_ret
      exact ⟨rfl, (But.refl _ _ _).alloc _⟩
    · have e1 : decide ((1 : Int) ≤ c.1) = false := decide_eq_false h3
      go_enter Try.func19, Try.ntmps19
      repeat (first | go_values | go_skip | go_guarded | go_step | go_upon)
      go_ret
      exact ⟨rfl, (But.refl _ _ _).alloc _⟩

theorem wrap_in {x : Int} (h1 : -9223372036854775808 ≤ x) (h2 : x ≤ 9223372036854775807) : IntKind.i64.wrap x = x := by rw [IntKind.wrap_i64]; omega
theorem LLAt.part {w : World} {a1 a2 : Option Addr} {c1 c2 : Nat} {f1 f2 : List (List Int)} (h1 : LLAt w (.slice a1 f1.length c1) f1) (h2 : LLAt w (.slice a2 f2.length c2) f2) {k : Nat} (hk : k < 2) :
    ∃ fs a cc, LLAt w (.slice a fs.length cc) fs ∧ ([Value.slice a1 f1.length c1, .slice a2 f2.length c2])[k]? = some (.slice a fs.length cc) ∧ (k = 0 → fs = f1) ∧ (k = 1 → fs = f2) := by
  match k, hk with
  | 0, _ => exact ⟨f1, a1, c1, h1, rfl, fun _ => rfl, fun h => by omega⟩
  | 1, _ => exact ⟨f2, a2, c2, h2, rfl, fun h => by omega, fun _ => rfl⟩
set_option maxHeartbeats 4000000 in
theorem sgoodR (v : Value) (c : RulesD) (w : World) (hv : RulesAt w v c) (hc : rulesCost c ≤ 1048576) :
    Calls Try.prog 17 #[v] w fun e w' => e = .returned (.bool (dec (RulesP c))) ∧ Kept w w' := by
  obtain ⟨a1, c1, a2, c2, hfm⟩ := hv.form
  subst hfm
  obtain ⟨r1, r2⟩ := hv.parts
  have z1 := lLCost_len c.2.1
  have z2 := lLCost_len c.2.2
  unfold rulesCost at hc
  have n1 : c.2.1.length ≤ 1048576 := by omega
  have n2 : c.2.2.length ≤ 1048576 := by omega
  have q1 : ∀ p ∈ c.2.1, p.length ≤ 1048576 := fun p hp => by have := z1.2 p hp; omega
  have q2 : ∀ p ∈ c.2.2, p.length ≤ 1048576 := fun p hp => by have := z2.2 p hp; omega
  clear z1 z2 hc
  by_cases h1 : 1 ≤ c.1 ∧ c.1 ≤ 6
  · have d1 : decide (1 ≤ c.1 ∧ c.1 ≤ 6) = true := decide_eq_true h1
    by_cases h2 : (c.2.1.length : Int) = c.1
    · have e2 : ((c.2.1.length : Int) == c.1) = true := by simpa using h2
      by_cases h3 : (c.2.2.length : Int) = c.1
      · have e3 : ((c.2.2.length : Int) == c.1) = true := by simpa using h3
        have H4 : Hid _ := And.intro h1 (And.intro h2 h3)
        obtain ⟨s, hs⟩ : ∃ s, c.1 = s := ⟨_, rfl⟩
        have HS : Hid (c.1 = s) := hs
        rw [hs] at h1 h2 h3 d1 e2 e3
        have hsb := h1
        clear h1
        go_enter Try.func17, Try.ntmps17
        simp only [hs]
        clear hs
        repeat (first | (go_at_call 52; refine (sIn _ _ _ _).mono ?_; rintro e u1 ⟨rfl, rfl⟩; rw [d1]; dsimp only) | go_values | go_skip | go_guarded | go_step | go_upon)
        clear d1 e2 e3
        go_loopw [35] (fun i wr => ∃ k : Nat, k ≤ 2 ∧ i = .int .i64 k ∧ Hid ((0 < k → ListsP s c.2.1) ∧ (1 < k → ListsP s c.2.2)) ∧ wr.cell? ⟨w.heap.size, 0, none⟩ = some (.int .i64 s) ∧ wr.cell? ⟨w.heap.size + 1, 0, none⟩ = some (.slice a1 c.2.1.length c1) ∧ wr.cell? ⟨w.heap.size + 1, 1, none⟩ = some (.slice a2 c.2.2.length c2) ∧ Kept w wr) (fun i _ => 2 - (intOf i).toNat)
        case atStart => exact ⟨0, by omega, rfl, ⟨fun h => by omega, fun h => by omega⟩, by simp [go_sem], by simp [go_sem], by simp [go_sem], ((But.refl _ _ _).alloc _).alloc _⟩
        case round =>
          obtain ⟨k, hk, rfl, HB, p0, p1, p2, hkp⟩ := hrel
          by_cases hlt : k < 2
          · obtain ⟨fs, aa, cc, hfs, hget, hf0, hf1⟩ := LLAt.part (r1.kept hkp) (r2.kept hkp) hlt
            have pk : wr.cell? ⟨w.heap.size + 1, k, none⟩ = some (.slice aa fs.length cc) := by
              match k, hlt with
              | 0, _ => rw [p1]; exact hget
              | 1, _ => rw [p2]; exact hget
            have nf : fs.length ≤ 1048576 ∧ (fs.length : Int) = s ∧ ∀ p ∈ fs, p.length ≤ 1048576 := by
              match k, hlt with
              | 0, _ => rw [hf0 rfl]; exact ⟨n1, h2, q1⟩
              | 1, _ => rw [hf1 rfl]; exact ⟨n2, h3, q2⟩
            have hend : ∀ b, (b = ListsP s fs) → (b → (0 < k + 1 → ListsP s c.2.1) ∧ (1 < k + 1 → ListsP s c.2.2)) := by
              intro b hb hb'
              rw [hb] at hb'
              have h0 := HB.out
              match k, hlt with
              | 0, _ => rw [hf0 rfl] at hb'; exact ⟨fun _ => hb', fun h => by omega⟩
              | 1, _ => rw [hf1 rfl] at hb'; exact ⟨fun _ => h0.1 (by omega), fun _ => hb'⟩
            have hbad : ¬ ListsP s fs → dec (RulesP c) = false := by
              intro hb
              refine dec_no fun h => hb ?_
              have hs := HS.out
              match k, hlt with
              | 0, _ => rw [hf0 rfl, ← hs]; exact h.2.1
              | 1, _ => rw [hf1 rfl, ← hs]; exact h.2.2
            obtain ⟨nf1, nf2, nf3⟩ := nf
            have HE : Hid _ := hend _ rfl
            have HBD : Hid (¬ ListsP s fs → dec (RulesP c) = false) := hbad
            have HF : Hid (LLAt wr (.slice aa fs.length cc) fs) := hfs
            have HN : Hid ((fs.length : Int) = s) := nf2
            have HKP : Hid (Kept w wr) := hkp
            clear hend hbad hfs hget hf0 hf1 HB nf2 hkp r1 r2 h2 h3 q1 q2
            repeat (first | go_values | go_skip | go_guarded | go_step | go_upon)
            rename World => wr0
            go_loopw [41] (fun i wr => ∃ j : Nat, j ≤ fs.length ∧ i = .int .i64 j ∧ Hid (∀ m, m < j → ∀ l, fs[m]? = some l → RiseP s l) ∧ wr = wr0) (fun i _ => fs.length - (intOf i).toNat)
            case atStart => exact ⟨0, by omega, rfl, fun m hm => by omega, rfl⟩
            case round =>
              obtain ⟨j, hj, rfl, HB, rfl⟩ := hrel
              by_cases hjl : j < fs.length
              · obtain ⟨l, hl⟩ : ∃ l : List Int, fs[j]? = some l := ⟨_, List.getElem?_eq_getElem hjl⟩
                obtain ⟨g, o, cap1, u, ee, c0, ha⟩ := lL_get HF.out hl
                cases ee
                obtain ⟨a3, c3, hsl⟩ := row_nil ha
                subst hsl
                have nl := nf3 l (List.mem_of_getElem? hl)
                have HL : Hid (fs[j]? = some l) := hl
                have HA : Hid (NumAt wr (.slice a3 l.length c3) l) := ha
                clear hl ha
                repeat (first | go_values | go_skip | go_guarded | go_step | go_upon)
                rename World => wr0
                go_loopw [47] (fun i wr => ∃ m : Nat, m ≤ l.length ∧ i = .int .i64 m ∧ Hid (∀ x, x < m → SortAt s l x) ∧ wr = wr0) (fun i _ => l.length - (intOf i).toNat)
                case atStart => exact ⟨0, by omega, rfl, fun x hx => by omega, rfl⟩
                case round =>
                  obtain ⟨m, hm, rfl, HC, rfl⟩ := hrel
                  by_cases hml : m < l.length
                  · obtain ⟨p, hp⟩ : ∃ p : Int, l[m]? = some p := ⟨_, List.getElem?_eq_getElem hml⟩
                    obtain ⟨g2, o2, cap2, ee, c02⟩ := num_get HA.out hp
                    cases ee
                    have HP : Hid (l[m]? = some p) := hp
                    clear hp
                    cases q : decide (0 ≤ p ∧ p ≤ s - 1) with
                    | false =>
                      repeat (first | (go_at_call 52; refine (sIn _ _ _ _).mono ?_; rintro e u1 ⟨rfl, rfl⟩; rw [q]; dsimp only) | go_values | go_skip | go_guarded | go_step | go_upon)
                      go_ret
                      refine ⟨ret_bool (HBD.out fun h => ?_).symm, HKP.out⟩
                      obtain ⟨y1, y2, -⟩ := h.2 j hjl l HL.out m hml p HP.out
                      have y3 : ¬ (0 ≤ p ∧ p ≤ s - 1) := of_decide_eq_false q
                      omega
                    | true =>
                      have hq0 : 0 ≤ p ∧ p ≤ s - 1 := of_decide_eq_true q
                      have HQ : Hid (0 ≤ p ∧ p ≤ s - 1) := hq0
                      clear hq0
                      have goon : (∀ y : Int, m ≠ 0 → l[m - 1]? = some y → y < p) → ∀ x, x < m + 1 → SortAt s l x := by
                        intro hy x hx
                        by_cases hxm : x = m
                        · subst hxm
                          intro p' hp'
                          rw [HP.out] at hp'
                          cases hp'
                          have := HQ.out
                          exact ⟨by omega, by omega, hy⟩
                        · exact HC.out x (by omega)
                      have HG : Hid _ := goon
                      clear goon
                      by_cases hm0 : m = 0
                      · have e0 : decide ((0 : Int) < (m : Int)) = false := by simp; omega
                        have e0' : decide (0 < m) = false := by simp; omega
                        have HM0 : Hid (m = 0) := hm0
                        clear hm0
                        repeat (first | (go_at_call 52; refine (sIn _ _ _ _).mono ?_; rintro e u1 ⟨rfl, rfl⟩; rw [q]; dsimp only) | go_values | go_skip | go_guarded | go_step | go_upon)
                        clear e0 e0'
                        exact ⟨⟨m + 1, hml, by go_num, HG.out fun y hy => absurd HM0.out hy, by first | rfl | trivial⟩, by simp [intOf]; omega⟩
                      · have e0 : decide ((0 : Int) < (m : Int)) = true := by simp; omega
                        have e0' : decide (0 < m) = true := by simp; omega
                        obtain ⟨y, hy⟩ : ∃ y : Int, l[m - 1]? = some y := ⟨_, List.getElem?_eq_getElem (by omega)⟩
                        obtain ⟨g3, o3, cap3, ee, c03⟩ := num_get HA.out hy
                        cases ee
                        obtain ⟨m', hm'⟩ : ∃ m', m - 1 = m' := ⟨_, rfl⟩
                        rw [hm'] at c03
                        have HY : Hid (l[m - 1]? = some y) := hy
                        have f1 : IntKind.i64.wrap ((m : Int) - 1) = (m' : Int) := by rw [wrap_in (by omega) (by omega)]; omega
                        have f1' : (m : Int) - 1 = (m' : Int) := by omega
                        have f2 : m' < l.length := by omega
                        clear hm' hy hm0
                        by_cases hyp : p ≤ y
                        · repeat (first | (go_at_call 52; refine (sIn _ _ _ _).mono ?_; rintro e u1 ⟨rfl, rfl⟩; rw [q]; dsimp only) | go_values | go_skip | go_guarded | go_step | go_upon)
                          go_ret
                          refine ⟨ret_bool (HBD.out fun h => ?_).symm, HKP.out⟩
                          have h1 := (h.2 j hjl l HL.out m hml p HP.out).2.2 y (by have := of_decide_eq_true e0'; omega) HY.out
                          omega
                        · have e5 : decide (p ≤ y) = false := decide_eq_false hyp
                          repeat (first | (go_at_call 52; refine (sIn _ _ _ _).mono ?_; rintro e u1 ⟨rfl, rfl⟩; rw [q]; dsimp only) | go_values | go_skip | go_guarded | go_step | go_upon)
                          refine ⟨⟨m + 1, hml, by go_num, HG.out fun z _ hz => ?_, by first | rfl | trivial⟩, by simp [intOf]; omega⟩
                          rw [HY.out] at hz
                          cases hz
                          omega
                  · have hme : m = l.length := by omega
                    subst hme
                    repeat (first | go_values | go_skip | go_guarded | go_step | go_upon)
                    refine ⟨⟨j + 1, hjl, by go_num, ?_, by first | rfl | trivial⟩, by simp [intOf]; omega⟩
                    intro x hx l' hl'
                    by_cases hxj : x = j
                    · subst hxj
                      rw [HL.out] at hl'
                      cases hl'
                      exact HC.out
                    · exact HB.out x (by omega) l' hl'
              · have hje : j = fs.length := by omega
                subst hje
                repeat (first | go_values | go_skip | go_guarded | go_step | go_upon)
                exact ⟨⟨k + 1, hlt, by go_num, HE.out ⟨HN.out, HB.out⟩, p0, p1, p2, HKP.out⟩, by simp [intOf]; omega⟩
          · have hke : k = 2 := by omega
            subst hke
            repeat (first | go_values | go_skip | go_guarded | go_step | go_upon)
            go_ret
            have hs := HS.out
            have hb := HB.out
            refine ⟨ret_bool (dec_yes ⟨H4.out.1, ?_, ?_⟩).symm, hkp⟩
            · rw [hs]; exact hb.1 (by omega)
            · rw [hs]; exact hb.2 (by omega)
      · rw [show dec (RulesP c) = false from dec_no fun h => h3 h.2.2.1]
        have e3 : ((c.2.2.length : Int) == c.1) = false := by simpa using h3
        go_enter Try.func17, Try.ntmps17
        repeat (first | (go_at_call 52; refine (sIn _ _ _ _).mono ?_; rintro e u1 ⟨rfl, rfl⟩; rw [d1]; dsimp only) | go_values | go_skip | go_guarded | go_step | go_upon)
        go_ret
        exact ⟨rfl, (But.refl _ _ _).alloc _⟩
    · rw [show dec (RulesP c) = false from dec_no fun h => h2 h.2.1.1]
      have e2 : ((c.2.1.length : Int) == c.1) = false := by simpa using h2
      go_enter Try.func17, Try.ntmps17
      repeat (first | (go_at_call 52; refine (sIn _ _ _ _).mono ?_; rintro e u1 ⟨rfl, rfl⟩; rw [d1]; dsimp only) | go_values | go_skip | go_guarded | go_step | go_upon)
      go_ret
      exact ⟨rfl, (But.refl _ _ _).alloc _⟩
  · rw [show dec (RulesP c) = false from dec_no fun h => h1 h.1]
    have d1 : decide (1 ≤ c.1 ∧ c.1 ≤ 6) = false := decide_eq_false h1
    go_enter Try.func17, Try.ntmps17
    repeat (first | (go_at_call 52; refine (sIn _ _ _ _).mono ?_; rintro e u1 ⟨rfl, rfl⟩; rw [d1]; dsimp only) | go_values | go_skip | go_guarded | go_step | go_upon)
    go_ret
    exact ⟨rfl, (But.refl _ _ _).alloc _⟩

end Go.Proofs.Ytopakblckajdmaa
