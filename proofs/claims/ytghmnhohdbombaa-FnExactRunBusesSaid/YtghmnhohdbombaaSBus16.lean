/-
  Buses run: the specification.
-/
import Derived.Test.YtghmnhohdbombaaIBusR16
import Derived.Test.YtghmnhohdbombaaSRun16
namespace Go.Proofs.Ytghmnhohdbombaa
open Go.ChangeShapes Go.WideShapes Go.ChangeAt Go.RowKit Ieee

theorem in1 (a b c : Int) (w : World) : Calls Try.prog 61 #[.int .i64 a, .int .i64 b, .int .i64 c] w fun e w' => e = .returned (.bool (decide (b ≤ a) && decide (a ≤ c))) ∧ w' = w := by
  by_cases h : b ≤ a
  · have hd : decide (b ≤ a) = true := decide_eq_true h
    go_enter Try.func61, Try.ntmps61
    go_wp2
    go_ret
    exact ⟨by rw [hd]; rfl, rfl⟩
  · have hd : decide (b ≤ a) = false := decide_eq_false h
    go_enter Try.func61, Try.ntmps61
    go_wp2
    go_ret
    exact ⟨rfl, rfl⟩
set_option maxRecDepth 100000
set_option linter.unusedVariables false

set_option maxHeartbeats 16000000 in
theorem sbuses (l : List BusD) (ins : List Nat) (R : List Nat × Nat × Bool) (hR : BusRes l ins R) (v x : Value) (w : World) (hv : BusAt w v l) (hi : FltAt w x ins) (hx : ∀ p ∈ l, BusOk p) (hw : WideL ins) (hl : l.length ≤ 1048576) (hn : ins.length ≤ 1048576) :
    Calls Try.prog 32 #[v, x] w (BusAns R w) := by
  have HRES : Hid (BusRes l ins R) := hR
  clear hR
  obtain ⟨ao, cap, hsl⟩ := row_nil hv
  subst hsl
  obtain ⟨ao2, cap2, hsl⟩ := row_nil hi
  subst hsl
  have HV : Hid (BusAt w (.slice ao l.length cap) l) := hv
  have HI : Hid (FltAt w (.slice ao2 ins.length cap2) ins) := hi
  clear hv hi
  by_cases h8 : 8 < l.length
  · have d8 : decide ((8 : Int) < (l.length : Int)) = true := by simp; omega
    have HNO : Hid (¬(goodBs l ∧ ins.length = l.length ∧ goodR ins = true)) := fun h => by have := h.1.1; omega
    go_enter Try.func32, Try.ntmps32
    repeat (first | go_values | go_skip | go_guarded | go_step | go_upon)
    go_returns
    rw [HRES.out.2 (HNO.out)]
    exact ⟨.slice none 0 0, rfl, FltO.nil, But.refl _ _ _⟩
  have d8 : decide ((8 : Int) < (l.length : Int)) = false := by simp; omega
  by_cases he : ins.length ≠ l.length
  · have hdn : ((ins.length : Int) != (l.length : Int)) = true := by simp; omega
    have HNO : Hid (¬(goodBs l ∧ ins.length = l.length ∧ goodR ins = true)) := fun h => he h.2.1
    go_enter Try.func32, Try.ntmps32
    repeat (first | go_values | go_skip | go_guarded | go_step | go_upon)
    go_returns
    rw [HRES.out.2 (HNO.out)]
    exact ⟨.slice none 0 0, rfl, FltO.nil, But.refl _ _ _⟩
  have he : ins.length = l.length := Decidable.not_not.1 he
  have HE : Hid (ins.length = l.length) := he
  have hi2 := HI.out
  rw [he] at hi2 ⊢
  have HI : Hid (FltAt w (.slice ao2 l.length cap2) ins) := hi2
  clear hi2 he hn
  go_enter Try.func32, Try.ntmps32
  repeat (first | go_values | go_skip | go_guarded | go_step | go_upon)
  go_at_call 49
  refine (sgoodR ins _ _ HI.out hw (by have := HE.out; omega)).mono ?_
  rintro e u1 ⟨rfl, k1⟩
  have HK1 : Hid (Kept w u1) := k1
  clear k1 d8
  cases hgr : goodR ins with
  | false =>
    have HNO : Hid (¬(goodBs l ∧ ins.length = l.length ∧ goodR ins = true)) := fun h => by rw [hgr] at h; cases h.2.2
    clear hgr
    dsimp only
    repeat (first | go_values | go_skip | go_guarded | go_step | go_upon)
    go_returns
    rw [HRES.out.2 (HNO.out)]
    exact ⟨.slice none 0 0, rfl, FltO.nil, HK1.out⟩
  | true =>
    have HGR : Hid (goodR ins = true) := hgr
    clear hgr
    dsimp only
    repeat (first | go_values | go_skip | go_guarded | go_step | go_upon)
    go_loopw [34] (fun i wr => ∃ k : Nat, k ≤ l.length ∧ i = .int .i64 k ∧ Hid (∀ j p, j < k → l[j]? = some p → goodB1 l.length j p = true) ∧ Kept w wr) (fun i _ => l.length - (intOf i).toNat)
    case atStart => exact ⟨0, by omega, rfl, (fun j p hj => by omega : ∀ j p, j < 0 → l[j]? = some p → goodB1 l.length j p = true), HK1.out⟩
    case round =>
      obtain ⟨k, hk, rfl, HB, hkp⟩ := hrel
      have HK : Hid (Kept w wr) := hkp
      by_cases hlt : k < l.length
      · obtain ⟨⟨p0, p1, p2, p3, p4, p5, p6⟩, hxk⟩ : ∃ x, l[k]? = some x := ⟨_, List.getElem?_eq_getElem hlt⟩
        obtain ⟨b, o, cap', e, c0, c1, c2, c3, c4, c5, c6⟩ := bus_get (HV.out.kept hkp) hxk
        cases e
        obtain ⟨hb0, hb1, hb2, hb3, hb4, hb5⟩ := hx _ (List.mem_of_getElem? hxk)
        dsimp only at c0 c1 c2 c3 c4 c5 c6 hb0 hb1 hb2 hb3 hb4 hb5
        have HX : Hid (l[k]? = some (p0, p1, p2, p3, p4, p5, p6)) := hxk
        clear hxk hkp
        by_cases i3 : p6 = -1
        · subst i3
          
          have hgi : goodI l.length k (-1) = true := by simp only [goodI]; simp
          have HGI : Hid (goodI l.length k (-1) = true) := hgi
          clear hgi
          have HNG : Hid (goodB1 l.length k (p0, p1, p2, p3, p4, p5, (-1)) = false → ¬(goodBs l ∧ ins.length = l.length ∧ goodR ins = true)) := fun h hg => by
            have := hg.1.2 k _ HX.out
            rw [h] at this
            cases this
          repeat (first | go_values | go_skip | go_guarded | go_step | go_upon)
          go_at_call 48
          refine (specGood p0 hb0 _).mono ?_
          rintro e w1 ⟨rfl, rfl⟩
          cases hg0 : good p0 with
          | false =>
            dsimp only
            repeat (first | go_values | go_skip | go_guarded | go_step | go_upon)
            go_returns
            rw [HRES.out.2 (HNG.out (by simp only [goodB1, hg0, Bool.false_and]))]
            exact ⟨.slice none 0 0, rfl, FltO.nil, by (repeat (first | with_reducible exact But.refl _ _ _ | with_reducible exact HK.out | with_reducible apply But.drewN | with_reducible apply But.drew | with_reducible apply But.alloc))⟩
          | true =>
            dsimp only
            have HG0 : Hid (good p0 = true) := hg0
            clear hg0
            repeat (first | go_values | go_skip | go_guarded | go_step | go_upon)
            go_at_call 13
            refine (sgoodF p1 p2 p3 p4 p5 hb1 hb2 hb3 hb4 hb5 _).mono ?_
            rintro e w2 ⟨rfl, k2⟩
            rw [show (good p1 && good p2 && good p3 && good p4 && good p5) = goodF (filtOf (p0, p1, p2, p3, p4, p5, (-1))) from rfl]
            have HK2 : Hid (Kept w w2) := But.trans (by (repeat (first | with_reducible exact But.refl _ _ _ | with_reducible exact HK.out | with_reducible apply But.drewN | with_reducible apply But.drew | with_reducible apply But.alloc))) k2
            have hn := k2.size
            simp only [World.size_alloc] at hn
            have hn2 : wr.heap.size < w2.heap.size := by omega
            have c6 : w2.cell? ⟨wr.heap.size, 6, none⟩ = some (.int .i64 (-1)) := ((Loc.new wr [.float .f64 p0, .float .f64 p1, .float .f64 p2, .float .f64 p3, .float .f64 p4, .float .f64 p5, .int .i64 (-1)] 94).kept k2).cell 6 rfl
            clear k2
            cases hg1 : goodF (filtOf (p0, p1, p2, p3, p4, p5, (-1))) with
            | false =>
              dsimp only
              repeat (first | go_values | go_skip | go_guarded | go_step | go_upon)
              go_returns
              rw [HRES.out.2 (HNG.out (by simp only [goodB1, hg1, Bool.and_false, Bool.false_and]))]
              exact ⟨.slice none 0 0, rfl, FltO.nil, HK2.out⟩
            | true =>
              have HB1 : Hid (goodB1 l.length k (p0, p1, p2, p3, p4, p5, (-1)) = goodI l.length k (-1)) := by
                show _ = _
                simp only [goodB1, HG0.out, hg1, Bool.and_self, Bool.true_and]
                rfl
              clear hg1
              dsimp only
              repeat (first | go_values | go_skip | go_guarded | go_step | go_upon)
              have HKE := HK2
              refine ⟨⟨k + 1, hlt, by go_num, ?_, HKE.out⟩, by simp [intOf]; omega⟩
              show ∀ j p, j < k + 1 → l[j]? = some p → goodB1 l.length j p = true
              intro j p hj hp
              by_cases e : j = k
              · subst e
                rw [HX.out] at hp
                cases hp
                rw [HB1.out, HGI.out]
              · exact HB.out j p (by omega) hp
        · have d3 : (p6 != -1) = true := by simp; omega
          by_cases i1 : (k : Int) < p6 ∧ p6 < (l.length : Int)
          · have hin : (decide ((k : Int) + 1 ≤ p6) && decide (p6 ≤ (l.length : Int) - 1)) = true := by simp; omega
            
            have hgi : goodI l.length k p6 = true := by simp only [goodI]; simp; omega
            have HGI : Hid (goodI l.length k p6 = true) := hgi
            clear hgi
            have HNG : Hid (goodB1 l.length k (p0, p1, p2, p3, p4, p5, p6) = false → ¬(goodBs l ∧ ins.length = l.length ∧ goodR ins = true)) := fun h hg => by
              have := hg.1.2 k _ HX.out
              rw [h] at this
              cases this
            repeat (first | go_values | go_skip | go_guarded | go_step | go_upon)
            go_at_call 48
            refine (specGood p0 hb0 _).mono ?_
            rintro e w1 ⟨rfl, rfl⟩
            cases hg0 : good p0 with
            | false =>
              dsimp only
              repeat (first | go_values | go_skip | go_guarded | go_step | go_upon)
              go_returns
              rw [HRES.out.2 (HNG.out (by simp only [goodB1, hg0, Bool.false_and]))]
              exact ⟨.slice none 0 0, rfl, FltO.nil, by (repeat (first | with_reducible exact But.refl _ _ _ | with_reducible exact HK.out | with_reducible apply But.drewN | with_reducible apply But.drew | with_reducible apply But.alloc))⟩
            | true =>
              dsimp only
              have HG0 : Hid (good p0 = true) := hg0
              clear hg0
              repeat (first | go_values | go_skip | go_guarded | go_step | go_upon)
              go_at_call 13
              refine (sgoodF p1 p2 p3 p4 p5 hb1 hb2 hb3 hb4 hb5 _).mono ?_
              rintro e w2 ⟨rfl, k2⟩
              rw [show (good p1 && good p2 && good p3 && good p4 && good p5) = goodF (filtOf (p0, p1, p2, p3, p4, p5, p6)) from rfl]
              have HK2 : Hid (Kept w w2) := But.trans (by (repeat (first | with_reducible exact But.refl _ _ _ | with_reducible exact HK.out | with_reducible apply But.drewN | with_reducible apply But.drew | with_reducible apply But.alloc))) k2
              have hn := k2.size
              simp only [World.size_alloc] at hn
              have hn2 : wr.heap.size < w2.heap.size := by omega
              have c6 : w2.cell? ⟨wr.heap.size, 6, none⟩ = some (.int .i64 p6) := ((Loc.new wr [.float .f64 p0, .float .f64 p1, .float .f64 p2, .float .f64 p3, .float .f64 p4, .float .f64 p5, .int .i64 p6] 94).kept k2).cell 6 rfl
              clear k2
              cases hg1 : goodF (filtOf (p0, p1, p2, p3, p4, p5, p6)) with
              | false =>
                dsimp only
                repeat (first | go_values | go_skip | go_guarded | go_step | go_upon)
                go_returns
                rw [HRES.out.2 (HNG.out (by simp only [goodB1, hg1, Bool.and_false, Bool.false_and]))]
                exact ⟨.slice none 0 0, rfl, FltO.nil, HK2.out⟩
              | true =>
                have HB1 : Hid (goodB1 l.length k (p0, p1, p2, p3, p4, p5, p6) = goodI l.length k p6) := by
                  show _ = _
                  simp only [goodB1, HG0.out, hg1, Bool.and_self, Bool.true_and]
                  rfl
                clear hg1
                dsimp only
                repeat (first | go_values | go_skip | go_guarded | go_step | go_upon)
                go_at_call 61
                refine (in1 p6 ((k : Int) + 1) ((l.length : Int) - 1) _).mono ?_
                rintro e w3 ⟨rfl, rfl⟩
                rw [hin]
                dsimp only
                repeat (first | go_values | go_skip | go_guarded | go_step | go_upon)
                have HKE := HK2
                refine ⟨⟨k + 1, hlt, by go_num, ?_, HKE.out⟩, by simp [intOf]; omega⟩
                show ∀ j p, j < k + 1 → l[j]? = some p → goodB1 l.length j p = true
                intro j p hj hp
                by_cases e : j = k
                · subst e
                  rw [HX.out] at hp
                  cases hp
                  rw [HB1.out, HGI.out]
                · exact HB.out j p (by omega) hp
          · have hin : (decide ((k : Int) + 1 ≤ p6) && decide (p6 ≤ (l.length : Int) - 1)) = false := by
              rw [Bool.and_eq_false_iff, decide_eq_false_iff_not, decide_eq_false_iff_not]; omega
            
            have hgi : goodI l.length k p6 = false := by simp only [goodI]; simp; omega
            have HGI : Hid (goodI l.length k p6 = false) := hgi
            clear hgi
            have HNG : Hid (goodB1 l.length k (p0, p1, p2, p3, p4, p5, p6) = false → ¬(goodBs l ∧ ins.length = l.length ∧ goodR ins = true)) := fun h hg => by
              have := hg.1.2 k _ HX.out
              rw [h] at this
              cases this
            repeat (first | go_values | go_skip | go_guarded | go_step | go_upon)
            go_at_call 48
            refine (specGood p0 hb0 _).mono ?_
            rintro e w1 ⟨rfl, rfl⟩
            cases hg0 : good p0 with
            | false =>
              dsimp only
              repeat (first | go_values | go_skip | go_guarded | go_step | go_upon)
              go_returns
              rw [HRES.out.2 (HNG.out (by simp only [goodB1, hg0, Bool.false_and]))]
              exact ⟨.slice none 0 0, rfl, FltO.nil, by (repeat (first | with_reducible exact But.refl _ _ _ | with_reducible exact HK.out | with_reducible apply But.drewN | with_reducible apply But.drew | with_reducible apply But.alloc))⟩
            | true =>
              dsimp only
              have HG0 : Hid (good p0 = true) := hg0
              clear hg0
              repeat (first | go_values | go_skip | go_guarded | go_step | go_upon)
              go_at_call 13
              refine (sgoodF p1 p2 p3 p4 p5 hb1 hb2 hb3 hb4 hb5 _).mono ?_
              rintro e w2 ⟨rfl, k2⟩
              rw [show (good p1 && good p2 && good p3 && good p4 && good p5) = goodF (filtOf (p0, p1, p2, p3, p4, p5, p6)) from rfl]
              have HK2 : Hid (Kept w w2) := But.trans (by (repeat (first | with_reducible exact But.refl _ _ _ | with_reducible exact HK.out | with_reducible apply But.drewN | with_reducible apply But.drew | with_reducible apply But.alloc))) k2
              have hn := k2.size
              simp only [World.size_alloc] at hn
              have hn2 : wr.heap.size < w2.heap.size := by omega
              have c6 : w2.cell? ⟨wr.heap.size, 6, none⟩ = some (.int .i64 p6) := ((Loc.new wr [.float .f64 p0, .float .f64 p1, .float .f64 p2, .float .f64 p3, .float .f64 p4, .float .f64 p5, .int .i64 p6] 94).kept k2).cell 6 rfl
              clear k2
              cases hg1 : goodF (filtOf (p0, p1, p2, p3, p4, p5, p6)) with
              | false =>
                dsimp only
                repeat (first | go_values | go_skip | go_guarded | go_step | go_upon)
                go_returns
                rw [HRES.out.2 (HNG.out (by simp only [goodB1, hg1, Bool.and_false, Bool.false_and]))]
                exact ⟨.slice none 0 0, rfl, FltO.nil, HK2.out⟩
              | true =>
                have HB1 : Hid (goodB1 l.length k (p0, p1, p2, p3, p4, p5, p6) = goodI l.length k p6) := by
                  show _ = _
                  simp only [goodB1, HG0.out, hg1, Bool.and_self, Bool.true_and]
                  rfl
                clear hg1
                dsimp only
                repeat (first | go_values | go_skip | go_guarded | go_step | go_upon)
                go_at_call 61
                refine (in1 p6 ((k : Int) + 1) ((l.length : Int) - 1) _).mono ?_
                rintro e w3 ⟨rfl, rfl⟩
                rw [hin]
                dsimp only
                repeat (first | go_values | go_skip | go_guarded | go_step | go_upon)
                have HKE := HK2
                go_returns
                rw [HRES.out.2 (HNG.out (by rw [HB1.out, HGI.out]))]
                exact ⟨.slice none 0 0, rfl, FltO.nil, HKE.out⟩
      · have hke : k = l.length := by omega
        subst hke
        have HG : Hid (goodBs l) := ⟨by omega, fun j p hp => HB.out j p (List.getElem?_eq_some_iff.1 hp).1 hp⟩
        have hRR := HRES.out.1 ⟨HG.out, HE.out, HGR.out⟩
        have HRR : Hid (R = busR l ins) := hRR
        clear hRR HRES HB
        have HKr0 : Hid (Kept w wr) := hkp
        clear hkp HK
        obtain ⟨i0, hi0, hz0, hz1, hz2⟩ := info_parts info_flt
        have hs0 := HKr0.out.size
        repeat (first
          | (at_builtin
             refine wpList_append_any _ rfl _ _ 28 rfl wr.heap.size 23 i0 (.float .f64 0) 1 8 Try.underlying28 hi0 hz0 hz1 hz2 rfl (by decide) _ _ _ rfl (own_new wr 23) ao2 l.length cap2 (ins.flatMap fltC) rfl (by rw [flat_len 1 fltC fltC_len, HE.out]) (row_src (HI.out.kept (HKr0.out.alloc _))) (ones ins) (by unfold maxLen; omega) (by omega) (by simp) ?_
             intro v' w2 hown hgrow
             obtain ⟨ao7, c7, hf5, _⟩ := own_form hown
             subst hf5
             have HK : Hid (Kept wr w2) := ((But.refl _ _ wr).alloc (.cells #[] 23)).grown hgrow (by intro x hx; cases hx; simp)
             have HO : Hid (w2.ownsRow wr.heap.size 23 1 (.slice ao7 (0 + l.length) c7) (0 + l.length) ([] ++ ins.flatMap fltC)) := hown
             have hs9 := hgrow.size
             simp only [World.size_alloc] at hs9
             clear hgrow hown)
          | go_values | go_skip | go_guarded | go_step | go_upon)
        obtain ⟨lo, hlo⟩ : ∃ x, wr.heap.size = x := ⟨_, rfl⟩
        obtain ⟨hi, hhi⟩ : ∃ x, w2.heap.size = x := ⟨_, rfl⟩
        have hlh : lo ≤ hi ∧ w.heap.size ≤ lo := by omega
        have HS : Hid (FltO w2 lo hi (.slice ao7 l.length c7) ins ∧ Kept w w2) := by
          have h := RowO.top HO.out
          rw [Nat.zero_add, List.nil_append, hlo, hhi] at h
          have h2 : FltO w2 lo hi (.slice ao7 l.length c7) ins := by unfold FltO; rw [HE.out]; exact h
          exact ⟨h2, HKr0.out.trans HK.out⟩
        have hhi2 : hi ≤ w2.heap.size := by omega
        clear HO HK HKr0 hlo hhi hs9 hs0
        go_loopw [10, 11, 71] (fun xx mm i wr => ∃ (k m : Nat) (ats : List Nat) (ao5 : Option Addr) (c5 : Nat), k ≤ l.length ∧ i = .int .i64 k ∧ mm = .float .f64 m ∧ xx = .slice ao5 k c5 ∧ Hid (nrm m = (busS l ins k).2.2 ∧ m < 18446744073709551616) ∧ Hid (FltO wr lo hi (.slice ao7 l.length c7) ats ∧ ats.map nrm = (busS l ins k).1 ∧ WideL ats) ∧ Hid (wr.ownsRow hi 23 1 (.slice ao5 k c5) k (((busS l ins k).2.1.map plainO).flatMap fltC)) ∧ Hid (okB l ins k) ∧ Hid (Kept w wr) ∧ hi ≤ wr.heap.size) (fun xx mm i _ => l.length - (intOf i).toNat)
        case atStart =>
          exact ⟨0, 0, ins, none, 0, by omega, rfl, rfl, rfl, (⟨rfl, by omega⟩ : nrm 0 = some 0 ∧ 0 < 18446744073709551616), (⟨HS.out.1, rfl, hw⟩ : _ ∧ _ ∧ _), (World.ownsRow_nil _ _ _ _ : World.ownsRow _ _ _ _ _ _ _), (fun j p hj => by omega : okB l ins 0), HS.out.2, hhi2⟩
        case round =>
          obtain ⟨k, m, ats, ao5, c5, hk, rfl, rfl, rfl, HM, HA, HRow, HOK, HKr, hhr⟩ := hrel
          have hal : ats.length = l.length := by
            have h1 := congrArg List.length HA.out.2.1
            rw [List.length_map, (busS_len l ins k hk).1, HE.out] at h1
            exact h1
          have HAL : Hid (ats.length = l.length) := hal
          have HRB : Hid (∀ g, (Value.slice ao5 k c5).ownBlock = some g → g < wr.heap.size) := fun g hg => (own_lt HRow.out hg).2
          clear hal
          by_cases hlt : k < l.length
          · obtain ⟨⟨p0, p1, p2, p3, p4, p5, p6⟩, hxk⟩ : ∃ x, l[k]? = some x := ⟨_, List.getElem?_eq_getElem hlt⟩
            obtain ⟨b, o, cap', e, c0, c1, c2, c3, c4, c5, c6⟩ := bus_get (HV.out.kept HKr.out) hxk
            cases e
            dsimp only at c0 c1 c2 c3 c4 c5 c6
            have HX : Hid (l[k]? = some (p0, p1, p2, p3, p4, p5, p6)) := hxk
            clear hxk
            obtain ⟨at0, hat0⟩ : ∃ q, ats[k]? = some q := ⟨_, List.getElem?_eq_getElem (by rw [HAL.out]; exact hlt)⟩
            have HAT : Hid (ats[k]? = some at0) := hat0
            have lat : at0 < 18446744073709551616 := HA.out.2.2 at0 (List.mem_of_getElem? hat0)
            clear hat0
            repeat (first | go_values | go_skip | go_guarded | go_step | go_upon)
            refine forgetC (fun u => u = _) rfl ?_
            intro W4 hW4
            have k4 : Kept wr W4 := by rw [hW4]; exact (But.refl _ _ _).alloc _
            have L4 : Loc W4 wr.heap.size [.float .f64 p0, .float .f64 p1, .float .f64 p2, .float .f64 p3, .float .f64 p4, .float .f64 p5, .int .i64 p6] := by rw [hW4]; exact Loc.new wr _ _
            have s4 : W4.heap.size = wr.heap.size + 1 := by rw [hW4]; simp
            clear hW4 c0 c1 c2 c3 c4 c5 c6
            have HL4 : Hid (Loc W4 wr.heap.size [.float .f64 p0, .float .f64 p1, .float .f64 p2, .float .f64 p3, .float .f64 p4, .float .f64 p5, .int .i64 p6]) := L4
            have HKr : Hid (Kept w W4) := HKr.out.trans k4
            have HA : Hid (FltO W4 lo hi (.slice ao7 l.length c7) ats ∧ ats.map nrm = (busS l ins k).1 ∧ WideL ats) := ⟨HA.out.1.kept k4, HA.out.2⟩
            have HRow : Hid (W4.ownsRow hi 23 1 (.slice ao5 k c5) k (((busS l ins k).2.1.map plainO).flatMap fltC)) := own_kept HRow.out k4
            clear k4 L4
            obtain ⟨b2, o2, cap3, e2, ca⟩ := flt_get HA.out.1.at HAT.out
            rw [HAL.out] at e2
            cases e2
            obtain ⟨g', cap', hfm⟩ : ∃ g cap', Value.slice (some ⟨b2, o2, none⟩) l.length c7 = .slice (some ⟨g, 0, none⟩) l.length cap' := by
              rcases HA.out.1.1.2 with ⟨hf, _⟩ | ⟨g, c2, cur, hf, _⟩
              · cases hf
              · rw [HAL.out] at hf; exact ⟨g, c2, hf⟩
            cases hfm
            rw [Nat.zero_add] at ca
            have hb2 : lo ≤ b2 ∧ b2 < hi := ⟨(own_lt HA.out.1.1 (g := b2) rfl).1, HA.out.1.2 b2 rfl⟩
            have L4 := HL4.out
            have z0 := L4.cell 0 rfl; have z1 := L4.cell 1 rfl; have z2 := L4.cell 2 rfl; have z3 := L4.cell 3 rfl; have z4 := L4.cell 4 rfl; have z5 := L4.cell 5 rfl; have z6 := L4.cell 6 rfl; have zf0 := L4.frozen 0; have zf1 := L4.frozen 1; have zf2 := L4.frozen 2; have zf3 := L4.frozen 3; have zf4 := L4.frozen 4; have zf5 := L4.frozen 5; have zf6 := L4.frozen 6; clear L4
            have x1 : (0 : Int) ≤ (k : Int) := by omega
            have x2 : (k : Int) < (l.length : Int) := by omega
            have KD : Kept W4 W4.drew := (But.refl _ _ _).drew
            have hSa : (fun w' => w'.cell? ⟨b2, k, none⟩ = some (.float .f64 at0) ∧ w'.cell? ⟨wr.heap.size, 0, none⟩ = some (.float .f64 p0)) W4.drew := ⟨Kept.cell KD ca, Kept.cell KD z0⟩
            have hSb : (fun w' => w'.cell? ⟨b2, k, none⟩ = some (.float .f64 at0) ∧ w'.cell? ⟨wr.heap.size, 0, none⟩ = some (.float .f64 p0)) (W4.drew.drewN (nd .mul at0 p0)) := ⟨Kept.cell (KD.drewN _) ca, Kept.cell (KD.drewN _) z0⟩
            refine wp_region_Z (fun w' => w'.cell? ⟨b2, k, none⟩ = some (.float .f64 at0) ∧ w'.cell? ⟨wr.heap.size, 0, none⟩ = some (.float .f64 p0)) 99 (by kernel_rfl) ?_
            refine wpAnyZ_take (i := 0) (v := .slice (some ⟨b2, 0, none⟩) l.length c7) rfl (by kernel_rfl) (by kernel_rfl) (by kernel_rfl) (by kernel_rfl) (fun _ _ _ h => h) (Or.inl ⟨by rfl, ?_⟩) hSa ?_
            · intro w' hSw; obtain ⟨s0, s1⟩ := hSw; go_simp
            try simp only [Act.put]
            refine wpAnyZ_take (i := 1) (v := .int .i64 (k : Int)) rfl (by kernel_rfl) (by kernel_rfl) (by kernel_rfl) (by kernel_rfl) (fun _ _ _ h => h) (Or.inl ⟨by rfl, ?_⟩) hSa ?_
            · intro w' hSw; obtain ⟨s0, s1⟩ := hSw; go_simp
            try simp only [Act.put]
            refine wpAnyZ_take (i := 2) (v := .pointer (some ⟨b2, k, none⟩)) rfl (by kernel_rfl) (by kernel_rfl) (by kernel_rfl) (by kernel_rfl) (fun _ _ _ h => h) (Or.inl ⟨by rfl, ?_⟩) hSa ?_
            · intro w' hSw; obtain ⟨s0, s1⟩ := hSw; go_simp
            try simp only [Act.put]
            refine wpAnyZ_take (i := 3) (v := .float .f64 at0) rfl (by kernel_rfl) (by kernel_rfl) (by kernel_rfl) (by kernel_rfl) (fun _ _ _ h => h) (Or.inl ⟨by rfl, ?_⟩) hSa ?_
            · intro w' hSw; obtain ⟨s0, s1⟩ := hSw; go_simp
            try simp only [Act.put]
            refine wpAnyZ_take (i := 4) (v := .pointer (some ⟨wr.heap.size, 0, none⟩)) rfl (by kernel_rfl) (by kernel_rfl) (by kernel_rfl) (by kernel_rfl) (fun _ _ _ h => h) (Or.inl ⟨by rfl, ?_⟩) hSa ?_
            · intro w' hSw; obtain ⟨s0, s1⟩ := hSw; go_simp
            try simp only [Act.put]
            refine wpAnyZ_take (i := 5) (v := .float .f64 p0) rfl (by kernel_rfl) (by kernel_rfl) (by kernel_rfl) (by kernel_rfl) (fun _ _ _ h => h) (Or.inl ⟨by rfl, ?_⟩) hSa ?_
            · intro w' hSw; obtain ⟨s0, s1⟩ := hSw; go_simp
            try simp only [Act.put]
            refine wpAnyZ_one (i := 6) (by kernel_rfl) rfl ?_
            intro K8 hK8
            rw [if_pos (by rfl)]
            go_simp
            refine hK8.out _ _ (fun _ => hSb) ?_
            clear hK8 K8
            try simp only [Act.put]
            refine wpAnyZ_one (i := 7) (by kernel_rfl) rfl ?_
            intro K8 hK8
            rw [if_pos (by rfl)]
            go_simp
            refine hK8.out _ _ (fun _ => hSb) ?_
            clear hK8 K8
            refine wpAnyZ_done (by kernel_rfl) ?_ _
            try simp only [Act.put]
            clear hSa hSb KD
            repeat (first | go_values | go_skip | go_guarded | go_step | go_upon)
            generalize hV : fop .mul (tok W4.drew) at0 p0 = V
            generalize hn0 : nd .mul at0 p0 = n0
            generalize hP : fop .mul ((tok W4).adv (1 + n0)) p1 V = P
            generalize hn1 : nd .mul p1 V = n1
            generalize hY : fop .add ((tok W4).adv (1 + n0 + n1)) P 0 = Y
            generalize hn2 : nd .add P 0 = n2
            have lY : Y < 18446744073709551616 := by rw [← hY]; exact fop_lt _ _ _ _
            have eY : nrm Y = yB (p0, p1, p2, p3, p4, p5, p6) (nrm at0) := by rw [← hY, nrm_fop, ← hP, nrm_fop, ← hV, nrm_fop]; rfl
            have hd := But.drewN (But.refl 0 0 W4) (1 + n0 + n1 + n2)
            generalize W4.drewN (1 + n0 + n1 + n2) = W5 at hd ⊢
            have s5 := hd.size
            have hat : atB (busS l ins k) k = nrm at0 := atB_of HA.out.2.1 HAT.out
            have HSt : Hid (busS l ins (k + 1) = stepB (p0, p1, p2, p3, p4, p5, p6) k (busS l ins k) ∧ atB (busS l ins k) k = nrm at0 ∧ nrm Y = yB (p0, p1, p2, p3, p4, p5, p6) (nrm at0)) := ⟨busS_succ HX.out, hat, eY⟩
            have HKr : Hid (Kept w W5) := HKr.out.trans hd
            have HL4 : Hid (Loc W5 wr.heap.size [.float .f64 p0, .float .f64 p1, .float .f64 p2, .float .f64 p3, .float .f64 p4, .float .f64 p5, .int .i64 p6]) := HL4.out.kept hd
            have HA : Hid (FltO W5 lo hi (.slice (some ⟨b2, 0, none⟩) l.length c7) ats ∧ ats.map nrm = (busS l ins k).1 ∧ WideL ats) := ⟨HA.out.1.kept hd, HA.out.2⟩
            have HRow : Hid (W5.ownsRow hi 23 1 (.slice ao5 k c5) k (((busS l ins k).2.1.map plainO).flatMap fltC)) := own_kept HRow.out hd
            have HBM : Hid (finO (nrm at0) = false ∨ finO (nrm Y) = false → R = ([], 0, false)) := fun h => by
              rw [HRR.out, busR, bad_master HG.out HE.out HX.out (by rw [hat, ← eY]; exact h)]
              rfl
            clear hV hn0 hP hn1 hY hn2 eY hat hd ca z0 zf0 z1 zf1 z2 zf2 z3 zf3 z4 zf4 z5 zf5 z6 zf6
            refine (l2Finite at0 lat _).mono ?_
            rintro e w5 ⟨rfl, rfl⟩
            cases hf0 : fin at0 with
            | false =>
              dsimp only
              repeat (first | go_values | go_skip | go_guarded | go_step | go_upon)
              go_returns
              rw [HBM.out (.inl (by rw [finO_nrm]; exact hf0))]
              exact ⟨.slice none 0 0, rfl, FltO.nil, HKr.out⟩
            | true =>
              have HF0 : Hid (fin at0 = true) := hf0
              clear hf0
              dsimp only
              repeat (first | go_values | go_skip | go_guarded | go_step | go_upon)
              go_at_call 50
              refine (l2Finite Y lY _).mono ?_
              rintro e w6 ⟨rfl, rfl⟩
              cases hf1 : fin Y with
              | false =>
                dsimp only
                repeat (first | go_values | go_skip | go_guarded | go_step | go_upon)
                go_returns
                rw [HBM.out (.inr (by rw [finO_nrm]; exact hf1))]
                exact ⟨.slice none 0 0, rfl, FltO.nil, HKr.out⟩
              | true =>
                have hpl : plain Y = Y := plain_same lY (by
                  have := yB_plain (p0, p1, p2, p3, p4, p5, p6) (nrm at0)
                  rw [← HSt.out.2.2] at this
                  exact this Y (nrm_fin hf1))
                have hplO : plainO (yB (p0, p1, p2, p3, p4, p5, p6) (nrm at0)) = Y := by rw [← HSt.out.2.2, nrm_fin hf1]; exact hpl
                have hok : okB l ins (k + 1) := fun j p hj hp => by
                  by_cases e : j = k
                  · subst e
                    rw [HX.out] at hp
                    cases hp
                    rw [HSt.out.2.1]
                    refine ⟨by rw [finO_nrm]; exact HF0.out, ?_⟩
                    rw [← HSt.out.2.2, finO_nrm]; exact hf1
                  · exact HOK.out j p (by omega) hp
                have HOK : Hid (okB l ins (k + 1)) := hok
                have hout : (busS l ins (k + 1)).2.1.map plainO = (busS l ins k).2.1.map plainO ++ [Y] := by
                  have e : (stepB (p0, p1, p2, p3, p4, p5, p6) k (busS l ins k)).2.1 = (busS l ins k).2.1 ++ [yB (p0, p1, p2, p3, p4, p5, p6) (atB (busS l ins k) k)] := by unfold stepB; split <;> rfl
                  rw [HSt.out.1, e, List.map_append, List.map_singleton, HSt.out.2.1, hplO]
                have HOUT : Hid ((busS l ins (k + 1)).2.1.map plainO = (busS l ins k).2.1.map plainO ++ [Y]) := hout
                have hgI : goodI l.length k p6 = true := by
                  have := HG.out.2 k _ HX.out
                  simp only [goodB1, Bool.and_eq_true] at this
                  exact this.2
                have HGI : Hid (goodI l.length k p6 = true) := hgI
                have HPL : Hid (plain Y = Y) := hpl
                clear hf1 hpl hplO hok hout hgI HBM
                dsimp only
                repeat (first | (go_at_call 51; refine (l2Plain _ _).mono ?_; rintro e w7 ⟨rfl, rfl⟩; rw [HPL.out]; dsimp only) | (at_builtin; refine forgetL (fun w' => w' = _) rfl ?_) | go_values | go_skip | go_guarded | go_step | go_upon)
                intro W7 hW7
                have k7 : Kept w7 W7 := by rw [hW7]; exact (But.refl _ _ _).alloc _
                have N7 : Loc W7 w7.heap.size [.float .f64 Y] := by rw [hW7]; exact Loc.new w7 _ _
                have s7 := k7.size
                have hRow7 := own_kept HRow.out k7
                clear hW7
                refine wpList_append_own _ rfl _ _ 28 rfl hi 23 i0 (.float .f64 0) 1 8 Try.underlying28 hi0 hz0 hz1 hz2 rfl (by decide) (.slice ao5 k c5) k (((busS l ins k).2.1.map plainO).flatMap fltC) rfl hRow7 ⟨w7.heap.size, 0, none⟩ 1 1 [.float .f64 Y] rfl rfl (news1 N7) (by simp [Value.oneCell']) (by unfold maxLen; omega) (by omega) (by omega) ?_
                intro v' W8 hown' hgrow _
                obtain ⟨ao6, c6', hf6, _⟩ := own_form hown'
                subst hf6
                have hne : ∀ b, b < hi → (Value.slice ao5 k c5).ownBlock ≠ some b := fun b hb e => by have := own_lt hRow7 e; omega
                have k8 : But hi W7.heap.size W7 W8 := (But.refl _ _ _).grown hgrow (fun x hx => .inr (own_lt hRow7 hx))
                have HKr : Hid (Kept w W8) := (HKr.out.trans k7).grown hgrow (fun x hx => by have := own_lt hRow7 hx; omega)
                have HA : Hid (FltO W8 lo hi (.slice (some ⟨b2, 0, none⟩) l.length c7) ats ∧ ats.map nrm = (busS l ins k).1 ∧ WideL ats) := ⟨(HA.out.1.kept k7).but k8 (.inl (Nat.le_refl _)), HA.out.2⟩
                have hL8 : W8.cell? ⟨wr.heap.size, 6, none⟩ = some (.int .i64 p6) := (((HL4.out.kept k7).grown hgrow (fun e => by have := HRB.out _ e; omega)).cell 6 rfl)
                have HRow : Hid (W8.ownsRow hi 23 1 (.slice ao6 (k + 1) c6') (k + 1) (((busS l ins (k + 1)).2.1.map plainO).flatMap fltC)) := by
                  have : W8.ownsRow hi 23 1 (.slice ao6 (k + 1) c6') (k + 1) (((busS l ins (k + 1)).2.1.map plainO).flatMap fltC) := by
                    rw [HOUT.out, List.flatMap_append]; exact hown'
                  exact this
                have s8 := hgrow.size
                clear hown' hgrow hRow7 N7 hne k8 k7
                dsimp only
                by_cases i3 : p6 = -1
                · subst i3
                  repeat (first | go_values | go_skip | go_guarded | go_step | go_upon)
                  refine ⟨⟨k + 1, _, ats, ao6, c6', hlt, by go_num, rfl, rfl, ?_, ?_, ?_, HOK, HKr.out.drewN _, by simp; omega⟩, by simp [intOf]; omega⟩
                  · show nrm _ = (busS l ins (k + 1)).2.2 ∧ _
                    refine ⟨?_, fop_lt _ _ _ _⟩
                    rw [nrm_fop, HM.out.1, HSt.out.1]
                    simp only [stepB, intoOf, if_true, HSt.out.2.1, HSt.out.2.2]
                  · show FltO _ lo hi _ ats ∧ ats.map nrm = (busS l ins (k + 1)).1 ∧ WideL ats
                    refine ⟨HA.out.1.kept ((But.refl _ _ _).drewN _), ?_, HA.out.2.2⟩
                    rw [HSt.out.1, HA.out.2.1]
                    simp only [stepB, intoOf, if_true]
                  · exact own_kept HRow.out ((But.refl _ _ _).drewN _)
                · have hgI := HGI.out
                  simp only [goodI, Bool.or_eq_true, Bool.and_eq_true, decide_eq_true_eq] at hgI
                  have hI := hgI.resolve_left i3
                  clear hgI
                  obtain ⟨J, rfl⟩ : ∃ J : Nat, p6 = (J : Int) := ⟨p6.toNat, by omega⟩
                  have hJ : J < l.length := by omega
                  obtain ⟨at1, hat1⟩ : ∃ q, ats[J]? = some q := ⟨_, List.getElem?_eq_getElem (by rw [HAL.out]; exact hJ)⟩
                  have HAT1 : Hid (ats[J]? = some at1) := hat1
                  clear hat1
                  obtain ⟨f0, fz⟩ := HA.out.1.cells HAT1.out
                  have fz0 := fz J
                  clear fz
                  have d3 : decide ((J : Int) < 0) = false := by simp
                  have x3 : (0 : Int) ≤ (J : Int) := by omega
                  have x4 : (J : Int) < (l.length : Int) := by omega
                  repeat (first | go_values | go_skip | go_guarded | go_step | go_upon)
                  have KD : Kept W8 W8.drew := (But.refl _ _ _).drew
                  have hS9 : (fun w' => w'.cell? ⟨wr.heap.size, 6, none⟩ = some (.int .i64 (J : Int)) ∧ w'.cell? ⟨b2, J, none⟩ = some (.float .f64 at1)) W8.drew := ⟨Kept.cell KD hL8, Kept.cell KD f0⟩
                  have hS8 : (fun w' => w'.cell? ⟨wr.heap.size, 6, none⟩ = some (.int .i64 (J : Int)) ∧ w'.cell? ⟨b2, J, none⟩ = some (.float .f64 at1)) (W8.drew.drewN (nd .add at1 Y)) := ⟨Kept.cell (KD.drewN _) hL8, Kept.cell (KD.drewN _) f0⟩
                  have q0 := hS8.2
                  have qf : (W8.drew.drewN (nd .add at1 Y)).frozen? ⟨b2, J, none⟩ = false := fz0
                  refine wp_region_Z (fun w' => w'.cell? ⟨wr.heap.size, 6, none⟩ = some (.int .i64 (J : Int)) ∧ w'.cell? ⟨b2, J, none⟩ = some (.float .f64 at1)) 11 (by kernel_rfl) ?_
                  refine wpAnyZ_take (i := 0) (v := .slice (some ⟨b2, 0, none⟩) l.length c7) rfl (by kernel_rfl) (by kernel_rfl) (by kernel_rfl) (by kernel_rfl) (fun _ _ _ h => h) (Or.inl ⟨by rfl, ?_⟩) hS9 ?_
                  · intro w' hSw; obtain ⟨s0, s1⟩ := hSw; go_simp
                  try simp only [Act.put]
                  refine wpAnyZ_take (i := 1) (v := .pointer (some ⟨wr.heap.size, 6, none⟩)) rfl (by kernel_rfl) (by kernel_rfl) (by kernel_rfl) (by kernel_rfl) (fun _ _ _ h => h) (Or.inl ⟨by rfl, ?_⟩) hS9 ?_
                  · intro w' hSw; obtain ⟨s0, s1⟩ := hSw; go_simp
                  try simp only [Act.put]
                  refine wpAnyZ_take (i := 2) (v := .int .i64 (J : Int)) rfl (by kernel_rfl) (by kernel_rfl) (by kernel_rfl) (by kernel_rfl) (fun _ _ _ h => h) (Or.inl ⟨by rfl, ?_⟩) hS9 ?_
                  · intro w' hSw; obtain ⟨s0, s1⟩ := hSw; go_simp
                  try simp only [Act.put]
                  refine wpAnyZ_take (i := 3) (v := .slice (some ⟨b2, 0, none⟩) l.length c7) rfl (by kernel_rfl) (by kernel_rfl) (by kernel_rfl) (by kernel_rfl) (fun _ _ _ h => h) (Or.inl ⟨by rfl, ?_⟩) hS9 ?_
                  · intro w' hSw; obtain ⟨s0, s1⟩ := hSw; go_simp
                  try simp only [Act.put]
                  refine wpAnyZ_take (i := 4) (v := .pointer (some ⟨wr.heap.size, 6, none⟩)) rfl (by kernel_rfl) (by kernel_rfl) (by kernel_rfl) (by kernel_rfl) (fun _ _ _ h => h) (Or.inl ⟨by rfl, ?_⟩) hS9 ?_
                  · intro w' hSw; obtain ⟨s0, s1⟩ := hSw; go_simp
                  try simp only [Act.put]
                  refine wpAnyZ_take (i := 5) (v := .int .i64 (J : Int)) rfl (by kernel_rfl) (by kernel_rfl) (by kernel_rfl) (by kernel_rfl) (fun _ _ _ h => h) (Or.inl ⟨by rfl, ?_⟩) hS9 ?_
                  · intro w' hSw; obtain ⟨s0, s1⟩ := hSw; go_simp
                  try simp only [Act.put]
                  refine wpAnyZ_take (i := 6) (v := .pointer (some ⟨b2, J, none⟩)) rfl (by kernel_rfl) (by kernel_rfl) (by kernel_rfl) (by kernel_rfl) (fun _ _ _ h => h) (Or.inl ⟨by rfl, ?_⟩) hS9 ?_
                  · intro w' hSw; obtain ⟨s0, s1⟩ := hSw; go_simp
                  try simp only [Act.put]
                  refine wpAnyZ_take (i := 7) (v := .float .f64 at1) rfl (by kernel_rfl) (by kernel_rfl) (by kernel_rfl) (by kernel_rfl) (fun _ _ _ h => h) (Or.inl ⟨by rfl, ?_⟩) hS9 ?_
                  · intro w' hSw; obtain ⟨s0, s1⟩ := hSw; go_simp
                  try simp only [Act.put]
                  refine wpAnyZ_take (i := 8) (v := .float .f64 Y) rfl (by kernel_rfl) (by kernel_rfl) (by kernel_rfl) (by kernel_rfl) (fun _ _ _ h => h) (Or.inl ⟨by rfl, ?_⟩) hS9 ?_
                  · intro w' hSw; obtain ⟨s0, s1⟩ := hSw; go_simp
                  try simp only [Act.put]
                  refine wpAnyZ_one (i := 9) (by kernel_rfl) rfl ?_
                  intro K8 hK8
                  rw [if_pos (by rfl)]
                  go_simp
                  refine hK8.out _ _ (fun _ => hS8) ?_
                  clear hK8 K8
                  try simp only [Act.put]
                  refine wpAnyZ_take (i := 10) (v := .pointer (some ⟨b2, J, none⟩)) rfl (by kernel_rfl) (by kernel_rfl) (by kernel_rfl) (by kernel_rfl) (fun _ _ _ h => h) (Or.inl ⟨by rfl, ?_⟩) hS8 ?_
                  · intro w' hSw; obtain ⟨s0, s1⟩ := hSw; go_simp
                  try simp only [Act.put]
                  refine wpAnyZ_one (i := 11) (by kernel_rfl) rfl ?_
                  intro K8 hK8
                  rw [if_pos (by rfl)]
                  go_simp
                  refine hK8.out _ _ (fun h => absurd rfl h) ?_
                  clear hK8 K8
                  refine wpAnyZ_done (by kernel_rfl) ?_ _
                  try simp only [Act.put]
                  repeat (first | go_values | go_skip | go_guarded | go_step | go_upon)
                  have hset := HA.out.1.set HAL.out.symm HAT1.out (fop .add (tok W8.drew) at1 Y)
                  have kb2 : But lo hi W8 (W8.setCell ⟨b2, J, none⟩ (.float .f64 (fop .add (tok W8.drew) at1 Y))) := (But.refl _ _ _).setCell hb2.1 hb2.2 _
                  refine ⟨⟨k + 1, m, ats.set J (fop .add (tok W8.drew) at1 Y), ao6, c6', hlt, by go_num, rfl, rfl, ?_, ?_, ?_, HOK, (HKr.out.setNew (by simp; omega) _).drewN _, by simp; omega⟩, by simp [intOf]; omega⟩
                  · show nrm m = (busS l ins (k + 1)).2.2 ∧ _
                    refine ⟨?_, HM.out.2⟩
                    rw [HM.out.1, HSt.out.1, step_no (J := J) rfl]
                  · show FltO _ lo hi _ (ats.set J _) ∧ (ats.set J _).map nrm = (busS l ins (k + 1)).1 ∧ WideL (ats.set J _)
                    refine ⟨hset.kept ((But.refl _ _ _).drewN _), ?_, fun p hp => ?_⟩
                    · rw [List.map_set, nrm_fop, HA.out.2.1, HSt.out.1, step_no (J := J) rfl]
                      simp only [HSt.out.2.1, HSt.out.2.2, atB_of HA.out.2.1 HAT1.out]
                    · rcases List.mem_or_eq_of_mem_set hp with h | h
                      · exact HA.out.2.2 p h
                      · rw [h]; exact fop_lt _ _ _ _
                  · exact own_kept (own_but HRow.out kb2 (fun g hg => by have := own_lt HRow.out hg; omega)) ((But.refl _ _ _).drewN _)
          · have hke : k = l.length := by omega
            subst hke
            have hfm : fin m = finO (busS l ins l.length).2.2 := by rw [← HM.out.1, finO_nrm]
            repeat (first | go_values | go_skip | go_guarded | go_step | go_upon)
            go_at_call 50
            refine (l2Finite m HM.out.2 _).mono ?_
            rintro e w9 ⟨rfl, rfl⟩
            rw [hfm]
            cases hfo : finO (busS l ins l.length).2.2 with
            | false =>
              dsimp only
              repeat (first | go_values | go_skip | go_guarded | go_step | go_upon)
              go_returns
              have hR : busR l ins = ([], 0, false) := by simp [busR, hfo]
              rw [HRR.out, hR]
              exact ⟨.slice none 0 0, rfl, FltO.nil, HKr.out⟩
            | true =>
              have HFO : Hid (finO (busS l ins l.length).2.2 = true) := hfo
              clear hfo hfm
              dsimp only
              repeat (first | (go_at_call 51; refine (l2Plain _ _).mono ?_; rintro e w7 ⟨rfl, rfl⟩; dsimp only) | go_values | go_skip | go_guarded | go_step | go_upon)
              go_returns
              have hR : busR l ins = ((busS l ins l.length).2.1.map plainO, plain m, true) := by
                simp only [busR, HFO.out, if_true]
                rw [out_plain HM.out.1 HFO.out]
              rw [HRR.out, hR]
              have hlen := (busS_len l ins l.length (Nat.le_refl _)).2
              exact ⟨_, rfl, by
                have h := RowO.top HRow.out
                unfold FltO
                rw [List.length_map, hlen]
                exact h.mono (by omega) (Nat.le_refl _), HKr.out⟩

end Go.Proofs.Ytghmnhohdbombaa
