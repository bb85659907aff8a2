/-
  What GoodScene answers in the program: whether a scene is good.
-/
import Derived.Test.YtcljppnakmeldaaTwin
import Derived.Test.YtcljppnakmeldaaJoin
import Derived.Test.YtcljppnakmeldaaQuiet
namespace Go.Proofs.Ytcljppnakmeldaa
open Go.ChangeShapes Go.WideShapes Go.ChangeAt Go.RowKit

theorem own_cap {w : World} {base : Nat} {e : TypeId} {size : Nat} {v : Value} {n : Nat} {xs : List Value} (h : w.ownsRow base e size v n xs) : ∃ ao cap, v = .slice ao n cap ∧ n ≤ cap := by
  rcases h.2 with ⟨rfl, rfl⟩ | ⟨g, cap, cur, rfl, _, _, h1, _⟩
  · exact ⟨none, 0, rfl, Nat.le_refl _⟩
  · exact ⟨_, cap, rfl, h1⟩
def spotN (n : NodeD) : SpotD := n.2.2
theorem ownSpot (n : NodeD) (w : World) : Calls Try.prog 57 #[nv n] w fun e w' => e = .returned (sv (spotN n)) ∧ ∃ o1 o2 k, w' = ((w.alloc o1).alloc o2).drewN k := by
  go_enter Try.func57, Try.ntmps57
  go_wp2
  refine bodyPost_ret (v := sv (spotN n)) (by simp [results, Try.results57, go_sem, spotN]) rfl ?_
  exact ⟨rfl, _, _, 0, rfl⟩
theorem l4Spot (n : NodeD) (w : World) : Calls Try.prog 54 #[nv n] w fun e w' => e = .returned (sv (spotN n)) ∧ ∃ o1 o2 k, w' = ((w.alloc o1).alloc o2).drewN k := by
  go_enter Try.func54, Try.ntmps54
  go_wp2
  refine bodyPost_ret (v := sv (spotN n)) (by simp [results, Try.results54, go_sem, spotN]) rfl ?_
  exact ⟨rfl, _, _, 0, rfl⟩

theorem ownSpotK (n : NodeD) (w : World) : Calls Try.prog 57 #[nv n] w fun e w' => e = .returned (sv (spotN n)) ∧ Kept w w' := (ownSpot n w).mono fun _ _ ⟨h, _, _, _, e⟩ => ⟨h, by rw [e]; exact (((But.refl _ _ _).alloc _).alloc _).drewN _⟩
theorem l4SpotK (n : NodeD) (w : World) : Calls Try.prog 54 #[nv n] w fun e w' => e = .returned (sv (spotN n)) ∧ Kept w w' := (l4Spot n w).mono fun _ _ ⟨h, _, _, _, e⟩ => ⟨h, by rw [e]; exact (((But.refl _ _ _).alloc _).alloc _).drewN _⟩
theorem igoodK (x y t : Int) (f : Bool) (w : World) : Calls Try.prog 38 #[.agg #[.int .i64 x, .int .i64 y, .int .i64 t, .bool f]] w fun e w' => e = .returned (.bool (goodS (x, y, t, f))) ∧ Kept w w' := (igood x y t f w).mono fun _ _ ⟨h, _, e⟩ => ⟨h, by rw [e]; exact ((But.refl _ _ _).alloc _).drewN _⟩
theorem sgoodK (x y t : Int) (f : Bool) (w : World) : Calls Try.prog 41 #[.agg #[.int .i64 x, .int .i64 y, .int .i64 t, .bool f]] w fun e w' => e = .returned (.bool (goodS (x, y, t, f))) ∧ Kept w w' := (sgood x y t f w).mono fun _ _ ⟨h, e⟩ => ⟨h, by rw [e]; exact (But.refl _ _ _).alloc _⟩

/-- A node that may stand at number i of l. -/
def okN (l : List NodeD) (i : Nat) (n : NodeD) : Prop := nameB n.1 = true ∧ -1 ≤ n.2.1 ∧ n.2.1 < i ∧ GoodS (spotN n) ∧ ((l.take i).any fun o => sameN o n) = false
def GoodL (l : List NodeD) : Prop := l.length ≤ 40 ∧ ∀ (i : Nat) n, l[i]? = some n → okN l i n
def BoolEnd (P : Prop) (e : Ending) : Prop := ∃ b : Bool, e = .returned (.bool b) ∧ (b = true ↔ P)

set_option maxRecDepth 100000 in
set_option maxHeartbeats 4000000 in
theorem implGood (l : List NodeD) (v : Value) (lo hi : Nat) (w : World) (ho : NodeO w lo hi v l) (hn : l.length ≤ 1048576) (hs : ∀ p ∈ l, p.1.size ≤ 1048576) :
    Calls Try.prog 23 #[v] w fun e w' => BoolEnd (GoodL l) e ∧ Kept w w' := by
  obtain ⟨ao, cap, hsl, hcap⟩ := own_cap ho.1
  have hv := ho.at
  clear ho
  subst hsl
  by_cases h40 : 40 < l.length
  · go_enter Try.func23, Try.ntmps23
    go_wp2
    go_ret
    exact ⟨⟨false, rfl, by simp [GoodL]; intro h; omega⟩, But.refl _ _ _⟩
  · have h40' : decide (40 < (l.length : Int)) = false := by simp; omega
    go_enter Try.func23, Try.ntmps23
    go_wp2
    go_loopw [3, 4, 10] (fun _ _ i wr => ∃ k : Nat, k ≤ l.length ∧ i = .int .i64 k ∧ (∀ (j : Nat) n, j < k → l[j]? = some n → okN l j n) ∧ Kept w wr) (fun _ _ i _ => l.length - (intOf i).toNat)
    case atStart => exact ⟨0, by omega, rfl, fun j o hj => by omega, But.refl _ _ _⟩
    case round =>
      obtain ⟨k, hk, rfl, hok, hkp⟩ := hrel
      by_cases hlt : k < l.length
      · obtain ⟨⟨nm, up, x, y, t, f⟩, hp⟩ : ∃ p, l[k]? = some p := ⟨_, List.getElem?_eq_getElem hlt⟩
        obtain ⟨b, o, cap1, e, c0, c1, c2, c3, c4, c5⟩ := node_get (hv.kept hkp) hp
        cases e
        have hsz := hs _ (List.mem_of_getElem? hp)
        dsimp only at hsz c0 c1 c2 c3 c4 c5
        have htl : (l.take k).length ≤ 1048576 := by simp; omega
        have HT : Hid (NodeAt wr (.slice (some ⟨b, o, none⟩) k cap) (l.take k)) := (hv.kept hkp).take rfl hk
        have hkc : k ≤ cap := by omega
        have hkc' : (k : Int) ≤ (cap : Int) := by omega
        have HO : Hid _ := hok
        have HK : Hid _ := hkp
        have HP : Hid _ := hp
        clear hok hkp hp
        cases q1 : nameB nm with
        | false =>
          repeat (first | go_values | go_skip | go_guarded | go_step | go_upon)
          refine wp_region_kept (by kernel_rfl) (by kernel_rfl) ?_
          have hcc := KW.cell_eq (wr.alloc (.cells #[.string nm, .int .i64 up, .int .i64 x, .int .i64 y, .int .i64 t, .bool f] 36))
          repeat (go_big_quiet_step (first | (go_at_call 56; exact kw_same (calls_bool q1 (iname nm _ hsz))) | (go_at_call 57; exact kw_call (ownSpotK (nm, up, x, y, t, f) _)) | (go_at_call 38; exact kw_call (calls_bool q4 (igoodK x y t f _))) | (go_at_call 58; exact kw_call (calls_bool q5 (hasTwin (l.take k) (nm, up, x, y, t, f) _ _ (HT.out.kept (But.trans ((But.refl _ _ _).alloc _) (KW.k _))) htl)))))
          refine wpQuiet_nil ?_
          rintro _ ⟨⟨w5, k5⟩, rfl⟩
          clear hcc
          repeat (first | go_values | go_skip | go_guarded | go_step | go_upon)
          go_ret
          refine ⟨⟨false, rfl, by simp only [Bool.false_eq_true, false_iff]; intro h; have hk0 := h.2 k _ HP.out; exact by rw [okN, q1] at hk0; cases hk0.1⟩, ?_⟩
          exact (HK.out.alloc _).trans k5
        | true =>
          by_cases q2 : up < -1
          · have q2' : decide (up < -1) = true := by simpa using q2
            repeat (first | go_values | go_skip | go_guarded | go_step | go_upon)
            refine wp_region_kept (by kernel_rfl) (by kernel_rfl) ?_
            have hcc := KW.cell_eq (wr.alloc (.cells #[.string nm, .int .i64 up, .int .i64 x, .int .i64 y, .int .i64 t, .bool f] 36))
            repeat (go_big_quiet_step (first | (go_at_call 56; exact kw_same (calls_bool q1 (iname nm _ hsz))) | (go_at_call 57; exact kw_call (ownSpotK (nm, up, x, y, t, f) _)) | (go_at_call 38; exact kw_call (calls_bool q4 (igoodK x y t f _))) | (go_at_call 58; exact kw_call (calls_bool q5 (hasTwin (l.take k) (nm, up, x, y, t, f) _ _ (HT.out.kept (But.trans ((But.refl _ _ _).alloc _) (KW.k _))) htl)))))
            refine wpQuiet_nil ?_
            rintro _ ⟨⟨w5, k5⟩, rfl⟩
            clear hcc
            repeat (first | go_values | go_skip | go_guarded | go_step | go_upon)
            go_ret
            refine ⟨⟨false, rfl, by simp only [Bool.false_eq_true, false_iff]; intro h; have hk0 := h.2 k _ HP.out; exact absurd hk0.2.1 (by simp; omega)⟩, ?_⟩
            exact (HK.out.alloc _).trans k5
          · have q2' : decide (up < -1) = false := by simpa using q2
            by_cases q3 : (k : Int) ≤ up
            · have q3' : decide ((k : Int) ≤ up) = true := by simpa using q3
              repeat (first | go_values | go_skip | go_guarded | go_step | go_upon)
              refine wp_region_kept (by kernel_rfl) (by kernel_rfl) ?_
              have hcc := KW.cell_eq (wr.alloc (.cells #[.string nm, .int .i64 up, .int .i64 x, .int .i64 y, .int .i64 t, .bool f] 36))
              repeat (go_big_quiet_step (first | (go_at_call 56; exact kw_same (calls_bool q1 (iname nm _ hsz))) | (go_at_call 57; exact kw_call (ownSpotK (nm, up, x, y, t, f) _)) | (go_at_call 38; exact kw_call (calls_bool q4 (igoodK x y t f _))) | (go_at_call 58; exact kw_call (calls_bool q5 (hasTwin (l.take k) (nm, up, x, y, t, f) _ _ (HT.out.kept (But.trans ((But.refl _ _ _).alloc _) (KW.k _))) htl)))))
              refine wpQuiet_nil ?_
              rintro _ ⟨⟨w5, k5⟩, rfl⟩
              clear hcc
              repeat (first | go_values | go_skip | go_guarded | go_step | go_upon)
              go_ret
              refine ⟨⟨false, rfl, by simp only [Bool.false_eq_true, false_iff]; intro h; have hk0 := h.2 k _ HP.out; exact absurd hk0.2.2.1 (by simp; omega)⟩, ?_⟩
              exact (HK.out.alloc _).trans k5
            · have q3' : decide ((k : Int) ≤ up) = false := by simpa using q3
              by_cases hg : GoodS (x, y, t, f)
              · have q4 := (goodS_iff _).2 hg
                cases q5 : ((l.take k).any fun o => sameN o (nm, up, x, y, t, f)) with
                | true =>
                  repeat (first | go_values | go_skip | go_guarded | go_step | go_upon)
                  refine wp_region_kept (by kernel_rfl) (by kernel_rfl) ?_
                  have hcc := KW.cell_eq (wr.alloc (.cells #[.string nm, .int .i64 up, .int .i64 x, .int .i64 y, .int .i64 t, .bool f] 36))
                  repeat (go_big_quiet_step (first | (go_at_call 56; exact kw_same (calls_bool q1 (iname nm _ hsz))) | (go_at_call 57; exact kw_call (ownSpotK (nm, up, x, y, t, f) _)) | (go_at_call 38; exact kw_call (calls_bool q4 (igoodK x y t f _))) | (go_at_call 58; exact kw_call (calls_bool q5 (hasTwin (l.take k) (nm, up, x, y, t, f) _ _ (HT.out.kept (But.trans ((But.refl _ _ _).alloc _) (KW.k _))) htl)))))
                  refine wpQuiet_nil ?_
                  rintro _ ⟨⟨w5, k5⟩, rfl⟩
                  clear hcc
                  repeat (first | go_values | go_skip | go_guarded | go_step | go_upon)
                  go_ret
                  refine ⟨⟨false, rfl, by simp only [Bool.false_eq_true, false_iff]; intro h; have hk0 := h.2 k _ HP.out; exact by rw [okN, q5] at hk0; cases hk0.2.2.2.2⟩, ?_⟩
                  exact (HK.out.alloc _).trans k5
                | false =>
                  repeat (first | go_values | go_skip | go_guarded | go_step | go_upon)
                  refine wp_region_kept (by kernel_rfl) (by kernel_rfl) ?_
                  have hcc := KW.cell_eq (wr.alloc (.cells #[.string nm, .int .i64 up, .int .i64 x, .int .i64 y, .int .i64 t, .bool f] 36))
                  repeat (go_big_quiet_step (first | (go_at_call 56; exact kw_same (calls_bool q1 (iname nm _ hsz))) | (go_at_call 57; exact kw_call (ownSpotK (nm, up, x, y, t, f) _)) | (go_at_call 38; exact kw_call (calls_bool q4 (igoodK x y t f _))) | (go_at_call 58; exact kw_call (calls_bool q5 (hasTwin (l.take k) (nm, up, x, y, t, f) _ _ (HT.out.kept (But.trans ((But.refl _ _ _).alloc _) (KW.k _))) htl)))))
                  refine wpQuiet_nil ?_
                  rintro _ ⟨⟨w5, k5⟩, rfl⟩
                  clear hcc
                  repeat (first | go_values | go_skip | go_guarded | go_step | go_upon)
                  refine ⟨⟨k + 1, hlt, by go_num, fun j q hj hq => ?_, (HK.out.alloc _).trans k5⟩, by simp [intOf]; omega⟩
                  by_cases hjk : j = k
                  · subst hjk
                    have := HP.out
                    rw [this] at hq
                    cases hq
                    exact ⟨q1, by dsimp only; omega, by dsimp only; omega, hg, q5⟩
                  · exact HO.out j q (by omega) hq
              · have q4 := goodS_no hg
                repeat (first | go_values | go_skip | go_guarded | go_step | go_upon)
                refine wp_region_kept (by kernel_rfl) (by kernel_rfl) ?_
                have hcc := KW.cell_eq (wr.alloc (.cells #[.string nm, .int .i64 up, .int .i64 x, .int .i64 y, .int .i64 t, .bool f] 36))
                repeat (go_big_quiet_step (first | (go_at_call 56; exact kw_same (calls_bool q1 (iname nm _ hsz))) | (go_at_call 57; exact kw_call (ownSpotK (nm, up, x, y, t, f) _)) | (go_at_call 38; exact kw_call (calls_bool q4 (igoodK x y t f _))) | (go_at_call 58; exact kw_call (calls_bool q5 (hasTwin (l.take k) (nm, up, x, y, t, f) _ _ (HT.out.kept (But.trans ((But.refl _ _ _).alloc _) (KW.k _))) htl)))))
                refine wpQuiet_nil ?_
                rintro _ ⟨⟨w5, k5⟩, rfl⟩
                clear hcc
                repeat (first | go_values | go_skip | go_guarded | go_step | go_upon)
                go_ret
                refine ⟨⟨false, rfl, by simp only [Bool.false_eq_true, false_iff]; intro h; have hk0 := h.2 k _ HP.out; exact absurd hk0.2.2.2.1 hg⟩, ?_⟩
                exact (HK.out.alloc _).trans k5
      · have hke : k = l.length := by omega
        subst hke
        go_wp2
        go_ret
        exact ⟨⟨true, rfl, by simp only [true_iff]; exact ⟨by omega, fun i n h => hok i n (List.getElem?_eq_some_iff.1 h).1 h⟩⟩, hkp⟩
end Go.Proofs.Ytcljppnakmeldaa
