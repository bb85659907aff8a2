/-
  What a plan costs, and the facts behind it: in the specification.
-/
import Derived.Test.YtjpceimaggcncaaActs
import Derived.Test.YtjpceimaggcncaaNum
namespace Go.Proofs.Ytjpceimaggcncaa
open Go.ChangeShapes Go.WideShapes Go.ChangeAt Go.RowKit
set_option maxRecDepth 100000

/-- One action of a plan. -/
def stepP (ps : List ActionD) (s : Int × Int) (i : Int) : Option (Int × Int) :=
  if i < 0 then none else match ps[i.toNat]? with
  | none => none
  | some p => if mayB s.2 p = true then some (s.1 + p.2.1, nextI s.2 p) else none
def runP (ps : List ActionD) : Int × Int → List Int → Option (Int × Int)
  | s, [] => some s
  | s, i :: is => match stepP ps s i with
    | none => none
    | some t => runP ps t is
def planOk (f : Int) (ns : List Int) (ps : List ActionD) : Bool := factB f && (decide (ns.length ≤ 20) && actsB ps)
def planA (f : Int) (ns : List Int) (ps : List ActionD) : Int × Int × Bool :=
  if planOk f ns ps = true then (match runP ps (0, f) ns with | none => (0, 0, false) | some s => (s.1, s.2, true)) else (0, 0, false)
theorem runP_snoc (ps : List ActionD) (s : Int × Int) (is : List Int) (i : Int) : runP ps s (is ++ [i]) = (runP ps s is).bind fun t => stepP ps t i := by
  induction is generalizing s with
  | nil => simp [runP]; cases stepP ps s i <;> rfl
  | cons j js ih =>
    simp only [List.cons_append, runP]
    cases stepP ps s j with
    | none => rfl
    | some t => exact ih t
theorem runP_app_none (ps : List ActionD) (s : Int × Int) (is js : List Int) (h : runP ps s is = none) : runP ps s (is ++ js) = none := by
  induction is generalizing s with
  | nil => simp [runP] at h
  | cons j ks ih =>
    simp only [List.cons_append, runP] at h ⊢
    cases hs : stepP ps s j with
    | none => rfl
    | some t => rw [hs] at h; exact ih t h

theorem cost_bd {ps : List ActionD} (h : actsB ps = true) {i : Nat} {p : ActionD} (hp : ps[i]? = some p) : 1 ≤ p.2.1 ∧ p.2.1 ≤ 1000 := by
  simp only [actsB, Bool.and_eq_true, List.all_eq_true] at h
  have := h.2 p (List.mem_of_getElem? hp)
  simp [actB] at this
  exact this.2.1
theorem stepP_out {ps : List ActionD} {s : Int × Int} {i : Int} (h : ¬ (0 ≤ i ∧ i ≤ (ps.length : Int) - 1)) : stepP ps s i = none := by
  unfold stepP
  split
  · rfl
  · rw [List.getElem?_eq_none (by omega)]
theorem stepP_no {ps : List ActionD} {c g : Int} {j : Nat} {p : ActionD} (hp : ps[j]? = some p) (h : mayB g p = false) : stepP ps (c, g) (j : Int) = none := by
  unfold stepP
  rw [if_neg (by omega)]
  simp [hp, h]
theorem stepP_yes {ps : List ActionD} {c g : Int} {j : Nat} {p : ActionD} (hp : ps[j]? = some p) (h : mayB g p = true) : stepP ps (c, g) (j : Int) = some (c + p.2.1, nextI g p) := by
  unfold stepP
  rw [if_neg (by omega)]
  simp [hp, h]
theorem planA_no {f : Int} {ns : List Int} {ps : List ActionD} (h : planOk f ns ps = false) : planA f ns ps = (0, 0, false) := by simp [planA, h]
theorem planA_end {f : Int} {ns : List Int} {ps : List ActionD} (h : planOk f ns ps = true) {c g : Int} (hr : runP ps (0, f) ns = some (c, g)) : planA f ns ps = (c, g, true) := by simp [planA, h, hr]
theorem planA_stop {f : Int} {ns : List Int} {ps : List ActionD} (h : planOk f ns ps = true) {k : Nat} (hr : runP ps (0, f) (ns.take k) = none) : planA f ns ps = (0, 0, false) := by
  have := runP_app_none ps (0, f) (ns.take k) (ns.drop k) hr
  rw [List.take_append_drop] at this
  simp [planA, h, this]

set_option maxHeartbeats 4000000 in
theorem sPlan (f : Int) (ns : List Int) (ps : List ActionD) (v v' : Value) (w : World) (hv : NumAt w v ns) (hv' : ActionAt w v' ps) (hq : ∀ p ∈ ps, p.1.size ≤ 1048576) (hn : ps.length ≤ 1048576) (hm : ns.length ≤ 1048576) :
    Calls Try.prog 17 #[.int .i64 f, v, v'] w fun e w' => e = .returned (.tuple #[.int .i64 (planA f ns ps).1, .int .i64 (planA f ns ps).2.1, .bool (planA f ns ps).2.2]) ∧ Kept w w' := by
  obtain ⟨ao, cap, hsl⟩ := row_nil hv
  subst hsl
  obtain ⟨ao', cap', hsl⟩ := row_nil hv'
  subst hsl
  cases hok : planOk f ns ps
  · rw [planA_no hok]
    cases hf : factB f
    · go_enter Try.func17, Try.ntmps17
      go_wp2_with (first | (go_at_call 50; refine (sfacts _ _).mono ?_; rw [hf]; rintro e w' ⟨rfl, rfl⟩))
      refine bodyPost_ret (v := .tuple #[.int .i64 0, .int .i64 0, .bool false]) (by simp [results, Try.results17, go_sem]) rfl ?_
      exact ⟨rfl, But.refl _ _ _⟩
    by_cases hl : ns.length ≤ 20
    · have d : decide ((20 : Int) < (ns.length : Int)) = false := by simp; omega
      have ha : actsB ps = false := by simpa [planOk, hf, hl] using hok
      go_enter Try.func17, Try.ntmps17
      go_wp2_with (first | (go_at_call 50; refine (sfacts _ _).mono ?_; rw [hf]; rintro e w' ⟨rfl, rfl⟩) | (go_at_call 51; refine (sacts ps _ _ hv' hq hn).mono ?_; rw [ha]; rintro e w1 ⟨rfl, k1⟩))
      refine bodyPost_ret (v := .tuple #[.int .i64 0, .int .i64 0, .bool false]) (by simp [results, Try.results17, go_sem]) rfl ?_
      exact ⟨rfl, k1⟩
    · have d : decide ((20 : Int) < (ns.length : Int)) = true := by simp; omega
      go_enter Try.func17, Try.ntmps17
      go_wp2_with (first | (go_at_call 50; refine (sfacts _ _).mono ?_; rw [hf]; rintro e w' ⟨rfl, rfl⟩))
      refine bodyPost_ret (v := .tuple #[.int .i64 0, .int .i64 0, .bool false]) (by simp [results, Try.results17, go_sem]) rfl ?_
      exact ⟨rfl, But.refl _ _ _⟩
  · have hf : factB f = true := by simp [planOk] at hok; exact hok.1
    have hl : ns.length ≤ 20 := by simp [planOk] at hok; exact hok.2.1
    have ha : actsB ps = true := by simp [planOk] at hok; exact hok.2.2
    have d : decide ((20 : Int) < (ns.length : Int)) = false := by simp; omega
    go_enter Try.func17, Try.ntmps17
    go_wp2_with (first | (go_at_call 50; refine (sfacts _ _).mono ?_; rw [hf]; rintro e w' ⟨rfl, rfl⟩) | (go_at_call 51; refine (sacts ps _ _ hv' hq hn).mono ?_; rw [ha]; rintro e w1 ⟨rfl, k1⟩))
    go_loopw [0, 9, 27] (fun a b i wr => ∃ (k : Nat) (c g : Int), k ≤ ns.length ∧ a = .int .i64 g ∧ b = .int .i64 c ∧ i = .int .i64 k ∧ runP ps (0, f) (ns.take k) = some (c, g) ∧ 0 ≤ c ∧ c ≤ 1000 * k ∧ Kept w' wr) (fun _ _ i _ => ns.length - (intOf i).toNat)
    case atStart => exact ⟨0, 0, f, by omega, rfl, rfl, rfl, by simp [runP], by omega, by omega, k1⟩
    case round =>
      obtain ⟨k, c, g, hk, rfl, rfl, rfl, hr, hc0, hc1, hkp⟩ := hrel
      have HR : Hid _ := hr
      clear hr k1
      by_cases hlt : k < ns.length
      · obtain ⟨i, hi⟩ : ∃ i, ns[k]? = some i := ⟨_, List.getElem?_eq_getElem hlt⟩
        obtain ⟨b, o, cap1, e, e0⟩ := num_get (hv.kept hkp) hi
        cases e
        have HN : Hid (runP ps (0, f) (ns.take (k + 1)) = stepP ps (c, g) i) := by rw [take_snoc hi, runP_snoc, HR.out]; rfl
        by_cases hin : 0 ≤ i ∧ i ≤ (ps.length : Int) - 1
        · obtain ⟨j, rfl⟩ : ∃ j : Nat, i = j := ⟨i.toNat, by omega⟩
          have hj : j < ps.length := by omega
          obtain ⟨p, hp⟩ : ∃ p, ps[j]? = some p := ⟨_, List.getElem?_eq_getElem hj⟩
          have hcb := cost_bd ha hp
          obtain ⟨b', o', cap1', e, c0, c1, c2, c3, c4, c5⟩ := action_get (hv'.kept hkp) hp
          cases e
          have hd : decide ((0 : Int) ≤ (j : Int) ∧ (j : Int) ≤ (ps.length : Int) - 1) = true := by simp; omega
          have HY : Hid _ := @stepP_yes ps c g j p hp
          have HO : Hid _ := @stepP_no ps c g j p hp
          have HK : Hid _ := hkp
          obtain ⟨nm, co, ne, la, ga, lo⟩ := p
          dsimp only at hcb
          clear hin hp hi hkp
          cases hmay : mayB g (nm, co, ne, la, ga, lo)
          · go_wp2_with (first | (go_at_call 56; refine (sIn _ _ _ _).mono ?_; rw [hd]; rintro e w' ⟨rfl, rfl⟩) | (go_at_call 52; refine (smay _ _ _ _ _ _ _ _).mono ?_; rw [hmay]; rintro e w2 ⟨rfl, k2⟩))
            rw [planA_stop hok (HN.out.trans (HO.out hmay))]
            refine bodyPost_ret (v := .tuple #[.int .i64 0, .int .i64 0, .bool false]) (by simp [results, Try.results17, go_sem]) rfl ?_
            exact ⟨rfl, HK.out.trans k2⟩
          · go_wp2_with (first | (go_at_call 56; refine (sIn _ _ _ _).mono ?_; rw [hd]; rintro e w' ⟨rfl, rfl⟩) | (go_at_call 52; refine (smay _ _ _ _ _ _ _ _).mono ?_; rw [hmay]; rintro e w2 ⟨rfl, k2⟩; have c0 := Kept.cell k2 c0; have c1 := Kept.cell k2 c1; have c2 := Kept.cell k2 c2; have c3 := Kept.cell k2 c3; have c4 := Kept.cell k2 c4; have c5 := Kept.cell k2 c5) | (go_at_call 53; refine (safter _ _ _ _ _ _ _ _).mono ?_; rintro e w3 ⟨rfl, k3⟩))
            exact ⟨⟨k + 1, _, _, hlt, rfl, rfl, by go_num, HN.out.trans (HY.out hmay), by omega, by omega, (HK.out.trans k2).trans k3⟩, by simp [intOf]; omega⟩
        · have hd : decide ((0 : Int) ≤ i ∧ i ≤ (ps.length : Int) - 1) = false := by simp; omega
          go_wp2_with (first | (go_at_call 56; refine (sIn _ _ _ _).mono ?_; rw [hd]; rintro e w' ⟨rfl, rfl⟩))
          rw [planA_stop hok (HN.out.trans (stepP_out hin))]
          refine bodyPost_ret (v := .tuple #[.int .i64 0, .int .i64 0, .bool false]) (by simp [results, Try.results17, go_sem]) rfl ?_
          exact ⟨rfl, hkp⟩
      · have hke : k = ns.length := by omega
        subst hke
        have hr := HR.out
        rw [List.take_length] at hr
        have HE : Hid _ := planA_end hok hr
        clear hr HR
        go_wp2
        rw [HE.out]
        refine bodyPost_ret (v := .tuple #[.int .i64 c, .int .i64 g, .bool true]) (by simp [results, Try.results17, go_sem]) rfl ?_
        exact ⟨rfl, hkp⟩
end Go.Proofs.Ytjpceimaggcncaa
