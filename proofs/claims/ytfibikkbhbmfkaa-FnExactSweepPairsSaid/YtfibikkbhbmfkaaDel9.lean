/-
  Numbers struck from a list by what a function says of them.
-/
import Derived.Test.YtfibikkbhbmfkaaGr9
import Derived.Lib.SliceRun
namespace Go.Proofs.Ytfibikkbhbmfkaa
open Go.ChangeShapes Go.WideShapes Go.ChangeAt Go.RowKit

set_option maxRecDepth 100000
set_option linter.unusedVariables false
set_option linter.unusedSimpArgs false

/-- Numbers of a list, as they lie. -/
def nums (l : List Nat) : List NumD := l.map fun (i : Nat) => (i : Int)
theorem nums_len (l : List Nat) : (nums l).length = l.length := by simp [nums]
theorem nums_get {l : List Nat} {i x : Nat} (h : l[i]? = some x) : (nums l)[i]? = some (x : Int) := by simp [nums, h]
set_option maxHeartbeats 4000000 in
theorem indexFunc (l : List Nat) (m g cap Bf Bl : Nat) (p : Nat → Bool) (Q : World → Prop) (w : World) (hw : Q w) (hv : NumAt w (.slice (some ⟨g, 0, none⟩) l.length cap) (nums l)) (hm : ∀ x ∈ l, x < m) (hn : l.length ≤ 1048576)
    (hP : ∀ (W : World) (x : Nat), Q W → x < m → Calls Try.prog 48 #[.int .i64 (x : Int), .pointer (some ⟨Bf, 0, none⟩), .pointer (some ⟨Bl, 0, none⟩)] W fun e w' => e = .returned (.bool (p x)) ∧ Kept W w') (hQ : ∀ W W', Q W → But g (g + 1) W W' → Q W') :
    Calls Try.prog 67 #[.slice (some ⟨g, 0, none⟩) l.length cap, .func (.func 48) #[] #[.pointer (some ⟨Bf, 0, none⟩), .pointer (some ⟨Bl, 0, none⟩)]] w fun e w' => (∃ j, e = .returned (.int .i64 j) ∧ (j = -1 ∧ (∀ x ∈ l, p x = false) ∨ ∃ k x, j = ((k : Nat) : Int) ∧ l[k]? = some x ∧ p x = true ∧ ∀ y ∈ l.take k, p y = false)) ∧ Kept w w' := by
  have HV : Hid (NumAt w (.slice (some ⟨g, 0, none⟩) l.length cap) (nums l)) := hv
  have HM : Hid (∀ x ∈ l, x < m) := hm
  have HP : Hid (∀ (W : World) (x : Nat), Q W → x < m → Calls Try.prog 48 #[.int .i64 (x : Int), .pointer (some ⟨Bf, 0, none⟩), .pointer (some ⟨Bl, 0, none⟩)] W fun e w' => e = .returned (.bool (p x)) ∧ Kept W w') := hP
  have HQ : Hid (∀ W W', Q W → But g (g + 1) W W' → Q W') := hQ
  have HW : Hid (Q w) := hw
  clear hv hm hP hQ hw
  go_enter Try.func67, Try.ntmps67
  repeat (first | go_values | go_skip | go_guarded | go_step | go_upon)
  go_loopw [8] (fun i wr => ∃ k : Nat, k ≤ l.length ∧ i = .int .i64 k ∧ (∀ y ∈ l.take k, p y = false) ∧ Kept w wr) (fun i _ => l.length - (intOf i).toNat)
  case atStart => exact ⟨0, by omega, rfl, by simp, But.refl _ _ _⟩
  case round =>
    obtain ⟨k, hk, rfl, hb, hkp⟩ := hrel
    have HB : Hid (∀ y ∈ l.take k, p y = false) := hb
    have HK : Hid (Kept w wr) := hkp
    clear hb
    by_cases hlt : k < l.length
    · obtain ⟨x, hx⟩ : ∃ x, l[k]? = some x := ⟨_, List.getElem?_eq_getElem hlt⟩
      obtain ⟨b, o, cap', e, c0⟩ := num_get (HV.out.kept hkp) (nums_get hx)
      rw [nums_len] at e
      cases e
      rw [Nat.zero_add] at c0
      have HX : Hid (l[k]? = some x) := hx
      have HXM : Hid (x < m) := HM.out x (List.mem_of_getElem? hx)
      have HQ1 : Hid (Q wr) := HQ.out _ _ HW.out (But.of hkp)
      clear hx hkp
      cases hpx : p x
      · repeat (first | (go_at_call 48; refine (HP.out _ x HQ1.out HXM.out).mono ?_; rw [hpx]; rintro e w1 ⟨rfl, k1⟩; dsimp only) | go_values | go_skip | go_guarded | go_step | go_upon)
        refine ⟨⟨k + 1, hlt, by go_num, ?_, HK.out.trans k1⟩, by simp [intOf]; omega⟩
        intro y hy
        rw [take_snoc HX.out] at hy
        rcases List.mem_append.1 hy with h | h
        · exact HB.out y h
        · rw [List.mem_singleton.1 h]; exact hpx
      · repeat (first | (go_at_call 48; refine (HP.out _ x HQ1.out HXM.out).mono ?_; rw [hpx]; rintro e w1 ⟨rfl, k1⟩; dsimp only) | go_values | go_skip | go_guarded | go_step | go_upon)
        go_ret
        exact ⟨⟨_, rfl, .inr ⟨k, x, rfl, HX.out, hpx, HB.out⟩⟩, HK.out.trans k1⟩
    · have hke : k = l.length := by omega
      subst hke
      rw [List.take_length] at HB
      repeat (first | go_values | go_skip | go_guarded | go_step | go_upon)
      go_ret
      exact ⟨⟨_, rfl, .inl ⟨rfl, HB.out⟩⟩, hkp⟩

theorem NumO.cells {w : World} {lo hi g cap n : Nat} {ps : List NumD} (h : NumO w lo hi (.slice (some ⟨g, 0, none⟩) n cap) ps) {i : Nat} {p : NumD} (hp : ps[i]? = some p) :
    w.cell? ⟨g, i, none⟩ = some (.int .i64 p) ∧ ∀ o, w.frozen? ⟨g, o, none⟩ = false := by
  obtain ⟨hc, hf⟩ := own_get 1 numC numC_len (by omega) h hp
  exact ⟨by have := hc 0 _ rfl; simpa using this, hf⟩
theorem NumO.set {w : World} {lo hi g cap n : Nat} {ps : List NumD} (h : NumO w lo hi (.slice (some ⟨g, 0, none⟩) n cap) ps) (hn : n = ps.length) {i : Nat} {p : NumD} (hp : ps[i]? = some p) (q : Int) :
    NumO (w.setCell ⟨g, i, none⟩ (.int .i64 q)) lo hi (.slice (some ⟨g, 0, none⟩) n cap) (ps.set i q) := by
  subst hn
  have := RowO.set h (i * 1 + 0) (.int .i64 q)
  unfold NumO
  rw [List.length_set]
  rw [Nat.mul_comm i 1] at this
  rw [flat_set 1 numC numC_len ps i 0 p q (.int .i64 q) hp (by omega) rfl] at this
  simpa using this
theorem but_cells (g : Nat) : ∀ (vs : List Value) (o : Nat) (w : World), But g (g + 1) w (w.setCells g o vs)
  | [], _, w => But.refl _ _ w
  | v :: r, o, w => ((But.refl g (g + 1) w).setCell (p := ⟨g, o, none⟩) (Nat.le_refl _) (Nat.lt_succ_self _) v).trans (but_cells g r (o + 1) _)
theorem num_zeros {lo hi g cap n : Nat} : ∀ (k o : Nat) (w : World) (R : List NumD), n = R.length → o + k ≤ n → NumO w lo hi (.slice (some ⟨g, 0, none⟩) n cap) R →
    ∃ R' : List NumD, NumO (w.setCells g o (List.replicate k (.int .i64 0))) lo hi (.slice (some ⟨g, 0, none⟩) n cap) R' ∧ R'.length = n ∧ R'.take o = R.take o
  | 0, o, w, R, hn, _, h => ⟨R, h, hn.symm, rfl⟩
  | k + 1, o, w, R, hn, hk, h => by
    obtain ⟨x, hx⟩ : ∃ x, R[o]? = some x := ⟨_, List.getElem?_eq_getElem (by omega)⟩
    obtain ⟨R', h1, h2, h3⟩ := num_zeros k (o + 1) _ (R.set o 0) (by simpa using hn) (by omega) (NumO.set h hn hx 0)
    refine ⟨R', h1, h2, ?_⟩
    have := congrArg (List.take o) h3
    rw [List.take_take, List.take_take, Nat.min_eq_left (by omega), List.take_set_of_le (Nat.le_refl _)] at this
    exact this
theorem num_prefix {w : World} {lo hi g cap n i : Nat} {R : List NumD} (h : NumO w lo hi (.slice (some ⟨g, 0, none⟩) n cap) R) (hn : n = R.length) (hi' : i ≤ n) : NumO w lo hi (.slice (some ⟨g, 0, none⟩) i cap) (R.take i) := by
  have hl : (R.take i).length = i := by rw [List.length_take]; omega
  rcases h.1.2 with ⟨hv, _⟩ | ⟨g', cap', cur, hv, hb, hg, hnc, hcm, hsz, htk⟩
  · cases hv
  · cases hv
    unfold NumO
    rw [hl]
    refine ⟨⟨by rw [flat_len 1 numC numC_len, hl], .inr ⟨g, cap, cur, rfl, hb, hg, by omega, hcm, hsz, ?_⟩⟩, h.2⟩
    have e1 : (R.take i).flatMap numC = (R.flatMap numC).take (i * 1) := by
      rw [Nat.mul_one]
      clear htk hl hnc hn h hi'
      induction R generalizing i with
      | nil => simp
      | cons a R ih =>
        cases i with
        | zero => simp
        | succ i => simp only [List.take_succ_cons, List.flatMap_cons, numC, List.singleton_append]; exact congrArg (List.cons _) (ih)
    rw [e1, ← htk, List.take_take, Nat.min_eq_left (by omega)]

set_option maxHeartbeats 8000000 in
theorem deleteFunc (l : List Nat) (m g cap lo hi Bf Bl : Nat) (p : Nat → Bool) (Q : World → Prop) (w : World) (hw : Q w) (hv : NumO w lo hi (.slice (some ⟨g, 0, none⟩) l.length cap) (nums l)) (hm : ∀ x ∈ l, x < m) (hn : l.length ≤ 1048576)
    (hP : ∀ (W : World) (x : Nat), Q W → x < m → Calls Try.prog 48 #[.int .i64 (x : Int), .pointer (some ⟨Bf, 0, none⟩), .pointer (some ⟨Bl, 0, none⟩)] W fun e w' => e = .returned (.bool (p x)) ∧ Kept W w') (hQ : ∀ W W', Q W → But g (g + 1) W W' → Q W') :
    Calls Try.prog 47 #[.slice (some ⟨g, 0, none⟩) l.length cap, .func (.func 48) #[] #[.pointer (some ⟨Bf, 0, none⟩), .pointer (some ⟨Bl, 0, none⟩)]] w fun e w' => e = .returned (.slice (some ⟨g, 0, none⟩) (l.filter fun x => !p x).length cap) ∧ NumO w' lo hi (.slice (some ⟨g, 0, none⟩) (l.filter fun x => !p x).length cap) (nums (l.filter fun x => !p x)) ∧ But g (g + 1) w w' := by
  have HV : Hid (NumO w lo hi (.slice (some ⟨g, 0, none⟩) l.length cap) (nums l)) := hv
  have HM : Hid (∀ x ∈ l, x < m) := hm
  have HP : Hid (∀ (W : World) (x : Nat), Q W → x < m → Calls Try.prog 48 #[.int .i64 (x : Int), .pointer (some ⟨Bf, 0, none⟩), .pointer (some ⟨Bl, 0, none⟩)] W fun e w' => e = .returned (.bool (p x)) ∧ Kept W w') := hP
  have HQ : Hid (∀ W W', Q W → But g (g + 1) W W' → Q W') := hQ
  have HW : Hid (Q w) := hw
  clear hv hm hP hQ hw
  go_enter Try.func47, Try.ntmps47
  repeat (first | go_values | go_skip | go_guarded | go_step | go_upon)
  go_at_call 67
  refine (indexFunc l m g cap Bf Bl p Q w HW.out HV.out.at HM.out hn HP.out HQ.out).mono ?_
  rintro e w1 ⟨⟨j, rfl, hj⟩, k1⟩
  rcases hj with ⟨rfl, hall⟩ | ⟨k, x, rfl, hx, hpx, hbe⟩
  · have he : l.filter (fun x => !p x) = l := List.filter_eq_self.2 fun x hx => by rw [hall x hx]; rfl
    have HE : Hid (l.filter (fun x => !p x) = l) := he
    have HK : Hid (Kept w w1) := k1
    clear hall k1 he
    dsimp only
    repeat (first | go_values | go_skip | go_guarded | go_step | go_upon)
    go_ret
    rw [HE.out]
    exact ⟨rfl, HV.out.kept HK.out, But.of HK.out⟩
  · have hkl : k < l.length := (List.getElem?_eq_some_iff.1 hx).1
    have hk1 : ((k : Int) == -1) = false := by simp
    have e1 := IntWalk.i64_in (n := (k : Int) + 1) (by omega)
    have hf0 : (l.take (k + 1)).filter (fun x => !p x) = l.take k := by
      rw [take_snoc hx, List.filter_append, List.filter_eq_self.2 fun y hy => by rw [hbe y hy]; rfl]
      simp [hpx]
    have HF0 : Hid ((l.take (k + 1)).filter (fun x => !p x) = l.take k) := hf0
    have HK : Hid (Kept w w1) := k1
    clear hbe hf0 k1 hx
    dsimp only
    repeat (first | go_values | go_skip | go_guarded | go_step | go_upon)
    have hcap : l.length ≤ cap := by
      rcases HV.out.1.2 with ⟨hv, _⟩ | ⟨g', cap', cur, hv, _, _, hnc, _⟩
      · cases hv
      · rw [nums_len] at hv hnc
        cases hv
        exact hnc
    go_loopw [5, 6] (fun vi vj wr => ∃ (i j : Nat) (R' : List Nat), vi = .int .i64 i ∧ vj = .int .i64 j ∧ i < j ∧ j ≤ l.length ∧ R'.length = l.length ∧ R'.take i = (l.take j).filter (fun x => !p x) ∧ R'.drop j = l.drop j ∧ NumO wr lo hi (.slice (some ⟨g, 0, none⟩) l.length cap) (nums R') ∧ But g (g + 1) w wr) (fun _ vj _ => l.length - (intOf vj).toNat)
    case atStart => exact ⟨k, k + 1, l, rfl, by simp, by omega, by omega, rfl, HF0.out.symm, rfl, HV.out.kept HK.out, But.of HK.out⟩
    case round =>
      clear HK HF0
      obtain ⟨i, j, R', rfl, rfl, hij, hjn, hR, hta, hdr, ho, hbt⟩ := hrel
      have HTA : Hid (R'.take i = (l.take j).filter (fun x => !p x)) := hta
      have HDR : Hid (R'.drop j = l.drop j) := hdr
      have HB : Hid (But g (g + 1) w wr) := hbt
      obtain ⟨yi, hyi⟩ : ∃ y, R'[i]? = some y := ⟨_, List.getElem?_eq_getElem (by omega)⟩
      obtain ⟨c1, cz⟩ := ho.cells (nums_get hyi)
      have cz1 := cz i
      have HCZ : Hid (∀ o, wr.frozen? ⟨g, o, none⟩ = false) := cz
      have HO : Hid (NumO wr lo hi (.slice (some ⟨g, 0, none⟩) l.length cap) (nums R')) := ho
      have HYI : Hid (R'[i]? = some yi) := hyi
      clear hta hdr hbt hyi cz
      by_cases hlt : j < l.length
      · obtain ⟨x, hx⟩ : ∃ x, l[j]? = some x := ⟨_, List.getElem?_eq_getElem hlt⟩
        have hx2 : R'[j]? = some x := by
          have := congrArg (fun q => q[0]?) HDR.out
          simp at this
          rw [this, hx]
        obtain ⟨c0, _⟩ := ho.cells (nums_get hx2)
        have HX : Hid (l[j]? = some x) := hx
        have HXM : Hid (x < m) := HM.out x (List.mem_of_getElem? hx)
        have HQ1 : Hid (Q wr) := HQ.out _ _ HW.out HB.out
        have HDR2 : Hid (R'.drop (j + 1) = l.drop (j + 1)) := by
          show R'.drop (j + 1) = l.drop (j + 1)
          rw [← List.drop_drop, ← List.drop_drop, HDR.out]
        clear hx hx2 ho
        cases hpx : p x
        · have HFI : Hid ((l.take (j + 1)).filter (fun x => !p x) = (l.take j).filter (fun x => !p x) ++ [x]) := by
            show (l.take (j + 1)).filter (fun x => !p x) = (l.take j).filter (fun x => !p x) ++ [x]
            rw [take_snoc HX.out, List.filter_append]
            simp [hpx]
          repeat (first | (go_at_call 48; refine (HP.out _ x HQ1.out HXM.out).mono ?_; rw [hpx]; rintro e w2 ⟨rfl, k2⟩; have c1 := Kept.cell k2 c1; have cz1 := (Kept.frozen_eq k2 g i (cell_lt c0)).trans cz1; dsimp only) | go_values | go_skip | go_guarded | go_step | go_upon)
          refine ⟨⟨i + 1, j + 1, R'.set i x, by go_num, by go_num, by omega, by omega, by simpa using hR, ?_, ?_, ?_, ?_⟩, by simp [intOf]; omega⟩
          · rw [HFI.out, ← HTA.out, take_snoc (show (R'.set i x)[i]? = some x from List.getElem?_set_self (by omega)), List.take_set_of_le (Nat.le_refl _)]
          · rw [← HDR2.out, List.drop_set_of_lt (by omega)]
          · have := (HO.out.kept k2).set (by rw [nums_len, hR]) (nums_get HYI.out) (x : Int)
            rw [show (nums R').set i (x : Int) = nums (R'.set i x) by simp [nums, List.map_set]] at this
            exact this
          · exact (HB.out.transK k2).setCell (Nat.le_refl _) (Nat.lt_succ_self _) _
        · have HFI : Hid ((l.take (j + 1)).filter (fun x => !p x) = (l.take j).filter (fun x => !p x)) := by
            show (l.take (j + 1)).filter (fun x => !p x) = (l.take j).filter (fun x => !p x)
            rw [take_snoc HX.out, List.filter_append]
            simp [hpx]
          repeat (first | (go_at_call 48; refine (HP.out _ x HQ1.out HXM.out).mono ?_; rw [hpx]; rintro e w2 ⟨rfl, k2⟩; dsimp only) | go_values | go_skip | go_guarded | go_step | go_upon)
          exact ⟨⟨i, j + 1, R', rfl, by go_num, by omega, by omega, hR, by rw [HFI.out]; exact HTA.out, HDR2.out, HO.out.kept k2, HB.out.transK k2⟩, by simp [intOf]; omega⟩
      · have hje : j = l.length := by omega
        subst hje
        have hcl : ∀ ty, (Builtin.clear_ #[72] ty #[.slice (some ⟨g, i, none⟩) (l.length - i) (cap - i)]).run Try.prog wr = .ok (.tuple #[]) (wr.setCells g i (List.replicate (l.length - i) (.int .i64 0))) := fun ty =>
          Lib.run_clear_slice wr _ _ ty _ Try.underlying72 Try.zeroValue3 rfl rfl g i _ _ (by omega) (fun t ht => by
            obtain ⟨y, hy⟩ : ∃ y, R'[i + t]? = some y := ⟨_, List.getElem?_eq_getElem (by omega)⟩
            rw [(HO.out.cells (nums_get hy)).1]; rfl) (fun t ht => HCZ.out _)
        obtain ⟨R2, h1, h2, h3⟩ := num_zeros (l.length - i) i wr (nums R') (by rw [nums_len, hR]) (by omega) HO.out
        have HR2 : Hid _ := h1
        have h4 := num_prefix h1 h2.symm (show i ≤ l.length by omega)
        rw [h3] at h4
        have hff : (l.filter fun x => !p x) = R'.take i := by rw [HTA.out, List.take_length]
        have hfl : (l.filter fun x => !p x).length = i := by rw [hff, List.length_take]; omega
        have HEND : Hid (NumO (wr.setCells g i (List.replicate (l.length - i) (.int .i64 0))) lo hi (.slice (some ⟨g, 0, none⟩) (l.filter fun x => !p x).length cap) (nums (l.filter fun x => !p x))) := by
          show NumO _ _ _ _ _
          rw [hfl, hff]
          rw [show (nums R').take i = nums (R'.take i) by simp [nums, List.map_take]] at h4
          exact h4
        have HFL : Hid ((l.filter fun x => !p x).length = i) := hfl
        clear h1 h2 h3 h4 hff hfl ho c1 cz1
        repeat (first | go_values | go_skip | go_guarded | go_step | go_upon)
        refine bodyPost_ret (v := .slice (some ⟨g, 0, none⟩) i cap) (by simp [results, Try.results47, go_sem]) rfl ?_
        refine ⟨by rw [HFL.out], HEND.out, HB.out.trans (but_cells g _ _ _)⟩

end Go.Proofs.Ytfibikkbhbmfkaa
