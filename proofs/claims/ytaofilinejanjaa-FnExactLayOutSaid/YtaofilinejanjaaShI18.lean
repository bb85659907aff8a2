/-
  Room that is shared, in the program.
-/
import Derived.Test.YtaofilinejanjaaShP18
namespace Go.Proofs.Ytaofilinejanjaa
open Go.ChangeShapes Go.WideShapes Go.ChangeAt Go.RowKit

set_option maxRecDepth 100000
set_option linter.unusedVariables false

theorem num_form {w : World} {lo hi : Nat} {v : Value} {l : List Int} (h : NumO w lo hi v l) (hl : 1 ≤ l.length) : ∃ g cap, v = .slice (some ⟨g, 0, none⟩) l.length cap ∧ lo ≤ g ∧ g < hi := by
  rcases h.1.2 with ⟨hf, h2⟩ | ⟨g, c2, cur, hf, h3⟩
  · omega
  · exact ⟨g, c2, hf, (h.1.lt g (by rw [hf]; rfl)).1, h.2 g (by rw [hf]; rfl)⟩
theorem bas_len {left gs : Int} {least grow : List Int} (h : grow.length = least.length) : (basL left gs least grow).length = least.length := by simp [basL, h]
theorem bas_get {left gs : Int} {least grow : List Int} {k : Nat} {a p : Int} (h1 : least[k]? = some a) (h2 : grow[k]? = some p) : (basL left gs least grow)[k]? = some (a + left * p / gs) := by simp [basL, List.getElem?_zipWith, h1, h2]
theorem rst_len {left gs : Int} {grow : List Int} : (rstL left gs grow).length = grow.length := by simp [rstL]
theorem rst_get {left gs : Int} {grow : List Int} {k : Nat} {p : Int} (h2 : grow[k]? = some p) : (rstL left gs grow)[k]? = some (left * p % gs) := by simp [rstL, h2]
theorem shr_take {left gs : Int} {grow : List Int} {k : Nat} {p : Int} (h2 : grow[k]? = some p) : ((shrL left gs grow).take (k + 1)).sum = ((shrL left gs grow).take k).sum + left * p / gs := sum_take (by simp [shrL, h2])
theorem slice_upto (W : World) (ao : Option Addr) (n cap k : Nat) (hk : k ≤ n) (hc : n ≤ cap) : (Instr.slice 29 (.slice ao n cap) none (some (.int .i64 (k : Int))) none).run Try.prog W = .ok (.slice ao k cap) W := by
  obtain ⟨i0, hi0, hz0, hz1, hz2⟩ := info_parts info_numA
  rw [run_slice_h W 29 _ _ _ Try.underlying29 .i64 (k : Int) (by omega) (by omega)]
  simp [sizeOf, typeInfo, sliced, show Try.prog.elem 29 = 3 from by kernel_rfl, hi0, hz1]
  intro _
  cases ao <;> simp [Addr.add]
theorem bump_bd {l : List Int} {i B : Int} (h : ∀ x ∈ l, 0 ≤ x ∧ x ≤ B) (hB : 0 ≤ B) : ∀ x ∈ bump l i, 0 ≤ x ∧ x ≤ B + 1 := fun x hx => by
  unfold bump at hx
  rcases List.mem_or_eq_of_mem_set hx with hx | hx
  · have := h x hx; omega
  · subst hx
    cases hh : l[i.toNat]? with
    | none => simp; omega
    | some y => have := h y (List.mem_of_getElem? hh); simp; omega
theorem bas_bd {left gs : Int} (hl : 0 ≤ left ∧ left ≤ 10000) (hg : 0 ≤ gs) : ∀ (least grow : List Int), (∀ x ∈ least, 0 ≤ x ∧ x ≤ 10000) → (∀ x ∈ grow, 0 ≤ x ∧ x ≤ 1000) → ∀ x ∈ basL left gs least grow, 0 ≤ x ∧ x ≤ 20000000
  | [], _, _, _, x, hx => by simp [basL] at hx
  | _ :: _, [], _, _, x, hx => by simp [basL] at hx
  | a :: l, p :: g, h1, h2, x, hx => by
    simp only [basL, List.zipWith_cons_cons] at hx
    rcases List.mem_cons.1 hx with hx | hx
    · subst hx
      have a1 := h1 a (List.mem_cons_self ..)
      have p1 := h2 p (List.mem_cons_self ..)
      have h3 : 0 ≤ left * p ∧ left * p ≤ 10000 * 1000 := ⟨Int.mul_nonneg hl.1 p1.1, Int.mul_le_mul hl.2 p1.2 p1.1 (by omega)⟩
      have h4 := Int.ediv_nonneg h3.1 hg
      have h5 := Int.ediv_le_self gs h3.1
      omega
    · exact bas_bd hl hg l g (fun y hy => h1 y (List.mem_cons_of_mem _ hy)) (fun y hy => h2 y (List.mem_cons_of_mem _ hy)) x hx
theorem prod_bd {x y A B : Int} (h1 : 0 ≤ x ∧ x ≤ A) (h2 : 0 ≤ y ∧ y ≤ B) : 0 ≤ x * y ∧ x * y ≤ A * B := ⟨Int.mul_nonneg h1.1 h2.1, Int.mul_le_mul h1.2 h2.2 h2.1 (by omega)⟩

set_option maxHeartbeats 16000000 in
theorem ishares (room : Int) (least grow : List Int) (vl vg : Value) (w : World) (hvl : NumAt w vl least) (hvg : NumAt w vg grow) (hp : ShP least grow) (hr : 0 ≤ room ∧ room ≤ 10000) :
    Calls Try.prog 38 #[.int .i64 room, vl, vg] w fun e w' => ∃ v, e = .returned v ∧ NumO w' w.heap.size w'.heap.size v (shA room least grow) ∧ Kept w w' := by
  obtain ⟨aol, capl, hsl⟩ := row_nil hvl
  subst hsl
  obtain ⟨aog, capg, hsg⟩ := row_nil hvg
  rw [hp.2.1] at hsg
  subst hsg
  obtain ⟨n, hn⟩ : ∃ n, least.length = n := ⟨_, rfl⟩
  have HN : Hid (least.length = n ∧ grow.length = n ∧ n ≤ 40) := show _ ∧ _ ∧ _ from ⟨hn, hp.2.1.trans hn, by have := hp.1; omega⟩
  have hn40 : n ≤ 40 := HN.out.2.2
  rw [hn]
  rw [hn] at hvl hvg
  have HP : Hid (ShP least grow) := hp
  have ACL : Hid (∀ W, Kept w W → Calls Try.prog 48 #[.slice aol n capl] W fun e w' => ∃ v', e = .returned v' ∧ NumO w' W.heap.size w'.heap.size v' least ∧ Kept W w') := fun W k => iclone least _ W (hvl.kept k) (by have := HN.out; omega)
  obtain ⟨hr1, hr2⟩ := hr
  have HVL : Hid (NumAt w (.slice aol n capl) least) := hvl
  have HVG : Hid (NumAt w (.slice aog n capg) grow) := hvg
  clear hp hn hvl hvg
  go_enter Try.func38, Try.ntmps38
  repeat (first | go_values | go_skip | go_guarded | go_step | go_upon)
  go_at_call 48
  refine (ACL.out _ (But.refl _ _ _)).mono ?_
  rintro e w1 ⟨vs, rfl, hos, k1⟩
  have HOS : Hid (NumO w1 w.heap.size w1.heap.size vs least) := hos
  have K1 : Hid (Kept w w1) := k1
  have s1 := k1.size
  clear hos k1 ACL
  dsimp only
  repeat (first | go_values | go_skip | go_guarded | go_step | go_upon)
  go_loopw [8, 9, 23] (fun lv gv iv wr => wr = w1 ∧ ∃ (k : Nat) (Lf Gs : Int), k ≤ n ∧ iv = .int .i64 k ∧ lv = .int .i64 Lf ∧ gv = .int .i64 Gs ∧ Hid (Lf = room - (least.take k).sum ∧ Gs = (grow.take k).sum) ∧ (-400000 ≤ Lf ∧ Lf ≤ 10000) ∧ (0 ≤ Gs ∧ Gs ≤ 40000)) (fun lv gv iv _ => n - (intOf iv).toNat)
  case atStart => exact ⟨rfl, 0, room, 0, by omega, rfl, rfl, rfl, (show room = room - (least.take 0).sum ∧ 0 = (grow.take 0).sum from ⟨by simp, by simp⟩), by omega, by omega⟩
  case round =>
    obtain ⟨hwr, k, Lf, Gs, hk, rfl, rfl, rfl, HE, ⟨hb1, hb2⟩, hb3, hb4⟩ := hrel
    rw [hwr]
    clear hwr
    by_cases hlt : k < n
    · obtain ⟨a, ha⟩ : ∃ p, least[k]? = some p := ⟨_, List.getElem?_eq_getElem (by have := HN.out; omega)⟩
      obtain ⟨p, hp⟩ : ∃ p, grow[k]? = some p := ⟨_, List.getElem?_eq_getElem (by have := HN.out; omega)⟩
      obtain ⟨b, o, cap', ee, c0⟩ := num_get (HVL.out.kept K1.out) ha
      rw [HN.out.1] at ee
      cases ee
      obtain ⟨b2, o2, cap2, ee, c2⟩ := num_get (HVG.out.kept K1.out) hp
      rw [HN.out.2.1] at ee
      cases ee
      have hab := HP.out.2.2.1 a (List.mem_of_getElem? ha)
      have hpb := HP.out.2.2.2 p (List.mem_of_getElem? hp)
      have hs1 := sum_take ha
      have hs2 := sum_take hp
      have hb5 := sum_bd (l := least.take (k + 1)) (B := 10000) (k + 1) (fun x hx => HP.out.2.2.1 x (List.mem_of_mem_take hx)) (by rw [List.length_take]; have := HN.out; omega)
      have hb6 := sum_bd (l := grow.take (k + 1)) (B := 1000) (k + 1) (fun x hx => HP.out.2.2.2 x (List.mem_of_mem_take hx)) (by rw [List.length_take]; have := HN.out; omega)
      have HE2 : Hid (Lf - a = room - (least.take (k + 1)).sum ∧ Gs + p = (grow.take (k + 1)).sum) := show _ ∧ _ from ⟨by have := HE.out; omega, by have := HE.out; omega⟩
      have hbx : (-400000 ≤ Lf - a ∧ Lf - a ≤ 10000) ∧ (0 ≤ Gs + p ∧ Gs + p ≤ 40000) := by have := HE2.out; omega
      have z1 : (0 : Int) ≤ (k : Int) := by omega
      have z2 : (k : Int) < (n : Int) := by omega
      obtain ⟨hab1, hab2⟩ := hab
      obtain ⟨hpb1, hpb2⟩ := hpb
      clear hs1 hs2 hb5 hb6 ha hp HE
      repeat (first | go_values | go_skip | go_guarded | go_step | go_upon)
      exact ⟨⟨by trivial, k + 1, Lf - a, Gs + p, hlt, by go_num, rfl, rfl, HE2, hbx.1, hbx.2⟩, by simp [intOf]; omega⟩
    · have hke : k = n := by omega
      subst hke
      have hE : Lf = room - least.sum ∧ Gs = grow.sum := by
        have h := HE.out
        rw [List.take_of_length_le (by have := HN.out; omega), List.take_of_length_le (by have := HN.out; omega)] at h
        exact h
      have HE3 : Hid (Lf = room - least.sum ∧ Gs = grow.sum) := hE
      clear HE hE hlt hk
      by_cases q1 : Lf ≤ 0
      · have d1 : decide (Lf ≤ 0) = true := decide_eq_true q1
        have hA : shA room least grow = least := if_pos (.inl (by have := HE3.out; omega))
        have HA : Hid (shA room least grow = least) := hA
        clear hA
        repeat (first | go_values | go_skip | go_guarded | go_step | go_upon)
        go_ret
        exact ⟨_, rfl, by rw [HA.out]; exact HOS.out, K1.out⟩
      have d1 : decide (Lf ≤ 0) = false := decide_eq_false q1
      by_cases q2 : Gs = 0
      · have d2 : (Gs == 0) = true := by simp [q2]
        have hA : shA room least grow = least := if_pos (.inr (by have := HE3.out; omega))
        have HA : Hid (shA room least grow = least) := hA
        clear hA q2
        repeat (first | go_values | go_skip | go_guarded | go_step | go_upon)
        go_ret
        exact ⟨_, rfl, by rw [HA.out]; exact HOS.out, K1.out⟩
      have d2 : (Gs == 0) = false := by simp [q2]
      have hn1 : 1 ≤ k := by
        cases hg : grow with
        | nil => exact absurd (by have := HE3.out.2; rw [hg] at this; simpa using this) q2
        | cons a l => have := HN.out.2.1; rw [hg] at this; simp at this; omega
      have hgp : 0 < grow.sum := by have := HE3.out; omega
      have hov := over_bd Lf grow hgp (by have := HN.out; omega)
      rw [← HE3.out.2] at hov
      have hA : shA room least grow = bumpL (basL Lf Gs least grow) ((ordD (rAt (rstL Lf Gs grow)) k).take (Lf - (shrL Lf Gs grow).sum).toNat) := by
        have h := HE3.out
        unfold shA
        rw [if_neg (by rw [← h.1, ← h.2]; omega), ← h.1, ← h.2, HN.out.2.1]
      have HA : Hid (shA room least grow = bumpL (basL Lf Gs least grow) ((ordD (rAt (rstL Lf Gs grow)) k).take (Lf - (shrL Lf Gs grow).sum).toNat)) := hA
      have HOV : Hid (0 ≤ Lf - (shrL Lf Gs grow).sum ∧ Lf - (shrL Lf Gs grow).sum < (k : Int)) := by
        have e : 0 ≤ Lf - (shrL Lf Gs grow).sum ∧ Lf - (shrL Lf Gs grow).sum < (k : Int) := by
          have h9 := HN.out.2.1
          rw [h9] at hov
          exact hov
        exact e
      obtain ⟨gS, capS, hfs, hgs1, hgs2⟩ := num_form HOS.out (by have := HN.out; omega)
      rw [HN.out.1] at hfs
      subst hfs
      obtain ⟨i0, hi, hz0, hz1, hz2⟩ := info_parts info3
      have hmk : (Instr.makeSlice 29 (.int .i64 (k : Int)) (.int .i64 (k : Int))).run Try.prog w1 = .ok (.slice (some ⟨w1.heap.size, 0, none⟩) k k) (w1.alloc (.cells (madeCells #[.int .i64 0] (k * 1)) 3)) := by
        have := run_make (P := Try.prog) w1 29 3 i0 _ Try.underlying29 hi hz0 .i64 .i64 (k : Int) (k : Int) (by omega) (by omega) (by rw [hz2]; omega) (by omega)
        rw [this, hz1]
        simp [Value.cells]
      have hm := row_made w1 w1.heap.size 3 #[.int .i64 0] 1 (by omega) numC num0 numC_len rfl k (Nat.le_refl _) (by unfold maxLen; omega)
      have HM : Hid (NumO (w1.alloc (.cells (madeCells #[.int .i64 0] (k * 1)) 3)) w1.heap.size (w1.heap.size + 1) (.slice (some ⟨w1.heap.size, 0, none⟩) k k) (List.replicate k 0)) := by
        have e : NumO (w1.alloc (.cells (madeCells #[.int .i64 0] (k * 1)) 3)) w1.heap.size (w1.heap.size + 1) (.slice (some ⟨w1.heap.size, 0, none⟩) k k) (List.replicate k 0) := by
          simpa [NumO, num0] using hm
        exact e
      clear hA hov hgp hm hi hz0 hz1 hz2
      repeat (first | go_values | go_skip | go_guarded | go_step | go_upon)
      clear hmk
      go_loopw [12, 52] (fun ov iv wr => ∃ (j : Nat) (Ov : Int), j ≤ k ∧ iv = .int .i64 j ∧ ov = .int .i64 Ov ∧ Hid (Ov = Lf - ((shrL Lf Gs grow).take j).sum) ∧ (-10000000000 ≤ Ov ∧ Ov ≤ 10000) ∧ NumO wr w1.heap.size (w1.heap.size + 1) (.slice (some ⟨w1.heap.size, 0, none⟩) k k) (mix (rstL Lf Gs grow) (List.replicate k 0) j) ∧ NumO wr w.heap.size w1.heap.size (.slice (some ⟨gS, 0, none⟩) k capS) (mix (basL Lf Gs least grow) least j) ∧ Kept w wr) (fun ov iv _ => k - (intOf iv).toNat)
      case atStart => exact ⟨0, Lf, by omega, rfl, rfl, (show Lf = Lf - ((shrL Lf Gs grow).take 0).sum from by simp), by omega, by rw [mix_zero]; simpa using HM.out, by rw [mix_zero]; exact HOS.out.kept ((But.refl _ _ _).alloc _), K1.out.alloc _⟩
      case round =>
        obtain ⟨j, Ov, hj, rfl, rfl, HO, ⟨ho1, ho2⟩, hor, hos, hkp⟩ := hrel
        clear HM
        have hrl : (rstL Lf Gs grow).length = k := by rw [rst_len]; exact HN.out.2.1
        have hbl : (basL Lf Gs least grow).length = k := by rw [bas_len (by have := HN.out; omega)]; exact HN.out.1
        have hrp : (List.replicate k (0 : Int)).length = k := by simp
        by_cases hjl : j < k
        · obtain ⟨a, ha⟩ : ∃ p, least[j]? = some p := ⟨_, List.getElem?_eq_getElem (by have := HN.out; omega)⟩
          obtain ⟨p, hp⟩ : ∃ p, grow[j]? = some p := ⟨_, List.getElem?_eq_getElem (by have := HN.out; omega)⟩
          obtain ⟨b2, o2, cap2, ee, c2⟩ := num_get (HVG.out.kept hkp) hp
          rw [HN.out.2.1] at ee
          cases ee
          have hab := HP.out.2.2.1 a (List.mem_of_getElem? ha)
          have hpb := HP.out.2.2.2 p (List.mem_of_getElem? hp)
          have hpr := prod_bd (x := Lf) (y := p) (A := 10000) (B := 1000) (by omega) hpb
          have hq1 : 0 ≤ Lf * p / Gs := Int.ediv_nonneg hpr.1 hb3
          have hq2 : Lf * p / Gs ≤ Lf * p := Int.ediv_le_self _ hpr.1
          have hq3 : 0 ≤ Lf * p % Gs := Int.emod_nonneg _ q2
          have hq4 : Lf * p % Gs < Gs := Int.emod_lt_of_pos _ (by omega)
          have t1 : (Lf * p).tdiv Gs = Lf * p / Gs := Int.tdiv_eq_ediv_of_nonneg hpr.1
          have t2 : (Lf * p).tmod Gs = Lf * p % Gs := Int.tmod_eq_emod_of_nonneg hpr.1
          have hmr : (mix (rstL Lf Gs grow) (List.replicate k 0) j)[j]? = some 0 := by rw [mix_get _ _ _ (by rw [hrl, hrp]) (by omega)]; simp [hjl]
          have hms : (mix (basL Lf Gs least grow) least j)[j]? = some a := by rw [mix_get _ _ _ (by rw [hbl]; exact HN.out.1.symm) (by have := HN.out; omega)]; exact ha
          have hlr : (mix (rstL Lf Gs grow) (List.replicate k 0) j).length = k := by rw [mix_len _ _ _ (by rw [hrl, hrp]) (by omega), hrp]
          have hls : (mix (basL Lf Gs least grow) least j).length = k := by rw [mix_len _ _ _ (by rw [hbl]; exact HN.out.1.symm) (by have := HN.out; omega)]; exact HN.out.1
          have hor2 := hor.set hlr.symm hmr (Lf * p % Gs)
          have bR := (But.refl w1.heap.size (w1.heap.size + 1) wr).setCell (p := ⟨w1.heap.size, j, none⟩) (Nat.le_refl _) (by simp) (.int .i64 (Lf * p % Gs))
          have hos1 := hos.but bR (by omega)
          have hos2 := hos1.set hls.symm hms (a + Lf * p / Gs)
          have bS := (But.refl w.heap.size w1.heap.size (wr.setCell ⟨w1.heap.size, j, none⟩ (.int .i64 (Lf * p % Gs)))).setCell (p := ⟨gS, j, none⟩) hgs1 hgs2 (.int .i64 (a + Lf * p / Gs))
          have hor3 := hor2.but bS (by omega)
          obtain ⟨f1, fz1⟩ := hor.cells hmr
          obtain ⟨f2, fz2⟩ := hos1.cells hms
          have z3 := fz1 j
          have z4 := fz2 j
          have hst1 := mix_set (rstL Lf Gs grow) (List.replicate k 0) j (Lf * p % Gs) (by rw [hrl, hrp]) (rst_get hp)
          have hst2 := mix_set (basL Lf Gs least grow) least j (a + Lf * p / Gs) (by rw [hbl]; exact HN.out.1.symm) (bas_get ha hp)
          rw [hst1] at hor3
          rw [hst2] at hos2
          have HK2 : Hid (Kept w ((wr.setCell ⟨w1.heap.size, j, none⟩ (.int .i64 (Lf * p % Gs))).setCell ⟨gS, j, none⟩ (.int .i64 (a + Lf * p / Gs)))) := (hkp.onto bR (by omega)).onto bS (Nat.le_refl _)
          have HR3 : Hid (NumO ((wr.setCell ⟨w1.heap.size, j, none⟩ (.int .i64 (Lf * p % Gs))).setCell ⟨gS, j, none⟩ (.int .i64 (a + Lf * p / Gs))) w1.heap.size (w1.heap.size + 1) (.slice (some ⟨w1.heap.size, 0, none⟩) k k) (mix (rstL Lf Gs grow) (List.replicate k 0) (j + 1))) := hor3
          have HS2 : Hid (NumO ((wr.setCell ⟨w1.heap.size, j, none⟩ (.int .i64 (Lf * p % Gs))).setCell ⟨gS, j, none⟩ (.int .i64 (a + Lf * p / Gs))) w.heap.size w1.heap.size (.slice (some ⟨gS, 0, none⟩) k capS) (mix (basL Lf Gs least grow) least (j + 1))) := hos2
          have hsb := sum_bd (l := (shrL Lf Gs grow).take (j + 1)) (B := 10000000) (j + 1) (fun x hx => by
            have hx2 := List.mem_of_mem_take hx
            unfold shrL at hx2
            obtain ⟨y, hy, rfl⟩ := List.mem_map.1 hx2
            have h1 := HP.out.2.2.2 y hy
            have h2 := prod_bd (x := Lf) (y := y) (A := 10000) (B := 1000) (by omega) h1
            exact ⟨Int.ediv_nonneg h2.1 hb3, by have := Int.ediv_le_self Gs h2.1; omega⟩) (by rw [List.length_take]; simp only [shrL, List.length_map]; have := HN.out; omega)
          have HO2 : Hid (Ov - Lf * p / Gs = Lf - ((shrL Lf Gs grow).take (j + 1)).sum) := show _ = _ from by rw [shr_take hp]; have := HO.out; omega
          have hob : -10000000000 ≤ Ov - Lf * p / Gs ∧ Ov - Lf * p / Gs ≤ 10000 := by have := HO2.out; omega
          obtain ⟨hpr1, hpr2⟩ := hpr
          obtain ⟨hab1, hab2⟩ := hab
          obtain ⟨hpb1, hpb2⟩ := hpb
          have e1 : IntKind.i64.wrap (Lf * p) = Lf * p := IntWalk.i64_in _ (by omega)
          clear hor hor2 hor3 hos hos1 hos2 bR bS fz1 fz2 hst1 hst2 hmr hms hlr hls hrl hbl hrp ha hp hsb HO hkp
          generalize hsh : Lf * p / Gs = sh at *
          generalize hrs : Lf * p % Gs = rs at *
          generalize hpp : Lf * p = pr at *
          clear hsh hrs
          have e3 : IntKind.i64.wrap sh = sh := IntWalk.i64_in _ (by omega)
          have e4 : IntKind.i64.wrap rs = rs := IntWalk.i64_in _ (by omega)
          have e1' : wrap64 pr = pr := by unfold wrap64; omega
          have e3' : wrap64 sh = sh := by unfold wrap64; omega
          have e4' : wrap64 rs = rs := by unfold wrap64; omega
          have z1 : (0 : Int) ≤ (j : Int) := by omega
          have z2 : (j : Int) < (k : Int) := by omega
          repeat (first | go_values | go_skip | go_guarded | go_step | go_upon)
          exact ⟨⟨j + 1, Ov - sh, hjl, by go_num, rfl, HO2, hob, HR3.out, HS2.out, HK2.out⟩, by simp [intOf]; omega⟩
        · have hje : j = k := by omega
          subst hje
          rw [mix_all _ _ _ hrl hrp] at hor
          rw [mix_all _ _ _ hbl HN.out.1] at hos
          have hOv : Ov = Lf - (shrL Lf Gs grow).sum := by
            have h := HO.out
            rw [List.take_of_length_le (by simp only [shrL, List.length_map]; have := HN.out; omega)] at h
            exact h
          have hob : 0 ≤ Ov ∧ Ov < (j : Int) := by rw [hOv]; exact HOV.out
          obtain ⟨m, rfl⟩ : ∃ m : Nat, Ov = (m : Int) := ⟨Ov.toNat, by omega⟩
          have HA2 : Hid (shA room least grow = bumpL (basL Lf Gs least grow) ((ordD (rAt (rstL Lf Gs grow)) j).take m)) := show _ = _ from by rw [HA.out, ← hOv, Int.toNat_natCast]
          have hbb := bas_bd (left := Lf) (gs := Gs) (by omega) hb3 least grow HP.out.2.2.1 HP.out.2.2.2
          have AFG : Hid (∀ W, Kept wr W → Calls Try.prog 49 #[.slice (some ⟨w1.heap.size, 0, none⟩) j j] W fun e w' => ∃ v' D, e = .returned v' ∧ D.Perm (pl (rstL Lf Gs grow).length) ∧ Srt (rAt (rstL Lf Gs grow)) D ∧ NumO w' W.heap.size w'.heap.size v' D ∧ Kept W w') := fun W kW => ifrom (rstL Lf Gs grow) _ W ((hor.at).kept kW) (by rw [hrl]; exact hn1) (by rw [hrl]; exact hn40)
          have HBB : Hid (∀ x ∈ basL Lf Gs least grow, 0 ≤ x ∧ x ≤ 20000000) := hbb
          have HRL : Hid ((rstL Lf Gs grow).length = j ∧ (basL Lf Gs least grow).length = j) := show _ ∧ _ from ⟨hrl, hbl⟩
          have HS0 : Hid (NumO wr w.heap.size w1.heap.size (.slice (some ⟨gS, 0, none⟩) j capS) (basL Lf Gs least grow)) := hos
          have HK0 : Hid (Kept w wr) := hkp
          have s2 := hkp.size
          have hmj : m < j := by omega
          have hw1r : w1.heap.size < wr.heap.size := (hor.1.lt w1.heap.size rfl).2
          clear hor hos hOv hob hbb hrl hbl hrp hkp HO HA HOV hjl hj ho1 ho2
          generalize rstL Lf Gs grow = RS at *
          generalize basL Lf Gs least grow = BS at *
          repeat (first | go_values | go_skip | go_guarded | go_step | go_upon)
          go_at_call 49
          refine (AFG.out _ (But.refl _ _ _)).mono ?_
          rintro e w3 ⟨vD, D, rfl, hD1, hD2, hD3, k3⟩
          rw [HRL.out.1] at hD1
          have hDe := ordD_is hD1 hD2
          have hDl : D.length = j := by rw [hDe, ordD_len]
          obtain ⟨gD, capD, hfD, hgD1, hgD2⟩ := num_form hD3 (by omega)
          rw [hDl] at hfD
          subst hfD
          have hcp := (cap_num hD3)
          have hsl := fun W => slice_upto W (some ⟨gD, 0, none⟩) j capD m (by omega) hcp.1
          have HDR : Hid (∀ x ∈ D, 0 ≤ x ∧ x < (j : Int)) := fun x hx => pl_rng j x (hD1.mem_iff.1 hx)
          have HD3 : Hid (NumO w3 wr.heap.size w3.heap.size (.slice (some ⟨gD, 0, none⟩) j capD) D ∧ D.length = j) := show _ ∧ _ from ⟨hD3, hDl⟩
          have HA3 : Hid (shA room least grow = bumpL BS (D.take m)) := show _ = _ from by rw [hDe]; exact HA2.out
          have HS3 : Hid (NumO w3 w.heap.size w1.heap.size (.slice (some ⟨gS, 0, none⟩) j capS) BS) := HS0.out.kept k3
          have HK3 : Hid (Kept w w3) := HK0.out.trans k3
          have s3 := k3.size
          clear hD1 hD2 hD3 hDe hDl hcp k3 HA2 HS0 HK0 AFG
          dsimp only
          repeat (first | go_values | go_skip | go_guarded | go_step | go_upon)
          clear hsl
          go_loopw [86] (fun iv wr => ∃ q : Nat, q ≤ m ∧ iv = .int .i64 q ∧ NumO wr w.heap.size w1.heap.size (.slice (some ⟨gS, 0, none⟩) j capS) (bumpL BS (D.take q)) ∧ Hid (∀ x ∈ bumpL BS (D.take q), 0 ≤ x ∧ x ≤ 20000000 + (q : Int)) ∧ NumO wr w1.heap.size wr.heap.size (.slice (some ⟨gD, 0, none⟩) j capD) D ∧ Kept w wr) (fun iv _ => m - (intOf iv).toNat)
          case atStart => exact ⟨0, by omega, rfl, HS3.out, (show ∀ x ∈ bumpL BS (D.take 0), 0 ≤ x ∧ x ≤ 20000000 + ((0 : Nat) : Int) from fun x hx => by have := HBB.out x hx; omega), HD3.out.1.mono (by omega) (Nat.le_refl _), HK3.out⟩
          case round =>
            obtain ⟨q, hq, rfl, hos, HQ, hod, hkp⟩ := hrel
            clear HS3 HK3
            by_cases hqm : q < m
            · obtain ⟨i, hi⟩ : ∃ p, D[q]? = some p := ⟨_, List.getElem?_eq_getElem (by have := HD3.out.2; omega)⟩
              have hir := HDR.out i (List.mem_of_getElem? hi)
              obtain ⟨i1, rfl⟩ : ∃ i1 : Nat, i = (i1 : Int) := ⟨i.toNat, by omega⟩
              have hbl2 : (bumpL BS (D.take q)).length = j := by rw [bumpL_len]; exact HRL.out.2
              obtain ⟨x, hx⟩ : ∃ x, (bumpL BS (D.take q))[i1]? = some x := ⟨_, List.getElem?_eq_getElem (by omega)⟩
              have hxb := HQ.out x (List.mem_of_getElem? hx)
              obtain ⟨f1, _⟩ := hod.cells hi
              obtain ⟨f2, fz2⟩ := hos.cells hx
              have z4 := fz2 i1
              have hos2 := hos.set hbl2.symm hx (x + 1)
              have hbs : (bumpL BS (D.take q)).set i1 (x + 1) = bumpL BS (D.take (q + 1)) := by
                rw [take_snoc hi, bumpL_snoc]
                unfold bump
                rw [Int.toNat_natCast, hx]
                rfl
              rw [hbs] at hos2
              have bS := (But.refl w.heap.size w1.heap.size wr).setCell (p := ⟨gS, i1, none⟩) hgs1 hgs2 (.int .i64 (x + 1))
              have hod2 := hod.but bS (by omega)
              have HF1 : Hid (NumO (wr.setCell ⟨gS, i1, none⟩ (.int .i64 (x + 1))) w.heap.size w1.heap.size (.slice (some ⟨gS, 0, none⟩) j capS) (bumpL BS (D.take (q + 1)))) := hos2
              have HF2 : Hid (NumO (wr.setCell ⟨gS, i1, none⟩ (.int .i64 (x + 1))) w1.heap.size (wr.setCell ⟨gS, i1, none⟩ (.int .i64 (x + 1))).heap.size (.slice (some ⟨gD, 0, none⟩) j capD) D) := NumO.low hod2
              have HF3 : Hid (Kept w (wr.setCell ⟨gS, i1, none⟩ (.int .i64 (x + 1)))) := hkp.onto bS (Nat.le_refl _)
              have HQ2 : Hid (∀ y ∈ bumpL BS (D.take (q + 1)), 0 ≤ y ∧ y ≤ 20000000 + ((q + 1 : Nat) : Int)) := fun y hy => by
                rw [take_snoc hi, bumpL_snoc] at hy
                have := bump_bd HQ.out (by omega) y hy
                omega
              obtain ⟨hir1, hir2⟩ := hir
              obtain ⟨hxb1, hxb2⟩ := hxb
              have z1 : (0 : Int) ≤ (q : Int) := by omega
              have z2 : (q : Int) < (m : Int) := by omega
              clear hos hos2 hod hod2 hkp bS hbs fz2 hi hx HQ hbl2
              repeat (first | go_values | go_skip | go_guarded | go_step | go_upon)
              exact ⟨⟨q + 1, hqm, by go_num, HF1.out, HQ2, HF2.out, HF3.out⟩, by simp [intOf]; omega⟩
            · have hqe : q = m := by omega
              subst hqe
              have HF : Hid (NumO wr w.heap.size w1.heap.size (.slice (some ⟨gS, 0, none⟩) j capS) (bumpL BS (D.take q)) ∧ Kept w wr) := show _ ∧ _ from ⟨hos, hkp⟩
              clear hos hod hkp HQ
              repeat (first | go_values | go_skip | go_guarded | go_step | go_upon)
              go_ret
              exact ⟨_, rfl, by rw [HA3.out]; exact NumO.low HF.out.1, HF.out.2⟩

end Go.Proofs.Ytaofilinejanjaa
