/-
  slices.symMergeCmpFunc where both lists have two elements or more.
-/
import Derived.Test.YtaofilinejanjaaSymQ18
namespace Go.Proofs.Ytaofilinejanjaa
open Go.ChangeShapes Go.WideShapes Go.ChangeAt Go.RowKit

set_option maxRecDepth 100000
set_option linter.unusedVariables false

theorem ne_of_len {l : List Int} (h : 0 < l.length) : l ≠ [] := List.length_pos_iff.1 h
theorem sym_perm (A B : List Int) (s e : Nat) {C1 C2 : List Int} (h1 : C1.Perm (A.take s ++ B.take e)) (h2 : C2.Perm (A.drop s ++ B.drop e)) : (C1 ++ C2).Perm (A ++ B) := by
  refine (h1.append h2).trans ?_
  have h3 : ((A.take s ++ B.take e) ++ (A.drop s ++ B.drop e)).Perm ((A.take s ++ A.drop s) ++ (B.take e ++ B.drop e)) := by
    rw [List.append_assoc, List.append_assoc]
    refine List.Perm.append_left _ ?_
    rw [← List.append_assoc, ← List.append_assoc]
    exact List.perm_append_comm.append_right _
  rw [List.take_append_drop, List.take_append_drop] at h3
  exact h3
theorem sym_fin {r : Int → Int} {X Y C1 C2 : List Int} (h : ∀ x ∈ X, ∀ y ∈ Y, bef r x y) (h1 : C1.Perm X) (h2 : C2.Perm Y) (s1 : Srt r C1) (s2 : Srt r C2) : Srt r (C1 ++ C2) := List.pairwise_append.2 ⟨s1, s2, fun a ha b hb => h a (h1.mem_iff.1 ha) b (h2.mem_iff.1 hb)⟩

set_option maxHeartbeats 64000000 in
theorem isymG (w0 : World) (g n cap lo hi Bx : Nat) (r : Int → Int) (hn : n ≤ 1048576) (hcm : CmpC w0 g n Bx r) (N : Nat) (HIH : Hid (∀ (P A B S : List Int) (a m b : Nat), A.length + B.length < N → A ≠ [] → B ≠ [] → Srt r A → Srt r B → (∀ x ∈ A, ∀ y ∈ B, x < y) → P.length = a → P.length + A.length = m → P.length + A.length + B.length = b → ∀ W, Sw w0 g n cap lo hi (P ++ A ++ B ++ S) W → Calls Try.prog 58 #[.slice (some ⟨g, 0, none⟩) n cap, .int .i64 (a : Int), .int .i64 (m : Int), .int .i64 (b : Int), (.func (.func 53) #[] #[.pointer (some ⟨Bx, 0, none⟩)])] W fun e W' => e = .returned (.tuple #[]) ∧ ∃ C, C.Perm (A ++ B) ∧ Srt r C ∧ Sw w0 g n cap lo hi (P ++ C ++ S) W')) (P A B S : List Int) (a m b : Nat) (hN : A.length + B.length = N) (h2A : 2 ≤ A.length) (h2B : 2 ≤ B.length) (hA : Srt r A) (hB : Srt r B) (hAB : ∀ x ∈ A, ∀ y ∈ B, x < y) (ha : P.length = a) (hm : P.length + A.length = m) (hb : P.length + A.length + B.length = b) (W : World) (h : Sw w0 g n cap lo hi (P ++ A ++ B ++ S) W) : Calls Try.prog 58 #[.slice (some ⟨g, 0, none⟩) n cap, .int .i64 (a : Int), .int .i64 (m : Int), .int .i64 (b : Int), (.func (.func 53) #[] #[.pointer (some ⟨Bx, 0, none⟩)])] W fun e W' => e = .returned (.tuple #[]) ∧ ∃ C, C.Perm (A ++ B) ∧ Srt r C ∧ Sw w0 g n cap lo hi (P ++ C ++ S) W' := by
  have hlen := h.len
  simp only [List.length_append] at hlen
  obtain ⟨mid, hmid⟩ : ∃ x, (a + b) / 2 = x := ⟨_, rfl⟩
  obtain ⟨nn, hnn⟩ : ∃ x, mid + m = x := ⟨_, rfl⟩
  obtain ⟨pp, hpp⟩ : ∃ x, nn - 1 = x := ⟨_, rfl⟩
  obtain ⟨al, hal⟩ : ∃ x, A.length = x := ⟨_, rfl⟩
  obtain ⟨bl, hbl⟩ : ∃ x, B.length = x := ⟨_, rfl⟩
  have NUM0 : Hid (P.length = a ∧ a + A.length = m ∧ m + B.length = b ∧ A.length + B.length = N ∧ b ≤ n ∧ n ≤ 1048576 ∧ mid + m = nn ∧ pp + 1 = nn ∧ a + b < 2 * mid + 2 ∧ 2 * mid ≤ a + b ∧ 2 ≤ A.length ∧ 2 ≤ B.length) := show P.length = a ∧ a + A.length = m ∧ m + B.length = b ∧ A.length + B.length = N ∧ b ≤ n ∧ n ≤ 1048576 ∧ mid + m = nn ∧ pp + 1 = nn ∧ a + b < 2 * mid + 2 ∧ 2 * mid ≤ a + b ∧ 2 ≤ A.length ∧ 2 ≤ B.length from ⟨ha, by omega, by omega, hN, by omega, hn, hnn, by omega, by omega, by omega, h2A, h2B⟩
  have HCM : Hid (CmpC w0 g n Bx r) := hcm
  have HA : Hid (Srt r A) := hA
  have HB : Hid (Srt r B) := hB
  have HXB : Hid (∀ x ∈ A, ∀ y ∈ B, x < y) := hAB
  have w1 : IntKind.i64.wrap ((m : Int) - (a : Int)) = (al : Int) := by rw [IntWalk.i64_in _ (by omega)]; omega
  have w2 : IntKind.i64.wrap ((b : Int) - (m : Int)) = (bl : Int) := by rw [IntWalk.i64_in _ (by omega)]; omega
  have d1 : ((al : Int) == 1) = false := by simp; omega
  have d1' : (al == 1) = false := by simp; omega
  have d2 : ((bl : Int) == 1) = false := by simp; omega
  have d2' : (bl == 1) = false := by simp; omega
  have e0 : (((a : Int) + (b : Int)) / 2) = (mid : Int) := by omega
  have w3 : IntKind.i64.wrap ((mid : Int) + (m : Int)) = (nn : Int) := by rw [IntWalk.i64_in _ (by omega)]; omega
  have w4 : IntKind.i64.wrap ((nn : Int) - 1) = (pp : Int) := by rw [IntWalk.i64_in _ (by omega)]; omega
  have hab1 : a ≤ 1048576 := by omega
  have hab2 : b ≤ 1048576 := by omega
  by_cases hmm : mid < m
  · obtain ⟨s0, hs0⟩ : ∃ x, nn - b = x := ⟨_, rfl⟩
    have w5 : IntKind.i64.wrap ((nn : Int) - (b : Int)) = (s0 : Int) := by rw [IntWalk.i64_in _ (by omega)]; omega
    have d3 : decide ((mid : Int) < (m : Int)) = true := decide_eq_true (by omega)
    have d3' : decide (mid < m) = true := decide_eq_true hmm
    have NUM0 : Hid ((P.length = a ∧ a + A.length = m ∧ m + B.length = b ∧ A.length + B.length = N ∧ b ≤ n ∧ n ≤ 1048576 ∧ mid + m = nn ∧ pp + 1 = nn ∧ a + b < 2 * mid + 2 ∧ 2 * mid ≤ a + b ∧ 2 ≤ A.length ∧ 2 ≤ B.length) ∧ mid < m ∧ s0 + b = nn) := show _ ∧ _ from ⟨NUM0.out, hmm, by omega⟩
    clear hlen hmid hnn hpp hal hbl hcm hA hB hAB ha hm hb hN h2A h2B hmm hs0
    go_enter Try.func58, Try.ntmps58
    repeat (first | go_values | go_skip | go_guarded | go_step | go_upon)
    clear w1 w2 w3 w4 w5 d1 d1' d2 d2' d3 d3' e0
    go_loopw [20, 21] (fun sv qv wr => ∃ (s q : Nat), sv = .int .i64 (s : Int) ∧ qv = .int .i64 (q : Int) ∧ s0 ≤ s ∧ s ≤ q ∧ q ≤ mid ∧ Hid ((∀ c0 u v, s0 ≤ c0 → c0 < s → A[c0 - a]? = some u → B[pp - c0 - m]? = some v → ¬ r u < r v) ∧ (∀ c0 u v, q ≤ c0 → c0 < mid → A[c0 - a]? = some u → B[pp - c0 - m]? = some v → r u < r v)) ∧ Sw w0 g n cap lo hi (P ++ A ++ B ++ S) wr) (fun sv qv _ => (intOf qv).toNat - (intOf sv).toNat)
    case atStart => exact ⟨s0, mid, rfl, rfl, Nat.le_refl _, by have := NUM0.out; omega, Nat.le_refl _, (show (∀ c0 u v, s0 ≤ c0 → c0 < s0 → A[c0 - a]? = some u → B[pp - c0 - m]? = some v → ¬ r u < r v) ∧ (∀ c0 u v, mid ≤ c0 → c0 < mid → A[c0 - a]? = some u → B[pp - c0 - m]? = some v → r u < r v) from ⟨fun c u v h1 h2 => by omega, fun c u v h1 h2 => by omega⟩), h⟩
    case round =>
      obtain ⟨s, q, rfl, rfl, hs0, hsq, hq0, HI, hs⟩ := hrel
      clear h
      by_cases hlt : s < q
      · have d0 : decide ((s : Int) < (q : Int)) = true := decide_eq_true (by omega)
        have d0' : decide (s < q) = true := decide_eq_true hlt
        obtain ⟨c, hce⟩ : ∃ x, (s + q) / 2 = x := ⟨_, rfl⟩
        have hc1 : s ≤ c ∧ c < q := by omega
        have hc2 : a ≤ c ∧ c < m ∧ m ≤ pp - c ∧ pp - c < b ∧ c ≤ pp := by have := NUM0.out; omega
        obtain ⟨u, hu⟩ : ∃ u, A[c - a]? = some u := ⟨_, List.getElem?_eq_getElem (by have := NUM0.out; omega)⟩
        obtain ⟨v, hv⟩ : ∃ v, B[pp - c - m]? = some v := ⟨_, List.getElem?_eq_getElem (by have := NUM0.out; omega)⟩
        have hur : 0 ≤ u ∧ u < (n : Int) := hs.rng u (by have := List.mem_of_getElem? hu; simp [this])
        have hvr : 0 ≤ v ∧ v < (n : Int) := hs.rng v (by have := List.mem_of_getElem? hv; simp [this])
        obtain ⟨f1, _, y1⟩ := hs.cell (i := c) (x := u) (by rw [show P ++ A ++ B ++ S = P ++ A ++ (B ++ S) by simp, at_in P A (B ++ S) c (c - a) (by have := NUM0.out; omega) (by have := NUM0.out; omega)]; exact hu)
        obtain ⟨f2, _, y2⟩ := hs.cell (i := pp - c) (x := v) (by rw [at_in (P ++ A) B S (pp - c) (pp - c - m) (by have := NUM0.out; simp; omega) (by have := NUM0.out; omega)]; exact hv)
        obtain ⟨k, hk1, hk2⟩ := HCM.out.kw hvr hur hs.but
        have hgw : g < wr.heap.size := World.block_lt_of_cell? _ _ f1
        have AC : Hid (∀ X : KW wr, Calls Try.prog 53 #[.int .i64 v, .int .i64 u, .pointer (some ⟨Bx, 0, none⟩)] X.w fun e W' => e = .returned (.int .i64 k) ∧ Kept X.w W') := hk2
        have HYY : Hid (r u < r v → ∀ c' u' v', c ≤ c' → c' < mid → A[c' - a]? = some u' → B[pp - c' - m]? = some v' → r u' < r v') := fun h0 c' u' v' h1 h2 h3 h4 => by
          have h5 := srt_le HA.out hu h3 (by omega)
          have h6 := srt_le HB.out h4 hv (by omega)
          omega
        have HNN : Hid (¬ r u < r v → ∀ c' u' v', s0 ≤ c' → c' < c + 1 → A[c' - a]? = some u' → B[pp - c' - m]? = some v' → ¬ r u' < r v') := fun h0 c' u' v' h1 h2 h3 h4 => by
          have h5 := srt_le HA.out h3 hu (by omega)
          have h6 := srt_le HB.out hv h4 (by omega)
          omega
        have e1 : (((s : Int) + (q : Int)) / 2) = (c : Int) := by omega
        have e2 : IntKind.i64.wrap ((pp : Int) - (c : Int)) = ((pp - c : Nat) : Int) := by rw [IntWalk.i64_in _ (by have := NUM0.out; omega)]; omega
        have HS : Hid (Sw w0 g n cap lo hi (P ++ A ++ B ++ S) wr) := hs
        have hsz1 : s ≤ 1048576 := by have := NUM0.out; omega
        have hsz2 : q ≤ 1048576 := by have := NUM0.out; omega
        have HC2 : Hid (a ≤ c ∧ c < m ∧ m ≤ pp - c ∧ pp - c < b ∧ c ≤ pp) := hc2
        generalize hpc : pp - c = pc at *
        have HPC : Hid (pp - c = pc) := hpc
        have q1 : (0 : Int) ≤ (c : Int) := by omega
        have q2 : (0 : Int) ≤ (pc : Int) := by omega
        obtain ⟨hc1, hc1'⟩ := hc1
        have hcm1 : c ≤ 1048576 := by omega
        clear hs hu hv hur hvr hk2 hce hpc hc2
        by_cases hcc : k < 0
        · have dc : decide (k < 0) = true := decide_eq_true hcc
          have HI2 : Hid ((∀ c0 u v, s0 ≤ c0 → c0 < s → A[c0 - a]? = some u → B[pp - c0 - m]? = some v → ¬ r u < r v) ∧ (∀ c0 u v, c ≤ c0 → c0 < mid → A[c0 - a]? = some u → B[pp - c0 - m]? = some v → r u < r v)) := show (∀ c0 u v, s0 ≤ c0 → c0 < s → A[c0 - a]? = some u → B[pp - c0 - m]? = some v → ¬ r u < r v) ∧ (∀ c0 u v, c ≤ c0 → c0 < mid → A[c0 - a]? = some u → B[pp - c0 - m]? = some v → r u < r v) from ⟨HI.out.1, HYY.out (hk1.1 hcc)⟩
          clear hcc hk1 HYY HNN HI
          repeat (first | go_values | go_skip | go_guarded | go_step | go_upon)
          refine wp_region_kept (by kernel_rfl) (by kernel_rfl) ?_
          have hcc := @KW.cell_eq
          repeat (go_big_quiet_step (first | (go_at_call 53; with_reducible exact kw_call (AC.out _)) | fail))
          refine wpQuiet_nil ?_
          rintro w5 ⟨⟨w8, k5⟩, h9⟩
          change w5 = w8 at h9
          subst h9
          clear hcc
          repeat (first | go_values | go_skip | go_guarded | go_step | go_upon)
          exact ⟨⟨s, c, rfl, rfl, hs0, by omega, by omega, HI2, HS.out.kept k5⟩, by simp [intOf]; omega⟩
        · have dc : decide (k < 0) = false := decide_eq_false hcc
          have HI2 : Hid ((∀ c0 u v, s0 ≤ c0 → c0 < c + 1 → A[c0 - a]? = some u → B[pp - c0 - m]? = some v → ¬ r u < r v) ∧ (∀ c0 u v, q ≤ c0 → c0 < mid → A[c0 - a]? = some u → B[pp - c0 - m]? = some v → r u < r v)) := show (∀ c0 u v, s0 ≤ c0 → c0 < c + 1 → A[c0 - a]? = some u → B[pp - c0 - m]? = some v → ¬ r u < r v) ∧ (∀ c0 u v, q ≤ c0 → c0 < mid → A[c0 - a]? = some u → B[pp - c0 - m]? = some v → r u < r v) from ⟨HNN.out (fun h0 => hcc (hk1.2 h0)), HI.out.2⟩
          clear hcc hk1 HYY HNN HI
          repeat (first | go_values | go_skip | go_guarded | go_step | go_upon)
          refine wp_region_kept (by kernel_rfl) (by kernel_rfl) ?_
          have hcc := @KW.cell_eq
          repeat (go_big_quiet_step (first | (go_at_call 53; with_reducible exact kw_call (AC.out _)) | fail))
          refine wpQuiet_nil ?_
          rintro w5 ⟨⟨w8, k5⟩, h9⟩
          change w5 = w8 at h9
          subst h9
          clear hcc
          repeat (first | go_values | go_skip | go_guarded | go_step | go_upon)
          exact ⟨⟨c + 1, q, by go_num, rfl, by omega, by omega, hq0, HI2, HS.out.kept k5⟩, by simp [intOf]; omega⟩
      · have hqe : s = q := by omega
        subst hqe
        have d0 : decide ((s : Int) < (s : Int)) = false := decide_eq_false (by omega)
        obtain ⟨en, hen⟩ : ∃ e, nn - s = e := ⟨_, rfl⟩
        have e3 : IntKind.i64.wrap ((nn : Int) - (s : Int)) = (en : Int) := by have := NUM0.out; rw [IntWalk.i64_in _ (by omega)]; omega
        have hsA : s - a ≤ A.length := by have := NUM0.out; omega
        have heB : en - m ≤ B.length := by have := NUM0.out; omega
        have hsep := sym_sep (s := s - a) (e := en - m) HA.out HB.out HXB.out hsA heB
          (fun h1 h2 u v h3 h4 => HI.out.1 (s - 1) u v (by have := NUM0.out; omega) (by omega) (by rw [show s - 1 - a = s - a - 1 by omega]; exact h3) (by have := NUM0.out; rw [show pp - (s - 1) - m = en - m by omega]; exact h4))
          (fun h1 h2 u v h3 h4 => HI.out.2 s u v (Nat.le_refl _) (by have := NUM0.out; omega) h3 (by have := NUM0.out; rw [show pp - s - m = en - m - 1 by omega]; exact h4))
        have hA1l : (A.take (s - a)).length = s - a := by rw [List.length_take]; omega
        have hA2l : (A.drop (s - a)).length = m - s := by have := NUM0.out; rw [List.length_drop]; omega
        have hB1l : (B.take (en - m)).length = en - m := by rw [List.length_take]; omega
        have hB2l : (B.drop (en - m)).length = b - en := by have := NUM0.out; rw [List.length_drop]; omega
        have QF : Hid (Srt r (A.take (s - a)) ∧ Srt r (A.drop (s - a)) ∧ Srt r (B.take (en - m)) ∧ Srt r (B.drop (en - m)) ∧ (∀ x ∈ A.take (s - a), ∀ y ∈ B.take (en - m), x < y) ∧ (∀ x ∈ A.drop (s - a), ∀ y ∈ B.drop (en - m), x < y) ∧ ∀ x ∈ A.take (s - a) ++ B.take (en - m), ∀ y ∈ A.drop (s - a) ++ B.drop (en - m), bef r x y) := show _ ∧ _ ∧ _ ∧ _ ∧ _ ∧ _ ∧ _ from ⟨srt_take HA.out _, srt_drop HA.out _, srt_take HB.out _, srt_drop HB.out _, fun x hx y hy => HXB.out x (List.mem_of_mem_take hx) y (List.mem_of_mem_take hy), fun x hx y hy => HXB.out x (List.mem_of_mem_drop hx) y (List.mem_of_mem_drop hy), hsep⟩
        have FIN : Hid (∀ C1 C2 : List Int, C1.Perm (A.take (s - a) ++ B.take (en - m)) → C2.Perm (A.drop (s - a) ++ B.drop (en - m)) → (C1 ++ C2).Perm (A ++ B)) := fun C1 C2 h1 h2 => sym_perm A B (s - a) (en - m) h1 h2
        have HS0 : Hid (Sw w0 g n cap lo hi (P ++ (A.take (s - a) ++ A.drop (s - a)) ++ (B.take (en - m) ++ B.drop (en - m)) ++ S) wr) := by
          have e : Sw w0 g n cap lo hi (P ++ (A.take (s - a) ++ A.drop (s - a)) ++ (B.take (en - m) ++ B.drop (en - m)) ++ S) wr := hs.as (by rw [List.take_append_drop, List.take_append_drop])
          exact e
        have NUM : Hid ((A.take (s - a)).length = s - a ∧ (A.drop (s - a)).length = m - s ∧ (B.take (en - m)).length = en - m ∧ (B.drop (en - m)).length = b - en ∧ P.length = a ∧ a ≤ s ∧ s ≤ m ∧ m ≤ en ∧ en ≤ b ∧ s ≤ mid ∧ mid ≤ en ∧ en - m = mid - s ∧ en - mid = m - s ∧ a < m ∧ m < b ∧ b ≤ n ∧ A.length + B.length = N ∧ a + A.length = m ∧ m + B.length = b ∧ a < mid ∧ mid < b) := by
          have h9 := NUM0.out
          exact (show (A.take (s - a)).length = s - a ∧ (A.drop (s - a)).length = m - s ∧ (B.take (en - m)).length = en - m ∧ (B.drop (en - m)).length = b - en ∧ P.length = a ∧ a ≤ s ∧ s ≤ m ∧ m ≤ en ∧ en ≤ b ∧ s ≤ mid ∧ mid ≤ en ∧ en - m = mid - s ∧ en - mid = m - s ∧ a < m ∧ m < b ∧ b ≤ n ∧ A.length + B.length = N ∧ a + A.length = m ∧ m + B.length = b ∧ a < mid ∧ mid < b from ⟨hA1l, hA2l, hB1l, hB2l, by omega, by omega, by omega, by omega, by omega, by omega, by omega, by omega, by omega, by omega, by omega, by omega, by omega, by omega, by omega, by omega, by omega⟩)
        clear hsep hA1l hA2l hB1l hB2l hs HI hsA heB hen hs0 hq0
        generalize A.take (s - a) = A1 at *
        generalize A.drop (s - a) = A2 at *
        generalize B.take (en - m) = B1 at *
        generalize B.drop (en - m) = B2 at *
        have hsz1 : s ≤ 1048576 := by have := NUM.out; omega
        clear NUM0 hlt
        by_cases c1 : s < m
        · by_cases c2 : m < en
          · by_cases c3 : a < s
            · by_cases c4 : en < b
              · have NUM : Hid (_ ∧ s < m ∧ m < en ∧ a < s ∧ en < b) := show _ ∧ _ from ⟨NUM.out, c1, c2, c3, c4⟩
                clear c1 c2 c3 c4
                have t1 : decide (((s : Nat) : Int) < ((m : Nat) : Int)) = true := decide_eq_true (by have := NUM.out; omega)
                have t1' : decide (s < m) = true := decide_eq_true (by have := NUM.out; omega)
                have t2 : decide (((m : Nat) : Int) < ((en : Nat) : Int)) = true := decide_eq_true (by have := NUM.out; omega)
                have t2' : decide (m < en) = true := decide_eq_true (by have := NUM.out; omega)
                have t3 : decide (((a : Nat) : Int) < ((s : Nat) : Int)) = true := decide_eq_true (by have := NUM.out; omega)
                have t3' : decide (a < s) = true := decide_eq_true (by have := NUM.out; omega)
                have t4 : decide (((s : Nat) : Int) < ((mid : Nat) : Int)) = true := decide_eq_true (by have := NUM.out; omega)
                have t4' : decide (s < mid) = true := decide_eq_true (by have := NUM.out; omega)
                have t5 : decide (((mid : Nat) : Int) < ((en : Nat) : Int)) = true := decide_eq_true (by have := NUM.out; omega)
                have t5' : decide (mid < en) = true := decide_eq_true (by have := NUM.out; omega)
                have t6 : decide (((en : Nat) : Int) < ((b : Nat) : Int)) = true := decide_eq_true (by have := NUM.out; omega)
                have t6' : decide (en < b) = true := decide_eq_true (by have := NUM.out; omega)
                have hc := irot w0 g n cap lo hi (P ++ A1) A2 B1 (B2 ++ S) (ne_of_len (by have := NUM.out; omega)) (ne_of_len (by have := NUM.out; omega)) (.func (.func 53) #[] #[.pointer (some ⟨Bx, 0, none⟩)]) s m en (by have := NUM.out; simp; omega) (by have := NUM.out; simp; omega) (by have := NUM.out; simp; omega) hn wr (HS0.out.as (by simp))
                have HC : Hid _ := hc
                clear hc
                repeat (first | go_values | go_skip | go_guarded | go_step | go_upon)
                go_at_call 59
                refine Calls.mono HC.out ?_
                rintro e wA ⟨rfl, hsA⟩
                have HSA : Hid (Sw w0 g n cap lo hi (P ++ A1 ++ B1 ++ A2 ++ B2 ++ S) wA) := hsA.as (by simp)
                clear hsA HC HS0
                dsimp only
                have hc := HIH.out P A1 B1 (A2 ++ B2 ++ S) a s mid (by have := NUM.out; omega) (ne_of_len (by have := NUM.out; omega)) (ne_of_len (by have := NUM.out; omega)) QF.out.1 QF.out.2.2.1 QF.out.2.2.2.2.1 (by have := NUM.out; omega) (by have := NUM.out; omega) (by have := NUM.out; omega) wA (HSA.out.as (by simp))
                have HC : Hid _ := hc
                clear hc
                repeat (first | go_values | go_skip | go_guarded | go_step | go_upon)
                go_at_call 58
                refine Calls.mono HC.out ?_
                rintro e wB ⟨rfl, C1, hC1p, hC1s, hsB⟩
                have HSB : Hid (Sw w0 g n cap lo hi (P ++ C1 ++ A2 ++ B2 ++ S) wB) := hsB.as (by simp)
                have HC1 : Hid (C1.Perm (A1 ++ B1) ∧ Srt r C1) := show C1.Perm (A1 ++ B1) ∧ Srt r C1 from ⟨hC1p, hC1s⟩
                clear hsB HC HSA hC1p hC1s
                dsimp only
                have hc := HIH.out (P ++ C1) A2 B2 S mid en b (by have := NUM.out; omega) (ne_of_len (by have := NUM.out; omega)) (ne_of_len (by have := NUM.out; omega)) QF.out.2.1 QF.out.2.2.2.1 QF.out.2.2.2.2.2.1 (by have h1 := NUM.out; have h2 := HC1.out.1.length_eq; simp at *; omega) (by have h1 := NUM.out; have h2 := HC1.out.1.length_eq; simp at *; omega) (by have h1 := NUM.out; have h2 := HC1.out.1.length_eq; simp at *; omega) wB (HSB.out.as (by simp))
                have HC : Hid _ := hc
                clear hc
                repeat (first | go_values | go_skip | go_guarded | go_step | go_upon)
                go_at_call 58
                refine Calls.mono HC.out ?_
                rintro e wC ⟨rfl, C2, hC2p, hC2s, hsC⟩
                have HF : Hid (∃ C, C.Perm (A ++ B) ∧ Srt r C ∧ Sw w0 g n cap lo hi (P ++ C ++ S) wC) := show ∃ C, C.Perm (A ++ B) ∧ Srt r C ∧ Sw w0 g n cap lo hi (P ++ C ++ S) wC from ⟨C1 ++ C2, FIN.out C1 C2 HC1.out.1 hC2p, sym_fin QF.out.2.2.2.2.2.2 HC1.out.1 hC2p HC1.out.2 hC2s, hsC.as (by simp)⟩
                clear hsC HC HSB hC2p hC2s
                dsimp only
                repeat (first | go_values | go_skip | go_guarded | go_step | go_upon)
                go_end0
                exact ⟨rfl, HF.out⟩
              · have NUM : Hid (_ ∧ s < m ∧ m < en ∧ a < s ∧ ¬ en < b) := show _ ∧ _ from ⟨NUM.out, c1, c2, c3, c4⟩
                clear c1 c2 c3 c4
                have t1 : decide (((s : Nat) : Int) < ((m : Nat) : Int)) = true := decide_eq_true (by have := NUM.out; omega)
                have t1' : decide (s < m) = true := decide_eq_true (by have := NUM.out; omega)
                have t2 : decide (((m : Nat) : Int) < ((en : Nat) : Int)) = true := decide_eq_true (by have := NUM.out; omega)
                have t2' : decide (m < en) = true := decide_eq_true (by have := NUM.out; omega)
                have t3 : decide (((a : Nat) : Int) < ((s : Nat) : Int)) = true := decide_eq_true (by have := NUM.out; omega)
                have t3' : decide (a < s) = true := decide_eq_true (by have := NUM.out; omega)
                have t4 : decide (((s : Nat) : Int) < ((mid : Nat) : Int)) = true := decide_eq_true (by have := NUM.out; omega)
                have t4' : decide (s < mid) = true := decide_eq_true (by have := NUM.out; omega)
                have t5 : decide (((mid : Nat) : Int) < ((en : Nat) : Int)) = true := decide_eq_true (by have := NUM.out; omega)
                have t5' : decide (mid < en) = true := decide_eq_true (by have := NUM.out; omega)
                have t6 : decide (((en : Nat) : Int) < ((b : Nat) : Int)) = false := decide_eq_false (by have := NUM.out; omega)
                have t6' : decide (en < b) = false := decide_eq_false (by have := NUM.out; omega)
                have hc := irot w0 g n cap lo hi (P ++ A1) A2 B1 (B2 ++ S) (ne_of_len (by have := NUM.out; omega)) (ne_of_len (by have := NUM.out; omega)) (.func (.func 53) #[] #[.pointer (some ⟨Bx, 0, none⟩)]) s m en (by have := NUM.out; simp; omega) (by have := NUM.out; simp; omega) (by have := NUM.out; simp; omega) hn wr (HS0.out.as (by simp))
                have HC : Hid _ := hc
                clear hc
                repeat (first | go_values | go_skip | go_guarded | go_step | go_upon)
                go_at_call 59
                refine Calls.mono HC.out ?_
                rintro e wA ⟨rfl, hsA⟩
                have HSA : Hid (Sw w0 g n cap lo hi (P ++ A1 ++ B1 ++ A2 ++ B2 ++ S) wA) := hsA.as (by simp)
                clear hsA HC HS0
                dsimp only
                have hc := HIH.out P A1 B1 (A2 ++ B2 ++ S) a s mid (by have := NUM.out; omega) (ne_of_len (by have := NUM.out; omega)) (ne_of_len (by have := NUM.out; omega)) QF.out.1 QF.out.2.2.1 QF.out.2.2.2.2.1 (by have := NUM.out; omega) (by have := NUM.out; omega) (by have := NUM.out; omega) wA (HSA.out.as (by simp))
                have HC : Hid _ := hc
                clear hc
                repeat (first | go_values | go_skip | go_guarded | go_step | go_upon)
                go_at_call 58
                refine Calls.mono HC.out ?_
                rintro e wB ⟨rfl, C1, hC1p, hC1s, hsB⟩
                have HSB : Hid (Sw w0 g n cap lo hi (P ++ C1 ++ A2 ++ B2 ++ S) wB) := hsB.as (by simp)
                have HC1 : Hid (C1.Perm (A1 ++ B1) ∧ Srt r C1) := show C1.Perm (A1 ++ B1) ∧ Srt r C1 from ⟨hC1p, hC1s⟩
                clear hsB HC HSA hC1p hC1s
                dsimp only
                have HF : Hid (∃ C, C.Perm (A ++ B) ∧ Srt r C ∧ Sw w0 g n cap lo hi (P ++ C ++ S) wB) := show ∃ C, C.Perm (A ++ B) ∧ Srt r C ∧ Sw w0 g n cap lo hi (P ++ C ++ S) wB from ⟨C1 ++ (A2 ++ B2), FIN.out C1 (A2 ++ B2) HC1.out.1 (List.Perm.refl _), sym_fin QF.out.2.2.2.2.2.2 HC1.out.1 (List.Perm.refl _) HC1.out.2 (by rw [nil_of_len (l := B2) (by have := NUM.out; omega)]; simpa using QF.out.2.1), HSB.out.as (by simp)⟩
                clear HSB
                repeat (first | go_values | go_skip | go_guarded | go_step | go_upon)
                go_end0
                exact ⟨rfl, HF.out⟩
            · by_cases c4 : en < b
              · have NUM : Hid (_ ∧ s < m ∧ m < en ∧ ¬ a < s ∧ en < b) := show _ ∧ _ from ⟨NUM.out, c1, c2, c3, c4⟩
                clear c1 c2 c3 c4
                have t1 : decide (((s : Nat) : Int) < ((m : Nat) : Int)) = true := decide_eq_true (by have := NUM.out; omega)
                have t1' : decide (s < m) = true := decide_eq_true (by have := NUM.out; omega)
                have t2 : decide (((m : Nat) : Int) < ((en : Nat) : Int)) = true := decide_eq_true (by have := NUM.out; omega)
                have t2' : decide (m < en) = true := decide_eq_true (by have := NUM.out; omega)
                have t3 : decide (((a : Nat) : Int) < ((s : Nat) : Int)) = false := decide_eq_false (by have := NUM.out; omega)
                have t3' : decide (a < s) = false := decide_eq_false (by have := NUM.out; omega)
                have t5 : decide (((mid : Nat) : Int) < ((en : Nat) : Int)) = true := decide_eq_true (by have := NUM.out; omega)
                have t5' : decide (mid < en) = true := decide_eq_true (by have := NUM.out; omega)
                have t6 : decide (((en : Nat) : Int) < ((b : Nat) : Int)) = true := decide_eq_true (by have := NUM.out; omega)
                have t6' : decide (en < b) = true := decide_eq_true (by have := NUM.out; omega)
                have hc := irot w0 g n cap lo hi (P ++ A1) A2 B1 (B2 ++ S) (ne_of_len (by have := NUM.out; omega)) (ne_of_len (by have := NUM.out; omega)) (.func (.func 53) #[] #[.pointer (some ⟨Bx, 0, none⟩)]) s m en (by have := NUM.out; simp; omega) (by have := NUM.out; simp; omega) (by have := NUM.out; simp; omega) hn wr (HS0.out.as (by simp))
                have HC : Hid _ := hc
                clear hc
                repeat (first | go_values | go_skip | go_guarded | go_step | go_upon)
                go_at_call 59
                refine Calls.mono HC.out ?_
                rintro e wA ⟨rfl, hsA⟩
                have HSA : Hid (Sw w0 g n cap lo hi (P ++ A1 ++ B1 ++ A2 ++ B2 ++ S) wA) := hsA.as (by simp)
                clear hsA HC HS0
                dsimp only
                obtain ⟨C1, hC1⟩ : ∃ C, A1 ++ B1 = C := ⟨_, rfl⟩
                have HC1 : Hid (C1.Perm (A1 ++ B1) ∧ Srt r C1) := show C1.Perm (A1 ++ B1) ∧ Srt r C1 from ⟨by rw [hC1], by rw [← hC1, nil_of_len (l := A1) (by have := NUM.out; omega)]; simpa using QF.out.2.2.1⟩
                have HSB : Hid (Sw w0 g n cap lo hi (P ++ C1 ++ A2 ++ B2 ++ S) wA) := HSA.out.as (by rw [← hC1]; simp)
                clear HSA hC1
                have hc := HIH.out (P ++ C1) A2 B2 S mid en b (by have := NUM.out; omega) (ne_of_len (by have := NUM.out; omega)) (ne_of_len (by have := NUM.out; omega)) QF.out.2.1 QF.out.2.2.2.1 QF.out.2.2.2.2.2.1 (by have h1 := NUM.out; have h2 := HC1.out.1.length_eq; simp at *; omega) (by have h1 := NUM.out; have h2 := HC1.out.1.length_eq; simp at *; omega) (by have h1 := NUM.out; have h2 := HC1.out.1.length_eq; simp at *; omega) wA (HSB.out.as (by simp))
                have HC : Hid _ := hc
                clear hc
                repeat (first | go_values | go_skip | go_guarded | go_step | go_upon)
                go_at_call 58
                refine Calls.mono HC.out ?_
                rintro e wC ⟨rfl, C2, hC2p, hC2s, hsC⟩
                have HF : Hid (∃ C, C.Perm (A ++ B) ∧ Srt r C ∧ Sw w0 g n cap lo hi (P ++ C ++ S) wC) := show ∃ C, C.Perm (A ++ B) ∧ Srt r C ∧ Sw w0 g n cap lo hi (P ++ C ++ S) wC from ⟨C1 ++ C2, FIN.out C1 C2 HC1.out.1 hC2p, sym_fin QF.out.2.2.2.2.2.2 HC1.out.1 hC2p HC1.out.2 hC2s, hsC.as (by simp)⟩
                clear hsC HC HSB hC2p hC2s
                dsimp only
                repeat (first | go_values | go_skip | go_guarded | go_step | go_upon)
                go_end0
                exact ⟨rfl, HF.out⟩
              · have NUM : Hid (_ ∧ s < m ∧ m < en ∧ ¬ a < s ∧ ¬ en < b) := show _ ∧ _ from ⟨NUM.out, c1, c2, c3, c4⟩
                clear c1 c2 c3 c4
                have t1 : decide (((s : Nat) : Int) < ((m : Nat) : Int)) = true := decide_eq_true (by have := NUM.out; omega)
                have t1' : decide (s < m) = true := decide_eq_true (by have := NUM.out; omega)
                have t2 : decide (((m : Nat) : Int) < ((en : Nat) : Int)) = true := decide_eq_true (by have := NUM.out; omega)
                have t2' : decide (m < en) = true := decide_eq_true (by have := NUM.out; omega)
                have t3 : decide (((a : Nat) : Int) < ((s : Nat) : Int)) = false := decide_eq_false (by have := NUM.out; omega)
                have t3' : decide (a < s) = false := decide_eq_false (by have := NUM.out; omega)
                have t5 : decide (((mid : Nat) : Int) < ((en : Nat) : Int)) = true := decide_eq_true (by have := NUM.out; omega)
                have t5' : decide (mid < en) = true := decide_eq_true (by have := NUM.out; omega)
                have t6 : decide (((en : Nat) : Int) < ((b : Nat) : Int)) = false := decide_eq_false (by have := NUM.out; omega)
                have t6' : decide (en < b) = false := decide_eq_false (by have := NUM.out; omega)
                have hc := irot w0 g n cap lo hi (P ++ A1) A2 B1 (B2 ++ S) (ne_of_len (by have := NUM.out; omega)) (ne_of_len (by have := NUM.out; omega)) (.func (.func 53) #[] #[.pointer (some ⟨Bx, 0, none⟩)]) s m en (by have := NUM.out; simp; omega) (by have := NUM.out; simp; omega) (by have := NUM.out; simp; omega) hn wr (HS0.out.as (by simp))
                have HC : Hid _ := hc
                clear hc
                repeat (first | go_values | go_skip | go_guarded | go_step | go_upon)
                go_at_call 59
                refine Calls.mono HC.out ?_
                rintro e wA ⟨rfl, hsA⟩
                have HSA : Hid (Sw w0 g n cap lo hi (P ++ A1 ++ B1 ++ A2 ++ B2 ++ S) wA) := hsA.as (by simp)
                clear hsA HC HS0
                dsimp only
                obtain ⟨C1, hC1⟩ : ∃ C, A1 ++ B1 = C := ⟨_, rfl⟩
                have HC1 : Hid (C1.Perm (A1 ++ B1) ∧ Srt r C1) := show C1.Perm (A1 ++ B1) ∧ Srt r C1 from ⟨by rw [hC1], by rw [← hC1, nil_of_len (l := A1) (by have := NUM.out; omega)]; simpa using QF.out.2.2.1⟩
                have HSB : Hid (Sw w0 g n cap lo hi (P ++ C1 ++ A2 ++ B2 ++ S) wA) := HSA.out.as (by rw [← hC1]; simp)
                clear HSA hC1
                have HF : Hid (∃ C, C.Perm (A ++ B) ∧ Srt r C ∧ Sw w0 g n cap lo hi (P ++ C ++ S) wA) := show ∃ C, C.Perm (A ++ B) ∧ Srt r C ∧ Sw w0 g n cap lo hi (P ++ C ++ S) wA from ⟨C1 ++ (A2 ++ B2), FIN.out C1 (A2 ++ B2) HC1.out.1 (List.Perm.refl _), sym_fin QF.out.2.2.2.2.2.2 HC1.out.1 (List.Perm.refl _) HC1.out.2 (by rw [nil_of_len (l := B2) (by have := NUM.out; omega)]; simpa using QF.out.2.1), HSB.out.as (by simp)⟩
                clear HSB
                repeat (first | go_values | go_skip | go_guarded | go_step | go_upon)
                go_end0
                exact ⟨rfl, HF.out⟩
          · by_cases c3 : a < s
            · have NUM : Hid (_ ∧ s < m ∧ ¬ m < en ∧ a < s) := show _ ∧ _ from ⟨NUM.out, c1, c2, c3⟩
              clear c1 c2 c3
              have t1 : decide (((s : Nat) : Int) < ((m : Nat) : Int)) = true := decide_eq_true (by have := NUM.out; omega)
              have t1' : decide (s < m) = true := decide_eq_true (by have := NUM.out; omega)
              have t2 : decide (((m : Nat) : Int) < ((en : Nat) : Int)) = false := decide_eq_false (by have := NUM.out; omega)
              have t2' : decide (m < en) = false := decide_eq_false (by have := NUM.out; omega)
              have t3 : decide (((a : Nat) : Int) < ((s : Nat) : Int)) = true := decide_eq_true (by have := NUM.out; omega)
              have t3' : decide (a < s) = true := decide_eq_true (by have := NUM.out; omega)
              have t4 : decide (((s : Nat) : Int) < ((mid : Nat) : Int)) = false := decide_eq_false (by have := NUM.out; omega)
              have t4' : decide (s < mid) = false := decide_eq_false (by have := NUM.out; omega)
              have t5 : decide (((mid : Nat) : Int) < ((en : Nat) : Int)) = true := decide_eq_true (by have := NUM.out; omega)
              have t5' : decide (mid < en) = true := decide_eq_true (by have := NUM.out; omega)
              have t6 : decide (((en : Nat) : Int) < ((b : Nat) : Int)) = true := decide_eq_true (by have := NUM.out; omega)
              have t6' : decide (en < b) = true := decide_eq_true (by have := NUM.out; omega)
              have HSA : Hid (Sw w0 g n cap lo hi (P ++ A1 ++ B1 ++ A2 ++ B2 ++ S) wr) := HS0.out.as (by rw [nil_of_len (l := B1) (by have := NUM.out; omega)]; simp)
              clear HS0
              obtain ⟨C1, hC1⟩ : ∃ C, A1 ++ B1 = C := ⟨_, rfl⟩
              have HC1 : Hid (C1.Perm (A1 ++ B1) ∧ Srt r C1) := show C1.Perm (A1 ++ B1) ∧ Srt r C1 from ⟨by rw [hC1], by rw [← hC1, nil_of_len (l := B1) (by have := NUM.out; omega)]; simpa using QF.out.1⟩
              have HSB : Hid (Sw w0 g n cap lo hi (P ++ C1 ++ A2 ++ B2 ++ S) wr) := HSA.out.as (by rw [← hC1]; simp)
              clear HSA hC1
              have hc := HIH.out (P ++ C1) A2 B2 S mid en b (by have := NUM.out; omega) (ne_of_len (by have := NUM.out; omega)) (ne_of_len (by have := NUM.out; omega)) QF.out.2.1 QF.out.2.2.2.1 QF.out.2.2.2.2.2.1 (by have h1 := NUM.out; have h2 := HC1.out.1.length_eq; simp at *; omega) (by have h1 := NUM.out; have h2 := HC1.out.1.length_eq; simp at *; omega) (by have h1 := NUM.out; have h2 := HC1.out.1.length_eq; simp at *; omega) wr (HSB.out.as (by simp))
              have HC : Hid _ := hc
              clear hc
              repeat (first | go_values | go_skip | go_guarded | go_step | go_upon)
              go_at_call 58
              refine Calls.mono HC.out ?_
              rintro e wC ⟨rfl, C2, hC2p, hC2s, hsC⟩
              have HF : Hid (∃ C, C.Perm (A ++ B) ∧ Srt r C ∧ Sw w0 g n cap lo hi (P ++ C ++ S) wC) := show ∃ C, C.Perm (A ++ B) ∧ Srt r C ∧ Sw w0 g n cap lo hi (P ++ C ++ S) wC from ⟨C1 ++ C2, FIN.out C1 C2 HC1.out.1 hC2p, sym_fin QF.out.2.2.2.2.2.2 HC1.out.1 hC2p HC1.out.2 hC2s, hsC.as (by simp)⟩
              clear hsC HC HSB hC2p hC2s
              dsimp only
              repeat (first | go_values | go_skip | go_guarded | go_step | go_upon)
              go_end0
              exact ⟨rfl, HF.out⟩
            · have NUM : Hid (_ ∧ s < m ∧ ¬ m < en ∧ ¬ a < s) := show _ ∧ _ from ⟨NUM.out, c1, c2, c3⟩
              clear c1 c2 c3
              have t1 : decide (((s : Nat) : Int) < ((m : Nat) : Int)) = true := decide_eq_true (by have := NUM.out; omega)
              have t1' : decide (s < m) = true := decide_eq_true (by have := NUM.out; omega)
              have t2 : decide (((m : Nat) : Int) < ((en : Nat) : Int)) = false := decide_eq_false (by have := NUM.out; omega)
              have t2' : decide (m < en) = false := decide_eq_false (by have := NUM.out; omega)
              have t3 : decide (((a : Nat) : Int) < ((s : Nat) : Int)) = false := decide_eq_false (by have := NUM.out; omega)
              have t3' : decide (a < s) = false := decide_eq_false (by have := NUM.out; omega)
              have t5 : decide (((mid : Nat) : Int) < ((en : Nat) : Int)) = true := decide_eq_true (by have := NUM.out; omega)
              have t5' : decide (mid < en) = true := decide_eq_true (by have := NUM.out; omega)
              have t6 : decide (((en : Nat) : Int) < ((b : Nat) : Int)) = true := decide_eq_true (by have := NUM.out; omega)
              have t6' : decide (en < b) = true := decide_eq_true (by have := NUM.out; omega)
              have HSA : Hid (Sw w0 g n cap lo hi (P ++ A1 ++ B1 ++ A2 ++ B2 ++ S) wr) := HS0.out.as (by rw [nil_of_len (l := B1) (by have := NUM.out; omega)]; simp)
              clear HS0
              obtain ⟨C1, hC1⟩ : ∃ C, A1 ++ B1 = C := ⟨_, rfl⟩
              have HC1 : Hid (C1.Perm (A1 ++ B1) ∧ Srt r C1) := show C1.Perm (A1 ++ B1) ∧ Srt r C1 from ⟨by rw [hC1], by rw [← hC1, nil_of_len (l := A1) (by have := NUM.out; omega)]; simpa using QF.out.2.2.1⟩
              have HSB : Hid (Sw w0 g n cap lo hi (P ++ C1 ++ A2 ++ B2 ++ S) wr) := HSA.out.as (by rw [← hC1]; simp)
              clear HSA hC1
              have hc := HIH.out (P ++ C1) A2 B2 S mid en b (by have := NUM.out; omega) (ne_of_len (by have := NUM.out; omega)) (ne_of_len (by have := NUM.out; omega)) QF.out.2.1 QF.out.2.2.2.1 QF.out.2.2.2.2.2.1 (by have h1 := NUM.out; have h2 := HC1.out.1.length_eq; simp at *; omega) (by have h1 := NUM.out; have h2 := HC1.out.1.length_eq; simp at *; omega) (by have h1 := NUM.out; have h2 := HC1.out.1.length_eq; simp at *; omega) wr (HSB.out.as (by simp))
              have HC : Hid _ := hc
              clear hc
              repeat (first | go_values | go_skip | go_guarded | go_step | go_upon)
              go_at_call 58
              refine Calls.mono HC.out ?_
              rintro e wC ⟨rfl, C2, hC2p, hC2s, hsC⟩
              have HF : Hid (∃ C, C.Perm (A ++ B) ∧ Srt r C ∧ Sw w0 g n cap lo hi (P ++ C ++ S) wC) := show ∃ C, C.Perm (A ++ B) ∧ Srt r C ∧ Sw w0 g n cap lo hi (P ++ C ++ S) wC from ⟨C1 ++ C2, FIN.out C1 C2 HC1.out.1 hC2p, sym_fin QF.out.2.2.2.2.2.2 HC1.out.1 hC2p HC1.out.2 hC2s, hsC.as (by simp)⟩
              clear hsC HC HSB hC2p hC2s
              dsimp only
              repeat (first | go_values | go_skip | go_guarded | go_step | go_upon)
              go_end0
              exact ⟨rfl, HF.out⟩
        · by_cases c2 : s < mid
          · have NUM : Hid (_ ∧ ¬ s < m ∧ s < mid) := show _ ∧ _ from ⟨NUM.out, c1, c2⟩
            clear c1 c2
            have t1 : decide (((s : Nat) : Int) < ((m : Nat) : Int)) = false := decide_eq_false (by have := NUM.out; omega)
            have t1' : decide (s < m) = false := decide_eq_false (by have := NUM.out; omega)
            have t3 : decide (((a : Nat) : Int) < ((s : Nat) : Int)) = true := decide_eq_true (by have := NUM.out; omega)
            have t3' : decide (a < s) = true := decide_eq_true (by have := NUM.out; omega)
            have t4 : decide (((s : Nat) : Int) < ((mid : Nat) : Int)) = true := decide_eq_true (by have := NUM.out; omega)
            have t4' : decide (s < mid) = true := decide_eq_true (by have := NUM.out; omega)
            have t5 : decide (((mid : Nat) : Int) < ((en : Nat) : Int)) = false := decide_eq_false (by have := NUM.out; omega)
            have t5' : decide (mid < en) = false := decide_eq_false (by have := NUM.out; omega)
            have HSA : Hid (Sw w0 g n cap lo hi (P ++ A1 ++ B1 ++ A2 ++ B2 ++ S) wr) := HS0.out.as (by rw [nil_of_len (l := A2) (by have := NUM.out; omega)]; simp)
            clear HS0
            have hc := HIH.out P A1 B1 (A2 ++ B2 ++ S) a s mid (by have := NUM.out; omega) (ne_of_len (by have := NUM.out; omega)) (ne_of_len (by have := NUM.out; omega)) QF.out.1 QF.out.2.2.1 QF.out.2.2.2.2.1 (by have := NUM.out; omega) (by have := NUM.out; omega) (by have := NUM.out; omega) wr (HSA.out.as (by simp))
            have HC : Hid _ := hc
            clear hc
            repeat (first | go_values | go_skip | go_guarded | go_step | go_upon)
            go_at_call 58
            refine Calls.mono HC.out ?_
            rintro e wB ⟨rfl, C1, hC1p, hC1s, hsB⟩
            have HSB : Hid (Sw w0 g n cap lo hi (P ++ C1 ++ A2 ++ B2 ++ S) wB) := hsB.as (by simp)
            have HC1 : Hid (C1.Perm (A1 ++ B1) ∧ Srt r C1) := show C1.Perm (A1 ++ B1) ∧ Srt r C1 from ⟨hC1p, hC1s⟩
            clear hsB HC HSA hC1p hC1s
            dsimp only
            have HF : Hid (∃ C, C.Perm (A ++ B) ∧ Srt r C ∧ Sw w0 g n cap lo hi (P ++ C ++ S) wB) := show ∃ C, C.Perm (A ++ B) ∧ Srt r C ∧ Sw w0 g n cap lo hi (P ++ C ++ S) wB from ⟨C1 ++ (A2 ++ B2), FIN.out C1 (A2 ++ B2) HC1.out.1 (List.Perm.refl _), sym_fin QF.out.2.2.2.2.2.2 HC1.out.1 (List.Perm.refl _) HC1.out.2 (by rw [nil_of_len (l := A2) (by have := NUM.out; omega)]; simpa using QF.out.2.2.2.1), HSB.out.as (by simp)⟩
            clear HSB
            repeat (first | go_values | go_skip | go_guarded | go_step | go_upon)
            go_end0
            exact ⟨rfl, HF.out⟩
          · have NUM : Hid (_ ∧ ¬ s < m ∧ ¬ s < mid) := show _ ∧ _ from ⟨NUM.out, c1, c2⟩
            clear c1 c2
            have t1 : decide (((s : Nat) : Int) < ((m : Nat) : Int)) = false := decide_eq_false (by have := NUM.out; omega)
            have t1' : decide (s < m) = false := decide_eq_false (by have := NUM.out; omega)
            have t3 : decide (((a : Nat) : Int) < ((s : Nat) : Int)) = true := decide_eq_true (by have := NUM.out; omega)
            have t3' : decide (a < s) = true := decide_eq_true (by have := NUM.out; omega)
            have t4 : decide (((s : Nat) : Int) < ((mid : Nat) : Int)) = false := decide_eq_false (by have := NUM.out; omega)
            have t4' : decide (s < mid) = false := decide_eq_false (by have := NUM.out; omega)
            have t5 : decide (((mid : Nat) : Int) < ((en : Nat) : Int)) = false := decide_eq_false (by have := NUM.out; omega)
            have t5' : decide (mid < en) = false := decide_eq_false (by have := NUM.out; omega)
            have HSA : Hid (Sw w0 g n cap lo hi (P ++ A1 ++ B1 ++ A2 ++ B2 ++ S) wr) := HS0.out.as (by rw [nil_of_len (l := A2) (by have := NUM.out; omega)]; simp)
            clear HS0
            obtain ⟨C1, hC1⟩ : ∃ C, A1 ++ B1 = C := ⟨_, rfl⟩
            have HC1 : Hid (C1.Perm (A1 ++ B1) ∧ Srt r C1) := show C1.Perm (A1 ++ B1) ∧ Srt r C1 from ⟨by rw [hC1], by rw [← hC1, nil_of_len (l := B1) (by have := NUM.out; omega)]; simpa using QF.out.1⟩
            have HSB : Hid (Sw w0 g n cap lo hi (P ++ C1 ++ A2 ++ B2 ++ S) wr) := HSA.out.as (by rw [← hC1]; simp)
            clear HSA hC1
            have HF : Hid (∃ C, C.Perm (A ++ B) ∧ Srt r C ∧ Sw w0 g n cap lo hi (P ++ C ++ S) wr) := show ∃ C, C.Perm (A ++ B) ∧ Srt r C ∧ Sw w0 g n cap lo hi (P ++ C ++ S) wr from ⟨C1 ++ (A2 ++ B2), FIN.out C1 (A2 ++ B2) HC1.out.1 (List.Perm.refl _), sym_fin QF.out.2.2.2.2.2.2 HC1.out.1 (List.Perm.refl _) HC1.out.2 (by rw [nil_of_len (l := A2) (by have := NUM.out; omega)]; simpa using QF.out.2.2.2.1), HSB.out.as (by simp)⟩
            clear HSB
            repeat (first | go_values | go_skip | go_guarded | go_step | go_upon)
            go_end0
            exact ⟨rfl, HF.out⟩
  · have d3 : decide ((mid : Int) < (m : Int)) = false := decide_eq_false (by omega)
    have d3' : decide (mid < m) = false := decide_eq_false hmm
    have NUM0 : Hid ((P.length = a ∧ a + A.length = m ∧ m + B.length = b ∧ A.length + B.length = N ∧ b ≤ n ∧ n ≤ 1048576 ∧ mid + m = nn ∧ pp + 1 = nn ∧ a + b < 2 * mid + 2 ∧ 2 * mid ≤ a + b ∧ 2 ≤ A.length ∧ 2 ≤ B.length) ∧ ¬ mid < m) := show _ ∧ _ from ⟨NUM0.out, hmm⟩
    clear hlen hmid hnn hpp hal hbl hcm hA hB hAB ha hm hb hN h2A h2B hmm
    go_enter Try.func58, Try.ntmps58
    repeat (first | go_values | go_skip | go_guarded | go_step | go_upon)
    clear w1 w2 w3 w4 d1 d1' d2 d2' d3 d3' e0
    go_loopw [20, 21] (fun sv qv wr => ∃ (s q : Nat), sv = .int .i64 (s : Int) ∧ qv = .int .i64 (q : Int) ∧ a ≤ s ∧ s ≤ q ∧ q ≤ m ∧ Hid ((∀ c0 u v, a ≤ c0 → c0 < s → A[c0 - a]? = some u → B[pp - c0 - m]? = some v → ¬ r u < r v) ∧ (∀ c0 u v, q ≤ c0 → c0 < m → A[c0 - a]? = some u → B[pp - c0 - m]? = some v → r u < r v)) ∧ Sw w0 g n cap lo hi (P ++ A ++ B ++ S) wr) (fun sv qv _ => (intOf qv).toNat - (intOf sv).toNat)
    case atStart => exact ⟨a, m, rfl, rfl, Nat.le_refl _, by have := NUM0.out; omega, Nat.le_refl _, (show (∀ c0 u v, a ≤ c0 → c0 < a → A[c0 - a]? = some u → B[pp - c0 - m]? = some v → ¬ r u < r v) ∧ (∀ c0 u v, m ≤ c0 → c0 < m → A[c0 - a]? = some u → B[pp - c0 - m]? = some v → r u < r v) from ⟨fun c u v h1 h2 => by omega, fun c u v h1 h2 => by omega⟩), h⟩
    case round =>
      obtain ⟨s, q, rfl, rfl, hs0, hsq, hq0, HI, hs⟩ := hrel
      clear h
      by_cases hlt : s < q
      · have d0 : decide ((s : Int) < (q : Int)) = true := decide_eq_true (by omega)
        have d0' : decide (s < q) = true := decide_eq_true hlt
        obtain ⟨c, hce⟩ : ∃ x, (s + q) / 2 = x := ⟨_, rfl⟩
        have hc1 : s ≤ c ∧ c < q := by omega
        have hc2 : a ≤ c ∧ c < m ∧ m ≤ pp - c ∧ pp - c < b ∧ c ≤ pp := by have := NUM0.out; omega
        obtain ⟨u, hu⟩ : ∃ u, A[c - a]? = some u := ⟨_, List.getElem?_eq_getElem (by have := NUM0.out; omega)⟩
        obtain ⟨v, hv⟩ : ∃ v, B[pp - c - m]? = some v := ⟨_, List.getElem?_eq_getElem (by have := NUM0.out; omega)⟩
        have hur : 0 ≤ u ∧ u < (n : Int) := hs.rng u (by have := List.mem_of_getElem? hu; simp [this])
        have hvr : 0 ≤ v ∧ v < (n : Int) := hs.rng v (by have := List.mem_of_getElem? hv; simp [this])
        obtain ⟨f1, _, y1⟩ := hs.cell (i := c) (x := u) (by rw [show P ++ A ++ B ++ S = P ++ A ++ (B ++ S) by simp, at_in P A (B ++ S) c (c - a) (by have := NUM0.out; omega) (by have := NUM0.out; omega)]; exact hu)
        obtain ⟨f2, _, y2⟩ := hs.cell (i := pp - c) (x := v) (by rw [at_in (P ++ A) B S (pp - c) (pp - c - m) (by have := NUM0.out; simp; omega) (by have := NUM0.out; omega)]; exact hv)
        obtain ⟨k, hk1, hk2⟩ := HCM.out.kw hvr hur hs.but
        have hgw : g < wr.heap.size := World.block_lt_of_cell? _ _ f1
        have AC : Hid (∀ X : KW wr, Calls Try.prog 53 #[.int .i64 v, .int .i64 u, .pointer (some ⟨Bx, 0, none⟩)] X.w fun e W' => e = .returned (.int .i64 k) ∧ Kept X.w W') := hk2
        have HYY : Hid (r u < r v → ∀ c' u' v', c ≤ c' → c' < m → A[c' - a]? = some u' → B[pp - c' - m]? = some v' → r u' < r v') := fun h0 c' u' v' h1 h2 h3 h4 => by
          have h5 := srt_le HA.out hu h3 (by omega)
          have h6 := srt_le HB.out h4 hv (by omega)
          omega
        have HNN : Hid (¬ r u < r v → ∀ c' u' v', a ≤ c' → c' < c + 1 → A[c' - a]? = some u' → B[pp - c' - m]? = some v' → ¬ r u' < r v') := fun h0 c' u' v' h1 h2 h3 h4 => by
          have h5 := srt_le HA.out h3 hu (by omega)
          have h6 := srt_le HB.out hv h4 (by omega)
          omega
        have e1 : (((s : Int) + (q : Int)) / 2) = (c : Int) := by omega
        have e2 : IntKind.i64.wrap ((pp : Int) - (c : Int)) = ((pp - c : Nat) : Int) := by rw [IntWalk.i64_in _ (by have := NUM0.out; omega)]; omega
        have HS : Hid (Sw w0 g n cap lo hi (P ++ A ++ B ++ S) wr) := hs
        have hsz1 : s ≤ 1048576 := by have := NUM0.out; omega
        have hsz2 : q ≤ 1048576 := by have := NUM0.out; omega
        have HC2 : Hid (a ≤ c ∧ c < m ∧ m ≤ pp - c ∧ pp - c < b ∧ c ≤ pp) := hc2
        generalize hpc : pp - c = pc at *
        have HPC : Hid (pp - c = pc) := hpc
        have q1 : (0 : Int) ≤ (c : Int) := by omega
        have q2 : (0 : Int) ≤ (pc : Int) := by omega
        obtain ⟨hc1, hc1'⟩ := hc1
        have hcm1 : c ≤ 1048576 := by omega
        clear hs hu hv hur hvr hk2 hce hpc hc2
        by_cases hcc : k < 0
        · have dc : decide (k < 0) = true := decide_eq_true hcc
          have HI2 : Hid ((∀ c0 u v, a ≤ c0 → c0 < s → A[c0 - a]? = some u → B[pp - c0 - m]? = some v → ¬ r u < r v) ∧ (∀ c0 u v, c ≤ c0 → c0 < m → A[c0 - a]? = some u → B[pp - c0 - m]? = some v → r u < r v)) := show (∀ c0 u v, a ≤ c0 → c0 < s → A[c0 - a]? = some u → B[pp - c0 - m]? = some v → ¬ r u < r v) ∧ (∀ c0 u v, c ≤ c0 → c0 < m → A[c0 - a]? = some u → B[pp - c0 - m]? = some v → r u < r v) from ⟨HI.out.1, HYY.out (hk1.1 hcc)⟩
          clear hcc hk1 HYY HNN HI
          repeat (first | go_values | go_skip | go_guarded | go_step | go_upon)
          refine wp_region_kept (by kernel_rfl) (by kernel_rfl) ?_
          have hcc := @KW.cell_eq
          repeat (go_big_quiet_step (first | (go_at_call 53; with_reducible exact kw_call (AC.out _)) | fail))
          refine wpQuiet_nil ?_
          rintro w5 ⟨⟨w8, k5⟩, h9⟩
          change w5 = w8 at h9
          subst h9
          clear hcc
          repeat (first | go_values | go_skip | go_guarded | go_step | go_upon)
          exact ⟨⟨s, c, rfl, rfl, hs0, by omega, by omega, HI2, HS.out.kept k5⟩, by simp [intOf]; omega⟩
        · have dc : decide (k < 0) = false := decide_eq_false hcc
          have HI2 : Hid ((∀ c0 u v, a ≤ c0 → c0 < c + 1 → A[c0 - a]? = some u → B[pp - c0 - m]? = some v → ¬ r u < r v) ∧ (∀ c0 u v, q ≤ c0 → c0 < m → A[c0 - a]? = some u → B[pp - c0 - m]? = some v → r u < r v)) := show (∀ c0 u v, a ≤ c0 → c0 < c + 1 → A[c0 - a]? = some u → B[pp - c0 - m]? = some v → ¬ r u < r v) ∧ (∀ c0 u v, q ≤ c0 → c0 < m → A[c0 - a]? = some u → B[pp - c0 - m]? = some v → r u < r v) from ⟨HNN.out (fun h0 => hcc (hk1.2 h0)), HI.out.2⟩
          clear hcc hk1 HYY HNN HI
          repeat (first | go_values | go_skip | go_guarded | go_step | go_upon)
          refine wp_region_kept (by kernel_rfl) (by kernel_rfl) ?_
          have hcc := @KW.cell_eq
          repeat (go_big_quiet_step (first | (go_at_call 53; with_reducible exact kw_call (AC.out _)) | fail))
          refine wpQuiet_nil ?_
          rintro w5 ⟨⟨w8, k5⟩, h9⟩
          change w5 = w8 at h9
          subst h9
          clear hcc
          repeat (first | go_values | go_skip | go_guarded | go_step | go_upon)
          exact ⟨⟨c + 1, q, by go_num, rfl, by omega, by omega, hq0, HI2, HS.out.kept k5⟩, by simp [intOf]; omega⟩
      · have hqe : s = q := by omega
        subst hqe
        have d0 : decide ((s : Int) < (s : Int)) = false := decide_eq_false (by omega)
        obtain ⟨en, hen⟩ : ∃ e, nn - s = e := ⟨_, rfl⟩
        have e3 : IntKind.i64.wrap ((nn : Int) - (s : Int)) = (en : Int) := by have := NUM0.out; rw [IntWalk.i64_in _ (by omega)]; omega
        have hsA : s - a ≤ A.length := by have := NUM0.out; omega
        have heB : en - m ≤ B.length := by have := NUM0.out; omega
        have hsep := sym_sep (s := s - a) (e := en - m) HA.out HB.out HXB.out hsA heB
          (fun h1 h2 u v h3 h4 => HI.out.1 (s - 1) u v (by have := NUM0.out; omega) (by omega) (by rw [show s - 1 - a = s - a - 1 by omega]; exact h3) (by have := NUM0.out; rw [show pp - (s - 1) - m = en - m by omega]; exact h4))
          (fun h1 h2 u v h3 h4 => HI.out.2 s u v (Nat.le_refl _) (by have := NUM0.out; omega) h3 (by have := NUM0.out; rw [show pp - s - m = en - m - 1 by omega]; exact h4))
        have hA1l : (A.take (s - a)).length = s - a := by rw [List.length_take]; omega
        have hA2l : (A.drop (s - a)).length = m - s := by have := NUM0.out; rw [List.length_drop]; omega
        have hB1l : (B.take (en - m)).length = en - m := by rw [List.length_take]; omega
        have hB2l : (B.drop (en - m)).length = b - en := by have := NUM0.out; rw [List.length_drop]; omega
        have QF : Hid (Srt r (A.take (s - a)) ∧ Srt r (A.drop (s - a)) ∧ Srt r (B.take (en - m)) ∧ Srt r (B.drop (en - m)) ∧ (∀ x ∈ A.take (s - a), ∀ y ∈ B.take (en - m), x < y) ∧ (∀ x ∈ A.drop (s - a), ∀ y ∈ B.drop (en - m), x < y) ∧ ∀ x ∈ A.take (s - a) ++ B.take (en - m), ∀ y ∈ A.drop (s - a) ++ B.drop (en - m), bef r x y) := show _ ∧ _ ∧ _ ∧ _ ∧ _ ∧ _ ∧ _ from ⟨srt_take HA.out _, srt_drop HA.out _, srt_take HB.out _, srt_drop HB.out _, fun x hx y hy => HXB.out x (List.mem_of_mem_take hx) y (List.mem_of_mem_take hy), fun x hx y hy => HXB.out x (List.mem_of_mem_drop hx) y (List.mem_of_mem_drop hy), hsep⟩
        have FIN : Hid (∀ C1 C2 : List Int, C1.Perm (A.take (s - a) ++ B.take (en - m)) → C2.Perm (A.drop (s - a) ++ B.drop (en - m)) → (C1 ++ C2).Perm (A ++ B)) := fun C1 C2 h1 h2 => sym_perm A B (s - a) (en - m) h1 h2
        have HS0 : Hid (Sw w0 g n cap lo hi (P ++ (A.take (s - a) ++ A.drop (s - a)) ++ (B.take (en - m) ++ B.drop (en - m)) ++ S) wr) := by
          have e : Sw w0 g n cap lo hi (P ++ (A.take (s - a) ++ A.drop (s - a)) ++ (B.take (en - m) ++ B.drop (en - m)) ++ S) wr := hs.as (by rw [List.take_append_drop, List.take_append_drop])
          exact e
        have NUM : Hid ((A.take (s - a)).length = s - a ∧ (A.drop (s - a)).length = m - s ∧ (B.take (en - m)).length = en - m ∧ (B.drop (en - m)).length = b - en ∧ P.length = a ∧ a ≤ s ∧ s ≤ m ∧ m ≤ en ∧ en ≤ b ∧ s ≤ mid ∧ mid ≤ en ∧ en - m = mid - s ∧ en - mid = m - s ∧ a < m ∧ m < b ∧ b ≤ n ∧ A.length + B.length = N ∧ a + A.length = m ∧ m + B.length = b ∧ a < mid ∧ mid < b) := by
          have h9 := NUM0.out
          exact (show (A.take (s - a)).length = s - a ∧ (A.drop (s - a)).length = m - s ∧ (B.take (en - m)).length = en - m ∧ (B.drop (en - m)).length = b - en ∧ P.length = a ∧ a ≤ s ∧ s ≤ m ∧ m ≤ en ∧ en ≤ b ∧ s ≤ mid ∧ mid ≤ en ∧ en - m = mid - s ∧ en - mid = m - s ∧ a < m ∧ m < b ∧ b ≤ n ∧ A.length + B.length = N ∧ a + A.length = m ∧ m + B.length = b ∧ a < mid ∧ mid < b from ⟨hA1l, hA2l, hB1l, hB2l, by omega, by omega, by omega, by omega, by omega, by omega, by omega, by omega, by omega, by omega, by omega, by omega, by omega, by omega, by omega, by omega, by omega⟩)
        clear hsep hA1l hA2l hB1l hB2l hs HI hsA heB hen hs0 hq0
        generalize A.take (s - a) = A1 at *
        generalize A.drop (s - a) = A2 at *
        generalize B.take (en - m) = B1 at *
        generalize B.drop (en - m) = B2 at *
        have hsz1 : s ≤ 1048576 := by have := NUM.out; omega
        clear NUM0 hlt
        by_cases c1 : s < m
        · by_cases c2 : m < en
          · by_cases c3 : a < s
            · by_cases c4 : en < b
              · have NUM : Hid (_ ∧ s < m ∧ m < en ∧ a < s ∧ en < b) := show _ ∧ _ from ⟨NUM.out, c1, c2, c3, c4⟩
                clear c1 c2 c3 c4
                have t1 : decide (((s : Nat) : Int) < ((m : Nat) : Int)) = true := decide_eq_true (by have := NUM.out; omega)
                have t1' : decide (s < m) = true := decide_eq_true (by have := NUM.out; omega)
                have t2 : decide (((m : Nat) : Int) < ((en : Nat) : Int)) = true := decide_eq_true (by have := NUM.out; omega)
                have t2' : decide (m < en) = true := decide_eq_true (by have := NUM.out; omega)
                have t3 : decide (((a : Nat) : Int) < ((s : Nat) : Int)) = true := decide_eq_true (by have := NUM.out; omega)
                have t3' : decide (a < s) = true := decide_eq_true (by have := NUM.out; omega)
                have t4 : decide (((s : Nat) : Int) < ((mid : Nat) : Int)) = true := decide_eq_true (by have := NUM.out; omega)
                have t4' : decide (s < mid) = true := decide_eq_true (by have := NUM.out; omega)
                have t5 : decide (((mid : Nat) : Int) < ((en : Nat) : Int)) = true := decide_eq_true (by have := NUM.out; omega)
                have t5' : decide (mid < en) = true := decide_eq_true (by have := NUM.out; omega)
                have t6 : decide (((en : Nat) : Int) < ((b : Nat) : Int)) = true := decide_eq_true (by have := NUM.out; omega)
                have t6' : decide (en < b) = true := decide_eq_true (by have := NUM.out; omega)
                have hc := irot w0 g n cap lo hi (P ++ A1) A2 B1 (B2 ++ S) (ne_of_len (by have := NUM.out; omega)) (ne_of_len (by have := NUM.out; omega)) (.func (.func 53) #[] #[.pointer (some ⟨Bx, 0, none⟩)]) s m en (by have := NUM.out; simp; omega) (by have := NUM.out; simp; omega) (by have := NUM.out; simp; omega) hn wr (HS0.out.as (by simp))
                have HC : Hid _ := hc
                clear hc
                repeat (first | go_values | go_skip | go_guarded | go_step | go_upon)
                go_at_call 59
                refine Calls.mono HC.out ?_
                rintro e wA ⟨rfl, hsA⟩
                have HSA : Hid (Sw w0 g n cap lo hi (P ++ A1 ++ B1 ++ A2 ++ B2 ++ S) wA) := hsA.as (by simp)
                clear hsA HC HS0
                dsimp only
                have hc := HIH.out P A1 B1 (A2 ++ B2 ++ S) a s mid (by have := NUM.out; omega) (ne_of_len (by have := NUM.out; omega)) (ne_of_len (by have := NUM.out; omega)) QF.out.1 QF.out.2.2.1 QF.out.2.2.2.2.1 (by have := NUM.out; omega) (by have := NUM.out; omega) (by have := NUM.out; omega) wA (HSA.out.as (by simp))
                have HC : Hid _ := hc
                clear hc
                repeat (first | go_values | go_skip | go_guarded | go_step | go_upon)
                go_at_call 58
                refine Calls.mono HC.out ?_
                rintro e wB ⟨rfl, C1, hC1p, hC1s, hsB⟩
                have HSB : Hid (Sw w0 g n cap lo hi (P ++ C1 ++ A2 ++ B2 ++ S) wB) := hsB.as (by simp)
                have HC1 : Hid (C1.Perm (A1 ++ B1) ∧ Srt r C1) := show C1.Perm (A1 ++ B1) ∧ Srt r C1 from ⟨hC1p, hC1s⟩
                clear hsB HC HSA hC1p hC1s
                dsimp only
                have hc := HIH.out (P ++ C1) A2 B2 S mid en b (by have := NUM.out; omega) (ne_of_len (by have := NUM.out; omega)) (ne_of_len (by have := NUM.out; omega)) QF.out.2.1 QF.out.2.2.2.1 QF.out.2.2.2.2.2.1 (by have h1 := NUM.out; have h2 := HC1.out.1.length_eq; simp at *; omega) (by have h1 := NUM.out; have h2 := HC1.out.1.length_eq; simp at *; omega) (by have h1 := NUM.out; have h2 := HC1.out.1.length_eq; simp at *; omega) wB (HSB.out.as (by simp))
                have HC : Hid _ := hc
                clear hc
                repeat (first | go_values | go_skip | go_guarded | go_step | go_upon)
                go_at_call 58
                refine Calls.mono HC.out ?_
                rintro e wC ⟨rfl, C2, hC2p, hC2s, hsC⟩
                have HF : Hid (∃ C, C.Perm (A ++ B) ∧ Srt r C ∧ Sw w0 g n cap lo hi (P ++ C ++ S) wC) := show ∃ C, C.Perm (A ++ B) ∧ Srt r C ∧ Sw w0 g n cap lo hi (P ++ C ++ S) wC from ⟨C1 ++ C2, FIN.out C1 C2 HC1.out.1 hC2p, sym_fin QF.out.2.2.2.2.2.2 HC1.out.1 hC2p HC1.out.2 hC2s, hsC.as (by simp)⟩
                clear hsC HC HSB hC2p hC2s
                dsimp only
                repeat (first | go_values | go_skip | go_guarded | go_step | go_upon)
                go_end0
                exact ⟨rfl, HF.out⟩
              · have NUM : Hid (_ ∧ s < m ∧ m < en ∧ a < s ∧ ¬ en < b) := show _ ∧ _ from ⟨NUM.out, c1, c2, c3, c4⟩
                clear c1 c2 c3 c4
                have t1 : decide (((s : Nat) : Int) < ((m : Nat) : Int)) = true := decide_eq_true (by have := NUM.out; omega)
                have t1' : decide (s < m) = true := decide_eq_true (by have := NUM.out; omega)
                have t2 : decide (((m : Nat) : Int) < ((en : Nat) : Int)) = true := decide_eq_true (by have := NUM.out; omega)
                have t2' : decide (m < en) = true := decide_eq_true (by have := NUM.out; omega)
                have t3 : decide (((a : Nat) : Int) < ((s : Nat) : Int)) = true := decide_eq_true (by have := NUM.out; omega)
                have t3' : decide (a < s) = true := decide_eq_true (by have := NUM.out; omega)
                have t4 : decide (((s : Nat) : Int) < ((mid : Nat) : Int)) = true := decide_eq_true (by have := NUM.out; omega)
                have t4' : decide (s < mid) = true := decide_eq_true (by have := NUM.out; omega)
                have t5 : decide (((mid : Nat) : Int) < ((en : Nat) : Int)) = true := decide_eq_true (by have := NUM.out; omega)
                have t5' : decide (mid < en) = true := decide_eq_true (by have := NUM.out; omega)
                have t6 : decide (((en : Nat) : Int) < ((b : Nat) : Int)) = false := decide_eq_false (by have := NUM.out; omega)
                have t6' : decide (en < b) = false := decide_eq_false (by have := NUM.out; omega)
                have hc := irot w0 g n cap lo hi (P ++ A1) A2 B1 (B2 ++ S) (ne_of_len (by have := NUM.out; omega)) (ne_of_len (by have := NUM.out; omega)) (.func (.func 53) #[] #[.pointer (some ⟨Bx, 0, none⟩)]) s m en (by have := NUM.out; simp; omega) (by have := NUM.out; simp; omega) (by have := NUM.out; simp; omega) hn wr (HS0.out.as (by simp))
                have HC : Hid _ := hc
                clear hc
                repeat (first | go_values | go_skip | go_guarded | go_step | go_upon)
                go_at_call 59
                refine Calls.mono HC.out ?_
                rintro e wA ⟨rfl, hsA⟩
                have HSA : Hid (Sw w0 g n cap lo hi (P ++ A1 ++ B1 ++ A2 ++ B2 ++ S) wA) := hsA.as (by simp)
                clear hsA HC HS0
                dsimp only
                have hc := HIH.out P A1 B1 (A2 ++ B2 ++ S) a s mid (by have := NUM.out; omega) (ne_of_len (by have := NUM.out; omega)) (ne_of_len (by have := NUM.out; omega)) QF.out.1 QF.out.2.2.1 QF.out.2.2.2.2.1 (by have := NUM.out; omega) (by have := NUM.out; omega) (by have := NUM.out; omega) wA (HSA.out.as (by simp))
                have HC : Hid _ := hc
                clear hc
                repeat (first | go_values | go_skip | go_guarded | go_step | go_upon)
                go_at_call 58
                refine Calls.mono HC.out ?_
                rintro e wB ⟨rfl, C1, hC1p, hC1s, hsB⟩
                have HSB : Hid (Sw w0 g n cap lo hi (P ++ C1 ++ A2 ++ B2 ++ S) wB) := hsB.as (by simp)
                have HC1 : Hid (C1.Perm (A1 ++ B1) ∧ Srt r C1) := show C1.Perm (A1 ++ B1) ∧ Srt r C1 from ⟨hC1p, hC1s⟩
                clear hsB HC HSA hC1p hC1s
                dsimp only
                have HF : Hid (∃ C, C.Perm (A ++ B) ∧ Srt r C ∧ Sw w0 g n cap lo hi (P ++ C ++ S) wB) := show ∃ C, C.Perm (A ++ B) ∧ Srt r C ∧ Sw w0 g n cap lo hi (P ++ C ++ S) wB from ⟨C1 ++ (A2 ++ B2), FIN.out C1 (A2 ++ B2) HC1.out.1 (List.Perm.refl _), sym_fin QF.out.2.2.2.2.2.2 HC1.out.1 (List.Perm.refl _) HC1.out.2 (by rw [nil_of_len (l := B2) (by have := NUM.out; omega)]; simpa using QF.out.2.1), HSB.out.as (by simp)⟩
                clear HSB
                repeat (first | go_values | go_skip | go_guarded | go_step | go_upon)
                go_end0
                exact ⟨rfl, HF.out⟩
            · by_cases c4 : en < b
              · have NUM : Hid (_ ∧ s < m ∧ m < en ∧ ¬ a < s ∧ en < b) := show _ ∧ _ from ⟨NUM.out, c1, c2, c3, c4⟩
                clear c1 c2 c3 c4
                have t1 : decide (((s : Nat) : Int) < ((m : Nat) : Int)) = true := decide_eq_true (by have := NUM.out; omega)
                have t1' : decide (s < m) = true := decide_eq_true (by have := NUM.out; omega)
                have t2 : decide (((m : Nat) : Int) < ((en : Nat) : Int)) = true := decide_eq_true (by have := NUM.out; omega)
                have t2' : decide (m < en) = true := decide_eq_true (by have := NUM.out; omega)
                have t3 : decide (((a : Nat) : Int) < ((s : Nat) : Int)) = false := decide_eq_false (by have := NUM.out; omega)
                have t3' : decide (a < s) = false := decide_eq_false (by have := NUM.out; omega)
                have t5 : decide (((mid : Nat) : Int) < ((en : Nat) : Int)) = true := decide_eq_true (by have := NUM.out; omega)
                have t5' : decide (mid < en) = true := decide_eq_true (by have := NUM.out; omega)
                have t6 : decide (((en : Nat) : Int) < ((b : Nat) : Int)) = true := decide_eq_true (by have := NUM.out; omega)
                have t6' : decide (en < b) = true := decide_eq_true (by have := NUM.out; omega)
                have hc := irot w0 g n cap lo hi (P ++ A1) A2 B1 (B2 ++ S) (ne_of_len (by have := NUM.out; omega)) (ne_of_len (by have := NUM.out; omega)) (.func (.func 53) #[] #[.pointer (some ⟨Bx, 0, none⟩)]) s m en (by have := NUM.out; simp; omega) (by have := NUM.out; simp; omega) (by have := NUM.out; simp; omega) hn wr (HS0.out.as (by simp))
                have HC : Hid _ := hc
                clear hc
                repeat (first | go_values | go_skip | go_guarded | go_step | go_upon)
                go_at_call 59
                refine Calls.mono HC.out ?_
                rintro e wA ⟨rfl, hsA⟩
                have HSA : Hid (Sw w0 g n cap lo hi (P ++ A1 ++ B1 ++ A2 ++ B2 ++ S) wA) := hsA.as (by simp)
                clear hsA HC HS0
                dsimp only
                obtain ⟨C1, hC1⟩ : ∃ C, A1 ++ B1 = C := ⟨_, rfl⟩
                have HC1 : Hid (C1.Perm (A1 ++ B1) ∧ Srt r C1) := show C1.Perm (A1 ++ B1) ∧ Srt r C1 from ⟨by rw [hC1], by rw [← hC1, nil_of_len (l := A1) (by have := NUM.out; omega)]; simpa using QF.out.2.2.1⟩
                have HSB : Hid (Sw w0 g n cap lo hi (P ++ C1 ++ A2 ++ B2 ++ S) wA) := HSA.out.as (by rw [← hC1]; simp)
                clear HSA hC1
                have hc := HIH.out (P ++ C1) A2 B2 S mid en b (by have := NUM.out; omega) (ne_of_len (by have := NUM.out; omega)) (ne_of_len (by have := NUM.out; omega)) QF.out.2.1 QF.out.2.2.2.1 QF.out.2.2.2.2.2.1 (by have h1 := NUM.out; have h2 := HC1.out.1.length_eq; simp at *; omega) (by have h1 := NUM.out; have h2 := HC1.out.1.length_eq; simp at *; omega) (by have h1 := NUM.out; have h2 := HC1.out.1.length_eq; simp at *; omega) wA (HSB.out.as (by simp))
                have HC : Hid _ := hc
                clear hc
                repeat (first | go_values | go_skip | go_guarded | go_step | go_upon)
                go_at_call 58
                refine Calls.mono HC.out ?_
                rintro e wC ⟨rfl, C2, hC2p, hC2s, hsC⟩
                have HF : Hid (∃ C, C.Perm (A ++ B) ∧ Srt r C ∧ Sw w0 g n cap lo hi (P ++ C ++ S) wC) := show ∃ C, C.Perm (A ++ B) ∧ Srt r C ∧ Sw w0 g n cap lo hi (P ++ C ++ S) wC from ⟨C1 ++ C2, FIN.out C1 C2 HC1.out.1 hC2p, sym_fin QF.out.2.2.2.2.2.2 HC1.out.1 hC2p HC1.out.2 hC2s, hsC.as (by simp)⟩
                clear hsC HC HSB hC2p hC2s
                dsimp only
                repeat (first | go_values | go_skip | go_guarded | go_step | go_upon)
                go_end0
                exact ⟨rfl, HF.out⟩
              · have NUM : Hid (_ ∧ s < m ∧ m < en ∧ ¬ a < s ∧ ¬ en < b) := show _ ∧ _ from ⟨NUM.out, c1, c2, c3, c4⟩
                clear c1 c2 c3 c4
                have t1 : decide (((s : Nat) : Int) < ((m : Nat) : Int)) = true := decide_eq_true (by have := NUM.out; omega)
                have t1' : decide (s < m) = true := decide_eq_true (by have := NUM.out; omega)
                have t2 : decide (((m : Nat) : Int) < ((en : Nat) : Int)) = true := decide_eq_true (by have := NUM.out; omega)
                have t2' : decide (m < en) = true := decide_eq_true (by have := NUM.out; omega)
                have t3 : decide (((a : Nat) : Int) < ((s : Nat) : Int)) = false := decide_eq_false (by have := NUM.out; omega)
                have t3' : decide (a < s) = false := decide_eq_false (by have := NUM.out; omega)
                have t5 : decide (((mid : Nat) : Int) < ((en : Nat) : Int)) = true := decide_eq_true (by have := NUM.out; omega)
                have t5' : decide (mid < en) = true := decide_eq_true (by have := NUM.out; omega)
                have t6 : decide (((en : Nat) : Int) < ((b : Nat) : Int)) = false := decide_eq_false (by have := NUM.out; omega)
                have t6' : decide (en < b) = false := decide_eq_false (by have := NUM.out; omega)
                have hc := irot w0 g n cap lo hi (P ++ A1) A2 B1 (B2 ++ S) (ne_of_len (by have := NUM.out; omega)) (ne_of_len (by have := NUM.out; omega)) (.func (.func 53) #[] #[.pointer (some ⟨Bx, 0, none⟩)]) s m en (by have := NUM.out; simp; omega) (by have := NUM.out; simp; omega) (by have := NUM.out; simp; omega) hn wr (HS0.out.as (by simp))
                have HC : Hid _ := hc
                clear hc
                repeat (first | go_values | go_skip | go_guarded | go_step | go_upon)
                go_at_call 59
                refine Calls.mono HC.out ?_
                rintro e wA ⟨rfl, hsA⟩
                have HSA : Hid (Sw w0 g n cap lo hi (P ++ A1 ++ B1 ++ A2 ++ B2 ++ S) wA) := hsA.as (by simp)
                clear hsA HC HS0
                dsimp only
                obtain ⟨C1, hC1⟩ : ∃ C, A1 ++ B1 = C := ⟨_, rfl⟩
                have HC1 : Hid (C1.Perm (A1 ++ B1) ∧ Srt r C1) := show C1.Perm (A1 ++ B1) ∧ Srt r C1 from ⟨by rw [hC1], by rw [← hC1, nil_of_len (l := A1) (by have := NUM.out; omega)]; simpa using QF.out.2.2.1⟩
                have HSB : Hid (Sw w0 g n cap lo hi (P ++ C1 ++ A2 ++ B2 ++ S) wA) := HSA.out.as (by rw [← hC1]; simp)
                clear HSA hC1
                have HF : Hid (∃ C, C.Perm (A ++ B) ∧ Srt r C ∧ Sw w0 g n cap lo hi (P ++ C ++ S) wA) := show ∃ C, C.Perm (A ++ B) ∧ Srt r C ∧ Sw w0 g n cap lo hi (P ++ C ++ S) wA from ⟨C1 ++ (A2 ++ B2), FIN.out C1 (A2 ++ B2) HC1.out.1 (List.Perm.refl _), sym_fin QF.out.2.2.2.2.2.2 HC1.out.1 (List.Perm.refl _) HC1.out.2 (by rw [nil_of_len (l := B2) (by have := NUM.out; omega)]; simpa using QF.out.2.1), HSB.out.as (by simp)⟩
                clear HSB
                repeat (first | go_values | go_skip | go_guarded | go_step | go_upon)
                go_end0
                exact ⟨rfl, HF.out⟩
          · by_cases c3 : a < s
            · have NUM : Hid (_ ∧ s < m ∧ ¬ m < en ∧ a < s) := show _ ∧ _ from ⟨NUM.out, c1, c2, c3⟩
              clear c1 c2 c3
              have t1 : decide (((s : Nat) : Int) < ((m : Nat) : Int)) = true := decide_eq_true (by have := NUM.out; omega)
              have t1' : decide (s < m) = true := decide_eq_true (by have := NUM.out; omega)
              have t2 : decide (((m : Nat) : Int) < ((en : Nat) : Int)) = false := decide_eq_false (by have := NUM.out; omega)
              have t2' : decide (m < en) = false := decide_eq_false (by have := NUM.out; omega)
              have t3 : decide (((a : Nat) : Int) < ((s : Nat) : Int)) = true := decide_eq_true (by have := NUM.out; omega)
              have t3' : decide (a < s) = true := decide_eq_true (by have := NUM.out; omega)
              have t4 : decide (((s : Nat) : Int) < ((mid : Nat) : Int)) = false := decide_eq_false (by have := NUM.out; omega)
              have t4' : decide (s < mid) = false := decide_eq_false (by have := NUM.out; omega)
              have t5 : decide (((mid : Nat) : Int) < ((en : Nat) : Int)) = true := decide_eq_true (by have := NUM.out; omega)
              have t5' : decide (mid < en) = true := decide_eq_true (by have := NUM.out; omega)
              have t6 : decide (((en : Nat) : Int) < ((b : Nat) : Int)) = true := decide_eq_true (by have := NUM.out; omega)
              have t6' : decide (en < b) = true := decide_eq_true (by have := NUM.out; omega)
              have HSA : Hid (Sw w0 g n cap lo hi (P ++ A1 ++ B1 ++ A2 ++ B2 ++ S) wr) := HS0.out.as (by rw [nil_of_len (l := B1) (by have := NUM.out; omega)]; simp)
              clear HS0
              obtain ⟨C1, hC1⟩ : ∃ C, A1 ++ B1 = C := ⟨_, rfl⟩
              have HC1 : Hid (C1.Perm (A1 ++ B1) ∧ Srt r C1) := show C1.Perm (A1 ++ B1) ∧ Srt r C1 from ⟨by rw [hC1], by rw [← hC1, nil_of_len (l := B1) (by have := NUM.out; omega)]; simpa using QF.out.1⟩
              have HSB : Hid (Sw w0 g n cap lo hi (P ++ C1 ++ A2 ++ B2 ++ S) wr) := HSA.out.as (by rw [← hC1]; simp)
              clear HSA hC1
              have hc := HIH.out (P ++ C1) A2 B2 S mid en b (by have := NUM.out; omega) (ne_of_len (by have := NUM.out; omega)) (ne_of_len (by have := NUM.out; omega)) QF.out.2.1 QF.out.2.2.2.1 QF.out.2.2.2.2.2.1 (by have h1 := NUM.out; have h2 := HC1.out.1.length_eq; simp at *; omega) (by have h1 := NUM.out; have h2 := HC1.out.1.length_eq; simp at *; omega) (by have h1 := NUM.out; have h2 := HC1.out.1.length_eq; simp at *; omega) wr (HSB.out.as (by simp))
              have HC : Hid _ := hc
              clear hc
              repeat (first | go_values | go_skip | go_guarded | go_step | go_upon)
              go_at_call 58
              refine Calls.mono HC.out ?_
              rintro e wC ⟨rfl, C2, hC2p, hC2s, hsC⟩
              have HF : Hid (∃ C, C.Perm (A ++ B) ∧ Srt r C ∧ Sw w0 g n cap lo hi (P ++ C ++ S) wC) := show ∃ C, C.Perm (A ++ B) ∧ Srt r C ∧ Sw w0 g n cap lo hi (P ++ C ++ S) wC from ⟨C1 ++ C2, FIN.out C1 C2 HC1.out.1 hC2p, sym_fin QF.out.2.2.2.2.2.2 HC1.out.1 hC2p HC1.out.2 hC2s, hsC.as (by simp)⟩
              clear hsC HC HSB hC2p hC2s
              dsimp only
              repeat (first | go_values | go_skip | go_guarded | go_step | go_upon)
              go_end0
              exact ⟨rfl, HF.out⟩
            · have NUM : Hid (_ ∧ s < m ∧ ¬ m < en ∧ ¬ a < s) := show _ ∧ _ from ⟨NUM.out, c1, c2, c3⟩
              clear c1 c2 c3
              have t1 : decide (((s : Nat) : Int) < ((m : Nat) : Int)) = true := decide_eq_true (by have := NUM.out; omega)
              have t1' : decide (s < m) = true := decide_eq_true (by have := NUM.out; omega)
              have t2 : decide (((m : Nat) : Int) < ((en : Nat) : Int)) = false := decide_eq_false (by have := NUM.out; omega)
              have t2' : decide (m < en) = false := decide_eq_false (by have := NUM.out; omega)
              have t3 : decide (((a : Nat) : Int) < ((s : Nat) : Int)) = false := decide_eq_false (by have := NUM.out; omega)
              have t3' : decide (a < s) = false := decide_eq_false (by have := NUM.out; omega)
              have t5 : decide (((mid : Nat) : Int) < ((en : Nat) : Int)) = true := decide_eq_true (by have := NUM.out; omega)
              have t5' : decide (mid < en) = true := decide_eq_true (by have := NUM.out; omega)
              have t6 : decide (((en : Nat) : Int) < ((b : Nat) : Int)) = true := decide_eq_true (by have := NUM.out; omega)
              have t6' : decide (en < b) = true := decide_eq_true (by have := NUM.out; omega)
              have HSA : Hid (Sw w0 g n cap lo hi (P ++ A1 ++ B1 ++ A2 ++ B2 ++ S) wr) := HS0.out.as (by rw [nil_of_len (l := B1) (by have := NUM.out; omega)]; simp)
              clear HS0
              obtain ⟨C1, hC1⟩ : ∃ C, A1 ++ B1 = C := ⟨_, rfl⟩
              have HC1 : Hid (C1.Perm (A1 ++ B1) ∧ Srt r C1) := show C1.Perm (A1 ++ B1) ∧ Srt r C1 from ⟨by rw [hC1], by rw [← hC1, nil_of_len (l := A1) (by have := NUM.out; omega)]; simpa using QF.out.2.2.1⟩
              have HSB : Hid (Sw w0 g n cap lo hi (P ++ C1 ++ A2 ++ B2 ++ S) wr) := HSA.out.as (by rw [← hC1]; simp)
              clear HSA hC1
              have hc := HIH.out (P ++ C1) A2 B2 S mid en b (by have := NUM.out; omega) (ne_of_len (by have := NUM.out; omega)) (ne_of_len (by have := NUM.out; omega)) QF.out.2.1 QF.out.2.2.2.1 QF.out.2.2.2.2.2.1 (by have h1 := NUM.out; have h2 := HC1.out.1.length_eq; simp at *; omega) (by have h1 := NUM.out; have h2 := HC1.out.1.length_eq; simp at *; omega) (by have h1 := NUM.out; have h2 := HC1.out.1.length_eq; simp at *; omega) wr (HSB.out.as (by simp))
              have HC : Hid _ := hc
              clear hc
              repeat (first | go_values | go_skip | go_guarded | go_step | go_upon)
              go_at_call 58
              refine Calls.mono HC.out ?_
              rintro e wC ⟨rfl, C2, hC2p, hC2s, hsC⟩
              have HF : Hid (∃ C, C.Perm (A ++ B) ∧ Srt r C ∧ Sw w0 g n cap lo hi (P ++ C ++ S) wC) := show ∃ C, C.Perm (A ++ B) ∧ Srt r C ∧ Sw w0 g n cap lo hi (P ++ C ++ S) wC from ⟨C1 ++ C2, FIN.out C1 C2 HC1.out.1 hC2p, sym_fin QF.out.2.2.2.2.2.2 HC1.out.1 hC2p HC1.out.2 hC2s, hsC.as (by simp)⟩
              clear hsC HC HSB hC2p hC2s
              dsimp only
              repeat (first | go_values | go_skip | go_guarded | go_step | go_upon)
              go_end0
              exact ⟨rfl, HF.out⟩
        · by_cases c2 : s < mid
          · have NUM : Hid (_ ∧ ¬ s < m ∧ s < mid) := show _ ∧ _ from ⟨NUM.out, c1, c2⟩
            clear c1 c2
            have t1 : decide (((s : Nat) : Int) < ((m : Nat) : Int)) = false := decide_eq_false (by have := NUM.out; omega)
            have t1' : decide (s < m) = false := decide_eq_false (by have := NUM.out; omega)
            have t3 : decide (((a : Nat) : Int) < ((s : Nat) : Int)) = true := decide_eq_true (by have := NUM.out; omega)
            have t3' : decide (a < s) = true := decide_eq_true (by have := NUM.out; omega)
            have t4 : decide (((s : Nat) : Int) < ((mid : Nat) : Int)) = true := decide_eq_true (by have := NUM.out; omega)
            have t4' : decide (s < mid) = true := decide_eq_true (by have := NUM.out; omega)
            have t5 : decide (((mid : Nat) : Int) < ((en : Nat) : Int)) = false := decide_eq_false (by have := NUM.out; omega)
            have t5' : decide (mid < en) = false := decide_eq_false (by have := NUM.out; omega)
            have HSA : Hid (Sw w0 g n cap lo hi (P ++ A1 ++ B1 ++ A2 ++ B2 ++ S) wr) := HS0.out.as (by rw [nil_of_len (l := A2) (by have := NUM.out; omega)]; simp)
            clear HS0
            have hc := HIH.out P A1 B1 (A2 ++ B2 ++ S) a s mid (by have := NUM.out; omega) (ne_of_len (by have := NUM.out; omega)) (ne_of_len (by have := NUM.out; omega)) QF.out.1 QF.out.2.2.1 QF.out.2.2.2.2.1 (by have := NUM.out; omega) (by have := NUM.out; omega) (by have := NUM.out; omega) wr (HSA.out.as (by simp))
            have HC : Hid _ := hc
            clear hc
            repeat (first | go_values | go_skip | go_guarded | go_step | go_upon)
            go_at_call 58
            refine Calls.mono HC.out ?_
            rintro e wB ⟨rfl, C1, hC1p, hC1s, hsB⟩
            have HSB : Hid (Sw w0 g n cap lo hi (P ++ C1 ++ A2 ++ B2 ++ S) wB) := hsB.as (by simp)
            have HC1 : Hid (C1.Perm (A1 ++ B1) ∧ Srt r C1) := show C1.Perm (A1 ++ B1) ∧ Srt r C1 from ⟨hC1p, hC1s⟩
            clear hsB HC HSA hC1p hC1s
            dsimp only
            have HF : Hid (∃ C, C.Perm (A ++ B) ∧ Srt r C ∧ Sw w0 g n cap lo hi (P ++ C ++ S) wB) := show ∃ C, C.Perm (A ++ B) ∧ Srt r C ∧ Sw w0 g n cap lo hi (P ++ C ++ S) wB from ⟨C1 ++ (A2 ++ B2), FIN.out C1 (A2 ++ B2) HC1.out.1 (List.Perm.refl _), sym_fin QF.out.2.2.2.2.2.2 HC1.out.1 (List.Perm.refl _) HC1.out.2 (by rw [nil_of_len (l := A2) (by have := NUM.out; omega)]; simpa using QF.out.2.2.2.1), HSB.out.as (by simp)⟩
            clear HSB
            repeat (first | go_values | go_skip | go_guarded | go_step | go_upon)
            go_end0
            exact ⟨rfl, HF.out⟩
          · have NUM : Hid (_ ∧ ¬ s < m ∧ ¬ s < mid) := show _ ∧ _ from ⟨NUM.out, c1, c2⟩
            clear c1 c2
            have t1 : decide (((s : Nat) : Int) < ((m : Nat) : Int)) = false := decide_eq_false (by have := NUM.out; omega)
            have t1' : decide (s < m) = false := decide_eq_false (by have := NUM.out; omega)
            have t3 : decide (((a : Nat) : Int) < ((s : Nat) : Int)) = true := decide_eq_true (by have := NUM.out; omega)
            have t3' : decide (a < s) = true := decide_eq_true (by have := NUM.out; omega)
            have t4 : decide (((s : Nat) : Int) < ((mid : Nat) : Int)) = false := decide_eq_false (by have := NUM.out; omega)
            have t4' : decide (s < mid) = false := decide_eq_false (by have := NUM.out; omega)
            have t5 : decide (((mid : Nat) : Int) < ((en : Nat) : Int)) = false := decide_eq_false (by have := NUM.out; omega)
            have t5' : decide (mid < en) = false := decide_eq_false (by have := NUM.out; omega)
            have HSA : Hid (Sw w0 g n cap lo hi (P ++ A1 ++ B1 ++ A2 ++ B2 ++ S) wr) := HS0.out.as (by rw [nil_of_len (l := A2) (by have := NUM.out; omega)]; simp)
            clear HS0
            obtain ⟨C1, hC1⟩ : ∃ C, A1 ++ B1 = C := ⟨_, rfl⟩
            have HC1 : Hid (C1.Perm (A1 ++ B1) ∧ Srt r C1) := show C1.Perm (A1 ++ B1) ∧ Srt r C1 from ⟨by rw [hC1], by rw [← hC1, nil_of_len (l := B1) (by have := NUM.out; omega)]; simpa using QF.out.1⟩
            have HSB : Hid (Sw w0 g n cap lo hi (P ++ C1 ++ A2 ++ B2 ++ S) wr) := HSA.out.as (by rw [← hC1]; simp)
            clear HSA hC1
            have HF : Hid (∃ C, C.Perm (A ++ B) ∧ Srt r C ∧ Sw w0 g n cap lo hi (P ++ C ++ S) wr) := show ∃ C, C.Perm (A ++ B) ∧ Srt r C ∧ Sw w0 g n cap lo hi (P ++ C ++ S) wr from ⟨C1 ++ (A2 ++ B2), FIN.out C1 (A2 ++ B2) HC1.out.1 (List.Perm.refl _), sym_fin QF.out.2.2.2.2.2.2 HC1.out.1 (List.Perm.refl _) HC1.out.2 (by rw [nil_of_len (l := A2) (by have := NUM.out; omega)]; simpa using QF.out.2.2.2.1), HSB.out.as (by simp)⟩
            clear HSB
            repeat (first | go_values | go_skip | go_guarded | go_step | go_upon)
            go_end0
            exact ⟨rfl, HF.out⟩

end Go.Proofs.Ytaofilinejanjaa
