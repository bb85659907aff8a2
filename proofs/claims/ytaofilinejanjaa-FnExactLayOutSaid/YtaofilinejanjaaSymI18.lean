/-
  slices.insertionSortCmpFunc.
-/
import Derived.Test.YtaofilinejanjaaSymR18
import Derived.Test.YtaofilinejanjaaQuiet
namespace Go.Proofs.Ytaofilinejanjaa
open Go.ChangeShapes Go.WideShapes Go.ChangeAt Go.RowKit

set_option maxRecDepth 100000
set_option linter.unusedVariables false

/-- What the closure answers that says which of two comes first. -/
def CmpC (w0 : World) (g n Bx : Nat) (r : Int → Int) : Prop := ∀ x y : Int, (0 ≤ x ∧ x < (n : Int)) → (0 ≤ y ∧ y < (n : Int)) → ∃ c : Int, (c < 0 ↔ r y < r x) ∧ ∀ W : World, But g (g + 1) w0 W → Calls Try.prog 53 #[.int .i64 x, .int .i64 y, .pointer (some ⟨Bx, 0, none⟩)] W fun e W' => e = .returned (.int .i64 c) ∧ Kept W W'
theorem CmpC.kw {w0 W : World} {g n Bx : Nat} {r : Int → Int} (h : CmpC w0 g n Bx r) {x y : Int} (hx : 0 ≤ x ∧ x < (n : Int)) (hy : 0 ≤ y ∧ y < (n : Int)) (hb : But g (g + 1) w0 W) : ∃ c : Int, (c < 0 ↔ r y < r x) ∧ ∀ X : KW W, Calls Try.prog 53 #[.int .i64 x, .int .i64 y, .pointer (some ⟨Bx, 0, none⟩)] X.w fun e W' => e = .returned (.int .i64 c) ∧ Kept X.w W' := by
  obtain ⟨c, h1, h2⟩ := h x y hx hy
  exact ⟨c, h1, fun X => h2 X.w (hb.transK X.k)⟩

theorem srt_ins {r : Int → Int} {U V : List Int} {x : Int} (h : Srt r (U ++ V)) (h1 : ∀ u ∈ U, bef r u x) (h2 : ∀ v ∈ V, bef r x v) : Srt r (U ++ x :: V) := by
  have h := List.pairwise_append.1 h
  refine List.pairwise_append.2 ⟨h.1, List.pairwise_cons.2 ⟨h2, h.2.1⟩, fun a ha b hb => ?_⟩
  rcases List.mem_cons.1 hb with rfl | hb
  · exact h1 a ha
  · exact h.2.2 a ha b hb
theorem srt_last {r : Int → Int} {U : List Int} {u x : Int} (h : Srt r (U ++ [u])) (hu : bef r u x) : ∀ v ∈ U ++ [u], bef r v x := by
  have h := List.pairwise_append.1 h
  intro v hv
  rcases List.mem_append.1 hv with hv | hv
  · exact bef_trans (h.2.2 v hv u (by simp)) hu
  · simp only [List.mem_singleton] at hv
    subst hv
    exact hu

set_option maxHeartbeats 16000000 in
theorem iins (w0 : World) (g n cap lo hi Bx : Nat) (r : Int → Int) (P Q S : List Int) (hQ : Q.Pairwise (· < ·)) (a b : Nat) (ha : P.length = a) (hb : P.length + Q.length = b) (hn : n ≤ 1048576) (hcm : CmpC w0 g n Bx r) (W : World) (h : Sw w0 g n cap lo hi (P ++ Q ++ S) W) :
    Calls Try.prog 57 #[.slice (some ⟨g, 0, none⟩) n cap, .int .i64 (a : Int), .int .i64 (b : Int), (.func (.func 53) #[] #[.pointer (some ⟨Bx, 0, none⟩)])] W fun e W' => e = .returned (.tuple #[]) ∧ ∃ Q', Q'.Perm Q ∧ Srt r Q' ∧ Sw w0 g n cap lo hi (P ++ Q' ++ S) W' := by
  have hlen := h.len
  simp only [List.length_append] at hlen
  have hab : a ≤ b ∧ b ≤ n := by omega
  obtain ⟨hab, hbn⟩ := hab
  have HAB : Hid (P.length = a ∧ P.length + Q.length = b) := show P.length = a ∧ P.length + Q.length = b from ⟨ha, hb⟩
  have HCM : Hid (CmpC w0 g n Bx r) := hcm
  have HQ : Hid (Q.Pairwise (· < ·)) := hQ
  have w1 : IntKind.i64.wrap ((a : Int) + 1) = ((a + 1 : Nat) : Int) := by rw [IntWalk.i64_in _ (by omega)]; omega
  clear ha hb hlen hcm hQ
  go_enter Try.func57, Try.ntmps57
  go_wp2
  clear w1
  go_loopw [8, 9] (fun iv jv wr => ∃ (i : Nat) (Q1 Q2 Q1' : List Int), iv = .int .i64 (i : Int) ∧ Hid (Q = Q1 ++ Q2 ∧ Q1'.Perm Q1 ∧ Srt r Q1' ∧ (Q2 ≠ [] → a + Q1.length = i) ∧ (Q2 = [] → b ≤ i)) ∧ i ≤ b + 1 ∧ Sw w0 g n cap lo hi (P ++ Q1' ++ Q2 ++ S) wr) (fun iv jv _ => b + 1 - (intOf iv).toNat)
  case atStart =>
    cases Q with
    | nil => exact ⟨a + 1, [], [], [], by go_num, (show ([] : List Int) = [] ++ [] ∧ [].Perm [] ∧ Srt r [] ∧ (([] : List Int) ≠ [] → a + [].length = a + 1) ∧ (([] : List Int) = [] → b ≤ a + 1) from ⟨rfl, List.Perm.refl _, List.Pairwise.nil, fun h => absurd rfl h, fun _ => by have := HAB.out; simp at this; omega⟩), by omega, h.as (by simp)⟩
    | cons q Q => exact ⟨a + 1, [q], Q, [q], by go_num, (show q :: Q = [q] ++ Q ∧ [q].Perm [q] ∧ Srt r [q] ∧ (Q ≠ [] → a + [q].length = a + 1) ∧ (Q = [] → b ≤ a + 1) from ⟨rfl, List.Perm.refl _, List.pairwise_singleton _ _, fun _ => rfl, fun e => by subst e; have := HAB.out; simp at this; omega⟩), by have := HAB.out; simp at this; omega, h.as (by simp)⟩
  case round =>
    obtain ⟨i, Q1, Q2, Q1', rfl, HE, hib, hs⟩ := hrel
    cases Q2 with
    | nil =>
      obtain ⟨e1, e2, e3, _, e5⟩ := HE.out
      have d0 : decide ((i : Int) < (b : Int)) = false := decide_eq_false (by have := e5 rfl; omega)
      have d0' : decide (i < b) = false := decide_eq_false (by have := e5 rfl; omega)
      have HF : Hid (∃ Q', Q'.Perm Q ∧ Srt r Q' ∧ Sw w0 g n cap lo hi (P ++ Q' ++ S) wr) := show ∃ Q', Q'.Perm Q ∧ Srt r Q' ∧ Sw w0 g n cap lo hi (P ++ Q' ++ S) wr from ⟨Q1', by rw [e1, List.append_nil]; exact e2, e3, hs.as (by simp)⟩
      clear e1 e2 e3 e5 hs HE
      repeat (first | go_values | go_skip | go_guarded | go_step | go_upon)
      go_end0
      exact ⟨rfl, HF.out⟩
    | cons x Q2 =>
      obtain ⟨e1, e2, e3, e4, _⟩ := HE.out
      have hi1 := e4 (by simp)
      have hql := congrArg List.length e1
      simp only [List.length_append, List.length_cons] at hql
      have hil : i < b := by have := HAB.out; omega
      have d0 : decide ((i : Int) < (b : Int)) = true := decide_eq_true (by omega)
      have d0' : decide (i < b) = true := decide_eq_true (by omega)
      have hxr : 0 ≤ x ∧ x < (n : Int) := hs.rng x (by simp)
      have hlt : ∀ u ∈ Q1', u < x := fun u hu => by
        have h1 := HQ.out
        rw [e1, List.pairwise_append] at h1
        exact h1.2.2 u (e2.mem_iff.1 hu) x (by simp)
      have hQl : Q1'.length = Q1.length := e2.length_eq
      have HX : Hid (Q = Q1 ++ x :: Q2 ∧ Q1'.Perm Q1 ∧ Srt r Q1' ∧ (∀ u ∈ Q1', u < x) ∧ a + Q1'.length = i) := show Q = Q1 ++ x :: Q2 ∧ Q1'.Perm Q1 ∧ Srt r Q1' ∧ (∀ u ∈ Q1', u < x) ∧ a + Q1'.length = i from ⟨e1, e2, e3, hlt, by omega⟩
      have HS0 : Hid (Sw w0 g n cap lo hi (P ++ Q1' ++ x :: Q2 ++ S) wr) := hs
      clear e1 e2 e3 e4 hlt hs hql HE hi1 hQl
      repeat (first | go_values | go_skip | go_guarded | go_step | go_upon)
      rename World => wo
      go_loopw [9] (fun jv wr => ∃ (j : Nat) (U V : List Int), jv = .int .i64 (j : Int) ∧ Hid (Q1' = U ++ V ∧ (∀ v ∈ V, bef r x v) ∧ a + U.length = j) ∧ a ≤ j ∧ j ≤ i ∧ Sw w0 g n cap lo hi (P ++ U ++ x :: V ++ Q2 ++ S) wr) (fun jv _ => (intOf jv).toNat)
      case atStart => exact ⟨i, Q1', [], rfl, (show Q1' = Q1' ++ [] ∧ (∀ v ∈ ([] : List Int), bef r x v) ∧ a + Q1'.length = i from ⟨by simp, fun v hv => absurd hv (by simp), HX.out.2.2.2.2⟩), by have := HX.out.2.2.2.2; omega, Nat.le_refl _, HS0.out.as (by simp)⟩
      case round =>
        obtain ⟨j, U, V, rfl, HE, haj, hji, hs⟩ := hrel
        clear HS0
        have NEXT : Hid (Srt r (U ++ x :: V) → Srt r (U ++ x :: V) ∧ Q = (Q1 ++ [x]) ++ Q2 ∧ (U ++ x :: V).Perm (Q1 ++ [x]) ∧ (Q2 ≠ [] → a + (Q1 ++ [x]).length = i + 1) ∧ (Q2 = [] → b ≤ i + 1)) := fun h1 => by
          obtain ⟨x1, x2, x3, x4, x5⟩ := HX.out
          have hq1 : Q1'.length = Q1.length := x2.length_eq
          refine ⟨h1, by rw [x1]; simp, ?_, fun _ => by rw [List.length_append]; simp; omega, fun e => ?_⟩
          · have h2 : (U ++ x :: V).Perm (x :: (U ++ V)) := List.perm_middle
            rw [← HE.out.1] at h2
            exact h2.trans ((List.Perm.cons x x2).trans (List.perm_append_singleton x Q1).symm)
          · subst e
            have := congrArg List.length x1
            have := HAB.out
            simp at *
            omega
        rcases List.eq_nil_or_concat U with hU | ⟨U', u, hU⟩
        · subst hU
          have hja : j = a := by have := HE.out.2.2; simp at this; omega
          have d1 : decide ((a : Int) < (j : Int)) = false := decide_eq_false (by omega)
          have d1' : decide (a < j) = false := decide_eq_false (by omega)
          have hsr : Srt r ([] ++ x :: V) := srt_ins (U := []) (by have := HX.out.2.2.1; rw [HE.out.1] at this; exact this) (fun u hu => absurd hu (by simp)) HE.out.2.1
          have HN := NEXT.out hsr
          have HNH : Hid (Q = (Q1 ++ [x]) ++ Q2 ∧ (x :: V).Perm (Q1 ++ [x]) ∧ Srt r (x :: V) ∧ (Q2 ≠ [] → a + (Q1 ++ [x]).length = i + 1) ∧ (Q2 = [] → b ≤ i + 1)) := show Q = (Q1 ++ [x]) ++ Q2 ∧ (x :: V).Perm (Q1 ++ [x]) ∧ Srt r (x :: V) ∧ (Q2 ≠ [] → a + (Q1 ++ [x]).length = i + 1) ∧ (Q2 = [] → b ≤ i + 1) from ⟨HN.2.1, HN.2.2.1, HN.1, HN.2.2.2.1, HN.2.2.2.2⟩
          have HS : Hid (Sw w0 g n cap lo hi (P ++ (x :: V) ++ Q2 ++ S) wr) := hs.as (by simp)
          have AC : Hid True := trivial
          clear HN hsr hs HE NEXT hja
          repeat (first | go_values | go_skip | go_guarded | go_step | go_upon)
          refine wp_region_kept (by kernel_rfl) (by kernel_rfl) ?_
          have hcc := @KW.cell_eq
          repeat (go_big_quiet_step (first | (go_at_call 53; with_reducible exact kw_call (AC.out _)) | fail))
          refine wpQuiet_nil ?_
          rintro w5 ⟨⟨w8, k5⟩, h9⟩
          change w5 = w8 at h9
          subst h9
          clear hcc
          repeat (first | go_values | go_skip | go_guarded | go_step | go_upon)
          exact ⟨⟨i + 1, Q1 ++ [x], Q2, x :: V, by go_num, HNH, by omega, HS.out.kept k5⟩, by simp [intOf]; omega⟩
        · rw [List.concat_eq_append] at hU
          subst hU
          obtain ⟨j', hj'⟩ : ∃ j', j = j' + 1 := ⟨j - 1, by have := HE.out.2.2; simp at this; omega⟩
          have hul : (P ++ U').length = j' := by have := HE.out.2.2; have := HAB.out; simp at *; omega
          have hf : P ++ (U' ++ [u]) ++ x :: V ++ Q2 ++ S = (P ++ U') ++ u :: ([] ++ x :: (V ++ Q2 ++ S)) := by simp
          have hs2 := hs.as hf
          have hur : 0 ≤ u ∧ u < (n : Int) := hs.rng u (by simp)
          obtain ⟨c, hc1, hc2⟩ := HCM.out.kw hxr hur hs.but
          obtain ⟨f1, z1, y1⟩ := hs2.cell (at_first _ _ _)
          obtain ⟨f2, z2, y2⟩ := hs2.cell (at_second _ _ _ _ _)
          obtain ⟨f3, hfin⟩ := hs2.down
          rw [List.length_nil, Nat.add_zero, hul] at f2 z2 y2 f3 hfin
          rw [hul] at f1 z1 y1
          have hgw : g < wr.heap.size := World.block_lt_of_cell? _ _ f1
          have haj2 : a < j' + 1 := by have := HE.out.2.2; simp at this; omega
          have AC : Hid (∀ X : KW wr, Calls Try.prog 53 #[.int .i64 x, .int .i64 u, .pointer (some ⟨Bx, 0, none⟩)] X.w fun e W' => e = .returned (.int .i64 c) ∧ Kept X.w W') := hc2
          subst hj'
          have d1 : decide ((a : Int) < ((j' + 1 : Nat) : Int)) = true := decide_eq_true (by omega)
          have d1' : decide (a < j' + 1) = true := decide_eq_true haj2
          have ej : IntKind.i64.wrap (((j' + 1 : Nat) : Int) - 1) = (j' : Int) := by rw [IntWalk.i64_in _ (by omega)]; omega
          have q1 : (0 : Int) ≤ (j' : Int) := by omega
          have q2 : (0 : Int) ≤ ((j' + 1 : Nat) : Int) := by omega
          have HUX : Hid (r u < r x → ∀ v ∈ u :: V, bef r x v) := fun h v hv => by
            rcases List.mem_cons.1 hv with rfl | hv
            · exact .inl h
            · exact HE.out.2.1 v hv
          have HUN : Hid (¬ r u < r x → Srt r ((U' ++ [u]) ++ x :: V)) := fun h => by
            have hsq := HX.out.2.2.1
            rw [HE.out.1] at hsq
            have hux : u < x := HX.out.2.2.2.1 u (by rw [HE.out.1]; simp)
            have hbu : bef r u x := by unfold bef; omega
            exact srt_ins hsq (srt_last (List.pairwise_append.1 hsq).1 hbu) HE.out.2.1
          have HQU : Hid (Q1' = U' ++ (u :: V) ∧ a + U'.length = j') := show Q1' = U' ++ (u :: V) ∧ a + U'.length = j' from ⟨by rw [HE.out.1]; simp, by have := HE.out.2.2; simp at this; omega⟩
          have HS : Hid (Sw w0 g n cap lo hi (P ++ (U' ++ [u]) ++ x :: V ++ Q2 ++ S) wr) := hs
          have HFN : Hid (Sw w0 g n cap lo hi (P ++ U' ++ x :: (u :: V) ++ Q2 ++ S) ((wr.setCell ⟨g, j' + 1, none⟩ (.int .i64 u)).setCell ⟨g, j', none⟩ (.int .i64 x))) := hfin.as (by simp)
          have hjn : j' + 1 ≤ 1048576 := by omega
          have jp : ((j' + 1 : Nat) : Int) = (j' : Int) + 1 := by omega
          rw [jp] at d1 ej q2 y2
          clear hs hs2 hf hfin hc2 HE hul jp hur
          by_cases hcc : c < 0
          · have dc : decide (c < 0) = true := decide_eq_true hcc
            have HV := HUX.out (hc1.1 hcc)
            have HVH : Hid (Q1' = U' ++ (u :: V) ∧ (∀ v ∈ u :: V, bef r x v) ∧ a + U'.length = j') := show Q1' = U' ++ (u :: V) ∧ (∀ v ∈ u :: V, bef r x v) ∧ a + U'.length = j' from ⟨HQU.out.1, HV, HQU.out.2⟩
            clear hcc hc1 HV HUX HUN NEXT
            have F1 : Hid (wr.cell? ⟨g, j', none⟩ = some (.int .i64 u)) := f1
            repeat (first | go_values | go_skip | go_guarded | go_step | go_upon)
            refine wp_region_kept (by kernel_rfl) (by kernel_rfl) ?_
            have hcc := @KW.cell_eq
            repeat (go_big_quiet_step (first | (go_at_call 53; with_reducible exact kw_call (AC.out _)) | fail))
            refine wpQuiet_nil ?_
            rintro w5 ⟨⟨w8, k5⟩, h9⟩
            change w5 = w8 at h9
            subst h9
            clear hcc
            repeat (first | go_values | go_skip | go_guarded | go_step | go_upon)
            have f1 := Kept.cell k5 f1
            have f2 := Kept.cell k5 f2
            have hs5 := HS.out.kept k5
            have hf : P ++ (U' ++ [u]) ++ x :: V ++ Q2 ++ S = (P ++ U') ++ u :: ([] ++ x :: (V ++ Q2 ++ S)) := by simp
            have hul : (P ++ U').length = j' := by have := HQU.out.2; have := HAB.out; simp; omega
            have hs2 := hs5.as hf
            obtain ⟨_, z1, _⟩ := hs2.cell (at_first _ _ _)
            obtain ⟨_, z2, _⟩ := hs2.cell (at_second _ _ _ _ _)
            obtain ⟨f3, hfin⟩ := hs2.down
            rw [List.length_nil, Nat.add_zero, hul] at z2 f3 hfin
            rw [hul] at z1
            have HFN : Hid (Sw w0 g n cap lo hi (P ++ U' ++ x :: (u :: V) ++ Q2 ++ S) ((w5.setCell ⟨g, j' + 1, none⟩ (.int .i64 u)).setCell ⟨g, j', none⟩ (.int .i64 x))) := hfin.as (by simp)
            clear hs5 hf hul hs2 hfin HS k5 dc d1 d1'
            repeat (first | go_values | go_skip | go_guarded | go_step | go_upon)
            go_big_region
            repeat (first | go_values | go_skip | go_guarded | go_step | go_upon)
            exact ⟨⟨j', U', u :: V, by go_num, HVH, by omega, by omega, HFN.out.kept ((But.refl _ _ _).drew)⟩, by simp [intOf]⟩
          · have dc : decide (c < 0) = false := decide_eq_false hcc
            have hsr := HUN.out (fun h => hcc (hc1.2 h))
            have HN := NEXT.out hsr
            have HNH : Hid (Q = (Q1 ++ [x]) ++ Q2 ∧ ((U' ++ [u]) ++ x :: V).Perm (Q1 ++ [x]) ∧ Srt r ((U' ++ [u]) ++ x :: V) ∧ (Q2 ≠ [] → a + (Q1 ++ [x]).length = i + 1) ∧ (Q2 = [] → b ≤ i + 1)) := show Q = (Q1 ++ [x]) ++ Q2 ∧ ((U' ++ [u]) ++ x :: V).Perm (Q1 ++ [x]) ∧ Srt r ((U' ++ [u]) ++ x :: V) ∧ (Q2 ≠ [] → a + (Q1 ++ [x]).length = i + 1) ∧ (Q2 = [] → b ≤ i + 1) from ⟨HN.2.1, HN.2.2.1, HN.1, HN.2.2.2.1, HN.2.2.2.2⟩
            clear hcc hc1 HN hsr HUX HUN NEXT
            repeat (first | go_values | go_skip | go_guarded | go_step | go_upon)
            refine wp_region_kept (by kernel_rfl) (by kernel_rfl) ?_
            have hcc := @KW.cell_eq
            repeat (go_big_quiet_step (first | (go_at_call 53; with_reducible exact kw_call (AC.out _)) | fail))
            refine wpQuiet_nil ?_
            rintro w5 ⟨⟨w8, k5⟩, h9⟩
            change w5 = w8 at h9
            subst h9
            clear hcc
            repeat (first | go_values | go_skip | go_guarded | go_step | go_upon)
            exact ⟨⟨i + 1, Q1 ++ [x], Q2, (U' ++ [u]) ++ x :: V, by go_num, HNH, by omega, (HS.out.kept k5).as (by simp)⟩, by simp [intOf]; omega⟩

end Go.Proofs.Ytaofilinejanjaa
