/-
  slices.symMergeCmpFunc where the first list has one element.
-/
import Derived.Test.YtaofilinejanjaaSymQ18
namespace Go.Proofs.Ytaofilinejanjaa
open Go.ChangeShapes Go.WideShapes Go.ChangeAt Go.RowKit

set_option maxRecDepth 100000
set_option linter.unusedVariables false

set_option maxHeartbeats 16000000 in
theorem isymL (w0 : World) (g n cap lo hi Bx : Nat) (r : Int → Int) (hn : n ≤ 1048576) (hcm : CmpC w0 g n Bx r) (P B S : List Int) (x : Int) (hB : Srt r B) (hAB : ∀ y ∈ B, x < y) (a m b : Nat) (ha : P.length = a) (hm : a + 1 = m) (hb : m + B.length = b) (W : World) (h : Sw w0 g n cap lo hi (P ++ [x] ++ B ++ S) W) :
    Calls Try.prog 58 #[.slice (some ⟨g, 0, none⟩) n cap, .int .i64 (a : Int), .int .i64 (m : Int), .int .i64 (b : Int), (.func (.func 53) #[] #[.pointer (some ⟨Bx, 0, none⟩)])] W fun e W' => e = .returned (.tuple #[]) ∧ ∃ C, C.Perm ([x] ++ B) ∧ Srt r C ∧ Sw w0 g n cap lo hi (P ++ C ++ S) W' := by
  have hlen := h.len
  simp only [List.length_append, List.length_cons, List.length_nil] at hlen
  have hbn : b ≤ n := by omega
  have hmb : m ≤ b := by omega
  have HAB : Hid (P.length = a ∧ a + 1 = m ∧ m + B.length = b) := show P.length = a ∧ a + 1 = m ∧ m + B.length = b from ⟨ha, hm, hb⟩
  have HCM : Hid (CmpC w0 g n Bx r) := hcm
  have HB : Hid (Srt r B) := hB
  have HXB : Hid (∀ y ∈ B, x < y) := hAB
  have hxr : 0 ≤ x ∧ x < (n : Int) := h.rng x (by simp)
  have w1 : IntKind.i64.wrap ((m : Int) - (a : Int)) = 1 := by rw [IntWalk.i64_in _ (by omega)]; omega
  have ham : a < n := by omega
  clear ha hm hb hlen hcm hB hAB
  go_enter Try.func58, Try.ntmps58
  go_wp2
  clear w1
  go_loopw [10, 11] (fun iv jv wr => ∃ (i j : Nat), iv = .int .i64 (i : Int) ∧ jv = .int .i64 (j : Int) ∧ m ≤ i ∧ i ≤ j ∧ j ≤ b ∧ Hid ((∀ k v, k < i - m → B[k]? = some v → r x < r v) ∧ (∀ k v, j - m ≤ k → B[k]? = some v → ¬ r x < r v)) ∧ Sw w0 g n cap lo hi (P ++ [x] ++ B ++ S) wr) (fun iv jv _ => (intOf jv).toNat - (intOf iv).toNat)
  case atStart => exact ⟨m, b, rfl, rfl, Nat.le_refl _, hmb, Nat.le_refl _, (show (∀ k v, k < m - m → B[k]? = some v → r x < r v) ∧ (∀ k v, b - m ≤ k → B[k]? = some v → ¬ r x < r v) from ⟨fun k v hk => by omega, fun k v hk hv => by have := (List.getElem?_eq_some_iff.1 hv).1; have := HAB.out; omega⟩), h⟩
  case round =>
    obtain ⟨i, j, rfl, rfl, hmi, hij, hjb, HI, hs⟩ := hrel
    by_cases hlt : i < j
    · have d0 : decide ((i : Int) < (j : Int)) = true := decide_eq_true (by omega)
      have d0' : decide (i < j) = true := decide_eq_true hlt
      obtain ⟨hh, hhe⟩ : ∃ q, (i + j) / 2 = q := ⟨_, rfl⟩
      have hh1 : m ≤ hh ∧ hh < b ∧ i ≤ hh ∧ hh < j := by omega
      obtain ⟨v, hv⟩ : ∃ v, B[hh - m]? = some v := ⟨_, List.getElem?_eq_getElem (by have := HAB.out; omega)⟩
      have hvr : 0 ≤ v ∧ v < (n : Int) := hs.rng v (by have := List.mem_of_getElem? hv; simp [this])
      obtain ⟨f1, _, y1⟩ := hs.cell (i := hh) (x := v) (by rw [at_in (P ++ [x]) B S hh (hh - m) (by have := HAB.out; simp; omega) (by have := HAB.out; omega)]; exact hv)
      obtain ⟨f2, _, y2⟩ := hs.cell (i := a) (x := x) (by have := HAB.out.1; rw [← this]; simp)
      obtain ⟨c, hc1, hc2⟩ := HCM.out.kw hvr hxr hs.but
      have hgw : g < wr.heap.size := World.block_lt_of_cell? _ _ f1
      have AC : Hid (∀ X : KW wr, Calls Try.prog 53 #[.int .i64 v, .int .i64 x, .pointer (some ⟨Bx, 0, none⟩)] X.w fun e W' => e = .returned (.int .i64 c) ∧ Kept X.w W') := hc2
      have e1 : (((i : Int) + (j : Int)) / 2) = (hh : Int) := by omega
      have HHE : Hid ((i + j) / 2 = hh) := hhe
      have HS : Hid (Sw w0 g n cap lo hi (P ++ [x] ++ B ++ S) wr) := hs
      have q1 : (0 : Int) ≤ (hh : Int) := by omega
      have q2 : (0 : Int) ≤ (a : Int) := by omega
      have HY : Hid (r x < r v → ∀ k u, k < hh + 1 - m → B[k]? = some u → r x < r u) := fun h0 k u hk hu => by
        have := srt_le HB.out hu hv (by omega)
        omega
      have HN : Hid (¬ r x < r v → ∀ k u, hh - m ≤ k → B[k]? = some u → ¬ r x < r u) := fun h0 k u hk hu => by
        have := srt_le HB.out hv hu hk
        omega
      obtain ⟨hh1, hh2, hh3, hh4⟩ := hh1
      have hib : i ≤ 1048576 ∧ j ≤ 1048576 := by omega
      obtain ⟨hib1, hib2⟩ := hib
      clear hs hv hvr hc2 h
      by_cases hcc : c < 0
      · have dc : decide (c < 0) = true := decide_eq_true hcc
        have HI2 : Hid ((∀ k v, k < hh + 1 - m → B[k]? = some v → r x < r v) ∧ (∀ k v, j - m ≤ k → B[k]? = some v → ¬ r x < r v)) := show (∀ k v, k < hh + 1 - m → B[k]? = some v → r x < r v) ∧ (∀ k v, j - m ≤ k → B[k]? = some v → ¬ r x < r v) from ⟨HY.out (hc1.1 hcc), HI.out.2⟩
        clear hcc hc1 HY HN HI
        clear hhe
        repeat (first | go_values | go_skip | go_guarded | go_step | go_upon)
        refine wp_region_kept (by kernel_rfl) (by kernel_rfl) ?_
        have hcc := @KW.cell_eq
        repeat (go_big_quiet_step (first | (go_at_call 53; with_reducible exact kw_call (AC.out _)) | fail))
        refine wpQuiet_nil ?_
        rintro w5 ⟨⟨w8, k5⟩, h9⟩
        change w5 = w8 at h9
        subst h9
        clear hcc
        repeat (first | go_values | go_skip | go_guarded | go_step | go_upon)
        exact ⟨⟨hh + 1, j, by go_num, rfl, by omega, by omega, hjb, HI2, HS.out.kept k5⟩, by simp [intOf]; omega⟩
      · have dc : decide (c < 0) = false := decide_eq_false hcc
        have HI2 : Hid ((∀ k v, k < i - m → B[k]? = some v → r x < r v) ∧ (∀ k v, hh - m ≤ k → B[k]? = some v → ¬ r x < r v)) := show (∀ k v, k < i - m → B[k]? = some v → r x < r v) ∧ (∀ k v, hh - m ≤ k → B[k]? = some v → ¬ r x < r v) from ⟨HI.out.1, HN.out (fun h0 => hcc (hc1.2 h0))⟩
        clear hcc hc1 HY HN HI
        clear hhe
        repeat (first | go_values | go_skip | go_guarded | go_step | go_upon)
        refine wp_region_kept (by kernel_rfl) (by kernel_rfl) ?_
        have hcc := @KW.cell_eq
        repeat (go_big_quiet_step (first | (go_at_call 53; with_reducible exact kw_call (AC.out _)) | fail))
        refine wpQuiet_nil ?_
        rintro w5 ⟨⟨w8, k5⟩, h9⟩
        change w5 = w8 at h9
        subst h9
        clear hcc
        repeat (first | go_values | go_skip | go_guarded | go_step | go_upon)
        exact ⟨⟨i, hh, rfl, rfl, hmi, by omega, by omega, HI2, HS.out.kept k5⟩, by simp [intOf]; omega⟩
    · have hje : j = i := by omega
      subst hje
      have d0 : decide ((j : Int) < (j : Int)) = false := decide_eq_false (by omega)
      have w2 : IntKind.i64.wrap ((j : Int) - 1) = ((j - 1 : Nat) : Int) := by have := HAB.out; rw [IntWalk.i64_in _ (by omega)]; omega
      obtain ⟨t, ht⟩ : ∃ t, j - m = t := ⟨_, rfl⟩
      obtain ⟨hI1, hI2⟩ := HI.out
      rw [ht] at hI1 hI2
      have hB12 : B = B.take t ++ B.drop t := (List.take_append_drop _ _).symm
      have hB1l : (B.take t).length = t := by rw [List.length_take]; have := HAB.out; omega
      have hC : Srt r (B.take t ++ x :: B.drop t) := srt_ins (by rw [List.take_append_drop]; exact HB.out) (fun u hu => .inl (take_all (Q := fun u => r x < r u) hI1 u hu)) (fun v hv => by
        have h1 := drop_all (Q := fun u => ¬ r x < r u) hI2 v hv
        have h2 := HXB.out v (List.mem_of_mem_drop hv)
        unfold bef
        omega)
      have hP : (B.take t ++ x :: B.drop t).Perm ([x] ++ B) := by
        have h1 : (B.take t ++ x :: B.drop t).Perm (x :: (B.take t ++ B.drop t)) := List.perm_middle
        rw [List.take_append_drop] at h1
        exact h1
      have HS : Hid (Sw w0 g n cap lo hi (P ++ [x] ++ (B.take t ++ B.drop t) ++ S) wr) := by
        have e : Sw w0 g n cap lo hi (P ++ [x] ++ (B.take t ++ B.drop t) ++ S) wr := hs.as (by rw [List.take_append_drop])
        exact e
      have HC : Hid (Srt r (B.take t ++ x :: B.drop t) ∧ (B.take t ++ x :: B.drop t).Perm ([x] ++ B) ∧ (B.take t).length = t ∧ m + t = j) := show Srt r (B.take t ++ x :: B.drop t) ∧ (B.take t ++ x :: B.drop t).Perm ([x] ++ B) ∧ (B.take t).length = t ∧ m + t = j from ⟨hC, hP, hB1l, by omega⟩
      clear hI1 hI2 hB12 hB1l hC hP hs HI ht h
      generalize B.take t = B1 at *
      generalize B.drop t = B2 at *
      obtain ⟨j1, hj1⟩ : ∃ q, j - 1 = q := ⟨_, rfl⟩
      rw [hj1] at w2
      have HJ1 : Hid (a + B1.length = j1) := show a + B1.length = j1 from by have := HC.out.2.2; have := HAB.out; omega
      have hjn : j ≤ 1048576 := by omega
      have hj1n : j1 ≤ 1048576 := by omega
      clear hj1
      repeat (first | go_values | go_skip | go_guarded | go_step | go_upon)
      rename World => wo
      go_loopw [13] (fun kv wr => ∃ (k : Nat) (U V : List Int), kv = .int .i64 (k : Int) ∧ Hid (B1 = U ++ V ∧ a + U.length = k) ∧ k ≤ j1 ∧ Sw w0 g n cap lo hi (P ++ U ++ x :: V ++ B2 ++ S) wr) (fun kv _ => j1 - (intOf kv).toNat)
      case atStart => exact ⟨a, [], B1, rfl, (show B1 = [] ++ B1 ∧ a + [].length = a from ⟨rfl, rfl⟩), by have := HJ1.out; omega, HS.out.as (by simp)⟩
      case round =>
        obtain ⟨k, U, V, rfl, HE, hkj, hs⟩ := hrel
        clear HS
        cases V with
        | nil =>
          have hk : k = j1 := by have := HE.out; have := HJ1.out; simp at *; have h3 := congrArg List.length this.1; omega
          have d1 : decide ((k : Int) < (j1 : Int)) = false := decide_eq_false (by omega)
          have d1' : decide (k < j1) = false := decide_eq_false (by omega)
          have HF : Hid (∃ C, C.Perm ([x] ++ B) ∧ Srt r C ∧ Sw w0 g n cap lo hi (P ++ C ++ S) wr) := show ∃ C, C.Perm ([x] ++ B) ∧ Srt r C ∧ Sw w0 g n cap lo hi (P ++ C ++ S) wr from ⟨B1 ++ x :: B2, HC.out.2.1, HC.out.1, hs.as (by rw [HE.out.1]; simp)⟩
          clear hs hk
          repeat (first | go_values | go_skip | go_guarded | go_step | go_upon)
          refine bodyPost_ret (results_none rfl _ _ _) rfl ?_
          exact ⟨rfl, HF.out⟩
        | cons y V =>
          have hk : k < j1 := by have h1 := HE.out; have := HJ1.out; have h3 := congrArg List.length h1.1; simp at h3; omega
          have d1 : decide ((k : Int) < (j1 : Int)) = true := decide_eq_true (by omega)
          have d1' : decide (k < j1) = true := decide_eq_true hk
          have hf : P ++ U ++ x :: (y :: V) ++ B2 ++ S = (P ++ U) ++ x :: ([] ++ y :: (V ++ B2 ++ S)) := by simp
          have hs2 := hs.as hf
          have hul : (P ++ U).length = k := by have := HE.out.2; have := HAB.out; simp; omega
          obtain ⟨f1, z1, y1⟩ := hs2.cell (at_first _ _ _)
          obtain ⟨f2, z2, y2⟩ := hs2.cell (at_second _ _ _ _ _)
          obtain ⟨f3, hfin⟩ := hs2.up
          rw [List.length_nil, Nat.add_zero, hul] at f2 z2 y2 f3 hfin
          rw [hul] at f1 z1 y1
          have HF : Hid (Sw w0 g n cap lo hi (P ++ (U ++ [y]) ++ x :: V ++ B2 ++ S) ((wr.setCell ⟨g, k, none⟩ (.int .i64 y)).setCell ⟨g, k + 1, none⟩ (.int .i64 x))) := hfin.as (by simp)
          have HE2 : Hid (B1 = (U ++ [y]) ++ V ∧ a + (U ++ [y]).length = k + 1) := show B1 = (U ++ [y]) ++ V ∧ a + (U ++ [y]).length = k + 1 from ⟨by rw [HE.out.1]; simp, by have := HE.out.2; simp; omega⟩
          have q1 : (0 : Int) ≤ (k : Int) := by omega
          have q2 : (0 : Int) ≤ (k : Int) + 1 := by omega
          have y2' : (k : Int) + 1 < (n : Int) := by omega
          have ek : IntKind.i64.wrap ((k : Int) + 1) = (k : Int) + 1 := IntWalk.i64_in _ (by omega)
          clear hs hs2 hf hfin hul HE
          repeat (first | go_values | go_skip | go_guarded | go_step | go_upon)
          go_big_region
          repeat (first | go_values | go_skip | go_guarded | go_step | go_upon)
          exact ⟨⟨k + 1, U ++ [y], V, by go_num, HE2, by omega, HF.out.kept ((But.refl _ _ _).drew)⟩, by simp [intOf]; omega⟩

end Go.Proofs.Ytaofilinejanjaa
