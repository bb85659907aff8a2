/-
  slices.symMergeCmpFunc where the second list has one element.
-/
import Derived.Test.YtaofilinejanjaaSymQ18
namespace Go.Proofs.Ytaofilinejanjaa
open Go.ChangeShapes Go.WideShapes Go.ChangeAt Go.RowKit

set_option maxRecDepth 100000
set_option linter.unusedVariables false

set_option maxHeartbeats 16000000 in
theorem isymR (w0 : World) (g n cap lo hi Bx : Nat) (r : Int → Int) (hn : n ≤ 1048576) (hcm : CmpC w0 g n Bx r) (P A S : List Int) (y : Int) (hA : Srt r A) (hAB : ∀ x ∈ A, x < y) (a m b : Nat) (ha : P.length = a) (hm : a + A.length = m) (hb : m + 1 = b) (hA2 : A.length ≠ 1) (W : World) (h : Sw w0 g n cap lo hi (P ++ A ++ [y] ++ S) W) :
    Calls Try.prog 58 #[.slice (some ⟨g, 0, none⟩) n cap, .int .i64 (a : Int), .int .i64 (m : Int), .int .i64 (b : Int), (.func (.func 53) #[] #[.pointer (some ⟨Bx, 0, none⟩)])] W fun e W' => e = .returned (.tuple #[]) ∧ ∃ C, C.Perm (A ++ [y]) ∧ Srt r C ∧ Sw w0 g n cap lo hi (P ++ C ++ S) W' := by
  have hlen := h.len
  simp only [List.length_append, List.length_cons, List.length_nil] at hlen
  have hbn : b ≤ n := by omega
  have hmb : m < b := by omega
  have ham : a ≤ m := by omega
  have HAB : Hid (P.length = a ∧ a + A.length = m ∧ m + 1 = b) := show P.length = a ∧ a + A.length = m ∧ m + 1 = b from ⟨ha, hm, hb⟩
  have HCM : Hid (CmpC w0 g n Bx r) := hcm
  have HB : Hid (Srt r A) := hA
  have HXB : Hid (∀ x ∈ A, x < y) := hAB
  have hyr : 0 ≤ y ∧ y < (n : Int) := h.rng y (by simp)
  obtain ⟨al, hal⟩ : ∃ q, A.length = q := ⟨_, rfl⟩
  have w1 : IntKind.i64.wrap ((m : Int) - (a : Int)) = (al : Int) := by rw [IntWalk.i64_in _ (by omega)]; omega
  have dal : ((al : Int) == 1) = false := by simp; omega
  have dal' : (al == 1) = false := by simp; omega
  have w1b : IntKind.i64.wrap ((b : Int) - (m : Int)) = 1 := by rw [IntWalk.i64_in _ (by omega)]; omega
  clear ha hm hb hlen hcm hA hAB hA2 hal
  go_enter Try.func58, Try.ntmps58
  go_wp2
  clear w1 w1b dal dal'
  go_loopw [14, 15] (fun iv jv wr => ∃ (i j : Nat), iv = .int .i64 (i : Int) ∧ jv = .int .i64 (j : Int) ∧ a ≤ i ∧ i ≤ j ∧ j ≤ m ∧ Hid ((∀ k v, k < i - a → A[k]? = some v → ¬ r v < r y) ∧ (∀ k v, j - a ≤ k → A[k]? = some v → r v < r y)) ∧ Sw w0 g n cap lo hi (P ++ A ++ [y] ++ S) wr) (fun iv jv _ => (intOf jv).toNat - (intOf iv).toNat)
  case atStart => exact ⟨a, m, rfl, rfl, Nat.le_refl _, ham, Nat.le_refl _, (show (∀ k v, k < a - a → A[k]? = some v → ¬ r v < r y) ∧ (∀ k v, m - a ≤ k → A[k]? = some v → r v < r y) from ⟨fun k v hk => by omega, fun k v hk hv => by have := (List.getElem?_eq_some_iff.1 hv).1; have := HAB.out; omega⟩), h⟩
  case round =>
    obtain ⟨i, j, rfl, rfl, hmi, hij, hjb, HI, hs⟩ := hrel
    by_cases hlt : i < j
    · have d0 : decide ((i : Int) < (j : Int)) = true := decide_eq_true (by omega)
      have d0' : decide (i < j) = true := decide_eq_true hlt
      obtain ⟨hh, hhe⟩ : ∃ q, (i + j) / 2 = q := ⟨_, rfl⟩
      have hh1 : a ≤ hh ∧ hh < m ∧ i ≤ hh ∧ hh < j := by omega
      obtain ⟨v, hv⟩ : ∃ v, A[hh - a]? = some v := ⟨_, List.getElem?_eq_getElem (by have := HAB.out; omega)⟩
      have hvr : 0 ≤ v ∧ v < (n : Int) := hs.rng v (by have := List.mem_of_getElem? hv; simp [this])
      obtain ⟨f1, _, y1⟩ := hs.cell (i := hh) (x := v) (by rw [show P ++ A ++ [y] ++ S = P ++ A ++ ([y] ++ S) by simp, at_in P A ([y] ++ S) hh (hh - a) (by have := HAB.out; omega) (by have := HAB.out; omega)]; exact hv)
      obtain ⟨f2, _, y2⟩ := hs.cell (i := m) (x := y) (by have h1 := HAB.out; rw [show m = (P ++ A).length by simp; omega]; simp)
      obtain ⟨c, hc1, hc2⟩ := HCM.out.kw hyr hvr hs.but
      have hgw : g < wr.heap.size := World.block_lt_of_cell? _ _ f1
      have AC : Hid (∀ X : KW wr, Calls Try.prog 53 #[.int .i64 y, .int .i64 v, .pointer (some ⟨Bx, 0, none⟩)] X.w fun e W' => e = .returned (.int .i64 c) ∧ Kept X.w W') := hc2
      have e1 : (((i : Int) + (j : Int)) / 2) = (hh : Int) := by omega
      have HS : Hid (Sw w0 g n cap lo hi (P ++ A ++ [y] ++ S) wr) := hs
      have q1 : (0 : Int) ≤ (hh : Int) := by omega
      have q2 : (0 : Int) ≤ (m : Int) := by omega
      have HY : Hid (r v < r y → ∀ k u, hh - a ≤ k → A[k]? = some u → r u < r y) := fun h0 k u hk hu => by
        have := srt_le HB.out hv hu hk
        omega
      have HN : Hid (¬ r v < r y → ∀ k u, k < hh + 1 - a → A[k]? = some u → ¬ r u < r y) := fun h0 k u hk hu => by
        have := srt_le HB.out hu hv (by omega)
        omega
      obtain ⟨hh1, hh2, hh3, hh4⟩ := hh1
      have hib : i ≤ 1048576 ∧ j ≤ 1048576 := by omega
      obtain ⟨hib1, hib2⟩ := hib
      clear hs hv hvr hc2 h
      by_cases hcc : c < 0
      · have dc : decide (c < 0) = true := decide_eq_true hcc
        have HI2 : Hid ((∀ k v, k < i - a → A[k]? = some v → ¬ r v < r y) ∧ (∀ k v, hh - a ≤ k → A[k]? = some v → r v < r y)) := show (∀ k v, k < i - a → A[k]? = some v → ¬ r v < r y) ∧ (∀ k v, hh - a ≤ k → A[k]? = some v → r v < r y) from ⟨HI.out.1, HY.out (hc1.1 hcc)⟩
        clear hcc hc1 HY HN HI
        clear hhe
        repeat (first | go_values | go_skip | go_guarded | go_step | go_upon)
        refine wp_region_kept (by kernel_rfl) (by kernel_rfl) ?_
        have hcc := @KW.cell_eq
        repeat (go_big_quiet_step (first | (go_at_call 53; with_reducible exact kw_call (AC.out _)) | fail))
        refine wpQuiet_nil ?_
        rintro w5 ⟨⟨w8, k5⟩, h9⟩
        change w5 = w8 at h9
        subst h9
        clear hcc
        repeat (first | go_values | go_skip | go_guarded | go_step | go_upon)
        exact ⟨⟨i, hh, rfl, rfl, hmi, by omega, by omega, HI2, HS.out.kept k5⟩, by simp [intOf]; omega⟩
      · have dc : decide (c < 0) = false := decide_eq_false hcc
        have HI2 : Hid ((∀ k v, k < hh + 1 - a → A[k]? = some v → ¬ r v < r y) ∧ (∀ k v, j - a ≤ k → A[k]? = some v → r v < r y)) := show (∀ k v, k < hh + 1 - a → A[k]? = some v → ¬ r v < r y) ∧ (∀ k v, j - a ≤ k → A[k]? = some v → r v < r y) from ⟨HN.out (fun h0 => hcc (hc1.2 h0)), HI.out.2⟩
        clear hcc hc1 HY HN HI
        clear hhe
        repeat (first | go_values | go_skip | go_guarded | go_step | go_upon)
        refine wp_region_kept (by kernel_rfl) (by kernel_rfl) ?_
        have hcc := @KW.cell_eq
        repeat (go_big_quiet_step (first | (go_at_call 53; with_reducible exact kw_call (AC.out _)) | fail))
        refine wpQuiet_nil ?_
        rintro w5 ⟨⟨w8, k5⟩, h9⟩
        change w5 = w8 at h9
        subst h9
        clear hcc
        repeat (first | go_values | go_skip | go_guarded | go_step | go_upon)
        exact ⟨⟨hh + 1, j, by go_num, rfl, by omega, by omega, hjb, HI2, HS.out.kept k5⟩, by simp [intOf]; omega⟩
    · have hje : j = i := by omega
      subst hje
      have d0 : decide ((j : Int) < (j : Int)) = false := decide_eq_false (by omega)
      obtain ⟨t, ht⟩ : ∃ t, j - a = t := ⟨_, rfl⟩
      obtain ⟨hI1, hI2⟩ := HI.out
      rw [ht] at hI1 hI2
      have hB1l : (A.take t).length = t := by rw [List.length_take]; have := HAB.out; omega
      have hB2l : t + (A.drop t).length = A.length := by rw [List.length_drop]; have := HAB.out; omega
      have hC : Srt r (A.take t ++ y :: A.drop t) := srt_ins (by rw [List.take_append_drop]; exact HB.out) (fun u hu => by
        have h1 := take_all (Q := fun u => ¬ r u < r y) hI1 u hu
        have h2 := HXB.out u (List.mem_of_mem_take hu)
        unfold bef
        omega) (fun v hv => .inl (drop_all (Q := fun u => r u < r y) hI2 v hv))
      have hP : (A.take t ++ y :: A.drop t).Perm (A ++ [y]) := by
        have h1 : (A.take t ++ y :: A.drop t).Perm (y :: (A.take t ++ A.drop t)) := List.perm_middle
        rw [List.take_append_drop] at h1
        exact h1.trans (List.perm_append_singleton y A).symm
      have HS : Hid (Sw w0 g n cap lo hi (P ++ (A.take t ++ A.drop t) ++ [y] ++ S) wr) := by
        have e : Sw w0 g n cap lo hi (P ++ (A.take t ++ A.drop t) ++ [y] ++ S) wr := hs.as (by rw [List.take_append_drop])
        exact e
      have HC : Hid (Srt r (A.take t ++ y :: A.drop t) ∧ (A.take t ++ y :: A.drop t).Perm (A ++ [y]) ∧ (A.take t).length = t ∧ a + t = j ∧ t + (A.drop t).length = A.length) := show Srt r (A.take t ++ y :: A.drop t) ∧ (A.take t ++ y :: A.drop t).Perm (A ++ [y]) ∧ (A.take t).length = t ∧ a + t = j ∧ t + (A.drop t).length = A.length from ⟨hC, hP, hB1l, by omega, hB2l⟩
      clear hI1 hI2 hB1l hB2l hC hP hs HI ht h
      generalize A.take t = A1 at *
      generalize A.drop t = A2 at *
      have HJ1 : Hid (j + A2.length = m) := show j + A2.length = m from by have := HC.out.2.2; have := HAB.out; omega
      have hjn : j ≤ 1048576 := by omega
      have hmn : m ≤ 1048576 := by omega
      repeat (first | go_values | go_skip | go_guarded | go_step | go_upon)
      rename World => wo
      go_loopw [17] (fun kv wr => ∃ (k : Nat) (U V : List Int), kv = .int .i64 (k : Int) ∧ Hid (A2 = U ++ V ∧ j + U.length = k) ∧ k ≤ m ∧ j ≤ k ∧ Sw w0 g n cap lo hi (P ++ A1 ++ U ++ y :: V ++ S) wr) (fun kv _ => (intOf kv).toNat)
      case atStart => exact ⟨m, A2, [], rfl, (show A2 = A2 ++ [] ∧ j + A2.length = m from ⟨by simp, HJ1.out⟩), Nat.le_refl _, hjb, HS.out.as (by simp)⟩
      case round =>
        obtain ⟨k, U, V, rfl, HE, hkj, hjk, hs⟩ := hrel
        clear HS
        rcases List.eq_nil_or_concat U with hU | ⟨U', u, hU⟩
        · subst hU
          have hk : k = j := by have := HE.out.2; simp at this; omega
          have d1 : decide ((j : Int) < (k : Int)) = false := decide_eq_false (by omega)
          have d1' : decide (j < k) = false := decide_eq_false (by omega)
          have HF : Hid (∃ C, C.Perm (A ++ [y]) ∧ Srt r C ∧ Sw w0 g n cap lo hi (P ++ C ++ S) wr) := show ∃ C, C.Perm (A ++ [y]) ∧ Srt r C ∧ Sw w0 g n cap lo hi (P ++ C ++ S) wr from ⟨A1 ++ y :: A2, HC.out.2.1, HC.out.1, hs.as (by rw [HE.out.1]; simp)⟩
          clear hs hk
          repeat (first | go_values | go_skip | go_guarded | go_step | go_upon)
          refine bodyPost_ret (results_none rfl _ _ _) rfl ?_
          exact ⟨rfl, HF.out⟩
        · rw [List.concat_eq_append] at hU
          subst hU
          obtain ⟨k', hk'⟩ : ∃ k', k = k' + 1 := ⟨k - 1, by have := HE.out.2; simp at this; omega⟩
          subst hk'
          have hk : j < k' + 1 := by have := HE.out.2; simp at this; omega
          have d1 : decide ((j : Int) < (k' : Int) + 1) = true := decide_eq_true (by omega)
          have d1' : decide (j < k' + 1) = true := decide_eq_true hk
          have hf : P ++ A1 ++ (U' ++ [u]) ++ y :: V ++ S = (P ++ A1 ++ U') ++ u :: ([] ++ y :: (V ++ S)) := by simp
          have hs2 := hs.as hf
          have hul : (P ++ A1 ++ U').length = k' := by have := HE.out.2; have := HAB.out; have := HC.out.2.2; simp at *; omega
          obtain ⟨f1, z1, y1⟩ := hs2.cell (at_first _ _ _)
          obtain ⟨f2, z2, y2⟩ := hs2.cell (at_second _ _ _ _ _)
          obtain ⟨f3, hfin⟩ := hs2.down
          rw [List.length_nil, Nat.add_zero, hul] at f2 z2 y2 f3 hfin
          rw [hul] at f1 z1 y1
          have HF : Hid (Sw w0 g n cap lo hi (P ++ A1 ++ U' ++ y :: (u :: V) ++ S) ((wr.setCell ⟨g, k' + 1, none⟩ (.int .i64 u)).setCell ⟨g, k', none⟩ (.int .i64 y))) := hfin.as (by simp)
          have HE2 : Hid (A2 = U' ++ (u :: V) ∧ j + U'.length = k') := show A2 = U' ++ (u :: V) ∧ j + U'.length = k' from ⟨by rw [HE.out.1]; simp, by have := HE.out.2; simp at this; omega⟩
          have q1 : (0 : Int) ≤ (k' : Int) := by omega
          have q2 : (0 : Int) ≤ (k' : Int) + 1 := by omega
          have y2' : (k' : Int) + 1 < (n : Int) := by omega
          have ek : IntKind.i64.wrap ((k' : Int) + 1 - 1) = (k' : Int) := by rw [IntWalk.i64_in _ (by omega)]; omega
          clear hs hs2 hf hfin hul HE
          repeat (first | go_values | go_skip | go_guarded | go_step | go_upon)
          go_big_region
          repeat (first | go_values | go_skip | go_guarded | go_step | go_upon)
          exact ⟨⟨k', U', u :: V, by go_num, HE2, by omega, by omega, HF.out.kept ((But.refl _ _ _).drew)⟩, by simp [intOf]⟩

end Go.Proofs.Ytaofilinejanjaa
