/-
  PatchOf in the specification.
-/
import Derived.Test.YtipgffikmnebnaaPatQ21
import Derived.Test.YtipgffikmnebnaaCApp21
import Derived.Test.YtipgffikmnebnaaStep21
import Derived.Test.YtipgffikmnebnaaIGood21
import Derived.Test.YtipgffikmnebnaaQuiet
import Derived.BigQuiet
namespace Go.Proofs.Ytipgffikmnebnaa
open Go.ChangeShapes Go.WideShapes Go.ChangeAt Go.RowKit

set_option maxRecDepth 100000
set_option linter.unusedVariables false
set_option linter.unusedSimpArgs false

set_option maxHeartbeats 8000000 in
theorem spatch (old now : List UInt8) (ao an : Option Addr) (co cn : Nat) (w : World) (ho : BytAt w (.slice ao old.length co) old) (hn : BytAt w (.slice an now.length cn) now) (hco : old.length ≤ co ∧ co ≤ 9223372036854775807) (hcn : now.length ≤ cn ∧ cn ≤ 9223372036854775807) (hol : old.length ≤ 1048576) (hnl : now.length ≤ 1048576) :
    Calls Try.prog 23 #[.slice ao old.length co, .slice an now.length cn] w fun e w' => ∃ v', e = .returned (.tuple #[v', .bool (decide (old.length ≤ 400 ∧ now.length ≤ 400))]) ∧ ChunksO w' w.heap.size w'.heap.size v' (patchA old now) ∧ Kept w w' := by
  have HO : Hid (BytAt w (.slice ao old.length co) old) := ho
  have HN0 : Hid (BytAt w (.slice an now.length cn) now) := hn
  clear ho hn
  by_cases h1 : 400 < old.length
  · have d1 : decide (400 < (old.length : Int)) = true := decide_eq_true (by omega)
    have hR : patchA old now = [] := by unfold patchA; rw [if_neg (by omega)]
    rw [hR, decide_eq_false (show ¬ (old.length ≤ 400 ∧ now.length ≤ 400) by omega)]
    clear hR
    go_enter Try.func23, Try.ntmps23
    repeat (first | go_values | go_skip | go_guarded | go_step | go_upon)
    go_ret2
    exact ⟨_, rfl, nil_chunks _ _ _, But.refl _ _ _⟩
  have d1 : decide (400 < (old.length : Int)) = false := decide_eq_false (by omega)
  by_cases h2 : 400 < now.length
  · have d2 : decide (400 < (now.length : Int)) = true := decide_eq_true (by omega)
    have hR : patchA old now = [] := by unfold patchA; rw [if_neg (by omega)]
    rw [hR, decide_eq_false (show ¬ (old.length ≤ 400 ∧ now.length ≤ 400) by omega)]
    clear hR
    go_enter Try.func23, Try.ntmps23
    repeat (first | go_values | go_skip | go_guarded | go_step | go_upon)
    go_ret2
    exact ⟨_, rfl, nil_chunks _ _ _, But.refl _ _ _⟩
  have d2 : decide (400 < (now.length : Int)) = false := decide_eq_false (by omega)
  rw [decide_eq_true (show (old.length ≤ 400 ∧ now.length ≤ 400) by omega)]
  obtain ⟨RES, hRES⟩ : ∃ r, patchA old now = r := ⟨_, rfl⟩
  rw [hRES]
  have HRS : Hid (patchL old now.length [] now = RES) := by show _ = _; rw [← hRES]; unfold patchA; rw [if_pos (by omega)]
  clear hRES
  go_enter Try.func23, Try.ntmps23
  repeat (first | go_values | go_skip | go_guarded | go_step | go_upon)
  clear d1 d2
  go_loopw [6, 7] (fun s t wr => ∃ (n q : Nat) (out : List ChunkD) (a6 : Option Addr) (c6 : Nat), q ≤ now.length ∧ now.length ≤ q + n ∧ n + out.length ≤ 400 ∧ s = .slice a6 out.length c6 ∧ t = .int .i64 q ∧ Hid (ChunksO wr w.heap.size wr.heap.size (.slice a6 out.length c6) out) ∧ Hid (∀ d ∈ out, d.2.2.length + n ≤ 400) ∧ Hid (patchL old n out (now.drop q) = RES) ∧ Kept w wr) (fun _ t _ => now.length - (intOf t).toNat)
  case atStart => exact ⟨now.length, 0, [], none, 0, by omega, by omega, by simp; omega, rfl, rfl, nil_chunks _ _ _, fun d hd => by simp at hd, by show _ = _; rw [List.drop_zero]; exact HRS.out, But.refl _ _ _⟩
  case round =>
    obtain ⟨n, q, out, a6, c6, hq, hqn, hno, rfl, rfl, HC, HD, HL, hkp⟩ := hrel
    obtain ⟨w1, hw1⟩ : ∃ W, W = wr := ⟨_, rfl⟩
    subst hw1
    have HKP : Hid (Kept w w1) := hkp
    have hwsz := hkp.size
    clear hkp
    by_cases hlt : q < now.length
    · obtain ⟨n', hn'⟩ : ∃ n', n = n' + 1 := ⟨n - 1, by omega⟩
      subst hn'
      obtain ⟨b, hb⟩ : ∃ p, now[q]? = some p := ⟨_, List.getElem?_eq_getElem hlt⟩
      have HBQ : Hid (now[q]? = some b) := hb
      have hst := patch_step (old := old) (n := n') (out := out) (r := now.drop q) (b := b) (by rw [List.getElem?_drop]; exact hb)
      have hbd := best_bd (now.drop q) old 0 (0, 0) (by simp) (by simp)
      obtain ⟨BB, hBB⟩ : ∃ BB, bestL (now.drop q) 0 old (0, 0) = BB := ⟨_, rfl⟩
      rw [hBB] at hst hbd
      have HB0 : Hid (bestL (now.drop q) 0 old (0, 0) = BB) := hBB
      have HST : Hid (patchL old (n' + 1) out (now.drop q) = if 4 ≤ BB.2 then patchL old n' (out ++ [((BB.1 : Int), (BB.2 : Int), [])]) ((now.drop q).drop BB.2) else patchL old n' (withB out b) ((now.drop q).drop 1)) := hst
      have HBD : Hid (BB.1 + BB.2 ≤ 0 + old.length ∧ BB.2 ≤ (now.drop q).length) := hbd
      clear hst hbd hBB hb
      have d0 : decide (q < now.length) = true := decide_eq_true hlt
      have d0i : decide ((q : Int) < (now.length : Int)) = true := decide_eq_true (by omega)
      repeat (first | (with_reducible refine then_normal ?_) | (with_reducible refine then_exit ?_) | (with_reducible refine block_hit ?_) | (with_reducible refine block_normal ?_) | go_values | go_skip | go_guarded | go_step | go_upon)
      clear d0 d0i
      go_loopw [8, 9, 27] (fun f m i w2 => ∃ (k F M : Nat), k ≤ old.length ∧ f = .int .i64 F ∧ m = .int .i64 M ∧ i = .int .i64 k ∧ M ≤ 1048576 ∧ Hid (bestL (now.drop q) k (old.drop k) (F, M) = BB) ∧ Kept w1 w2) (fun _ _ i _ => old.length - (intOf i).toNat)
      case atStart => exact ⟨0, 0, 0, by omega, rfl, rfl, rfl, by omega, by show _ = _; rw [List.drop_zero]; exact HB0.out, But.refl _ _ _⟩
      case round =>
        obtain ⟨k, F, M, hk, rfl, rfl, rfl, hM1, HB, hk2⟩ := hrel
        obtain ⟨w2, hw2⟩ : ∃ W, W = wr := ⟨_, rfl⟩
        subst hw2
        have HK2 : Hid (Kept w1 w2) := hk2
        clear hk2
        by_cases h1 : k < old.length
        · have HBA : Hid (bestL (now.drop q) k (old.drop k) (F, M) = bestL (now.drop q) (k + 1) (old.drop (k + 1)) (if M < alikeN (old.drop k) (now.drop q) then (k, alikeN (old.drop k) (now.drop q)) else (F, M))) := best_at (now := now.drop q) (r := (F, M)) h1
          obtain ⟨N, hN0⟩ : ∃ N, alikeN (old.drop k) (now.drop q) = N := ⟨_, rfl⟩
          rw [hN0] at HBA
          have HNL : Hid (N ≤ old.length) := by show _ ≤ _; have := (alike_le (old.drop k) (now.drop q)).1; simp at this; omega
          have HN : Hid (alikeN (old.drop k) (now.drop q) = N) := hN0
          clear hN0
          have dk : decide (k < old.length) = true := decide_eq_true h1
          have dki : decide ((k : Int) < (old.length : Int)) = true := decide_eq_true (by omega)
          repeat (first | (with_reducible refine then_normal ?_) | (with_reducible refine then_exit ?_) | (with_reducible refine block_hit ?_) | (with_reducible refine block_normal ?_) | go_values | go_skip | go_guarded | go_step | go_upon)
          clear dk dki
          go_loopw [11] (fun s w3 => ∃ (j : Nat), k + j ≤ old.length ∧ q + j ≤ now.length ∧ s = .int .i64 j ∧ Hid (j + alikeN ((old.drop k).drop j) ((now.drop q).drop j) = N) ∧ Kept w2 w3) (fun s _ => old.length - (intOf s).toNat)
          case atStart => exact ⟨0, by omega, by omega, rfl, by show _ = _; rw [Nat.zero_add, List.drop_zero, List.drop_zero]; exact HN.out, But.refl _ _ _⟩
          case round =>
            obtain ⟨j, hj1, hj2, rfl, HJ, hk3⟩ := hrel
            have HK3 : Hid (Kept w2 wr) := hk3
            obtain ⟨x, hx⟩ : ∃ x, k + j = x := ⟨_, rfl⟩
            obtain ⟨y, hy⟩ : ∃ y, q + j = y := ⟨_, rfl⟩
            have e1 : (k : Int) + (j : Int) = (x : Int) := by omega
            have e2 : (q : Int) + (j : Int) = (y : Int) := by omega
            have e3 : IntKind.i64.wrap ((k : Int) + (j : Int)) = (x : Int) := by rw [IntWalk.i64_in _ (by omega)]; exact e1
            have e4 : IntKind.i64.wrap ((q : Int) + (j : Int)) = (y : Int) := by rw [IntWalk.i64_in _ (by omega)]; exact e2
            have HX : Hid (k + j = x) := hx
            have HY : Hid (q + j = y) := hy
            by_cases h1 : x < old.length
            · have d1 : decide (x < old.length) = true := decide_eq_true h1
              have d1i : decide ((x : Int) < (old.length : Int)) = true := decide_eq_true (by omega)
              by_cases h2 : y < now.length
              · have d2 : decide (y < now.length) = true := decide_eq_true h2
                have d2i : decide ((y : Int) < (now.length : Int)) = true := decide_eq_true (by omega)
                obtain ⟨a, ha⟩ : ∃ p, old[x]? = some p := ⟨_, List.getElem?_eq_getElem h1⟩
                obtain ⟨b, hb⟩ : ∃ p, now[y]? = some p := ⟨_, List.getElem?_eq_getElem h2⟩
                obtain ⟨b1, o1, cap1, ee1, q1⟩ := byt_get ((HO.out.kept (HKP.out.trans HK2.out)).kept hk3) ha
                cases ee1
                obtain ⟨b2, o2, cap2, ee2, q2⟩ := byt_get ((HN0.out.kept (HKP.out.trans HK2.out)).kept hk3) hb
                cases ee2
                have ql1 := World.block_lt_of_cell? _ _ q1
                have ql2 := World.block_lt_of_cell? _ _ q2
                have HST : Hid (alikeN ((old.drop k).drop j) ((now.drop q).drop j) = if a = b then alikeN ((old.drop k).drop (j + 1)) ((now.drop q).drop (j + 1)) + 1 else 0) := alike_step (by rw [List.getElem?_drop, hx]; exact ha) (by rw [List.getElem?_drop, hy]; exact hb)
                have z0 : (0 : Int) ≤ (x : Int) := by omega
                have z1 : (x : Int) < (old.length : Int) := by omega
                have z2 : (0 : Int) ≤ (y : Int) := by omega
                have z3 : (y : Int) < (now.length : Int) := by omega
                clear ha hb hk3 hx hy
                by_cases hab : a = b
                · have HS2 : Hid (alikeN ((old.drop k).drop j) ((now.drop q).drop j) = alikeN ((old.drop k).drop (j + 1)) ((now.drop q).drop (j + 1)) + 1) := by show _ = _; rw [HST.out, if_pos hab]
                  have dab : ((a.toNat : Int) == (b.toNat : Int)) = true := by simp [hab]
                  have dab2 : (a.toNat == b.toNat) = true := by simp [hab]
                  clear hab HST
                  repeat (first | (with_reducible refine then_normal ?_) | (with_reducible refine then_exit ?_) | (with_reducible refine block_hit ?_) | (with_reducible refine block_normal ?_) | go_values | go_skip | go_guarded | go_step | go_upon)
                  refine wp_region_kept (by kernel_rfl) (by kernel_rfl) ?_
                  have hne := kw_some wr
                  have hcc := KW.cell_eq wr
                  have hcf := fun (x : KW wr) (b o : Nat) (hb : b < wr.heap.size) => x.k.frozen_eq b o hb
                  repeat (first | (go_big_quiet_step (first | fail)) | (go_big_quiet_want; go_big_quiet_op; refine ⟨_, fun _ => (by with_reducible rfl), ?_⟩; go_big_quiet_on))
                  refine wpQuiet_nil ?_
                  rintro w5 ⟨⟨w8, k5⟩, h9⟩
                  change w5 = w8 at h9
                  subst h9
                  clear hcc hne hcf
                  repeat (go_not_at_region 14; first | (with_reducible refine then_normal ?_) | (with_reducible refine then_exit ?_) | (with_reducible refine block_hit ?_) | (with_reducible refine block_normal ?_) | go_values | go_skip | go_guarded | go_step | go_upon)
                  exact ⟨⟨j + 1, by have := HX.out; omega, by have := HY.out; omega, by go_num, by show _ = _; have := HJ.out; have := HS2.out; omega, HK3.out.trans k5⟩, by have := HX.out; simp [intOf]; omega⟩
                · have HS2 : Hid (alikeN ((old.drop k).drop j) ((now.drop q).drop j) = 0) := by show _ = _; rw [HST.out, if_neg hab]
                  have hne0 : a.toNat ≠ b.toNat := fun e => hab (UInt8.toNat_inj.1 e)
                  have dab : ((a.toNat : Int) == (b.toNat : Int)) = false := by rw [beq_eq_false_iff_ne]; omega
                  have dab2 : (a.toNat == b.toNat) = false := by rw [beq_eq_false_iff_ne]; exact hne0
                  clear hab HST hne0
                  repeat (first | (with_reducible refine then_normal ?_) | (with_reducible refine then_exit ?_) | (with_reducible refine block_hit ?_) | (with_reducible refine block_normal ?_) | go_values | go_skip | go_guarded | go_step | go_upon)
                  refine wp_region_kept (by kernel_rfl) (by kernel_rfl) ?_
                  have hne := kw_some wr
                  have hcc := KW.cell_eq wr
                  have hcf := fun (x : KW wr) (b o : Nat) (hb : b < wr.heap.size) => x.k.frozen_eq b o hb
                  repeat (first | (go_big_quiet_step (first | fail)) | (go_big_quiet_want; go_big_quiet_op; refine ⟨_, fun _ => (by with_reducible rfl), ?_⟩; go_big_quiet_on))
                  refine wpQuiet_nil ?_
                  rintro w5 ⟨⟨w8, k5⟩, h9⟩
                  change w5 = w8 at h9
                  subst h9
                  clear hcc hne hcf
                  repeat (go_not_at_region 14; first | (with_reducible refine then_normal ?_) | (with_reducible refine then_exit ?_) | (with_reducible refine block_hit ?_) | (with_reducible refine block_normal ?_) | go_values | go_skip | go_guarded | go_step | go_upon)
                  have K5 : Hid (Kept w2 w5) := HK3.out.trans k5
                  have hN : N = j := by rw [← HJ.out, HS2.out]; rfl
                  subst hN
                  clear k5 HJ
                  by_cases h9 : M < N
                  · have d9 : decide (M < N) = true := decide_eq_true h9
                    have d9i : decide ((M : Int) < (N : Int)) = true := decide_eq_true (by omega)
                    have HB2 : Hid (bestL (now.drop q) (k + 1) (old.drop (k + 1)) (k, N) = BB) := by show _ = _; rw [← HB.out, HBA.out, if_pos h9]
                    clear h9
                    repeat (first | (with_reducible refine then_normal ?_) | (with_reducible refine then_exit ?_) | (with_reducible refine block_hit ?_) | (with_reducible refine block_normal ?_) | go_values | go_skip | go_guarded | go_step | go_upon)
                    exact ⟨⟨k + 1, k, N, by omega, rfl, rfl, by go_num, by omega, HB2, HK2.out.trans K5.out⟩, by simp [intOf]; omega⟩
                  · have d9 : decide (M < N) = false := decide_eq_false h9
                    have d9i : decide ((M : Int) < (N : Int)) = false := decide_eq_false (by omega)
                    have HB2 : Hid (bestL (now.drop q) (k + 1) (old.drop (k + 1)) (F, M) = BB) := by show _ = _; rw [← HB.out, HBA.out, if_neg h9]
                    clear h9
                    repeat (first | (with_reducible refine then_normal ?_) | (with_reducible refine then_exit ?_) | (with_reducible refine block_hit ?_) | (with_reducible refine block_normal ?_) | go_values | go_skip | go_guarded | go_step | go_upon)
                    exact ⟨⟨k + 1, F, M, by omega, rfl, rfl, by go_num, by omega, HB2, HK2.out.trans K5.out⟩, by simp [intOf]; omega⟩
              · have HS2 : Hid (alikeN ((old.drop k).drop j) ((now.drop q).drop j) = 0) := alike_out (by rw [List.length_drop, List.length_drop]; omega)
                have d2 : decide (y < now.length) = false := decide_eq_false h2
                have d2i : decide ((y : Int) < (now.length : Int)) = false := decide_eq_false (by omega)
                clear hk3 hx hy
                repeat (first | (with_reducible refine then_normal ?_) | (with_reducible refine then_exit ?_) | (with_reducible refine block_hit ?_) | (with_reducible refine block_normal ?_) | go_values | go_skip | go_guarded | go_step | go_upon)
                refine wp_region_kept (by kernel_rfl) (by kernel_rfl) ?_
                have hne := kw_some wr
                have hcc := KW.cell_eq wr
                have hcf := fun (x : KW wr) (b o : Nat) (hb : b < wr.heap.size) => x.k.frozen_eq b o hb
                repeat (first | (go_big_quiet_step (first | fail)) | (go_big_quiet_want; go_big_quiet_op; refine ⟨_, fun _ => (by with_reducible rfl), ?_⟩; go_big_quiet_on))
                refine wpQuiet_nil ?_
                rintro w5 ⟨⟨w8, k5⟩, h9⟩
                change w5 = w8 at h9
                subst h9
                clear hcc hne hcf
                repeat (go_not_at_region 14; first | (with_reducible refine then_normal ?_) | (with_reducible refine then_exit ?_) | (with_reducible refine block_hit ?_) | (with_reducible refine block_normal ?_) | go_values | go_skip | go_guarded | go_step | go_upon)
                have K5 : Hid (Kept w2 w5) := HK3.out.trans k5
                have hN : N = j := by rw [← HJ.out, HS2.out]; rfl
                subst hN
                clear k5 HJ
                by_cases h9 : M < N
                · have d9 : decide (M < N) = true := decide_eq_true h9
                  have d9i : decide ((M : Int) < (N : Int)) = true := decide_eq_true (by omega)
                  have HB2 : Hid (bestL (now.drop q) (k + 1) (old.drop (k + 1)) (k, N) = BB) := by show _ = _; rw [← HB.out, HBA.out, if_pos h9]
                  clear h9
                  repeat (first | (with_reducible refine then_normal ?_) | (with_reducible refine then_exit ?_) | (with_reducible refine block_hit ?_) | (with_reducible refine block_normal ?_) | go_values | go_skip | go_guarded | go_step | go_upon)
                  exact ⟨⟨k + 1, k, N, by omega, rfl, rfl, by go_num, by omega, HB2, HK2.out.trans K5.out⟩, by simp [intOf]; omega⟩
                · have d9 : decide (M < N) = false := decide_eq_false h9
                  have d9i : decide ((M : Int) < (N : Int)) = false := decide_eq_false (by omega)
                  have HB2 : Hid (bestL (now.drop q) (k + 1) (old.drop (k + 1)) (F, M) = BB) := by show _ = _; rw [← HB.out, HBA.out, if_neg h9]
                  clear h9
                  repeat (first | (with_reducible refine then_normal ?_) | (with_reducible refine then_exit ?_) | (with_reducible refine block_hit ?_) | (with_reducible refine block_normal ?_) | go_values | go_skip | go_guarded | go_step | go_upon)
                  exact ⟨⟨k + 1, F, M, by omega, rfl, rfl, by go_num, by omega, HB2, HK2.out.trans K5.out⟩, by simp [intOf]; omega⟩
            · have HS2 : Hid (alikeN ((old.drop k).drop j) ((now.drop q).drop j) = 0) := alike_out (by rw [List.length_drop, List.length_drop]; omega)
              have d1 : decide (x < old.length) = false := decide_eq_false h1
              have d1i : decide ((x : Int) < (old.length : Int)) = false := decide_eq_false (by omega)
              clear hk3 hx hy
              repeat (first | (with_reducible refine then_normal ?_) | (with_reducible refine then_exit ?_) | (with_reducible refine block_hit ?_) | (with_reducible refine block_normal ?_) | go_values | go_skip | go_guarded | go_step | go_upon)
              refine wp_region_kept (by kernel_rfl) (by kernel_rfl) ?_
              have hne := kw_some wr
              have hcc := KW.cell_eq wr
              have hcf := fun (x : KW wr) (b o : Nat) (hb : b < wr.heap.size) => x.k.frozen_eq b o hb
              repeat (first | (go_big_quiet_step (first | fail)) | (go_big_quiet_want; go_big_quiet_op; refine ⟨_, fun _ => (by with_reducible rfl), ?_⟩; go_big_quiet_on))
              refine wpQuiet_nil ?_
              rintro w5 ⟨⟨w8, k5⟩, h9⟩
              change w5 = w8 at h9
              subst h9
              clear hcc hne hcf
              repeat (go_not_at_region 14; first | (with_reducible refine then_normal ?_) | (with_reducible refine then_exit ?_) | (with_reducible refine block_hit ?_) | (with_reducible refine block_normal ?_) | go_values | go_skip | go_guarded | go_step | go_upon)
              have K5 : Hid (Kept w2 w5) := HK3.out.trans k5
              have hN : N = j := by rw [← HJ.out, HS2.out]; rfl
              subst hN
              clear k5 HJ
              by_cases h9 : M < N
              · have d9 : decide (M < N) = true := decide_eq_true h9
                have d9i : decide ((M : Int) < (N : Int)) = true := decide_eq_true (by omega)
                have HB2 : Hid (bestL (now.drop q) (k + 1) (old.drop (k + 1)) (k, N) = BB) := by show _ = _; rw [← HB.out, HBA.out, if_pos h9]
                clear h9
                repeat (first | (with_reducible refine then_normal ?_) | (with_reducible refine then_exit ?_) | (with_reducible refine block_hit ?_) | (with_reducible refine block_normal ?_) | go_values | go_skip | go_guarded | go_step | go_upon)
                exact ⟨⟨k + 1, k, N, by omega, rfl, rfl, by go_num, by omega, HB2, HK2.out.trans K5.out⟩, by simp [intOf]; omega⟩
              · have d9 : decide (M < N) = false := decide_eq_false h9
                have d9i : decide ((M : Int) < (N : Int)) = false := decide_eq_false (by omega)
                have HB2 : Hid (bestL (now.drop q) (k + 1) (old.drop (k + 1)) (F, M) = BB) := by show _ = _; rw [← HB.out, HBA.out, if_neg h9]
                clear h9
                repeat (first | (with_reducible refine then_normal ?_) | (with_reducible refine then_exit ?_) | (with_reducible refine block_hit ?_) | (with_reducible refine block_normal ?_) | go_values | go_skip | go_guarded | go_step | go_upon)
                exact ⟨⟨k + 1, F, M, by omega, rfl, rfl, by go_num, by omega, HB2, HK2.out.trans K5.out⟩, by simp [intOf]; omega⟩
        · have hke : k = old.length := by omega
          have hBB : BB = (F, M) := by rw [← HB.out, best_end h1]
          have dk : decide (k < old.length) = false := decide_eq_false h1
          have dki : decide ((k : Int) < (old.length : Int)) = false := decide_eq_false (by omega)
          subst hBB
          clear h1
          have HST : Hid (patchL old (n' + 1) out (now.drop q) = if 4 ≤ M then patchL old n' (out ++ [((F : Int), (M : Int), [])]) ((now.drop q).drop M) else patchL old n' (withB out b) ((now.drop q).drop 1)) := HST
          have hMq : q + M ≤ now.length := by have := HBD.out.2; rw [List.length_drop] at this; dsimp only at this; omega
          have K2 : Hid (Kept w w2) := HKP.out.trans HK2.out
          have HC2 : Hid (ChunksO w2 w.heap.size w1.heap.size (.slice a6 out.length c6) out) := HC.out.kept HK2.out
          have hs12 := HK2.out.size
          clear HB hM1 hke
          by_cases hM : 4 ≤ M
          · have dM : decide (4 ≤ M) = true := decide_eq_true hM
            have dMi : decide (4 ≤ (M : Int)) = true := decide_eq_true (by omega)
            have HL2 : Hid (patchL old n' (out ++ [((F : Int), (M : Int), [])]) (now.drop (q + M)) = RES) := by show _ = _; rw [← HL.out, HST.out, if_pos hM, List.drop_drop]
            have HD7 : Hid (∀ d ∈ out ++ [((F : Int), (M : Int), ([] : List UInt8))], d.2.2.length + n' ≤ 400) := fun d hd => by
              rcases List.mem_append.1 hd with h1 | h1
              · have := HD.out d h1; omega
              · simp at h1; subst h1; simp; omega
            clear HST
            repeat (first | (at_builtin; refine forgetL (fun w' => w' = _) rfl ?_) | (with_reducible refine then_normal ?_) | (with_reducible refine then_exit ?_) | (with_reducible refine block_hit ?_) | (with_reducible refine block_normal ?_) | go_values | go_skip | go_guarded | go_step | go_upon)
            intro W7 hW7
            rw [hW7]
            clear hW7 W7
            have L2 := Loc.new w2 [.int .i64 (F : Nat), .int .i64 (M : Nat), .slice none 0 0] 108
            have k42 := (But.refl 0 0 w2).alloc (.cells #[.int .i64 (F : Nat), .int .i64 (M : Nat), .slice none 0 0] 108)
            refine appw_chunks rfl _ _ rfl (lo := w.heap.size) (hi0 := w1.heap.size) (mid := w2.heap.size) rfl (HC2.out.kept k42) hs12 rfl (F : Nat) (M : Nat) (.slice none 0 0) [] L2 rfl (nil_byt _ _ _) (by omega) (by simp) (by omega) ?_
            intro v7 w7 hO7 hB7
            obtain ⟨a7, c7, rfl⟩ := hO7.form
            have HB7 : Hid (Kept w w7) := But.onto (K2.out.trans k42) hB7 (Nat.le_refl _)
            have HO7 : Hid (ChunksO w7 w.heap.size w7.heap.size (.slice a7 (out ++ [((F : Int), (M : Int), ([] : List UInt8))]).length c7) (out ++ [((F : Int), (M : Int), ([] : List UInt8))])) := hO7
            have hl7 : (out ++ [((F : Int), (M : Int), ([] : List UInt8))]).length = out.length + 1 := by simp
            generalize out ++ [((F : Int), (M : Int), ([] : List UInt8))] = out7 at *
            clear hO7 hB7 L2 k42
            repeat (first | (with_reducible refine then_normal ?_) | (with_reducible refine then_exit ?_) | (with_reducible refine block_hit ?_) | (with_reducible refine block_normal ?_) | go_values | go_skip | go_guarded | go_step | go_upon)
            exact ⟨⟨n', q + M, out7, a7, c7, by omega, by omega, by omega, by first | rfl | (rw [hl7]; done) | (rw [hl7]; rfl), by go_num, HO7, HD7, HL2, HB7.out⟩, by simp [intOf]; omega⟩
          · have dM : decide (4 ≤ M) = false := decide_eq_false hM
            have dMi : decide (4 ≤ (M : Int)) = false := decide_eq_false (by omega)
            have HL2 : Hid (patchL old n' (withB out b) (now.drop (q + 1)) = RES) := by show _ = _; rw [← HL.out, HST.out, if_neg hM, List.drop_drop]
            have HD7 : Hid (∀ d ∈ withB out b, d.2.2.length + n' ≤ 400) := fun d hd => by
              have := withB_bytes (out := out) (b := b) (N := 399 - n') (fun d hd => by have := HD.out d hd; omega) d hd
              omega
            clear HST
            obtain ⟨b1, o1, cap1, ee1, q1⟩ := byt_get (HN0.out.kept K2.out) HBQ.out
            cases ee1
            have ql := World.block_lt_of_cell? _ _ q1
            have hb1 : b1 < w.heap.size := by
              obtain ⟨b8, o8, cap8, ee8, q8⟩ := byt_get HN0.out HBQ.out
              cases ee8
              exact World.block_lt_of_cell? _ _ q8
            have y0i : (0 : Int) ≤ (q : Int) := by omega
            have y1i : (q : Int) < (now.length : Int) := by omega
            by_cases he : out = []
            · rw [withB_new (.inl he)] at HL2 HD7
              subst he
              have HCX : Hid (ChunksO w2 w.heap.size w1.heap.size (.slice a6 ([] : List ChunkD).length c6) []) := HC2
              clear HC HC2
              repeat (first | (at_builtin; refine forgetL (fun w' => w' = _) rfl ?_) | (with_reducible refine then_normal ?_) | (with_reducible refine then_exit ?_) | (with_reducible refine block_hit ?_) | (with_reducible refine block_normal ?_) | go_values | go_skip | go_guarded | go_step | go_upon)
              intro W7 hW7
              rw [hW7]
              clear hW7 W7
              have L2 := Loc.new (w2.alloc (.cells #[.int .u8 (b.toNat : Int)] 5)) [.int .i64 0, .int .i64 0, .slice (some ⟨w2.heap.size, 0, none⟩) 1 1] 108
              simp only [World.size_alloc] at L2
              have k42 := ((But.refl 0 0 w2).alloc (.cells #[.int .u8 (b.toNat : Int)] 5)).alloc (.cells #[.int .i64 0, .int .i64 0, .slice (some ⟨w2.heap.size, 0, none⟩) 1 1] 108)
              have HO1 := one_own w2 b
              refine appw_chunks rfl _ _ rfl (lo := w.heap.size) (hi0 := w1.heap.size) (mid := w2.heap.size) rfl (HCX.out.kept k42) hs12 rfl 0 0 _ [b] L2 rfl ((HO1.kept ((But.refl _ _ _).alloc _)).mono (Nat.le_refl _) (by simp)) (by omega) (by simp <;> omega) (by simp at hno ⊢ <;> omega) ?_
              intro v7 w7 hO7 hB7
              obtain ⟨a7, c7, rfl⟩ := hO7.form
              have HB7 : Hid (Kept w w7) := But.onto (K2.out.trans k42) hB7 (Nat.le_refl _)
              have HO7 : Hid (ChunksO w7 w.heap.size w7.heap.size (.slice a7 ([] ++ [((0 : Int), (0 : Int), [b])]).length c7) ([] ++ [((0 : Int), (0 : Int), [b])])) := hO7
              have hl7 : ([] ++ [((0 : Int), (0 : Int), [b])]).length = ([] : List ChunkD).length + 1 := by simp
              generalize [] ++ [((0 : Int), (0 : Int), [b])] = out7 at *
              clear hO7 hB7 L2 k42
              repeat (first | (with_reducible refine then_normal ?_) | (with_reducible refine then_exit ?_) | (with_reducible refine block_hit ?_) | (with_reducible refine block_normal ?_) | go_values | go_skip | go_guarded | go_step | go_upon)
              exact ⟨⟨n', q + 1, out7, a7, c7, by omega, by omega, by omega, by first | rfl | (rw [hl7]; done) | (rw [hl7]; rfl), by go_num, HO7, HD7, HL2, HB7.out⟩, by simp [intOf]; omega⟩
            · have hpos := List.length_pos_iff.2 he
              obtain ⟨ts, ho, ets⟩ := HC2.out
              have hOL : out.length = ts.length := by rw [← ets]; simp
              rw [hOL] at ho
              rw [hOL]
              obtain ⟨k, hk⟩ : ∃ k, ts.length = k + 1 := ⟨ts.length - 1, by omega⟩
              obtain ⟨p, hp0⟩ : ∃ p, ts[k]? = some p := ⟨_, List.getElem?_eq_getElem (by omega)⟩
              have hd : out[out.length - 1]? = some (stripChunk p) := by rw [← ets, List.length_map, show ts.length - 1 = k by omega, List.getElem?_map, hp0]; rfl
              obtain ⟨bb, o, cap', ee, c0, c1, c2, hka⟩ := chunk_get ho.at hp0
              cases ee
              obtain ⟨cap2, hfm⟩ : ∃ cap2, Value.slice (some ⟨bb, o, none⟩) ts.length c6 = .slice (some ⟨bb, 0, none⟩) ts.length cap2 := by
                rcases ho.row.1.2 with ⟨hv, _⟩ | ⟨g, c2, cur, hv, _⟩
                · cases hv
                · cases hv; exact ⟨_, rfl⟩
              cases hfm
              simp only [Nat.zero_add] at c0 c1 c2
              obtain ⟨y0, y1, ⟨s, l⟩⟩ := p
              dsimp only at c0 c1 c2 hka
              have hinn := ho.inn k _ hp0
              dsimp only at hinn
              obtain ⟨a3, p3, hs3⟩ := row_nil hka
              subst hs3
              have hw1 : IntKind.i64.wrap ((ts.length : Int) - 1) = (k : Int) := by rw [IntWalk.i64_in _ (by omega)]; omega
              have hw2 : (ts.length : Int) - 1 = (k : Int) := by omega
          
              have z0 : (0 : Int) ≤ (k : Int) := by omega
              have z1 : (k : Int) < (ts.length : Int) := by omega
              have z2 : decide ((k : Int) < 0) = false := decide_eq_false (by omega)
              have z3 : decide (0 < (ts.length : Int)) = true := decide_eq_true (by omega)
              have z4 : decide (0 < ts.length) = true := decide_eq_true (by omega)
              have cl := World.block_lt_of_cell? _ _ c2
              have HDL : Hid (l.length + (n' + 1) ≤ 400) := HD.out (stripChunk (y0, y1, (.slice a3 l.length p3, l))) (List.mem_of_getElem? hd)
              have hll := HDL.out
              by_cases hy : l = []
              · rw [withB_new (.inr ⟨_, hd, hy⟩)] at HL2 HD7
                subst hy
                have HCX : Hid (ChunksO w2 w.heap.size w1.heap.size (.slice (some ⟨bb, 0, none⟩) ts.length c6) out) := ⟨ts, ho, ets⟩
                have HOL : Hid (out.length = ts.length) := hOL
                clear hd hp0 ho hka hinn ets HC HC2 HD HDL hk
                repeat (first | (at_builtin; refine forgetL (fun w' => w' = _) rfl ?_) | (with_reducible refine then_normal ?_) | (with_reducible refine then_exit ?_) | (with_reducible refine block_hit ?_) | (with_reducible refine block_normal ?_) | go_values | go_skip | go_guarded | go_step | go_upon)
                intro W7 hW7
                rw [hW7]
                clear hW7 W7
                have L2 := Loc.new (w2.alloc (.cells #[.int .u8 (b.toNat : Int)] 5)) [.int .i64 0, .int .i64 0, .slice (some ⟨w2.heap.size, 0, none⟩) 1 1] 108
                simp only [World.size_alloc] at L2
                have k42 := ((But.refl 0 0 w2).alloc (.cells #[.int .u8 (b.toNat : Int)] 5)).alloc (.cells #[.int .i64 0, .int .i64 0, .slice (some ⟨w2.heap.size, 0, none⟩) 1 1] 108)
                have HO1 := one_own w2 b
                refine appw_chunks rfl _ _ rfl (lo := w.heap.size) (hi0 := w1.heap.size) (mid := w2.heap.size) rfl (HCX.out.kept k42) hs12 rfl 0 0 _ [b] L2 rfl ((HO1.kept ((But.refl _ _ _).alloc _)).mono (Nat.le_refl _) (by simp)) (by omega) (by simp <;> omega) (by simp at hno ⊢ <;> omega) ?_
                intro v7 w7 hO7 hB7
                obtain ⟨a7, c7, rfl⟩ := hO7.form
                have HB7 : Hid (Kept w w7) := But.onto (K2.out.trans k42) hB7 (Nat.le_refl _)
                have HO7 : Hid (ChunksO w7 w.heap.size w7.heap.size (.slice a7 (out ++ [((0 : Int), (0 : Int), [b])]).length c7) (out ++ [((0 : Int), (0 : Int), [b])])) := hO7
                have hl7 : (out ++ [((0 : Int), (0 : Int), [b])]).length = out.length + 1 := by simp
                generalize out ++ [((0 : Int), (0 : Int), [b])] = out7 at *
                clear hO7 hB7 L2 k42
                repeat (first | (with_reducible refine then_normal ?_) | (with_reducible refine then_exit ?_) | (with_reducible refine block_hit ?_) | (with_reducible refine block_normal ?_) | go_values | go_skip | go_guarded | go_step | go_upon)
                exact ⟨⟨n', q + 1, out7, a7, c7, by omega, by omega, by omega, by first | rfl | (rw [hl7, HOL.out]; done) | (rw [hl7]; done) | (rw [hl7]; rfl), by go_num, HO7, HD7, HL2, HB7.out⟩, by simp [intOf]; omega⟩
              · rw [withB_last hd hy] at HL2 HD7
                have hlpos : 0 < l.length := List.length_pos_iff.2 hy
                have dl : decide (0 < (l.length : Int)) = true := decide_eq_true (by omega)
                have dl2 : decide (0 < l.length) = true := decide_eq_true hlpos
                have HI : Hid (BytO w2 w.heap.size w1.heap.size (.slice a3 l.length p3) l) := hinn
                have HP : Hid (ts[k]? = some (y0, y1, (.slice a3 l.length p3, l))) := hp0
                have HO2 : Hid (ChunkO w2 w.heap.size w1.heap.size (.slice (some ⟨bb, 0, none⟩) ts.length c6) ts) := ho
                have hbg := own_lt ho.row.1 (g := bb) rfl
                have HET : Hid (ts.map stripChunk = out) := ets
                have HKK : Hid (ts.length = k + 1 ∧ out.length = ts.length) := ⟨hk, hOL⟩
                clear hd hp0 ho hka hinn hk c0 c1 hy HC HC2
                repeat (first | (with_reducible refine then_normal ?_) | (with_reducible refine then_exit ?_) | (with_reducible refine block_hit ?_) | (with_reducible refine block_normal ?_) | go_values | go_skip | go_guarded | go_step | go_upon)
                refine wp_region_Z (fun w' => w'.cell? ⟨bb, k * 3 + 2, none⟩ = some (.slice a3 l.length p3) ∧ w'.cell? ⟨b1, o1 + q, none⟩ = some (.int .u8 (b.toNat : Int))) 17 (by kernel_rfl) ?_
                have hS : (fun w' => w'.cell? ⟨bb, k * 3 + 2, none⟩ = some (.slice a3 l.length p3) ∧ w'.cell? ⟨b1, o1 + q, none⟩ = some (.int .u8 (b.toNat : Int))) w2.drew := ⟨c2, q1⟩
                refine wpAnyZ_take (i := 0) (v := .slice (some ⟨bb, 0, none⟩) ts.length c6) rfl (by kernel_rfl) (by kernel_rfl) (by kernel_rfl) (by kernel_rfl) (fun _ _ _ h => h) (Or.inl ⟨by rfl, ?_⟩) hS ?_
                · intro w' hSw; obtain ⟨s0, s1⟩ := hSw; go_simp; try exact IntWalk.i64_in _ (by omega)
                try simp only [Act.put]
                refine wpAnyZ_take (i := 1) (v := .int .i64 (ts.length : Int)) rfl (by kernel_rfl) (by kernel_rfl) (by kernel_rfl) (by kernel_rfl) (fun _ _ _ h => h) (Or.inl ⟨by rfl, ?_⟩) hS ?_
                · intro w' hSw; obtain ⟨s0, s1⟩ := hSw; go_simp; try exact IntWalk.i64_in _ (by omega)
                try simp only [Act.put]
                refine wpAnyZ_take (i := 2) (v := .int .i64 (k : Int)) rfl (by kernel_rfl) (by kernel_rfl) (by kernel_rfl) (by kernel_rfl) (fun _ _ _ h => h) (Or.inl ⟨by rfl, ?_⟩) hS ?_
                · intro w' hSw; obtain ⟨s0, s1⟩ := hSw; go_simp; try exact IntWalk.i64_in _ (by omega)
                try simp only [Act.put]
                refine wpAnyZ_take (i := 3) (v := .slice (some ⟨bb, 0, none⟩) ts.length c6) rfl (by kernel_rfl) (by kernel_rfl) (by kernel_rfl) (by kernel_rfl) (fun _ _ _ h => h) (Or.inl ⟨by rfl, ?_⟩) hS ?_
                · intro w' hSw; obtain ⟨s0, s1⟩ := hSw; go_simp; try exact IntWalk.i64_in _ (by omega)
                try simp only [Act.put]
                refine wpAnyZ_take (i := 4) (v := .int .i64 (ts.length : Int)) rfl (by kernel_rfl) (by kernel_rfl) (by kernel_rfl) (by kernel_rfl) (fun _ _ _ h => h) (Or.inl ⟨by rfl, ?_⟩) hS ?_
                · intro w' hSw; obtain ⟨s0, s1⟩ := hSw; go_simp; try exact IntWalk.i64_in _ (by omega)
                try simp only [Act.put]
                refine wpAnyZ_take (i := 5) (v := .int .i64 (k : Int)) rfl (by kernel_rfl) (by kernel_rfl) (by kernel_rfl) (by kernel_rfl) (fun _ _ _ h => h) (Or.inl ⟨by rfl, ?_⟩) hS ?_
                · intro w' hSw; obtain ⟨s0, s1⟩ := hSw; go_simp; try exact IntWalk.i64_in _ (by omega)
                try simp only [Act.put]
                refine wpAnyZ_take (i := 6) (v := .pointer (some ⟨bb, k * 3, none⟩)) rfl (by kernel_rfl) (by kernel_rfl) (by kernel_rfl) (by kernel_rfl) (fun _ _ _ h => h) (Or.inl ⟨by rfl, ?_⟩) hS ?_
                · intro w' hSw; obtain ⟨s0, s1⟩ := hSw; go_simp; try exact IntWalk.i64_in _ (by omega)
                try simp only [Act.put]
                refine wpAnyZ_take (i := 7) (v := .pointer (some ⟨bb, k * 3 + 2, none⟩)) rfl (by kernel_rfl) (by kernel_rfl) (by kernel_rfl) (by kernel_rfl) (fun _ _ _ h => h) (Or.inl ⟨by rfl, ?_⟩) hS ?_
                · intro w' hSw; obtain ⟨s0, s1⟩ := hSw; go_simp; try exact IntWalk.i64_in _ (by omega)
                try simp only [Act.put]
                refine wpAnyZ_take (i := 8) (v := .slice a3 l.length p3) rfl (by kernel_rfl) (by kernel_rfl) (by kernel_rfl) (by kernel_rfl) (fun _ _ _ h => h) (Or.inl ⟨by rfl, ?_⟩) hS ?_
                · intro w' hSw; obtain ⟨s0, s1⟩ := hSw; go_simp; try exact IntWalk.i64_in _ (by omega)
                try simp only [Act.put]
                refine wpAnyZ_take (i := 9) (v := .slice (some ⟨b1, o1, none⟩) now.length cn) rfl (by kernel_rfl) (by kernel_rfl) (by kernel_rfl) (by kernel_rfl) (fun _ _ _ h => h) (Or.inl ⟨by rfl, ?_⟩) hS ?_
                · intro w' hSw; obtain ⟨s0, s1⟩ := hSw; go_simp; try exact IntWalk.i64_in _ (by omega)
                try simp only [Act.put]
                refine wpAnyZ_take (i := 10) (v := .int .i64 (q : Int)) rfl (by kernel_rfl) (by kernel_rfl) (by kernel_rfl) (by kernel_rfl) (fun _ _ _ h => h) (Or.inl ⟨by rfl, ?_⟩) hS ?_
                · intro w' hSw; obtain ⟨s0, s1⟩ := hSw; go_simp; try exact IntWalk.i64_in _ (by omega)
                try simp only [Act.put]
                refine wpAnyZ_take (i := 11) (v := .pointer (some ⟨b1, o1 + q, none⟩)) rfl (by kernel_rfl) (by kernel_rfl) (by kernel_rfl) (by kernel_rfl) (fun _ _ _ h => h) (Or.inl ⟨by rfl, ?_⟩) hS ?_
                · intro w' hSw; obtain ⟨s0, s1⟩ := hSw; go_simp; try exact IntWalk.i64_in _ (by omega)
                try simp only [Act.put]
                refine wpAnyZ_take (i := 12) (v := .int .u8 (b.toNat : Int)) rfl (by kernel_rfl) (by kernel_rfl) (by kernel_rfl) (by kernel_rfl) (fun _ _ _ h => h) (Or.inl ⟨by rfl, ?_⟩) hS ?_
                · intro w' hSw; obtain ⟨s0, s1⟩ := hSw; go_simp; try exact IntWalk.i64_in _ (by omega)
                try simp only [Act.put]
                refine wpAnyZ_one (i := 13) (by kernel_rfl) rfl ?_
                intro K8 hK8
                rw [if_pos (by rfl)]
                go_simp
                have kd : Kept w2 (w2.alloc (.cells #[.int .u8 (b.toNat : Int)] 5)).drew := ((But.refl _ _ w2).alloc _).drew
                have hSb : (fun w' => w'.cell? ⟨bb, k * 3 + 2, none⟩ = some (.slice a3 l.length p3) ∧ w'.cell? ⟨b1, o1 + q, none⟩ = some (.int .u8 (b.toNat : Int))) (w2.alloc (.cells #[.int .u8 (b.toNat : Int)] 5)).drew := ⟨Kept.cell kd c2, Kept.cell kd q1⟩
                refine hK8.out _ _ (fun _ => hSb) ?_
                clear hK8 K8
                try simp only [Act.put]
                refine wpAnyZ_one (i := 14) (by kernel_rfl) rfl ?_
                intro K8 hK8
                have L1 : Loc (w2.alloc (.cells #[.int .u8 (b.toNat : Int)] 5)).drew w2.heap.size (bytC b) := (Loc.new w2 [.int .u8 (b.toNat : Int)] 5).kept ((But.refl _ _ _).drew)
                have HI1 : BytO (w2.alloc (.cells #[.int .u8 (b.toNat : Int)] 5)).drew w.heap.size w1.heap.size (.slice a3 l.length p3) l := HI.out.kept kd
                refine step_byt rfl (.tmp 100) (.tmp 105) rfl (lo := w.heap.size) (ps := l) (by simp [Act.eval]) HI1 b (by simp [Act.eval]) L1 (by omega) (by simp; omega) ?_
                intro v7 w7 hO7 hB7 hown7
                obtain ⟨a7, c7, hf7⟩ := hO7.form
                subst hf7
                have HOk := HO2.out.kept kd
                have HRS := ChunkO.reset HOk rfl (by simp; omega) HP.out hB7 hO7 hown7
                have hBin := But.inner hB7 HI1
                have hrow := RowO.apart HOk.row hB7 (ap_types HOk.row HI1 (by decide))
                have c27 : w7.cell? ⟨bb, k * 3 + 2, none⟩ = some (.slice a3 l.length p3) := (own_get 3 chunkC chunkC_len (by omega) hrow HP.out).1 2 _ rfl
                have f27 : w7.frozen? ⟨bb, k * 3 + 2, none⟩ = false := (own_get 3 chunkC chunkC_len (by omega) hrow HP.out).2 _
                have q17 : w7.cell? ⟨b1, o1 + q, none⟩ = some (.int .u8 (b.toNat : Int)) := hBin.cell (Kept.cell kd q1) (Or.inl hb1)
                have hSc : (fun w' => w'.cell? ⟨bb, k * 3 + 2, none⟩ = some (.slice a3 l.length p3) ∧ w'.cell? ⟨b1, o1 + q, none⟩ = some (.int .u8 (b.toNat : Int))) w7 := ⟨c27, q17⟩
                have hbh : bb < w1.heap.size := HO2.out.row.2 bb rfl
                have HR7 : Hid (ChunkO (w7.setCell ⟨bb, k * 3 + 2, none⟩ (.slice a7 (l ++ [b]).length c7)) w.heap.size w7.heap.size (.slice (some ⟨bb, 0, none⟩) ts.length c6) (ts.set k (y0, y1, (.slice a7 (l ++ [b]).length c7, l ++ [b])))) := HRS
                have HB9 : Hid (Kept w (w7.setCell ⟨bb, k * 3 + 2, none⟩ (.slice a7 (l ++ [b]).length c7))) := (But.onto (K2.out.trans kd) (hBin.setCell (show w.heap.size ≤ bb from hbg.1) (show bb < w1.heap.size from hbh) _) (Nat.le_refl _))
                have bl7 := World.block_lt_of_cell? _ _ c27
                refine hK8.out _ _ (fun _ => hSc) ?_
                clear hK8 K8 hSb HRS hBin hrow hO7 hB7 hown7 L1 HI1 HOk
                try simp only [Act.put]
                refine wpAnyZ_one (i := 15) (by kernel_rfl) rfl ?_
                intro K8 hK8
                rw [if_pos (by rfl)]
                go_simp
                refine hK8.out _ _ (fun _ => hSc) ?_
                clear hK8 K8
                try simp only [Act.put]
                refine wpAnyZ_one (i := 16) (by kernel_rfl) rfl ?_
                intro K8 hK8
                rw [if_pos (by rfl)]
                go_simp
                refine hK8.out _ _ (fun _ => hSc) ?_
                clear hK8 K8
                try simp only [Act.put]
                refine wpAnyZ_one (i := 17) (by kernel_rfl) rfl ?_
                intro K8 hK8
                rw [if_pos (by rfl)]
                go_simp
                refine hK8.out _ _ (fun h => absurd rfl h) ?_
                clear hK8 K8
                refine wpAnyZ_done (by kernel_rfl) ?_ _
                try simp only [Act.put]
                repeat (first | (with_reducible refine then_normal ?_) | (with_reducible refine then_exit ?_) | (with_reducible refine block_hit ?_) | (with_reducible refine block_normal ?_) | go_values | go_skip | go_guarded | go_step | go_upon)
                have hkk := HKK.out
                refine ⟨⟨n', q + 1, _, some ⟨bb, 0, none⟩, c6, by omega, by omega, ?_, ?_, by go_num, ?_, HD7, HL2, by simpa using HB9.out⟩, by simp [intOf]; omega⟩
                · rw [List.length_set]; omega
                · rw [List.length_set, hkk.2]
                · refine ⟨_, (by rw [List.length_set, hkk.2]; simpa [World.setCell] using HR7.out), ?_⟩
                  rw [List.map_set, HET.out, show out.length - 1 = k by omega]
                  rfl
    · have hR : RES = out := by rw [← HL.out, List.drop_eq_nil_of_le (by omega), patch_nil]
      have d0 : decide (q < now.length) = false := decide_eq_false hlt
      have d0i : decide ((q : Int) < (now.length : Int)) = false := decide_eq_false (by omega)
      subst hR
      repeat (first | (with_reducible refine then_normal ?_) | (with_reducible refine then_exit ?_) | (with_reducible refine block_hit ?_) | (with_reducible refine block_normal ?_) | go_values | go_skip | go_guarded | go_step | go_upon)
      go_ret2
      exact ⟨_, rfl, HC.out, HKP.out⟩

end Go.Proofs.Ytipgffikmnebnaa
