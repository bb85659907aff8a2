/-
  PatchOf in the program.
-/
import Derived.Test.YtipgffikmnebnaaPatQ21
import Derived.Test.YtipgffikmnebnaaWith21
import Derived.Test.YtipgffikmnebnaaLong21
namespace Go.Proofs.Ytipgffikmnebnaa
open Go.ChangeShapes Go.WideShapes Go.ChangeAt Go.RowKit

set_option maxRecDepth 100000
set_option linter.unusedVariables false
set_option linter.unusedSimpArgs false

set_option maxHeartbeats 8000000 in
theorem ipatch (old now : List UInt8) (ao an : Option Addr) (co cn : Nat) (w : World) (ho : BytAt w (.slice ao old.length co) old) (hn : BytAt w (.slice an now.length cn) now) (hco : old.length ≤ co ∧ co ≤ 9223372036854775807) (hcn : now.length ≤ cn ∧ cn ≤ 9223372036854775807) (hol : old.length ≤ 1048576) (hnl : now.length ≤ 1048576) :
    Calls Try.prog 22 #[.slice ao old.length co, .slice an now.length cn] w fun e w' => ∃ v', e = .returned (.tuple #[v', .bool (decide (old.length ≤ 400 ∧ now.length ≤ 400))]) ∧ ChunksO w' w.heap.size w'.heap.size v' (patchA old now) ∧ Kept w w' := by
  have HO : Hid (BytAt w (.slice ao old.length co) old) := ho
  have HN : Hid (BytAt w (.slice an now.length cn) now) := hn
  clear ho hn
  by_cases h1 : 400 < old.length
  · have d1 : decide (400 < (old.length : Int)) = true := decide_eq_true (by omega)
    have hR : patchA old now = [] := by unfold patchA; rw [if_neg (by omega)]
    rw [hR, decide_eq_false (show ¬ (old.length ≤ 400 ∧ now.length ≤ 400) by omega)]
    clear hR
    go_enter Try.func22, Try.ntmps22
    repeat (first | go_values | go_skip | go_guarded | go_step | go_upon)
    go_ret2
    exact ⟨_, rfl, nil_chunks _ _ _, But.refl _ _ _⟩
  have d1 : decide (400 < (old.length : Int)) = false := decide_eq_false (by omega)
  by_cases h2 : 400 < now.length
  · have d2 : decide (400 < (now.length : Int)) = true := decide_eq_true (by omega)
    have hR : patchA old now = [] := by unfold patchA; rw [if_neg (by omega)]
    rw [hR, decide_eq_false (show ¬ (old.length ≤ 400 ∧ now.length ≤ 400) by omega)]
    clear hR
    go_enter Try.func22, Try.ntmps22
    repeat (first | go_values | go_skip | go_guarded | go_step | go_upon)
    go_ret2
    exact ⟨_, rfl, nil_chunks _ _ _, But.refl _ _ _⟩
  have d2 : decide (400 < (now.length : Int)) = false := decide_eq_false (by omega)
  rw [decide_eq_true (show (old.length ≤ 400 ∧ now.length ≤ 400) by omega)]
  obtain ⟨RES, hRES⟩ : ∃ r, patchA old now = r := ⟨_, rfl⟩
  rw [hRES]
  have HRS : Hid (patchL old now.length [] now = RES) := by show _ = _; rw [← hRES]; unfold patchA; rw [if_pos (by omega)]
  clear hRES
  go_enter Try.func22, Try.ntmps22
  repeat (first | go_values | go_skip | go_guarded | go_step | go_upon)
  clear d1 d2
  go_loopw [6, 7] (fun s t wr => ∃ (n : Nat) (out : List ChunkD) (r : List UInt8) (a : Option Addr) (c : Nat) (a6 : Option Addr) (c6 : Nat), r.length ≤ n ∧ n + out.length ≤ 400 ∧ s = .slice a6 out.length c6 ∧ t = .slice a r.length c ∧ r.length ≤ c ∧ Hid (BytAt w (.slice a r.length c) r) ∧ Hid (ChunksO wr w.heap.size wr.heap.size (.slice a6 out.length c6) out) ∧ Hid (∀ d ∈ out, d.2.2.length + n ≤ 400) ∧ Hid (patchL old n out r = RES) ∧ Kept w wr) (fun _ t _ => slLen t)
  case atStart => exact ⟨now.length, [], now, an, cn, none, 0, Nat.le_refl _, by simp; omega, rfl, rfl, hcn.1, HN, nil_chunks _ _ _, fun d hd => by simp at hd, HRS, But.refl _ _ _⟩
  case round =>
    obtain ⟨n, out, r, a, c, a6, c6, hrn, hno, rfl, rfl, hrc, HR, HC, HD, HL, hkp⟩ := hrel
    have HKP : Hid (Kept w wr) := hkp
    have hwsz := hkp.size
    by_cases hlt : 0 < r.length
    · obtain ⟨n', hn'⟩ : ∃ n', n = n' + 1 := ⟨n - 1, by omega⟩
      subst hn'
      obtain ⟨b, hb⟩ : ∃ p, r[0]? = some p := ⟨_, List.getElem?_eq_getElem hlt⟩
      have hst := patch_step (old := old) (n := n') (out := out) hb
      have hbd := best_bd r old 0 (0, 0) (by simp) (by simp)
      have HLG : Hid (∀ W, Kept w W → Calls Try.prog 77 #[.slice ao old.length co, .slice a r.length c] W fun e w' => e = .returned (.agg #[.int .i64 ((bestL r 0 old (0, 0)).1 : Nat), .int .i64 ((bestL r 0 old (0, 0)).2 : Nat), .slice none 0 0]) ∧ Kept W w') := fun W k => ilong old r ao a co c W (HO.out.kept k) (HR.out.kept k) hol (by omega) hco.1
      obtain ⟨b1, o1, cap1, e1, q1⟩ := byt_get (HR.out.kept hkp) hb
      cases e1
      have q1 : wr.cell? ⟨b1, o1, none⟩ = some (.int .u8 (b.toNat : Int)) := q1
      generalize bestL r 0 old (0, 0) = BB at *
      obtain ⟨F, M⟩ := BB
      dsimp only at hst hbd HLG
      have HST : Hid (patchL old (n' + 1) out r = if 4 ≤ M then patchL old n' (out ++ [((F : Int), (M : Int), [])]) (r.drop M) else patchL old n' (withB out b) (r.drop 1)) := hst
      have HBD : Hid (F + M ≤ 0 + old.length ∧ M ≤ r.length) := hbd
      have hMr := hbd.2
      have d0 : decide (0 < (r.length : Int)) = true := decide_eq_true (by omega)
      clear hst hbd hb hkp
      by_cases hM : 4 ≤ M
      · have dM : decide (4 ≤ (M : Int)) = true := decide_eq_true (by omega)
        have HL2 : Hid (patchL old n' (out ++ [((F : Int), (M : Int), [])]) (r.drop M) = RES) := by show _ = _; rw [← HL.out, HST.out, if_pos hM]
        have hsl := fun W => slice_fr W (some ⟨b1, o1, none⟩) r.length c M hMr
        have hdb : BytAt w (.slice (if c = M then some ⟨b1, o1, none⟩ else (some ⟨b1, o1, none⟩ : Option Addr).map (·.add M)) (r.length - M) (c - M)) (r.drop M) := drop_byt HR.out rfl hMr hrc
        rw [show r.length - M = (r.drop M).length by simp] at hsl hdb
        generalize (if c = M then some ⟨b1, o1, none⟩ else (some ⟨b1, o1, none⟩ : Option Addr).map (·.add M)) = A9 at *
        have HDB : Hid (BytAt w (.slice A9 (r.drop M).length (c - M)) (r.drop M)) := hdb
        have hln9 : (r.drop M).length + M = r.length := by simp; omega
        generalize r.drop M = r9 at *
        have hc9 : r9.length ≤ c - M := by omega
        generalize c - M = C9 at *
        clear hdb HST
        repeat (first
          | (go_at_call 77
             refine (HLG.out _ (by repeat (first | with_reducible exact HKP.out | with_reducible apply But.alloc))).mono ?_
             rintro e w4 ⟨rfl, k4⟩
             have HK4 : Hid (Kept wr w4) := k4
             clear k4
             dsimp only)
          | (at_builtin; refine forgetL (fun w' => w' = _) rfl ?_) | go_values | go_skip | go_guarded | go_step | go_upon)
        intro W7 hW7
        rw [hW7]
        clear hW7 W7
        have L2 := Loc.new (w4.alloc (.cells #[.int .i64 (F : Nat), .int .i64 (M : Nat), .slice none 0 0] 108)) [.int .i64 (F : Nat), .int .i64 (M : Nat), .slice none 0 0] 108
        simp only [World.size_alloc] at L2
        have k42 := (((HK4.out).alloc (.cells #[.int .i64 (F : Nat), .int .i64 (M : Nat), .slice none 0 0] 108)).alloc (.cells #[.int .i64 (F : Nat), .int .i64 (M : Nat), .slice none 0 0] 108))
        have hs4 := HK4.out.size
        have hs42 := k42.size
        refine appw_chunks rfl _ _ rfl (lo := w.heap.size) (hi0 := wr.heap.size) (mid := w4.heap.size) rfl (HC.out.kept k42) hs4 rfl (F : Nat) (M : Nat) (.slice none 0 0) [] L2 rfl (nil_byt _ _ _) (by omega) (by simp; omega) (by omega) ?_
        intro v7 w7 hO7 hB7
        obtain ⟨a7, c7, rfl⟩ := hO7.form
        have hkp9 : Kept w w7 := But.onto (HKP.out.trans k42) hB7 (Nat.le_refl _)
        have HO7 : Hid (ChunksO w7 w.heap.size w7.heap.size (.slice a7 (out ++ [((F : Int), (M : Int), [])]).length c7) (out ++ [((F : Int), (M : Int), [])])) := hO7
        have HB7 : Hid (Kept w w7) := hkp9
        have hl7 : (out ++ [((F : Int), (M : Int), ([] : List UInt8))]).length = out.length + 1 := by simp
        have HD7 : Hid (∀ d ∈ out ++ [((F : Int), (M : Int), ([] : List UInt8))], d.2.2.length + n' ≤ 400) := fun d hd => by
          rcases List.mem_append.1 hd with h1 | h1
          · have := HD.out d h1; omega
          · simp at h1; subst h1; simp; omega
        generalize out ++ [((F : Int), (M : Int), ([] : List UInt8))] = out7 at *
        have L1 := (Loc.new w4 [.int .i64 (F : Nat), .int .i64 (M : Nat), .slice none 0 0] 108).alloc (.cells #[.int .i64 (F : Nat), .int .i64 (M : Nat), .slice none 0 0] 108)
        have v1 := hB7.cell (L1.cell 1 rfl) (Or.inr hs4)
        have vl := World.block_lt_of_cell? _ _ v1
        clear hO7 hB7 hkp9 L2 L1 k42 hs42
        try rw [← hl7]
        repeat (first | go_values | go_skip | go_guarded | go_step | go_upon)
        exact ⟨⟨n', out7, r9, A9, C9, a7, c7, by omega, by omega, by first | rfl | rw [hl7], rfl, hc9, HDB, HO7, HD7, HL2, HB7.out⟩, by simp [slLen]; omega⟩
      · have dM : decide (4 ≤ (M : Int)) = false := decide_eq_false (by omega)
        have HL2 : Hid (patchL old n' (withB out b) (r.drop 1) = RES) := by show _ = _; rw [← HL.out, HST.out, if_neg hM]
        have hsl := fun W => slice_fr W (some ⟨b1, o1, none⟩) r.length c 1 (by omega)
        have hdb : BytAt w (.slice (if c = 1 then some ⟨b1, o1, none⟩ else (some ⟨b1, o1, none⟩ : Option Addr).map (·.add 1)) (r.length - 1) (c - 1)) (r.drop 1) := drop_byt HR.out rfl (by omega) hrc
        rw [show r.length - 1 = (r.drop 1).length by simp] at hsl hdb
        have HA9 : Hid (∃ A, A = (if c = 1 then some ⟨b1, o1, none⟩ else (some ⟨b1, o1, none⟩ : Option Addr).map (·.add 1))) := ⟨_, rfl⟩
        obtain ⟨A9, hA9⟩ := HA9
        rw [← hA9] at hsl hdb
        have HA9 : Hid ((if c = 1 then some ⟨b1, o1, none⟩ else some ⟨b1, o1 + 1, none⟩ : Option Addr) = A9) := hA9.symm
        have HL9 : Hid (r.length - 1 = (r.drop 1).length) := by show _ = _; simp
        have HC9 : Hid (∃ C, c - 1 = C) := ⟨_, rfl⟩
        obtain ⟨C9, hC9⟩ := HC9
        rw [hC9] at hsl hdb
        have HC9 : Hid (c - 1 = C9) := hC9
        clear hA9 
        have HDB : Hid (BytAt w (.slice A9 (r.drop 1).length C9) (r.drop 1)) := hdb
        have hln9 : (r.drop 1).length + 1 = r.length := by simp; omega
        have HLen : Hid ((withB out b).length ≤ out.length + 1) := withB_len out b
        have HD7 : Hid (∀ d ∈ withB out b, d.2.2.length + n' ≤ 400) := fun d hd => by
          have := withB_bytes (out := out) (b := b) (N := 399 - n') (fun d hd => by have := HD.out d hd; omega) d hd
          omega
        have ql := World.block_lt_of_cell? _ _ q1
        generalize r.drop 1 = r9 at *
        have hc9 : r9.length ≤ C9 := by omega
        clear hC9
        have HWB : Hid (∀ W, Kept wr W → Calls Try.prog 78 #[.slice a6 out.length c6, .int .u8 (b.toNat : Int)] W fun e w' => ∃ v', e = .returned v' ∧ ChunksO w' w.heap.size w'.heap.size v' (withB out b) ∧ But w.heap.size wr.heap.size W w') := fun W k => iwith out b _ w.heap.size wr.heap.size W (HC.out.kept k) hwsz k.size (by omega) (fun d hd => by have := HD.out d hd; omega)
        generalize withB out b = out7 at *
        clear hdb HST
        repeat (first
          | (go_at_call 77
             refine (HLG.out _ (by repeat (first | with_reducible exact HKP.out | with_reducible apply But.alloc))).mono ?_
             rintro e w4 ⟨rfl, k4⟩
             have HK4 : Hid (Kept wr w4) := k4
             have q1 := Kept.cell k4 q1
             have ql := Nat.lt_of_lt_of_le ql k4.size
             clear k4
             dsimp only)
          | (go_at_call 78
             refine (HWB.out _ (by repeat (first | with_reducible exact HK4.out | with_reducible apply But.alloc))).mono ?_
             rintro e w7 ⟨v7, rfl, hO7, hB7⟩
             obtain ⟨a7, c7, rfl⟩ := hO7.form
             have HO7 : Hid (ChunksO w7 w.heap.size w7.heap.size (.slice a7 out7.length c7) out7) := hO7
             have HB7 : Hid (Kept w w7) := But.onto ((HKP.out.trans HK4.out).alloc _) hB7 (Nat.le_refl _)
             clear hO7 hB7
             dsimp only)
          | go_values | go_skip | go_guarded | go_step | go_upon)
        have hlen7 := HLen.out
        rw [HA9.out, HC9.out, HL9.out]
        exact ⟨⟨n', out7, r9, A9, C9, a7, c7, by omega, by omega, rfl, rfl, hc9, HDB, HO7, HD7, HL2, HB7.out⟩, by simp [slLen]; omega⟩
    · have hr0 : r = [] := List.length_eq_zero_iff.1 (by omega)
      subst hr0
      have hR : RES = out := by rw [← HL.out, patch_nil]
      subst hR
      clear hkp
      repeat (first | go_values | go_skip | go_guarded | go_step | go_upon)
      go_ret2
      exact ⟨_, rfl, HC.out, HKP.out⟩

end Go.Proofs.Ytipgffikmnebnaa
