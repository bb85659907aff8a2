/-
  The next sort of a place, in the program.
-/
import Derived.Test.YtopakblckajdmaaFillM14
namespace Go.Proofs.Ytopakblckajdmaa
open Go.ChangeShapes Go.WideShapes Go.ChangeAt Go.RowKit

set_option maxRecDepth 100000
set_option linter.unusedVariables false
def nextV : Option Nat → Int
  | some t => (t : Int)
  | none => -1
set_option maxHeartbeats 8000000 in
theorem inext (tv : Value) (r : RulesD) (f : FieldD) (i : Nat) (o : Int) (w : World) (hv : TilAt w tv r f) (hg : GoodP r f) (hi : i < f.2.2.length) (ho : f.2.2[i]? = some o) :
    Calls Try.prog 73 #[tv, .int .i64 (i : Int)] w fun e w' => e = .returned (.tuple #[.int .i64 (nextV (nextT r f i o)), .bool (nextT r f i o).isSome]) ∧ Kept w w' := by
  obtain ⟨a1, c1, a2, c2, ao, cap, hfm, r1, r2, hf⟩ := hv
  have hv : TilAt w (.agg #[.int .i64 r.1, .slice a1 r.2.1.length c1, .slice a2 r.2.2.length c2, .int .i64 f.1, .int .i64 f.2.1, .slice ao f.2.2.length cap]) r f := ⟨a1, c1, a2, c2, ao, cap, rfl, r1, r2, hf⟩
  subst hfm
  obtain ⟨X, hX⟩ : ∃ x, nextT r f i o = x := ⟨_, rfl⟩
  have HX : Hid (nextT r f i o = X) := hX
  rw [hX]
  have HG : Hid (GoodP r f) := hg
  have hs := hg.1.1
  have hlen := good_len hg
  clear hg r1 r2 hX
  go_enter Try.func73, Try.ntmps73
  go_upto_region 1 with fail
  obtain ⟨W, hW⟩ : ∃ x, x = w.alloc (.cells #[.int .i64 r.1, .slice a1 r.2.1.length c1, .slice a2 r.2.2.length c2, .int .i64 f.1, .int .i64 f.2.1, .slice ao f.2.2.length cap] 66) := ⟨_, rfl⟩
  have kz : Kept w W := by rw [hW]; exact (But.refl _ _ _).alloc _
  have L0 : Loc W w.heap.size [.int .i64 r.1, .slice a1 r.2.1.length c1, .slice a2 r.2.2.length c2, .int .i64 f.1, .int .i64 f.2.1, .slice ao f.2.2.length cap] := by rw [hW]; exact Loc.new _ _ _
  rw [← hW]
  clear hW
  have p0 := L0.cell 0 rfl
  have p1 := L0.cell 1 rfl
  have p2 := L0.cell 2 rfl
  have p3 := L0.cell 3 rfl
  have p4 := L0.cell 4 rfl
  have p5 := L0.cell 5 rfl
  repeat (first | go_values | go_skip | go_guarded | go_step | go_upon)
  go_at_call 61
  refine (isorts _ r f i _ (hv.kept kz) HG.out (by omega) (by omega)).mono ?_
  rintro e u1 ⟨v1, rfl, o1, k1⟩
  obtain ⟨am, cm, hfm⟩ := o1.form
  subst hfm
  have kz := kz.trans k1
  have L0 := L0.kept k1
  clear p0 p1 p2 p3 p4 p5 k1
  have p5 := L0.cell 5 rfl
  have hml := cutL_len (fitB r f i) r.1.toNat
  obtain ⟨M, hM⟩ : ∃ M, mayL r f i = M := ⟨_, rfl⟩
  have hM6 : M.length ≤ 6 := by rw [← hM]; show (cutL _ _).length ≤ 6; omega
  have hin : ∀ t : Nat, (t : Int) < r.1 → fitB r f i t = true → (t : Int) ∈ M := fun t h1 h2 => by rw [← hM]; exact cut_mem.2 ⟨by omega, h2⟩
  have hout : ∀ x ∈ M, ∃ t : Nat, x = (t : Int) ∧ (t : Int) < r.1 ∧ fitB r f i t = true := fun x hx => by
    rw [← hM] at hx
    obtain ⟨t, e, h1, h2⟩ := cut_nat hx
    exact ⟨t, e, by omega, h2⟩
  have hsort : M.Pairwise (fun a b => a < b) := by rw [← hM]; exact cut_sorted _ _
  rw [hM] at o1 ⊢
  have HI : Hid _ := And.intro hin (And.intro hout hsort)
  clear hin hout hsort hM hml
  obtain ⟨bo, oo, cap0, ee, co⟩ := num_get (hf.kept kz) ho
  cases ee
  dsimp only
  repeat (first | go_values | go_skip | go_guarded | go_step | go_upon)
  go_loopw [12] (fun j wr => ∃ k : Nat, k ≤ M.length ∧ j = .int .i64 k ∧ Hid (∀ t : Nat, (t : Int) < r.1 → fitB r f i t = true → (t : Int) ≤ o ∨ (t : Int) ∈ M.drop k) ∧ u1 = wr) (fun j _ => M.length - (intOf j).toNat)
  case atStart => exact ⟨0, by omega, rfl, fun t h1 h2 => .inr (by simpa using HI.out.1 t h1 h2), rfl⟩
  case round =>
    obtain ⟨k, hk, rfl, HB, rfl⟩ := hrel
    by_cases hlt : k < M.length
    · obtain ⟨p, hp⟩ : ∃ p : Int, M[k]? = some p := ⟨_, List.getElem?_eq_getElem hlt⟩
      obtain ⟨b, oc, cap1, ee, c0⟩ := num_get o1.at hp
      cases ee
      have hdr : M.drop k = p :: M.drop (k + 1) := by rw [List.drop_eq_getElem_cons hlt]; rw [List.getElem?_eq_getElem hlt] at hp; cases hp; rfl
      have HP : Hid (M[k]? = some p ∧ M.drop k = p :: M.drop (k + 1)) := ⟨hp, hdr⟩
      clear hp hdr
      by_cases h1 : o < p
      · have d1 : decide (o < p) = true := decide_eq_true h1
        repeat (first | go_values | go_skip | go_guarded | go_step | go_upon)
        go_returns
        obtain ⟨hp, hdr⟩ := HP.out
        obtain ⟨hin, hout, hsort⟩ := HI.out
        obtain ⟨t, rfl, ht1, ht2⟩ := hout p (List.mem_of_getElem? hp)
        have hx : nextT r f i o = some t := by
          refine next_some ht1 h1 ht2 fun j hj hoj => ?_
          cases q : fitB r f i j with
          | false => rfl
          | true =>
            exfalso
            rcases HB.out j (by omega) q with h | h
            · omega
            · rw [hdr] at h
              rcases List.mem_cons.1 h with h | h
              · omega
              · have hs2 := hsort.sublist (List.drop_sublist k M)
                rw [hdr] at hs2
                have := (List.pairwise_cons.1 hs2).1 _ h
                omega
        rw [← HX.out, hx]
        exact ⟨rfl, kz⟩
      · have d1 : decide (o < p) = false := decide_eq_false h1
        repeat (first | go_values | go_skip | go_guarded | go_step | go_upon)
        refine ⟨⟨k + 1, hlt, by go_num, ?_, by first | rfl | trivial⟩, by simp [intOf]; omega⟩
        intro t ht1 ht2
        rcases HB.out t ht1 ht2 with h | h
        · exact .inl h
        · rw [HP.out.2] at h
          rcases List.mem_cons.1 h with h | h
          · exact .inl (by omega)
          · exact .inr h
    · have hke : k = M.length := by omega
      subst hke
      repeat (first | go_values | go_skip | go_guarded | go_step | go_upon)
      go_returns
      have hx : nextT r f i o = none := by
        refine next_none fun j hj hoj => ?_
        cases q : fitB r f i j with
        | false => rfl
        | true =>
          exfalso
          rcases HB.out j hj q with h | h
          · omega
          · simp at h
      rw [← HX.out, hx]
      exact ⟨rfl, kz⟩

end Go.Proofs.Ytopakblckajdmaa
