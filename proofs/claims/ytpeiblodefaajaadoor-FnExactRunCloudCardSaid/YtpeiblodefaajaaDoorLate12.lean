/-
  What the program makes of sparks one step later.
-/
import Derived.Test.YtpeiblodefaajaaDoorDel12
namespace Go.Proofs.YtpeiblodefaajaaDoor
open Go.ChangeShapes Go.WideShapes Go.ChangeAt Go.RowKit

set_option maxRecDepth 100000
set_option linter.unusedVariables false
theorem map_set (f : SparkD → SparkD) (l : List SparkD) (k : Nat) (x : SparkD) (h : l[k]? = some x) : ((l.take k).map f ++ l.drop k).set k (f x) = (l.take (k + 1)).map f ++ l.drop (k + 1) := by
  have hk : k < l.length := (List.getElem?_eq_some_iff.1 h).1
  have hl : ((l.take k).map f).length = k := by simp; omega
  have hd : l.drop k = x :: l.drop (k + 1) := by rw [List.drop_eq_getElem_cons hk]; congr 1; exact (List.getElem?_eq_some_iff.1 h).2
  rw [List.set_append_right _ _ (by omega), hl, Nat.sub_self, hd, List.set_cons_zero, take_snoc h, List.map_append, List.append_assoc]
  rfl
theorem map_get (f : SparkD → SparkD) (l : List SparkD) (k : Nat) (x : SparkD) (h : l[k]? = some x) : ((l.take k).map f ++ l.drop k)[k]? = some x := by
  have hk : k < l.length := (List.getElem?_eq_some_iff.1 h).1
  have hl : ((l.take k).map f).length = k := by simp; omega
  rw [List.getElem?_append_right (by omega), hl, Nat.sub_self, List.getElem?_drop]
  simpa using h
theorem map_len (f : SparkD → SparkD) (l : List SparkD) (k : Nat) (h : k ≤ l.length) : ((l.take k).map f ++ l.drop k).length = l.length := by simp; omega
set_option maxHeartbeats 4000000 in
theorem isparksLater (l : List SparkD) (fa : Int) (v : Value) (w : World) (hv : SparkAt w v l) (hl : l.length ≤ 60) (hp : ∀ p ∈ l, SparkP p) (hf : -1000000 ≤ fa ∧ fa ≤ 1000000) :
    Calls Tryd.prog 45 #[v, .int .i64 fa] w fun e w' => ∃ cap, e = .returned (.slice (some ⟨w.heap.size, 0, none⟩) (laterL fa l).length cap) ∧ SparkO w' w.heap.size (w.heap.size + 1) (.slice (some ⟨w.heap.size, 0, none⟩) (laterL fa l).length cap) (laterL fa l) ∧ Kept w w' ∧ w.heap.size < w'.heap.size := by
  have HP : Hid (∀ p ∈ l, SparkP p) := hp
  have HF : Hid (-1000000 ≤ fa ∧ fa ≤ 1000000) := hf
  obtain ⟨ao, cap, hsl⟩ := row_nil hv
  subst hsl
  clear hp hf
  go_enter Tryd.func45, Tryd.ntmps45
  repeat (first | go_values | go_skip | go_guarded | go_step | go_upon)
  go_at_call 28
  refine (icopy l _ _ hv (by omega)).mono ?_
  rintro e u1 ⟨rfl, o1, k1, s1⟩
  have HO1 : Hid (SparkO u1 w.heap.size (w.heap.size + 1) (.slice (some ⟨w.heap.size, 0, none⟩) l.length l.length) l) := o1
  have HK1 : Hid (Kept w u1) := k1
  have HS1 : Hid (u1.heap.size = w.heap.size + 1) := s1
  clear o1 k1 s1 hv
  dsimp only
  repeat (first | go_values | go_skip | go_guarded | go_step | go_upon)
  go_loopw [11] (fun i wr => ∃ k : Nat, k ≤ l.length ∧ i = .int .i64 k ∧ SparkO wr w.heap.size (w.heap.size + 1) (.slice (some ⟨w.heap.size, 0, none⟩) l.length l.length) ((l.take k).map (laterS fa) ++ l.drop k) ∧ Kept w wr ∧ w.heap.size < wr.heap.size) (fun i _ => l.length - (intOf i).toNat)
  case atStart => exact ⟨0, by omega, rfl, by simpa using HO1.out, HK1.out, by have := HS1.out; omega⟩
  case round =>
    obtain ⟨k, hk, rfl, ho, hkp, hlt2⟩ := hrel
    have HKP : Hid (Kept w wr) := hkp
    clear HO1 HK1 HS1 hkp
    by_cases hlt : k < l.length
    · obtain ⟨x, hx⟩ : ∃ x, l[k]? = some x := ⟨_, List.getElem?_eq_getElem hlt⟩
      have HXP : Hid (SparkP x) := HP.out x (List.mem_of_getElem? hx)
      obtain ⟨c0, c1, c2, c3, c4, -⟩ := ho.cells (map_get (laterS fa) l k x hx)
      have HX : Hid (l[k]? = some x) := hx
      have HO : Hid (SparkO wr w.heap.size (w.heap.size + 1) (.slice (some ⟨w.heap.size, 0, none⟩) l.length l.length) ((l.take k).map (laterS fa) ++ l.drop k)) := ho
      clear hx ho
      repeat (first
        | (go_at_call 66; refine (isparkLater x fa _ HXP.out HF.out).mono ?_; rintro e w2 ⟨rfl, k2⟩
           have HK2 : Hid (Kept wr w2) := k2
           have ho2 := HO.out.kept HK2.out
           obtain ⟨d0, d1, d2, d3, d4, dz⟩ := ho2.cells (map_get (laterS fa) l k x HX.out)
           have z0 := dz (k * 5)
           have z1 := dz (k * 5 + 1)
           have z2 := dz (k * 5 + 2)
           have z3 := dz (k * 5 + 3)
           have z4 := dz (k * 5 + 4)
           obtain ⟨q1, q2, q3, q4, hst⟩ := ho2.store (map_len (laterS fa) l k (by omega)).symm (map_get (laterS fa) l k x HX.out) (laterS fa x)
           rw [map_set (laterS fa) l k x HX.out] at hst
           have HST : Hid (SparkO _ w.heap.size (w.heap.size + 1) (.slice (some ⟨w.heap.size, 0, none⟩) l.length l.length) ((l.take (k + 1)).map (laterS fa) ++ l.drop (k + 1))) := hst
           have hs2 := k2.size
           clear hst dz ho2 k2 c0 c1 c2 c3 c4
           dsimp only)
        | go_values | go_skip | go_guarded | go_step | go_upon)
      exact ⟨⟨k + 1, hlt, by go_num, HST.out, (((((HKP.out.trans HK2.out).setNew (Nat.le_refl _) _).setNew (Nat.le_refl _) _).setNew (Nat.le_refl _) _).setNew (Nat.le_refl _) _).setNew (Nat.le_refl _) _, by simp; omega⟩, by simp [intOf]; omega⟩
    · have hke : k = l.length := by omega
      subst hke
      have hN : SparkO wr w.heap.size (w.heap.size + 1) (.slice (some ⟨w.heap.size, 0, none⟩) l.length l.length) (l.map (laterS fa)) := by
        simpa using ho
      have hml : (l.map (laterS fa)).length = l.length := by simp
      rw [← hml] at hN
      have HN : Hid (SparkO wr w.heap.size (w.heap.size + 1) (.slice (some ⟨w.heap.size, 0, none⟩) (l.map (laterS fa)).length (l.map (laterS fa)).length) (l.map (laterS fa))) := hN
      have HML : Hid ((l.map (laterS fa)).length = l.length) := hml
      clear hN ho hml
      repeat (first | go_values | go_skip | go_guarded | go_step | go_upon)
      go_at_call 67
      have hd := deleteFunc (l.map (laterS fa)) w.heap.size (l.map (laterS fa)).length w.heap.size (w.heap.size + 1) wr HN.out (by rw [HML.out]; omega)
      rw [HML.out] at hd
      refine hd.mono ?_
      rintro e u3 ⟨rfl, o3, b3⟩
      have HO3 : Hid (SparkO u3 w.heap.size (w.heap.size + 1) (.slice (some ⟨w.heap.size, 0, none⟩) (laterL fa l).length l.length) (laterL fa l)) := o3
      have HB3 : Hid (But w.heap.size (w.heap.size + 1) wr u3) := b3
      have s3 := b3.size
      clear o3 b3 hd
      dsimp only
      repeat (first | go_values | go_skip | go_guarded | go_step | go_upon)
      go_ret
      exact ⟨l.length, rfl, HO3.out, HKP.out.onto HB3.out (Nat.le_refl _), by omega⟩

end Go.Proofs.YtpeiblodefaajaaDoor
