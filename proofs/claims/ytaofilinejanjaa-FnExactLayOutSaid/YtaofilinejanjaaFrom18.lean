/-
  Places from the greatest rest on, in the program.
-/
import Derived.Test.YtaofilinejanjaaClo18
import Derived.Test.YtaofilinejanjaaStb18
namespace Go.Proofs.Ytaofilinejanjaa
open Go.ChangeShapes Go.WideShapes Go.ChangeAt Go.RowKit

set_option maxRecDepth 100000
set_option linter.unusedVariables false

set_option maxHeartbeats 4000000 in
theorem issf (w0 : World) (g n cap lo hi Bx : Nat) (r : Int → Int) (hn4 : n ≤ 40) (hcm : CmpC w0 g n Bx r) (W : World) (h : Sw w0 g n cap lo hi (pl n) W) :
    Calls Try.prog 52 #[.slice (some ⟨g, 0, none⟩) n cap, (.func (.func 53) #[] #[.pointer (some ⟨Bx, 0, none⟩)])] W fun e W' => e = .returned (.tuple #[]) ∧ ∃ D, D.Perm (pl n) ∧ Srt r D ∧ Sw w0 g n cap lo hi D W' := by
  have HC : Hid _ := istb w0 g n cap lo hi Bx r hn4 hcm W h
  go_enter Try.func52, Try.ntmps52
  repeat (first | go_values | go_skip | go_guarded | go_step | go_upon)
  go_at_call 55
  refine Calls.mono HC.out ?_
  rintro e wD ⟨rfl, hD⟩
  have HD : Hid (∃ D, D.Perm (pl n) ∧ Srt r D ∧ Sw w0 g n cap lo hi D wD) := hD
  clear hD HC
  dsimp only
  repeat (first | go_values | go_skip | go_guarded | go_step | go_upon)
  go_end0
  exact ⟨rfl, HD.out⟩
theorem pl_snoc (k : Nat) : pl (k + 1) = pl k ++ [(k : Int)] := by simp [pl, List.range_succ]
theorem pl_rng (n : Nat) : ∀ x ∈ pl n, 0 ≤ x ∧ x < (n : Int) := fun x hx => by
  unfold pl at hx
  obtain ⟨i, hi, rfl⟩ := List.mem_map.1 hx
  have := List.mem_range.1 hi
  omega
set_option maxHeartbeats 8000000 in
theorem ifrom (l : List Int) (v : Value) (w : World) (hv : NumAt w v l) (hl1 : 1 ≤ l.length) (hl4 : l.length ≤ 40) :
    Calls Try.prog 49 #[v] w fun e w' => ∃ v' D, e = .returned v' ∧ D.Perm (pl l.length) ∧ Srt (rAt l) D ∧ NumO w' w.heap.size w'.heap.size v' D ∧ Kept w w' := by
  obtain ⟨p0, hp0⟩ : ∃ p, l[0]? = some p := ⟨_, List.getElem?_eq_getElem (by omega)⟩
  obtain ⟨b, o, cap, ee, c0⟩ := num_get hv hp0
  subst ee
  have hbw : b < w.heap.size := World.block_lt_of_cell? _ _ c0
  have HCL : Hid (∀ (i : Nat) (p : Int), l[i]? = some p → w.cell? ⟨b, o + i, none⟩ = some (.int .i64 p)) := fun i p hp => by
    obtain ⟨b', o', cap', e', c'⟩ := num_get hv hp
    cases e'
    exact c'
  have Lx := Loc.new w [.slice (some ⟨b, o, none⟩) l.length cap] 29
  have hcx := Lx.cell 0 rfl
  clear c0 hp0 hv
  go_enter Try.func49, Try.ntmps49
  repeat (first | go_values | go_skip | go_guarded | go_step | go_upon)
  have LX : Hid (Loc (w.alloc (.cells #[.slice (some ⟨b, o, none⟩) l.length cap] 29)) w.heap.size [.slice (some ⟨b, o, none⟩) l.length cap]) := Lx
  clear Lx hcx
  go_loopw [3, 7] (fun v i wr => ∃ (k : Nat), k ≤ l.length ∧ i = .int .i64 k ∧ NumO wr (w.heap.size + 1) wr.heap.size v (pl k) ∧ Loc wr w.heap.size [.slice (some ⟨b, o, none⟩) l.length cap] ∧ Kept w wr) (fun v i _ => l.length - (intOf i).toNat)
  case atStart => exact ⟨0, by omega, rfl, nil_num _ _ _, LX.out, (But.refl _ _ _).alloc _⟩
  case round =>
    obtain ⟨k, hk, rfl, ho, Lx, hkp⟩ := hrel
    obtain ⟨a5, p5, hf⟩ := ho.form
    rw [pl_len] at hf
    subst hf
    have HO : Hid (NumO wr (w.heap.size + 1) wr.heap.size (.slice a5 k p5) (pl k)) := ho
    have HK : Hid (Kept w wr) := hkp
    have HLX : Hid (Loc wr w.heap.size [.slice (some ⟨b, o, none⟩) l.length cap]) := Lx
    have s1 := hkp.size
    have hbx : w.heap.size < wr.heap.size := World.block_lt_of_cell? _ _ (Lx.cell 0 rfl)
    clear ho hkp Lx LX
    by_cases hlt : k < l.length
    · repeat (first | (at_builtin; refine forgetL (fun w' => w' = _) rfl ?_) | go_values | go_skip | go_guarded | go_step | go_upon)
      intro W7 hW7
      rw [hW7]
      clear hW7 W7
      refine app_num rfl _ _ rfl (lo := w.heap.size + 1) (hi := wr.heap.size) rfl (HO.out.kept ((But.refl _ _ wr).alloc _)) rfl (one_num (p := (k : Int)) (Loc.new wr [.int .i64 (k : Int)] 3)) rfl (by simp [pl_len]; omega) (by simp; omega) ?_
      intro v2 w2 o2 b2
      have HO2 : Hid (NumO w2 (w.heap.size + 1) w2.heap.size v2 (pl (k + 1))) := by
        have e : NumO w2 (w.heap.size + 1) w2.heap.size v2 (pl (k + 1)) := by rw [pl_snoc]; exact o2
        exact e
      have HK2 : Hid (Kept w w2) := But.onto (HK.out.alloc _) b2 (by omega)
      have HLX2 : Hid (Loc w2 w.heap.size [.slice (some ⟨b, o, none⟩) l.length cap]) := (HLX.out.alloc _).but b2 (by omega)
      clear o2 b2
      repeat (first | go_values | go_skip | go_guarded | go_step | go_upon)
      exact ⟨⟨k + 1, hlt, by go_num, HO2.out, HLX2.out, HK2.out⟩, by simp [intOf]; omega⟩
    · have hke : k = l.length := by omega
      subst hke
      obtain ⟨g, cap2, hf2, hgl⟩ : ∃ g cap2, Value.slice a5 l.length p5 = .slice (some ⟨g, 0, none⟩) l.length cap2 ∧ w.heap.size + 1 ≤ g := by
        rcases HO.out.1.2 with ⟨hf, h2⟩ | ⟨g, c2, cur, hf, h3⟩
        · exfalso
          rw [pl_len] at h2
          omega
        · rw [pl_len] at hf
          refine ⟨g, c2, hf, ?_⟩
          exact (HO.out.1.lt g (by rw [hf]; rfl)).1
      cases hf2
      have hcm := icmpC wr g w.heap.size b o cap l (by omega) (by omega) (HLX.out.cell 0 rfl) (fun i p hp => Kept.cell HK.out (HCL.out i p hp))
      have hc := issf wr g l.length p5 (w.heap.size + 1) wr.heap.size w.heap.size (rAt l) hl4 hcm wr ⟨HO.out, pl_len _, But.refl _ _ _, pl_rng _⟩
      have HC : Hid _ := hc
      clear hc hcm
      repeat (first | go_values | go_skip | go_guarded | go_step | go_upon)
      go_at_call 52
      refine Calls.mono HC.out ?_
      rintro e wD ⟨rfl, D, hD1, hD2, hD3⟩
      have HF : Hid (D.Perm (pl l.length) ∧ Srt (rAt l) D ∧ NumO wD w.heap.size wD.heap.size (.slice (some ⟨g, 0, none⟩) l.length p5) D ∧ Kept w wD) := show _ ∧ _ ∧ _ ∧ _ from ⟨hD1, hD2, (NumO.low hD3.own).mono (by omega) (Nat.le_refl _), HK.out.onto hD3.but (by omega)⟩
      clear hD1 hD2 hD3 HC
      dsimp only
      repeat (first | go_values | go_skip | go_guarded | go_step | go_upon)
      go_ret
      exact ⟨_, D, rfl, HF.out.1, HF.out.2.1, HF.out.2.2.1, HF.out.2.2.2⟩

end Go.Proofs.Ytaofilinejanjaa
