/-
  Lists of texts weighed, marked, and their marks found again.
-/
import Derived.Test.YtmoaihhllfkmiaaTxt
import Derived.Test.YtmoaihhllfkmiaaQuiet
namespace Go.Proofs.Ytmoaihhllfkmiaa
open Go.ChangeShapes Go.WideShapes Go.ChangeAt Go.RowKit
set_option maxRecDepth 100000

def txtSum (ps : List TxtD) : Nat := (ps.map fun p => p.size).sum
def txtCost (ps : List TxtD) : Nat := ps.length + txtSum ps
theorem txtSum_snoc (l : List TxtD) (p : TxtD) : txtSum (l ++ [p]) = txtSum l + p.size := by simp [txtSum]
theorem txtSum_take (l : List TxtD) (k : Nat) : txtSum (l.take k) ≤ txtSum l := by
  have h := congrArg txtSum (List.take_append_drop k l)
  have h2 : ∀ a b : List TxtD, txtSum (a ++ b) = txtSum a + txtSum b := fun a b => by simp [txtSum]
  rw [h2] at h
  omega
theorem txtSum_le {l : List TxtD} {k : Nat} {p : TxtD} (h : l[k]? = some p) : p.size ≤ txtSum l := by
  have := txtSum_take l (k + 1)
  rw [take_snoc h, txtSum_snoc] at this
  omega
set_option maxHeartbeats 1000000 in
theorem szTxtS (ps : List TxtD) (v : Value) (left : Int) (w : World) (hv : TxtAt w v ps) (hl : 0 ≤ left) (hm : left ≤ 1048576) (hn : ps.length ≤ 9223372036854775807) (hs : ∀ p ∈ ps, p.size ≤ 9223372036854775807) :
    Calls Try.prog 92 #[v, .int .i64 left] w fun e w' => e = .returned (.int .i64 (leftOf left (txtCost ps))) ∧ Kept w w' := by
  obtain ⟨ao, cap, hsl⟩ := row_nil hv
  subst hsl
  by_cases hc : left < (ps.length : Int)
  · go_enter Try.func92, Try.ntmps92
    go_wp2
    go_ret
    exact ⟨ret_int (leftOf_no (by unfold txtCost; omega)).symm, But.refl _ _ _⟩
  · have hc' : (ps.length : Int) ≤ left := by omega
    have hc2 : decide (left - (ps.length : Int) < 0) = false := by simp; omega
    go_enter Try.func92, Try.ntmps92
    go_wp2
    go_loopw [1, 5] (fun l i wr => ∃ (k : Nat) (c : Int), k ≤ ps.length ∧ i = .int .i64 k ∧ l = .int .i64 c ∧ c = left - ps.length - txtSum (ps.take k) ∧ 0 ≤ c ∧ Kept w wr) (fun l i _ => ps.length - (intOf i).toNat)
    case atStart => exact ⟨0, _, by omega, rfl, rfl, by simp [txtSum], by omega, But.refl _ _ _⟩
    case round =>
      obtain ⟨k, c, hk, rfl, rfl, hcv, h0, hkp⟩ := hrel
      have HC : Hid (c = left - ps.length - txtSum (ps.take k)) := hcv
      clear hcv
      by_cases hlt : k < ps.length
      · obtain ⟨p, hp⟩ : ∃ p, ps[k]? = some p := ⟨_, List.getElem?_eq_getElem hlt⟩
        obtain ⟨b, o, cap', e, c0⟩ := txt_get (hv.kept hkp) hp
        cases e
        have hcm : c ≤ 1048576 := by have := HC.out; omega
        have hps := hs p (List.mem_of_getElem? hp)
        have hsn := txtSum_snoc (ps.take k) p
        rw [← take_snoc hp] at hsn
        have hst := txtSum_take ps (k + 1)
        have HS : Hid (txtSum (ps.take (k + 1)) = txtSum (ps.take k) + p.size ∧ txtSum (ps.take (k + 1)) ≤ txtSum ps) := ⟨hsn, hst⟩
        clear hsn hst
        by_cases hle : (p.size : Int) ≤ c
        · have hd : decide (c - (p.size : Int) < 0) = false := by simp; omega
          go_wp2
          exact ⟨⟨k + 1, _, hlt, by go_num, rfl, by have := HC.out; have := HS.out; omega, by omega, hkp⟩, by simp [intOf]; omega⟩
        · have hd : decide (c - (p.size : Int) < 0) = true := by simp; omega
          go_wp2
          go_ret
          exact ⟨ret_int (leftOf_no (by have := HC.out; have := HS.out; unfold txtCost; omega)).symm, hkp⟩
      · have hke : k = ps.length := by omega
        subst hke
        go_wp2
        go_ret
        have := HC.out
        rw [List.take_length] at this
        exact ⟨ret_int (by rw [leftOf_yes (by unfold txtCost; omega)]; unfold txtCost; omega), hkp⟩

def mTxt (k n : Nat) : List TxtD := (List.range n).map fun i => mtext (k + i)
theorem mTxt_len (k n : Nat) : (mTxt k n).length = n := by simp [mTxt]
theorem mTxt_get (k n i : Nat) (h : i < n) : (mTxt k n)[i]? = some (mtext (k + i)) := by simp [mTxt, h]

set_option maxHeartbeats 2000000 in
theorem markTxtS (ps : List TxtD) (v : Value) (k lo hi : Nat) (w : World) (hv : TxtO w lo hi v ps) (hb : k + ps.length ≤ 1000000000000) :
    Calls Try.prog 23 #[v, .int .i64 (k : Int)] w fun e w' => e = .returned (.int .i64 ((k + ps.length : Nat) : Int)) ∧ TxtO w' lo hi v (mTxt k ps.length) ∧ But (blo v) (bhi v) w w' := by
  obtain ⟨ao, cap, hsl, _⟩ := own_form hv.1
  subst hsl
  go_enter Try.func23, Try.ntmps23
  go_wp2
  go_loopw [1, 5] (fun kk i wr => ∃ (j : Nat), j ≤ ps.length ∧ i = .int .i64 j ∧ kk = .int .i64 ((k + j : Nat) : Int) ∧ TxtO wr lo hi (.slice ao ps.length cap) (mix (mTxt k ps.length) ps j) ∧ But (blo (.slice ao ps.length cap)) (bhi (.slice ao ps.length cap)) w wr) (fun kk i _ => ps.length - (intOf i).toNat)
  case atStart => exact ⟨0, by omega, rfl, rfl, by rw [mix_zero]; exact hv, But.refl _ _ _⟩
  case round =>
    obtain ⟨j, hj, rfl, rfl, ho, hkp⟩ := hrel
    by_cases hlt : j < ps.length
    · obtain ⟨p, hp⟩ : ∃ p, ps[j]? = some p := ⟨_, List.getElem?_eq_getElem hlt⟩
      have hmg : (mix (mTxt k ps.length) ps j)[j]? = some p := by rw [mix_get _ _ _ (mTxt_len _ _) hlt]; exact hp
      have hml : ps.length = (mix (mTxt k ps.length) ps j).length := (mix_len _ _ _ (mTxt_len _ _) hj).symm
      obtain ⟨b, o, cap1, e, _⟩ := txt_get ho.at hmg
      rw [← hml] at e
      cases e
      obtain ⟨g', cap', hfm, _⟩ : ∃ g cap', Value.slice (some ⟨b, o, none⟩) ps.length cap = .slice (some ⟨g, 0, none⟩) ps.length cap' ∧ True := by
        rcases ho.1.2 with ⟨hf, _⟩ | ⟨g, c2, cur, hf, _⟩
        · cases hf
        · rw [← hml] at hf; exact ⟨g, c2, hf, trivial⟩
      cases hfm
      have hkb : k + j + 1 ≤ 1000000000000 := by omega
      have HP : Hid (TxtO wr lo hi (.slice (some ⟨b, 0, none⟩) ps.length cap) (mix (mTxt k ps.length) ps j)) := ho
      have HM : Hid (ps.length = (mix (mTxt k ps.length) ps j).length ∧ (mix (mTxt k ps.length) ps j)[j]? = some p) := ⟨hml, hmg⟩
      have HB : Hid _ := hkp
      have MT : Hid (∀ W, Calls Try.prog 59 #[.int .i64 ((k : Int) + (j : Int))] W fun e w' => e = .returned (.string (mtext (k + j))) ∧ Kept W w') := fun W => markText (k + j) (by omega) W
      clear ho hkp hv hml hmg
      repeat (first
        | (go_at_call 59; refine (MT.out _).mono ?_
           rintro e w2 ⟨rfl, k2⟩
           have O2 := HP.out.kept k2
           obtain ⟨d0, dz⟩ := O2.cells HM.out.2
           have dz0 := dz j
           have HS : Hid (TxtO (w2.setCell ⟨b, j, none⟩ (.string (mtext (k + j)))) lo hi (.slice (some ⟨b, 0, none⟩) ps.length cap) ((mix (mTxt k ps.length) ps j).set j (mtext (k + j)))) := O2.set HM.out.1 HM.out.2 (mtext (k + j))
           have HB2 : Hid (But (blo (.slice (some ⟨b, 0, none⟩) ps.length cap)) (bhi (.slice (some ⟨b, 0, none⟩) ps.length cap)) w w2) := HB.out.transK k2
           clear dz O2 k2
           dsimp only)
        | go_values | go_skip | go_guarded | go_step | go_upon)
      have hst := mix_set _ _ j _ (mTxt_len k ps.length) (mTxt_get k _ j hlt)
      refine ⟨⟨j + 1, hlt, by go_num, by congr 1, ?_, ?_⟩, by simp [intOf]; omega⟩
      · rw [← hst]
        exact HS.out
      · exact HB2.out.trans (but_set _ _ _ _ _ _)
    · have hke : j = ps.length := by omega
      subst hke
      go_wp2
      go_ret
      refine ⟨rfl, ?_, hkp⟩
      rw [mix_all _ _ _ (mTxt_len _ _) rfl] at ho
      exact ho

set_option maxHeartbeats 2000000 in
theorem heldTxtS (n : Nat) (v : Value) (k : Nat) (w : World) (hv : TxtAt w v (mTxt k n)) (hb : k + n ≤ 1000000000000) :
    Calls Try.prog 24 #[v, .int .i64 (k : Int)] w fun e w' => e = .returned (.int .i64 ((k + n : Nat) : Int)) ∧ Kept w w' := by
  obtain ⟨ao, cap, hsl⟩ := row_nil hv
  rw [mTxt_len] at hsl
  subst hsl
  go_enter Try.func24, Try.ntmps24
  go_wp2
  go_loopw [1, 5] (fun kk i wr => ∃ (j : Nat), j ≤ n ∧ i = .int .i64 j ∧ kk = .int .i64 ((k + j : Nat) : Int) ∧ Kept w wr) (fun kk i _ => n - (intOf i).toNat)
  case atStart => exact ⟨0, by omega, rfl, rfl, But.refl _ _ _⟩
  case round =>
    obtain ⟨j, hj, rfl, rfl, hkp⟩ := hrel
    by_cases hlt : j < n
    · obtain ⟨b, o, cap1, e, c0⟩ := txt_get (hv.kept hkp) (mTxt_get k n j hlt)
      rw [mTxt_len] at e
      cases e
      have z1 : (0 : Int) ≤ (j : Int) := by omega
      have z2 : (j : Int) < (n : Int) := by omega
      have HB : Hid _ := hkp
      have MT : Hid (∀ W, Calls Try.prog 59 #[.int .i64 ((k : Int) + (j : Int))] W fun e w' => e = .returned (.string (mtext (k + j))) ∧ Kept W w') := fun W => markText (k + j) (by omega) W
      have hgw : b < wr.heap.size := World.block_lt_of_cell? _ _ c0
      clear hkp hv
      repeat (first | go_values | go_skip | go_guarded | go_step | go_upon)
      refine wp_region_kept (by kernel_rfl) (by kernel_rfl) ?_
      have hne := kw_some wr
      have hcc := KW.cell_eq wr
      repeat (go_big_quiet_step (first | (go_at_call 59; exact kw_call (MT.out _))))
      refine wpQuiet_nil ?_
      rintro _ ⟨⟨w5, k5⟩, rfl⟩
      clear hcc hne
      repeat (first | go_values | go_skip | go_guarded | go_step | go_upon)
      exact ⟨⟨j + 1, hlt, by go_num, by congr 1, HB.out.trans k5⟩, by simp [intOf]; omega⟩
    · have hke : j = n := by omega
      subst hke
      go_wp2
      go_ret
      exact ⟨rfl, hkp⟩

end Go.Proofs.Ytmoaihhllfkmiaa
