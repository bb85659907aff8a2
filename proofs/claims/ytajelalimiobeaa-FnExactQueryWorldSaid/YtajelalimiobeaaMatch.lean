/-
  Which entities a query asks for: what the program's matches answers.
-/
import Derived.Test.YtajelalimiobeaaAsk
import Derived.Test.YtajelalimiobeaaFindP
namespace Go.Proofs.Ytajelalimiobeaa
open Go.ChangeShapes Go.WideShapes Go.ChangeAt Go.RowKit

/-- The first part of that name. -/
def lk (ps : List PD) (nm : ByteArray) : Option PD := ps.find? (fun p => decide (p.1 = nm))
def hasB (ps : List PD) (nm : ByteArray) : Bool := (lk ps nm).isSome
def freshAt (ps : List PD) (since : Int) (nm : ByteArray) : Bool := (lk ps nm).any (fun p => decide (since ≤ p.2.2))
def freshB (ps : List PD) (since : Int) (l : List ByteArray) : Bool := (since == 0) || l.any (freshAt ps since)
def withB (ps : List PD) (l : List ByteArray) : Bool := l.all (hasB ps)
def outB (ps : List PD) (l : List ByteArray) : Bool := l.all (fun s => !hasB ps s)
def mB (Q : QD) (ps : List PD) : Bool := withB ps Q.1 && outB ps Q.2.1 && freshB ps Q.2.2 Q.1
theorem lk_some {ps : List PD} {nm : ByteArray} {z : PD} (h : lk ps nm = some z) : ∃ k, ps[k]? = some z ∧ z.1 = nm ∧ ∀ (j : Nat) (y : PD), j < k → ps[j]? = some y → y.1 ≠ nm := by
  obtain ⟨h1, xs, ys, rfl, h2⟩ := List.find?_eq_some_iff_append.1 h
  refine ⟨xs.length, by simp, by simpa using h1, fun j y hj hy => ?_⟩
  rw [List.getElem?_append_left hj] at hy
  have := h2 y (List.mem_of_getElem? hy)
  simpa using this
theorem lk_none {ps : List PD} {nm : ByteArray} (h : lk ps nm = none) : ∀ z ∈ ps, z.1 ≠ nm := by
  intro z hz
  have := List.find?_eq_none.1 h z hz
  simpa using this
theorem withB_snoc (ps : List PD) (l : List ByteArray) (s : ByteArray) : withB ps (l ++ [s]) = (withB ps l && hasB ps s) := by simp [withB]
theorem outB_snoc (ps : List PD) (l : List ByteArray) (s : ByteArray) : outB ps (l ++ [s]) = (outB ps l && !hasB ps s) := by simp [outB]
theorem freshB_snoc (ps : List PD) (n : Int) (l : List ByteArray) (s : ByteArray) : freshB ps n (l ++ [s]) = (freshB ps n l || freshAt ps n s) := by simp [freshB, Bool.or_assoc]
theorem withB_no {ps : List PD} {l : List ByteArray} {k : Nat} {s : ByteArray} (h : l[k]? = some s) (hn : hasB ps s = false) : withB ps l = false := by
  unfold withB
  rw [List.all_eq_false]
  exact ⟨s, List.mem_of_getElem? h, by simp [hn]⟩
theorem outB_no {ps : List PD} {l : List ByteArray} {k : Nat} {s : ByteArray} (h : l[k]? = some s) (hn : hasB ps s = true) : outB ps l = false := by
  unfold outB
  rw [List.all_eq_false]
  exact ⟨s, List.mem_of_getElem? h, by simp [hn]⟩

set_option maxHeartbeats 4000000 in
theorem matches_ (Q : QD) (ps : List PD) (v v' : Value) (w : World) (hv : PartsAt w v ps) (hq : QAt w v' Q) (hr : RiseP ps) (hn : ps.length ≤ 1048576) (hl : qcost Q ≤ 1048576) :
    Calls Try.prog 55 #[v, v'] w fun e w' => e = .returned (.bool (mB Q ps)) ∧ Kept w w' := by
  obtain ⟨ao, n, cap, ao', n', cap', rfl, h1, h2⟩ := hq
  obtain ⟨bo, c, hsl⟩ := row_nil hv
  subst hsl
  obtain ⟨_, _, e⟩ := row_nil h1
  cases e
  obtain ⟨_, _, e⟩ := row_nil h2
  cases e
  have l1 : Q.1.length ≤ 1048576 := by unfold qcost scost at hl; omega
  have l2 : Q.2.1.length ≤ 1048576 := by unfold qcost scost at hl; omega
  go_enter Try.func55, Try.ntmps55
  go_wp2_with fail
  go_loopw [5, 20] (fun f i wr => ∃ (k : Nat) (fb : Bool), k ≤ Q.1.length ∧ i = .int .i64 k ∧ f = .bool fb ∧ fb = freshB ps Q.2.2 (Q.1.take k) ∧ withB ps (Q.1.take k) = true ∧ Loc wr w.heap.size [.slice ao Q.1.length cap, .slice ao' Q.2.1.length cap', .int .i64 Q.2.2] ∧ Kept w wr) (fun f i _ => Q.1.length - (intOf i).toNat)
  case atStart => exact ⟨0, _, by omega, rfl, rfl, by simp [freshB], by simp [withB], Loc.new _ [.slice ao Q.1.length cap, .slice ao' Q.2.1.length cap', .int .i64 Q.2.2] _, (But.refl _ _ _).alloc _⟩
  case round =>
    obtain ⟨k, fb, hk, rfl, rfl, hfb, hwb, hL, hkp⟩ := hrel
    have HF : Hid (fb = freshB ps Q.2.2 (Q.1.take k) ∧ withB ps (Q.1.take k) = true) := ⟨hfb, hwb⟩
    clear hfb hwb
    by_cases hlt : k < Q.1.length
    · obtain ⟨s, hs⟩ : ∃ s, Q.1[k]? = some s := ⟨_, List.getElem?_eq_getElem hlt⟩
      obtain ⟨b, o, cap1, e, c0⟩ := (h1.kept hkp).get hs
      cases e
      have HL : Hid _ := hL
      clear hL
      cases hf : lk ps s with
      | none =>
        go_wp2_with (go_at_call 78; refine (findP_no ps s (lk_none hf) _ _ (hv.kept hkp) hr hn).mono ?_; rintro e w' ⟨⟨k', rfl, _, _⟩, hk2⟩)
        go_ret
        exact ⟨ret_bool (by simp [mB, withB_no hs (show hasB ps s = false by simp [hasB, hf])]), hkp.trans hk2⟩
      | some z =>
        obtain ⟨kk, hz, he, _⟩ := lk_some hf
        have hkl := (List.getElem?_eq_some_iff.1 hz).1
        have HT : Hid (hasB ps s = true ∧ freshAt ps Q.2.2 s = decide (Q.2.2 ≤ z.2.2)) := ⟨by simp [hasB, hf], by simp [freshAt, hf]⟩
        have HW : Hid (withB ps (Q.1.take (k + 1)) = true) := show (_ = _) by rw [take_snoc hs, withB_snoc, HF.out.2, HT.out.1]; rfl
        have HN : Hid (freshB ps Q.2.2 (Q.1.take (k + 1)) = (fb || decide (Q.2.2 ≤ z.2.2))) := show (_ = _) by rw [take_snoc hs, freshB_snoc, ← HF.out.1, HT.out.2]
        clear hf HT
        go_wp2_with fail
        go_at_call 78; refine (findP_yes ps s kk z hz he _ _ (hv.kept hkp) hr hn).mono ?_; rintro e u1 ⟨rfl, hk2⟩
        have K1 := hkp.trans hk2
        have L1 := Loc.kept HL.out hk2
        obtain ⟨b2, o2, cap2, e2, _, _, d2⟩ := parts_get (hv.kept K1) hz
        cases e2
        have a2 := L1.cell 2 rfl
        have hkl' : (kk : Int) < (ps.length : Int) := by omega
        have hki : (0 : Int) ≤ (kk : Int) := by omega
        cases fb with
        | true =>
          go_wp2_with fail
          go_quiet (fail)
          go_wp2_with fail
          exact ⟨⟨k + 1, _, hlt, by go_num, rfl, by rw [HN.out]; rfl, HW.out, L1.kept ((But.refl _ _ _).drewN _), K1.drewN _⟩, by simp [intOf]; omega⟩
        | false =>
          go_wp2_with fail
          go_quiet (fail)
          go_wp2_with fail
          exact ⟨⟨k + 1, _, hlt, by go_num, rfl, by rw [HN.out]; rfl, HW.out, L1.kept ((But.refl _ _ _).drewN _), K1.drewN _⟩, by simp [intOf]; omega⟩
    · have hke : k = Q.1.length := by omega
      subst hke
      have HF : Hid (fb = freshB ps Q.2.2 Q.1 ∧ withB ps Q.1 = true) := by have := HF.out; rw [List.take_length] at this; exact this
      have a1 := hL.cell 1 rfl
      go_wp2_with fail
      clear a1
      go_loopw [47] (fun i w2 => ∃ (j : Nat), j ≤ Q.2.1.length ∧ i = .int .i64 j ∧ outB ps (Q.2.1.take j) = true ∧ Kept w w2) (fun i _ => Q.2.1.length - (intOf i).toNat)
      case atStart => exact ⟨0, by omega, rfl, by simp [outB], hkp⟩
      case round =>
        obtain ⟨j, hj, rfl, hob, hkp2⟩ := hrel
        have HO : Hid (outB ps (Q.2.1.take j) = true) := hob
        clear hob
        by_cases hjl : j < Q.2.1.length
        · obtain ⟨s, hs⟩ : ∃ s, Q.2.1[j]? = some s := ⟨_, List.getElem?_eq_getElem hjl⟩
          obtain ⟨b, o, cap1, e, c0⟩ := (h2.kept hkp2).get hs
          cases e
          cases hf : lk ps s with
          | none =>
            have HT : Hid (outB ps (Q.2.1.take (j + 1)) = true) := show (_ = _) by rw [take_snoc hs, outB_snoc, HO.out]; simp [hasB, hf]
            go_wp2_with (go_at_call 78; refine (findP_no ps s (lk_none hf) _ _ (hv.kept hkp2) hr hn).mono ?_; rintro e w' ⟨⟨k', rfl, _, _⟩, hk2⟩)
            exact ⟨⟨j + 1, hjl, by go_num, HT.out, hkp2.trans hk2⟩, by simp [intOf]; omega⟩
          | some z =>
            obtain ⟨kk, hz, he, _⟩ := lk_some hf
            go_wp2_with (go_at_call 78; refine (findP_yes ps s kk z hz he _ _ (hv.kept hkp2) hr hn).mono ?_; rintro e w' ⟨rfl, hk2⟩)
            go_ret
            exact ⟨ret_bool (by simp [mB, outB_no hs (show hasB ps s = true by simp [hasB, hf])]), hkp2.trans hk2⟩
        · have hje : j = Q.2.1.length := by omega
          subst hje
          have HO : Hid (outB ps Q.2.1 = true) := by have := HO.out; rw [List.take_length] at this; exact this
          go_wp2_with fail
          go_ret
          exact ⟨ret_bool (by simp [mB, HF.out.2, HO.out, HF.out.1]), hkp2⟩
end Go.Proofs.Ytajelalimiobeaa
