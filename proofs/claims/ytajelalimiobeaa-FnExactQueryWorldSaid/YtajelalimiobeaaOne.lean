/-
  Rows of texts and of numbers: weighed, copied, held against each other, marked, and the marks found again.
-/
import Derived.Test.YtajelalimiobeaaMarks
import Derived.Test.YtajelalimiobeaaTo
import Derived.Test.YtajelalimiobeaaSize
namespace Go.Proofs.Ytajelalimiobeaa
open Go.ChangeShapes Go.WideShapes Go.ChangeAt Go.RowKit

/-- The slice value v has the elements l behind it, a cell each. -/
def OneAt {α : Type} (c : α → Value) (w : World) (v : Value) (l : List α) : Prop := RowAt w v l.length (l.map c)
/-- .. in a row of its own. -/
def OneO {α : Type} (c : α → Value) (e : TypeId) (w : World) (lo hi : Nat) (v : Value) (l : List α) : Prop := RowO w lo hi e 1 v l.length (l.map c)
abbrev cS : ByteArray → Value := Value.string
abbrev cI : Int → Value := Value.int .i64

section
variable {α : Type} {c : α → Value} {e : TypeId} {w w' : World} {lo hi : Nat} {v : Value} {l : List α}
theorem OneAt.kept (h : OneAt c w v l) (k : Kept w w') : OneAt c w' v l := RowAt.kept h k
theorem OneO.kept (h : OneO c e w lo hi v l) (k : Kept w w') : OneO c e w' lo hi v l := RowO.kept h k
theorem OneO.at (h : OneO c e w lo hi v l) : OneAt c w v l := own_row h.1
theorem OneAt.get (h : OneAt c w v l) {i : Nat} {a : α} (ha : l[i]? = some a) : ∃ b o cap, v = .slice (some ⟨b, o, none⟩) l.length cap ∧ w.cell? ⟨b, o + i, none⟩ = some (c a) := by
  obtain ⟨ao, cap, rfl, hc⟩ := h
  obtain ⟨b, o, rfl, h1⟩ := hc i (c a) (by rw [List.getElem?_map, ha]; rfl)
  exact ⟨b, o, cap, rfl, h1⟩
theorem OneO.cells {g cap n : Nat} (h : OneO c e w lo hi (.slice (some ⟨g, 0, none⟩) n cap) l) {i : Nat} {a : α} (ha : l[i]? = some a) : w.cell? ⟨g, i, none⟩ = some (c a) ∧ w.frozen? ⟨g, i, none⟩ = false := by
  obtain ⟨g', cap', e1, _, h1, h2, _⟩ := own_cell h.1 (j := i) (x := c a) (by rw [List.getElem?_map, ha]; rfl)
  cases e1
  exact ⟨h1, h2⟩
theorem OneO.set {g cap n : Nat} (h : OneO c e w lo hi (.slice (some ⟨g, 0, none⟩) n cap) l) (hn : n = l.length) (i : Nat) (a : α) : OneO c e (w.setCell ⟨g, i, none⟩ (c a)) lo hi (.slice (some ⟨g, 0, none⟩) n cap) (l.set i a) := by
  subst hn
  have := RowO.set h i (c a)
  unfold OneO
  rw [List.length_set, List.map_set]
  exact this
theorem OneO.form (h : OneO c e w lo hi v l) : ∃ ao cap, v = .slice ao l.length cap := by
  obtain ⟨ao, cap, e1, _⟩ := own_form h.1
  exact ⟨ao, cap, e1⟩
end

theorem info9 : (Try.prog.info? 9).map (fun i => (i.zero, i.size, i.bytes)) = some (some (.string ByteArray.empty), 1, 16) := by kernel_rfl
def ssum (ss : List ByteArray) : Nat := (ss.map ByteArray.size).sum
def scost (ss : List ByteArray) : Nat := ss.length + ssum ss
theorem ssum_snoc (l : List ByteArray) (p : ByteArray) : ssum (l ++ [p]) = ssum l + p.size := by simp [ssum]
theorem ssum_take (l : List ByteArray) (k : Nat) : ssum (l.take k) ≤ ssum l := by
  have h := congrArg ssum (List.take_append_drop k l)
  have h2 : ∀ a b : List ByteArray, ssum (a ++ b) = ssum a + ssum b := fun a b => by simp [ssum]
  rw [h2] at h
  omega
theorem text_le {l : List ByteArray} {k : Nat} {p : ByteArray} (h : l[k]? = some p) : p.size ≤ ssum l := by
  have := ssum_take l (k + 1)
  rw [take_snoc h, ssum_snoc] at this
  omega

set_option maxHeartbeats 1000000 in
theorem szStringS (ss : List ByteArray) (v : Value) (left : Int) (w : World) (hv : OneAt cS w v ss) (hl : 0 ≤ left) (hm : left ≤ 1048576) (hn : ss.length ≤ 9223372036854775807) (hs : ∀ p ∈ ss, p.size ≤ 9223372036854775807) :
    Calls Try.prog 81 #[v, .int .i64 left] w fun e w' => e = .returned (.int .i64 (leftOf left (scost ss))) ∧ Kept w w' := by
  obtain ⟨ao, cap, hsl⟩ := row_nil hv
  subst hsl
  by_cases hc : left < (ss.length : Int)
  · go_enter Try.func81, Try.ntmps81
    go_wp2
    go_ret
    exact ⟨ret_int (leftOf_no (by unfold scost; omega)).symm, But.refl _ _ _⟩
  · have hc' : (ss.length : Int) ≤ left := by omega
    have hc2 : decide (left - (ss.length : Int) < 0) = false := by simp; omega
    go_enter Try.func81, Try.ntmps81
    go_wp2
    go_loopw [1, 5] (fun l i wr => ∃ (k : Nat) (c : Int), k ≤ ss.length ∧ i = .int .i64 k ∧ l = .int .i64 c ∧ c = left - ss.length - ssum (ss.take k) ∧ 0 ≤ c ∧ Kept w wr) (fun l i _ => ss.length - (intOf i).toNat)
    case atStart => exact ⟨0, _, by omega, rfl, rfl, by simp [ssum], by omega, But.refl _ _ _⟩
    case round =>
      obtain ⟨k, c, hk, rfl, rfl, hcv, h0, hkp⟩ := hrel
      have HC : Hid (c = left - ss.length - ssum (ss.take k)) := hcv
      clear hcv
      by_cases hlt : k < ss.length
      · obtain ⟨p, hp⟩ : ∃ p, ss[k]? = some p := ⟨_, List.getElem?_eq_getElem hlt⟩
        obtain ⟨b, o, cap', e, c0⟩ := (hv.kept hkp).get hp
        cases e
        have hcm : c ≤ 1048576 := by have := HC.out; omega
        have hps := hs p (List.mem_of_getElem? hp)
        have hsn := ssum_snoc (ss.take k) p
        rw [← take_snoc hp] at hsn
        have hst := ssum_take ss (k + 1)
        have HS : Hid (ssum (ss.take (k + 1)) = ssum (ss.take k) + p.size ∧ ssum (ss.take (k + 1)) ≤ ssum ss) := ⟨hsn, hst⟩
        clear hsn hst
        by_cases hle : (p.size : Int) ≤ c
        · have hd : decide (c - (p.size : Int) < 0) = false := by simp; omega
          go_wp2
          exact ⟨⟨k + 1, _, hlt, by go_num, rfl, by have := HC.out; have := HS.out; omega, by omega, hkp⟩, by simp [intOf]; omega⟩
        · have hd : c - (p.size : Int) < 0 := by omega
          go_wp2
          go_ret
          exact ⟨ret_int (leftOf_no (by have := HC.out; have := HS.out; unfold scost; omega)).symm, hkp⟩
      · have hke : k = ss.length := by omega
        subst hke
        go_wp2
        go_ret
        have := HC.out
        rw [List.take_length] at this
        exact ⟨ret_int (by rw [leftOf_yes (by unfold scost; omega)]; unfold scost; omega), hkp⟩

set_option maxHeartbeats 1000000 in
theorem toStringS (ss : List ByteArray) (v : Value) (w : World) (hv : OneAt cS w v ss) (hl : ss.length ≤ 1048576) :
    Calls Try.prog 82 #[v] w fun e w' => ∃ v', e = .returned v' ∧ OneO cS 9 w' w.heap.size w'.heap.size v' ss ∧ Kept w w' := by
  obtain ⟨ao, cap, hsl⟩ := row_nil hv
  subst hsl
  obtain ⟨i0, hi, hz0, hz1, hz2⟩ := info_parts info9
  have hmk : (Instr.makeSlice 26 (.int .i64 (ss.length : Int)) (.int .i64 (ss.length : Int))).run Try.prog w = .ok (.slice (some ⟨w.heap.size, 0, none⟩) ss.length ss.length) (w.alloc (.cells (madeCells #[.string ByteArray.empty] ss.length) 9)) := by
    have := run_make (P := Try.prog) w 26 9 i0 _ Try.underlying26 hi hz0 .i64 .i64 (ss.length : Int) (ss.length : Int) (by omega) (by omega) (by rw [hz2]; omega) (by omega)
    rw [this, hz1]
    simp [Value.cells]
  have hm := row_made w w.heap.size 9 #[.string ByteArray.empty] 1 (by omega) (fun s : ByteArray => [cS s]) ByteArray.empty (fun _ => rfl) rfl ss.length (Nat.le_refl _) (by unfold maxLen; omega)
  clear hi hz0 hz1 hz2
  go_enter Try.func82, Try.ntmps82
  go_wp2
  clear hmk
  go_loopw [4] (fun i wr => ∃ k : Nat, k ≤ ss.length ∧ i = .int .i64 k ∧ OneO cS 9 wr w.heap.size (w.heap.size + 1) (.slice (some ⟨w.heap.size, 0, none⟩) ss.length ss.length) (ss.take k ++ List.replicate (ss.length - k) ByteArray.empty) ∧ Kept w wr) (fun i _ => ss.length - (intOf i).toNat)
  case atStart => exact ⟨0, by omega, rfl, by simpa [OneO, List.flatMap_singleton', List.flatMap] using hm, (But.refl _ _ _).alloc _⟩
  case round =>
    obtain ⟨k, hk, rfl, ho, hkp⟩ := hrel
    by_cases hlt : k < ss.length
    · obtain ⟨p, hp⟩ : ∃ p, ss[k]? = some p := ⟨_, List.getElem?_eq_getElem hlt⟩
      obtain ⟨b, o, cap', e, c0⟩ := (hv.kept hkp).get hp
      cases e
      obtain ⟨d0, dz⟩ := ho.cells (fill_get ss ByteArray.empty hlt)
      have HS : Hid _ := ho.set (fill_len ss ByteArray.empty (by omega)).symm k p
      clear hm ho
      go_wp2
      refine ⟨⟨k + 1, hlt, by go_num, by rw [← fill_set ss ByteArray.empty hp]; exact HS.out, ?_⟩, by simp [intOf]; omega⟩
      exact hkp.setNew (by simp) _
    · have hke : k = ss.length := by omega
      subst hke
      clear hm
      go_wp2
      go_ret
      refine ⟨_, rfl, ?_, hkp⟩
      simp only [Nat.sub_self, List.replicate_zero, List.append_nil, List.take_length] at ho
      exact RowO.low ho

set_option maxHeartbeats 1000000 in
theorem eqStringS (ss : List ByteArray) (v v' : Value) (w : World) (hv : OneAt cS w v ss) (hv' : OneAt cS w v' ss) (hn : ss.length ≤ 9000000000000000000) :
    Calls Try.prog 83 #[v, v'] w fun e w' => e = .returned (.bool true) ∧ Kept w w' := by
  obtain ⟨ao, cap, hsl⟩ := row_nil hv
  subst hsl
  obtain ⟨ao', cap', hsl⟩ := row_nil hv'
  subst hsl
  go_enter Try.func83, Try.ntmps83
  go_wp2
  go_loopw [5] (fun i wr => ∃ (k : Nat), k ≤ ss.length ∧ i = .int .i64 k ∧ Kept w wr) (fun i _ => ss.length - (intOf i).toNat)
  case atStart => exact ⟨0, by omega, rfl, But.refl _ _ _⟩
  case round =>
    obtain ⟨k, hk, rfl, hkp⟩ := hrel
    by_cases hlt : k < ss.length
    · obtain ⟨p, hp⟩ : ∃ p, ss[k]? = some p := ⟨_, List.getElem?_eq_getElem hlt⟩
      obtain ⟨b, o, cap1, e, c0⟩ := (hv.kept hkp).get hp
      cases e
      obtain ⟨b', o', cap1', e, c0'⟩ := (hv'.kept hkp).get hp
      cases e
      have z1 : (0 : Int) ≤ (k : Int) := by omega
      have z2 : (k : Int) < (ss.length : Int) := by omega
      go_wp2_with fail
      go_region_held3 (fun w' => w'.cell? ⟨b, o + k, none⟩ = some (.string p) ∧ w'.cell? ⟨b', o' + k, none⟩ = some (.string p)) (simp [go_sem, *]) (first | fail)
      go_wp2
      exact ⟨⟨k + 1, hlt, by go_num, hkp.drew⟩, by simp [intOf]; omega⟩
    · have hke : k = ss.length := by omega
      subst hke
      go_wp2
      go_ret
      exact ⟨rfl, hkp⟩

set_option maxHeartbeats 1000000 in
theorem eqIntS (ss : List Int) (v v' : Value) (w : World) (hv : OneAt cI w v ss) (hv' : OneAt cI w v' ss) (hn : ss.length ≤ 9000000000000000000) :
    Calls Try.prog 40 #[v, v'] w fun e w' => e = .returned (.bool true) ∧ Kept w w' := by
  obtain ⟨ao, cap, hsl⟩ := row_nil hv
  subst hsl
  obtain ⟨ao', cap', hsl⟩ := row_nil hv'
  subst hsl
  go_enter Try.func40, Try.ntmps40
  go_wp2
  go_loopw [5] (fun i wr => ∃ (k : Nat), k ≤ ss.length ∧ i = .int .i64 k ∧ Kept w wr) (fun i _ => ss.length - (intOf i).toNat)
  case atStart => exact ⟨0, by omega, rfl, But.refl _ _ _⟩
  case round =>
    obtain ⟨k, hk, rfl, hkp⟩ := hrel
    by_cases hlt : k < ss.length
    · obtain ⟨p, hp⟩ : ∃ p, ss[k]? = some p := ⟨_, List.getElem?_eq_getElem hlt⟩
      obtain ⟨b, o, cap1, e, c0⟩ := (hv.kept hkp).get hp
      cases e
      obtain ⟨b', o', cap1', e, c0'⟩ := (hv'.kept hkp).get hp
      cases e
      have z1 : (0 : Int) ≤ (k : Int) := by omega
      have z2 : (k : Int) < (ss.length : Int) := by omega
      go_wp2_with fail
      go_region_held3 (fun w' => w'.cell? ⟨b, o + k, none⟩ = some (.int .i64 p) ∧ w'.cell? ⟨b', o' + k, none⟩ = some (.int .i64 p)) (simp [go_sem, *]) (first | fail)
      go_wp2
      exact ⟨⟨k + 1, hlt, by go_num, hkp.drew⟩, by simp [intOf]; omega⟩
    · have hke : k = ss.length := by omega
      subst hke
      go_wp2
      go_ret
      exact ⟨rfl, hkp⟩

def mints (k n : Nat) : List Int := (List.range n).map fun i => ((k + i : Nat) : Int)
theorem mints_len (k n : Nat) : (mints k n).length = n := by simp [mints]
theorem mints_get (k n i : Nat) (h : i < n) : (mints k n)[i]? = some ((k + i : Nat) : Int) := by simp [mints, h]
def mtexts (k n : Nat) : List ByteArray := (List.range n).map fun i => mtext (k + i)
theorem mtexts_len (k n : Nat) : (mtexts k n).length = n := by simp [mtexts]
theorem mtexts_get (k n i : Nat) (h : i < n) : (mtexts k n)[i]? = some (mtext (k + i)) := by simp [mtexts, h]

set_option maxHeartbeats 2000000 in
theorem markIntS (ns : List Int) (v : Value) (k lo hi : Nat) (w : World) (hv : OneO cI 3 w lo hi v ns) (hb : k + ns.length ≤ 1000000000000) :
    Calls Try.prog 43 #[v, .int .i64 (k : Int)] w fun e w' => e = .returned (.int .i64 ((k + ns.length : Nat) : Int)) ∧ OneO cI 3 w' lo hi v (mints k ns.length) ∧ But (blo v) (bhi v) w w' := by
  obtain ⟨ao, cap, hsl⟩ := hv.form
  subst hsl
  go_enter Try.func43, Try.ntmps43
  go_wp2
  go_loopw [1, 5] (fun kk i wr => ∃ (j : Nat), j ≤ ns.length ∧ i = .int .i64 j ∧ kk = .int .i64 ((k + j : Nat) : Int) ∧ OneO cI 3 wr lo hi (.slice ao ns.length cap) (mix (mints k ns.length) ns j) ∧ But (blo (.slice ao ns.length cap)) (bhi (.slice ao ns.length cap)) w wr) (fun kk i _ => ns.length - (intOf i).toNat)
  case atStart => exact ⟨0, by omega, rfl, rfl, by rw [mix_zero]; exact hv, But.refl _ _ _⟩
  case round =>
    obtain ⟨j, hj, rfl, rfl, ho, hkp⟩ := hrel
    by_cases hlt : j < ns.length
    · obtain ⟨p, hp⟩ : ∃ p, ns[j]? = some p := ⟨_, List.getElem?_eq_getElem hlt⟩
      have hmg : (mix (mints k ns.length) ns j)[j]? = some p := by rw [mix_get _ _ _ (mints_len _ _) hlt]; exact hp
      have hml : ns.length = (mix (mints k ns.length) ns j).length := (mix_len _ _ _ (mints_len _ _) hj).symm
      obtain ⟨g, cap', hfm, _⟩ : ∃ g cap', Value.slice ao ns.length cap = .slice (some ⟨g, 0, none⟩) ns.length cap' ∧ True := by
        obtain ⟨b, o, cap1, e, _⟩ := ho.at.get hmg
        rcases ho.1.2 with ⟨hf, _⟩ | ⟨g, c2, cur, hf, _⟩
        · rw [hf] at e; cases e
        · rw [← hml] at hf; exact ⟨g, c2, hf, trivial⟩
      cases hfm
      obtain ⟨d0, dz⟩ := ho.cells hmg
      have hst := ho.set hml j ((k + j : Nat) : Int)
      rw [mix_set _ _ j _ (mints_len k ns.length) (mints_get k _ j hlt)] at hst
      have hkb : k + j ≤ 1000000000000 := by omega
      generalize hK : k + j = K at *
      have HK : Hid (k + j = K) := hK
      have HS : Hid _ := hst
      have HB : Hid _ := hkp
      clear hK ho hkp hv hml hmg hst
      go_wp2
      have hK := HK.out
      refine ⟨⟨j + 1, hlt, by go_num, by congr 1; omega, HS.out, HB.out.trans (but_set _ _ _ _ _ _)⟩, by simp [intOf]; omega⟩
    · have hke : j = ns.length := by omega
      subst hke
      go_wp2
      go_ret
      refine ⟨rfl, ?_, hkp⟩
      rw [mix_all _ _ _ (mints_len _ _) rfl] at ho
      exact ho

set_option maxHeartbeats 2000000 in
theorem heldIntS (n : Nat) (v : Value) (k : Nat) (w : World) (hv : OneAt cI w v (mints k n)) (hb : k + n ≤ 1000000000000) :
    Calls Try.prog 44 #[v, .int .i64 (k : Int)] w fun e w' => e = .returned (.int .i64 ((k + n : Nat) : Int)) ∧ Kept w w' := by
  obtain ⟨ao, cap, hsl⟩ := row_nil hv
  rw [mints_len] at hsl
  subst hsl
  go_enter Try.func44, Try.ntmps44
  go_wp2
  go_loopw [1, 5] (fun kk i wr => ∃ (j : Nat), j ≤ n ∧ i = .int .i64 j ∧ kk = .int .i64 ((k + j : Nat) : Int) ∧ Kept w wr) (fun kk i _ => n - (intOf i).toNat)
  case atStart => exact ⟨0, by omega, rfl, rfl, But.refl _ _ _⟩
  case round =>
    obtain ⟨j, hj, rfl, rfl, hkp⟩ := hrel
    by_cases hlt : j < n
    · obtain ⟨b, o, cap1, e, c0⟩ := (hv.kept hkp).get (mints_get k n j hlt)
      rw [mints_len] at e
      cases e
      have hkb : k + j ≤ 1000000000000 := by omega
      generalize hK : k + j = K at *
      have HK : Hid (k + j = K) := hK
      clear hK hv
      go_wp2
      have hK := HK.out
      exact ⟨⟨j + 1, hlt, by go_num, by congr 1; omega, hkp⟩, by simp [intOf]; omega⟩
    · have hke : j = n := by omega
      subst hke
      go_wp2
      go_ret
      exact ⟨rfl, hkp⟩

set_option maxHeartbeats 2000000 in
theorem markStringS (ns : List ByteArray) (v : Value) (k lo hi : Nat) (w : World) (hv : OneO cS 9 w lo hi v ns) (hb : k + ns.length ≤ 1000000000000) :
    Calls Try.prog 84 #[v, .int .i64 (k : Int)] w fun e w' => e = .returned (.int .i64 ((k + ns.length : Nat) : Int)) ∧ OneO cS 9 w' lo hi v (mtexts k ns.length) ∧ But (blo v) (bhi v) w w' := by
  obtain ⟨ao, cap, hsl⟩ := hv.form
  subst hsl
  go_enter Try.func84, Try.ntmps84
  go_wp2
  go_loopw [1, 5] (fun kk i wr => ∃ (j : Nat), j ≤ ns.length ∧ i = .int .i64 j ∧ kk = .int .i64 ((k + j : Nat) : Int) ∧ OneO cS 9 wr lo hi (.slice ao ns.length cap) (mix (mtexts k ns.length) ns j) ∧ But (blo (.slice ao ns.length cap)) (bhi (.slice ao ns.length cap)) w wr) (fun kk i _ => ns.length - (intOf i).toNat)
  case atStart => exact ⟨0, by omega, rfl, rfl, by rw [mix_zero]; exact hv, But.refl _ _ _⟩
  case round =>
    obtain ⟨j, hj, rfl, rfl, ho, hkp⟩ := hrel
    by_cases hlt : j < ns.length
    · obtain ⟨p, hp⟩ : ∃ p, ns[j]? = some p := ⟨_, List.getElem?_eq_getElem hlt⟩
      have hmg : (mix (mtexts k ns.length) ns j)[j]? = some p := by rw [mix_get _ _ _ (mtexts_len _ _) hlt]; exact hp
      have hml : ns.length = (mix (mtexts k ns.length) ns j).length := (mix_len _ _ _ (mtexts_len _ _) hj).symm
      obtain ⟨g, cap', hfm, _⟩ : ∃ g cap', Value.slice ao ns.length cap = .slice (some ⟨g, 0, none⟩) ns.length cap' ∧ True := by
        obtain ⟨b, o, cap1, e, _⟩ := ho.at.get hmg
        rcases ho.1.2 with ⟨hf, _⟩ | ⟨g, c2, cur, hf, _⟩
        · rw [hf] at e; cases e
        · rw [← hml] at hf; exact ⟨g, c2, hf, trivial⟩
      cases hfm
      have hms := mix_set _ _ j _ (mtexts_len k ns.length) (mtexts_get k _ j hlt)
      have hkb : k + j ≤ 1000000000000 := by omega
      generalize hK : k + j = K at *
      have HK : Hid (k + j = K ∧ ns.length = (mix (mtexts k ns.length) ns j).length ∧ (mix (mtexts k ns.length) ns j)[j]? = some p ∧ (mix (mtexts k ns.length) ns j).set j (mtext K) = mix (mtexts k ns.length) ns (j + 1)) := ⟨hK, hml, hmg, hms⟩
      have HP : Hid _ := ho
      have HB : Hid _ := hkp
      clear hK ho hkp hv hml hmg hms
      go_wp2_with (go_at_call 113; refine (markText K hkb _).mono ?_; rintro e w' ⟨rfl, hk2⟩
                   have ho2 : OneO cS 9 w' lo hi (.slice (some ⟨g, 0, none⟩) ns.length cap) (mix (mtexts k ns.length) ns j) := OneO.kept HP.out hk2
                   obtain ⟨d0, dz⟩ := ho2.cells HK.out.2.2.1
                   have d5 := ho2.set HK.out.2.1 j (mtext K)
                   rw [HK.out.2.2.2] at d5
                   have HS : Hid _ := d5
                   clear d5 ho2)
      have hK := HK.out.1
      refine ⟨⟨j + 1, hlt, by go_num, by congr 1; omega, HS.out, (HB.out.transK hk2).trans (but_set _ _ _ _ _ _)⟩, by simp [intOf]; omega⟩
    · have hke : j = ns.length := by omega
      subst hke
      go_wp2
      go_ret
      refine ⟨rfl, ?_, hkp⟩
      rw [mix_all _ _ _ (mtexts_len _ _) rfl] at ho
      exact ho
end Go.Proofs.Ytajelalimiobeaa
