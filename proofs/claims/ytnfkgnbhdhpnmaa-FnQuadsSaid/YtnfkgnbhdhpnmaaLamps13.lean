/-
  Lamps, on both sides, and light in the program.
-/
import Derived.Test.YtnfkgnbhdhpnmaaSteps13
import Derived.Test.YtnfkgnbhdhpnmaaLight13
namespace Go.Proofs.Ytnfkgnbhdhpnmaa
open Go.ChangeShapes Go.WideShapes Go.ChangeAt Go.RowKit

/-- Lamps that rise from one on, below a number. -/
def lampsB (N : Int) : Int → List Int → Bool
  | _, [] => true
  | last, x :: xs => (decide (last < x) && decide (x < N)) && lampsB N x xs
def lampsOk (N : Int) (ls : List Int) : Bool := decide (ls.length ≤ 20) && lampsB N (-1) ls
/-- The last of the first lamps. -/
def lastL (ls : List Int) (k : Nat) : Int := if k = 0 then -1 else ls.getD (k - 1) 0
theorem lastL_succ {ls : List Int} {k : Nat} {x : Int} (h : ls[k]? = some x) : lastL ls (k + 1) = x := by
  unfold lastL
  rw [if_neg (by omega), Nat.add_sub_cancel, List.getD_eq_getElem?_getD, h]
  rfl
theorem lampsB_step {N last x : Int} {ls : List Int} {k : Nat} (h : ls[k]? = some x) : lampsB N last (ls.drop k) = ((decide (last < x) && decide (x < N)) && lampsB N x (ls.drop (k + 1))) := by
  obtain ⟨hk, hx⟩ := List.getElem?_eq_some_iff.1 h
  rw [List.drop_eq_getElem_cons hk, hx]
  rfl
theorem lamps_nat {N : Int} : ∀ (ls : List Int) (last : Int), -1 ≤ last → lampsB N last ls = true → ∃ first : List Nat, ls = first.map (fun c : Nat => (c : Int)) ∧ (∀ c ∈ first, last < (c : Int) ∧ (c : Int) < N) ∧ first.Nodup
  | [], _, _, _ => ⟨[], rfl, fun c hc => by simp at hc, by simp⟩
  | x :: xs, last, hl, h => by
    simp only [lampsB, Bool.and_eq_true, decide_eq_true_eq] at h
    obtain ⟨⟨h1, h2⟩, h3⟩ := h
    obtain ⟨fs, e, hf, hn⟩ := lamps_nat xs x (by omega) h3
    obtain ⟨y, rfl⟩ := Int.eq_ofNat_of_zero_le (show 0 ≤ x by omega)
    refine ⟨y :: fs, by rw [e]; rfl, fun c hc => ?_, ?_⟩
    · rcases List.mem_cons.1 hc with rfl | hc
      · exact ⟨h1, h2⟩
      · have := hf c hc; omega
    · rw [List.nodup_cons]
      exact ⟨fun hy => by have := hf y hy; omega, hn⟩
theorem nat_back (first : List Nat) : (first.map (fun c : Nat => (c : Int))).map Int.toNat = first := by
  rw [List.map_map]
  conv => rhs; rw [← List.map_id first]
  apply List.map_congr_left
  intro c _
  simp
/-- Where lamps stand, and which cells are next to which through air. -/
def lampF (ls : List Int) : Nat → Prop := fun x => x ∈ ls.map Int.toNat
def airE (a b d : Int) (l : List Int) : Nat → Nat → Prop := EW (nxtM a b d) (fun k => getI l (k : Int) == 0) 6
/-- What LightOf answers. -/
noncomputable def lightA (a b d : Int) (l ls : List Int) : List Int × Bool := @ite _ (BlocksP a b d l ∧ lampsOk (l.length : Int) ls = true) (Classical.propDecidable _) ((List.range l.length).map (lightV (lampF ls) (airE a b d l)), true) ([], false)
theorem lightA_yes {a b d : Int} {l ls : List Int} (h : BlocksP a b d l ∧ lampsOk (l.length : Int) ls = true) : lightA a b d l ls = ((List.range l.length).map (lightV (lampF ls) (airE a b d l)), true) := if_pos h
theorem lightA_no {a b d : Int} {l ls : List Int} (h : ¬ (BlocksP a b d l ∧ lampsOk (l.length : Int) ls = true)) : lightA a b d l ls = ([], false) := if_neg h
theorem lightA_len (a b d : Int) (l ls : List Int) : (lightA a b d l ls).1.length ≤ l.length := by
  unfold lightA
  split <;> simp
/-- A row that has at each cell its light. -/
theorem row_light {s : List Int} {N : Nat} {f : Nat → Int} (hl : s.length = N) (h : ∀ c, c < N → sv s c = f c) : s = (List.range N).map f := by
  apply List.ext_getElem?
  intro i
  by_cases hi : i < N
  · rw [sv_get (by omega), h i hi]
    simp [hi]
  · rw [List.getElem?_eq_none (by omega), List.getElem?_eq_none (by simp; omega)]

set_option maxRecDepth 100000
set_option linter.unusedVariables false
set_option maxHeartbeats 4000000 in
theorem ilight1 (a b d : Int) (l : List Int) (ao : Option Addr) (cap k Bb : Nat) (w : World) (hv : NumAt w (.slice ao l.length cap) l) (hk : k < l.length) (Lb : Loc w Bb [.int .i64 a, .int .i64 b, .int .i64 d, .slice ao l.length cap]) :
    Calls Try.prog 59 #[.int .i64 (k : Int), .pointer (some ⟨Bb, 0, none⟩)] w fun e w' => e = .returned (.bool (getI l (k : Int) == 0)) ∧ Kept w w' := by
  have v0 := Lb.cell 0 rfl
  have v1 := Lb.cell 1 rfl
  have v2 := Lb.cell 2 rfl
  have v3 := Lb.cell 3 rfl
  go_enter Try.func59, Try.ntmps59
  repeat (first | (go_at_call 57; refine (iair a b d (k : Int) l ao cap _ hv (by omega) (by omega)).mono ?_; rintro e u1 ⟨rfl, k1⟩; (try dsimp only)) | go_values | go_skip | go_guarded | go_step | go_upon)
  go_ret
  exact ⟨rfl, k1⟩
set_option maxHeartbeats 4000000 in
theorem ilamps (a b d : Int) (l ls : List Int) (ao po : Option Addr) (cap pcap : Nat) (w : World) (hv : NumAt w (.slice ao l.length cap) l) (hp : NumAt w (.slice po ls.length pcap) ls) (hl : l.length ≤ 1048576) (hls : ls.length ≤ 1048576) :
    Calls Try.prog 58 #[.agg #[.int .i64 a, .int .i64 b, .int .i64 d, .slice ao l.length cap], .slice po ls.length pcap] w fun e w' => e = .returned (.bool (lampsOk (l.length : Int) ls)) ∧ Kept w w' := by
  by_cases h20 : ls.length ≤ 20
  · have d20 : decide ((20 : Int) < (ls.length : Int)) = false := by simp; omega
    have hok : lampsOk (l.length : Int) ls = lampsB (l.length : Int) (-1) ls := by unfold lampsOk; rw [decide_eq_true h20]; rfl
    rw [hok]
    clear hok
    go_enter Try.func58, Try.ntmps58
    repeat (first | go_values | go_skip | go_guarded | go_step | go_upon)
    clear d20
    go_loopw [5, 13] (fun lv i wr => ∃ k : Nat, k ≤ ls.length ∧ i = .int .i64 k ∧ lv = .int .i64 (lastL ls k) ∧ Hid (lampsB (l.length : Int) (-1) ls = lampsB (l.length : Int) (lastL ls k) (ls.drop k)) ∧ Hid (Kept w wr ∧ Loc wr w.heap.size [.int .i64 a, .int .i64 b, .int .i64 d, .slice ao l.length cap])) (fun _ i _ => ls.length - (intOf i).toNat)
    case atStart => exact ⟨0, by omega, rfl, rfl, rfl, (But.refl _ _ _).alloc _, Loc.new _ _ _⟩
    case round =>
      obtain ⟨k, hk, rfl, rfl, HB, HK⟩ := hrel
      have v3 := HK.out.2.cell 3 rfl
      by_cases hlt : k < ls.length
      · obtain ⟨x, hx⟩ : ∃ x, ls[k]? = some x := ⟨_, List.getElem?_eq_getElem hlt⟩
        obtain ⟨pg, po', pcap', ee, c0⟩ := num_get (hp.kept HK.out.1) hx
        cases ee
        have HX : Hid (ls[k]? = some x) := hx
        clear hx
        by_cases q1 : x ≤ lastL ls k
        · have d1 : decide (x ≤ lastL ls k) = true := decide_eq_true q1
          repeat (first | go_values | go_skip | go_guarded | go_step | go_upon)
          go_ret
          refine ⟨ret_bool ?_, HK.out.1⟩
          rw [HB.out, lampsB_step HX.out, decide_eq_false (show ¬ lastL ls k < x by omega)]
          rfl
        · have d1 : decide (x ≤ lastL ls k) = false := decide_eq_false q1
          by_cases q2 : (l.length : Int) ≤ x
          · have d2 : decide ((l.length : Int) ≤ x) = true := decide_eq_true q2
            repeat (first | go_values | go_skip | go_guarded | go_step | go_upon)
            go_ret
            refine ⟨ret_bool ?_, HK.out.1⟩
            rw [HB.out, lampsB_step HX.out, decide_eq_false (show ¬ x < (l.length : Int) by omega)]
            simp
          · have d2 : decide ((l.length : Int) ≤ x) = false := decide_eq_false q2
            repeat (first | go_values | go_skip | go_guarded | go_step | go_upon)
            refine ⟨⟨k + 1, hlt, by go_num, by rw [lastL_succ HX.out], ?_, HK⟩, by simp [intOf]; omega⟩
            show _ = _
            rw [HB.out, lampsB_step HX.out, lastL_succ HX.out, decide_eq_true (show lastL ls k < x by omega), decide_eq_true (show x < (l.length : Int) by omega)]
            rfl
      · have hke : k = ls.length := by omega
        subst hke
        repeat (first | go_values | go_skip | go_guarded | go_step | go_upon)
        go_ret
        refine ⟨ret_bool ?_, HK.out.1⟩
        rw [HB.out, List.drop_length]
        rfl
  · have d20 : decide ((20 : Int) < (ls.length : Int)) = true := by simp; omega
    have hok : lampsOk (l.length : Int) ls = false := by unfold lampsOk; rw [decide_eq_false h20]; rfl
    rw [hok]
    go_enter Try.func58, Try.ntmps58
    repeat (first | go_values | go_skip | go_guarded | go_step | go_upon)
    go_ret
    exact ⟨rfl, (But.refl _ _ _).alloc _⟩

end Go.Proofs.Ytnfkgnbhdhpnmaa
