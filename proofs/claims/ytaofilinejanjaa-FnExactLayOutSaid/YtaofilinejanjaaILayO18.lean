/-
  LayOut in the program.
-/
import Derived.Test.YtaofilinejanjaaLayO18
import Derived.Test.YtaofilinejanjaaILay18
import Derived.Test.YtaofilinejanjaaGoodI18
import Derived.Deep.Cut
namespace Go.Proofs.Ytaofilinejanjaa
open Go.ChangeShapes Go.WideShapes Go.ChangeAt Go.RowKit

set_option maxRecDepth 100000
set_option linter.unusedVariables false

set_option maxHeartbeats 16000000 in
theorem ilayout (l : List BoxD) (wide high : Int) (vl : Value) (w : World) (hv : BoxAt w vl l) (hn : l.length ≤ 1048576) :
    Calls Try.prog 20 #[vl, .int .i64 wide, .int .i64 high] w fun e w' => ∃ v', e = .returned (.tuple #[v', .bool (dec (LayOk l wide high))]) ∧ PlacedO w' w.heap.size w'.heap.size v' (layR l wide high) ∧ Kept w w' := by
  obtain ⟨ao, cap, hsl⟩ := row_nil hv
  subst hsl
  have G1 : ∀ q, dec (BoxesP l) = q → Hid (Calls Try.prog 11 #[.slice ao l.length cap] w fun e w' => e = .returned (.bool q) ∧ Kept w w') := fun q hq => by rw [← hq]; exact igood l _ w hv hn
  have HV : Hid (BoxAt w (.slice ao l.length cap) l) := hv
  clear hv
  cases q1 : dec (BoxesP l) with
  | false =>
    have A1 := G1 _ q1
    have no : ¬ LayOk l wide high := fun h => of_dec_no q1 h.1
    rw [dec_no no, layR_no no]
    clear G1 no q1
    go_enter Try.func20, Try.ntmps20
    repeat (first | (go_at_call 11; refine (A1.out).mono ?_; rintro e w1 ⟨rfl, k1⟩; dsimp only) | go_values | go_skip | go_guarded | go_step | go_upon)
    go_returns
    exact ⟨_, rfl, nil_placed _ _ _, k1⟩
  | true =>
  have A1 := G1 _ q1
  have hB := of_dec q1
  cases q2 : decide (0 ≤ wide ∧ wide ≤ 10000) with
  | false =>
    have no : ¬ LayOk l wide high := fun h => absurd (decide_eq_true h.2.1) (by rw [q2]; simp)
    rw [dec_no no, layR_no no]
    clear G1 no q1 hB
    go_enter Try.func20, Try.ntmps20
    repeat (first | (go_at_call 11; refine (A1.out).mono ?_; rintro e w1 ⟨rfl, k1⟩; dsimp only) | go_values | go_skip | go_guarded | go_step | go_upon)
    go_at_call 36; refine (iroom _ _).mono ?_; rintro e w2 ⟨rfl, hw2⟩; rw [hw2, q2]; clear hw2 w2; dsimp only
    repeat (first | go_values | go_skip | go_guarded | go_step | go_upon)
    go_returns
    exact ⟨_, rfl, nil_placed _ _ _, k1⟩
  | true =>
  have hW := of_decide_eq_true q2
  cases q3 : decide (0 ≤ high ∧ high ≤ 10000) with
  | false =>
    have no : ¬ LayOk l wide high := fun h => absurd (decide_eq_true h.2.2) (by rw [q3]; simp)
    rw [dec_no no, layR_no no]
    clear G1 no q1 hB hW
    go_enter Try.func20, Try.ntmps20
    repeat (first | (go_at_call 11; refine (A1.out).mono ?_; rintro e w1 ⟨rfl, k1⟩; dsimp only) | go_values | go_skip | go_guarded | go_step | go_upon)
    go_at_call 36; refine (iroom _ _).mono ?_; rintro e w2 ⟨rfl, hw2⟩; rw [hw2, q2]; clear hw2 w2; dsimp only
    repeat (first | go_values | go_skip | go_guarded | go_step | go_upon)
    go_at_call 36; refine (iroom _ _).mono ?_; rintro e w2 ⟨rfl, hw2⟩; rw [hw2, q3]; clear hw2 w2; dsimp only
    repeat (first | go_values | go_skip | go_guarded | go_step | go_upon)
    go_returns
    exact ⟨_, rfl, nil_placed _ _ _, k1⟩
  | true =>
  have hH := of_decide_eq_true q3
  have yes : LayOk l wide high := ⟨hB, hW, hH⟩
  rw [dec_yes yes, layR_yes yes]
  have HY : Hid (LayOk l wide high) := yes
  have h1 := hB.1
  have h40 := hB.2.1
  clear G1 yes q1 hB hW hH
  have hmk := make_placed l.length hn
  go_enter Try.func20, Try.ntmps20
  repeat (first | (go_at_call 11; refine (A1.out).mono ?_; rintro e w1 ⟨rfl, k1⟩; dsimp only) | go_values | go_skip | go_guarded | go_step | go_upon)
  go_at_call 36; refine (iroom _ _).mono ?_; rintro e w2 ⟨rfl, hw2⟩; rw [hw2, q2]; clear hw2 w2; dsimp only
  repeat (first | go_values | go_skip | go_guarded | go_step | go_upon)
  go_at_call 36; refine (iroom _ _).mono ?_; rintro e w2 ⟨rfl, hw2⟩; rw [hw2, q3]; clear hw2 w2; dsimp only
  have hmp := made_placed l.length hn w1
  repeat (go_not_at_region 4; first | go_values | go_skip | go_guarded | go_step | go_upon)
  obtain ⟨G, hG⟩ : ∃ G, w1.heap.size = G := ⟨_, rfl⟩
  rw [hG] at hmp ⊢
  refine forgetC (fun W => PlacedO W G (G + 1) (.slice (some ⟨G, 0, none⟩) l.length l.length) (List.replicate l.length placed0) ∧ Kept w1 W) ⟨hmp, (But.refl _ _ _).alloc _⟩ ?_
  have HG : Hid (w1.heap.size = G ∧ w.heap.size ≤ G) := ⟨hG, by have := k1.size; omega⟩
  have HK1 : Hid (Kept w w1) := k1
  clear hmp hG hmk k1 A1
  intro W hW
  have hmp := hW.1
  have hkW := hW.2
  clear hW
  have hget : (List.replicate l.length placed0)[0]? = some placed0 := by rw [List.getElem?_replicate, if_pos (by omega)]
  obtain ⟨d0, d1, d2, d3, dz⟩ := hmp.cells (i := 0) (p := placed0) hget
  obtain ⟨m1, m2, m3, mm⟩ := hmp.store (by simp) (i := 0) (p := placed0) hget (0, 0, wide, high)
  have dz0 := dz 0
  have dz1 := dz 1
  have dz2 := dz 2
  have dz3 := dz 3
  simp only [Nat.zero_mul, Nat.zero_add, placed0] at d0 d1 d2 d3 m1 m2 m3 mm
  have B5 : But G (G + 1) W ((((W.setCell ⟨G, 0, none⟩ (.int .i64 0)).setCell ⟨G, 1, none⟩ (.int .i64 0)).setCell ⟨G, 2, none⟩ (.int .i64 wide)).setCell ⟨G, 3, none⟩ (.int .i64 high)) := ((((But.refl _ _ _).setCell (by simp) (by simp) _).setCell (by simp) (by simp) _).setCell (by simp) (by simp) _).setCell (by simp) (by simp) _
  have HMM : Hid (PlacedO ((((W.setCell ⟨G, 0, none⟩ (.int .i64 0)).setCell ⟨G, 1, none⟩ (.int .i64 0)).setCell ⟨G, 2, none⟩ (.int .i64 wide)).setCell ⟨G, 3, none⟩ (.int .i64 high)) G (G + 1) (.slice (some ⟨G, 0, none⟩) l.length l.length) (layA l wide high 0)) := by
    show PlacedO _ _ _ _ _
    rw [layA]
    exact mm
  have HKM : Hid (Kept w ((((W.setCell ⟨G, 0, none⟩ (.int .i64 0)).setCell ⟨G, 1, none⟩ (.int .i64 0)).setCell ⟨G, 2, none⟩ (.int .i64 wide)).setCell ⟨G, 3, none⟩ (.int .i64 high))) := But.onto (HK1.out.trans hkW) B5 HG.out.2
  have HLW : Hid (G < W.heap.size) := World.block_lt_of_cell? _ _ d0
  clear dz mm hmp hget B5 hkW
  repeat (first | go_values | go_skip | go_guarded | go_step | go_upon)
  clear d0 d1 d2 d3 m1 m2 m3 dz0 dz1 dz2 dz3
  go_loopw [33] (fun i wr => ∃ u : Nat, u ≤ l.length ∧ i = .int .i64 (u : Int) ∧ PlacedO wr G (G + 1) (.slice (some ⟨G, 0, none⟩) l.length l.length) (layA l wide high u) ∧ Kept w wr) (fun i _ => l.length - (intOf i).toNat)
  case atStart => exact ⟨0, by omega, rfl, HMM.out, HKM.out⟩
  case round =>
    obtain ⟨u, hu, rfl, ho, hkp⟩ := hrel
    have HO : Hid (PlacedO wr G (G + 1) (.slice (some ⟨G, 0, none⟩) l.length l.length) (layA l wide high u)) := ho
    have HK : Hid (Kept w wr) := hkp
    by_cases hlt : u < l.length
    · have hgl : G + 1 ≤ wr.heap.size := (own_lt ho.1 (g := G) rfl).2
      have CC : Hid (Calls Try.prog 40 #[.slice ao l.length cap, .int .i64 (u : Int), .slice (some ⟨G, 0, none⟩) l.length l.length] wr fun e w' => e = .returned (.tuple #[]) ∧ PlacedO w' G (G + 1) (.slice (some ⟨G, 0, none⟩) l.length l.length) (layB l (layA l wide high u) u) ∧ But G (G + 1) wr w') := ilay l (layA l wide high u) u (400100 * (u : Int)) _ _ G (G + 1) wr (HV.out.kept hkp) ho hgl HY.out.1 hlt (layA_len l wide high u) (layA_bd HY.out.1 HY.out.2.1 HY.out.2.2 u) (by omega)
      clear ho hkp hgl
      repeat (first | (go_at_call 40; refine CC.out.mono ?_; rintro e w5 ⟨rfl, o5, b5⟩; dsimp only) | go_values | go_skip | go_guarded | go_step | go_upon)
      exact ⟨⟨u + 1, hlt, by go_num, by rw [layA]; exact o5, But.onto HK.out b5 HG.out.2⟩, by simp [intOf]; omega⟩
    · have hue : u = l.length := by omega
      subst hue
      clear ho hkp
      repeat (first | go_values | go_skip | go_guarded | go_step | go_upon)
      go_returns
      exact ⟨_, rfl, (HO.out.mono HG.out.2 (Nat.le_refl _)).low, HK.out⟩

end Go.Proofs.Ytaofilinejanjaa
